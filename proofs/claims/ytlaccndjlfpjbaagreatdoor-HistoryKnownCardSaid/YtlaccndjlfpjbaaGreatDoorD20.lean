/-
  The program's history: Copy.
-/
import Derived.Shelf.SlMaps.Clone
import Derived.Test.YtlaccndjlfpjbaaGreatDoorD19
import Derived.Test.YtlaccndjlfpjbaaGreatDoorD18
set_option linter.unusedSimpArgs false
set_option linter.unusedVariables false
namespace Go.Proofs.YtlaccndjlfpjbaaGreatDoor
open Go.RowKit Go.Maps
theorem evsC_one : ∀ (l : EvL), (∀ q ∈ l, q.2.1.oneCell' = true ∧ q.2.2.oneCell' = true) → (evsC l).all (·.oneCell') = true
  | [], _ => rfl
  | q :: r, h => by
    have h1 := h q (by simp)
    show ((evC q.1 q.2.1 q.2.2).toList ++ evsC r).all (·.oneCell') = true
    rw [List.all_append, evC_one q.1 h1.1 h1.2, evsC_one r (fun z hz => h z (by simp [hz]))]
    rfl
section
variable {w : World} {p mb n : Nat} {g : Cfg} {on : Bool} {op : EvL} {la : Int} {ap : List Mic} {O : List Nat}
theorem HPast.one (h : HPast w p mb n g on op la ap O) : (pastL g on op la mb).toArray.all (·.oneCell') = true := by
  have h1 := evsC_one op (fun q hq => by
    obtain ⟨c, hc, rfl⟩ := List.mem_iff_getElem.1 hq
    have h2 := h.evs c hc
    exact ⟨h2.2.1.mics.one, by rw [h2.2.2.1]; rfl⟩)
  rw [← Array.all_toList]
  show (cfgC g ++ ([Value.bool on] ++ (evsC op ++ [Value.int .i64 la, Value.map (some mb)]))).all (·.oneCell') = true
  rw [List.all_append, List.all_append, List.all_append, h1]
  rfl
end
section
variable {ops : Array Oper} {rest : List Oper} {a : Act} {w : World} {Q : Exit → Act → World → Prop} {dst : Option Tmp} {ty : TypeId} {pos : String} {after : Array Edge} {x y : Operand} {p : Nat} {cs old : Array Value} {t : TypeId} {fr : Nat × Nat}
end
set_option maxHeartbeats 8000000
set_option maxRecDepth 100000
end Go.Proofs.YtlaccndjlfpjbaaGreatDoor
/-
  Several automata side by side.
-/
namespace Go.Proofs.YtlaccndjlfpjbaaGreatDoor
open Go.RowKit Go.Maps
/-- An automaton: where it lies, and what it took. -/
structure Aid where
  A : Nat
  p : Nat
  mb : Nat
  n : Nat
  O : List Nat
  L : List Ev
def Aid.foot (x : Aid) : List Nat := x.A :: x.p :: x.mb :: x.O
def Aid.is (w : World) (x : Aid) : Prop := HAuto w x.A x.p x.mb x.n x.L x.O
def Aid.off (x y : Aid) : Prop := x.p ∉ y.foot ∧ x.mb ∉ y.foot
structure Autos (w0 wr : World) (l : List Aid) : Prop where
  is : ∀ i (hi : i < l.length), (l[i]).is wr
  lo : ∀ i (hi : i < l.length), ∀ q ∈ (l[i]).foot, w0.heap.size ≤ q
  off : ∀ i j (hi : i < l.length) (hj : j < l.length), i ≠ j → (l[i]).off l[j]
  kp : Keeps [] w0 wr
theorem Aid.lt {w : World} {x : Aid} (h : x.is w) : ∀ q ∈ x.foot, q < w.heap.size := by
  intro q hq
  obtain ⟨l1, l2, l3⟩ := HAuto.lt h
  have h4 := HAuto.oz h
  simp only [Aid.foot, List.mem_cons] at hq
  rcases hq with rfl | rfl | rfl | hq
  · exact l1
  · exact l2
  · exact l3
  · exact h4 q hq
theorem Aid.keeps {w w' : World} {x y : Aid} (h : y.is w) (hk : Keeps [x.p, x.mb] w w') (ho : x.off y) : y.is w' := by
  have hF : ∀ q ∈ y.foot, q ∉ [x.p, x.mb] := fun q hq hf => by
    have : q = x.p ∨ q = x.mb := by simpa using hf
    rcases this with rfl | rfl
    · exact ho.1 hq
    · exact ho.2 hq
  exact HAuto.keeps h hk (hF _ (by simp [Aid.foot])) (hF _ (by simp [Aid.foot])) (hF _ (by simp [Aid.foot])) (fun q hq => hF q (by simp [Aid.foot, hq]))
theorem Autos.new {w0 wr w' : World} {l : List Aid} (h : Autos w0 wr l) (hk : Keeps [] wr w') : Autos w0 w' l :=
  ⟨fun i hi => HAuto.new (h.is i hi) hk, h.lo, h.off, h.kp.trans hk (FSub.refl _ _)⟩
theorem Autos.step {w0 wr w' : World} {l : List Aid} (h : Autos w0 wr l) (i : Nat) (hi : i < l.length) {x : Ev} {e : Ending} (hs : StepPost wr (l[i]).A (l[i]).p (l[i]).mb (l[i]).n (l[i]).L (l[i]).O x e w') :
    e = .returned (.int .i64 (hErr opChk mayOf (l[i]).L x)) ∧ ∃ n' O', n' ≤ (l[i]).n + 8 ∧ Autos w0 w' (l.set i { l[i] with n := n', O := O', L := hNext opChk mayOf (l[i]).L x }) := by
  obtain ⟨he, n', O', h1, hk, hf, hn⟩ := hs
  have hnew : ∀ q ∈ ({ l[i] with n := n', O := O', L := hNext opChk mayOf (l[i]).L x } : Aid).foot, q ∈ (l[i]).foot ∨ wr.heap.size ≤ q := by
    intro q hq
    simp only [Aid.foot, List.mem_cons] at hq ⊢
    rcases hq with rfl | rfl | rfl | hq
    · exact .inl (.inl rfl)
    · exact .inl (.inr (.inl rfl))
    · exact .inl (.inr (.inr (.inl rfl)))
    · exact (hf q hq).imp (fun h => .inr (.inr (.inr h))) id
  refine ⟨he, n', O', hn, ⟨fun j hj => ?_, fun j hj q hq => ?_, fun j k hj hk2 hne => ?_, h.kp.trans hk (fun q hq => .inr ?_)⟩⟩
  · rw [List.length_set] at hj
    by_cases hij : i = j
    · subst hij
      rw [List.getElem_set_self]
      exact h1
    · rw [List.getElem_set_ne hij]
      exact Aid.keeps (h.is j hj) hk (h.off i j hi hj hij)
  · rw [List.length_set] at hj
    by_cases hij : i = j
    · subst hij
      rw [List.getElem_set_self] at hq
      exact (hnew q hq).elim (h.lo i hj q) (fun h2 => Nat.le_trans h.kp.size h2)
    · rw [List.getElem_set_ne hij] at hq
      exact h.lo j hj q hq
  · rw [List.length_set] at hj hk2
    by_cases hij : i = j
    · subst hij
      rw [List.getElem_set_self, List.getElem_set_ne hne]
      exact h.off i k hj hk2 hne
    · rw [List.getElem_set_ne hij]
      by_cases hik : i = k
      · subst hik
        rw [List.getElem_set_self]
        have ho := h.off j i hj hk2 hne
        have hl := Aid.lt (h.is j hj)
        exact ⟨fun hq => (hnew _ hq).elim ho.1 (fun h2 => by have := hl (l[j]).p (by simp [Aid.foot]); omega), fun hq => (hnew _ hq).elim ho.2 (fun h2 => by have := hl (l[j]).mb (by simp [Aid.foot]); omega)⟩
      · rw [List.getElem_set_ne hik]
        exact h.off j k hj hk2 hne
  · have hqq : q = (l[i]).p ∨ q = (l[i]).mb := by simpa using hq
    rcases hqq with rfl | rfl
    · exact h.lo i hi _ (by simp [Aid.foot])
    · exact h.lo i hi _ (by simp [Aid.foot])
/-- One more automaton, in new blocks. -/
theorem Autos.more {w0 wr w' : World} {l : List Aid} (h : Autos w0 wr l) {z : Aid} (hk : Keeps [] wr w') (hz : z.is w') (h1 : wr.heap.size ≤ z.A) (h2 : wr.heap.size ≤ z.p) (h3 : wr.heap.size ≤ z.mb) (hO : ∀ q ∈ z.O, q < wr.heap.size ∧ w0.heap.size ≤ q ∧ ∀ i (hi : i < l.length), q ≠ (l[i]).p ∧ q ≠ (l[i]).mb) : Autos w0 w' (l ++ [z]) := by
  have hs := h.kp.size
  refine ⟨fun i hi => ?_, fun i hi q hq => ?_, fun i j hi hj hne => ?_, h.kp.trans hk (FSub.refl _ _)⟩
  · rw [List.length_append, List.length_singleton] at hi
    by_cases hil : i < l.length
    · rw [List.getElem_append_left hil]; exact HAuto.new (h.is i hil) hk
    · obtain rfl : i = l.length := by omega
      simpa using hz
  · rw [List.length_append, List.length_singleton] at hi
    by_cases hil : i < l.length
    · rw [List.getElem_append_left hil] at hq; exact h.lo i hil q hq
    · obtain rfl : i = l.length := by omega
      have hq2 : q ∈ z.foot := by simpa using hq
      simp only [Aid.foot, List.mem_cons] at hq2
      rcases hq2 with rfl | rfl | rfl | hq2
      · omega
      · omega
      · omega
      · exact (hO q hq2).2.1
  · rw [List.length_append, List.length_singleton] at hi hj
    by_cases hil : i < l.length
    · rw [List.getElem_append_left hil]
      have hl := Aid.lt (h.is i hil)
      have lp := hl (l[i]).p (by simp [Aid.foot]); have lm := hl (l[i]).mb (by simp [Aid.foot])
      by_cases hjl : j < l.length
      · rw [List.getElem_append_left hjl]; exact h.off i j hil hjl hne
      · obtain rfl : j = l.length := by omega
        have e : (l ++ [z])[l.length]'(by simp) = z := by simp
        rw [e]
        constructor
        · intro hq
          simp only [Aid.foot, List.mem_cons] at hq
          rcases hq with hq | hq | hq | hq
          · omega
          · omega
          · omega
          · exact ((hO _ hq).2.2 i hil).1 rfl
        · intro hq
          simp only [Aid.foot, List.mem_cons] at hq
          rcases hq with hq | hq | hq | hq
          · omega
          · omega
          · omega
          · exact ((hO _ hq).2.2 i hil).2 rfl
    · obtain rfl : i = l.length := by omega
      have hjl : j < l.length := by omega
      have e : (l ++ [z])[l.length]'(by simp) = z := by simp
      rw [e, List.getElem_append_left hjl]
      have hl := Aid.lt (h.is j hjl)
      exact ⟨fun hq => by have := hl _ hq; omega, fun hq => by have := hl _ hq; omega⟩
theorem hOpenH_any {w : World} {a p mb n : Nat} {L : List Ev} {O : List Nat} (hA : HAuto w a p mb n L O) : Calls Tryz.prog 21 #[.pointer (some ⟨a, 0, none⟩)] w fun e w' => e = .returned (.int .i64 (hOpenN L)) ∧ w' = w := by
  obtain ⟨g, on, op, la, ap, hA, hS⟩ := hA
  exact hOpen_any hA hS
end Go.Proofs.YtlaccndjlfpjbaaGreatDoor
/-
  HistoryKnown: what is answered.
-/
namespace Go.Proofs.YtlaccndjlfpjbaaGreatDoor
open Go.RowKit Go.Maps
def hAllC : List Ev → List Ev → List Ev
  | L, [] => L
  | L, x :: r => hAllC (if hErrC L x = 0 then L ++ [x] else L) r
theorem hAll_c : ∀ (l L : List Ev), (∀ x ∈ l, evGood x = true) → hAll opChk mayOf L l = hAllC L l
  | [], _, _ => rfl
  | x :: r, L, h => by
    have he := hErr_c (L := L) (h x (by simp))
    show hAll opChk mayOf (hNext opChk mayOf L x) r = hAllC _ r
    rw [hAll_c r _ (fun y hy => h y (by simp [hy]))]
    unfold hNext
    rw [he]
def kPut : Mic := ⟨false, 0, 7⟩
def kGet : Mic := ⟨true, 0, 0⟩
def kCommit : Ev := { evZero with k := 6, id := 1 }
def kFull : Ev := { evZero with k := 6, id := 1, r := [[]] }
def kLoop : List Ev := [invE 0 5 1 0, invE 0 6 1 0, invE 1 5 1 0, invE 1 6 4 0, invE 1 6 2 1, retE 0 6 1 0, retE 0 5 0 0, retE 0 5 1 0, plainE 4 1 6]
def kLoopW : List Int := [0, 9, 8, 10, 0, 7, 10, 0, 0]
def kL2 : List Ev := [cfgE 0, invE 0 5 1 0, invE 1 6 2 1, retE 0 5 1 0, plainE 4 1 6]
def kTx : List Ev := [cfgE 4, begE 0 1 [kPut, kGet], begE 0 1 [kPut, kPut], begE 0 1 [kGet, kPut], begE 1 2 [kPut], kCommit, kFull, begE 1 2 [kGet, kGet], plainE 7 1 2, plainE 7 1 2, invE 0 9 1 0]
def kTxW : List Int := [0, 10, 8, 0, 8, 10, 0, 0, 0, 7, 10]
def kLk : List Ev := [cfgE 3, invE 0 1 10 0, invE 1 1 10 0]
theorem kLoop_good : ∀ x ∈ kLoop, evGood x = true := by
  intro x hx
  simp only [kLoop, List.mem_cons, List.not_mem_nil, or_false] at hx
  rcases hx with rfl | rfl | rfl | rfl | rfl | rfl | rfl | rfl | rfl <;> exact good_of rfl (by decide) rfl rfl
theorem kTx_good : ∀ x ∈ kTx, evGood x = true := by
  intro x hx
  simp only [kTx, List.mem_cons, List.not_mem_nil, or_false] at hx
  rcases hx with rfl | rfl | rfl | rfl | rfl | rfl | rfl | rfl | rfl | rfl | rfl <;> exact good_of rfl (by decide) rfl rfl
theorem kLk_good : ∀ x ∈ kLk, evGood x = true := by
  intro x hx
  simp only [kLk, List.mem_cons, List.not_mem_nil, or_false] at hx
  rcases hx with rfl | rfl | rfl <;> exact good_of rfl (by decide) rfl rfl
theorem inv_good (c i f v : Int) (h : c < 16) (h2 : evFits (invE c i f v) = true) : evGood (invE c i f v) = true := good_of rfl h h2 rfl
theorem kLoop_ans : hAns [cfgE 0] kLoop = kLoopW := by rw [hAns_c _ _ kLoop_good]; kernel_rfl
theorem kLoop_all : hAll opChk mayOf [cfgE 0] kLoop = kL2 := by rw [hAll_c _ _ kLoop_good]; kernel_rfl
theorem kTx_ans : hAns [] kTx = kTxW := by rw [hAns_c _ _ kTx_good]; kernel_rfl
theorem k_e1 : hErr opChk mayOf [] (invE 0 5 1 0) = 11 := by rw [hErr_c (inv_good _ _ _ _ (by decide) rfl)]; kernel_rfl
theorem k_e2 : hErr opChk mayOf [] (cfgE 0) = 0 := by rw [hErr_c (good_of rfl (by decide) rfl rfl)]; kernel_rfl
theorem k_e3 : hErr opChk mayOf [cfgE 0] (begE 0 1 [kGet]) = 10 := by rw [hErr_c (good_of rfl (by decide) rfl rfl)]; kernel_rfl
theorem k_e4 : hErr opChk mayOf kL2 (invE 1 7 1 0) = 0 := by rw [hErr_c (inv_good _ _ _ _ (by decide) rfl)]; kernel_rfl
theorem k_n1 : hNext opChk mayOf [] (invE 0 5 1 0) = [] := hNext_no _ _ (by rw [k_e1]; decide)
theorem k_n2 : hNext opChk mayOf [] (cfgE 0) = [cfgE 0] := hNext_yes _ _ k_e2
theorem k_n3 : hNext opChk mayOf [cfgE 0] (begE 0 1 [kGet]) = [cfgE 0] := hNext_no _ _ (by rw [k_e3]; decide)
theorem k_n4 : hNext opChk mayOf kL2 (invE 1 7 1 0) = kL2 ++ [invE 1 7 1 0] := hNext_yes _ _ k_e4
theorem k_open2 : hOpenN kL2 = 0 := by kernel_rfl
theorem k_last2 : hMax kL2.tail = 6 := by kernel_rfl
theorem k_open3 : hOpenN (kL2 ++ [invE 1 7 1 0]) = 1 := by kernel_rfl
theorem k_lk : hRun [] kLk = (2, 8) := by
  have a1 : hErr opChk mayOf [] (cfgE 3) = 0 := by rw [hErr_c (kLk_good _ (by simp [kLk]))]; kernel_rfl
  have a2 : hErr opChk mayOf [cfgE 3] (invE 0 1 10 0) = 0 := by rw [hErr_c (kLk_good _ (by simp [kLk]))]; kernel_rfl
  have a3 : hErr opChk mayOf [cfgE 3, invE 0 1 10 0] (invE 1 1 10 0) = 8 := by rw [hErr_c (kLk_good _ (by simp [kLk]))]; kernel_rfl
  simp [hRun, kLk, a1, a2, a3]
theorem kMic_in : kPut.In ∧ kGet.In := ⟨⟨by decide, by decide, by decide, by decide⟩, ⟨by decide, by decide, by decide, by decide⟩⟩
theorem begE_in (c i : Int) (l : List Mic) (hc : 0 ≤ c ∧ c < 256) (hi : 0 ≤ i ∧ i < 65536) (hl : ∀ m ∈ l, m.In) : (begE c i l).In :=
  { evZero_in with k0 := (by decide : (0 : Int) ≤ 5), k1 := (by decide : (5 : Int) < 256), c0 := hc.1, c1 := hc.2, i0 := hi.1, i1 := hi.2, t := hl }
theorem plainE_in (k c i : Int) (hk : 0 ≤ k ∧ k < 256) (hc : 0 ≤ c ∧ c < 256) (hi : 0 ≤ i ∧ i < 65536) : (plainE k c i).In :=
  { evZero_in with k0 := hk.1, k1 := hk.2, c0 := hc.1, c1 := hc.2, i0 := hi.1, i1 := hi.2 }
theorem kLoop_in : ∀ x ∈ kLoop, x.In := by
  intro x hx
  simp only [kLoop, List.mem_cons, List.not_mem_nil, or_false] at hx
  rcases hx with rfl | rfl | rfl | rfl | rfl | rfl | rfl | rfl | rfl
  all_goals first
    | exact plainE_in _ _ _ (by decide) (by decide) (by decide)
    | exact retE_in _ _ _ _ (by decide) (by decide) (by decide) (by decide)
    | exact invE_in _ _ _ _ (by decide) (by decide) (by decide) (by decide)
theorem kLk_in : ∀ x ∈ kLk, x.In := by
  intro x hx
  simp only [kLk, List.mem_cons, List.not_mem_nil, or_false] at hx
  rcases hx with rfl | rfl | rfl
  · exact cfgE_in 3 (by decide)
  · exact invE_in _ _ _ _ (by decide) (by decide) (by decide) (by decide)
  · exact invE_in _ _ _ _ (by decide) (by decide) (by decide) (by decide)
theorem kCommit_in : kCommit.In := { evZero_in with k0 := (by decide : (0 : Int) ≤ 6), k1 := (by decide : (6 : Int) < 256), i0 := (by decide : (0 : Int) ≤ 1), i1 := (by decide : (1 : Int) < 65536) }
theorem kFull_in : kFull.In := { evZero_in with k0 := (by decide : (0 : Int) ≤ 6), k1 := (by decide : (6 : Int) < 256), i0 := (by decide : (0 : Int) ≤ 1), i1 := (by decide : (1 : Int) < 65536), r := (by intro z hz; simp [kFull] at hz; subst hz; intro j; simp) }
theorem kTx_in : ∀ x ∈ kTx, x.In := by
  have hm : ∀ l : List Mic, (∀ m ∈ l, m = kPut ∨ m = kGet) → ∀ m ∈ l, m.In := fun l h m hm => by rcases h m hm with rfl | rfl; exact kMic_in.1; exact kMic_in.2
  intro x hx
  simp only [kTx, List.mem_cons, List.not_mem_nil, or_false] at hx
  rcases hx with rfl | rfl | rfl | rfl | rfl | rfl | rfl | rfl | rfl | rfl | rfl
  all_goals first
    | exact kCommit_in
    | exact kFull_in
    | exact plainE_in _ _ _ (by decide) (by decide) (by decide)
    | exact invE_in _ _ _ _ (by decide) (by decide) (by decide) (by decide)
    | exact cfgE_in 4 (by decide)
    | exact begE_in _ _ _ (by decide) (by decide) (hm _ (by simp))
end Go.Proofs.YtlaccndjlfpjbaaGreatDoor
