/-
  The program's history: Copy.
-/
import Derived.Shelf.SlMaps.Clone
import Derived.Test.YtlaccndjlfpjbaaGreatDoorC18
import Derived.Test.YtlaccndjlfpjbaaGreatDoorC09
set_option linter.unusedSimpArgs false
set_option linter.unusedVariables false
namespace Go.Proofs.YtlaccndjlfpjbaaGreatDoor
open Go.RowKit Go.Maps
theorem evsC_one : ∀ (l : EvL), (∀ q ∈ l, q.2.1.oneCell' = true ∧ q.2.2.oneCell' = true) → (evsC l).all (·.oneCell') = true
  | [], _ => rfl
  | q :: r, h => by
    have h1 := h q (by simp)
    show ((evC q.1 q.2.1 q.2.2).toList ++ evsC r).all (·.oneCell') = true
    rw [List.all_append, evC_one q.1 h1.1 h1.2, evsC_one r (fun z hz => h z (by simp [hz]))]
    rfl
section
variable {w : World} {p mb n : Nat} {g : Cfg} {on : Bool} {op : EvL} {la : Int} {ap : List Mic} {O : List Nat}
theorem HPast.one (h : HPast w p mb n g on op la ap O) : (pastL g on op la mb).toArray.all (·.oneCell') = true := by
  have h1 := evsC_one op (fun q hq => by
    obtain ⟨c, hc, rfl⟩ := List.mem_iff_getElem.1 hq
    have h2 := h.evs c hc
    exact ⟨h2.2.1.mics.one, by rw [h2.2.2.1]; rfl⟩)
  rw [← Array.all_toList]
  show (cfgC g ++ ([Value.bool on] ++ (evsC op ++ [Value.int .i64 la, Value.map (some mb)]))).all (·.oneCell') = true
  rw [List.all_append, List.all_append, List.all_append, h1]
  rfl
end
theorem past_info : (Tryz.prog.info? 73).map (·.size) = some 314 := by kernel_rfl
section
variable {ops : Array Oper} {rest : List Oper} {a : Act} {w : World} {Q : Exit → Act → World → Prop} {dst : Option Tmp} {ty : TypeId} {pos : String} {after : Array Edge} {x y : Operand} {p : Nat} {cs old : Array Value} {t : TypeId} {fr : Nat × Nat}
theorem wpList_load_past (hx : a.eval x = .pointer (some ⟨p, 0, none⟩)) (hg : w.heap[p]? = some (.cells cs t fr)) (hs : cs.size = 314) (h : wpList Tryz.prog ops Q rest (a.put dst (.agg cs)) w) :
    wpList Tryz.prog ops Q ({ dst := dst, op := .load 73 x, type := ty, pos := pos, after := after, guard := none } :: rest) a w :=
  wpList_load_row rfl 73 x rfl p hx t cs fr _ hg Tryz.underlying73 rfl (by rw [hs]; exact past_info) h
theorem wpList_put_past (hx : a.eval x = .pointer (some ⟨p, 0, none⟩)) (hy : a.eval y = .agg cs) (hg : w.heap[p]? = some (.cells old t (0, 0))) (hs : old.size = 314 ∧ cs.size = 314) (h1 : cs.all (·.oneCell') = true)
    (h : ∀ W, W.heap[p]? = some (.cells cs t (0, 0)) → Keeps [p] w W → wpList Tryz.prog ops Q rest (a.put dst undef) W) :
    wpList Tryz.prog ops Q ({ dst := dst, op := .store 73 x y, type := ty, pos := pos, after := after, guard := none } :: rest) a w :=
  wpList_store_row rfl 73 x y rfl p cs hx hy t old hg (by rw [hs.2]; exact past_info) (by rw [hs.1, hs.2]) h1 (h _ (setRow_heap w p old cs t (0, 0) hg) ((Keeps.refl [p] w).setRow p cs (.inl (by simp))))
end
set_option maxHeartbeats 8000000
set_option maxRecDepth 100000
theorem clone_any (w : World) {b n : Nat} {ap : List Mic} (h : MapAt w b n ap) :
    Calls Tryz.prog 48 #[.map (some b)] w fun e w' => e = .returned (.map (some w.heap.size)) ∧ MapAt w' w.heap.size n ap ∧ Keeps [] w w' ∧ w.heap.size < w'.heap.size := by
  obtain ⟨D, ⟨es, clock, hb, hF⟩, hD⟩ := h
  have hq := fun w => run_eql_map_nil_sl (P := Tryz.prog) w 71 _ _ (some b) Tryz.underlying71
  have HF := Lib.hid hF; have HD := Lib.hid hD
  clear hF hD
  go_enter Tryz.func48, Tryz.ntmps48
  go_wp2
  rw [run_callFunc_extern Tryz.func61 (by kernel_rfl) (by kernel_rfl) (by kernel_rfl) (e := Extern.MapsClone.clone) (by kernel_rfl), run_maps_clone_sl w 71 hb]
  simp only [Result.andThen]
  rw [Oper.upon_value]
  go_wp2
  rw [run_typeAssert_map_sl _ 71 20 _ _ _ Tryz.underlying71]
  simp only [Result.andThen]
  rw [Oper.upon_value]
  go_wp2
  go_ret
  exact ⟨rfl, ⟨D, ⟨es, clock, heap_alloc_new w _, HF.out⟩, HD.out⟩, (Keeps.refl [] w).alloc _, by simp⟩
theorem pastCopy_any (w : World) {p mb n : Nat} {g : Cfg} {on : Bool} {op : EvL} {la : Int} {ap : List Mic} {O : List Nat} (hP : HPast w p mb n g on op la ap O) :
    Calls Tryz.prog 37 #[.pointer (some ⟨p, 0, none⟩)] w fun e w' => ∃ p' mb', e = .returned (.pointer (some ⟨p', 0, none⟩)) ∧ HPast w' p' mb' n g on op la ap O ∧ Keeps [] w w' ∧ w.heap.size ≤ p' ∧ w.heap.size ≤ mb' ∧ p' < w'.heap.size ∧ mb' < w'.heap.size := by
  have hk0 := (Keeps.refl [] w).alloc (.cells Tryz.zeroCells73 73)
  have hZ := heap_alloc_new w (.cells Tryz.zeroCells73 73)
  have hP0 := hP.new hk0
  have HZ := Lib.hid hZ; have HP0 := Lib.hid hP0; have HP := Lib.hid hP; have HK0 := Lib.hid hk0
  have HSZ := Lib.hid (show (pastL g on op la mb).toArray.size = 314 from pastL_len hP.len)
  have hsz0 : Tryz.zeroCells73.size = 314 := by kernel_rfl
  have HS0 := Lib.hid hsz0
  have HONE := Lib.hid hP.one
  have HPH := Lib.hid hP.heap
  clear hk0 hZ hP0 hP hsz0
  go_enter Tryz.func37, Tryz.ntmps37
  go_wp2_with (first
    | ((with_reducible refine wpList_load_past ?_ HPH.out HSZ.out ?_); exact rfl)
    | ((with_reducible refine wpList_put_past ?_ ?_ HZ.out ⟨HS0.out, HSZ.out⟩ HONE.out ?_); exact rfl; exact rfl))
  intro W hb hk
  have hkW : Keeps [] w W := HK0.out.trans hk (fun q hq => .inr (by simp at hq; omega))
  have HKW := Lib.hid hkW
  have hPW := HP.out.new hkW
  have HPW := Lib.hid hPW
  have cm := past_mb hPW.len hPW.heap
  have hlw := lt_of_block hb
  have HB := Lib.hid hb
  have hpz := lt_of_block HP.out.heap
  have hmz := HP.out.map.lt
  obtain ⟨q, hq⟩ : ∃ q, q = w.heap.size := ⟨_, rfl⟩
  rw [← hq] at HB hlw hpz hmz ⊢
  have HQ := Lib.hid (show w.heap.size ≤ q from Nat.le_of_eq hq.symm)
  clear hq hb hk hkW hPW HZ HP0 HK0 HSZ HS0 HONE HPH
  go_wp2_with fail
  refine (clone_any W HPW.out.map).mono ?_; rintro e W2 ⟨rfl, hM2, hk2, hz2⟩
  have hB2 := hk2.heap HB.out (by simp)
  have HM2 := Lib.hid hM2; have HK2 := Lib.hid (HKW.out.trans hk2 (FSub.refl _ _)); have HP2 := Lib.hid (HPW.out.new hk2)
  have f1 : W2.cell? ⟨q, 313, none⟩ = some (.map (some mb)) := past_mb HP2.out.len hB2
  have f2 : W2.frozen? ⟨q, 313, none⟩ = false := past_thaw hB2 313
  have HB3 := Lib.hid (past_put_mb HP2.out.len hB2 W.heap.size)
  have HK3 := Lib.hid ((Keeps.refl [q] W2).setCell ⟨q, 313, none⟩ (.map (some W.heap.size)) (.inl (by simp)))
  have HZ2 := Lib.hid hz2
  have HWL := Lib.hid HKW.out.size
  clear hM2 hk2 hB2 hz2 cm HB HKW
  go_wp2_with fail
  have h := HP2.out
  have hq2 : q < W2.heap.size := Nat.lt_trans hlw HZ2.out
  have HFIN := Lib.hid (show HPast (W2.setCell ⟨q, 313, none⟩ (.map (some W.heap.size))) q W.heap.size n g on op la ap O from
    ⟨HB3.out, h.len, HM2.out.keeps HK3.out (by simp; omega), fun c hc => ⟨(h.evs c hc).1, (h.evs c hc).2.1.keeps HK3.out (fun z hz hf => by
      simp at hf
      have := HP.out.oz z hz
      have := HQ.out
      omega), (h.evs c hc).2.2⟩, by omega, fun hz => by have := HP.out.oz q hz; have := HQ.out; omega, fun hz => by have := HP.out.oz _ hz; have := HWL.out; omega, fun z hz => by
      have := h.oz z hz
      exact Nat.lt_of_lt_of_le this HK3.out.size⟩)
  have HKF := Lib.hid (HK2.out.trans HK3.out (fun z hz => .inr (by simp at hz; rw [hz]; exact HQ.out)))
  have HZF := Lib.hid HK3.out.size
  clear h
  go_ret
  exact ⟨q, W.heap.size, rfl, HFIN.out, HKF.out, HQ.out, HWL.out, Nat.lt_of_lt_of_le hq2 HZF.out, Nat.lt_of_lt_of_le HZ2.out HZF.out⟩
theorem hCopy_any (w : World) {a p mb n : Nat} {L : List Ev} {O : List Nat} (hA : HAuto w a p mb n L O) :
    Calls Tryz.prog 25 #[.pointer (some ⟨a, 0, none⟩)] w fun e w' => ∃ a' p' mb', e = .returned (.pointer (some ⟨a', 0, none⟩)) ∧ HAuto w' a' p' mb' n L O ∧ Keeps [] w w' ∧ w.heap.size ≤ a' ∧ w.heap.size ≤ p' ∧ w.heap.size ≤ mb' := by
  obtain ⟨g, on, op, la, ap, hA, hS⟩ := hA
  have ca := hA.ptr
  have HM := Lib.hid (made_yes w a p ca)
  have HCP := Lib.hid (pastCopy_any w hA.past)
  have HOZ := Lib.hid hA.past.oz
  clear hA
  go_enter Tryz.func25, Tryz.ntmps25
  go_wp2_with fail
  refine (HM.out).mono ?_; rintro e w1 ⟨rfl, hw1⟩
  rw [hw1]
  clear hw1 HM
  go_wp2_with fail
  refine (HCP.out).mono ?_; rintro e w2 ⟨p', mb', rfl, hP2, hk2, h1, h2, h3, h4⟩
  have HP2 := Lib.hid hP2; have HK2 := Lib.hid hk2
  clear hP2 hk2 HCP ca
  go_wp2_with fail
  go_ret
  exact ⟨_, p', mb', rfl, ⟨g, on, op, la, ap, ⟨heap_alloc_new w2 _, HP2.out.new ((Keeps.refl [] _).alloc _), by omega, by omega, fun hq => by have := HOZ.out _ hq; have := HK2.out.size; omega⟩, hS⟩, HK2.out.alloc _, HK2.out.size, h1, h2⟩
end Go.Proofs.YtlaccndjlfpjbaaGreatDoor
/-
  Several automata side by side.
-/
namespace Go.Proofs.YtlaccndjlfpjbaaGreatDoor
open Go.RowKit Go.Maps
/-- An automaton: where it lies, and what it took. -/
structure Aid where
  A : Nat
  p : Nat
  mb : Nat
  n : Nat
  O : List Nat
  L : List Ev
def Aid.foot (x : Aid) : List Nat := x.A :: x.p :: x.mb :: x.O
def Aid.is (w : World) (x : Aid) : Prop := HAuto w x.A x.p x.mb x.n x.L x.O
def Aid.off (x y : Aid) : Prop := x.p ∉ y.foot ∧ x.mb ∉ y.foot
structure Autos (w0 wr : World) (l : List Aid) : Prop where
  is : ∀ i (hi : i < l.length), (l[i]).is wr
  lo : ∀ i (hi : i < l.length), ∀ q ∈ (l[i]).foot, w0.heap.size ≤ q
  off : ∀ i j (hi : i < l.length) (hj : j < l.length), i ≠ j → (l[i]).off l[j]
  kp : Keeps [] w0 wr
theorem Aid.lt {w : World} {x : Aid} (h : x.is w) : ∀ q ∈ x.foot, q < w.heap.size := by
  intro q hq
  obtain ⟨l1, l2, l3⟩ := HAuto.lt h
  have h4 := HAuto.oz h
  simp only [Aid.foot, List.mem_cons] at hq
  rcases hq with rfl | rfl | rfl | hq
  · exact l1
  · exact l2
  · exact l3
  · exact h4 q hq
theorem Aid.keeps {w w' : World} {x y : Aid} (h : y.is w) (hk : Keeps [x.p, x.mb] w w') (ho : x.off y) : y.is w' := by
  have hF : ∀ q ∈ y.foot, q ∉ [x.p, x.mb] := fun q hq hf => by
    have : q = x.p ∨ q = x.mb := by simpa using hf
    rcases this with rfl | rfl
    · exact ho.1 hq
    · exact ho.2 hq
  exact HAuto.keeps h hk (hF _ (by simp [Aid.foot])) (hF _ (by simp [Aid.foot])) (hF _ (by simp [Aid.foot])) (fun q hq => hF q (by simp [Aid.foot, hq]))
theorem Autos.new {w0 wr w' : World} {l : List Aid} (h : Autos w0 wr l) (hk : Keeps [] wr w') : Autos w0 w' l :=
  ⟨fun i hi => HAuto.new (h.is i hi) hk, h.lo, h.off, h.kp.trans hk (FSub.refl _ _)⟩
theorem Autos.step {w0 wr w' : World} {l : List Aid} (h : Autos w0 wr l) (i : Nat) (hi : i < l.length) {x : Ev} {e : Ending} (hs : StepPost wr (l[i]).A (l[i]).p (l[i]).mb (l[i]).n (l[i]).L (l[i]).O x e w') :
    e = .returned (.int .i64 (hErr opChk mayOf (l[i]).L x)) ∧ ∃ n' O', n' ≤ (l[i]).n + 8 ∧ Autos w0 w' (l.set i { l[i] with n := n', O := O', L := hNext opChk mayOf (l[i]).L x }) := by
  obtain ⟨he, n', O', h1, hk, hf, hn⟩ := hs
  have hnew : ∀ q ∈ ({ l[i] with n := n', O := O', L := hNext opChk mayOf (l[i]).L x } : Aid).foot, q ∈ (l[i]).foot ∨ wr.heap.size ≤ q := by
    intro q hq
    simp only [Aid.foot, List.mem_cons] at hq ⊢
    rcases hq with rfl | rfl | rfl | hq
    · exact .inl (.inl rfl)
    · exact .inl (.inr (.inl rfl))
    · exact .inl (.inr (.inr (.inl rfl)))
    · exact (hf q hq).imp (fun h => .inr (.inr (.inr h))) id
  refine ⟨he, n', O', hn, ⟨fun j hj => ?_, fun j hj q hq => ?_, fun j k hj hk2 hne => ?_, h.kp.trans hk (fun q hq => .inr ?_)⟩⟩
  · rw [List.length_set] at hj
    by_cases hij : i = j
    · subst hij
      rw [List.getElem_set_self]
      exact h1
    · rw [List.getElem_set_ne hij]
      exact Aid.keeps (h.is j hj) hk (h.off i j hi hj hij)
  · rw [List.length_set] at hj
    by_cases hij : i = j
    · subst hij
      rw [List.getElem_set_self] at hq
      exact (hnew q hq).elim (h.lo i hj q) (fun h2 => Nat.le_trans h.kp.size h2)
    · rw [List.getElem_set_ne hij] at hq
      exact h.lo j hj q hq
  · rw [List.length_set] at hj hk2
    by_cases hij : i = j
    · subst hij
      rw [List.getElem_set_self, List.getElem_set_ne hne]
      exact h.off i k hj hk2 hne
    · rw [List.getElem_set_ne hij]
      by_cases hik : i = k
      · subst hik
        rw [List.getElem_set_self]
        have ho := h.off j i hj hk2 hne
        have hl := Aid.lt (h.is j hj)
        exact ⟨fun hq => (hnew _ hq).elim ho.1 (fun h2 => by have := hl (l[j]).p (by simp [Aid.foot]); omega), fun hq => (hnew _ hq).elim ho.2 (fun h2 => by have := hl (l[j]).mb (by simp [Aid.foot]); omega)⟩
      · rw [List.getElem_set_ne hik]
        exact h.off j k hj hk2 hne
  · have hqq : q = (l[i]).p ∨ q = (l[i]).mb := by simpa using hq
    rcases hqq with rfl | rfl
    · exact h.lo i hi _ (by simp [Aid.foot])
    · exact h.lo i hi _ (by simp [Aid.foot])
/-- One more automaton, in new blocks. -/
theorem Autos.more {w0 wr w' : World} {l : List Aid} (h : Autos w0 wr l) {z : Aid} (hk : Keeps [] wr w') (hz : z.is w') (h1 : wr.heap.size ≤ z.A) (h2 : wr.heap.size ≤ z.p) (h3 : wr.heap.size ≤ z.mb) (hO : ∀ q ∈ z.O, q < wr.heap.size ∧ w0.heap.size ≤ q ∧ ∀ i (hi : i < l.length), q ≠ (l[i]).p ∧ q ≠ (l[i]).mb) : Autos w0 w' (l ++ [z]) := by
  have hs := h.kp.size
  refine ⟨fun i hi => ?_, fun i hi q hq => ?_, fun i j hi hj hne => ?_, h.kp.trans hk (FSub.refl _ _)⟩
  · rw [List.length_append, List.length_singleton] at hi
    by_cases hil : i < l.length
    · rw [List.getElem_append_left hil]; exact HAuto.new (h.is i hil) hk
    · obtain rfl : i = l.length := by omega
      simpa using hz
  · rw [List.length_append, List.length_singleton] at hi
    by_cases hil : i < l.length
    · rw [List.getElem_append_left hil] at hq; exact h.lo i hil q hq
    · obtain rfl : i = l.length := by omega
      have hq2 : q ∈ z.foot := by simpa using hq
      simp only [Aid.foot, List.mem_cons] at hq2
      rcases hq2 with rfl | rfl | rfl | hq2
      · omega
      · omega
      · omega
      · exact (hO q hq2).2.1
  · rw [List.length_append, List.length_singleton] at hi hj
    by_cases hil : i < l.length
    · rw [List.getElem_append_left hil]
      have hl := Aid.lt (h.is i hil)
      have lp := hl (l[i]).p (by simp [Aid.foot]); have lm := hl (l[i]).mb (by simp [Aid.foot])
      by_cases hjl : j < l.length
      · rw [List.getElem_append_left hjl]; exact h.off i j hil hjl hne
      · obtain rfl : j = l.length := by omega
        have e : (l ++ [z])[l.length]'(by simp) = z := by simp
        rw [e]
        constructor
        · intro hq
          simp only [Aid.foot, List.mem_cons] at hq
          rcases hq with hq | hq | hq | hq
          · omega
          · omega
          · omega
          · exact ((hO _ hq).2.2 i hil).1 rfl
        · intro hq
          simp only [Aid.foot, List.mem_cons] at hq
          rcases hq with hq | hq | hq | hq
          · omega
          · omega
          · omega
          · exact ((hO _ hq).2.2 i hil).2 rfl
    · obtain rfl : i = l.length := by omega
      have hjl : j < l.length := by omega
      have e : (l ++ [z])[l.length]'(by simp) = z := by simp
      rw [e, List.getElem_append_left hjl]
      have hl := Aid.lt (h.is j hjl)
      exact ⟨fun hq => by have := hl _ hq; omega, fun hq => by have := hl _ hq; omega⟩
theorem hOpenH_any {w : World} {a p mb n : Nat} {L : List Ev} {O : List Nat} (hA : HAuto w a p mb n L O) : Calls Tryz.prog 21 #[.pointer (some ⟨a, 0, none⟩)] w fun e w' => e = .returned (.int .i64 (hOpenN L)) ∧ w' = w := by
  obtain ⟨g, on, op, la, ap, hA, hS⟩ := hA
  exact hOpen_any hA hS
end Go.Proofs.YtlaccndjlfpjbaaGreatDoor
/-
  HistoryApart: its walk.
-/
namespace Go.Proofs.YtlaccndjlfpjbaaGreatDoor
open Go.RowKit Go.Maps
set_option maxRecDepth 100000 in
theorem wpList_build_evlG {ops : Array Oper} {rest : List Oper} {o : Oper} {a : Act} {w : World} {Q : Exit → Act → World → Prop} (hw : Region.wanted o (yielded ops a.tmps) = true) (n : Nat) (parts : Array (Nat × Operand)) (ho : o.op = .buildSlice 22 n parts) (L : EvL) (hn : L.length = n) (h0 : 0 < n) (h1 : n ≤ 1000)
    (hp : (parts.toList.map fun (i, x) => (i, a.eval x)) = ((L.map fun p => Value.agg (evC p.1 p.2.1 p.2.2)).zipIdx 0).map fun x => (x.2, x.1))
    (h : wpList Tryz.prog ops Q rest (a.put o.dst (.slice (some ⟨w.heap.size, 0, none⟩) n n)) (w.alloc (.cells (evsC L).toArray 42))) : wpList Tryz.prog ops Q (o :: rest) a w := by
  obtain ⟨i0, hi, hz0, hz1, hz2⟩ := info_parts Tryz.infoE
  refine wpList_step fun _ hK => ?_
  rw [if_pos hw]
  refine wp_buildSlice 22 42 n parts ho (evsC L).toArray i0 _ Tryz.underlying22 hi hz0 (by rw [hz1]; omega) (by rw [hz1]; omega) ?_ (hK _ _ h)
  rw [hz1, Array.toList_map, hp]
  have := Great.fill_whole (s := 19) (by decide) (L.map fun p => Value.agg (evC p.1 p.2.1 p.2.2)) ((Array.range (n * 19)).map ((Value.agg (evC evZero (.slice none 0 0) (.slice none 0 0))).cells[· % (Value.agg (evC evZero (.slice none 0 0) (.slice none 0 0))).cells.size]!))
    (by intro v hv; obtain ⟨p, _, rfl⟩ := List.mem_map.1 hv; rfl) (by simp [hn])
  rw [this]
  congr 2
  clear this hp h hn hK
  induction L with
  | nil => rfl
  | cons p r ih => simp only [List.map_cons, List.flatMap_cons, ih]; rfl
theorem wpList_load_evMG {ops : Array Oper} {rest : List Oper} {a : Act} {w : World} {Q : Exit → Act → World → Prop} {dst : Option Tmp} {ty : TypeId} {pos : String} {after : Array Edge} {gd : Option (Nat × Bool)} {x : Operand} {g o : Nat} {e : Ev} {tx rd : Value}
    (hw : Region.wanted { dst := dst, op := .load 42 x, type := ty, pos := pos, after := after, guard := gd } (yielded ops a.tmps) = true)
    (hx : a.eval x = .pointer (some ⟨g, o, none⟩)) (hr : w.rangeAt g o (evC e tx rd).toList) (h : wpList Tryz.prog ops Q rest (a.put dst (.agg (evC e tx rd))) w) :
    wpList Tryz.prog ops Q ({ dst := dst, op := .load 42 x, type := ty, pos := pos, after := after, guard := gd } :: rest) a w :=
  wpList_step fun _ hK => by
    rw [if_pos hw]
    exact wp_load_mid 42 x rfl g o hx _ _ hr Tryz.underlying42 rfl (by kernel_rfl) (by rw [Array.toArray_toList]; exact hK _ _ h)
set_option maxHeartbeats 8000000
set_option maxRecDepth 100000
theorem HistoryApart_any (w : World) (hG : Glob4 w) (l : List Ev) (hi : ∀ x ∈ l, x.In) (v : Value) {N : Nat} (hv : Evs N w v l) (hN : N ≤ w.heap.size) (x : Ev) (hx : x.In) (tx rd : Value) (htx : EvAt N w tx rd x) (y : Ev) (hy : y.In) (ty ry : Value) (hty : EvAt N w ty ry y) :
    Calls Tryz.prog 7 #[v, .agg (evC x tx rd), .agg (evC y ty ry)] w fun e w' => e = .returned (.bool true) ∧ Keeps [] w w' := by
  have hk0 := ((Keeps.refl [] w).alloc (.cells (evC x tx rd) 42)).alloc (.cells (evC y ty ry) 42)
  have hX := heap_alloc_lt (o := .cells (evC y ty ry) 42) (heap_alloc_new w (.cells (evC x tx rd) 42))
  have hY := heap_alloc_new (w.alloc (.cells (evC x tx rd) 42)) (.cells (evC y ty ry) 42)
  have hs : (w.alloc (.cells (evC x tx rd) 42)).heap.size = w.heap.size + 1 := by simp
  rw [hs] at hY
  have hv0 := hv.new hk0 hN
  have hN0 : N ≤ ((w.alloc (.cells (evC x tx rd) 42)).alloc (.cells (evC y ty ry) 42)).heap.size := Nat.le_trans hN hk0.size
  have HFEW := Lib.hid (few7_any _ l v hv0 hN0)
  have HTX := Lib.hid (htx.new hk0 hN); have HTY := Lib.hid (hty.new hk0 hN)
  have HX := Lib.hid hX; have HY := Lib.hid hY; have HK0 := Lib.hid hk0; have HN0 := Lib.hid hN0
  have HG0 := Lib.hid (hG.new hk0); have HL := Lib.hid hi; have HXI := Lib.hid hx; have HYI := Lib.hid hy
  obtain ⟨a, c, rfl, hc, hm, hrow⟩ := hv0
  have HR := Lib.hid hrow
  have hnn : (l.length : Int) ≤ 9223372036854775807 := by omega
  clear hk0 hX hY hs hv hN0 htx hty hG hi hx hy hrow hm
  generalize hn2 : l.length = n at *
  have HN2 := Lib.hid hn2
  clear hn2
  go_enter Tryz.func7, Tryz.ntmps7
  go_wp2_with fail
  generalize (w.alloc (.cells (evC x tx rd) 42)).alloc (.cells (evC y ty ry) 42) = W0 at *
  generalize w.heap.size = B1 at *
  refine (HFEW.out).mono ?_; rintro e w1 ⟨B, rfl, hB, hw1⟩
  rw [hw1]
  clear hw1 HFEW
  cases B with
  | false =>
    clear hB HR
    have HAW := Lib.hid (awake7_any W0 (HG0.out.new (Keeps.refl _ _)))
    go_wp2_with fail
    refine (HAW.out).mono ?_; rintro e w9 ⟨rfl, hk9⟩
    have HK9 := Lib.hid (HK0.out.trans (Keeps.refl _ _) (FSub.refl _ _))
    go_wp2_with fail
    go_ret
    exact ⟨rfl, HK9.out.trans hk9 (FSub.refl _ _)⟩
  | true =>
    have h120 : n ≤ 120 := by have := hB rfl; rw [HN2.out] at this; exact this
    clear hB
    go_wp2_with (first
      | ((with_reducible refine wpList_load_evG ?_ ?_ HX.out ?_ ?_); exact rfl; exact rfl; exact rfl)
      | ((with_reducible refine wpList_load_evG ?_ ?_ HY.out ?_ ?_); exact rfl; exact rfl; exact rfl)
      | (refine wpList_build_evlG (by rfl) 2 _ rfl [(x, tx, rd), (y, ty, ry)] rfl (by decide) (by decide) rfl ?_))
    have hEv : Evs (W0.heap.size + 1) (W0.alloc (.cells (evsC [(x, tx, rd), (y, ty, ry)]).toArray 42)) (.slice (some ⟨W0.heap.size, 0, none⟩) 2 2) [x, y] := by
      have hkA := (Keeps.refl [] W0).alloc (.cells (evsC [(x, tx, rd), (y, ty, ry)]).toArray 42)
      refine evs_lit (L := [(x, tx, rd), (y, ty, ry)]) (heap_alloc_new W0 _) (by omega) (fun q hq => ?_) (by simp)
      have hq2 : q = (x, tx, rd) ∨ q = (y, ty, ry) := by simpa using hq
      rcases hq2 with rfl | rfl
      · exact (HTX.out.new hkA HN0.out).up7 (by have := HN0.out; omega)
      · exact (HTY.out.new hkA HN0.out).up7 (by have := HN0.out; omega)
    have hF2 := few7_any _ [x, y] _ hEv (by simp)
    have hkA := (Keeps.refl [] W0).alloc (.cells (evsC [(x, tx, rd), (y, ty, ry)]).toArray 42)
    clear hEv
    generalize W0.alloc _ = W1 at *
    have HKA := Lib.hid hkA
    clear hkA
    refine hF2.mono ?_; rintro e w2 ⟨B2, rfl, -, hw2⟩
    rw [hw2]
    clear hw2 hF2
    cases B2 with
    | false =>
      clear HR
      have HAW := Lib.hid (awake7_any W1 (HG0.out.new (HKA.out)))
      go_wp2_with fail
      refine (HAW.out).mono ?_; rintro e w9 ⟨rfl, hk9⟩
      have HK9 := Lib.hid (HK0.out.trans (HKA.out) (FSub.refl _ _))
      go_wp2_with fail
      go_ret
      exact ⟨rfl, HK9.out.trans hk9 (FSub.refl _ _)⟩
    | true =>
      go_wp2_with fail
      refine (hNew_any W1).mono ?_; rintro e w3 ⟨A1, p1, m1, rfl, hA1, hk3, b1, b2, b3⟩
      go_wp2_with fail
      refine (hNew_any w3).mono ?_; rintro e w4 ⟨A2, p2, m2, rfl, hA2, hk4, c1, c2, c3⟩
      have HAU := Lib.hid (show Autos W1 w4 [⟨A1, p1, m1, 0, [], hAll opChk mayOf [] (l.take 0)⟩, ⟨A2, p2, m2, 0, [], hAll opChk mayOf [] (l.take 0)⟩] from by
        have h0 : Autos W1 W1 [] := ⟨fun i hi => by simp at hi, fun i hi => by simp at hi, fun i j hi => by simp at hi, Keeps.refl _ _⟩
        have h1 := h0.more (z := ⟨A1, p1, m1, 0, [], hAll opChk mayOf [] (l.take 0)⟩) hk3 (by simpa [Aid.is, hAll] using hA1) b1 b2 b3 (by simp)
        exact h1.more (z := ⟨A2, p2, m2, 0, [], hAll opChk mayOf [] (l.take 0)⟩) hk4 (by simpa [Aid.is, hAll] using hA2) c1 c2 c3 (by simp))
      clear hA1 hk3 b1 b2 b3 hA2 hk4 c1 c2 c3
      go_wp2_with fail
      go_loopw [6, 9] (fun q i wr => ∃ (k n1 n2 : Nat) (O1 O2 : List Nat), q = .bool false ∧ i = .int .i64 k ∧ k ≤ n ∧ n1 ≤ 8 * k ∧ n2 ≤ 8 * k ∧ Autos W1 wr [⟨A1, p1, m1, n1, O1, hAll opChk mayOf [] (l.take k)⟩, ⟨A2, p2, m2, n2, O2, hAll opChk mayOf [] (l.take k)⟩]) (fun _ i _ => n - (intOf i).toNat)
      case atStart => exact ⟨0, 0, 0, [], [], rfl, rfl, by omega, by omega, by omega, HAU.out⟩
      case round =>
        clear HAU
        obtain ⟨k, n1, n2, O1, O2, rfl, rfl, hk, hn1, hn2, hau⟩ := hrel
        have HAU := Lib.hid hau
        have HKR := Lib.hid (HKA.out.trans hau.kp (FSub.refl _ _))
        clear hau
        by_cases hlt : k < n
        · have hlt2 : k < l.length := by have := HN2.out; omega
          obtain ⟨bk, o, rfl, hbk, hcell⟩ := HR.out (fun e => by rw [e] at hlt2; simp at hlt2)
          obtain ⟨tz, rz, ht, hr⟩ := hcell k hlt
          have hmem : l.getD k evZero ∈ l := getD_in evZero hlt2
          have htk := take_nextD evZero hlt2
          have hzi := HL.out _ hmem
          have hok : HistOk (hAll opChk mayOf [] (l.take k)) := hAll_ok HistOk.nil _ (fun x hx => HL.out x (List.mem_of_mem_take hx))
          have hnx : hNext opChk mayOf (hAll opChk mayOf [] (l.take k)) (l.getD k evZero) = hAll opChk mayOf [] (l.take (k + 1)) := by rw [htk, hAll_snoc]
          have hsame := HKR.out.same HN0.out (by simp)
          have HR2 := Lib.hid (rangeAt_same hr hsame hbk)
          have HTZ := Lib.hid (ht.same hsame)
          have HR0 := Lib.hid hr; have HTZ0 := Lib.hid ht
          have HNX := Lib.hid hnx; have HOK := Lib.hid hok; have HZI := Lib.hid hzi
          clear hcell ht hr hmem htk hok hnx hzi hsame
          generalize hAll opChk mayOf [] (l.take k) = L at *
          generalize l.getD k evZero = z at *
          have hNr := Nat.le_trans HN0.out HKR.out.size
          have HST := Lib.hid (hStep_any wr (HG0.out.new HKR.out) (HAU.out.is 0 (by simp)) HOK.out (by show n1 ≤ 900000; omega) z HZI.out tz rz HTZ.out hNr)
          go_wp2_with ((with_reducible refine wpList_load_evM ?_ HR2.out ?_); exact rfl)
          refine (HST.out).mono ?_; intro e w5 hst
          obtain ⟨he, n1', O1', hn1', hau'⟩ := HAU.out.step 0 (by simp) hst
          have he' : e = .returned (.int .i64 (hErr opChk mayOf L z)) := he
          have hau2 : Autos W1 w5 [⟨A1, p1, m1, n1', O1', hNext opChk mayOf L z⟩, ⟨A2, p2, m2, n2, O2, L⟩] := hau'
          have hn1q : n1' ≤ n1 + 8 := hn1'
          subst he'
          have HAU2 := Lib.hid hau2
          clear HST hst hau' hn1' he hau2 HAU hNr
          have HK5 := Lib.hid (HKA.out.trans HAU2.out.kp (FSub.refl _ _))
          by_cases hz : hErr opChk mayOf L z = 0
          · have hsm := HK5.out.same HN0.out (by simp)
            have HR5 := Lib.hid (rangeAt_same HR0.out hsm hbk)
            have HST2 := Lib.hid (hStep_any w5 (HG0.out.new HK5.out) (HAU2.out.is 1 (by simp)) HOK.out (by show n2 ≤ 900000; omega) z HZI.out tz rz (HTZ0.out.same hsm) (Nat.le_trans HN0.out HK5.out.size))
            have HZ := Lib.hid hz
            rw [hz]
            clear hz hsm HR0 HTZ0 HR2 HTZ
            go_wp2_with ((with_reducible refine wpList_load_evMG ?_ ?_ HR5.out ?_); exact rfl; exact rfl)
            refine (HST2.out).mono ?_; intro e w6 hst
            obtain ⟨he, n2', O2', hn2', hau'⟩ := HAU2.out.step 1 (by simp) hst
            have he' : e = .returned (.int .i64 (hErr opChk mayOf L z)) := he
            have hau3 : Autos W1 w6 [⟨A1, p1, m1, n1', O1', hNext opChk mayOf L z⟩, ⟨A2, p2, m2, n2', O2', hNext opChk mayOf L z⟩] := hau'
            have hn2q : n2' ≤ n2 + 8 := hn2'
            rw [HZ.out] at he'
            rw [HNX.out] at hau3
            subst he'
            have HAU3 := Lib.hid hau3
            clear HST2 hst hau' hn2' he hau3 HAU2 HR5
            go_wp2_with fail
            go_roundw
            case rel => exact ⟨k + 1, n1', n2', O1', O2', rfl, by go_num, by omega, by omega, by omega, HAU3.out⟩
            case measure => simp [intOf]; omega
          · have hnn2 : hNext opChk mayOf L z = L := hNext_no _ _ hz
            have hnx := HNX.out
            rw [hnn2] at HAU2 hnx
            rw [hnx] at HAU2
            have hze : (hErr opChk mayOf L z == 0) = false := by simpa using hz
            generalize hErr opChk mayOf L z = E at *
            clear hz hnx hnn2 HR2 HTZ
            go_wp2_with fail
            go_roundw
            case rel => exact ⟨k + 1, n1', n2, O1', O2, rfl, by go_num, by omega, by omega, by omega, HAU2.out⟩
            case measure => simp [intOf]; omega
        · obtain rfl : k = n := by omega
          have hok : HistOk (hAll opChk mayOf [] (l.take k)) := hAll_ok HistOk.nil _ (fun x hx => HL.out x (List.mem_of_mem_take hx))
          have HOK := Lib.hid hok
          clear hok HR
          generalize hAll opChk mayOf [] (l.take k) = L at *
          have HCP := Lib.hid (hCopy_any wr (HAU.out.is 0 (by simp)))
          go_wp2_with fail
          refine (HCP.out).mono ?_; rintro e w5 ⟨A3, p3, m3, rfl, hA3, hk5, c1, c2, c3⟩
          have hau3 : Autos W1 w5 ([⟨A1, p1, m1, n1, O1, L⟩, ⟨A2, p2, m2, n2, O2, L⟩] ++ [⟨A3, p3, m3, n1, O1, L⟩]) := HAU.out.more (z := ⟨A3, p3, m3, n1, O1, L⟩) hk5 hA3 c1 c2 c3 (fun q hq => by
            have hq0 : q ∈ O1 := hq
            have hqf : q ∈ (⟨A1, p1, m1, n1, O1, L⟩ : Aid).foot := by simp [Aid.foot, hq0]
            refine ⟨Aid.lt (HAU.out.is 0 (by simp)) q hqf, HAU.out.lo 0 (by simp) q hqf, fun i hi => ?_⟩
            have hi2 : i = 0 ∨ i = 1 := by have : i < 2 := hi; omega
            rcases hi2 with rfl | rfl
            · obtain ⟨_, _, _, _, _, hA, _⟩ := HAU.out.is 0 (by simp)
              exact ⟨fun e => hA.past.pO (by rw [← e]; exact hq0), fun e => hA.past.mO (by rw [← e]; exact hq0)⟩
            · have ho := HAU.out.off 1 0 (by simp) (by simp) (by decide)
              exact ⟨fun e => ho.1 (by rw [← e]; exact hqf), fun e => ho.2 (by rw [← e]; exact hqf)⟩)
          have HA3 := Lib.hid (show Autos W1 w5 [⟨A1, p1, m1, n1, O1, L⟩, ⟨A2, p2, m2, n2, O2, L⟩, ⟨A3, p3, m3, n1, O1, L⟩] from hau3)
          have HK5 := Lib.hid (HKA.out.trans hau3.kp (FSub.refl _ _))
          clear hA3 hk5 c1 c2 c3 hau3 HCP HAU HKR
          obtain ⟨S, hS⟩ : ∃ S : World → Prop, S = fun y => Keeps [] W0 y := ⟨_, rfl⟩
          have HSE := Lib.hid hS
          have HSX := Lib.hid (fun (w' : World) (h : S w') => show w'.rangeAt B1 0 (evC x tx rd).toList from by rw [hS] at h; exact fun i u hi => by have h2 := h.heap HX.out (by simp); simp only [World.cell?, h2, Nat.zero_add]; simpa using hi)
          have HSY := Lib.hid (fun (w' : World) (h : S w') => show w'.rangeAt (B1 + 1) 0 (evC y ty ry).toList from by rw [hS] at h; exact fun i u hi => by have h2 := h.heap HY.out (by simp); simp only [World.cell?, h2, Nat.zero_add]; simpa using hi)
          have hSD : S w5.drew := by rw [hS]; exact HK5.out.drew
          clear hS
          go_wp2_with fail
          refine wp_region_noPanic ?_
          refine wp_region_held_drew (S := S) (by kernel_rfl) hSD (fun hHeld => ?_)
          apply wpAnyH_take (i := 0)
          · simp only [List.getElem?_toArray]; rfl
          · kernel_rfl
          · kernel_rfl
          · kernel_rfl
          · exact fun _ _ _ h => h
          · exact Or.inl ⟨by rfl, by intro w hSw; go_simp; try with_reducible rfl⟩
          · assumption
          try simp only [Act.put, List.setIfInBounds_toArray, List.set_cons_zero, List.set_cons_succ]
          apply wpAnyH_take (i := 1)
          · simp only [List.getElem?_toArray]; rfl
          · kernel_rfl
          · kernel_rfl
          · kernel_rfl
          · exact fun _ _ _ h => h
          · exact yields_ev_mid (by rfl) _ rfl B1 0 rfl HSX.out
          · assumption
          try simp only [Act.put, List.setIfInBounds_toArray, List.set_cons_zero, List.set_cons_succ]
          apply wpAnyH_take (i := 3)
          · simp only [List.getElem?_toArray]; rfl
          · kernel_rfl
          · kernel_rfl
          · kernel_rfl
          · exact fun _ _ _ h => h
          · exact Or.inl ⟨by rfl, by intro w hSw; go_simp; try with_reducible rfl⟩
          · assumption
          try simp only [Act.put, List.setIfInBounds_toArray, List.set_cons_zero, List.set_cons_succ]
          apply wpAnyH_take (i := 4)
          · simp only [List.getElem?_toArray]; rfl
          · kernel_rfl
          · kernel_rfl
          · kernel_rfl
          · exact fun _ _ _ h => h
          · exact yields_ev_mid (by rfl) _ rfl B1 0 rfl HSX.out
          · assumption
          try simp only [Act.put, List.setIfInBounds_toArray, List.set_cons_zero, List.set_cons_succ]
          apply wpAnyH_ready (rs := [2])
          · kernel_rfl
          · simp
          apply AllReadyH.cons (hs := AllReadyH.nil)
          · simp only [List.getElem?_toArray]; rfl
          intro K hK
          rw [if_pos (by rfl)]
          go_simp
          refine (hStep_any w5.drew (HG0.out.new HK5.out.drew) ((HA3.out.new (Keeps.refl [] w5).drew).is 0 (by simp)) HOK.out (by show n1 ≤ 900000; omega) x HXI.out tx rd (HTX.out.new HK5.out.drew HN0.out) (Nat.le_trans HN0.out HK5.out.drew.size)).mono ?_; intro e w6 hst
          obtain ⟨he, n1', O1', hn1', hau'⟩ := (HA3.out.new (Keeps.refl [] w5).drew).step 0 (by simp) hst
          have he' : e = .returned (.int .i64 (hErr opChk mayOf L x)) := he
          have hau4 : Autos W1 w6 [⟨A1, p1, m1, n1', O1', hNext opChk mayOf L x⟩, ⟨A2, p2, m2, n2, O2, L⟩, ⟨A3, p3, m3, n1, O1, L⟩] := hau'
          have hn1q : n1' ≤ n1 + 8 := hn1'
          have HA4 := Lib.hid hau4
          have HK6 := Lib.hid (HKA.out.trans hau4.kp (FSub.refl _ _))
          subst he'
          clear hst hau' hn1' he hau4 HA3
          go_wp2_with fail
          refine hK.out _ _ ?_ (fun hHeld => ?_)
          · exact (by rw [HSE.out]; exact HK6.out)
          clear hK K
          try simp only [Act.put, List.setIfInBounds_toArray, List.set_cons_zero, List.set_cons_succ]
          apply wpAnyH_ready (rs := [5])
          · kernel_rfl
          · simp
          apply AllReadyH.cons (hs := AllReadyH.nil)
          · simp only [List.getElem?_toArray]; rfl
          intro K hK
          rw [if_pos (by rfl)]
          go_simp
          refine (hStep_any w6 (HG0.out.new HK6.out) (HA4.out.is 1 (by simp)) HOK.out (by show n2 ≤ 900000; omega) x HXI.out tx rd (HTX.out.new HK6.out HN0.out) (Nat.le_trans HN0.out HK6.out.size)).mono ?_; intro e w7 hst
          obtain ⟨he, n2', O2', hn2', hau'⟩ := HA4.out.step 1 (by simp) hst
          have he' : e = .returned (.int .i64 (hErr opChk mayOf L x)) := he
          have hau5 : Autos W1 w7 [⟨A1, p1, m1, n1', O1', hNext opChk mayOf L x⟩, ⟨A2, p2, m2, n2', O2', hNext opChk mayOf L x⟩, ⟨A3, p3, m3, n1, O1, L⟩] := hau'
          have hn2q : n2' ≤ n2 + 8 := hn2'
          have HA5 := Lib.hid hau5
          have HK7 := Lib.hid (HKA.out.trans hau5.kp (FSub.refl _ _))
          subst he'
          clear hst hau' hn2' he hau5 HA4
          go_wp2_with fail
          refine hK.out _ _ ?_ (fun hHeld => ?_)
          · exact (by rw [HSE.out]; exact HK7.out)
          clear hK K
          try simp only [Act.put, List.setIfInBounds_toArray, List.set_cons_zero, List.set_cons_succ]
          apply wpAnyH_take (i := 6)
          · simp only [List.getElem?_toArray]; rfl
          · kernel_rfl
          · kernel_rfl
          · kernel_rfl
          · exact fun _ _ _ h => h
          · exact Or.inl ⟨by rfl, by intro w hSw; go_simp; try with_reducible rfl⟩
          · assumption
          try simp only [Act.put, List.setIfInBounds_toArray, List.set_cons_zero, List.set_cons_succ]
          apply wpAnyH_take (i := 7)
          · simp only [List.getElem?_toArray]; rfl
          · kernel_rfl
          · kernel_rfl
          · kernel_rfl
          · exact fun _ _ _ h => h
          · exact Or.inl ⟨by rfl, by intro w hSw; go_simp; try with_reducible rfl⟩
          · assumption
          try simp only [Act.put, List.setIfInBounds_toArray, List.set_cons_zero, List.set_cons_succ]
          refine wpAnyH_done (by kernel_rfl) ?_ _
          refine NoPanic.normal ?_
          have HOK2 := Lib.hid (HOK.out.next HXI.out)
          have hSD2 : S w7.drew := by rw [HSE.out]; exact HK7.out.drew
          clear hHeld hSD
          go_wp2_with fail
          refine wp_region_noPanic ?_
          refine wp_region_held_drew (S := S) (by kernel_rfl) hSD2 (fun hHeld => ?_)
          apply wpAnyH_take (i := 0)
          · simp only [List.getElem?_toArray]; rfl
          · kernel_rfl
          · kernel_rfl
          · kernel_rfl
          · exact fun _ _ _ h => h
          · exact Or.inl ⟨by rfl, by intro w hSw; go_simp; try with_reducible rfl⟩
          · assumption
          try simp only [Act.put, List.setIfInBounds_toArray, List.set_cons_zero, List.set_cons_succ]
          apply wpAnyH_take (i := 1)
          · simp only [List.getElem?_toArray]; rfl
          · kernel_rfl
          · kernel_rfl
          · kernel_rfl
          · exact fun _ _ _ h => h
          · exact yields_ev_mid (by rfl) _ rfl (B1 + 1) 0 rfl HSY.out
          · assumption
          try simp only [Act.put, List.setIfInBounds_toArray, List.set_cons_zero, List.set_cons_succ]
          apply wpAnyH_take (i := 3)
          · simp only [List.getElem?_toArray]; rfl
          · kernel_rfl
          · kernel_rfl
          · kernel_rfl
          · exact fun _ _ _ h => h
          · exact Or.inl ⟨by rfl, by intro w hSw; go_simp; try with_reducible rfl⟩
          · assumption
          try simp only [Act.put, List.setIfInBounds_toArray, List.set_cons_zero, List.set_cons_succ]
          apply wpAnyH_take (i := 4)
          · simp only [List.getElem?_toArray]; rfl
          · kernel_rfl
          · kernel_rfl
          · kernel_rfl
          · exact fun _ _ _ h => h
          · exact yields_ev_mid (by rfl) _ rfl (B1 + 1) 0 rfl HSY.out
          · assumption
          try simp only [Act.put, List.setIfInBounds_toArray, List.set_cons_zero, List.set_cons_succ]
          apply wpAnyH_ready (rs := [2])
          · kernel_rfl
          · simp
          apply AllReadyH.cons (hs := AllReadyH.nil)
          · simp only [List.getElem?_toArray]; rfl
          intro K hK
          rw [if_pos (by rfl)]
          go_simp
          refine (hStep_any w7.drew (HG0.out.new HK7.out.drew) ((HA5.out.new (Keeps.refl [] w7).drew).is 0 (by simp)) HOK2.out (by show n1' ≤ 900000; omega) y HYI.out ty ry (HTY.out.new HK7.out.drew HN0.out) (Nat.le_trans HN0.out HK7.out.drew.size)).mono ?_; intro e w8 hst
          obtain ⟨he, n1'', O1'', hn1', hau'⟩ := (HA5.out.new (Keeps.refl [] w7).drew).step 0 (by simp) hst
          have he' : e = .returned (.int .i64 (hErr opChk mayOf (hNext opChk mayOf L x) y)) := he
          have hau6 : Autos W1 w8 [⟨A1, p1, m1, n1'', O1'', hNext opChk mayOf (hNext opChk mayOf L x) y⟩, ⟨A2, p2, m2, n2', O2', hNext opChk mayOf L x⟩, ⟨A3, p3, m3, n1, O1, L⟩] := hau'
          have HA6 := Lib.hid hau6
          have HK8 := Lib.hid (HKA.out.trans hau6.kp (FSub.refl _ _))
          subst he'
          clear hst hau' hn1' he hau6 HA5
          go_wp2_with fail
          refine hK.out _ _ ?_ (fun hHeld => ?_)
          · exact (by rw [HSE.out]; exact HK8.out)
          clear hK K
          try simp only [Act.put, List.setIfInBounds_toArray, List.set_cons_zero, List.set_cons_succ]
          apply wpAnyH_ready (rs := [5])
          · kernel_rfl
          · simp
          apply AllReadyH.cons (hs := AllReadyH.nil)
          · simp only [List.getElem?_toArray]; rfl
          intro K hK
          rw [if_pos (by rfl)]
          go_simp
          refine (hStep_any w8 (HG0.out.new HK8.out) (HA6.out.is 1 (by simp)) HOK2.out (by show n2' ≤ 900000; omega) y HYI.out ty ry (HTY.out.new HK8.out HN0.out) (Nat.le_trans HN0.out HK8.out.size)).mono ?_; intro e w9 hst
          obtain ⟨he, n2'', O2'', hn2', hau'⟩ := HA6.out.step 1 (by simp) hst
          have he' : e = .returned (.int .i64 (hErr opChk mayOf (hNext opChk mayOf L x) y)) := he
          have hau7 : Autos W1 w9 [⟨A1, p1, m1, n1'', O1'', hNext opChk mayOf (hNext opChk mayOf L x) y⟩, ⟨A2, p2, m2, n2'', O2'', hNext opChk mayOf (hNext opChk mayOf L x) y⟩, ⟨A3, p3, m3, n1, O1, L⟩] := hau'
          have HA7 := Lib.hid hau7
          have HK9 := Lib.hid (HKA.out.trans hau7.kp (FSub.refl _ _))
          subst he'
          clear hst hau' hn2' he hau7 HA6
          go_wp2_with fail
          refine hK.out _ _ ?_ (fun hHeld => ?_)
          · exact (by rw [HSE.out]; exact HK9.out)
          clear hK K
          try simp only [Act.put, List.setIfInBounds_toArray, List.set_cons_zero, List.set_cons_succ]
          apply wpAnyH_take (i := 6)
          · simp only [List.getElem?_toArray]; rfl
          · kernel_rfl
          · kernel_rfl
          · kernel_rfl
          · exact fun _ _ _ h => h
          · exact Or.inl ⟨by rfl, by intro w hSw; go_simp; try with_reducible rfl⟩
          · assumption
          try simp only [Act.put, List.setIfInBounds_toArray, List.set_cons_zero, List.set_cons_succ]
          apply wpAnyH_take (i := 7)
          · simp only [List.getElem?_toArray]; rfl
          · kernel_rfl
          · kernel_rfl
          · kernel_rfl
          · exact fun _ _ _ h => h
          · exact Or.inl ⟨by rfl, by intro w hSw; go_simp; try with_reducible rfl⟩
          · assumption
          try simp only [Act.put, List.setIfInBounds_toArray, List.set_cons_zero, List.set_cons_succ]
          refine wpAnyH_done (by kernel_rfl) ?_ _
          refine NoPanic.normal ?_
          clear hHeld hSD2 HSX HSY
          have HX9 := Lib.hid (HK9.out.heap HX.out (by simp)); have HY9 := Lib.hid (HK9.out.heap HY.out (by simp))
          obtain ⟨E, hE⟩ : ∃ E, E = hErr opChk mayOf L x := ⟨_, rfl⟩
          obtain ⟨F, hF⟩ : ∃ F, F = hErr opChk mayOf (hNext opChk mayOf L x) y := ⟨_, rfl⟩
          rw [← hE, ← hF]
          have HE := Lib.hid hE; have HF := Lib.hid hF
          clear hE hF
          have te : (E != E) = false := by simp
          have tf : (F != F) = false := by simp
          have x0 := ev_cell HX9.out 0 (evC_0 x tx rd); have y0 := ev_cell HY9.out 0 (evC_0 y ty ry)
          have x1 := ev_cell HX9.out 1 (evC_1 x tx rd); have y1 := ev_cell HY9.out 1 (evC_1 y ty ry)
          by_cases q0 : x.k = 2
          · rw [q0] at x0
            clear q0
            have HAW := Lib.hid (awake7_any w9 (HG0.out.new (HK9.out)))
            go_wp2_with fail
            refine (HAW.out).mono ?_; rintro e w9 ⟨rfl, hk9⟩
            have HK9 := Lib.hid (HK0.out.trans (HK9.out) (FSub.refl _ _))
            go_wp2_with fail
            go_ret
            exact ⟨rfl, HK9.out.trans hk9 (FSub.refl _ _)⟩
          · have t0 : (x.k != 2) = true := by simpa using q0
            by_cases q1 : x.k = 5
            · rw [q1] at x0
              clear q1
              have HAW := Lib.hid (awake7_any w9 (HG0.out.new (HK9.out)))
              go_wp2_with fail
              refine (HAW.out).mono ?_; rintro e w9 ⟨rfl, hk9⟩
              have HK9 := Lib.hid (HK0.out.trans (HK9.out) (FSub.refl _ _))
              go_wp2_with fail
              go_ret
              exact ⟨rfl, HK9.out.trans hk9 (FSub.refl _ _)⟩
            · have t1 : (x.k != 5) = true := by simpa using q1
              by_cases q2 : x.k = 1
              · rw [q2] at x0
                clear q2
                have HAW := Lib.hid (awake7_any w9 (HG0.out.new (HK9.out)))
                go_wp2_with fail
                refine (HAW.out).mono ?_; rintro e w9 ⟨rfl, hk9⟩
                have HK9 := Lib.hid (HK0.out.trans (HK9.out) (FSub.refl _ _))
                go_wp2_with fail
                go_ret
                exact ⟨rfl, HK9.out.trans hk9 (FSub.refl _ _)⟩
              · have t2 : (x.k != 1) = true := by simpa using q2
                by_cases q3 : y.k = 2
                · rw [q3] at y0
                  clear q3
                  have HAW := Lib.hid (awake7_any w9 (HG0.out.new (HK9.out)))
                  go_wp2_with fail
                  refine (HAW.out).mono ?_; rintro e w9 ⟨rfl, hk9⟩
                  have HK9 := Lib.hid (HK0.out.trans (HK9.out) (FSub.refl _ _))
                  go_wp2_with fail
                  go_ret
                  exact ⟨rfl, HK9.out.trans hk9 (FSub.refl _ _)⟩
                · have t3 : (y.k != 2) = true := by simpa using q3
                  by_cases q4 : y.k = 5
                  · rw [q4] at y0
                    clear q4
                    have HAW := Lib.hid (awake7_any w9 (HG0.out.new (HK9.out)))
                    go_wp2_with fail
                    refine (HAW.out).mono ?_; rintro e w9 ⟨rfl, hk9⟩
                    have HK9 := Lib.hid (HK0.out.trans (HK9.out) (FSub.refl _ _))
                    go_wp2_with fail
                    go_ret
                    exact ⟨rfl, HK9.out.trans hk9 (FSub.refl _ _)⟩
                  · have t4 : (y.k != 5) = true := by simpa using q4
                    by_cases q5 : y.k = 1
                    · rw [q5] at y0
                      clear q5
                      have HAW := Lib.hid (awake7_any w9 (HG0.out.new (HK9.out)))
                      go_wp2_with fail
                      refine (HAW.out).mono ?_; rintro e w9 ⟨rfl, hk9⟩
                      have HK9 := Lib.hid (HK0.out.trans (HK9.out) (FSub.refl _ _))
                      go_wp2_with fail
                      go_ret
                      exact ⟨rfl, HK9.out.trans hk9 (FSub.refl _ _)⟩
                    · have t5 : (y.k != 1) = true := by simpa using q5
                      have HEX := Lib.hid (show hEnds x from ⟨q2, q0, q1⟩); have HEY := Lib.hid (show hEnds y from ⟨q5, q3, q4⟩)
                      clear q0 q1 q2 q3 q4 q5
                      by_cases qc : x.c = y.c
                      · rw [qc] at x1
                        clear qc
                        have HAW := Lib.hid (awake7_any w9 (HG0.out.new (HK9.out)))
                        go_wp2_with fail
                        refine (HAW.out).mono ?_; rintro e w9 ⟨rfl, hk9⟩
                        have HK9 := Lib.hid (HK0.out.trans (HK9.out) (FSub.refl _ _))
                        go_wp2_with fail
                        go_ret
                        exact ⟨rfl, HK9.out.trans hk9 (FSub.refl _ _)⟩
                      · have tc : (x.c == y.c) = false := by simpa using qc
                        have HFE := Lib.hid (show hErr opChk mayOf L y = F by rw [HF.out]; exact (hErr_next opChk mayOf HEX.out HEY.out qc).symm)
                        have HEE := Lib.hid (show hErr opChk mayOf (hNext opChk mayOf L y) x = E by rw [HE.out]; exact hErr_next opChk mayOf HEY.out HEX.out (Ne.symm qc))
                        have HOP := Lib.hid (show hOpenN (hNext opChk mayOf (hNext opChk mayOf L y) x) = hOpenN (hNext opChk mayOf (hNext opChk mayOf L x) y) from (hOpenN_next opChk mayOf HEX.out HEY.out qc).symm)
                        have HST3 := Lib.hid (hStep_any w9 (HG0.out.new HK9.out) (HA7.out.is 2 (by simp)) HOK.out (by show n1 ≤ 900000; omega) y HYI.out ty ry (HTY.out.new HK9.out HN0.out) (Nat.le_trans HN0.out HK9.out.size))
                        have HOK3 := Lib.hid (HOK.out.next HYI.out)
                        have tf2 : (F == F) = true := by simp
                        have te2 : (E == E) = true := by simp
                        clear qc
                        go_wp2_with (first
                          | ((with_reducible refine wpList_load_ev ?_ HY9.out ?_ ?_); exact rfl; exact rfl)
                          | ((with_reducible refine wpList_load_evG ?_ ?_ HX9.out ?_ ?_); exact rfl; exact rfl; exact rfl)
                          | ((with_reducible refine wpList_load_evG ?_ ?_ HY9.out ?_ ?_); exact rfl; exact rfl; exact rfl))
                        refine (HST3.out).mono ?_; intro e w10 hst
                        obtain ⟨he, n3, O3, hn3, hau'⟩ := HA7.out.step 2 (by simp) hst
                        have he' : e = .returned (.int .i64 (hErr opChk mayOf L y)) := he
                        have hn3q : n3 ≤ n1 + 8 := hn3
                        have hau8 : Autos W1 w10 [⟨A1, p1, m1, n1'', O1'', hNext opChk mayOf (hNext opChk mayOf L x) y⟩, ⟨A2, p2, m2, n2'', O2'', hNext opChk mayOf (hNext opChk mayOf L x) y⟩, ⟨A3, p3, m3, n3, O3, hNext opChk mayOf L y⟩] := hau'
                        rw [HFE.out] at he'
                        subst he'
                        have HA8 := Lib.hid hau8
                        have HK10 := Lib.hid (HKA.out.trans hau8.kp (FSub.refl _ _))
                        clear HST3 hst he hn3 hau' hau8 HA7
                        have HX10 := Lib.hid (HK10.out.heap HX.out (by simp)); have HY10 := Lib.hid (HK10.out.heap HY.out (by simp))
                        have HST4 := Lib.hid (hStep_any w10 (HG0.out.new HK10.out) (HA8.out.is 2 (by simp)) HOK3.out (by show n3 ≤ 900000; omega) x HXI.out tx rd (HTX.out.new HK10.out HN0.out) (Nat.le_trans HN0.out HK10.out.size))
                        go_wp2_with (first
                          | ((with_reducible refine wpList_load_evG ?_ ?_ HX10.out ?_ ?_); exact rfl; exact rfl; exact rfl)
                          | ((with_reducible refine wpList_load_evG ?_ ?_ HY10.out ?_ ?_); exact rfl; exact rfl; exact rfl))
                        refine (HST4.out).mono ?_; intro e w11 hst
                        obtain ⟨he, n4, O4, hn4, hau'⟩ := HA8.out.step 2 (by simp) hst
                        have he' : e = .returned (.int .i64 (hErr opChk mayOf (hNext opChk mayOf L y) x)) := he
                        have hau9 : Autos W1 w11 [⟨A1, p1, m1, n1'', O1'', hNext opChk mayOf (hNext opChk mayOf L x) y⟩, ⟨A2, p2, m2, n2'', O2'', hNext opChk mayOf (hNext opChk mayOf L x) y⟩, ⟨A3, p3, m3, n4, O4, hNext opChk mayOf (hNext opChk mayOf L y) x⟩] := hau'
                        rw [HEE.out] at he'
                        subst he'
                        have hoc : Calls Tryz.prog 21 #[.pointer (some ⟨A3, 0, none⟩)] w11 fun e w' => e = .returned (.int .i64 (hOpenN (hNext opChk mayOf (hNext opChk mayOf L y) x))) ∧ w' = w11 := hOpenH_any (hau9.is 2 (by simp))
                        have hoa : Calls Tryz.prog 21 #[.pointer (some ⟨A1, 0, none⟩)] w11 fun e w' => e = .returned (.int .i64 (hOpenN (hNext opChk mayOf (hNext opChk mayOf L x) y))) ∧ w' = w11 := hOpenH_any (hau9.is 0 (by simp))
                        rw [HOP.out] at hoc
                        generalize hOpenN (hNext opChk mayOf (hNext opChk mayOf L x) y) = OP at *
                        have HOPC := Lib.hid hoc; have HOPA := Lib.hid hoa
                        have to2 : ((OP : Int) == (OP : Int)) = true := by simp
                        clear hoc hoa HOP
                        have HK11 := Lib.hid (HKA.out.trans hau9.kp (FSub.refl _ _))
                        clear HST4 hst he hn4 hau' hau9 HA8
                        go_wp2_with fail
                        refine (HOPC.out).mono ?_; rintro e w12 ⟨rfl, hw12⟩
                        rw [hw12]
                        clear hw12 HOPC
                        go_wp2_with fail
                        refine (HOPA.out).mono ?_; rintro e w12 ⟨rfl, hw12⟩
                        rw [hw12]
                        clear hw12 HOPA
                        have HAW := Lib.hid (awake7_any w11 (HG0.out.new (HK11.out)))
                        go_wp2_with fail
                        refine (HAW.out).mono ?_; rintro e w9 ⟨rfl, hk9⟩
                        have HK9 := Lib.hid (HK0.out.trans (HK11.out) (FSub.refl _ _))
                        go_wp2_with fail
                        go_ret
                        exact ⟨rfl, HK9.out.trans hk9 (FSub.refl _ _)⟩
end Go.Proofs.YtlaccndjlfpjbaaGreatDoor
