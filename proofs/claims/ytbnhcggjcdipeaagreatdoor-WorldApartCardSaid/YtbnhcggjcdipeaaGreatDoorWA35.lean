/-
  What the program's worlds must tell, over what its objects tell.
-/
import Derived.Test.YtbnhcggjcdipeaaGreatDoorWA25
import Derived.Test.YtbnhcggjcdipeaaGreatDoorWA33
set_option linter.unusedSimpArgs false
set_option linter.unusedVariables false
namespace Go.Proofs.YtbnhcggjcdipeaaGreatDoor
open Go.RowKit
set_option maxRecDepth 100000
/-- The program's World: eight cells, each an object. -/
def skW : SK := { T := 33, s := 8, d := _, und := Tryz.underlying33, row := rfl, size := by kernel_rfl }
def wdZ : List Value := [.nilIface, .nilIface, .nilIface, .nilIface, .nilIface, .nilIface, .nilIface, .nilIface]
abbrev wdZA : Array Value := #[.nilIface, .nilIface, .nilIface, .nilIface, .nilIface, .nilIface, .nilIface, .nilIface]
theorem wdZ_ok : skW.Ok wdZ := ⟨rfl, fun v hv => by
  simp only [wdZ, List.mem_cons, List.not_mem_nil, or_false, or_self] at hv
  subst hv; rfl⟩
/-! What is told of a world, or of none. -/
def oWM : Option Wd → Int
  | some W => W.m
  | none => 0
def oWB : Option Wd → List UInt8
  | some W => wdB W
  | none => []
def oWT : Option Wd → List UInt8
  | some W => wdT W
  | none => [45]
def oWX : Option Wd → Int → Opn → Option Wd × Ans × Int
  | some W, c, x => (some (wdX W c x).1, (wdX W c x).2.1, (wdX W c x).2.2)
  | none, _, _ => (none, ⟨0, 0⟩, 1)
/-- The listed objects' numbers. -/
def oWL : Option Wd → List Nat
  | some W => W.li.map (·.1)
  | none => []
def oWat : Option Wd → Int → Option Md
  | some W, o => if 7 < o then none else some (W.at o.toNat)
  | none, _ => none
def oWSame : Option Wd → Option Wd → Bool
  | some W, some V => (List.range 8).all fun o => decide ((W.at o).model = (V.at o).model ∧ mdB (W.at o) = mdB (V.at o))
  | none, none => true
  | _, _ => false
def oWNew (m : Int) : Option Wd := if m ≤ 3 then some (wd0 m) else none
def wUp (O : Option Wd) (k : Nat) : Prop := ∀ W, O = some W → W.upto k
/-- All blocks below n, but those of F, are as they were. -/
structure KeB (F : List Nat) (n : Nat) (w w' : World) : Prop where
  os : w'.os = w.os
  tape : w'.tape = w.tape
  output : w'.output = w.output
  size : w.heap.size ≤ w'.heap.size
  block : ∀ k, k < n → k ∉ F → w'.heap[k]? = w.heap[k]?
theorem KeB.trans {F : List Nat} {n : Nat} {a b c : World} (h : KeB F n a b) (k : KeB F n b c) : KeB F n a c :=
  ⟨k.os.trans h.os, k.tape.trans h.tape, k.output.trans h.output, Nat.le_trans h.size k.size, fun i hi hF => (k.block i hi hF).trans (h.block i hi hF)⟩
theorem Keeps.keB {F : List Nat} {n : Nat} {a b : World} (h : Keeps F a b) (hn : n ≤ a.heap.size) : KeB F n a b :=
  ⟨h.os, h.tape, h.output, h.size, fun k hk hF => h.block k (Nat.lt_of_lt_of_le hk hn) hF⟩
theorem KeB.more {F G : List Nat} {n : Nat} {a b : World} (h : KeB F n a b) (hG : ∀ g ∈ F, g ∈ G ∨ n ≤ g) : KeB G n a b :=
  ⟨h.os, h.tape, h.output, h.size, fun k hk hF => h.block k hk (fun hf => (hG k hf).elim hF (fun h => by omega))⟩
/-- What it may have turned, as a list. -/
def turned (F : List Nat) (n : Nat) (a : World) : List Nat := F ++ (List.range a.heap.size).filter (n ≤ ·)
theorem KeB.keeps {F : List Nat} {n : Nat} {a b : World} (h : KeB F n a b) : Keeps (turned F n a) a b :=
  ⟨h.os, h.tape, h.output, h.size, fun k hk hF => h.block k (by
    by_cases hn : k < n
    · exact hn
    · exact absurd (List.mem_append.2 (.inr (List.mem_filter.2 ⟨List.mem_range.2 hk, by simpa using hn⟩))) hF) (fun hf => hF (List.mem_append.2 (.inl hf)))⟩
theorem turned_not {F : List Nat} {n : Nat} {a : World} {q : Nat} (h : q < n) (hF : q ∉ F) : q ∉ turned F n a := fun hq => by
  rcases List.mem_append.1 hq with h1 | h1
  · exact hF h1
  · have := (List.mem_filter.1 h1).2
    simp at this
    omega
theorem KeB.heap {F : List Nat} {n : Nat} {a b : World} (h : KeB F n a b) {k : Nat} {o : Obj} (hv : a.heap[k]? = some o) (hk : k < n) (hF : k ∉ F) : b.heap[k]? = some o := (h.block k hk hF).trans hv
theorem KeB.same {F : List Nat} {n : Nat} {a b : World} (h : KeB F n a b) (hn : n = a.heap.size) : Keeps F a b :=
  ⟨h.os, h.tape, h.output, h.size, fun k hk hF => h.block k (by omega) hF⟩
/-- For the law of a range over a function. -/
theorem keB_b {F : List Nat} {n : Nat} (W : World) (l : Nat) (o o' : Obj) (hl : n ≤ l) : KeB F n W (W.putObj l o') :=
  ⟨(grownBy_putObj' W l o').os, (grownBy_putObj' W l o').tape, (grownBy_putObj' W l o').output, (grownBy_putObj' W l o').size, fun k hk _ => World.putObj_heap_other (by omega)⟩
variable {G : World → Prop}
/-- The program's world lies there. -/
def WoAt (R : MdProg G) (w : World) (st : Value) (O : Option Wd) : Prop :=
  ∃ A : List Value, st = .agg A.toArray ∧ skW.Ok A ∧ (∀ W, O = some W → W.In) ∧ ∀ o v, A[o]? = some v → R.At w (.agg #[v]) (O.map (·.at o))
def wFoot (R : MdProg G) : Value → List Nat
  | .agg a => a.toList.flatMap fun v => R.foot (.agg #[v])
  | _ => []
theorem wFoot_mem {R : MdProg G} {A : List Value} {o : Nat} {v : Value} (h : A[o]? = some v) : ∀ q ∈ R.foot (.agg #[v]), q ∈ wFoot R (.agg A.toArray) := fun q hq =>
  List.mem_flatMap.2 ⟨v, by simpa using List.mem_of_getElem? h, hq⟩
theorem wFoot_of {R : MdProg G} {A : List Value} {q : Nat} (h : q ∈ wFoot R (.agg A.toArray)) : ∃ (o : Nat) (v : Value), A[o]? = some v ∧ q ∈ R.foot (.agg #[v]) := by
  obtain ⟨v, hv, hq⟩ := List.mem_flatMap.1 h
  obtain ⟨o, ho, e⟩ := List.getElem_of_mem (show v ∈ A by simpa using hv)
  exact ⟨o, v, by rw [List.getElem?_eq_getElem ho, e], hq⟩
theorem WoAt.keep {R : MdProg G} {w w' : World} {F : List Nat} {st : Value} {O : Option Wd} (h : WoAt R w st O) (hk : Keeps F w w') (hF : ∀ q ∈ wFoot R st, q ∉ F) : WoAt R w' st O := by
  obtain ⟨A, rfl, h1, h2, h3⟩ := h
  exact ⟨A, rfl, h1, h2, fun o v hv => R.keep (h3 o v hv) hk (fun q hq => hF q (wFoot_mem hv q hq))⟩
theorem WoAt.new {R : MdProg G} {w w' : World} {st : Value} {O : Option Wd} (h : WoAt R w st O) (hk : Keeps [] w w') : WoAt R w' st O := h.keep hk (by simp)
theorem WoAt.put {R : MdProg G} {w w' : World} {st : Value} {O : Option Wd} (h : WoAt R w st O) {g : Nat} (hk : Keeps [g] w w') (hg : ∀ q ∈ wFoot R st, q ≠ g) : WoAt R w' st O := h.keep hk (fun q hq => by simpa using hg q hq)
theorem WoAt.old {R : MdProg G} {w : World} {st : Value} {O : Option Wd} (h : WoAt R w st O) : ∀ q ∈ wFoot R st, q < w.heap.size := fun q hq => by
  obtain ⟨A, rfl, h1, h2, h3⟩ := h
  obtain ⟨o, v, hv, hq⟩ := wFoot_of hq
  exact R.old (h3 o v hv) q hq
theorem WoAt.cells {R : MdProg G} {w : World} {st : Value} {O : Option Wd} (h : WoAt R w st O) : ∃ A : List Value, st = .agg A.toArray ∧ skW.Ok A := by
  obtain ⟨A, h0, h1, -⟩ := h
  exact ⟨A, h0, h1⟩
theorem WoAt.in_ {R : MdProg G} {w : World} {st : Value} {W : Wd} (h : WoAt R w st (some W)) : W.In := by
  obtain ⟨A, -, -, h2, -⟩ := h
  exact h2 W rfl
theorem WoAt.one {R : MdProg G} {w : World} {A : List Value} {O : Option Wd} (h : WoAt R w (.agg A.toArray) O) {o : Nat} (ho : o < 8) : ∃ v, A[o]? = some v ∧ v.oneCell' = true ∧ R.At w (.agg #[v]) (O.map (·.at o)) := by
  obtain ⟨B, e, h1, h2, h3⟩ := h
  obtain rfl : A = B := by simpa using e
  have hl : o < A.length := by rw [h1.1]; exact ho
  exact ⟨A[o], List.getElem?_eq_getElem hl, h1.2 _ (List.getElem_mem hl), h3 o _ (List.getElem?_eq_getElem hl)⟩
theorem WoAt.zero (R : MdProg G) (w : World) : WoAt R w (.agg wdZ.toArray) none := by
  refine ⟨wdZ, rfl, wdZ_ok, fun _ h => (by cases h), ?_⟩
  intro o v hv
  obtain ⟨ho, e⟩ := List.getElem?_eq_some_iff.1 hv
  have : v = .nilIface := by
    have := List.getElem_mem ho
    rw [e] at this
    simpa [wdZ] using this
  subst this
  exact R.zero w
/-- One object is put anew. -/
theorem WoAt.set {R : MdProg G} {w : World} {A : List Value} {W : Wd} (h : WoAt R w (.agg A.toArray) (some W)) {o : Nat} (ho : o < 8) {v : Value} {S : Md} (h1 : v.oneCell' = true) (hv : R.At w (.agg #[v]) (some S)) (hm : S.model = W.m) : WoAt R w (.agg (A.set o v).toArray) (some (W.put o S)) := by
  obtain ⟨B, e, hk, hi, h3⟩ := h
  obtain rfl : A = B := by simpa using e
  refine ⟨A.set o v, rfl, ⟨by rw [List.length_set]; exact hk.1, fun x hx => ?_⟩, fun V hV => ?_, fun p x hx => ?_⟩
  · rcases List.mem_or_eq_of_mem_set hx with hx | rfl
    · exact hk.2 x hx
    · exact h1
  · obtain rfl := Option.some.inj hV
    exact Wd.put_in (hi W rfl) hm (R.in_ hv)
  · show R.At w _ (some ((W.put o S).at p))
    rw [Wd.put_at (hi W rfl) ho]
    by_cases hp : p = o
    · rw [if_pos hp]
      subst hp
      rw [List.getElem?_set_self (by rw [hk.1]; exact ho)] at hx
      obtain rfl := Option.some.inj hx
      exact hv
    · rw [if_neg hp]
      rw [List.getElem?_set_ne (fun e => hp e.symm)] at hx
      exact h3 p x hx
theorem wFoot_set {R : MdProg G} {A : List Value} {o : Nat} {v : Value} {F : List Nat} {n : Nat} (h : FSub (R.foot (.agg #[v])) (wFoot R (.agg A.toArray)) n) : FSub (wFoot R (.agg (A.set o v).toArray)) (wFoot R (.agg A.toArray)) n := fun q hq => by
  obtain ⟨p, x, hx, hq2⟩ := wFoot_of hq
  rcases List.mem_or_eq_of_mem_set (List.mem_of_getElem? hx) with h1 | h1
  · obtain ⟨k, hk, e⟩ := List.getElem_of_mem h1
    exact .inl (wFoot_mem (o := k) (by rw [List.getElem?_eq_getElem hk, e]) q hq2)
  · rw [h1] at hq2
    exact h q hq2
/-- No part of the bytes is longer than 1000 (n parts at most). -/
def wShort : Nat → List UInt8 → Prop
  | 0, _ => True
  | n + 1, b => b.length < 3 ∨ b.length < 3 + bL b ∨ bL b ≤ 1000 ∧ wShort n (b.drop (3 + bL b))
theorem wShort_li : ∀ (n : Nat) (l : List (Nat × Md)), (∀ p ∈ l, (mdB p.2).length ≤ 1000) → wShort n (l.flatMap itB)
  | 0, _, _ => trivial
  | n + 1, [], _ => .inl (by simp)
  | n + 1, p :: l, h => by
    have hp := h p List.mem_cons_self
    rw [List.flatMap_cons]
    have e : bL (itB p ++ l.flatMap itB) = (mdB p.2).length := itB_L (by omega) _
    refine .inr (.inr ⟨by rw [e]; exact hp, ?_⟩)
    rw [e, show 3 + (mdB p.2).length = (itB p).length from (itB_len p).symm, List.drop_left]
    exact wShort_li n l (fun q hq => h q (List.mem_cons_of_mem _ hq))
theorem wShort_wd {W : Wd} (h : W.In) (hu : W.upto 300) (n : Nat) : wShort n (wdB W) := wShort_li n _ fun p hp => by
  have := mdB_short (Wd.li_mem h p hp).2.2.1 (hu _ (liW_mem _ _ _ p hp).2.2.1)
  omega
theorem wdB_len {W : Wd} (h : W.In) {k : Nat} (hu : W.upto k) : (wdB W).length ≤ 8 * (2 * k + 303) := by
  have go : ∀ (i : Nat) (l : List Md), (∀ S ∈ l, S.In ∧ S.len ≤ k) → ((liW W.m i l).flatMap itB).length ≤ l.length * (2 * k + 303) := by
    intro i l
    induction l generalizing i with
    | nil => intro _; simp [liW]
    | cons S r ih =>
      intro hl
      have h1 := ih (i + 1) (fun A hA => hl A (List.mem_cons_of_mem _ hA))
      have h2 := mdB_short (hl S List.mem_cons_self).1 (hl S List.mem_cons_self).2
      unfold liW
      rw [List.length_cons, Nat.succ_mul]
      split
      · omega
      · rw [List.flatMap_cons, List.length_append, itB_len]
        show 3 + (mdB S).length + _ ≤ _
        omega
  have := go 0 W.l (fun S hS => ⟨(h.each S hS).2, hu S hS⟩)
  rw [h.n] at this
  exact this
theorem oWSame_eq {W V : Wd} (hW : W.In) (hV : V.In) : oWSame (some W) (some V) = true ↔ W = V := by
  have e : oWSame (some W) (some V) = true ↔ ∀ o, o < 8 → (W.at o).model = (V.at o).model ∧ mdB (W.at o) = mdB (V.at o) := by
    unfold oWSame
    simp only [List.all_eq_true, List.mem_range, decide_eq_true_eq]
  rw [e]
  refine ⟨fun h => ?_, fun h o _ => by rw [h]; exact ⟨rfl, rfl⟩⟩
  have hm : W.m = V.m := by rw [← (Wd.at_in hW (by decide : 0 < 8)).1, ← (Wd.at_in hV (by decide : 0 < 8)).1]; exact (h 0 (by decide)).1
  refine Wd.ext_at hW hV hm fun o ho => ?_
  exact (mdB_inj (Wd.at_in hW ho).2 (Wd.at_in hV ho).2 (h o ho).1).1 (h o ho).2
/-- What the program's functions tell. -/
structure WdProg (R : MdProg G) : Prop where
  new : ∀ w m, G w → 0 ≤ m ∧ m < 256 → Calls Tryz.prog 10 #[.int .u8 m] w fun e w' => ∃ st, e = .returned (.tuple #[st, .int .i64 (if m ≤ 3 then 0 else 10)]) ∧ WoAt R w' st (oWNew m) ∧ Keeps [] w w' ∧ ∀ q ∈ wFoot R st, w.heap.size ≤ q
  model : ∀ w st O, G w → WoAt R w st O → Calls Tryz.prog 12 #[st] w fun e w' => e = .returned (.tuple #[.int .u8 (oWM O), .bool O.isSome]) ∧ Keeps [] w w'
  at_ : ∀ w st O o, G w → WoAt R w st O → 0 ≤ o ∧ o < 256 → Calls Tryz.prog 17 #[st, .int .u8 o] w fun e w' => ∃ s, e = .returned (.tuple #[s, .bool (oWat O o).isSome]) ∧ R.At w' s (oWat O o) ∧ Keeps [] w w' ∧ ∀ q ∈ R.foot s, q ∈ wFoot R st
  objects : ∀ w st O, G w → WoAt R w st O → Calls Tryz.prog 28 #[st] w fun e w' => ∃ B A, e = .returned (.func (.func 50) #[] #[.pointer (some ⟨B, 0, none⟩)]) ∧ st = .agg A ∧ w.heap.size ≤ B ∧ w'.heap[B]? = some (.cells A 33 (0, 0)) ∧ Keeps [] w w'
  iter : ∀ (n n0 : Nat) (F : List Nat) (B : Nat) (w : World) (A : List Value) (O : Option Wd), 2 ≤ n → (∀ w', KeB F n0 w w' → G w') → WoAt R w (.agg A.toArray) O → wUp O 1000 → w.heap[B]? = some (.cells A.toArray 33 (0, 0)) → B ∉ F → B < n0 → n0 ≤ w.heap.size → (∀ q ∈ wFoot R (.agg A.toArray), q ∉ F ∧ q < n0) →
    SeqStopsK Fence.wide n Tryz.prog 50 #[.pointer (some ⟨B, 0, none⟩)] (fun o : Fin 8 => #[.int .u8 (o.val : Int)]) (KeB F n0) (fun xs => xs.map (·.val) = oWL O) (fun pre => pre.map (·.val) <+: oWL O) (oWL O).length w
  step : ∀ w st O c x, G w → WoAt R w st O → wUp O 1000 → 0 ≤ c ∧ c < 256 → x.In → Calls Tryz.prog 13 #[st, .int .u8 c, x.val] w fun e w' =>
    ∃ st', e = .returned (.tuple #[st', .agg (ansC (oWX O c x).2.1).toArray, .int .i64 (oWX O c x).2.2]) ∧ WoAt R w' st' (oWX O c x).1 ∧ Keeps [] w w' ∧ FSub (wFoot R st') (wFoot R st) w.heap.size
  fits : ∀ w st O c x r, G w → WoAt R w st O → wUp O 1000 → 0 ≤ c ∧ c < 256 → x.In → (0 ≤ r.k ∧ r.k < 256) ∧ (0 ≤ r.v ∧ r.v < 65536) → Calls Tryz.prog 15 #[st, .int .u8 c, x.val, .agg (ansC r).toArray] w fun e w' =>
    ∃ st', e = .returned (.tuple #[st', .bool (decide ((oWX O c x).2.2 = 0 ∧ (oWX O c x).2.1 = r))]) ∧ WoAt R w' st' (if (oWX O c x).2.2 = 0 ∧ (oWX O c x).2.1 = r then (oWX O c x).1 else O) ∧ Keeps [] w w' ∧ FSub (wFoot R st') (wFoot R st) w.heap.size
  enc : ∀ w st O, G w → WoAt R w st O → wUp O 1000 → Calls Tryz.prog 24 #[st] w fun e w' => e = .returned (.string (bs (oWB O))) ∧ Keeps [] w w'
  text : ∀ w st O, G w → WoAt R w st O → wUp O 1000 → Calls Tryz.prog 25 #[st] w fun e w' => e = .returned (.string (bs (oWT O))) ∧ Keeps [] w w'
  same : ∀ w st O st2 P, G w → WoAt R w st O → WoAt R w st2 P → wUp O 1000 → wUp P 1000 → Calls Tryz.prog 20 #[st, st2] w fun e w' => e = .returned (.bool (oWSame O P)) ∧ Keeps [] w w'
  dec : ∀ w m b, G w → 0 ≤ m ∧ m < 256 → b.length ≤ 20000 → wShort b.length b → Calls Tryz.prog 18 #[.int .u8 m, .string (bs b)] w fun e w' =>
    ∃ st, e = .returned (.tuple #[st, .int .i64 (wdDec m b).2]) ∧ WoAt R w' st (wdDec m b).1 ∧ Keeps [] w w' ∧ ∀ q ∈ wFoot R st, w.heap.size ≤ q
end Go.Proofs.YtbnhcggjcdipeaaGreatDoor
