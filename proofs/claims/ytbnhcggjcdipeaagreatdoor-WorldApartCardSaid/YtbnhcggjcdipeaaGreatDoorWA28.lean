/-
  The program's register: its steps, function values in a map.
-/
import Derived.Test.YtbnhcggjcdipeaaGreatDoorWA00
import Derived.Maps.OwnSet
import Derived.Carry
import Derived.BigQuiet
import Derived.Deep.RegionHeld3
import Derived.Test.YtbnhcggjcdipeaaGreatDoorWA11
set_option linter.unusedSimpArgs false
set_option linter.unusedVariables false
namespace Go.Proofs.YtbnhcggjcdipeaaGreatDoor
set_option maxRecDepth 100000
open Go.RowKit Go.Maps
theorem Keeps.mapTurned {F : List Nat} {a w w' : World} {b : Nat} (h : Keeps F a w) (ht : w.mapTurned w' b) (hb : b ∈ F ∨ a.heap.size ≤ b) : Keeps F a w' := by
  have hg := ht.grown
  refine ⟨hg.os.trans h.os, hg.tape.trans h.tape, hg.output.trans h.output, Nat.le_trans h.size hg.size, fun k hk hF => ?_⟩
  rw [← h.block k hk hF]
  refine hg.block k (Nat.lt_of_lt_of_le hk h.size) (fun e => ?_)
  simp at e
  subst e
  rcases hb with h1 | h1
  · exact hF h1
  · omega
theorem Tryz.keyed8 : Keyed Tryz.prog 5 := int_keyed Tryz.underlying5
theorem key8 {f : Int} (h0 : 0 ≤ f) (h1 : f < 256) : keyOf Tryz.prog 5 (.int .u8 f) = some (.int .u8 f) := keyOf_int_mk Tryz.underlying5 (WalkArith.wf_u8 (by omega))
/-- A step: a function value over a variable. -/
def rgF (k bx : Nat) : Value := .func (.func k) #[] #[.pointer (some ⟨bx, 0, none⟩)]
/-- How an element of the map reads. -/
def rgElem (bx : Nat) : Value → Option (DataW Unit × List MemPlace)
  | .nilFunc => some (.lit (.bool false), [])
  | .func (.func k) ⟨[]⟩ ⟨[.pointer (some ⟨b, 0, none⟩)]⟩ => if b = bx then some (.lit (.int .u64 k), []) else none
  | _ => none
theorem rgElem_mk (k bx : Nat) : rgElem bx (rgF k bx) = some (.lit (.int .u64 k), []) := by
  show (if bx = bx then _ else _) = _
  rw [if_pos rfl]
theorem rgElem_inv {bx : Nat} {v : Value} {k : Nat} {ps : List MemPlace} (h : rgElem bx v = some (.lit (.int .u64 k), ps)) : v = rgF k bx := by
  unfold rgElem at h
  split at h
  · simp at h
  · split at h
    · rename_i k' b e
      subst e
      simp at h
      obtain ⟨e, rfl⟩ := h
      obtain rfl : k' = k := Int.ofNat.inj e
      rfl
    · cases h
  · cases h
def rgD : DataW Unit := (((DataW.map []).put (.int .u8 1) (.lit (.int .u64 (178 : Nat)))).put (.int .u8 2) (.lit (.int .u64 (179 : Nat)))).put (.int .u8 3) (.lit (.int .u64 (180 : Nat)))
/-- The number of the function that does an operation. -/
def rgK (f : Int) : Nat := if f = 1 then 178 else if f = 2 then 179 else 180
def rgIs (f : Int) : Prop := f = 1 ∨ f = 2 ∨ f = 3
theorem lit8_ne {a b : Int} (h : a ≠ b) : (Lit.int .u8 a) ≠ Lit.int .u8 b := fun e => h (by injection e)
theorem rgD_yes {f : Int} (h : rgIs f) (z : DataW Unit) : Maps.has rgD (.int .u8 f) = true ∧ rgD.atKey (.int .u8 f) z = .lit (.int .u64 (rgK f)) := by
  rcases h with rfl | rfl | rfl
  all_goals exact ⟨rfl, rfl⟩
theorem rgD_no {f : Int} (h : ¬ rgIs f) (z : DataW Unit) : Maps.has rgD (.int .u8 f) = false ∧ rgD.atKey (.int .u8 f) z = z := by
  unfold rgIs at h
  have h1 : f ≠ 1 := fun e => h (.inl e)
  have h2 : f ≠ 2 := fun e => h (.inr (.inl e))
  have h3 : f ≠ 3 := fun e => h (.inr (.inr e))
  unfold rgD
  refine ⟨?_, ?_⟩
  · rw [has_put_other (lit8_ne h3), has_put_other (lit8_ne h2), has_put_other (lit8_ne h1)]; rfl
  · rw [atKey_put_other (lit8_ne h3), atKey_put_other (lit8_ne h2), atKey_put_other (lit8_ne h1)]; rfl
/-- The steps in memory. -/
structure StepsAt (c bx mb : Nat) (w : World) : Prop where
  box : w.heap[bx]? = some (.cells #[.pointer (some ⟨c, 0, none⟩)] 233 (0, 0))
  map : w.ownsMap Tryz.prog 5 (rgElem bx) mb 3 rgD
section
variable {ops : Array Oper} {rest : List Oper} {a : Act} {w : World} {Q : Exit → Act → World → Prop}
/-- An entry of the literal. -/
theorem wpList_ins9 {dst : Option Tmp} {ty : TypeId} {pos : String} {after : Array Edge} {m x v : Operand} {b bx n : Nat} {D : DataW Unit} {f : Int} {k : Nat} (hm : a.eval m = .map (some b)) (hx : a.eval x = .int .u8 f) (hv : a.eval v = rgF k bx)
    (hown : w.ownsMap Tryz.prog 5 (rgElem bx) b n D) (hn : n < maxLen) (hf : 0 ≤ f ∧ f < 256)
    (hK : ∀ w', w'.ownsMap Tryz.prog 5 (rgElem bx) b (n + 1) (D.put (.int .u8 f) (.lit (.int .u64 k))) → w.mapTurned w' b → wpList Tryz.prog ops Q rest (a.put dst undef) w') :
    wpList Tryz.prog ops Q ({ dst := dst, op := .insert 231 m x v, type := ty, pos := pos, after := after, guard := none } :: rest) a w := by
  refine wpList_plain rfl fun K' hK' => ?_
  obtain ⟨w', hrun, r1, r2⟩ := hown.store Tryz.keyed8 Tryz.underlying231 hn (key8 hf.1 hf.2) (rgElem_mk k bx)
  unfold Oper.wp
  simp [execOp, hm, hx, hv, hrun, Result.andThen]
  exact hK' _ _ (hK w' r1 r2)
end
set_option maxHeartbeats 8000000
set_option maxRecDepth 100000
theorem steps9_any (w : World) (c : Nat) : Calls Tryz.prog 140 #[.pointer (some ⟨c, 0, none⟩)] w fun e w' => ∃ bx mb, e = .returned (.map (some mb)) ∧ StepsAt c bx mb w' ∧ Keeps [] w w' ∧ w.heap.size ≤ bx ∧ w.heap.size ≤ mb := by
  have hk1 : Keeps [] w (w.alloc (.cells #[.pointer (some ⟨c, 0, none⟩)] 233)) := (Keeps.refl [] w).alloc _
  have hk2 : Keeps [] w ((w.alloc (.cells #[.pointer (some ⟨c, 0, none⟩)] 233)).alloc (.map #[] 0)) := hk1.alloc _
  have hbx : ((w.alloc (.cells #[.pointer (some ⟨c, 0, none⟩)] 233)).alloc (.map #[] 0)).heap[w.heap.size]? = some (.cells #[.pointer (some ⟨c, 0, none⟩)] 233 (0, 0)) :=
    ((Keeps.refl [] (w.alloc (.cells #[.pointer (some ⟨c, 0, none⟩)] 233))).alloc _).heap (heap_alloc_new w _) (by simp)
  have hown := World.ownsMap_made (w.alloc (.cells #[.pointer (some ⟨c, 0, none⟩)] 233)) Tryz.prog 5 (rgElem w.heap.size)
  have hsz : (w.alloc (.cells #[.pointer (some ⟨c, 0, none⟩)] 233)).heap.size = w.heap.size + 1 := Array.size_push _
  rw [hsz] at hown
  have HK2 := Lib.hid hk2; have HBX := Lib.hid hbx; have HOWN := Lib.hid hown
  have hmm := @run_makeMap Tryz.prog
  clear hk1 hk2 hbx hown
  go_enter Tryz.func140, Tryz.ntmps140
  go_wp2_with ((with_reducible refine wpList_ins9 (b := w.heap.size + 1) (bx := w.heap.size) (n := 0) (D := .map []) (f := 1) (k := 178) ?_ ?_ ?_ HOWN.out (by decide) ⟨by decide, by decide⟩ ?_); exact rfl; exact rfl; exact rfl)
  intro w1 ho1 ht1
  have HO1 := Lib.hid ho1
  have hk3 : Keeps [w.heap.size + 1] ((w.alloc (.cells #[.pointer (some ⟨c, 0, none⟩)] 233)).alloc (.map #[] 0)) w1 := (Keeps.refl _ _).mapTurned ht1 (.inl (by simp))
  have HB1 := Lib.hid (hk3.heap HBX.out (by simp))
  have HK1 := Lib.hid (HK2.out.trans hk3 (fun q hq => .inr (by simp at hq; omega)))
  clear ho1 ht1 hk3 HBX HOWN HK2
  go_wp2_with ((with_reducible refine wpList_ins9 (b := w.heap.size + 1) (bx := w.heap.size) (n := 0 + 1) (f := 2) (k := 179) ?_ ?_ ?_ HO1.out (by decide) ⟨by decide, by decide⟩ ?_); exact rfl; exact rfl; exact rfl)
  intro w2 ho2 ht2
  have HO2 := Lib.hid ho2
  have hk3 : Keeps [w.heap.size + 1] w1 w2 := (Keeps.refl _ _).mapTurned ht2 (.inl (by simp))
  have HB2 := Lib.hid (hk3.heap HB1.out (by simp))
  have HK2 := Lib.hid (HK1.out.trans hk3 (fun q hq => .inr (by simp at hq; omega)))
  clear ho2 ht2 hk3 HO1 HB1 HK1
  go_wp2_with ((with_reducible refine wpList_ins9 (b := w.heap.size + 1) (bx := w.heap.size) (n := 0 + 1 + 1) (f := 3) (k := 180) ?_ ?_ ?_ HO2.out (by decide) ⟨by decide, by decide⟩ ?_); exact rfl; exact rfl; exact rfl)
  intro w3 ho3 ht3
  have HO3 := Lib.hid ho3
  have hk3 : Keeps [w.heap.size + 1] w2 w3 := (Keeps.refl _ _).mapTurned ht3 (.inl (by simp))
  have HB3 := Lib.hid (hk3.heap HB2.out (by simp))
  have HK3 := Lib.hid (HK2.out.trans hk3 (fun q hq => .inr (by simp at hq; omega)))
  clear ho3 ht3 hk3 HO2 HB2 HK2
  go_wp2_with fail
  go_ret
  exact ⟨_, _, rfl, ⟨HB3.out, HO3.out⟩, HK3.out, by omega, by omega⟩
end Go.Proofs.YtbnhcggjcdipeaaGreatDoor
/-
  The program's register: what each step does.
-/
namespace Go.Proofs.YtbnhcggjcdipeaaGreatDoor
open Go.RowKit Go.Maps
/-- What a step tells and leaves. -/
def StepPost9 (c : Nat) (s : Int) (x : Opn) (w : World) (e : Ending) (w' : World) : Prop :=
  e = .returned (.agg (ansC (rgX s x).2.1).toArray) ∧ w'.heap[c]? = some (.cells #[.int .u16 (rgX s x).1] 172 (0, 0)) ∧ Keeps [c] w w'
theorem heap_set1 {w : World} {c : Nat} {v u : Value} {t : TypeId} (h : w.heap[c]? = some (.cells #[v] t (0, 0))) : (w.setCell ⟨c, 0, none⟩ u).heap[c]? = some (.cells #[u] t (0, 0)) := one_setCell h
/-- The world behind a step that stores. -/
theorem step9_end {w : World} {c : Nat} {v u : Value} (h : w.heap[c]? = some (.cells #[v] 172 (0, 0))) (A : Array Value) (y : Ans) :
    (((w.setCell ⟨c, 0, none⟩ u).alloc (.cells A 47)).alloc (.cells (ansC y).toArray 25)).heap[w.heap.size + 1]? = some (.cells (ansC y).toArray 25 (0, 0)) ∧
    (((w.setCell ⟨c, 0, none⟩ u).alloc (.cells A 47)).alloc (.cells (ansC y).toArray 25)).heap[c]? = some (.cells #[u] 172 (0, 0)) ∧
    Keeps [c] w (((w.setCell ⟨c, 0, none⟩ u).alloc (.cells A 47)).alloc (.cells (ansC y).toArray 25)) := by
  have hs : (w.setCell ⟨c, 0, none⟩ u).heap.size = w.heap.size := by simp
  have hk := (Keeps.refl [c] w).setCell ⟨c, 0, none⟩ u (.inl (by simp))
  have k2 : Keeps [] (w.setCell ⟨c, 0, none⟩ u) (((w.setCell ⟨c, 0, none⟩ u).alloc (.cells A 47)).alloc (.cells (ansC y).toArray 25)) := ((Keeps.refl _ _).alloc _).alloc _
  refine ⟨?_, k2.heap (heap_set1 h) (by simp), hk.trans k2 (fun _ h => by cases h)⟩
  have := heap_alloc_new ((w.setCell ⟨c, 0, none⟩ u).alloc (.cells A 47)) (.cells (ansC y).toArray 25)
  rwa [show ((w.setCell ⟨c, 0, none⟩ u).alloc (.cells A 47)).heap.size = w.heap.size + 1 from by rw [show ((w.setCell ⟨c, 0, none⟩ u).alloc (.cells A 47)).heap.size = (w.setCell ⟨c, 0, none⟩ u).heap.size + 1 from Array.size_push _, hs]] at this
/-- The worlds behind the third step. -/
theorem step9_base {w : World} {c : Nat} {v : Value} (h : w.heap[c]? = some (.cells #[v] 172 (0, 0))) (A : Array Value) (z : Ans) (n : Nat) :
    ((((w.alloc (.cells A 47)).alloc (.cells (ansC z).toArray 25)).drewN n).heap[w.heap.size + 1]? = some (.cells (ansC z).toArray 25 (0, 0)) ∧
    (((w.alloc (.cells A 47)).alloc (.cells (ansC z).toArray 25)).drewN n).heap[c]? = some (.cells #[v] 172 (0, 0)) ∧
    Keeps [] w (((w.alloc (.cells A 47)).alloc (.cells (ansC z).toArray 25)).drewN n)) := by
  have k2 : Keeps [] w (((w.alloc (.cells A 47)).alloc (.cells (ansC z).toArray 25)).drewN n) := (((Keeps.refl _ _).alloc _).alloc _).drewN n
  refine ⟨?_, k2.heap h (by simp), k2⟩
  have := heap_alloc_new (w.alloc (.cells A 47)) (.cells (ansC z).toArray 25)
  rwa [show (w.alloc (.cells A 47)).heap.size = w.heap.size + 1 from Array.size_push _] at this
theorem step9_put {w : World} {c B : Nat} {u : Value} {W : World} (hB : w.heap.size ≤ B) (hc : c < w.heap.size) (h1 : W.heap[B]? = some (.cells (ansC ⟨0, 0⟩).toArray 25 (0, 0))) (h2 : W.heap[c]? = some (.cells #[u] 172 (0, 0))) (hk : Keeps [c] w W) (y : Ans) :
    ((W.setCell ⟨B, 0, none⟩ (.int .u8 y.k)).setCell ⟨B, 1, none⟩ (.int .u16 y.v)).heap[B]? = some (.cells (ansC y).toArray 25 (0, 0)) ∧
    ((W.setCell ⟨B, 0, none⟩ (.int .u8 y.k)).setCell ⟨B, 1, none⟩ (.int .u16 y.v)).heap[c]? = some (.cells #[u] 172 (0, 0)) ∧
    Keeps [c] w ((W.setCell ⟨B, 0, none⟩ (.int .u8 y.k)).setCell ⟨B, 1, none⟩ (.int .u16 y.v)) := by
  refine ⟨put2 h1 _ _, ?_, (hk.setCell _ _ (.inr hB)).setCell _ _ (.inr hB)⟩
  have k3 : Keeps [B] W ((W.setCell ⟨B, 0, none⟩ (.int .u8 y.k)).setCell ⟨B, 1, none⟩ (.int .u16 y.v)) := ((Keeps.refl _ _).setCell _ _ (.inl (by simp))).setCell _ _ (.inl (by simp))
  exact k3.heap h2 (by simp; omega)
theorem step9_stored {w : World} {c B : Nat} {v u : Value} {W : World} (hB : w.heap.size ≤ B) (hc : c < w.heap.size) (h1 : W.heap[B]? = some (.cells (ansC ⟨0, 0⟩).toArray 25 (0, 0))) (h2 : W.heap[c]? = some (.cells #[v] 172 (0, 0))) (hk : Keeps [] w W) :
    (W.setCell ⟨c, 0, none⟩ u).heap[B]? = some (.cells (ansC ⟨0, 0⟩).toArray 25 (0, 0)) ∧ (W.setCell ⟨c, 0, none⟩ u).heap[c]? = some (.cells #[u] 172 (0, 0)) ∧ Keeps [c] w (W.setCell ⟨c, 0, none⟩ u) := by
  have k3 : Keeps [c] W (W.setCell ⟨c, 0, none⟩ u) := (Keeps.refl _ _).setCell _ _ (.inl (by simp))
  exact ⟨k3.heap h1 (by simp; omega), heap_set1 h2, (hk.more (by simp)).setCell _ _ (.inl (by simp))⟩
set_option maxHeartbeats 8000000
set_option maxRecDepth 100000
theorem rgs1_any (w : World) (x : Opn) (s : Int) (bx c : Nat) (hf : x.f = 1) (hb : w.heap[bx]? = some (.cells #[.pointer (some ⟨c, 0, none⟩)] 233 (0, 0))) (hc : w.heap[c]? = some (.cells #[.int .u16 s] 172 (0, 0))) :
    Calls Tryz.prog 178 #[x.val, .pointer (some ⟨bx, 0, none⟩)] w (StepPost9 c s x w) := by
  unfold Opn.val
  obtain ⟨f, o, k, a, b⟩ := x
  simp only at hf
  subst hf
  have hk : Keeps [] w (w.alloc (.cells #[.int .u8 1, .int .u8 o, .int .u8 k, .int .u16 a, .int .u16 b] 47)) := (Keeps.refl [] w).alloc _
  have hk2 : ∀ y : Ans, Keeps [] w ((w.alloc (.cells #[.int .u8 1, .int .u8 o, .int .u8 k, .int .u16 a, .int .u16 b] 47)).alloc (.cells (ansC y).toArray 25)) := fun y => hk.alloc _
  have hnew : ∀ y : Ans, ((w.alloc (.cells #[.int .u8 1, .int .u8 o, .int .u8 k, .int .u16 a, .int .u16 b] 47)).alloc (.cells (ansC y).toArray 25)).heap[w.heap.size + 1]? = some (.cells (ansC y).toArray 25 (0, 0)) := fun y => by
    have := heap_alloc_new (w.alloc (.cells #[.int .u8 1, .int .u8 o, .int .u8 k, .int .u16 a, .int .u16 b] 47)) (.cells (ansC y).toArray 25)
    rwa [show (w.alloc (.cells #[.int .u8 1, .int .u8 o, .int .u8 k, .int .u16 a, .int .u16 b] 47)).heap.size = w.heap.size + 1 from Array.size_push _] at this
  have HK2 := Lib.hid hk2; have HN := Lib.hid hnew; have HC := Lib.hid hc
  have cB : ((w.alloc (.cells #[.int .u8 1, .int .u8 o, .int .u8 k, .int .u16 a, .int .u16 b] 47)).alloc (.cells #[.int .u8 0, .int .u16 0] 25)).cell? ⟨bx, 0, none⟩ = some (.pointer (some ⟨c, 0, none⟩)) := (hk2 ⟨0, 0⟩).cell (cell_lit hb 0 rfl) (by simp)
  have cC : ((w.alloc (.cells #[.int .u8 1, .int .u8 o, .int .u8 k, .int .u16 a, .int .u16 b] 47)).alloc (.cells #[.int .u8 0, .int .u16 0] 25)).cell? ⟨c, 0, none⟩ = some (.int .u16 s) := (hk2 ⟨0, 0⟩).cell (cell_lit hc 0 rfl) (by simp)
  clear hk hk2 hnew hb hc
  go_enter Tryz.func178, Tryz.ntmps178
  go_wp2_with fail
  try simp only [Exit.inBlock, Exit.then]
  exact bodyPost_ret (results_cell_row (P := Tryz.prog) rfl _ _ _ _ _ _ _ rfl (HN.out ⟨1, s⟩) Tryz.underlying25 rfl (by kernel_rfl)) rfl ⟨by simp [rgX, ansC], ((HK2.out ⟨1, s⟩).heap HC.out (by simp)).trans (by simp [rgX]), (HK2.out ⟨1, s⟩).more (by simp)⟩
theorem rgs2_any (w : World) (x : Opn) (s : Int) (bx c : Nat) (hf : x.f = 2) (hb : w.heap[bx]? = some (.cells #[.pointer (some ⟨c, 0, none⟩)] 233 (0, 0))) (hc : w.heap[c]? = some (.cells #[.int .u16 s] 172 (0, 0))) :
    Calls Tryz.prog 179 #[x.val, .pointer (some ⟨bx, 0, none⟩)] w (StepPost9 c s x w) := by
  unfold Opn.val
  obtain ⟨f, o, k, a, b⟩ := x
  simp only at hf
  subst hf
  have hk2 : Keeps [] w ((w.alloc (.cells #[.int .u8 2, .int .u8 o, .int .u8 k, .int .u16 a, .int .u16 b] 47)).alloc (.cells #[.int .u8 0, .int .u16 0] 25)) := ((Keeps.refl [] w).alloc _).alloc _
  have cB : ((w.alloc (.cells #[.int .u8 2, .int .u8 o, .int .u8 k, .int .u16 a, .int .u16 b] 47)).alloc (.cells #[.int .u8 0, .int .u16 0] 25)).cell? ⟨bx, 0, none⟩ = some (.pointer (some ⟨c, 0, none⟩)) := hk2.cell (cell_lit hb 0 rfl) (by simp)
  have cC : ((w.alloc (.cells #[.int .u8 2, .int .u8 o, .int .u8 k, .int .u16 a, .int .u16 b] 47)).alloc (.cells #[.int .u8 0, .int .u16 0] 25)).cell? ⟨c, 0, none⟩ = some (.int .u16 s) := hk2.cell (cell_lit hc 0 rfl) (by simp)
  have hlt := lt_of_block hc
  have hne : ¬ c = w.heap.size + 1 := by omega
  have hfr : ((w.alloc (.cells #[.int .u8 2, .int .u8 o, .int .u8 k, .int .u16 a, .int .u16 b] 47)).alloc (.cells #[.int .u8 0, .int .u16 0] 25)).frozen? ⟨c, 0, none⟩ = false := by
    simp [World.frozen?, hk2.heap hc (by simp)]
  have HE := Lib.hid (step9_end (u := .int .u16 a) hc #[.int .u8 2, .int .u8 o, .int .u8 k, .int .u16 a, .int .u16 b] ⟨0, 0⟩)
  clear hk2 hb hc
  go_enter Tryz.func179, Tryz.ntmps179
  go_wp2_with fail
  try simp only [Exit.inBlock, Exit.then]
  exact bodyPost_ret (results_cell_row (P := Tryz.prog) rfl _ _ _ _ _ _ _ rfl (HE.out.1) Tryz.underlying25 rfl (by kernel_rfl)) rfl ⟨by simp [rgX, ansC], HE.out.2.1.trans (by simp [rgX]), HE.out.2.2⟩
theorem rgs3_any (w : World) (x : Opn) (s : Int) (bx c : Nat) (hf : x.f = 3) (hb : w.heap[bx]? = some (.cells #[.pointer (some ⟨c, 0, none⟩)] 233 (0, 0))) (hc : w.heap[c]? = some (.cells #[.int .u16 s] 172 (0, 0))) :
    Calls Tryz.prog 180 #[x.val, .pointer (some ⟨bx, 0, none⟩)] w (StepPost9 c s x w) := by
  unfold Opn.val
  obtain ⟨f, o, k, a, b⟩ := x
  simp only at hf
  subst hf
  have hk2 : Keeps [] w ((w.alloc (.cells #[.int .u8 3, .int .u8 o, .int .u8 k, .int .u16 a, .int .u16 b] 47)).alloc (.cells #[.int .u8 0, .int .u16 0] 25)) := ((Keeps.refl [] w).alloc _).alloc _
  have cB : ((w.alloc (.cells #[.int .u8 3, .int .u8 o, .int .u8 k, .int .u16 a, .int .u16 b] 47)).alloc (.cells #[.int .u8 0, .int .u16 0] 25)).cell? ⟨bx, 0, none⟩ = some (.pointer (some ⟨c, 0, none⟩)) := hk2.cell (cell_lit hb 0 rfl) (by simp)
  have cC : ((w.alloc (.cells #[.int .u8 3, .int .u8 o, .int .u8 k, .int .u16 a, .int .u16 b] 47)).alloc (.cells #[.int .u8 0, .int .u16 0] 25)).cell? ⟨c, 0, none⟩ = some (.int .u16 s) := hk2.cell (cell_lit hc 0 rfl) (by simp)
  have hlt := lt_of_block hc
  have hne : ¬ c = w.heap.size + 1 := by omega
  have hfr : ((w.alloc (.cells #[.int .u8 3, .int .u8 o, .int .u8 k, .int .u16 a, .int .u16 b] 47)).alloc (.cells #[.int .u8 0, .int .u16 0] 25)).frozen? ⟨c, 0, none⟩ = false := by
    simp [World.frozen?, hk2.heap hc (by simp)]
  have HBA := Lib.hid (fun n => step9_base hc #[.int .u8 3, .int .u8 o, .int .u8 k, .int .u16 a, .int .u16 b] ⟨0, 0⟩ n)
  have HL := Lib.hid hlt
  clear hk2 hb hc hlt
  by_cases hsa : s = a
  · subst hsa
    go_enter Tryz.func180, Tryz.ntmps180
    go_wp2_with fail
    go_quiet (fail)
    go_wp2_with fail
    try simp only [Exit.inBlock, Exit.then]
    have HS := step9_stored (u := .int .u16 b) (Nat.le_succ _) HL.out (HBA.out nq).1 (HBA.out nq).2.1 (HBA.out nq).2.2
    have HE := step9_put (Nat.le_succ _) HL.out HS.1 HS.2.1 HS.2.2 ⟨3, 0⟩
    exact bodyPost_ret (results_cell_row (P := Tryz.prog) rfl _ _ _ _ _ _ _ rfl HE.1 Tryz.underlying25 rfl (by kernel_rfl)) rfl ⟨by simp [rgX, ansC], HE.2.1.trans (by simp [rgX]), HE.2.2⟩
  · have t4 : (s == a) = false := by simpa using hsa
    go_enter Tryz.func180, Tryz.ntmps180
    go_wp2_with fail
    go_quiet (fail)
    go_wp2_with fail
    try simp only [Exit.inBlock, Exit.then]
    have HE := step9_put (Nat.le_succ _) HL.out (HBA.out nq).1 (HBA.out nq).2.1 ((HBA.out nq).2.2.more (by simp)) ⟨4, 0⟩
    exact bodyPost_ret (results_cell_row (P := Tryz.prog) rfl _ _ _ _ _ _ _ rfl HE.1 Tryz.underlying25 rfl (by kernel_rfl)) rfl ⟨by simp [rgX, ansC, hsa], HE.2.1.trans (by simp [rgX, hsa]), HE.2.2⟩
/-- Any step. -/
theorem rgsK_any (w : World) (x : Opn) (s : Int) (bx c : Nat) (hf : rgIs x.f) (hb : w.heap[bx]? = some (.cells #[.pointer (some ⟨c, 0, none⟩)] 233 (0, 0))) (hc : w.heap[c]? = some (.cells #[.int .u16 s] 172 (0, 0))) :
    Calls Tryz.prog (rgK x.f) #[x.val, .pointer (some ⟨bx, 0, none⟩)] w (StepPost9 c s x w) := by
  rcases hf with h | h | h
  · rw [show rgK x.f = 178 from by rw [h]; rfl]; exact rgs1_any w x s bx c h hb hc
  · rw [show rgK x.f = 179 from by rw [h]; rfl]; exact rgs2_any w x s bx c h hb hc
  · rw [show rgK x.f = 180 from by rw [h]; rfl]; exact rgs3_any w x s bx c h hb hc
end Go.Proofs.YtbnhcggjcdipeaaGreatDoor
/-
  The program's register: Step.
-/
namespace Go.Proofs.YtbnhcggjcdipeaaGreatDoor
open Go.RowKit Go.Maps
theorem rgX_is {s : Int} {x : Opn} (h : rgIs x.f) : (rgX s x).2.2 = 0 := by
  unfold rgX
  rcases h with h | h | h
  · rw [if_pos h]
  · rw [if_neg (by omega), if_pos h]
  · rw [if_neg (by omega), if_neg (by omega), if_pos h]
    split <;> rfl
theorem rgX_not {s : Int} {x : Opn} (h : ¬ rgIs x.f) : rgX s x = (s, ⟨0, 0⟩, 10) := by
  unfold rgIs at h
  unfold rgX
  rw [if_neg (by omega), if_neg (by omega), if_neg (by omega)]
theorem zero_step9 (w : World) : (zeroValue 229).run Tryz.prog w = .ok .nilFunc w := by kernel_rfl
theorem look9_yes {w : World} {mb bx : Nat} (h : w.ownsMap Tryz.prog 5 (rgElem bx) mb 3 rgD) {f : Int} (hr : 0 ≤ f ∧ f < 256) (hf : rgIs f) :
    (Instr.lookup 231 (.map (some mb)) (.int .u8 f) true).run Tryz.prog w = .ok (.tuple #[rgF (rgK f) bx, .bool true]) w := by
  obtain ⟨v, ps, hrun, hv⟩ := h.look_ok Tryz.keyed8 Tryz.underlying231 (zero_step9 w) (zd := .lit (.bool false)) (zp := []) rfl (key8 hr.1 hr.2)
  rw [(rgD_yes hf _).2] at hv
  rw [hrun, (rgD_yes hf (.lit (.bool false))).1, rgElem_inv hv]
theorem look9_no {w : World} {mb bx : Nat} (h : w.ownsMap Tryz.prog 5 (rgElem bx) mb 3 rgD) {f : Int} (hr : 0 ≤ f ∧ f < 256) (hf : ¬ rgIs f) :
    ∃ v, (Instr.lookup 231 (.map (some mb)) (.int .u8 f) true).run Tryz.prog w = .ok (.tuple #[v, .bool false]) w := by
  obtain ⟨v, ps, hrun, hv⟩ := h.look_ok Tryz.keyed8 Tryz.underlying231 (zero_step9 w) (zd := .lit (.bool false)) (zp := []) rfl (key8 hr.1 hr.2)
  rw [(rgD_no hf (.lit (.bool false))).1] at hrun
  exact ⟨v, hrun⟩
theorem look9 {w : World} {mb bx : Nat} (h : w.ownsMap Tryz.prog 5 (rgElem bx) mb 3 rgD) {f : Int} (hr : 0 ≤ f ∧ f < 256) :
    ∃ v ok, (Instr.lookup 231 (.map (some mb)) (.int .u8 f) true).run Tryz.prog w = .ok (.tuple #[v, .bool ok]) w ∧ (rgIs f → v = rgF (rgK f) bx ∧ ok = true) ∧ (¬ rgIs f → ok = false) := by
  by_cases hf : rgIs f
  · exact ⟨_, _, look9_yes h hr hf, fun _ => ⟨rfl, rfl⟩, fun h => absurd hf h⟩
  · obtain ⟨v, hv⟩ := look9_no h hr hf
    exact ⟨v, false, hv, fun h => absurd h hf, fun _ => rfl⟩
theorem rgK_func (f : Int) : ∃ fn, Tryz.prog.funcs[rgK f]? = some fn ∧ (fn.name == "runtime.NumGoroutine") = false ∧ fn.body.isNone = false := by
  unfold rgK
  split
  · exact ⟨_, Tryz.func178, by kernel_rfl, by kernel_rfl⟩
  · split
    · exact ⟨_, Tryz.func179, by kernel_rfl, by kernel_rfl⟩
    · exact ⟨_, Tryz.func180, by kernel_rfl, by kernel_rfl⟩
section
variable {ops : Array Oper} {rest : List Oper} {o : Oper} {a : Act} {w : World} {K : Act → World → Prop} {Q : Exit → Act → World → Prop}
theorem wp_look9 (m x : Operand) (ho : o.op = .lookup 231 m x true) {mb : Nat} {f : Int} {v : Value} (hm : a.eval m = .map (some mb)) (hx : a.eval x = .int .u8 f)
    (hr : (Instr.lookup 231 (.map (some mb)) (.int .u8 f) true).run Tryz.prog w = .ok v w) (h : K (a.put o.dst v) w) : o.wp Tryz.prog a w K Q := by
  unfold Oper.wp
  simp [execOp, ho, hm, hx, hr, Result.andThen]
  exact h
/-- A function value over a variable is called. -/
theorem wp_callF9 (y : Operand) (args : Array Operand) (tys : Array TypeId) (ho : o.op = .call { callee := .value y, args := args, argTypes := tys }) {k bx : Nat} (hy : a.eval y = rgF k bx) (vs : List Value) (hv : args.toList.map a.eval = vs)
    (hf : ∃ fn, Tryz.prog.funcs[k]? = some fn ∧ (fn.name == "runtime.NumGoroutine") = false ∧ fn.body.isNone = false)
    (h : Calls Tryz.prog k (vs ++ [Value.pointer (some ⟨bx, 0, none⟩)]).toArray w fun e w' => ∃ v, e = .returned v ∧ K (a.put o.dst v) w') : o.wp Tryz.prog a w K Q := by
  have hv2 : args.map a.eval = vs.toArray := by rw [← hv]; apply Array.ext'; simp
  obtain ⟨fn, hf, hname, hb⟩ := hf
  unfold Oper.wp execOp
  have h1 : fn.name ≠ "runtime.NumGoroutine" := by simpa using hname
  have h2 : ∃ z, fn.body = some z := by
    cases h : fn.body with
    | none => rw [h] at hb; cases hb
    | some z => exact ⟨z, rfl⟩
  obtain ⟨z, h2⟩ := h2
  simp only [ho, resolve, invoke, Sem.run_bind, Sem.run_pure, Result.andThen_ok, hv2, hy, rgF, Deferred.ofValue, Array.empty_append, Array.append_empty]
  simp [callFunc, hf, h1, h2, Sem.run]
  rw [Oper.upon_enter]
  exact h.mono fun e w' ⟨v, he, hk⟩ => by subst he; exact hk
theorem wpList_callF9 {dst : Option Tmp} {ty : TypeId} {pos : String} {after : Array Edge} {y : Operand} {args : Array Operand} {tys : Array TypeId} {k bx : Nat} (vs : List Value) (hy : a.eval y = rgF k bx) (hv : args.toList.map a.eval = vs)
    (hf : ∃ fn, Tryz.prog.funcs[k]? = some fn ∧ (fn.name == "runtime.NumGoroutine") = false ∧ fn.body.isNone = false)
    (h : Calls Tryz.prog k (vs ++ [Value.pointer (some ⟨bx, 0, none⟩)]).toArray w fun e w' => ∃ v, e = .returned v ∧ wpList Tryz.prog ops Q rest (a.put dst v) w') :
    wpList Tryz.prog ops Q ({ dst := dst, op := .call { callee := .value y, args := args, argTypes := tys }, type := ty, pos := pos, after := after, guard := none } :: rest) a w :=
  wpList_plain rfl fun _ hK => wp_callF9 y args tys rfl hy vs hv hf (h.mono fun _ _ ⟨v, he, hk⟩ => ⟨v, he, hK _ _ hk⟩)
end
section
variable {ops : Array Oper} {rest : List Oper} {a : Act} {w : World} {Q : Exit → Act → World → Prop}
theorem wpList_putR {dst : Option Tmp} {ty : TypeId} {pos : String} {after : Array Edge} {x y : Operand} {g : Nat} {old : Ans} (r : Ans) {t : TypeId}
    (hx : a.eval x = .pointer (some ⟨g, 0, none⟩)) (hy : a.eval y = .agg (ansC r).toArray) (hg : w.heap[g]? = some (.cells (ansC old).toArray t (0, 0)))
    (h : ∀ W, W.heap[g]? = some (.cells (ansC r).toArray t (0, 0)) → Keeps [g] w W → wpList Tryz.prog ops Q rest (a.put dst undef) W) :
    wpList Tryz.prog ops Q ({ dst := dst, op := .store 25 x y, type := ty, pos := pos, after := after, guard := none } :: rest) a w :=
  wpList_store_row rfl 25 x y rfl g (ansC r).toArray hx hy t (ansC old).toArray hg (by kernel_rfl) rfl (by rw [← Array.all_toList, List.all_eq_true]; exact ansC_one r) (h _ (setRow_heap w g (ansC old).toArray (ansC r).toArray t (0, 0) hg) ((Keeps.refl [g] w).setRow g _ (.inl (by simp))))
end
/-- The world behind Step's variables. -/
theorem step9_vars (w : World) (s : Int) (A : Array Value) :
    Keeps [] w (((w.alloc (.cells #[.int .u16 s] 172)).alloc (.cells A 47)).alloc (.cells (ansC ⟨0, 0⟩).toArray 25)) ∧
    (((w.alloc (.cells #[.int .u16 s] 172)).alloc (.cells A 47)).alloc (.cells (ansC ⟨0, 0⟩).toArray 25)).heap[w.heap.size]? = some (.cells #[.int .u16 s] 172 (0, 0)) ∧
    (((w.alloc (.cells #[.int .u16 s] 172)).alloc (.cells A 47)).alloc (.cells (ansC ⟨0, 0⟩).toArray 25)).heap[w.heap.size + 1]? = some (.cells A 47 (0, 0)) ∧
    (((w.alloc (.cells #[.int .u16 s] 172)).alloc (.cells A 47)).alloc (.cells (ansC ⟨0, 0⟩).toArray 25)).heap[w.heap.size + 2]? = some (.cells (ansC ⟨0, 0⟩).toArray 25 (0, 0)) ∧
    (((w.alloc (.cells #[.int .u16 s] 172)).alloc (.cells A 47)).alloc (.cells (ansC ⟨0, 0⟩).toArray 25)).heap.size = w.heap.size + 3 := by
  have e1 : (w.alloc (.cells #[.int .u16 s] 172)).heap.size = w.heap.size + 1 := Array.size_push _
  have e2 : ((w.alloc (.cells #[.int .u16 s] 172)).alloc (.cells A 47)).heap.size = w.heap.size + 2 := by
    rw [show ((w.alloc (.cells #[.int .u16 s] 172)).alloc (.cells A 47)).heap.size = (w.alloc (.cells #[.int .u16 s] 172)).heap.size + 1 from Array.size_push _, e1]
  refine ⟨((((Keeps.refl _ _).alloc _).alloc _).alloc _), ?_, ?_, ?_, ?_⟩
  · exact (((Keeps.refl [] (w.alloc (.cells #[.int .u16 s] 172))).alloc _).alloc _).heap (heap_alloc_new w _) (by simp)
  · have h := heap_alloc_new (w.alloc (.cells #[.int .u16 s] 172)) (.cells A 47)
    rw [e1] at h
    exact ((Keeps.refl [] _).alloc _).heap h (by simp)
  · have h := heap_alloc_new ((w.alloc (.cells #[.int .u16 s] 172)).alloc (.cells A 47)) (.cells (ansC ⟨0, 0⟩).toArray 25)
    rw [e2] at h
    exact h
  · rw [show (((w.alloc (.cells #[.int .u16 s] 172)).alloc (.cells A 47)).alloc (.cells (ansC ⟨0, 0⟩).toArray 25)).heap.size = ((w.alloc (.cells #[.int .u16 s] 172)).alloc (.cells A 47)).heap.size + 1 from Array.size_push _, e2]
set_option maxHeartbeats 8000000
set_option maxRecDepth 100000
theorem rgStep_any (w : World) (s : Int) (x : Opn) (hx : x.In) : Calls Tryz.prog 91 #[.int .u16 s, x.val] w fun e w' =>
    e = .returned (.tuple #[.int .u16 (rgX s x).1, .agg (ansC (rgX s x).2.1).toArray, .int .i64 (rgX s x).2.2]) ∧ Keeps [] w w' := by
  have HW := Lib.hid (step9_vars w s (opC x).toArray)
  have HX := Lib.hid (And.intro hx.f0 hx.f1)
  have HVAL := Lib.hid (show Value.agg (opC x).toArray = x.val from rfl)
  have HFN := Lib.hid (rgK_func x.f)
  have HSK := Lib.hid (fun w bx c => rgsK_any w x s bx c)
  unfold Opn.val
  have hop : (opC x).toArray = #[.int .u8 x.f, .int .u8 x.o, .int .u8 x.k, .int .u16 x.a, .int .u16 x.b] := rfl
  clear hx
  go_enter Tryz.func91, Tryz.ntmps91
  go_wp2_with fail
  obtain ⟨R, hR⟩ : ∃ R, R = w.heap.size := ⟨_, rfl⟩
  rw [hop] at HW
  have HWW := HW.out
  rw [← hR] at HWW ⊢
  simp only [show (ansC ⟨0, 0⟩).toArray = #[Value.int .u8 0, .int .u16 0] from rfl] at HWW
  generalize ((w.alloc (.cells #[.int .u16 s] 172)).alloc (.cells #[.int .u8 x.f, .int .u8 x.o, .int .u8 x.k, .int .u16 x.a, .int .u16 x.b] 47)).alloc (.cells #[.int .u8 0, .int .u16 0] 25) = W at *
  have HV := Lib.hid HWW
  obtain ⟨S, hS⟩ : ∃ S : World → Prop, S = fun y => Keeps [] W y := ⟨_, rfl⟩
  have HSE := Lib.hid hS
  have hSD : S W.drew := by rw [hS]; exact (Keeps.refl _ _).drew
  have HS0 := Lib.hid (fun (w' : World) (h : S w') => show w'.cell? ⟨R + 1, 0, none⟩ = some (.int .u8 x.f) from by rw [hS] at h; exact h.cell (cell_lit HV.out.2.2.1 0 rfl) (by simp))
  have HRL := Lib.hid (show w.heap.size ≤ R from Nat.le_of_eq hR.symm)
  clear HWW HW hS hR
  refine wp_region_noPanic ?_
  refine wp_region_held_drew (S := S) (by kernel_rfl) hSD (fun hHeld => ?_)
  refine tw 1 (h := ?_)
  refine tk 2 (y := by exact Or.inl ⟨by rfl, by intro w hSw; have q0 := HS0.out w hSw; go_simp; try with_reducible rfl⟩) (h := ?_)
  refine rp 0 (h := fun K hK => ?_)
  refine wp_call9 140 _ _ rfl [.pointer (some ⟨R, 0, none⟩)] rfl Tryz.func140 (by kernel_rfl) (by kernel_rfl) ((show Calls Tryz.prog 140 _ _ (fun e w' => ∃ bx mb, e = .returned (.map (some mb)) ∧ StepsAt R bx mb w' ∧ Keeps [] _ w' ∧ W.drew.heap.size ≤ bx ∧ W.drew.heap.size ≤ mb) from steps9_any _ R).mono ?_)
  rintro e w1 ⟨bx, mb, rfl, hst, hk1, hb1, hb2⟩
  refine ⟨_, rfl, ?_⟩
  have HST := Lib.hid hst
  have HK1 := Lib.hid (((Keeps.refl [] W).drew).trans hk1 (FSub.refl _ _))
  have HB := Lib.hid (show W.heap.size ≤ bx ∧ W.heap.size ≤ mb from ⟨hb1, hb2⟩)
  clear hst hk1 hb1 hb2
  refine hK.out _ _ (by rw [HSE.out]; exact HK1.out) (fun hHeld => ?_); clear hK K; try simp only [Act.put, lsA, lsZ, lsS]
  obtain ⟨fv, ok, hrun, hyes, hno⟩ := look9 (f := x.f) HST.out.map HX.out
  have HRUN := Lib.hid hrun; have HYES := Lib.hid hyes; have HNO := Lib.hid hno
  clear hrun hyes hno
  refine rp 3 (h := fun K hK => ?_)
  refine wp_look9 _ _ rfl rfl rfl HRUN.out ?_
  refine hK.out _ _ (by rw [HSE.out]; exact HK1.out) (fun hHeld => ?_); clear hK K; try simp only [Act.put, lsA, lsZ, lsS]
  refine tw 4 (h := ?_)
  refine tw 5 (h := ?_)
  refine tw 6 (h := ?_)
  refine tw 7 (h := ?_)
  refine tw 8 (h := ?_)
  refine wpAnyH_done (by kernel_rfl) ?_ _
  refine NoPanic.normal ?_
  have HF1 := Lib.hid (And.intro (HK1.out.heap HV.out.2.1 (by simp)) (And.intro (HK1.out.heap HV.out.2.2.1 (by simp)) (HK1.out.heap HV.out.2.2.2.1 (by simp))))
  have HKW := Lib.hid (HV.out.1.trans HK1.out (FSub.refl _ _))
  have HLT := Lib.hid (show R + 2 < w1.heap.size ∧ R < bx ∧ R + 2 < bx from by have := HV.out.2.2.2.2; have := HK1.out.size; have := HB.out; omega)
  by_cases hf : rgIs x.f
  · obtain ⟨rfl, rfl⟩ := HYES.out hf
    have HF := Lib.hid hf
    have HRG := Lib.hid (show w1.rangeAt (R + 1) 0 (opC x) from fun j v hv => by
      rw [Nat.zero_add]
      exact cell_lit (cs := (opC x).toArray) HF1.out.2.1 j (by simpa using hv))
    clear hf HYES HNO
    go_wp2_with (first
      | ((with_reducible refine wpList_loadO (g := R + 1) (off := 0) (y := x) rfl ?_ HRG.out ?_); exact rfl)
      | ((with_reducible refine wpList_callF9 (k := rgK x.f) (bx := bx) [.agg (opC x).toArray] ?_ ?_ HFN.out ?_); exact rfl; exact rfl))
    refine ((show Calls Tryz.prog (rgK x.f) _ w1 (StepPost9 R s x w1) from HSK.out w1 bx R HF.out HST.out.box HF1.out.1)).mono ?_
    rintro e w2 ⟨rfl, hc2, hk2⟩
    refine ⟨_, rfl, ?_⟩
    have HC2 := Lib.hid hc2
    have HA2 := Lib.hid (show w2.heap[R + 1 + 1]? = some (.cells (ansC ⟨0, 0⟩).toArray 25 (0, 0)) from hk2.heap HF1.out.2.2 (by simp; omega))
    have HK2 := Lib.hid (HKW.out.trans hk2 (fun q hq => .inr (by simp at hq; subst hq; exact HRL.out)))
    have hsz2 : w1.heap.size ≤ w2.heap.size := hk2.size
    have HE0 := Lib.hid (show (rgX s x).2.2 = 0 from rgX_is HF.out)
    clear hc2 hk2 HF1 HRG HST HSK HFN HRUN hHeld HB HK1 HKW
    generalize hX : rgX s x = X at *
    obtain ⟨s1, ⟨yk, yv⟩, e1⟩ := X
    have hE := HE0.out
    simp only at hE
    subst hE
    have HXX := Lib.hid hX
    clear hX
    have HY2 := Lib.hid (heap_alloc_new w2 (.cells (ansC ⟨yk, yv⟩).toArray 25))
    have hka : Keeps [] w2 (w2.alloc (.cells (ansC ⟨yk, yv⟩).toArray 25)) := (Keeps.refl _ _).alloc _
    have HC3 := Lib.hid (hka.heap HC2.out (by simp))
    have HA3 := Lib.hid (hka.heap HA2.out (by simp))
    have HK3 := Lib.hid (HK2.out.trans hka (FSub.refl _ _))
    have HT := Lib.hid (show R + 1 + 1 ≠ w2.heap.size from by have := HLT.out; omega)
    clear HC2 HA2 HK2 hka
    simp only [ansC]
    go_wp2_with fail
    have HY := HY2.out; have HCC := HC3.out; have HAA := HA3.out; have HKK := HK3.out; have HTT := HT.out
    clear HY2 HC3 HA3 HK3 HT hsz2
    generalize w2.heap.size = T at *
    simp only [show (ansC ⟨yk, yv⟩).toArray = #[Value.int .u8 yk, Value.int .u16 yv] from rfl] at HY HCC HAA HKK
    generalize w2.alloc (.cells #[.int .u8 yk, .int .u16 yv] 25) = W2 at *
    have HY2 := Lib.hid HY; have HC3 := Lib.hid HCC; have HA3 := Lib.hid HAA; have HK3 := Lib.hid HKK
    obtain ⟨S2, hS2⟩ : ∃ S2 : World → Prop, S2 = fun y => Keeps [R + 1 + 1] W2 y := ⟨_, rfl⟩
    have HSE2 := Lib.hid hS2
    have hSD2 : S2 W2.drew := by rw [hS2]; exact (Keeps.refl _ _).drew
    have HS1 := Lib.hid (fun (w' : World) (h : S2 w') => show w'.cell? ⟨R, 0, none⟩ = some (.int .u16 s1) from by rw [hS2] at h; exact h.cell (cell_lit HC3.out 0 rfl) (by simp; omega))
    have HS2 := Lib.hid (fun (w' : World) (h : S2 w') => show w'.rangeAt T 0 (ansC ⟨yk, yv⟩) from by
      rw [hS2] at h
      intro j v hv
      rw [Nat.zero_add]
      exact h.cell (cell_lit HY2.out j (by simpa [ansC] using hv)) (by simp; omega))
    clear HY HCC HAA HKK HTT hS2
    refine wp_region_noPanic ?_
    refine wp_region_held_drew (S := S2) (by kernel_rfl) hSD2 (fun hHeld => ?_)
    refine tk 0 (y := by exact Or.inl ⟨by rfl, by intro w hSw; have q0 := HS1.out w hSw; go_simp; try with_reducible rfl⟩) (h := ?_)
    refine tk 1 (y := by exact yields_ansC (by rfl) _ rfl T 0 rfl ⟨yk, yv⟩ HS2.out) (h := ?_)
    refine tw 2 (h := ?_)
    refine rp 3 (h := fun K hK => ?_)
    refine wp_store_row 25 _ _ rfl (R + 1 + 1) (ansC ⟨yk, yv⟩).toArray rfl rfl 25 (ansC ⟨0, 0⟩).toArray HA3.out (by kernel_rfl) rfl (by rw [← Array.all_toList, List.all_eq_true]; exact ansC_one _) ?_
    have hA4 := setRow_heap W2.drew (R + 1 + 1) (ansC ⟨0, 0⟩).toArray (ansC ⟨yk, yv⟩).toArray 25 (0, 0) HA3.out
    have hk4 : Keeps [R + 1 + 1] W2 (W2.drew.setRow (R + 1 + 1) (ansC ⟨yk, yv⟩).toArray) := ((Keeps.refl _ _).drew).setRow _ _ (.inl (by simp))
    generalize W2.drew.setRow (R + 1 + 1) (ansC ⟨yk, yv⟩).toArray = W4 at *
    have HA4 := Lib.hid hA4; have HK4 := Lib.hid hk4
    clear hA4 hk4
    refine hK.out _ _ (by rw [HSE2.out]; exact HK4.out) (fun hHeld => ?_); clear hK K; try simp only [Act.put, lsA, lsZ, lsS]
    refine tw 4 (h := ?_)
    refine wpAnyH_done (by kernel_rfl) ?_ _
    refine NoPanic.normal ?_
    go_wp2_with fail
    try simp only [Exit.inBlock, Exit.then]
    exact bodyPost_ret (results_ans rfl _ _ _ ⟨yk, yv⟩ rfl HA4.out) rfl ⟨by rw [HXX.out]; rfl, HK3.out.trans HK4.out (fun q hq => .inr (by simp at hq; have := HRL.out; omega))⟩
  · obtain rfl := HNO.out hf
    have HF := Lib.hid hf
    have c0 : w1.cell? ⟨R, 0, none⟩ = some (.int .u16 s) := cell_lit HF1.out.1 0 rfl
    have HA := Lib.hid (show w1.heap[R + 1 + 1]? = some (.cells (ansC ⟨0, 0⟩).toArray 25 (0, 0)) from HF1.out.2.2)
    clear hf HYES HNO HFN HSK
    go_wp2_with ((with_reducible refine wpList_putR (g := R + 1 + 1) (old := ⟨0, 0⟩) ⟨0, 0⟩ ?_ ?_ HA.out ?_); exact rfl; exact rfl)
    intro W3 hA3 hk3
    have HA3 := Lib.hid hA3
    have HK3 := Lib.hid (HKW.out.trans hk3 (fun q hq => .inr (by simp at hq; have := HRL.out; omega)))
    clear hA3 hk3 HA HKW c0
    go_wp2_with fail
    try simp only [Exit.inBlock, Exit.then]
    exact bodyPost_ret (results_ans rfl _ _ _ ⟨0, 0⟩ rfl HA3.out) rfl ⟨by rw [rgX_not HF.out]; rfl, HK3.out⟩
end Go.Proofs.YtbnhcggjcdipeaaGreatDoor
