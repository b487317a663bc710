/-
  The program's lock: Run.
-/
import Derived.Deep.RegionHeld3
import Derived.Laws.Tables
import Derived.BigQuiet
import Derived.Deep.AppendSrc
import Derived.Lib.SliceRun
import Derived.StillTailTactics
import Derived.Deep.Upon
import Derived.Laws.MakeOwn
import Derived.Test.YtbjhgdimciibcaaDoorLY10
import Derived.Test.YtbjhgdimciibcaaDoorLY08
import Derived.Test.YtbjhgdimciibcaaDoorLY07
set_option linter.unusedSimpArgs false
set_option linter.unusedVariables false
namespace Go.Proofs.YtbjhgdimciibcaaDoor
open Go.RowKit
section
variable {ops : Array Oper} {rest : List Oper} {a : Act} {w : World} {Q : Exit → Act → World → Prop}
set_option maxRecDepth 100000 in
theorem wpList_loadP {dst : Option Tmp} {ty : TypeId} {pos : String} {after : Array Edge} {gd : Option (Nat × Bool)} {x : Operand} {g off : Nat} (y : Opn)
    (hw : Region.wanted { dst := dst, op := .load 24 x, type := ty, pos := pos, after := after, guard := gd } (yielded ops a.tmps) = true)
    (hx : a.eval x = .pointer (some ⟨g, off, none⟩)) (hr : w.rangeAt g off (opC y)) (h : wpList Tryd.prog ops Q rest (a.put dst (.agg #[.int .u8 y.f, .int .u8 y.o, .int .u8 y.k, .int .u16 y.a, .int .u16 y.b])) w) :
    wpList Tryd.prog ops Q ({ dst := dst, op := .load 24 x, type := ty, pos := pos, after := after, guard := gd } :: rest) a w :=
  wpList_step fun _ hK => by
    rw [if_pos hw]
    exact wp_load_mid 24 x rfl g off hx (opC y) _ hr Tryd.underlying24 rfl (by kernel_rfl) (hK _ _ h)
end
/-- The parts of a call that stands in memory. -/
theorem cl_parts {w : World} {g off : Nat} {y : Cl} (h : w.rangeAt g off (clC y)) : w.cell? ⟨g, off, none⟩ = some (.int .u8 y.c) ∧ w.rangeAt g (off + 1) (opC y.x) := by
  refine ⟨h 0 _ rfl, fun j v hv => ?_⟩
  have := h (j + 1) v (by simpa [clC, opC] using hv)
  rw [show off + 1 + j = off + (j + 1) by omega]
  exact this
theorem cl_block {w : World} {g : Nat} {y : Cl} {t : TypeId} (h : w.heap[g]? = some (.cells (clC y).toArray t (0, 0))) : w.rangeAt g 0 (clC y) := fun j v hv => by
  rw [Nat.zero_add]
  exact cell_lit h j (by simpa using hv)
/-- A new block, then stores into it. -/
theorem Keeps.trans' {a b c : World} {g : Nat} (h : Keeps [] a b) (k : Keeps [g] b c) (hg : a.heap.size ≤ g) : Keeps [] a c := h.trans k (fun q hq => .inr (by simp at hq; omega))
set_option maxHeartbeats 8000000
set_option maxRecDepth 100000
end Go.Proofs.YtbjhgdimciibcaaDoor
/-
  Stage 12's law: acquire, release, steps, works.
-/
namespace Go.Proofs.YtbjhgdimciibcaaDoor
open Go.RowKit
theorem results_cl {fn : Func} {p : Tmp} (h : fn.results = #[.cell p 49]) (tmps : Array Value) (w : World) (b : Nat) (y : Cl) {t : TypeId}
    (hp : tmps.getD p undef = .pointer (some ⟨b, 0, none⟩)) (hb : w.heap[b]? = some (.cells (clC y).toArray t (0, 0))) : (results fn tmps).run Tryd.prog w = .ok (.agg (clC y).toArray) w :=
  results_cell_row (P := Tryd.prog) h _ _ _ _ _ _ _ hp hb Tryd.underlying49 rfl (by kernel_rfl)
set_option maxHeartbeats 8000000
set_option maxRecDepth 100000
theorem acq12_any (w : World) (c : Int) : Calls Tryd.prog 20 #[.int .u8 c] w fun e w' => e = .returned (.agg (clC ⟨c, ⟨10, 0, 0, 0, 0⟩⟩).toArray) ∧ Keeps [] w w' := by
  have h := heap_alloc_new w (.cells (clC ⟨c, ⟨10, 0, 0, 0, 0⟩⟩).toArray 49)
  have HN := Lib.hid h
  have HK := Lib.hid (show Keeps [] w (w.alloc (.cells (clC ⟨c, ⟨10, 0, 0, 0, 0⟩⟩).toArray 49)) from (Keeps.refl _ _).alloc _)
  clear h
  go_enter Tryd.func20, Tryd.ntmps20
  go_wp2_with fail
  try simp only [Exit.inBlock, Exit.then]
  exact bodyPost_ret (results_cl rfl _ _ w.heap.size ⟨c, ⟨10, 0, 0, 0, 0⟩⟩ rfl HN.out) rfl ⟨rfl, HK.out⟩
theorem rel12_any (w : World) (c : Int) : Calls Tryd.prog 21 #[.int .u8 c] w fun e w' => e = .returned (.agg (clC ⟨c, ⟨11, 0, 0, 0, 0⟩⟩).toArray) ∧ Keeps [] w w' := by
  have h := heap_alloc_new w (.cells (clC ⟨c, ⟨11, 0, 0, 0, 0⟩⟩).toArray 49)
  have HN := Lib.hid h
  have HK := Lib.hid (show Keeps [] w (w.alloc (.cells (clC ⟨c, ⟨11, 0, 0, 0, 0⟩⟩).toArray 49)) from (Keeps.refl _ _).alloc _)
  clear h
  go_enter Tryd.func21, Tryd.ntmps21
  go_wp2_with fail
  try simp only [Exit.inBlock, Exit.then]
  exact bodyPost_ret (results_cl rfl _ _ w.heap.size ⟨c, ⟨11, 0, 0, 0, 0⟩⟩ rfl HN.out) rfl ⟨rfl, HK.out⟩
theorem steps12_any (w : World) (hG : Glob4 w) {s : Int} (hs : 0 ≤ s ∧ s < 256) {y : Cl} (hy : y.In) {u k : Int} (hX : lkX s y.c y.x = (u, ⟨k, 0⟩, 0)) :
    Calls Tryd.prog 22 #[.int .u8 s, .agg (clC y).toArray, .int .u8 u, .int .u8 k] w fun e w' => e = .returned (.bool true) ∧ Keeps [] w w' := by
  have HB := Lib.hid (heap_alloc_new w (.cells (clC y).toArray 49))
  have HK0 := Lib.hid (show Keeps [] w (w.alloc (.cells (clC y).toArray 49)) from (Keeps.refl _ _).alloc _)
  have hst := fun w hG => lkStep_any w hG y.x hs ⟨hy.c0, hy.c1⟩ hy.x
  rw [hX] at hst
  have HST := Lib.hid hst
  have HGL := Lib.hid (hG.new HK0.out)
  have t1 : (u == u) = true := by simp
  have t2 : (k == k) = true := by simp
  clear hst hs hy hX hG
  have c0 : (w.alloc (.cells (clC y).toArray 49)).cell? ⟨w.heap.size, 0, none⟩ = some (.int .u8 y.c) := (cl_parts (cl_block HB.out)).1
  have HRO := Lib.hid (cl_parts (cl_block HB.out)).2
  go_enter Tryd.func22, Tryd.ntmps22
  go_wp2_with ((with_reducible refine wpList_loadP (g := w.heap.size) (off := 1) y.x ?_ ?_ HRO.out ?_); exact rfl; exact rfl)
  refine (show Calls Tryd.prog 10 #[.int .u8 s, .int .u8 y.c, y.x.val] _ _ from HST.out _ HGL.out).mono ?_
  rintro e w2 ⟨rfl, hk2⟩
  have HK2 := Lib.hid (HK0.out.trans hk2 (FSub.refl _ _))
  clear c0 hk2 HRO HB HK0 HGL
  have HC2 := Lib.hid (show (w2.alloc (.cells #[.int .u8 0, .int .u16 0] 27)).heap[w2.heap.size]? = some (.cells (ansC ⟨0, 0⟩).toArray 27 (0, 0)) from heap_alloc_new w2 _)
  have HKA2 := Lib.hid (show Keeps [] w2 (w2.alloc (.cells #[.int .u8 0, .int .u16 0] 27)) from (Keeps.refl _ _).alloc _)
  go_wp2_with ((with_reducible refine wpList_putR12 (g := w2.heap.size) (old := ⟨0, 0⟩) ⟨k, 0⟩ ?_ ?_ HC2.out ?_); exact rfl; exact rfl)
  intro w3 hW3 hk3
  have HK3 := Lib.hid (HK2.out.trans (HKA2.out.trans' hk3 (by simp)) (FSub.refl _ _))
  clear hk3 HC2 HKA2 HK2
  generalize w2.heap.size = gr at *
  have d0 : w3.cell? ⟨gr, 0, none⟩ = some (.int .u8 k) := cell_lit hW3 0 rfl
  have d1 : w3.cell? ⟨gr, 1, none⟩ = some (.int .u16 0) := cell_lit hW3 1 rfl
  clear hW3
  go_wp2_with fail
  go_ret
  exact ⟨rfl, HK3.out⟩
theorem cl_in {c f : Int} (h0 : 0 ≤ c) (h1 : c < 256) (h2 : 0 ≤ f) (h3 : f < 256) : Cl.In ⟨c, ⟨f, 0, 0, 0, 0⟩⟩ := ⟨h0, h1, ⟨h2, h3, by simp, by simp, by simp, by simp, by simp, by simp, by simp, by simp⟩⟩
theorem works12_any (w : World) (hG : Glob4 w) : Calls Tryd.prog 17 #[] w fun e w' => e = .returned (.bool true) ∧ Keeps [] w w' := by
  have HG := Lib.hid (fun w' (h : Keeps [] w w') => hG.new h)
  clear hG
  go_enter Tryd.func17, Tryd.ntmps17
  go_wp2_with fail
  refine (lkNew_any w).mono ?_; rintro e w1 ⟨rfl, rfl⟩
  go_wp2_with fail
  refine (acq12_any _ 0).mono ?_; rintro e w2 ⟨rfl, hk2⟩
  have HK2 := Lib.hid hk2; clear hk2
  go_wp2_with fail
  refine (steps12_any w2 (HG.out _ HK2.out) (by decide) (cl_in (by decide) (by decide) (by decide) (by decide)) rfl).mono ?_; rintro e w3 ⟨rfl, hk3⟩
  have HK3 := Lib.hid (HK2.out.trans hk3 (FSub.refl _ _)); clear hk3 HK2
  go_wp2_with fail
  refine (acq12_any _ 1).mono ?_; rintro e w4 ⟨rfl, hk4⟩
  have HK4 := Lib.hid (HK3.out.trans hk4 (FSub.refl _ _)); clear hk4 HK3
  go_wp2_with fail
  refine (steps12_any w4 (HG.out _ HK4.out) (by decide) (cl_in (by decide) (by decide) (by decide) (by decide)) rfl).mono ?_; rintro e w5 ⟨rfl, hk5⟩
  have HK5 := Lib.hid (HK4.out.trans hk5 (FSub.refl _ _)); clear hk5 HK4
  go_wp2_with fail
  refine (rel12_any _ 1).mono ?_; rintro e w6 ⟨rfl, hk6⟩
  have HK6 := Lib.hid (HK5.out.trans hk6 (FSub.refl _ _)); clear hk6 HK5
  go_wp2_with fail
  refine (steps12_any w6 (HG.out _ HK6.out) (by decide) (cl_in (by decide) (by decide) (by decide) (by decide)) rfl).mono ?_; rintro e w7 ⟨rfl, hk7⟩
  have HK7 := Lib.hid (HK6.out.trans hk7 (FSub.refl _ _)); clear hk7 HK6
  go_wp2_with fail
  refine (rel12_any _ 0).mono ?_; rintro e w8 ⟨rfl, hk8⟩
  have HK8 := Lib.hid (HK7.out.trans hk8 (FSub.refl _ _)); clear hk8 HK7
  go_wp2_with fail
  refine (lkNew_any w8).mono ?_; rintro e w9 ⟨rfl, rfl⟩
  go_wp2_with fail
  refine (steps12_any w9 (HG.out _ HK8.out) (by decide) (cl_in (by decide) (by decide) (by decide) (by decide)) rfl).mono ?_; rintro e w10 ⟨rfl, hk10⟩
  have HK10 := Lib.hid (HK8.out.trans hk10 (FSub.refl _ _)); clear hk10 HK8
  go_wp2_with fail
  go_ret
  exact ⟨rfl, HK10.out⟩
end Go.Proofs.YtbjhgdimciibcaaDoor
/-
  LockSays' and LockSteps' walks; the condition of a drawn region made stronger on the way.
-/
namespace Go.Proofs.YtbjhgdimciibcaaDoor
open Go.RowKit
set_option maxHeartbeats 8000000
set_option maxRecDepth 100000
theorem LockSays_any (w : World) (hG : Glob4 w) {s c : Int} (x : Opn) (hs : 0 ≤ s ∧ s < 256) (hc : 0 ≤ c ∧ c < 256) (hx : x.In) : Calls Tryd.prog 7 #[.int .u8 s, .int .u8 c, x.val] w fun e w' => e = .returned (.bool true) ∧ Keeps [] w w' := by
  have HW := Lib.hid (fun w' (h : Keeps [] w w') => works12_any w' (hG.new h))
  have HG := Lib.hid (fun w' (h : Keeps [] w w') => hG.new h)
  have HKB := Lib.hid (show Keeps [] w (w.alloc (.cells #[.int .u8 x.f, .int .u8 x.o, .int .u8 x.k, .int .u16 x.a, .int .u16 x.b] 24)) from (Keeps.refl _ _).alloc _)
  have HS := Lib.hid (fun w hG => lkStep_any w hG x hs hc hx)
  have hw := lkX_ways s c x
  clear hG hx
  unfold Opn.val at HS ⊢
  have t1 : (s == s) = true := by simp
  have t2 : (s != s) = false := by simp
  rcases hw with hw | hw | hw | hw | hw | hw
  · rw [hw.2] at HS
    clear hw
    go_enter Tryd.func7, Tryd.ntmps7
    go_wp2_with fail
    refine (HS.out _ (HG.out _ HKB.out)).mono ?_; rintro e w2 ⟨rfl, hk2⟩
    have HK2 := Lib.hid (HKB.out.trans hk2 (FSub.refl _ _))
    clear hk2 HKB
    have HC2 := Lib.hid (show (w2.alloc (.cells #[.int .u8 0, .int .u16 0] 27)).heap[w2.heap.size]? = some (.cells (ansC ⟨0, 0⟩).toArray 27 (0, 0)) from heap_alloc_new w2 _)
    have HKA2 := Lib.hid (show Keeps [] w2 (w2.alloc (.cells #[.int .u8 0, .int .u16 0] 27)) from (Keeps.refl _ _).alloc _)
    go_wp2_with ((with_reducible refine wpList_putR12 (g := w2.heap.size) (old := ⟨0, 0⟩) ⟨0, 0⟩ ?_ ?_ HC2.out ?_); exact rfl; exact rfl)
    intro w3 hW3 hk3
    have HK3 := Lib.hid (HK2.out.trans (HKA2.out.trans' hk3 (by simp)) (FSub.refl _ _))
    clear hk3 HC2 HKA2 HK2
    generalize w2.heap.size = gr at *
    have d0 : w3.cell? ⟨gr, 0, none⟩ = some (.int .u8 0) := cell_lit hW3 0 rfl
    have d1 : w3.cell? ⟨gr, 1, none⟩ = some (.int .u16 0) := cell_lit hW3 1 rfl
    clear hW3
    go_wp2_with fail
    refine (HW.out _ HK3.out).mono ?_; rintro e w5 ⟨rfl, hk5⟩
    have HK5 := Lib.hid (HK3.out.trans hk5 (FSub.refl _ _))
    clear hk5
    go_wp2_with fail
    go_ret
    exact ⟨rfl, HK5.out⟩
  · rw [hw.2.2] at HS
    clear hw
    go_enter Tryd.func7, Tryd.ntmps7
    go_wp2_with fail
    refine (HS.out _ (HG.out _ HKB.out)).mono ?_; rintro e w2 ⟨rfl, hk2⟩
    have HK2 := Lib.hid (HKB.out.trans hk2 (FSub.refl _ _))
    clear hk2 HKB
    have HC2 := Lib.hid (show (w2.alloc (.cells #[.int .u8 0, .int .u16 0] 27)).heap[w2.heap.size]? = some (.cells (ansC ⟨0, 0⟩).toArray 27 (0, 0)) from heap_alloc_new w2 _)
    have HKA2 := Lib.hid (show Keeps [] w2 (w2.alloc (.cells #[.int .u8 0, .int .u16 0] 27)) from (Keeps.refl _ _).alloc _)
    go_wp2_with ((with_reducible refine wpList_putR12 (g := w2.heap.size) (old := ⟨0, 0⟩) ⟨0, 0⟩ ?_ ?_ HC2.out ?_); exact rfl; exact rfl)
    intro w3 hW3 hk3
    have HK3 := Lib.hid (HK2.out.trans (HKA2.out.trans' hk3 (by simp)) (FSub.refl _ _))
    clear hk3 HC2 HKA2 HK2
    generalize w2.heap.size = gr at *
    have d0 : w3.cell? ⟨gr, 0, none⟩ = some (.int .u8 0) := cell_lit hW3 0 rfl
    have d1 : w3.cell? ⟨gr, 1, none⟩ = some (.int .u16 0) := cell_lit hW3 1 rfl
    clear hW3
    go_wp2_with fail
    refine (HW.out _ HK3.out).mono ?_; rintro e w5 ⟨rfl, hk5⟩
    have HK5 := Lib.hid (HK3.out.trans hk5 (FSub.refl _ _))
    clear hk5
    go_wp2_with fail
    go_ret
    exact ⟨rfl, HK5.out⟩
  · rw [hw.2.2.2.2.2] at HS
    obtain rfl : s = 0 := hw.2.2.2.2.1
    have t3 : (c + 1 != 0) = true := by simp; omega
    have t4 : decide (c + 1 ≤ 16) = true := decide_eq_true (by omega)
    clear hw t1 t2 hs hc
    go_enter Tryd.func7, Tryd.ntmps7
    go_wp2_with fail
    refine (HS.out _ (HG.out _ HKB.out)).mono ?_; rintro e w2 ⟨rfl, hk2⟩
    have HK2 := Lib.hid (HKB.out.trans hk2 (FSub.refl _ _))
    clear hk2 HKB
    have HC2 := Lib.hid (show (w2.alloc (.cells #[.int .u8 0, .int .u16 0] 27)).heap[w2.heap.size]? = some (.cells (ansC ⟨0, 0⟩).toArray 27 (0, 0)) from heap_alloc_new w2 _)
    have HKA2 := Lib.hid (show Keeps [] w2 (w2.alloc (.cells #[.int .u8 0, .int .u16 0] 27)) from (Keeps.refl _ _).alloc _)
    go_wp2_with ((with_reducible refine wpList_putR12 (g := w2.heap.size) (old := ⟨0, 0⟩) ⟨3, 0⟩ ?_ ?_ HC2.out ?_); exact rfl; exact rfl)
    intro w3 hW3 hk3
    have HK3 := Lib.hid (HK2.out.trans (HKA2.out.trans' hk3 (by simp)) (FSub.refl _ _))
    clear hk3 HC2 HKA2 HK2
    generalize w2.heap.size = gr at *
    have d0 : w3.cell? ⟨gr, 0, none⟩ = some (.int .u8 3) := cell_lit hW3 0 rfl
    have d1 : w3.cell? ⟨gr, 1, none⟩ = some (.int .u16 0) := cell_lit hW3 1 rfl
    clear hW3
    go_wp2_with fail
    refine (HW.out _ HK3.out).mono ?_; rintro e w5 ⟨rfl, hk5⟩
    have HK5 := Lib.hid (HK3.out.trans hk5 (FSub.refl _ _))
    clear hk5
    go_wp2_with fail
    go_ret
    exact ⟨rfl, HK5.out⟩
  · rw [hw.2.2.2.2.2] at HS
    have t4 : decide (s ≤ 16) = true := decide_eq_true (by omega)
    clear hw hs hc
    go_enter Tryd.func7, Tryd.ntmps7
    go_wp2_with fail
    refine (HS.out _ (HG.out _ HKB.out)).mono ?_; rintro e w2 ⟨rfl, hk2⟩
    have HK2 := Lib.hid (HKB.out.trans hk2 (FSub.refl _ _))
    clear hk2 HKB
    have HC2 := Lib.hid (show (w2.alloc (.cells #[.int .u8 0, .int .u16 0] 27)).heap[w2.heap.size]? = some (.cells (ansC ⟨0, 0⟩).toArray 27 (0, 0)) from heap_alloc_new w2 _)
    have HKA2 := Lib.hid (show Keeps [] w2 (w2.alloc (.cells #[.int .u8 0, .int .u16 0] 27)) from (Keeps.refl _ _).alloc _)
    go_wp2_with ((with_reducible refine wpList_putR12 (g := w2.heap.size) (old := ⟨0, 0⟩) ⟨4, 0⟩ ?_ ?_ HC2.out ?_); exact rfl; exact rfl)
    intro w3 hW3 hk3
    have HK3 := Lib.hid (HK2.out.trans (HKA2.out.trans' hk3 (by simp)) (FSub.refl _ _))
    clear hk3 HC2 HKA2 HK2
    generalize w2.heap.size = gr at *
    have d0 : w3.cell? ⟨gr, 0, none⟩ = some (.int .u8 4) := cell_lit hW3 0 rfl
    have d1 : w3.cell? ⟨gr, 1, none⟩ = some (.int .u16 0) := cell_lit hW3 1 rfl
    clear hW3
    go_wp2_with fail
    refine (HW.out _ HK3.out).mono ?_; rintro e w5 ⟨rfl, hk5⟩
    have HK5 := Lib.hid (HK3.out.trans hk5 (FSub.refl _ _))
    clear hk5
    go_wp2_with fail
    go_ret
    exact ⟨rfl, HK5.out⟩
  · rw [hw.2.2.2.2.2] at HS
    obtain rfl : s = c + 1 := hw.2.2.2.2.1
    have t3 : (0 != c + 1) = true := by simp; omega
    clear hw t1 t2 hs hc
    go_enter Tryd.func7, Tryd.ntmps7
    go_wp2_with fail
    refine (HS.out _ (HG.out _ HKB.out)).mono ?_; rintro e w2 ⟨rfl, hk2⟩
    have HK2 := Lib.hid (HKB.out.trans hk2 (FSub.refl _ _))
    clear hk2 HKB
    have HC2 := Lib.hid (show (w2.alloc (.cells #[.int .u8 0, .int .u16 0] 27)).heap[w2.heap.size]? = some (.cells (ansC ⟨0, 0⟩).toArray 27 (0, 0)) from heap_alloc_new w2 _)
    have HKA2 := Lib.hid (show Keeps [] w2 (w2.alloc (.cells #[.int .u8 0, .int .u16 0] 27)) from (Keeps.refl _ _).alloc _)
    go_wp2_with ((with_reducible refine wpList_putR12 (g := w2.heap.size) (old := ⟨0, 0⟩) ⟨3, 0⟩ ?_ ?_ HC2.out ?_); exact rfl; exact rfl)
    intro w3 hW3 hk3
    have HK3 := Lib.hid (HK2.out.trans (HKA2.out.trans' hk3 (by simp)) (FSub.refl _ _))
    clear hk3 HC2 HKA2 HK2
    generalize w2.heap.size = gr at *
    have d0 : w3.cell? ⟨gr, 0, none⟩ = some (.int .u8 3) := cell_lit hW3 0 rfl
    have d1 : w3.cell? ⟨gr, 1, none⟩ = some (.int .u16 0) := cell_lit hW3 1 rfl
    clear hW3
    go_wp2_with fail
    refine (HW.out _ HK3.out).mono ?_; rintro e w5 ⟨rfl, hk5⟩
    have HK5 := Lib.hid (HK3.out.trans hk5 (FSub.refl _ _))
    clear hk5
    go_wp2_with fail
    go_ret
    exact ⟨rfl, HK5.out⟩
  · rw [hw.2.2.2.2.2] at HS
    have t4 : decide (s ≤ 16) = true := decide_eq_true (by omega)
    clear hw hs hc
    go_enter Tryd.func7, Tryd.ntmps7
    go_wp2_with fail
    refine (HS.out _ (HG.out _ HKB.out)).mono ?_; rintro e w2 ⟨rfl, hk2⟩
    have HK2 := Lib.hid (HKB.out.trans hk2 (FSub.refl _ _))
    clear hk2 HKB
    have HC2 := Lib.hid (show (w2.alloc (.cells #[.int .u8 0, .int .u16 0] 27)).heap[w2.heap.size]? = some (.cells (ansC ⟨0, 0⟩).toArray 27 (0, 0)) from heap_alloc_new w2 _)
    have HKA2 := Lib.hid (show Keeps [] w2 (w2.alloc (.cells #[.int .u8 0, .int .u16 0] 27)) from (Keeps.refl _ _).alloc _)
    go_wp2_with ((with_reducible refine wpList_putR12 (g := w2.heap.size) (old := ⟨0, 0⟩) ⟨4, 0⟩ ?_ ?_ HC2.out ?_); exact rfl; exact rfl)
    intro w3 hW3 hk3
    have HK3 := Lib.hid (HK2.out.trans (HKA2.out.trans' hk3 (by simp)) (FSub.refl _ _))
    clear hk3 HC2 HKA2 HK2
    generalize w2.heap.size = gr at *
    have d0 : w3.cell? ⟨gr, 0, none⟩ = some (.int .u8 4) := cell_lit hW3 0 rfl
    have d1 : w3.cell? ⟨gr, 1, none⟩ = some (.int .u16 0) := cell_lit hW3 1 rfl
    clear hW3
    go_wp2_with fail
    refine (HW.out _ HK3.out).mono ?_; rintro e w5 ⟨rfl, hk5⟩
    have HK5 := Lib.hid (HK3.out.trans hk5 (FSub.refl _ _))
    clear hk5
    go_wp2_with fail
    go_ret
    exact ⟨rfl, HK5.out⟩
end Go.Proofs.YtbjhgdimciibcaaDoor
