/-
  The law BitsKnown, over any program's sets.
-/
import Derived.Test.YtbeniihbejakaaaDoorBN00
import Derived.Test.YtbeniihbejakaaaDoorBN22
import Derived.Test.YtbeniihbejakaaaDoorBN16
set_option linter.unusedSimpArgs false
set_option linter.unusedVariables false
namespace Go.Proofs.YtbeniihbejakaaaDoor
open Go.RowKit
set_option maxRecDepth 100000
set_option maxHeartbeats 8000000
variable {G : World → Prop}
theorem kn1 : ofB [0, 1, 3] = [0, 1, 3] := by decide
theorem kg0 : gapB [0, 1, 3] 0 = 2 := by decide +kernel
theorem kg3 : gapB [0, 1, 3] 3 = 4 := by decide +kernel
theorem kg5 : gapB [0, 1, 3] (-5) = 2 := by decide +kernel
theorem kg7 : gapB [0, 1, 3] 70000 = 70000 := by decide +kernel
theorem kn2 : ofB [1, 9] = [1, 9] := by decide
theorem kd1 : downB [1, 9] 1 = [0, 8] := by decide
theorem kdm : downB [0, 1, 3] (-1) = [0, 1, 3] := by decide
theorem kf1 : fromB [2, 2] = ([1, 9], 0) := by decide +kernel
theorem kf2 : fromB [2, 0] = ([], 4) := by decide +kernel
theorem kf3 : fromB [] = ([], 0) := by decide +kernel
theorem kf4 {k : List UInt8} (h : k.length = 8193) : fromB k = ([], 4) := if_pos (.inl (by omega))
theorem kn3 : ofB [65535] = [65535] := by decide
theorem kn4 : ofB [65536, -1] = [] := by decide
theorem kl : (keyB [65535]).length = 8192 := by rw [keyB_len]; rfl
theorem BitsKnown_any (R : BtProg G) (w : World) (hG : G w) : Calls Tryd.prog 5 #[] w fun e w' => e = .returned (.bool true) ∧ Keeps [] w w' := by
  have HGL := Lib.hid (fun w' (h : Keeps [] w w') => R.keepG hG h)
  clear hG
  go_enter Tryd.func5, Tryd.ntmps5
  go_wp2_with ((with_reducible refine wpList_litZ [0, 1, 3] ?_ ?_ ?_ (by decide) (by decide) ?_); exact rfl; exact rfl; exact rfl)
  intro w1 hz hk hI
  have HK := Lib.hid hk; have HI := Lib.hid hI
  clear hz hk hI
  generalize w.heap.size = ga at *
  go_wp2_with fail
  refine (R.of w1 _ [0, 1, 3] (HGL.out _ HK.out) HI.out (by decide)).mono ?_; rintro e w2 ⟨st, rfl, hat, hk, -⟩
  rw [kn1] at hat
  replace HK := Lib.hid (HK.out.trans hk (FSub.refl _ _))
  obtain ⟨A1, rfl, hok⟩ := R.cells hat
  have HO1 := Lib.hid hok; have H1 := Lib.hid hat
  clear hat hok hk HI
  have HNC := Lib.hid (show (w2.alloc (.cells btZA 27)).heap[w2.heap.size]? = some (.cells btZ.toArray 27 (0, 0)) from heap_alloc_new w2 _)
  have HNK := Lib.hid (show Keeps [] w2 (w2.alloc (.cells btZA 27)) from (Keeps.refl _ _).alloc _)
  go_wp2_with ((with_reducible refine wpList_putBt (g := w2.heap.size) (old := btZ) (A := A1) HO1.out btZ_ok ?_ ?_ HNC.out ?_); exact rfl; exact rfl)
  intro w3 hW hk2
  have hk := HNK.out.trans' hk2 (Nat.le_refl _)
  replace HK := Lib.hid (HK.out.trans hk (FSub.refl _ _)); replace H1 := Lib.hid (R.new H1.out hk)
  have HB1 := Lib.hid hW
  clear hk hW hk2 HNC HNK
  generalize w2.heap.size = g1 at *
  go_wp2_with fail
  refine (awake15_any R w3 (HGL.out _ HK.out)).mono ?_; rintro e w4 ⟨rfl, hk⟩
  replace HK := Lib.hid (HK.out.trans hk (FSub.refl _ _))
  try (replace H1 := Lib.hid (R.new H1.out hk); replace HB1 := Lib.hid (hk.heap HB1.out (by simp)))
  try (replace H2 := Lib.hid (R.new H2.out hk); replace HB2 := Lib.hid (hk.heap HB2.out (by simp)))
  try (replace H6 := Lib.hid (R.new H6.out hk); replace HB6 := Lib.hid (hk.heap HB6.out (by simp)))
  try replace HT := Lib.hid (R.new HT.out hk)
  try replace HI := Lib.hid ((HI.out.new hk (Nat.le_refl _)).more hk.size)
  try replace HB10 := Lib.hid (hk.heap HB10.out (by simp))
  clear hk
  go_wp2_with ((with_reducible refine wpList_loadBt (g := g1) HO1.out ?_ ?_ (block_range HB1.out) ?_); exact rfl; exact rfl)
  refine (R.gap _ _ _ (0) (HGL.out _ HK.out) H1.out (by unfold I64; omega)).mono ?_; rintro e wc ⟨rfl, hk⟩
  rw [kg0]
  replace HK := Lib.hid (HK.out.trans hk (FSub.refl _ _))
  try (replace H1 := Lib.hid (R.new H1.out hk); replace HB1 := Lib.hid (hk.heap HB1.out (by simp)))
  try (replace H2 := Lib.hid (R.new H2.out hk); replace HB2 := Lib.hid (hk.heap HB2.out (by simp)))
  try (replace H6 := Lib.hid (R.new H6.out hk); replace HB6 := Lib.hid (hk.heap HB6.out (by simp)))
  try replace HT := Lib.hid (R.new HT.out hk)
  try replace HI := Lib.hid ((HI.out.new hk (Nat.le_refl _)).more hk.size)
  try replace HB10 := Lib.hid (hk.heap HB10.out (by simp))
  clear hk
  go_wp2_with ((with_reducible refine wpList_loadBt (g := g1) HO1.out ?_ ?_ (block_range HB1.out) ?_); exact rfl; exact rfl)
  refine (R.gap _ _ _ (3) (HGL.out _ HK.out) H1.out (by unfold I64; omega)).mono ?_; rintro e wc ⟨rfl, hk⟩
  rw [kg3]
  replace HK := Lib.hid (HK.out.trans hk (FSub.refl _ _))
  try (replace H1 := Lib.hid (R.new H1.out hk); replace HB1 := Lib.hid (hk.heap HB1.out (by simp)))
  try (replace H2 := Lib.hid (R.new H2.out hk); replace HB2 := Lib.hid (hk.heap HB2.out (by simp)))
  try (replace H6 := Lib.hid (R.new H6.out hk); replace HB6 := Lib.hid (hk.heap HB6.out (by simp)))
  try replace HT := Lib.hid (R.new HT.out hk)
  try replace HI := Lib.hid ((HI.out.new hk (Nat.le_refl _)).more hk.size)
  try replace HB10 := Lib.hid (hk.heap HB10.out (by simp))
  clear hk
  go_wp2_with ((with_reducible refine wpList_loadBt (g := g1) HO1.out ?_ ?_ (block_range HB1.out) ?_); exact rfl; exact rfl)
  refine (R.gap _ _ _ (-5) (HGL.out _ HK.out) H1.out (by unfold I64; omega)).mono ?_; rintro e wc ⟨rfl, hk⟩
  rw [kg5]
  replace HK := Lib.hid (HK.out.trans hk (FSub.refl _ _))
  try (replace H1 := Lib.hid (R.new H1.out hk); replace HB1 := Lib.hid (hk.heap HB1.out (by simp)))
  try (replace H2 := Lib.hid (R.new H2.out hk); replace HB2 := Lib.hid (hk.heap HB2.out (by simp)))
  try (replace H6 := Lib.hid (R.new H6.out hk); replace HB6 := Lib.hid (hk.heap HB6.out (by simp)))
  try replace HT := Lib.hid (R.new HT.out hk)
  try replace HI := Lib.hid ((HI.out.new hk (Nat.le_refl _)).more hk.size)
  try replace HB10 := Lib.hid (hk.heap HB10.out (by simp))
  clear hk
  go_wp2_with ((with_reducible refine wpList_loadBt (g := g1) HO1.out ?_ ?_ (block_range HB1.out) ?_); exact rfl; exact rfl)
  refine (R.gap _ _ _ (70000) (HGL.out _ HK.out) H1.out (by unfold I64; omega)).mono ?_; rintro e wc ⟨rfl, hk⟩
  rw [kg7]
  replace HK := Lib.hid (HK.out.trans hk (FSub.refl _ _))
  try (replace H1 := Lib.hid (R.new H1.out hk); replace HB1 := Lib.hid (hk.heap HB1.out (by simp)))
  try (replace H2 := Lib.hid (R.new H2.out hk); replace HB2 := Lib.hid (hk.heap HB2.out (by simp)))
  try (replace H6 := Lib.hid (R.new H6.out hk); replace HB6 := Lib.hid (hk.heap HB6.out (by simp)))
  try replace HT := Lib.hid (R.new HT.out hk)
  try replace HI := Lib.hid ((HI.out.new hk (Nat.le_refl _)).more hk.size)
  try replace HB10 := Lib.hid (hk.heap HB10.out (by simp))
  clear hk
  go_wp2_with (first | ((with_reducible refine wpList_loadBt (g := g1) HO1.out ?_ ?_ (block_range HB1.out) ?_); exact rfl; exact rfl) | ((with_reducible refine wpList_litZ [1, 9] ?_ ?_ ?_ (by decide) (by decide) ?_); exact rfl; exact rfl; exact rfl))
  intro wl hz hk hI
  replace HK := Lib.hid (HK.out.trans hk (FSub.refl _ _))
  try (replace H1 := Lib.hid (R.new H1.out hk); replace HB1 := Lib.hid (hk.heap HB1.out (by simp)))
  try (replace H2 := Lib.hid (R.new H2.out hk); replace HB2 := Lib.hid (hk.heap HB2.out (by simp)))
  try (replace H6 := Lib.hid (R.new H6.out hk); replace HB6 := Lib.hid (hk.heap HB6.out (by simp)))
  try replace HT := Lib.hid (R.new HT.out hk)
  try replace HI := Lib.hid ((HI.out.new hk (Nat.le_refl _)).more hk.size)
  try replace HB10 := Lib.hid (hk.heap HB10.out (by simp))
  have HI := Lib.hid hI
  clear hz hk hI
  generalize wc.heap.size = gl at *
  go_wp2_with fail
  refine (R.of _ _ [1, 9] (HGL.out _ HK.out) HI.out (by decide)).mono ?_; rintro e wc ⟨st, rfl, hat, hk, -⟩
  rw [kn2] at hat
  replace HK := Lib.hid (HK.out.trans hk (FSub.refl _ _))
  try (replace H1 := Lib.hid (R.new H1.out hk); replace HB1 := Lib.hid (hk.heap HB1.out (by simp)))
  try (replace H2 := Lib.hid (R.new H2.out hk); replace HB2 := Lib.hid (hk.heap HB2.out (by simp)))
  try (replace H6 := Lib.hid (R.new H6.out hk); replace HB6 := Lib.hid (hk.heap HB6.out (by simp)))
  try replace HT := Lib.hid (R.new HT.out hk)
  try replace HI := Lib.hid ((HI.out.new hk (Nat.le_refl _)).more hk.size)
  try replace HB10 := Lib.hid (hk.heap HB10.out (by simp))
  have HT := Lib.hid hat
  clear hat hk HI
  go_wp2_with fail
  refine (R.down _ _ _ 1 (HGL.out _ HK.out) HT.out (by unfold I64; omega)).mono ?_; rintro e wc ⟨st, rfl, hat, hk, -⟩
  rw [kd1] at hat
  replace HK := Lib.hid (HK.out.trans hk (FSub.refl _ _))
  try (replace H1 := Lib.hid (R.new H1.out hk); replace HB1 := Lib.hid (hk.heap HB1.out (by simp)))
  try (replace H2 := Lib.hid (R.new H2.out hk); replace HB2 := Lib.hid (hk.heap HB2.out (by simp)))
  try (replace H6 := Lib.hid (R.new H6.out hk); replace HB6 := Lib.hid (hk.heap HB6.out (by simp)))
  try replace HT := Lib.hid (R.new HT.out hk)
  try replace HI := Lib.hid ((HI.out.new hk (Nat.le_refl _)).more hk.size)
  try replace HB10 := Lib.hid (hk.heap HB10.out (by simp))
  obtain ⟨A4, rfl, -⟩ := R.cells hat
  replace HT := Lib.hid hat
  clear hat hk
  go_wp2_with (first | ((with_reducible refine wpList_loadBt (g := g1) HO1.out ?_ ?_ (block_range HB1.out) ?_); exact rfl; exact rfl) | ((with_reducible refine wpList_litZ [0, 8] ?_ ?_ ?_ (by decide) (by decide) ?_); exact rfl; exact rfl; exact rfl))
  intro wl hz hk hI
  replace HK := Lib.hid (HK.out.trans hk (FSub.refl _ _))
  try (replace H1 := Lib.hid (R.new H1.out hk); replace HB1 := Lib.hid (hk.heap HB1.out (by simp)))
  try (replace H2 := Lib.hid (R.new H2.out hk); replace HB2 := Lib.hid (hk.heap HB2.out (by simp)))
  try (replace H6 := Lib.hid (R.new H6.out hk); replace HB6 := Lib.hid (hk.heap HB6.out (by simp)))
  try replace HT := Lib.hid (R.new HT.out hk)
  try replace HI := Lib.hid ((HI.out.new hk (Nat.le_refl _)).more hk.size)
  try replace HB10 := Lib.hid (hk.heap HB10.out (by simp))
  have HI := Lib.hid hI
  clear hz hk hI
  generalize wc.heap.size = gl at *
  go_wp2_with fail
  refine (is15_true R _ (HGL.out _ HK.out) HT.out HI.out).mono ?_; rintro e wc ⟨rfl, hk⟩
  replace HK := Lib.hid (HK.out.trans hk (FSub.refl _ _))
  try (replace H1 := Lib.hid (R.new H1.out hk); replace HB1 := Lib.hid (hk.heap HB1.out (by simp)))
  try (replace H2 := Lib.hid (R.new H2.out hk); replace HB2 := Lib.hid (hk.heap HB2.out (by simp)))
  try (replace H6 := Lib.hid (R.new H6.out hk); replace HB6 := Lib.hid (hk.heap HB6.out (by simp)))
  try replace HT := Lib.hid (R.new HT.out hk)
  try replace HI := Lib.hid ((HI.out.new hk (Nat.le_refl _)).more hk.size)
  try replace HB10 := Lib.hid (hk.heap HB10.out (by simp))
  clear hk HI HT
  go_wp2_with ((with_reducible refine wpList_loadBt (g := g1) HO1.out ?_ ?_ (block_range HB1.out) ?_); exact rfl; exact rfl)
  refine (R.down _ _ _ (-1) (HGL.out _ HK.out) H1.out (by unfold I64; omega)).mono ?_; rintro e wc ⟨st, rfl, hat, hk, -⟩
  rw [kdm] at hat
  replace HK := Lib.hid (HK.out.trans hk (FSub.refl _ _))
  try (replace H1 := Lib.hid (R.new H1.out hk); replace HB1 := Lib.hid (hk.heap HB1.out (by simp)))
  try (replace H2 := Lib.hid (R.new H2.out hk); replace HB2 := Lib.hid (hk.heap HB2.out (by simp)))
  try (replace H6 := Lib.hid (R.new H6.out hk); replace HB6 := Lib.hid (hk.heap HB6.out (by simp)))
  try replace HT := Lib.hid (R.new HT.out hk)
  try replace HI := Lib.hid ((HI.out.new hk (Nat.le_refl _)).more hk.size)
  try replace HB10 := Lib.hid (hk.heap HB10.out (by simp))
  obtain ⟨A4, rfl, -⟩ := R.cells hat
  have HT := Lib.hid hat
  clear hat hk
  go_wp2_with (first | ((with_reducible refine wpList_loadBt (g := g1) HO1.out ?_ ?_ (block_range HB1.out) ?_); exact rfl; exact rfl) | ((with_reducible refine wpList_litZ [0, 1, 3] ?_ ?_ ?_ (by decide) (by decide) ?_); exact rfl; exact rfl; exact rfl))
  intro wl hz hk hI
  replace HK := Lib.hid (HK.out.trans hk (FSub.refl _ _))
  try (replace H1 := Lib.hid (R.new H1.out hk); replace HB1 := Lib.hid (hk.heap HB1.out (by simp)))
  try (replace H2 := Lib.hid (R.new H2.out hk); replace HB2 := Lib.hid (hk.heap HB2.out (by simp)))
  try (replace H6 := Lib.hid (R.new H6.out hk); replace HB6 := Lib.hid (hk.heap HB6.out (by simp)))
  try replace HT := Lib.hid (R.new HT.out hk)
  try replace HI := Lib.hid ((HI.out.new hk (Nat.le_refl _)).more hk.size)
  try replace HB10 := Lib.hid (hk.heap HB10.out (by simp))
  have HI := Lib.hid hI
  clear hz hk hI
  generalize wc.heap.size = gl at *
  go_wp2_with fail
  refine (is15_true R _ (HGL.out _ HK.out) HT.out HI.out).mono ?_; rintro e wc ⟨rfl, hk⟩
  replace HK := Lib.hid (HK.out.trans hk (FSub.refl _ _))
  try (replace H1 := Lib.hid (R.new H1.out hk); replace HB1 := Lib.hid (hk.heap HB1.out (by simp)))
  try (replace H2 := Lib.hid (R.new H2.out hk); replace HB2 := Lib.hid (hk.heap HB2.out (by simp)))
  try (replace H6 := Lib.hid (R.new H6.out hk); replace HB6 := Lib.hid (hk.heap HB6.out (by simp)))
  try replace HT := Lib.hid (R.new HT.out hk)
  try replace HI := Lib.hid ((HI.out.new hk (Nat.le_refl _)).more hk.size)
  try replace HB10 := Lib.hid (hk.heap HB10.out (by simp))
  clear hk HI HT
  go_wp2_with fail
  refine (R.fromKey _ [2, 2] (HGL.out _ HK.out) (by decide)).mono ?_; rintro e wc ⟨st, rfl, hat, hk, -⟩
  rw [kf1] at hat
  rw [show (fromB [2, 2]).2 = _ from by rw [kf1]]
  replace HK := Lib.hid (HK.out.trans hk (FSub.refl _ _))
  try (replace H1 := Lib.hid (R.new H1.out hk); replace HB1 := Lib.hid (hk.heap HB1.out (by simp)))
  try (replace H2 := Lib.hid (R.new H2.out hk); replace HB2 := Lib.hid (hk.heap HB2.out (by simp)))
  try (replace H6 := Lib.hid (R.new H6.out hk); replace HB6 := Lib.hid (hk.heap HB6.out (by simp)))
  try replace HT := Lib.hid (R.new HT.out hk)
  try replace HI := Lib.hid ((HI.out.new hk (Nat.le_refl _)).more hk.size)
  try replace HB10 := Lib.hid (hk.heap HB10.out (by simp))
  obtain ⟨AF, rfl, hok⟩ := R.cells hat
  have HF := Lib.hid hat; have HOF := Lib.hid hok
  clear hat hok hk
  have HNC := Lib.hid (show (wc.alloc (.cells btZA 27)).heap[wc.heap.size]? = some (.cells btZ.toArray 27 (0, 0)) from heap_alloc_new wc _)
  have HNK := Lib.hid (show Keeps [] wc (wc.alloc (.cells btZA 27)) from (Keeps.refl _ _).alloc _)
  go_wp2_with ((with_reducible refine wpList_putBt (g := wc.heap.size) (old := btZ) (A := AF) HOF.out btZ_ok ?_ ?_ HNC.out ?_); exact rfl; exact rfl)
  intro wd hW hk2
  have hk := HNK.out.trans' hk2 (Nat.le_refl _)
  replace HK := Lib.hid (HK.out.trans hk (FSub.refl _ _))
  try (replace H1 := Lib.hid (R.new H1.out hk); replace HB1 := Lib.hid (hk.heap HB1.out (by simp)))
  try (replace H2 := Lib.hid (R.new H2.out hk); replace HB2 := Lib.hid (hk.heap HB2.out (by simp)))
  try (replace H6 := Lib.hid (R.new H6.out hk); replace HB6 := Lib.hid (hk.heap HB6.out (by simp)))
  try replace HT := Lib.hid (R.new HT.out hk)
  try replace HI := Lib.hid ((HI.out.new hk (Nat.le_refl _)).more hk.size)
  try replace HB10 := Lib.hid (hk.heap HB10.out (by simp))
  have HB2 := Lib.hid hW; have H2 := Lib.hid (R.new HF.out hk); have HO2 := HOF
  clear hk hW hk2 HNC HNK HF HOF
  generalize wc.heap.size = g2 at *
  go_wp2_with fail
  refine (R.fromKey _ [2, 0] (HGL.out _ HK.out) (by decide)).mono ?_; rintro e wc ⟨st, rfl, hat, hk, -⟩
  rw [kf2] at hat
  rw [show (fromB [2, 0]).2 = _ from by rw [kf2]]
  replace HK := Lib.hid (HK.out.trans hk (FSub.refl _ _))
  try (replace H1 := Lib.hid (R.new H1.out hk); replace HB1 := Lib.hid (hk.heap HB1.out (by simp)))
  try (replace H2 := Lib.hid (R.new H2.out hk); replace HB2 := Lib.hid (hk.heap HB2.out (by simp)))
  try (replace H6 := Lib.hid (R.new H6.out hk); replace HB6 := Lib.hid (hk.heap HB6.out (by simp)))
  try replace HT := Lib.hid (R.new HT.out hk)
  try replace HI := Lib.hid ((HI.out.new hk (Nat.le_refl _)).more hk.size)
  try replace HB10 := Lib.hid (hk.heap HB10.out (by simp))
  obtain ⟨AF, rfl, hok⟩ := R.cells hat
  have HF := Lib.hid hat; have HOF := Lib.hid hok
  clear hat hok hk
  have HNC := Lib.hid (show (wc.alloc (.cells btZA 27)).heap[wc.heap.size]? = some (.cells btZ.toArray 27 (0, 0)) from heap_alloc_new wc _)
  have HNK := Lib.hid (show Keeps [] wc (wc.alloc (.cells btZA 27)) from (Keeps.refl _ _).alloc _)
  go_wp2_with ((with_reducible refine wpList_putBt (g := wc.heap.size) (old := btZ) (A := AF) HOF.out btZ_ok ?_ ?_ HNC.out ?_); exact rfl; exact rfl)
  intro wd hW hk2
  have hk := HNK.out.trans' hk2 (Nat.le_refl _)
  replace HK := Lib.hid (HK.out.trans hk (FSub.refl _ _))
  try (replace H1 := Lib.hid (R.new H1.out hk); replace HB1 := Lib.hid (hk.heap HB1.out (by simp)))
  try (replace H2 := Lib.hid (R.new H2.out hk); replace HB2 := Lib.hid (hk.heap HB2.out (by simp)))
  try (replace H6 := Lib.hid (R.new H6.out hk); replace HB6 := Lib.hid (hk.heap HB6.out (by simp)))
  try replace HT := Lib.hid (R.new HT.out hk)
  try replace HI := Lib.hid ((HI.out.new hk (Nat.le_refl _)).more hk.size)
  try replace HB10 := Lib.hid (hk.heap HB10.out (by simp))
  have HB4 := Lib.hid hW; have H4 := Lib.hid (R.new HF.out hk); have HO4 := HOF
  clear hk hW hk2 HNC HNK HF HOF
  generalize wc.heap.size = g4 at *
  go_wp2_with fail
  refine (R.fromKey _ [] (HGL.out _ HK.out) (by decide)).mono ?_; rintro e wc ⟨st, rfl, hat, hk, -⟩
  rw [kf3] at hat
  rw [show (fromB []).2 = _ from by rw [kf3]]
  replace HK := Lib.hid (HK.out.trans hk (FSub.refl _ _))
  try (replace H1 := Lib.hid (R.new H1.out hk); replace HB1 := Lib.hid (hk.heap HB1.out (by simp)))
  try (replace H2 := Lib.hid (R.new H2.out hk); replace HB2 := Lib.hid (hk.heap HB2.out (by simp)))
  try (replace H6 := Lib.hid (R.new H6.out hk); replace HB6 := Lib.hid (hk.heap HB6.out (by simp)))
  try replace HT := Lib.hid (R.new HT.out hk)
  try replace HI := Lib.hid ((HI.out.new hk (Nat.le_refl _)).more hk.size)
  try replace HB10 := Lib.hid (hk.heap HB10.out (by simp))
  obtain ⟨AF, rfl, hok⟩ := R.cells hat
  have HF := Lib.hid hat; have HOF := Lib.hid hok
  clear hat hok hk
  have HNC := Lib.hid (show (wc.alloc (.cells btZA 27)).heap[wc.heap.size]? = some (.cells btZ.toArray 27 (0, 0)) from heap_alloc_new wc _)
  have HNK := Lib.hid (show Keeps [] wc (wc.alloc (.cells btZA 27)) from (Keeps.refl _ _).alloc _)
  go_wp2_with ((with_reducible refine wpList_putBt (g := wc.heap.size) (old := btZ) (A := AF) HOF.out btZ_ok ?_ ?_ HNC.out ?_); exact rfl; exact rfl)
  intro wd hW hk2
  have hk := HNK.out.trans' hk2 (Nat.le_refl _)
  replace HK := Lib.hid (HK.out.trans hk (FSub.refl _ _))
  try (replace H1 := Lib.hid (R.new H1.out hk); replace HB1 := Lib.hid (hk.heap HB1.out (by simp)))
  try (replace H2 := Lib.hid (R.new H2.out hk); replace HB2 := Lib.hid (hk.heap HB2.out (by simp)))
  try (replace H6 := Lib.hid (R.new H6.out hk); replace HB6 := Lib.hid (hk.heap HB6.out (by simp)))
  try replace HT := Lib.hid (R.new HT.out hk)
  try replace HI := Lib.hid ((HI.out.new hk (Nat.le_refl _)).more hk.size)
  try replace HB10 := Lib.hid (hk.heap HB10.out (by simp))
  have HB6 := Lib.hid hW; have H6 := Lib.hid (R.new HF.out hk); have HO6 := HOF
  clear hk hW hk2 HNC HNK HF HOF
  generalize wc.heap.size = g6 at *
  go_wp2_with fail
  obtain ⟨k8, hk8⟩ : ∃ k8, k8 = Lib.repeatL [1] 8193 := ⟨_, rfl⟩
  have hk8l : k8.length = 8193 := by rw [hk8, Lib.repeatL_length]; rfl
  have HRP := Tryd.strings_Repeat (bs [1]) 8193 wd (by decide) (by decide)
  rw [bs_list, ← hk8] at HRP
  refine HRP.mono ?_; rintro e wr ⟨rfl, hbel⟩
  have hk : Keeps [] wd wr := ⟨hbel.os, hbel.tape, hbel.output, hbel.size, fun k hk _ => hbel.block k hk⟩
  replace HK := Lib.hid (HK.out.trans hk (FSub.refl _ _))
  try (replace H1 := Lib.hid (R.new H1.out hk); replace HB1 := Lib.hid (hk.heap HB1.out (by simp)))
  try (replace H2 := Lib.hid (R.new H2.out hk); replace HB2 := Lib.hid (hk.heap HB2.out (by simp)))
  try (replace H6 := Lib.hid (R.new H6.out hk); replace HB6 := Lib.hid (hk.heap HB6.out (by simp)))
  try replace HT := Lib.hid (R.new HT.out hk)
  try replace HI := Lib.hid ((HI.out.new hk (Nat.le_refl _)).more hk.size)
  try replace HB10 := Lib.hid (hk.heap HB10.out (by simp))
  clear hk hbel HRP hk8
  go_wp2_with fail
  refine (R.fromKey _ k8 (HGL.out _ HK.out) (by omega)).mono ?_; rintro e wc ⟨st, rfl, hat, hk, -⟩
  rw [kf4 hk8l] at hat
  rw [show (fromB k8).2 = 4 from by rw [kf4 hk8l]]
  replace HK := Lib.hid (HK.out.trans hk (FSub.refl _ _))
  try (replace H1 := Lib.hid (R.new H1.out hk); replace HB1 := Lib.hid (hk.heap HB1.out (by simp)))
  try (replace H2 := Lib.hid (R.new H2.out hk); replace HB2 := Lib.hid (hk.heap HB2.out (by simp)))
  try (replace H6 := Lib.hid (R.new H6.out hk); replace HB6 := Lib.hid (hk.heap HB6.out (by simp)))
  try replace HT := Lib.hid (R.new HT.out hk)
  try replace HI := Lib.hid ((HI.out.new hk (Nat.le_refl _)).more hk.size)
  try replace HB10 := Lib.hid (hk.heap HB10.out (by simp))
  obtain ⟨AF, rfl, hok⟩ := R.cells hat
  have HF := Lib.hid hat; have HOF := Lib.hid hok
  clear hat hok hk hk8l
  have HNC := Lib.hid (show (wc.alloc (.cells btZA 27)).heap[wc.heap.size]? = some (.cells btZ.toArray 27 (0, 0)) from heap_alloc_new wc _)
  have HNK := Lib.hid (show Keeps [] wc (wc.alloc (.cells btZA 27)) from (Keeps.refl _ _).alloc _)
  go_wp2_with ((with_reducible refine wpList_putBt (g := wc.heap.size) (old := btZ) (A := AF) HOF.out btZ_ok ?_ ?_ HNC.out ?_); exact rfl; exact rfl)
  intro wd hW hk2
  have hk := HNK.out.trans' hk2 (Nat.le_refl _)
  replace HK := Lib.hid (HK.out.trans hk (FSub.refl _ _))
  try (replace H1 := Lib.hid (R.new H1.out hk); replace HB1 := Lib.hid (hk.heap HB1.out (by simp)))
  try (replace H2 := Lib.hid (R.new H2.out hk); replace HB2 := Lib.hid (hk.heap HB2.out (by simp)))
  try (replace H6 := Lib.hid (R.new H6.out hk); replace HB6 := Lib.hid (hk.heap HB6.out (by simp)))
  try replace HT := Lib.hid (R.new HT.out hk)
  try replace HI := Lib.hid ((HI.out.new hk (Nat.le_refl _)).more hk.size)
  try replace HB10 := Lib.hid (hk.heap HB10.out (by simp))
  have HB8 := Lib.hid hW; have H8 := Lib.hid (R.new HF.out hk); have HO8 := HOF
  clear hk hW hk2 HNC HNK HF HOF
  generalize wc.heap.size = g8 at *
  clear wc
  obtain ⟨wc, hwc⟩ : ∃ x, x = wd := ⟨_, rfl⟩
  subst hwc
  have HF := Lib.hid (R.zero wc)
  have HOF := Lib.hid btZ_ok
  obtain ⟨AF, hAF⟩ : ∃ A, A = btZ := ⟨_, rfl⟩
  have HNC := Lib.hid (show (wc.alloc (.cells btZA 27)).heap[wc.heap.size]? = some (.cells btZ.toArray 27 (0, 0)) from heap_alloc_new wc _)
  have HNK := Lib.hid (show Keeps [] wc (wc.alloc (.cells btZA 27)) from (Keeps.refl _ _).alloc _)
  go_wp2_with ((with_reducible refine wpList_putBt (g := wc.heap.size) (old := btZ) (A := btZ) btZ_ok btZ_ok ?_ ?_ HNC.out ?_); exact rfl; exact rfl)
  intro wd hW hk2
  have hk := HNK.out.trans' hk2 (Nat.le_refl _)
  replace HK := Lib.hid (HK.out.trans hk (FSub.refl _ _))
  try (replace H1 := Lib.hid (R.new H1.out hk); replace HB1 := Lib.hid (hk.heap HB1.out (by simp)))
  try (replace H2 := Lib.hid (R.new H2.out hk); replace HB2 := Lib.hid (hk.heap HB2.out (by simp)))
  try (replace H6 := Lib.hid (R.new H6.out hk); replace HB6 := Lib.hid (hk.heap HB6.out (by simp)))
  try replace HT := Lib.hid (R.new HT.out hk)
  try replace HI := Lib.hid ((HI.out.new hk (Nat.le_refl _)).more hk.size)
  try replace HB10 := Lib.hid (hk.heap HB10.out (by simp))
  have HB10 := Lib.hid hW
  clear hk hW hk2 HNC HNK HF HOF hAF
  generalize wc.heap.size = g10 at *
  (first | go_values | go_skip | go_guarded | go_step | go_upon)
  (first | go_values | go_skip | go_guarded | go_step | go_upon)
  (first | go_values | go_skip | go_guarded | go_step | go_upon)
  (first | go_values | go_skip | go_guarded | go_step | go_upon)
  simp only [List.append_eq, List.cons_append, List.nil_append]
  refine wp_region_lit ?_
  refine wpList_loadBt (g := g2) HO2.out ?_ ?_ (block_range HB2.out) ?_
  · exact rfl
  · exact rfl
  simp only [Act.put, lsA, lsZ, lsS]
  go_wp2_with (first
    | ((with_reducible refine wpList_loadBt (g := g1) HO1.out ?_ ?_ (block_range HB1.out) ?_); exact rfl; exact rfl)
    | ((with_reducible refine wpList_loadBt (g := g2) HO2.out ?_ ?_ (block_range HB2.out) ?_); exact rfl; exact rfl)
    | ((with_reducible refine wpList_loadBt (g := g6) HO6.out ?_ ?_ (block_range HB6.out) ?_); exact rfl; exact rfl)
    | ((with_reducible refine wpList_loadBt (g := g10) btZ_ok ?_ ?_ (block_range HB10.out) ?_); exact rfl; exact rfl)
    | ((with_reducible refine wpList_litZ [1, 9] ?_ ?_ ?_ (by decide) (by decide) ?_); exact rfl; exact rfl; exact rfl))
  intro wl hz hk hI
  replace HK := Lib.hid (HK.out.trans hk (FSub.refl _ _))
  try (replace H1 := Lib.hid (R.new H1.out hk); replace HB1 := Lib.hid (hk.heap HB1.out (by simp)))
  try (replace H2 := Lib.hid (R.new H2.out hk); replace HB2 := Lib.hid (hk.heap HB2.out (by simp)))
  try (replace H6 := Lib.hid (R.new H6.out hk); replace HB6 := Lib.hid (hk.heap HB6.out (by simp)))
  try replace HT := Lib.hid (R.new HT.out hk)
  try replace HI := Lib.hid ((HI.out.new hk (Nat.le_refl _)).more hk.size)
  try replace HB10 := Lib.hid (hk.heap HB10.out (by simp))
  have HI := Lib.hid hI
  clear hz hk hI
  generalize wd.heap.size = gl at *
  go_wp2_with fail
  refine (is15_true R _ (HGL.out _ HK.out) H2.out HI.out).mono ?_; rintro e wc ⟨rfl, hk⟩
  replace HK := Lib.hid (HK.out.trans hk (FSub.refl _ _))
  try (replace H1 := Lib.hid (R.new H1.out hk); replace HB1 := Lib.hid (hk.heap HB1.out (by simp)))
  try (replace H2 := Lib.hid (R.new H2.out hk); replace HB2 := Lib.hid (hk.heap HB2.out (by simp)))
  try (replace H6 := Lib.hid (R.new H6.out hk); replace HB6 := Lib.hid (hk.heap HB6.out (by simp)))
  try replace HT := Lib.hid (R.new HT.out hk)
  try replace HI := Lib.hid ((HI.out.new hk (Nat.le_refl _)).more hk.size)
  try replace HB10 := Lib.hid (hk.heap HB10.out (by simp))
  clear hk HI
  go_wp2_with (first
    | ((with_reducible refine wpList_loadBt (g := g1) HO1.out ?_ ?_ (block_range HB1.out) ?_); exact rfl; exact rfl)
    | ((with_reducible refine wpList_loadBt (g := g2) HO2.out ?_ ?_ (block_range HB2.out) ?_); exact rfl; exact rfl)
    | ((with_reducible refine wpList_loadBt (g := g6) HO6.out ?_ ?_ (block_range HB6.out) ?_); exact rfl; exact rfl)
    | ((with_reducible refine wpList_loadBt (g := g10) btZ_ok ?_ ?_ (block_range HB10.out) ?_); exact rfl; exact rfl)
    | ((with_reducible refine wpList_litZ [7] ?_ ?_ ?_ (by decide) (by decide) ?_); exact rfl; exact rfl; exact rfl))
  refine (is15_true R _ (HGL.out _ HK.out) H6.out (nil_in _ rkZ)).mono ?_; rintro e wc ⟨rfl, hk⟩
  replace HK := Lib.hid (HK.out.trans hk (FSub.refl _ _))
  try (replace H1 := Lib.hid (R.new H1.out hk); replace HB1 := Lib.hid (hk.heap HB1.out (by simp)))
  try (replace H2 := Lib.hid (R.new H2.out hk); replace HB2 := Lib.hid (hk.heap HB2.out (by simp)))
  try (replace H6 := Lib.hid (R.new H6.out hk); replace HB6 := Lib.hid (hk.heap HB6.out (by simp)))
  try replace HT := Lib.hid (R.new HT.out hk)
  try replace HI := Lib.hid ((HI.out.new hk (Nat.le_refl _)).more hk.size)
  try replace HB10 := Lib.hid (hk.heap HB10.out (by simp))
  clear hk
  go_wp2_with (first
    | ((with_reducible refine wpList_loadBt (g := g1) HO1.out ?_ ?_ (block_range HB1.out) ?_); exact rfl; exact rfl)
    | ((with_reducible refine wpList_loadBt (g := g2) HO2.out ?_ ?_ (block_range HB2.out) ?_); exact rfl; exact rfl)
    | ((with_reducible refine wpList_loadBt (g := g6) HO6.out ?_ ?_ (block_range HB6.out) ?_); exact rfl; exact rfl)
    | ((with_reducible refine wpList_loadBt (g := g10) btZ_ok ?_ ?_ (block_range HB10.out) ?_); exact rfl; exact rfl)
    | ((with_reducible refine wpList_litZ [7] ?_ ?_ ?_ (by decide) (by decide) ?_); exact rfl; exact rfl; exact rfl))
  have hTD := R.key wc _ _ (HGL.out _ HK.out) (R.zero wc)
  rw [show bs (keyB []) = { data := #[] } by rfl] at hTD
  refine hTD.mono ?_; rintro e wc ⟨rfl, hk⟩
  replace HK := Lib.hid (HK.out.trans hk (FSub.refl _ _))
  try (replace H1 := Lib.hid (R.new H1.out hk); replace HB1 := Lib.hid (hk.heap HB1.out (by simp)))
  try (replace H2 := Lib.hid (R.new H2.out hk); replace HB2 := Lib.hid (hk.heap HB2.out (by simp)))
  try (replace H6 := Lib.hid (R.new H6.out hk); replace HB6 := Lib.hid (hk.heap HB6.out (by simp)))
  try replace HT := Lib.hid (R.new HT.out hk)
  try replace HI := Lib.hid ((HI.out.new hk (Nat.le_refl _)).more hk.size)
  try replace HB10 := Lib.hid (hk.heap HB10.out (by simp))
  clear hk hTD
  go_wp2_with (first
    | ((with_reducible refine wpList_loadBt (g := g1) HO1.out ?_ ?_ (block_range HB1.out) ?_); exact rfl; exact rfl)
    | ((with_reducible refine wpList_loadBt (g := g2) HO2.out ?_ ?_ (block_range HB2.out) ?_); exact rfl; exact rfl)
    | ((with_reducible refine wpList_loadBt (g := g6) HO6.out ?_ ?_ (block_range HB6.out) ?_); exact rfl; exact rfl)
    | ((with_reducible refine wpList_loadBt (g := g10) btZ_ok ?_ ?_ (block_range HB10.out) ?_); exact rfl; exact rfl)
    | ((with_reducible refine wpList_litZ [7] ?_ ?_ ?_ (by decide) (by decide) ?_); exact rfl; exact rfl; exact rfl))
  refine (R.least wc _ _ (HGL.out _ HK.out) (R.zero wc)).mono ?_; rintro e wc ⟨rfl, hk⟩
  rw [show leastB [] = -1 from rfl]
  replace HK := Lib.hid (HK.out.trans hk (FSub.refl _ _))
  try (replace H1 := Lib.hid (R.new H1.out hk); replace HB1 := Lib.hid (hk.heap HB1.out (by simp)))
  try (replace H2 := Lib.hid (R.new H2.out hk); replace HB2 := Lib.hid (hk.heap HB2.out (by simp)))
  try (replace H6 := Lib.hid (R.new H6.out hk); replace HB6 := Lib.hid (hk.heap HB6.out (by simp)))
  try replace HT := Lib.hid (R.new HT.out hk)
  try replace HI := Lib.hid ((HI.out.new hk (Nat.le_refl _)).more hk.size)
  try replace HB10 := Lib.hid (hk.heap HB10.out (by simp))
  clear hk
  go_wp2_with (first
    | ((with_reducible refine wpList_loadBt (g := g1) HO1.out ?_ ?_ (block_range HB1.out) ?_); exact rfl; exact rfl)
    | ((with_reducible refine wpList_loadBt (g := g2) HO2.out ?_ ?_ (block_range HB2.out) ?_); exact rfl; exact rfl)
    | ((with_reducible refine wpList_loadBt (g := g6) HO6.out ?_ ?_ (block_range HB6.out) ?_); exact rfl; exact rfl)
    | ((with_reducible refine wpList_loadBt (g := g10) btZ_ok ?_ ?_ (block_range HB10.out) ?_); exact rfl; exact rfl)
    | ((with_reducible refine wpList_litZ [7] ?_ ?_ ?_ (by decide) (by decide) ?_); exact rfl; exact rfl; exact rfl))
  refine (R.has wc _ _ 0 (HGL.out _ HK.out) (R.zero wc) (by unfold I64; omega)).mono ?_; rintro e wc ⟨rfl, hk⟩
  rw [show decide ((0 : Int) ∈ ([] : List Int)) = false by decide]
  replace HK := Lib.hid (HK.out.trans hk (FSub.refl _ _))
  try (replace H1 := Lib.hid (R.new H1.out hk); replace HB1 := Lib.hid (hk.heap HB1.out (by simp)))
  try (replace H2 := Lib.hid (R.new H2.out hk); replace HB2 := Lib.hid (hk.heap HB2.out (by simp)))
  try (replace H6 := Lib.hid (R.new H6.out hk); replace HB6 := Lib.hid (hk.heap HB6.out (by simp)))
  try replace HT := Lib.hid (R.new HT.out hk)
  try replace HI := Lib.hid ((HI.out.new hk (Nat.le_refl _)).more hk.size)
  try replace HB10 := Lib.hid (hk.heap HB10.out (by simp))
  clear hk
  go_wp2_with (first
    | ((with_reducible refine wpList_loadBt (g := g1) HO1.out ?_ ?_ (block_range HB1.out) ?_); exact rfl; exact rfl)
    | ((with_reducible refine wpList_loadBt (g := g2) HO2.out ?_ ?_ (block_range HB2.out) ?_); exact rfl; exact rfl)
    | ((with_reducible refine wpList_loadBt (g := g6) HO6.out ?_ ?_ (block_range HB6.out) ?_); exact rfl; exact rfl)
    | ((with_reducible refine wpList_loadBt (g := g10) btZ_ok ?_ ?_ (block_range HB10.out) ?_); exact rfl; exact rfl)
    | ((with_reducible refine wpList_litZ [7] ?_ ?_ ?_ (by decide) (by decide) ?_); exact rfl; exact rfl; exact rfl))
  refine (R.within wc _ _ _ _ (HGL.out _ HK.out) (R.zero wc) (R.zero wc)).mono ?_; rintro e wc ⟨rfl, hk⟩
  rw [show withinB [] [] = true from rfl]
  replace HK := Lib.hid (HK.out.trans hk (FSub.refl _ _))
  try (replace H1 := Lib.hid (R.new H1.out hk); replace HB1 := Lib.hid (hk.heap HB1.out (by simp)))
  try (replace H2 := Lib.hid (R.new H2.out hk); replace HB2 := Lib.hid (hk.heap HB2.out (by simp)))
  try (replace H6 := Lib.hid (R.new H6.out hk); replace HB6 := Lib.hid (hk.heap HB6.out (by simp)))
  try replace HT := Lib.hid (R.new HT.out hk)
  try replace HI := Lib.hid ((HI.out.new hk (Nat.le_refl _)).more hk.size)
  try replace HB10 := Lib.hid (hk.heap HB10.out (by simp))
  clear hk
  go_wp2_with (first
    | ((with_reducible refine wpList_loadBt (g := g1) HO1.out ?_ ?_ (block_range HB1.out) ?_); exact rfl; exact rfl)
    | ((with_reducible refine wpList_loadBt (g := g2) HO2.out ?_ ?_ (block_range HB2.out) ?_); exact rfl; exact rfl)
    | ((with_reducible refine wpList_loadBt (g := g6) HO6.out ?_ ?_ (block_range HB6.out) ?_); exact rfl; exact rfl)
    | ((with_reducible refine wpList_loadBt (g := g10) btZ_ok ?_ ?_ (block_range HB10.out) ?_); exact rfl; exact rfl)
    | ((with_reducible refine wpList_litZ [7] ?_ ?_ ?_ (by decide) (by decide) ?_); exact rfl; exact rfl; exact rfl))
  refine (R.has wc _ _ (-1) (HGL.out _ HK.out) H1.out (by unfold I64; omega)).mono ?_; rintro e wc ⟨rfl, hk⟩
  rw [show decide ((-1 : Int) ∈ ([0, 1, 3] : List Int)) = false by decide]
  replace HK := Lib.hid (HK.out.trans hk (FSub.refl _ _))
  try (replace H1 := Lib.hid (R.new H1.out hk); replace HB1 := Lib.hid (hk.heap HB1.out (by simp)))
  try (replace H2 := Lib.hid (R.new H2.out hk); replace HB2 := Lib.hid (hk.heap HB2.out (by simp)))
  try (replace H6 := Lib.hid (R.new H6.out hk); replace HB6 := Lib.hid (hk.heap HB6.out (by simp)))
  try replace HT := Lib.hid (R.new HT.out hk)
  try replace HI := Lib.hid ((HI.out.new hk (Nat.le_refl _)).more hk.size)
  try replace HB10 := Lib.hid (hk.heap HB10.out (by simp))
  clear hk
  go_wp2_with (first
    | ((with_reducible refine wpList_loadBt (g := g1) HO1.out ?_ ?_ (block_range HB1.out) ?_); exact rfl; exact rfl)
    | ((with_reducible refine wpList_loadBt (g := g2) HO2.out ?_ ?_ (block_range HB2.out) ?_); exact rfl; exact rfl)
    | ((with_reducible refine wpList_loadBt (g := g6) HO6.out ?_ ?_ (block_range HB6.out) ?_); exact rfl; exact rfl)
    | ((with_reducible refine wpList_loadBt (g := g10) btZ_ok ?_ ?_ (block_range HB10.out) ?_); exact rfl; exact rfl)
    | ((with_reducible refine wpList_litZ [7] ?_ ?_ ?_ (by decide) (by decide) ?_); exact rfl; exact rfl; exact rfl))
  refine (R.has wc _ _ 65536 (HGL.out _ HK.out) H1.out (by unfold I64; omega)).mono ?_; rintro e wc ⟨rfl, hk⟩
  rw [show decide ((65536 : Int) ∈ ([0, 1, 3] : List Int)) = false by decide]
  replace HK := Lib.hid (HK.out.trans hk (FSub.refl _ _))
  try (replace H1 := Lib.hid (R.new H1.out hk); replace HB1 := Lib.hid (hk.heap HB1.out (by simp)))
  try (replace H2 := Lib.hid (R.new H2.out hk); replace HB2 := Lib.hid (hk.heap HB2.out (by simp)))
  try (replace H6 := Lib.hid (R.new H6.out hk); replace HB6 := Lib.hid (hk.heap HB6.out (by simp)))
  try replace HT := Lib.hid (R.new HT.out hk)
  try replace HI := Lib.hid ((HI.out.new hk (Nat.le_refl _)).more hk.size)
  try replace HB10 := Lib.hid (hk.heap HB10.out (by simp))
  clear hk
  go_wp2_with (first
    | ((with_reducible refine wpList_loadBt (g := g1) HO1.out ?_ ?_ (block_range HB1.out) ?_); exact rfl; exact rfl)
    | ((with_reducible refine wpList_loadBt (g := g2) HO2.out ?_ ?_ (block_range HB2.out) ?_); exact rfl; exact rfl)
    | ((with_reducible refine wpList_loadBt (g := g6) HO6.out ?_ ?_ (block_range HB6.out) ?_); exact rfl; exact rfl)
    | ((with_reducible refine wpList_loadBt (g := g10) btZ_ok ?_ ?_ (block_range HB10.out) ?_); exact rfl; exact rfl)
    | ((with_reducible refine wpList_litZ [65535] ?_ ?_ ?_ (by decide) (by decide) ?_); exact rfl; exact rfl; exact rfl))
  intro wl hz hk hI
  replace HK := Lib.hid (HK.out.trans hk (FSub.refl _ _))
  try (replace H1 := Lib.hid (R.new H1.out hk); replace HB1 := Lib.hid (hk.heap HB1.out (by simp)))
  try (replace H2 := Lib.hid (R.new H2.out hk); replace HB2 := Lib.hid (hk.heap HB2.out (by simp)))
  try (replace H6 := Lib.hid (R.new H6.out hk); replace HB6 := Lib.hid (hk.heap HB6.out (by simp)))
  try replace HT := Lib.hid (R.new HT.out hk)
  try replace HI := Lib.hid ((HI.out.new hk (Nat.le_refl _)).more hk.size)
  try replace HB10 := Lib.hid (hk.heap HB10.out (by simp))
  have HI := Lib.hid hI
  clear hz hk hI
  generalize wc.heap.size = gm at *
  go_wp2_with fail
  refine (R.of _ _ [65535] (HGL.out _ HK.out) HI.out (by decide)).mono ?_; rintro e wc ⟨st, rfl, hat, hk, -⟩
  rw [kn3] at hat
  replace HK := Lib.hid (HK.out.trans hk (FSub.refl _ _))
  try (replace H1 := Lib.hid (R.new H1.out hk); replace HB1 := Lib.hid (hk.heap HB1.out (by simp)))
  try (replace H2 := Lib.hid (R.new H2.out hk); replace HB2 := Lib.hid (hk.heap HB2.out (by simp)))
  try (replace H6 := Lib.hid (R.new H6.out hk); replace HB6 := Lib.hid (hk.heap HB6.out (by simp)))
  try replace HT := Lib.hid (R.new HT.out hk)
  try replace HI := Lib.hid ((HI.out.new hk (Nat.le_refl _)).more hk.size)
  try replace HB10 := Lib.hid (hk.heap HB10.out (by simp))
  have HT := Lib.hid hat
  clear hat hk HI
  go_wp2_with fail
  have hTD := R.key wc _ _ (HGL.out _ HK.out) HT.out
  obtain ⟨sk, hsk⟩ : ∃ sk, sk = bs (keyB [65535]) := ⟨_, rfl⟩
  have hsz : sk.size = 8192 := by rw [hsk, bs_size, kl]
  rw [← hsk] at hTD
  refine hTD.mono ?_; rintro e wc ⟨rfl, hk⟩
  replace HK := Lib.hid (HK.out.trans hk (FSub.refl _ _))
  try (replace H1 := Lib.hid (R.new H1.out hk); replace HB1 := Lib.hid (hk.heap HB1.out (by simp)))
  try (replace H2 := Lib.hid (R.new H2.out hk); replace HB2 := Lib.hid (hk.heap HB2.out (by simp)))
  try (replace H6 := Lib.hid (R.new H6.out hk); replace HB6 := Lib.hid (hk.heap HB6.out (by simp)))
  try replace HT := Lib.hid (R.new HT.out hk)
  try replace HI := Lib.hid ((HI.out.new hk (Nat.le_refl _)).more hk.size)
  try replace HB10 := Lib.hid (hk.heap HB10.out (by simp))
  clear hk hTD HT hsk
  go_wp2_with (first
    | ((with_reducible refine wpList_loadBt (g := g1) HO1.out ?_ ?_ (block_range HB1.out) ?_); exact rfl; exact rfl)
    | ((with_reducible refine wpList_loadBt (g := g2) HO2.out ?_ ?_ (block_range HB2.out) ?_); exact rfl; exact rfl)
    | ((with_reducible refine wpList_loadBt (g := g6) HO6.out ?_ ?_ (block_range HB6.out) ?_); exact rfl; exact rfl)
    | ((with_reducible refine wpList_loadBt (g := g10) btZ_ok ?_ ?_ (block_range HB10.out) ?_); exact rfl; exact rfl)
    | ((with_reducible refine wpList_litZ [65536, -1] ?_ ?_ ?_ (by decide) (by decide) ?_); exact rfl; exact rfl; exact rfl))
  intro wl hz hk hI
  replace HK := Lib.hid (HK.out.trans hk (FSub.refl _ _))
  try (replace H1 := Lib.hid (R.new H1.out hk); replace HB1 := Lib.hid (hk.heap HB1.out (by simp)))
  try (replace H2 := Lib.hid (R.new H2.out hk); replace HB2 := Lib.hid (hk.heap HB2.out (by simp)))
  try (replace H6 := Lib.hid (R.new H6.out hk); replace HB6 := Lib.hid (hk.heap HB6.out (by simp)))
  try replace HT := Lib.hid (R.new HT.out hk)
  try replace HI := Lib.hid ((HI.out.new hk (Nat.le_refl _)).more hk.size)
  try replace HB10 := Lib.hid (hk.heap HB10.out (by simp))
  have HI := Lib.hid hI
  clear hz hk hI
  generalize wc.heap.size = gn at *
  go_wp2_with fail
  refine (R.of _ _ [65536, -1] (HGL.out _ HK.out) HI.out (by decide)).mono ?_; rintro e wc ⟨st, rfl, hat, hk, -⟩
  rw [kn4] at hat
  replace HK := Lib.hid (HK.out.trans hk (FSub.refl _ _))
  try (replace H1 := Lib.hid (R.new H1.out hk); replace HB1 := Lib.hid (hk.heap HB1.out (by simp)))
  try (replace H2 := Lib.hid (R.new H2.out hk); replace HB2 := Lib.hid (hk.heap HB2.out (by simp)))
  try (replace H6 := Lib.hid (R.new H6.out hk); replace HB6 := Lib.hid (hk.heap HB6.out (by simp)))
  try replace HT := Lib.hid (R.new HT.out hk)
  try replace HI := Lib.hid ((HI.out.new hk (Nat.le_refl _)).more hk.size)
  try replace HB10 := Lib.hid (hk.heap HB10.out (by simp))
  obtain ⟨AT, rfl, -⟩ := R.cells hat
  have HT := Lib.hid hat
  clear hat hk HI
  go_wp2_with fail
  refine (is15_true R _ (HGL.out _ HK.out) HT.out (nil_in _ rkZ)).mono ?_; rintro e wc ⟨rfl, hk⟩
  replace HK := Lib.hid (HK.out.trans hk (FSub.refl _ _))
  try (replace H1 := Lib.hid (R.new H1.out hk); replace HB1 := Lib.hid (hk.heap HB1.out (by simp)))
  try (replace H2 := Lib.hid (R.new H2.out hk); replace HB2 := Lib.hid (hk.heap HB2.out (by simp)))
  try (replace H6 := Lib.hid (R.new H6.out hk); replace HB6 := Lib.hid (hk.heap HB6.out (by simp)))
  try replace HT := Lib.hid (R.new HT.out hk)
  try replace HI := Lib.hid ((HI.out.new hk (Nat.le_refl _)).more hk.size)
  try replace HB10 := Lib.hid (hk.heap HB10.out (by simp))
  clear hk HT
  go_wp2_with fail
  refine (awake15_any R _ (HGL.out _ HK.out)).mono ?_; rintro e wc ⟨rfl, hk⟩
  replace HK := Lib.hid (HK.out.trans hk (FSub.refl _ _))
  try (replace H1 := Lib.hid (R.new H1.out hk); replace HB1 := Lib.hid (hk.heap HB1.out (by simp)))
  try (replace H2 := Lib.hid (R.new H2.out hk); replace HB2 := Lib.hid (hk.heap HB2.out (by simp)))
  try (replace H6 := Lib.hid (R.new H6.out hk); replace HB6 := Lib.hid (hk.heap HB6.out (by simp)))
  try replace HT := Lib.hid (R.new HT.out hk)
  try replace HI := Lib.hid ((HI.out.new hk (Nat.le_refl _)).more hk.size)
  try replace HB10 := Lib.hid (hk.heap HB10.out (by simp))
  clear hk
  go_wp2_with fail
  go_ret
  exact ⟨rfl, HK.out⟩
end Go.Proofs.YtbeniihbejakaaaDoor
