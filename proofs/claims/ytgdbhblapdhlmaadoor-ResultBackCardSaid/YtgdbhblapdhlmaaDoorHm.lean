/-
  of, text, none, awake.
-/
import Derived.Test.YtgdbhblapdhlmaaDoorHl
import Derived.Test.YtgdbhblapdhlmaaDoorHf
namespace Go.Proofs.YtgdbhblapdhlmaaDoor
open Go.RowKit
theorem of_any (w : World) (k v : Int) : Calls Tryd.prog 25 #[.int .u8 k, .int .u16 v] w fun e w' => e = .returned (.agg #[.int .u8 k, .int .u16 v]) ∧ Keeps [] w w' := by
  go_enter Tryd.func25, Tryd.ntmps25
  go_wp2
  exact bodyPost_ret (results_row rfl _ _ _ rfl (heap_alloc_new w _)) rfl ⟨rfl, (Keeps.refl _ _).alloc _⟩
set_option maxHeartbeats 1000000 in
theorem text_true (w : World) (hG : Glob w) (k v : Int) (s : ByteArray) (hs : s.size ≤ 300) (h0 : 0 ≤ k) (h1 : k < 256) (v0 : 0 ≤ v) (v1 : v < 65536) (hg : rsGood k v = true) (ht : rsTxt k v = s.data.toList) :
    Calls Tryd.prog 24 #[.agg #[.int .u8 k, .int .u16 v], .string s] w fun e w' => e = .returned (.bool true) ∧ Keeps [] w w' := by
  have htx := fun w hG => Text_any w hG k v h0 h1 v0 v1
  have hps := fun w hG => Parse_any w hG s hs
  rw [if_pos hg, rsErr_good hg] at htx
  obtain ⟨_, e1, e2, e3⟩ := ps_text h0 v0 (by omega) hg
  rw [ht] at e1 e2 e3
  rw [e1, e2, e3] at hps
  have t1 : ((bs (rsTxt k v)).toList == s.toList) = true := by rw [toL_bs, toL_of, ht]; simp
  generalize bs (rsTxt k v) = SX at *
  clear e1 e2 e3 ht
  go_enter Tryd.func24, Tryd.ntmps24
  go_wp2_with fail
  have ha : Keeps [] w (w.alloc (.cells #[.int .u8 k, .int .u16 v] 24)) := (Keeps.refl _ _).alloc _
  refine (htx _ (hG.new ha)).mono ?_; rintro e w1 ⟨rfl, hk1⟩
  have hb := boxed2 hk1
  replace hk1 := ha.trans hk1 (FSub.refl _ _)
  go_wp2_with fail
  refine (hps _ (hG.new hk1)).mono ?_; rintro e w2 ⟨rfl, hk2⟩
  have hb2 := hk2.heap hb (by simp)
  replace hk2 := hk1.trans hk2 (FSub.refl _ _)
  obtain ⟨c0, c1, hlt⟩ := cell2 hb2
  clear hb hb2
  go_wp2_with fail
  go_ret
  exact ⟨rfl, hk2.alloc _⟩
set_option maxHeartbeats 1000000 in
theorem none_true (w : World) (hG : Glob w) (s : ByteArray) (hs : s.size ≤ 300) (h : psE s.data.toList = 4) :
    Calls Tryd.prog 26 #[.string s] w fun e w' => e = .returned (.bool true) ∧ Keeps [] w w' := by
  have hps := fun w hG => Parse_any w hG s hs
  have no : psOk s.data.toList = false := by
    by_cases hh : psOk s.data.toList = true
    · simp [psE, hh] at h
    · simpa using hh
  have e1 : psK s.data.toList = 0 := by simp [psK, no]
  have e2 : psV s.data.toList = 0 := by simp [psV, no]
  rw [e1, e2, h] at hps
  clear h no e1 e2
  go_enter Tryd.func26, Tryd.ntmps26
  go_wp2_with fail
  refine (hps _ hG).mono ?_; rintro e w2 ⟨rfl, hk2⟩
  go_wp2_with fail
  go_ret
  exact ⟨rfl, hk2.alloc _⟩
set_option maxHeartbeats 2000000 in
theorem awake3_true (w : World) (hG : Glob w) : Calls Tryd.prog 7 #[] w fun e w' => e = .returned (.bool true) ∧ Keeps [] w w' := by
  go_enter Tryd.func7, Tryd.ntmps7
  go_wp2_with fail
  refine (of_any _ 1 258).mono ?_; rintro e w1 ⟨rfl, hk1⟩
  go_wp2_with fail
  refine (rsPut_one _ 258 (by omega) (by omega)).mono ?_; rintro e w2 ⟨rfl, hk2⟩
  replace hk2 := hk1.trans hk2 (FSub.refl _ _)
  have hS : strOfNums [1, (258 : Int) / 256, 258 % 256] = ⟨#[1, 1, 2]⟩ := by decide
  rw [hS]
  clear hS hk1
  go_wp2_with fail
  refine (of_any _ 1 7).mono ?_; rintro e w3 ⟨rfl, hk3⟩
  replace hk3 := hk2.trans hk3 (FSub.refl _ _)
  go_wp2_with fail
  refine (text_true _ (hG.new hk3) 1 7 ⟨#[118, 97, 108, 117, 101, 32, 55]⟩ (by decide) (by omega) (by omega) (by omega) (by omega) (by decide) (by simp [rsTxt, valueL, Lib.decDigits])).mono ?_; rintro e w4 ⟨rfl, hk4⟩
  replace hk4 := hk3.trans hk4 (FSub.refl _ _)
  go_wp2_with fail
  refine (of_any _ 3 0).mono ?_; rintro e w5 ⟨rfl, hk5⟩
  replace hk5 := hk4.trans hk5 (FSub.refl _ _)
  go_wp2_with fail
  refine (text_true _ (hG.new hk5) 3 0 ⟨#[121, 101, 115]⟩ (by decide) (by omega) (by omega) (by omega) (by omega) (by decide) (by decide)).mono ?_; rintro e w6 ⟨rfl, hk6⟩
  replace hk6 := hk5.trans hk6 (FSub.refl _ _)
  go_wp2_with fail
  refine (none_true _ (hG.new hk6) ⟨#[89, 101, 115]⟩ (by decide) (by decide)).mono ?_; rintro e w7 ⟨rfl, hk7⟩
  replace hk7 := hk6.trans hk7 (FSub.refl _ _)
  go_wp2_with fail
  refine (of_any _ 2 0).mono ?_; rintro e w8 ⟨rfl, hk8⟩
  replace hk8 := hk7.trans hk8 (FSub.refl _ _)
  go_wp2_with fail
  have hm := fun w => May_any w 1 2 0 (by omega) (by omega)
  rw [show mayOf 1 2 0 = 10 by decide] at hm
  refine (hm _).mono ?_; rintro e w9 ⟨rfl, hk9⟩
  replace hk9 := hk8.trans hk9 (FSub.refl _ _)
  go_wp2_with fail
  go_ret
  exact ⟨rfl, hk9⟩
end Go.Proofs.YtgdbhblapdhlmaaDoor
