/-
  ResultKnown, walked.
-/
import Derived.Test.YtgdbhblapdhlmaaDoorHn
import Derived.Test.YtgdbhblapdhlmaaDoorHm
import Derived.Test.YtgdbhblapdhlmaaDoorHi
import Derived.Test.YtgdbhblapdhlmaaDoorMn
namespace Go.Proofs.YtgdbhblapdhlmaaDoor
open Go.RowKit
set_option maxHeartbeats 1000000 in
theorem Take_nil (w : World) : Calls Tryd.prog 17 #[.pointer none] w fun x w' => x = .returned (.tuple #[.agg #[.int .u8 0, .int .u16 0], .int .i64 1]) ∧ Keeps [] w w' := by
  go_enter Tryd.func17, Tryd.ntmps17
  go_wp2_with fail
  refine (RU8_nil _).mono ?_; rintro x w1 ⟨rfl, rfl⟩
  go_wp2_with fail
  refine (Err_nil _).mono ?_; rintro x w1 ⟨rfl, rfl⟩
  go_wp2_with fail
  try simp only [Exit.inBlock, Exit.then]
  exact bodyPost_ret (results_row2 rfl _ _ _ rfl (heap_alloc_lt (heap_alloc_new w _))) rfl ⟨rfl, ((Keeps.refl _ _).alloc _).alloc _⟩
theorem tk_five : tkK [5] 0 0 = 0 ∧ tkV [5] 0 0 = 0 ∧ tkE [5] 0 0 = 4 := by decide
theorem tk_torn : tkK [1, 0] 0 0 = 0 ∧ tkV [1, 0] 0 0 = 0 ∧ tkE [1, 0] 0 0 = 5 := by decide
theorem Take_over (w : World) (s : ByteArray) (hs : s.size ≤ 300) (xs : List Int) (hx : nums s = xs) (E : Int) (h : tkK xs 0 0 = 0 ∧ tkV xs 0 0 = 0 ∧ tkE xs 0 0 = E) (r g cap : Nat) (hR : RAt w r g cap (nums s) 0 0) (hg : g < w.heap.size) :
    Calls Tryd.prog 17 #[.pointer (some ⟨r, 0, none⟩)] w fun x w' => x = .returned (.tuple #[.agg #[.int .u8 0, .int .u16 0], .int .i64 E]) ∧ Keeps [r] w w' := by
  have := Take_any w r g cap 0 (nums s) 0 hR (nums_in s) (by rw [nums_length]; omega) hg
  rw [hx, h.1, h.2.1, h.2.2] at this
  exact this.mono fun e w' ⟨h1, _, h2⟩ => ⟨h1, h2⟩
def badL : List ByteArray := [⟨#[]⟩, ⟨#[118, 97, 108, 117, 101]⟩, ⟨#[118, 97, 108, 117, 101, 32, 48, 55]⟩, ⟨#[118, 97, 108, 117, 101, 32, 54, 53, 53, 51, 54]⟩, ⟨#[118, 97, 108, 117, 101, 32]⟩, ⟨#[121, 101, 115, 32]⟩, ⟨#[118, 97, 108, 117, 101, 32, 55, 32]⟩, ⟨#[118, 97, 108, 117, 101, 32, 32, 55]⟩, ⟨#[100, 111, 110, 101, 32, 48]⟩, ⟨#[32, 100, 111, 110, 101]⟩, ⟨#[118, 97, 108, 117, 101, 32, 45, 49]⟩, ⟨#[118, 97, 108, 117, 101, 32, 43, 55]⟩]
theorem badL_none : ∀ s ∈ badL, s.size ≤ 300 ∧ psE s.data.toList = 4 := by
  intro s hs
  simp only [badL, List.mem_cons, List.not_mem_nil, or_false] at hs
  rcases hs with rfl | rfl | rfl | rfl | rfl | rfl | rfl | rfl | rfl | rfl | rfl | rfl
  · exact ⟨by decide, bad_0⟩
  · exact ⟨by decide, bad_1⟩
  · exact ⟨by decide, bad_2⟩
  · exact ⟨by decide, bad_3⟩
  · exact ⟨by decide, bad_4⟩
  · exact ⟨by decide, bad_5⟩
  · exact ⟨by decide, bad_6⟩
  · exact ⟨by decide, bad_7⟩
  · exact ⟨by decide, bad_8⟩
  · exact ⟨by decide, bad_9⟩
  · exact ⟨by decide, bad_10⟩
  · exact ⟨by decide, bad_11⟩
set_option maxHeartbeats 4000000 in
set_option maxRecDepth 100000 in
theorem known_true (w : World) (hG : Glob w) : Calls Tryd.prog 5 #[] w fun e w' => e = .returned (.bool true) ∧ Keeps [] w w' := by
  go_enter Tryd.func5, Tryd.ntmps5
  go_wp2_with fail
  refine (awake3_true _ hG).mono ?_; rintro e w1 ⟨rfl, hk⟩
  go_wp2_with fail
  refine (of_any _ 0 0).mono ?_; rintro e w2 ⟨rfl, hk2⟩
  replace hk := hk.trans hk2 (FSub.refl _ _)
  clear hk2
  go_wp2_with fail
  refine (text_true _ (hG.new hk) 0 0 ⟨#[100, 111, 110, 101]⟩ (by decide) (by omega) (by omega) (by omega) (by omega) (by decide) (by decide)).mono ?_; rintro e w3 ⟨rfl, hk3⟩
  replace hk := hk.trans hk3 (FSub.refl _ _)
  clear hk3
  go_wp2_with fail
  refine (of_any _ 2 0).mono ?_; rintro e w4 ⟨rfl, hk4⟩
  replace hk := hk.trans hk4 (FSub.refl _ _)
  clear hk4
  go_wp2_with fail
  refine (text_true _ (hG.new hk) 2 0 ⟨#[110, 111, 110, 101]⟩ (by decide) (by omega) (by omega) (by omega) (by omega) (by decide) (by decide)).mono ?_; rintro e w5 ⟨rfl, hk5⟩
  replace hk := hk.trans hk5 (FSub.refl _ _)
  clear hk5
  go_wp2_with fail
  refine (of_any _ 4 0).mono ?_; rintro e w6 ⟨rfl, hk6⟩
  replace hk := hk.trans hk6 (FSub.refl _ _)
  clear hk6
  go_wp2_with fail
  refine (text_true _ (hG.new hk) 4 0 ⟨#[110, 111]⟩ (by decide) (by omega) (by omega) (by omega) (by omega) (by decide) (by decide)).mono ?_; rintro e w7 ⟨rfl, hk7⟩
  replace hk := hk.trans hk7 (FSub.refl _ _)
  clear hk7
  go_wp2_with fail
  refine (of_any _ 1 0).mono ?_; rintro e w8 ⟨rfl, hk8⟩
  replace hk := hk.trans hk8 (FSub.refl _ _)
  clear hk8
  go_wp2_with fail
  refine (text_true _ (hG.new hk) 1 0 ⟨#[118, 97, 108, 117, 101, 32, 48]⟩ (by decide) (by omega) (by omega) (by omega) (by omega) (by decide) (by simp [rsTxt, valueL, dec_0, dec_65535])).mono ?_; rintro e w9 ⟨rfl, hk9⟩
  replace hk := hk.trans hk9 (FSub.refl _ _)
  clear hk9
  go_wp2_with fail
  refine (of_any _ 1 65535).mono ?_; rintro e w10 ⟨rfl, hk10⟩
  replace hk := hk.trans hk10 (FSub.refl _ _)
  clear hk10
  go_wp2_with fail
  refine (text_true _ (hG.new hk) 1 65535 ⟨#[118, 97, 108, 117, 101, 32, 54, 53, 53, 51, 53]⟩ (by decide) (by omega) (by omega) (by omega) (by omega) (by decide) (by simp [rsTxt, valueL, dec_0, dec_65535])).mono ?_; rintro e w11 ⟨rfl, hk11⟩
  replace hk := hk.trans hk11 (FSub.refl _ _)
  clear hk11
  go_wp2_with fail
  have hB : (w11.alloc (.cells #[.string ⟨#[]⟩, .string ⟨#[118, 97, 108, 117, 101]⟩, .string ⟨#[118, 97, 108, 117, 101, 32, 48, 55]⟩, .string ⟨#[118, 97, 108, 117, 101, 32, 54, 53, 53, 51, 54]⟩, .string ⟨#[118, 97, 108, 117, 101, 32]⟩, .string ⟨#[121, 101, 115, 32]⟩, .string ⟨#[118, 97, 108, 117, 101, 32, 55, 32]⟩, .string ⟨#[118, 97, 108, 117, 101, 32, 32, 55]⟩, .string ⟨#[100, 111, 110, 101, 32, 48]⟩, .string ⟨#[32, 100, 111, 110, 101]⟩, .string ⟨#[118, 97, 108, 117, 101, 32, 45, 49]⟩, .string ⟨#[118, 97, 108, 117, 101, 32, 43, 55]⟩] 9)).heap[w11.heap.size]? = some (.cells (badL.map Value.string).toArray 9 (0, 0)) := heap_alloc_new w11 _
  replace hk := hk.alloc (.cells #[.string ⟨#[]⟩, .string ⟨#[118, 97, 108, 117, 101]⟩, .string ⟨#[118, 97, 108, 117, 101, 32, 48, 55]⟩, .string ⟨#[118, 97, 108, 117, 101, 32, 54, 53, 53, 51, 54]⟩, .string ⟨#[118, 97, 108, 117, 101, 32]⟩, .string ⟨#[121, 101, 115, 32]⟩, .string ⟨#[118, 97, 108, 117, 101, 32, 55, 32]⟩, .string ⟨#[118, 97, 108, 117, 101, 32, 32, 55]⟩, .string ⟨#[100, 111, 110, 101, 32, 48]⟩, .string ⟨#[32, 100, 111, 110, 101]⟩, .string ⟨#[118, 97, 108, 117, 101, 32, 45, 49]⟩, .string ⟨#[118, 97, 108, 117, 101, 32, 43, 55]⟩] 9)
  go_loopw [2] (fun i wr => ∃ k : Nat, k ≤ 12 ∧ i = .int .i64 k ∧ wr.heap[w11.heap.size]? = some (.cells (badL.map Value.string).toArray 9 (0, 0)) ∧ Keeps [] w wr) (fun i _ => 12 - (intOf i).toNat)
  case atStart => exact ⟨0, by omega, rfl, hB, hk⟩
  case round =>
    clear hB hk
    obtain ⟨k, hkl, rfl, hB, hk⟩ := hrel
    by_cases hlt : k < 12
    · have hlen : k < badL.length := hlt
      obtain ⟨h3, h4⟩ := badL_none badL[k] (List.getElem_mem hlen)
      have hc : wr.cell? ⟨w11.heap.size, k, none⟩ = some (.string badL[k]) := by
        simp [World.cell?, hB, hlen]
      generalize badL[k] = s at *
      go_wp2_with fail
      refine (none_true _ (hG.new hk) s h3 h4).mono ?_; rintro e w12 ⟨rfl, hk12⟩
      have hB2 := hk12.heap hB (by simp)
      replace hk := hk.trans hk12 (FSub.refl _ _)
      clear hB hk12 hc
      go_wp2_with fail
      go_roundw
      case rel => exact ⟨k + 1, by omega, by go_num, hB2, hk⟩
      case measure => simp [intOf]; omega
    · obtain rfl : k = 12 := by omega
      have hS4 : strOfNums [(4 : Int)] = ⟨#[4]⟩ := by decide
      go_wp2_with fail
      refine (of_any _ 4 0).mono ?_; rintro e w12 ⟨rfl, hk12⟩
      replace hk := hk.trans hk12 (FSub.refl _ _)
      clear hk12
      go_wp2_with fail
      have hp4 := fun w => rsPut_word w 4 (by omega) (by omega) (by omega)
      rw [hS4] at hp4
      refine (hp4 _).mono ?_; rintro e w13 ⟨rfl, hk13⟩
      replace hk := hk.trans hk13 (FSub.refl _ _)
      clear hk13
      go_wp2_with fail
      refine (of_any _ 0 1).mono ?_; rintro e w14 ⟨rfl, hk14⟩
      replace hk := hk.trans hk14 (FSub.refl _ _)
      clear hk14
      go_wp2_with fail
      refine (rsPut_bad _ 0 1 (by omega) (by omega) (by decide)).mono ?_; rintro e w15 ⟨rfl, hk15⟩
      replace hk := hk.trans hk15 (FSub.refl _ _)
      clear hk15
      go_wp2_with fail
      refine (of_any _ 5 0).mono ?_; rintro e w16 ⟨rfl, hk16⟩
      replace hk := hk.trans hk16 (FSub.refl _ _)
      clear hk16
      go_wp2_with fail
      refine (Text_bad _ 5 0 (by omega) (by omega) (by decide)).mono ?_; rintro e w17 ⟨rfl, hk17⟩
      replace hk := hk.trans hk17 (FSub.refl _ _)
      clear hk17
      go_wp2_with fail
      refine (Take_nil _).mono ?_; rintro e w18 ⟨rfl, hk18⟩
      replace hk := hk.trans hk18 (FSub.refl _ _)
      clear hk18
      replace hk := hk.alloc (.cells #[.int .u8 0, .int .u16 0] 24)
      go_wp2_with fail
      generalize w18.alloc (.cells #[.int .u8 0, .int .u16 0] 24) = W18 at *
      refine (Over_any _ ⟨#[5]⟩).mono ?_; rintro e w19 ⟨rfl, ⟨cap, hR⟩, hk19⟩
      have hz := hk.size
      have hz2 := hk19.size
      have hlt := lt_of_block hR.blk
      replace hk := hk.trans hk19 (FSub.refl _ _)
      clear hk19
      go_wp2_with fail
      refine (Take_over _ ⟨#[5]⟩ (by decide) [5] rfl 4 tk_five _ _ cap hR (by omega)).mono ?_; rintro e w20 ⟨rfl, hk20⟩
      replace hk := hk.trans hk20 (fun g hg => .inr (by simp at hg; omega))
      clear hk20 hR hz hz2 hlt
      replace hk := hk.alloc (.cells #[.int .u8 0, .int .u16 0] 24)
      go_wp2_with fail
      generalize w20.alloc (.cells #[.int .u8 0, .int .u16 0] 24) = W20 at *
      refine (Over_any _ ⟨#[1, 0]⟩).mono ?_; rintro e w21 ⟨rfl, ⟨cap, hR⟩, hk21⟩
      have hz := hk.size
      have hz2 := hk21.size
      have hlt := lt_of_block hR.blk
      replace hk := hk.trans hk21 (FSub.refl _ _)
      clear hk21
      go_wp2_with fail
      refine (Take_over _ ⟨#[1, 0]⟩ (by decide) [1, 0] rfl 5 tk_torn _ _ cap hR (by omega)).mono ?_; rintro e w22 ⟨rfl, hk22⟩
      replace hk := hk.trans hk22 (fun g hg => .inr (by simp at hg; omega))
      clear hk22 hR hz hz2 hlt
      replace hk := hk.alloc (.cells #[.int .u8 0, .int .u16 0] 24)
      go_wp2_with fail
      refine (of_any _ 1 5).mono ?_; rintro e w23 ⟨rfl, hk23⟩
      replace hk := hk.trans hk23 (FSub.refl _ _)
      clear hk23
      have hm := fun w => May_any w 1 1 5 (by omega) (by omega)
      rw [show mayOf 1 1 5 = 0 by decide] at hm
      go_wp2_with fail
      refine (hm _).mono ?_; rintro e w24 ⟨rfl, hk24⟩
      replace hk := hk.trans hk24 (FSub.refl _ _)
      clear hk24
      clear hm
      go_wp2_with fail
      refine (of_any _ 0 0).mono ?_; rintro e w25 ⟨rfl, hk25⟩
      replace hk := hk.trans hk25 (FSub.refl _ _)
      clear hk25
      have hm := fun w => May_any w 99 0 0 (by omega) (by omega)
      rw [show mayOf 99 0 0 = 10 by decide] at hm
      go_wp2_with fail
      refine (hm _).mono ?_; rintro e w26 ⟨rfl, hk26⟩
      replace hk := hk.trans hk26 (FSub.refl _ _)
      clear hk26
      clear hm
      go_wp2_with fail
      refine (of_any _ 0 1).mono ?_; rintro e w27 ⟨rfl, hk27⟩
      replace hk := hk.trans hk27 (FSub.refl _ _)
      clear hk27
      have hm := fun w => May_any w 2 0 1 (by omega) (by omega)
      rw [show mayOf 2 0 1 = 4 by decide] at hm
      go_wp2_with fail
      refine (hm _).mono ?_; rintro e w28 ⟨rfl, hk28⟩
      replace hk := hk.trans hk28 (FSub.refl _ _)
      clear hk28
      clear hm
      go_wp2_with fail
      refine (of_any _ 4 0).mono ?_; rintro e w29 ⟨rfl, hk29⟩
      replace hk := hk.trans hk29 (FSub.refl _ _)
      clear hk29
      have hm := fun w => May_any w 10 4 0 (by omega) (by omega)
      rw [show mayOf 10 4 0 = 0 by decide] at hm
      go_wp2_with fail
      refine (hm _).mono ?_; rintro e w30 ⟨rfl, hk30⟩
      replace hk := hk.trans hk30 (FSub.refl _ _)
      clear hk30
      clear hm
      go_wp2_with fail
      refine (awake3_true _ (hG.new hk)).mono ?_; rintro e w31 ⟨rfl, hk31⟩
      replace hk := hk.trans hk31 (FSub.refl _ _)
      clear hk31
      go_wp2_with fail
      go_ret
      exact ⟨rfl, hk⟩
end Go.Proofs.YtgdbhblapdhlmaaDoor
