/-
  FramePuts: the walk.
-/
import Derived.Test.YtfkmgmnbkajgaaaFk
namespace Go.Proofs.Ytfkmgmnbkajgaaa
open Go.RowKit
set_option maxHeartbeats 1000000 in
theorem puts_true (w : World) (s : ByteArray) (hs : s.size ≤ maxLen) : Calls Try.prog 3 #[.string s] w fun e w' => e = .returned (.bool true) ∧ Keeps [] w w' := by
  have hs0 := hs
  have hs1 := hs
  unfold maxLen at hs1
  have HS := Lib.hid hs0; clear hs0 hs
  have hsn := sumN_lt s.data.toList
  by_cases h2 : 2000 < s.size
  · go_enter Try.func3, Try.ntmps3
    go_wp2_with fail
    refine (works_true w).mono ?_; rintro e w1 ⟨rfl, hk⟩
    go_wp2
    go_ret
    exact ⟨rfl, hk⟩
  · by_cases h0 : s.size = 0
    · have H0 := Lib.hid h0; clear h0
      go_enter Try.func3, Try.ntmps3
      go_wp2_with fail
      refine (Put_none w s H0.out).mono ?_; rintro e w1 ⟨rfl, rfl⟩
      go_wp2_with fail
      refine (rPut_none w s H0.out).mono ?_; rintro e w1 ⟨rfl, rfl⟩
      go_wp2_with fail
      refine (Sum_any w s HS.out).mono ?_; rintro e w1 ⟨rfl, rfl⟩
      go_wp2_with fail
      refine (rSum_any w s HS.out).mono ?_; rintro e w1 ⟨rfl, rfl⟩
      go_wp2_with fail
      refine (works_true w).mono ?_; rintro e w1 ⟨rfl, hk⟩
      go_wp2
      go_ret
      exact ⟨rfl, hk⟩
    · by_cases h6 : 600 < s.size
      · go_enter Try.func3, Try.ntmps3
        go_wp2_with fail
        refine (Put_long w s h6 HS.out).mono ?_; rintro e w1 ⟨rfl, rfl⟩
        go_wp2_with fail
        refine (rPut_long w s h6 HS.out).mono ?_; rintro e w1 ⟨rfl, rfl⟩
        go_wp2_with fail
        refine (Sum_any w s HS.out).mono ?_; rintro e w1 ⟨rfl, rfl⟩
        go_wp2_with fail
        refine (rSum_any w s HS.out).mono ?_; rintro e w1 ⟨rfl, rfl⟩
        go_wp2_with fail
        refine (works_true w).mono ?_; rintro e w1 ⟨rfl, hk⟩
        go_wp2
        go_ret
        exact ⟨rfl, hk⟩
      · go_enter Try.func3, Try.ntmps3
        go_wp2_with fail
        refine (Put_ok w s (by omega) (by omega)).mono ?_; rintro e w1 ⟨rfl, hk1⟩
        go_wp2_with fail
        refine (rPut_ok w1 s (by omega) (by omega)).mono ?_; rintro e w2 ⟨rfl, hk2⟩
        go_wp2_with fail
        refine (Sum_any w2 s HS.out).mono ?_; rintro e w1 ⟨rfl, rfl⟩
        go_wp2_with fail
        refine (rSum_any w2 s HS.out).mono ?_; rintro e w1 ⟨rfl, rfl⟩
        go_wp2_with fail
        refine (works_true w2).mono ?_; rintro e w1 ⟨rfl, hk⟩
        go_wp2
        go_ret
        exact ⟨rfl, (hk1.step hk2 (by simp)).step hk (by simp)⟩
end Go.Proofs.Ytfkmgmnbkajgaaa
