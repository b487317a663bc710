/-
  works.
-/
import Derived.Test.YtfkmgmnbkajgaaaFj
namespace Go.Proofs.Ytfkmgmnbkajgaaa
open Go.RowKit
set_option maxHeartbeats 2000000 in
theorem works_true (w : World) : Calls Try.prog 9 #[] w fun e w' => e = .returned (.bool true) ∧ Keeps [] w w' := by
  go_enter Try.func9, Try.ntmps9
  go_wp2_with fail
  refine (New_any w).mono ?_; rintro e w1 ⟨rfl, hw⟩
  have hc := cat_new w
  have hk := lone_new w
  rw [← hw] at hc hk
  have hf : FSub [w.heap.size] [] w.heap.size := fun g hg => .inr (by simp at hg; omega)
  clear hw
  go_wp2_with fail
  refine (Feed_any w1 _ _ _ _ hc ⟨#[0, 1, 255]⟩ (by decide)).mono ?_; rintro e w2 ⟨rfl, F2, hc2, hk2, hs2⟩
  obtain ⟨hk2', hf2⟩ := hk.fresh hf hk2 hs2
  clear hc hk hf hk2 hs2
  have e2 : ([] ++ (ByteArray.mk #[0, 1, 255]).data.toList : List UInt8) = [0, 1, 255] := by decide
  rw [e2] at hc2; clear e2
  go_wp2_with fail
  refine (tells_none w2 _ F2 _ 0 hc2 (by decide) 0 0 rfl (by decide +kernel) (by decide +kernel)).mono ?_; rintro e w3 ⟨rfl, F3, hc3, hk3, hs3⟩
  obtain ⟨hk3', hf3⟩ := hk2'.fresh hf2 hk3 hs3
  clear hc2 hk2' hf2 hk3 hs3
  go_wp2_with fail
  refine (Feed_any w3 _ _ _ _ hc3 ⟨#[254, 97, 97, 97, 0]⟩ (by decide)).mono ?_; rintro e w4 ⟨rfl, F4, hc4, hk4, hs4⟩
  obtain ⟨hk4', hf4⟩ := hk3'.fresh hf3 hk4 hs4
  clear hc3 hk3' hf3 hk4 hs4
  have e2 : ([0, 1, 255] ++ (ByteArray.mk #[254, 97, 97, 97, 0]).data.toList : List UInt8) = [0, 1, 255, 254, 97, 97, 97, 0] := by decide
  rw [e2] at hc4; clear e2
  go_wp2_with fail
  refine (tells_any w4 _ F4 _ 0 hc4 (by decide) ⟨#[97]⟩ 0 1 (congrArg bs (show [97] = _ by decide +kernel)) rfl (by decide +kernel)).mono ?_; rintro e w5 ⟨rfl, F5, hc5, hk5, hs5⟩
  obtain ⟨hk5', hf5⟩ := hk4'.fresh hf4 hk5 hs5
  clear hc4 hk4' hf4 hk5 hs5
  have e2 : 0 + sizeOf1 (List.drop 0 [0, 1, 255, 254, 97, 97, 97, 0]) = 7 := by decide +kernel
  rw [e2] at hc5; clear e2
  go_wp2_with fail
  refine (tells_none w5 _ F5 _ 7 hc5 (by decide) 7 0 rfl (by decide +kernel) (by decide +kernel)).mono ?_; rintro e w6 ⟨rfl, F6, hc6, hk6, hs6⟩
  obtain ⟨hk6', hf6⟩ := hk5'.fresh hf5 hk6 hs6
  clear hc5 hk5' hf5 hk6 hs6
  go_wp2_with fail
  refine (Fed_any w6 _ F6 _ 7 hc6).mono ?_; rintro e w7 ⟨rfl, rfl⟩
  go_wp2_with fail
  refine (bad_yes w6 ⟨#[0, 0, 255, 255]⟩ (by decide) (by decide +kernel)).mono ?_; rintro e w8 ⟨rfl, hk8⟩
  go_wp2
  go_ret
  exact ⟨rfl, hk6'.step hk8 (by simp)⟩
end Go.Proofs.Ytfkmgmnbkajgaaa
