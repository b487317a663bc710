/-
  look: all of the frame is there.
-/
import Derived.Test.YtfkmgmnbkajgaaaFc
import Derived.IntWalk
namespace Go.Proofs.Ytfkmgmnbkajgaaa
open Go.RowKit
theorem ret_two {k m : IntKind} {a b c d : Int} (h : a = c) (h2 : b = d) : Ending.returned (.tuple #[.int k a, .int m b]) = .returned (.tuple #[.int k c, .int m d]) := by rw [h, h2]
theorem cut8 (w : World) (g o c n i : Nat) (l : List UInt8) (hn : i + n ≤ l.length) (hs : ∀ j, j < l.length → w.cell? ⟨g, o + j, none⟩ = some (.int .u8 (l.getD j 0).toNat)) :
    (convert 33 9 (.slice (some ⟨g, o + i, none⟩) n c)).run Try.prog w = .ok (.string (bs ((l.drop i).take n))) w := by
  rw [← str_nb]
  refine run_convert_bytes_arg w _ _ Try.underlying33 Try.underlying5 g (o + i) n c (nb ((l.drop i).take n)) (by simp [nb]; omega) (fun j hj => ?_) _ Try.underlying9
  rw [Nat.add_assoc, hs (i + j) (by omega), nb_getD]
  have : ((l.drop i).take n).getD j 0 = l.getD (i + j) 0 := by simp [List.getD, hj]
  rw [this]
set_option maxHeartbeats 1000000 in
theorem look_full (w : World) (g o c : Nat) (l : List UInt8) (hs : ∀ j, j < l.length → w.cell? ⟨g, o + j, none⟩ = some (.int .u8 (l.getD j 0).toNat)) (hc : l.length ≤ c) (h : ¬ l.length < 4) (h2 : ¬ headBad l) (h3 : numAt l 0 + 6 ≤ l.length) (hl : l.length ≤ 1000000000) :
    Calls Try.prog 26 #[.slice (some ⟨g, o, none⟩) l.length c] w fun e w' => e = .returned (.tuple #[.int .i64 (sizeOf1 l), .int .i64 (tellOf l)]) ∧ Keeps [] w w' := by
  have HS := Lib.hid hs; clear hs
  obtain ⟨b, hb, HE⟩ : ∃ b : Bool, ((numAt l (numAt l 0 + 4) : Int) != (sumN ((l.drop 4).take (numAt l 0)) : Int)) = b ∧ Hid (if b then sizeOf1 l = 0 ∧ tellOf l = 2 else sizeOf1 l = numAt l 0 + 6 ∧ tellOf l = 1) := by
    by_cases hB : sumBad l
    · have t := tell_sum h h2 (by omega) hB
      refine ⟨true, ?_, Lib.hid (by simpa using ⟨(size_none (by omega)).1, t⟩)⟩
      unfold sumBad at hB
      simp; omega
    · have t := tell_one h h2 (by omega) hB
      refine ⟨false, ?_, Lib.hid (by simpa using ⟨(size_one t).1, t⟩)⟩
      unfold sumBad at hB
      simp; omega
  have e0 := paired_src w g o l.length c l 0 (by omega) (by omega) HS.out
  unfold headBad at h2
  generalize numAt l 0 = n at *
  obtain ⟨n1, n6⟩ : 1 ≤ n ∧ n ≤ 600 := by omega
  have HQ : Hid (numAt l 2 = 65535 - n) := Lib.hid (by omega)
  clear h2
  have hb0 : ((n : Int) == 0) = false := by simp; omega
  have hb6 : decide ((600 : Int) < (n : Int)) = false := by simp; omega
  have hx := xor_of n (by omega)
  have hg : IntKind.u16.signed = false := rfl
  have hc2 : ¬ c = 2 := by omega
  go_enter Try.func26, Try.ntmps26
  go_wp2_with fail
  go_step3
  go_wp2_with fail
  go_step3
  go_wp2_with fail
  refine wp_loop_rounds 2 ?_
  rw [rounds_succ]
  go_wp2_with fail
  refine e0.mono ?_; rintro e w1 ⟨rfl, k, rfl⟩
  go_wp2_with fail
  refine (paired_src (w.drewN k) g o (l.length - 2) (c - 2) l 2 (by omega) (by omega) (fun j hj => HS.out j hj)).mono ?_; rintro e w1 ⟨rfl, k2, rfl⟩
  rw [HQ.out]
  go_wp2_with fail
  rw [rounds_succ]
  go_wp2_with fail
  have hw1 : IntKind.i64.wrap (4 + ((n : Int) + 2) - 2) = 4 + ((n : Int) + 2) - 2 := IntWalk.i64_in _ ⟨by omega, by omega⟩
  have hw2 : 0 ≤ 4 + ((n : Int) + 2) - 2 := by omega
  have hw3 : (4 + ((n : Int) + 2) - 2).toNat = n + 4 := by omega
  have hw4 : ¬ c = n + 4 := by omega
  have HS1 : Hid (∀ j, j < l.length → (w.drewN (k + k2)).cell? ⟨g, o + j, none⟩ = some (.int .u8 (l.getD j 0).toNat)) := HS
  have hk1 : Keeps [] w (w.drewN (k + k2)) := (Keeps.refl _ _).drewN _
  clear HS e0
  generalize w.drewN (k + k2) = w1 at *
  have hcv : ∀ a, (convert 33 9 (.slice (some ⟨g, o + 4, none⟩) n (c - 4))).run Try.prog (w1.drewN a) = .ok (.string (bs ((l.drop 4).take n))) (w1.drewN a) :=
    fun a => cut8 _ g o (c - 4) n 4 l (by omega) HS1.out
  have hpl : (bs ((l.drop 4).take n)).size ≤ maxLen := by rw [bs_size]; unfold maxLen; simp; omega
  have HB : Hid ((bs ((l.drop 4).take n)).data.toList = (l.drop 4).take n) := Lib.hid (bs_list _)
  generalize bs ((l.drop 4).take n) = T at *
  go_quiet ((first
    | (go_at_call 37; exact Calls.quiet_of (paired_src _ g o (l.length - (n + 4)) (c - (n + 4)) l (n + 4) (by omega) (by omega) (fun j hj => HS1.out j hj)))
    | (go_at_call 12; exact Calls.quiet_of_same ((Sum_any _ T hpl).mono fun _ _ ⟨a, b⟩ => ⟨a, b.symm⟩))))
  rw [HB.out]
  cases b
  · go_wp2_with fail
    rw [Exit.noGoto_ret]
    go_ret2
    have h5 := HE.out
    simp only [Bool.false_eq_true, if_false] at h5
    exact ⟨ret_two (by rw [h5.1]; omega) (by rw [h5.2]; rfl), hk1.drewN _⟩
  · go_wp2_with fail
    go_ret2
    have h5 := HE.out
    simp only [if_true] at h5
    exact ⟨ret_two (by rw [h5.1]; rfl) (by rw [h5.2]; rfl), hk1.drewN _⟩
/-- look, of any bytes. -/
theorem look_any (w : World) (a : Option Addr) (n c : Nat) (l : List UInt8) (hn : n = l.length) (hs : Src8 w a l) (hc : n ≤ c) (hl : n ≤ 1000000000) :
    Calls Try.prog 26 #[.slice a n c] w fun e w' => e = .returned (.tuple #[.int .i64 (sizeOf1 l), .int .i64 (tellOf l)]) ∧ Keeps [] w w' := by
  subst hn
  by_cases h : l.length < 4
  · refine (look_short w a l.length c h).mono fun e w' ⟨he, hw⟩ => ?_
    subst hw
    have t := tell_short h
    rw [he, t, (size_none (by omega)).1]
    exact ⟨rfl, Keeps.refl _ _⟩
  · obtain ⟨g, o, rfl, hs'⟩ : ∃ g o, a = some ⟨g, o, none⟩ ∧ ∀ j, j < l.length → w.cell? ⟨g, o + j, none⟩ = some (.int .u8 (l.getD j 0).toNat) := by
      rcases hs with rfl | h1
      · simp at h
      · exact h1
    by_cases h2 : headBad l
    · have t := tell_head h h2
      rw [t, (size_none (by omega)).1]
      exact look_head w g o c l hs' hc h h2 hl
    · by_cases h3 : l.length < numAt l 0 + 6
      · have t := tell_part h h2 h3
        rw [t, (size_none (by omega)).1]
        exact look_part w g o c l hs' hc h h2 h3
      · exact look_full w g o c l hs' hc h h2 (by omega) hl
end Go.Proofs.Ytfkmgmnbkajgaaa
