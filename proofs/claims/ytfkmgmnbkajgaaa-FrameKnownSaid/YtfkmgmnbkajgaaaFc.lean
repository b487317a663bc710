/-
  What bytes begin with: paired, look.
-/
import Derived.Test.YtfkmgmnbkajgaaaFb
import Derived.WalkMore
namespace Go.Proofs.Ytfkmgmnbkajgaaa
open Go.RowKit
/-- Bytes that lie in memory. -/
def Src8 (w : World) (a : Option Addr) (l : List UInt8) : Prop := l = [] ∨ ∃ b off, a = some ⟨b, off, none⟩ ∧ ∀ j, j < l.length → w.cell? ⟨b, off + j, none⟩ = some (.int .u8 (l.getD j 0).toNat)
theorem Src8.keeps {F : List Nat} {w w' : World} {a : Option Addr} {l : List UInt8} (h : Src8 w a l) (hk : Keeps F w w') (hF : ∀ b off, a = some ⟨b, off, none⟩ → l ≠ [] → b ∉ F) : Src8 w' a l := by
  rcases h with h | ⟨b, off, rfl, hc⟩
  · exact .inl h
  · by_cases he : l = []
    · exact .inl he
    · exact .inr ⟨b, off, rfl, fun j hj => hk.cell (hc j hj) (hF b off rfl he)⟩
set_option maxHeartbeats 1000000 in
theorem paired_any (w : World) (g o n c x0 x1 : Nat) (h0 : x0 < 256) (h1 : x1 < 256) (hn : 2 ≤ n) (c0 : w.cell? ⟨g, o, none⟩ = some (.int .u8 x0)) (c1 : w.cell? ⟨g, o + 1, none⟩ = some (.int .u8 x1)) :
    Calls Try.prog 37 #[.slice (some ⟨g, o, none⟩) n c] w fun e w' => e = .returned (.int .u16 ((256 * x0 + x1 : Nat) : Int)) ∧ ∃ k, w' = w.drewN k := by
  have hj := or16_join x0 x1 (by omega) (by omega) (by omega) (by omega)
  go_enter Try.func37, Try.ntmps37
  go_wp2
  go_quiet (fail)
  go_wp2
  go_ret
  exact ⟨ret_num (by omega), _, rfl⟩
theorem paired_src (w : World) (g o n c : Nat) (l : List UInt8) (i : Nat) (hi : i + 1 < l.length) (hn : 2 ≤ n) (hs : ∀ j, j < l.length → w.cell? ⟨g, o + j, none⟩ = some (.int .u8 (l.getD j 0).toNat)) :
    Calls Try.prog 37 #[.slice (some ⟨g, o + i, none⟩) n c] w fun e w' => e = .returned (.int .u16 (numAt l i)) ∧ ∃ k, w' = w.drewN k :=
  paired_any w g (o + i) n c _ _ (l.getD i 0).toNat_lt (l.getD (i + 1) 0).toNat_lt hn (hs i (by omega)) (by have := hs (i + 1) hi; rw [← Nat.add_assoc] at this; exact this)
set_option maxHeartbeats 1000000 in
theorem look_short (w : World) (a : Option Addr) (n c : Nat) (h : n < 4) :
    Calls Try.prog 26 #[.slice a n c] w fun e w' => e = .returned (.tuple #[.int .i64 0, .int .i64 0]) ∧ w = w' := by
  go_enter Try.func26, Try.ntmps26
  go_wp2_with fail
  go_step3
  go_wp2_with fail
  go_step3
  go_wp2_with fail
  refine wp_loop_rounds 1 ?_
  rw [rounds_succ]
  go_wp2_with fail
  first | rw [Exit.noGoto_ret] | skip
  go_ret2
  exact ⟨rfl, rfl⟩
set_option maxHeartbeats 1000000 in
theorem look_head (w : World) (g o c : Nat) (l : List UInt8) (hs : ∀ j, j < l.length → w.cell? ⟨g, o + j, none⟩ = some (.int .u8 (l.getD j 0).toNat)) (hc : l.length ≤ c) (h : ¬ l.length < 4) (h2 : headBad l) (hl : l.length ≤ 1000000000) :
    Calls Try.prog 26 #[.slice (some ⟨g, o, none⟩) l.length c] w fun e w' => e = .returned (.tuple #[.int .i64 0, .int .i64 2]) ∧ Keeps [] w w' := by
  have HS := Lib.hid hs; clear hs
  have e0 := paired_src w g o l.length c l 0 (by omega) (by omega) HS.out
  have h0 := numAt_lt l 0
  have h2' := numAt_lt l 2
  unfold headBad at h2
  generalize numAt l 0 = n at *
  generalize hq : numAt l 2 = q at *
  have HQ := Lib.hid hq; clear hq
  by_cases hn0 : n = 0
  · subst hn0
    go_enter Try.func26, Try.ntmps26
    go_wp2_with fail
    go_step3
    go_wp2_with fail
    go_step3
    go_wp2_with fail
    refine wp_loop_rounds 1 ?_
    rw [rounds_succ]
    go_wp2_with fail
    refine e0.mono ?_; rintro e w1 ⟨rfl, k, rfl⟩
    go_wp2_with fail
    first | rw [Exit.noGoto_ret] | skip
    go_ret2
    exact ⟨rfl, (Keeps.refl _ _).drewN _⟩
  · by_cases hn6 : 600 < n
    · go_enter Try.func26, Try.ntmps26
      go_wp2_with fail
      go_step3
      go_wp2_with fail
      go_step3
      go_wp2_with fail
      refine wp_loop_rounds 1 ?_
      rw [rounds_succ]
      go_wp2_with fail
      refine e0.mono ?_; rintro e w1 ⟨rfl, k, rfl⟩
      go_wp2_with fail
      first | rw [Exit.noGoto_ret] | skip
      go_ret2
      exact ⟨rfl, (Keeps.refl _ _).drewN _⟩
    · have hx := xor_of n (by omega)
      have hg : IntKind.u16.signed = false := rfl
      have hne : ((q : Int) != ((65535 - n : Nat) : Int)) = true := by simp; omega
      have hc2 : ¬ c = 2 := by omega
      go_enter Try.func26, Try.ntmps26
      go_wp2_with fail
      go_step3
      go_wp2_with fail
      go_step3
      go_wp2_with fail
      refine wp_loop_rounds 1 ?_
      rw [rounds_succ]
      go_wp2_with fail
      refine e0.mono ?_; rintro e w1 ⟨rfl, k, rfl⟩
      go_wp2_with fail
      refine (paired_src (w.drewN k) g o (l.length - 2) (c - 2) l 2 (by omega) (by omega) (fun j hj => HS.out j hj)).mono ?_; rintro e w1 ⟨rfl, k2, rfl⟩
      rw [HQ.out]
      go_wp2_with fail
      rw [Exit.noGoto_ret]
      go_ret2
      exact ⟨rfl, (Keeps.refl _ _).drewN _⟩
set_option maxHeartbeats 600000 in
theorem look_part (w : World) (g o c : Nat) (l : List UInt8) (hs : ∀ j, j < l.length → w.cell? ⟨g, o + j, none⟩ = some (.int .u8 (l.getD j 0).toNat)) (hc : l.length ≤ c) (h : ¬ l.length < 4) (h2 : ¬ headBad l) (h3 : l.length < numAt l 0 + 6) :
    Calls Try.prog 26 #[.slice (some ⟨g, o, none⟩) l.length c] w fun e w' => e = .returned (.tuple #[.int .i64 0, .int .i64 0]) ∧ Keeps [] w w' := by
  have HS := Lib.hid hs; clear hs
  have e0 := paired_src w g o l.length c l 0 (by omega) (by omega) HS.out
  unfold headBad at h2
  generalize numAt l 0 = n at *
  obtain ⟨n1, n6⟩ : 1 ≤ n ∧ n ≤ 600 := by omega
  have HQ : Hid (numAt l 2 = 65535 - n) := Lib.hid (by omega)
  clear h2
  have hb0 : ((n : Int) == 0) = false := by simp; omega
  have hb6 : decide ((600 : Int) < (n : Int)) = false := by simp; omega
  have hx := xor_of n (by omega)
  have hg : IntKind.u16.signed = false := rfl
  have hc2 : ¬ c = 2 := by omega
  go_enter Try.func26, Try.ntmps26
  go_wp2_with fail
  go_step3
  go_wp2_with fail
  go_step3
  go_wp2_with fail
  refine wp_loop_rounds 2 ?_
  rw [rounds_succ]
  go_wp2_with fail
  refine e0.mono ?_; rintro e w1 ⟨rfl, k, rfl⟩
  go_wp2_with fail
  refine (paired_src (w.drewN k) g o (l.length - 2) (c - 2) l 2 (by omega) (by omega) (fun j hj => HS.out j hj)).mono ?_; rintro e w1 ⟨rfl, k2, rfl⟩
  rw [HQ.out]
  go_wp2_with fail
  rw [rounds_succ]
  go_wp2_with fail
  rw [Exit.noGoto_ret]
  go_ret2
  exact ⟨rfl, (Keeps.refl _ _).drewN _⟩
end Go.Proofs.Ytfkmgmnbkajgaaa
