/-
  Take: the document's.
-/
import Derived.Test.YtibppobibncpdaaGreatDoorG19
set_option linter.unusedSimpArgs false
set_option linter.unusedVariables false
namespace Go.Proofs.YtibppobibncpdaaGreatDoor
open Go.RowKit
theorem QAt.keep {w w' : World} {q p : Nat} {xs : List Int} {e : Int} {F : List Nat} (h : QAt w q xs e p) (hk : Keeps F w w') (hq : q ∉ F) : QAt w' q xs e p := hk.heap h hq
theorem rdPos_le {W : Nat} {xs : List Int} {e : Int} {p : Nat} (h : p ≤ xs.length) : rdPos W xs e p ≤ xs.length := by
  unfold rdPos; split
  · rename_i h2; exact h2.2
  · exact h
theorem rdErr_one {xs : List Int} {e : Int} {p : Nat} (h : rdVal 1 xs e p = 1) : rdErr 1 xs e p = 0 := by
  unfold rdVal at h
  split at h
  · rename_i h2
    simp [rdErr, h2.1, h2.2]
  · omega
set_option maxHeartbeats 2000000 in
theorem r3Take_any (w : World) (q p : Nat) (xs : List Int) (e : Int) (h : QAt w q xs e p) (hx : InU8 xs) (hp : p ≤ xs.length) (hl : xs.length ≤ 1000000) :
    Calls Tryz.prog 47 #[.pointer (some ⟨q, 0, none⟩)] w fun x w' => x = .returned (.tuple #[.agg #[.int .u8 (tkK xs e p), .int .u16 (tkV xs e p)], .int .i64 (tkE xs e p)]) ∧ QAt w' q xs (tkE2 xs e p) (tkP2 xs e p) ∧ Keeps [q] w w' := by
  obtain ⟨K, V, E2, hK, hV, hE2, k0, k1, v0, v1, hcase⟩ := tk_cases xs e p hx
  have hr1 := fun w h => qNumber_any w q p xs e h hx hp hl 1 (by omega)
  have hqlt : q < w.heap.size := lt_of_block h
  generalize hrk : tkK xs e p = RK at *
  generalize hrv : tkV xs e p = RV at *
  generalize hre : tkE xs e p = RE at *
  clear hrk hrv hre
  have h1 : QAt (w.alloc (.cells #[.int .u8 0, .int .u16 0] 26)) q xs e p := h.keep ((Keeps.refl [] _).alloc _) (by simp)
  by_cases hk1 : rdVal 1 xs e p = 1
  · have e1 := rdErr_one hk1
    have e2 : tkE2 xs e p = rdErr 2 xs 0 (rdPos 1 xs e p) := by rw [tkE2, if_pos hk1, e1]
    have e3 : tkP2 xs e p = rdPos 2 xs 0 (rdPos 1 xs e p) := by rw [tkP2, if_pos hk1, e1]
    have e4 : tkV0 xs e p = rdVal 2 xs 0 (rdPos 1 xs e p) := by rw [tkV0, if_pos hk1, e1]
    rw [hk1] at hK
    subst hK
    rw [← hE2] at e2 ⊢
    rw [e3]
    rw [← hV] at e4
    rw [hk1, e1] at hr1
    have hr2 := fun w h => qNumber_any w q (rdPos 1 xs e p) xs 0 h hx (rdPos_le hp) hl 2 (by omega)
    rw [← e2, ← e4] at hr2
    generalize rdPos 1 xs e p = P1 at *
    generalize rdPos 2 xs 0 P1 = P2 at *
    clear e1 e2 e3 e4 hE2 hV hk1
    go_enter Tryz.func47, Tryz.ntmps47
    go_wp2_with fail
    refine (hr1 _ h1).mono ?_; rintro x w1 ⟨rfl, hQ1, hk2⟩
    have hb0 := boxedF hk2 (by simp; omega)
    replace hk2 := ((Keeps.refl [q] w).alloc _).trans hk2 (FSub.refl _ _)
    obtain ⟨c0, c1, c2, f0, f1, f2⟩ := cell3 (show _ = _ from hQ1)
    go_wp2_with fail
    refine (hr2 _ hQ1).mono ?_; rintro x w2 ⟨rfl, hQ2, hk3⟩
    have hb2 := hk3.heap hb0 (by simp; omega)
    replace hk3 := hk2.trans hk3 (FSub.refl _ _)
    clear c0 c1 c2 f0 f1 f2 hb0 hQ1 hk2
    obtain ⟨c0, c1, c2, f0, f1, f2⟩ := cell3 (show _ = _ from hQ2)
    obtain ⟨d0, d1, hlt0⟩ := cell2 hb2
    have g0 : w2.frozen? ⟨w.heap.size, 0, none⟩ = false := by simp [World.frozen?, hb2]
    have g1 : w2.frozen? ⟨w.heap.size, 1, none⟩ = false := by simp [World.frozen?, hb2]
    have fin : ∀ a b, QAt ((w2.setCell ⟨w.heap.size, 0, none⟩ a).setCell ⟨w.heap.size, 1, none⟩ b) q xs E2 P2 ∧ Keeps [q] w ((w2.setCell ⟨w.heap.size, 0, none⟩ a).setCell ⟨w.heap.size, 1, none⟩ b) := fun a b =>
      ⟨hQ2.keep (((Keeps.refl [w.heap.size] _).setCell _ _ (by simp)).setCell _ _ (by simp)) (by simp; omega), (hk3.setCell _ _ (.inr (Nat.le_refl _))).setCell _ _ (.inr (Nat.le_refl _))⟩
    rcases hcase with ⟨z2, rfl, rfl, rfl⟩ | ⟨rfl, z4, rfl, rfl, rfl⟩ | ⟨rfl, z4, rfl, rfl, rfl⟩
    · have z2' : (RE != 0) = true := by simpa using z2
      have hr := put2 hb2 (.int .u8 0) (.int .u16 0)
      clear hb2
      go_wp2_with fail
      go_region
      go_wp2
      try simp only [Exit.inBlock, Exit.then]
      exact bodyPost_ret (results_row2 rfl _ _ w.heap.size rfl hr) rfl ⟨rfl, (fin _ _).1, (fin _ _).2.drew⟩
    · omega
    · have hr := put2 hb2 (.int .u8 1) (.int .u16 RV)
      clear hb2
      go_wp2_with fail
      try simp only [Exit.inBlock, Exit.then]
      exact bodyPost_ret (results_row2 rfl _ _ _ rfl hr) rfl ⟨rfl, fin _ _⟩
  · have e2 : tkE2 xs e p = rdErr 1 xs e p := by rw [tkE2, if_neg hk1]
    have e3 : tkP2 xs e p = rdPos 1 xs e p := by rw [tkP2, if_neg hk1]
    have e4 : tkV0 xs e p = 0 := by rw [tkV0, if_neg hk1]
    rw [← hE2] at e2 ⊢
    rw [e3]
    rw [← hV] at e4
    subst e4
    rw [← e2, ← hK] at hr1
    rw [← hK] at hk1
    have hk1' : (K == 1) = false := by simpa using hk1
    generalize rdPos 1 xs e p = P1 at *
    clear e2 e3 hE2 hV hK hk1
    go_enter Tryz.func47, Tryz.ntmps47
    go_wp2_with fail
    refine (hr1 _ h1).mono ?_; rintro x w1 ⟨rfl, hQ2, hk2⟩
    have hb2 := boxedF hk2 (by simp; omega)
    have hk3 := ((Keeps.refl [q] w).alloc _).trans hk2 (FSub.refl _ _)
    clear hk2
    obtain ⟨c0, c1, c2, f0, f1, f2⟩ := cell3 (show _ = _ from hQ2)
    obtain ⟨d0, d1, hlt0⟩ := cell2 hb2
    have g0 : w1.frozen? ⟨w.heap.size, 0, none⟩ = false := by simp [World.frozen?, hb2]
    have g1 : w1.frozen? ⟨w.heap.size, 1, none⟩ = false := by simp [World.frozen?, hb2]
    have fin : ∀ a b, QAt ((w1.setCell ⟨w.heap.size, 0, none⟩ a).setCell ⟨w.heap.size, 1, none⟩ b) q xs E2 P1 ∧ Keeps [q] w ((w1.setCell ⟨w.heap.size, 0, none⟩ a).setCell ⟨w.heap.size, 1, none⟩ b) := fun a b =>
      ⟨hQ2.keep (((Keeps.refl [w.heap.size] _).setCell _ _ (by simp)).setCell _ _ (by simp)) (by simp; omega), (hk3.setCell _ _ (.inr (Nat.le_refl _))).setCell _ _ (.inr (Nat.le_refl _))⟩
    rcases hcase with ⟨z2, rfl, rfl, rfl⟩ | ⟨rfl, z4, rfl, rfl, rfl⟩ | ⟨rfl, z4, rfl, rfl, rfl⟩
    · have z2' : (RE != 0) = true := by simpa using z2
      have z2'' : (RE == 0) = false := by simpa using z2
      have hr := put2 hb2 (.int .u8 0) (.int .u16 0)
      clear hb2
      go_wp2_with fail
      go_region
      go_wp2
      try simp only [Exit.inBlock, Exit.then]
      exact bodyPost_ret (results_row2 rfl _ _ w.heap.size rfl hr) rfl ⟨rfl, (fin _ _).1, (fin _ _).2.drew⟩
    · have hr := put2 hb2 (.int .u8 0) (.int .u16 0)
      clear hb2
      go_wp2_with fail
      try simp only [Exit.inBlock, Exit.then]
      exact bodyPost_ret (results_row2 rfl _ _ _ rfl hr) rfl ⟨rfl, fin _ _⟩
    · have hr := put2 hb2 (.int .u8 RK) (.int .u16 0)
      clear hb2
      go_wp2_with fail
      try simp only [Exit.inBlock, Exit.then]
      exact bodyPost_ret (results_row2 rfl _ _ _ rfl hr) rfl ⟨rfl, fin _ _⟩
end Go.Proofs.YtibppobibncpdaaGreatDoor
