/-
  The Reader's List: where it gives nothing.
-/
import Derived.Test.YtchenofgmmgdmaaAk
namespace Go.Proofs.Ytchenofgmmgdmaa
open Go.RowKit
/-- Is a list whole here? -/
def LWhole (xs : List Int) (p : Nat) : Prop := p < xs.length ∧ p + 1 + 2 * (xs.getD p 0).toNat ≤ xs.length
set_option maxHeartbeats 400000 in
theorem RList_err (w : World) (r g cap p : Nat) (xs : List Int) (e : Int) (h : RAt w r g cap xs e p) (he : e ≠ 0) :
    Calls Try.prog 25 #[.pointer (some ⟨r, 0, none⟩)] w fun x w' => x = .returned (.slice none 0 0) ∧ w = w' := by
  have he2 : (e != 0) = true := by simpa using he
  go_enter Try.func25, Try.ntmps25
  go_wp2_with fail
  refine (Err_any _ r g cap p xs e h).mono ?_
  rintro x w1 ⟨rfl, rfl⟩
  go_wp2_with fail
  go_ret
  exact ⟨rfl, rfl⟩
set_option maxHeartbeats 1000000 in
theorem RList_torn (w : World) (r g cap p : Nat) (xs : List Int) (h : RAt w r g cap xs 0 p) (hx : InU8 xs) (hl : xs.length ≤ 1000000) (hw : ¬ LWhole xs p) :
    Calls Try.prog 25 #[.pointer (some ⟨r, 0, none⟩)] w fun x w' => x = .returned (.slice none 0 0) ∧ RAt w' r g cap xs 5 p ∧ Keeps [r] w w' := by
  obtain ⟨c0, c1, c2, f0, f1, f2⟩ := cell3 h.blk
  by_cases hp : p < xs.length
  · have e1 : rdVal 1 xs 0 p = xs.getD p 0 := by rw [rdVal, if_pos ⟨rfl, hp⟩, numOf_1 xs p hp]; rfl
    have e2 : rdErr 1 xs 0 p = 0 := by simp [rdErr]; omega
    have e3 : rdPos 1 xs 0 p = p + 1 := by rw [rdPos, if_pos ⟨rfl, hp⟩]
    have hc := hx p
    have ht : ¬ p + 1 + 2 * (xs.getD p 0).toNat ≤ xs.length := fun h' => hw ⟨hp, h'⟩
    have h8 := fun w' h' => RU8_any w' r g cap p xs 0 h' hx hl
    rw [e1, e2, e3] at h8
    clear e1 e2 e3
    generalize hn : xs.getD p 0 = n at *
    clear hn
    obtain ⟨N, rfl⟩ := Int.eq_ofNat_of_zero_le hc.1
    rw [Int.toNat_natCast] at ht
    have hN : (N : Int) < 256 := hc.2
    have H8 := Lib.hid h8; clear h8 hc
    go_enter Try.func25, Try.ntmps25
    go_wp2_with fail
    refine (Err_any _ r g cap p xs 0 h).mono ?_
    rintro x w1 ⟨rfl, rfl⟩
    go_wp2_with fail
    refine (H8.out _ h).mono ?_
    rintro x w1 ⟨rfl, h1, hk⟩
    go_wp2_with fail
    refine (wid16_any _).mono ?_
    rintro x w2 ⟨rfl, rfl⟩
    go_wp2_with fail
    refine (take_long _ r g cap (p + 1) xs h1 hl ((N : Int) * 2) (by omega)).mono ?_
    rintro x w3 ⟨rfl, h3, hk3⟩
    obtain ⟨d0, d1, d2, g0, g1, g2⟩ := cell3 h3.blk
    go_wp2_with fail
    go_ret
    have := set3_2 h3.blk (.int .i64 (p : Int))
    exact ⟨rfl, ⟨this, fun j hj => ((Keeps.refl [r] _).setCell _ _ (by simp)).cell (h3.src j hj) (by simpa using h.ne), h.le, h.cap, h.ne⟩, (hk.step hk3 (fun _ h => h)).setCell _ _ (by simp)⟩
  · have e1 : rdVal 1 xs 0 p = 0 := by rw [rdVal, if_neg (fun h => hp h.2)]
    have e2 : rdErr 1 xs 0 p = 5 := by simp [rdErr]; omega
    have e3 : rdPos 1 xs 0 p = p := by rw [rdPos, if_neg (fun h => hp h.2)]
    have h8 := RU8_any w r g cap p xs 0 h hx hl
    rw [e1, e2, e3] at h8
    clear e1 e2 e3
    have H8 := Lib.hid h8; clear h8
    go_enter Try.func25, Try.ntmps25
    go_wp2_with fail
    refine (Err_any _ r g cap p xs 0 h).mono ?_
    rintro x w1 ⟨rfl, rfl⟩
    go_wp2_with fail
    refine (H8.out).mono ?_
    rintro x w1 ⟨rfl, h1, hk⟩
    go_wp2_with fail
    refine (wid16_any _).mono ?_
    rintro x w2 ⟨rfl, rfl⟩
    go_wp2_with fail
    refine (take_err _ r g cap p xs 5 h1 (by omega) 0).mono ?_
    rintro x w3 ⟨rfl, rfl⟩
    obtain ⟨d0, d1, d2, g0, g1, g2⟩ := cell3 h1.blk
    go_wp2_with fail
    go_ret
    have := set3_2 h1.blk (.int .i64 (p : Int))
    exact ⟨rfl, ⟨this, fun j hj => ((Keeps.refl [r] _).setCell _ _ (by simp)).cell (h1.src j hj) (by simpa using h.ne), h.le, h.cap, h.ne⟩, hk.setCell _ _ (by simp)⟩
end Go.Proofs.Ytchenofgmmgdmaa
