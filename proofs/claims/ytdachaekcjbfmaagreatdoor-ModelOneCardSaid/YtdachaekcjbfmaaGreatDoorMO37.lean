/-
  What the package-level variables hold; whether an answer is valid.
-/
import Derived.Shelf.Lay
import Derived.Shelf.LaySoft
import Derived.Shelf.Strings.Builder1
import Derived.Shelf.Strings.BuilderF
import Derived.Shelf.Strings.BuilderK
import Derived.Shelf.Strconv.Itoa0
import Derived.Shelf.Strconv.Itoa1
import Derived.Shelf.LaysM
import Derived.Test.YtdachaekcjbfmaaGreatDoorProg
import Derived.Test.YtdachaekcjbfmaaGreatDoorMO02
import Derived.Test.YtdachaekcjbfmaaGreatDoorMO03
import Derived.Test.YtdachaekcjbfmaaGreatDoorMO24
set_option linter.unusedSimpArgs false
set_option linter.unusedVariables false
namespace Go.Proofs.YtdachaekcjbfmaaGreatDoor
open Go.RowKit
set_option maxHeartbeats 400000 in
theorem isKind_any (w : World) (k : Int) (h0 : 0 ≤ k) (h1 : k < 256) : Calls Tryz.prog 62 #[.int .u8 k] w fun e w' => e = .returned (.bool (decide (k < 5))) ∧ w = w' := by
  go_enter Tryz.func62, Tryz.ntmps62
  go_wp2
  go_ret
  exact ⟨by rfl, rfl⟩
set_option maxHeartbeats 400000 in
theorem Check_any (w : World) (k v : Int) (h0 : 0 ≤ k) (h1 : k < 256) : Calls Tryz.prog 45 #[.agg #[.int .u8 k, .int .u16 v]] w fun e w' => e = .returned (.int .i64 (rsErr k v)) ∧ Keeps [] w w' := by
  by_cases hk5 : k < 5
  · by_cases hv : v = 0
    · have e1 : rsErr k v = 0 := rsErr_good (by simp [rsGood, hv]; omega)
      rw [e1]
      subst hv
      go_enter Tryz.func45, Tryz.ntmps45
      go_wp2_with (go_at_call 62; refine (isKind_any _ k h0 h1).mono ?_; rintro e w' ⟨rfl, rfl⟩)
      go_ret
      exact ⟨rfl, (Keeps.refl _ _).alloc _⟩
    · have hv2 : (v != 0) = true := by simpa using hv
      by_cases hk1 : k = 1
      · subst hk1
        have e1 : rsErr 1 v = 0 := rsErr_good (by simp [rsGood])
        rw [e1]
        go_enter Tryz.func45, Tryz.ntmps45
        go_wp2_with (go_at_call 62; refine (isKind_any _ 1 (by omega) (by omega)).mono ?_; rintro e w' ⟨rfl, rfl⟩)
        go_ret
        exact ⟨rfl, (Keeps.refl _ _).alloc _⟩
      · have hk2 : (k != 1) = true := by simpa using hk1
        have e1 : rsErr k v = 4 := rsErr_bad (by simp [rsGood, hk1, hv])
        rw [e1]
        go_enter Tryz.func45, Tryz.ntmps45
        go_wp2_with (go_at_call 62; refine (isKind_any _ k h0 h1).mono ?_; rintro e w' ⟨rfl, rfl⟩)
        go_ret
        exact ⟨rfl, (Keeps.refl _ _).alloc _⟩
  · have e1 : rsErr k v = 4 := rsErr_bad (by simp [rsGood]; omega)
    rw [e1]
    go_enter Tryz.func45, Tryz.ntmps45
    go_wp2_with (go_at_call 62; refine (isKind_any _ k h0 h1).mono ?_; rintro e w' ⟨rfl, rfl⟩)
    go_ret
    exact ⟨rfl, (Keeps.refl _ _).alloc _⟩
end Go.Proofs.YtdachaekcjbfmaaGreatDoor
