/-
  TextReads, whatever the input.
-/
import Derived.ProofKit
import Derived.Test.YtffldnjjijckcaaGreatDoorR42
set_option linter.unusedSimpArgs false
set_option linter.unusedVariables false
namespace Go.Proofs.YtffldnjjijckcaaGreatDoor
open Go.ChangeShapes Go.WideShapes Go.ChangeAt Go.RowKit
theorem textReads_true (w : World) (hG : Glob6 w) (s : ByteArray) (hs : s.size ≤ maxLen) :
    Calls Tryz.prog 4 #[.string s] w fun e w' => e = .returned (.bool true) ∧ Keeps [] w w' := by
  unfold maxLen at hs
  have h := TextReads_any w hG s.data.toList (by simp; omega)
  rw [bs_of] at h
  exact h
end Go.Proofs.YtffldnjjijckcaaGreatDoor
