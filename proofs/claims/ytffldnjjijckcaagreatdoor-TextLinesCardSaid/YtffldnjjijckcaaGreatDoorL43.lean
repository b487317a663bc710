/-
  TextLines, whatever the input.
-/
import Derived.ProofKit
import Derived.Test.YtffldnjjijckcaaGreatDoorL42
set_option linter.unusedSimpArgs false
set_option linter.unusedVariables false
namespace Go.Proofs.YtffldnjjijckcaaGreatDoor
open Go.ChangeShapes Go.WideShapes Go.ChangeAt Go.RowKit
theorem textLines_true (w : World) (hG : Glob6 w) (x : Ev) (hx : x.In) (tx rd : Value) (hE : EvAt w.heap.size w tx rd x) (s : ByteArray) (hs : s.size ≤ maxLen) :
    Calls Tryz.prog 3 #[.agg (evC x tx rd), .string s] w fun e w' => e = .returned (.bool true) ∧ Keeps [] w w' := by
  unfold maxLen at hs
  have h := TextLines_any w hG x hx tx rd hE (Nat.le_refl _) s.data.toList (by simp; omega)
  rw [bs_of] at h
  exact h
end Go.Proofs.YtffldnjjijckcaaGreatDoor
