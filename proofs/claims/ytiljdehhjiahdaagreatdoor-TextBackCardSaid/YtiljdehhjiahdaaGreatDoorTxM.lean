/-
  TextBack, whatever the input.
-/
import Derived.Test.YtiljdehhjiahdaaGreatDoorTvM
import Derived.ProofKit
set_option linter.unusedSimpArgs false
set_option linter.unusedVariables false
namespace Go.Proofs.YtiljdehhjiahdaaGreatDoor
open Go.ChangeShapes Go.WideShapes Go.ChangeAt Go.RowKit
theorem textBack_true (w : World) (hG : Glob6 w) (x : Ev) (hx : x.In) (tx rd : Value) (hE : EvAt w.heap.size w tx rd x) (y : Ev) (hy : y.In) (ty ry : Value) (hF : EvAt w.heap.size w ty ry y) (s : ByteArray) (hs : s.size ≤ maxLen) :
    Calls Tryz.prog 3 #[.agg (evC x tx rd), .agg (evC y ty ry), .string s] w fun e w' => e = .returned (.bool true) ∧ Keeps [] w w' := by
  unfold maxLen at hs
  have h := TextBack_any w hG x y hx hy tx rd ty ry hE hF (Nat.le_refl _) s.data.toList (by simp; omega)
  rw [bs_of] at h
  exact h
end Go.Proofs.YtiljdehhjiahdaaGreatDoor
