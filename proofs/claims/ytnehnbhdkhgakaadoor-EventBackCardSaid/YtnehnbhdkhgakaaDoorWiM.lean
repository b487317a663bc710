/-
  EventBack, whatever the input.
-/
import Derived.Test.YtnehnbhdkhgakaaDoorG33
import Derived.ProofKit
set_option linter.unusedSimpArgs false
set_option linter.unusedVariables false
namespace Go.Proofs.YtnehnbhdkhgakaaDoor
open Go.ChangeShapes Go.WideShapes Go.ChangeAt Go.RowKit
theorem eventBack_true (w : World) (hG : Glob4 w) (x : Ev) (hx : x.In) (tx rd : Value) (hE : EvAt w.heap.size w tx rd x) (s : ByteArray) (hs : s.size ≤ maxLen) :
    Calls Tryd.prog 4 #[.agg (evC x tx rd), .string s] w fun e w' => e = .returned (.bool true) ∧ Keeps [] w w' := by
  unfold maxLen at hs
  have h := EventBack_any w hG x hx tx rd hE (Nat.le_refl _) s.data.toList (by simp; omega)
  rw [bs_of] at h
  exact h
end Go.Proofs.YtnehnbhdkhgakaaDoor
