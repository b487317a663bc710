/-
  TextWrites, whatever the input.
-/
import Derived.Test.YtffldnjjijckcaaGreatDoorW36
import Derived.Test.YtffldnjjijckcaaGreatDoorW37
set_option linter.unusedSimpArgs false
set_option linter.unusedVariables false
namespace Go.Proofs.YtffldnjjijckcaaGreatDoor
open Go.RowKit
theorem textWrites_true (w : World) (hG : Glob6 w) (l : List Ev) (hl : ∀ x ∈ l, x.In) (v : Value) (hv : Evs w.heap.size w v l) :
    Calls Tryz.prog 5 #[v] w fun e w' => e = .returned (.bool true) ∧ Keeps [] w w' := TextWrites_any w hG l hl v hv (Nat.le_refl _)
end Go.Proofs.YtffldnjjijckcaaGreatDoor
