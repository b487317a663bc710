/-
  The arguments of stage 10's laws as data: lists of numbers, operations; what the rows' condition on op's table gives.
-/
import Derived.Deep.Slices
import Derived.Deep.Fields
import Derived.Test.YtdachaekcjbfmaaGreatDoorMK05
import Derived.Test.YtdachaekcjbfmaaGreatDoorMK12
import Derived.Test.YtdachaekcjbfmaaGreatDoorMK04
set_option linter.unusedSimpArgs false
set_option linter.unusedVariables false
namespace Go.Proofs.YtdachaekcjbfmaaGreatDoor
open Go.ChangeShapes Go.WideShapes Go.ChangeAt Go.RowKit
open Go.Joins Go.Deep
section
variable {H : Type} {enc : TypeId × Value → H} {w : World} {sp : Nat → Bool} {held : Bool}
end
/-- What the rows of this seat list. -/
def laidAll : List (String × DataW Unit) := [("umpire/op.kinds", Rows.laid_umpire_op_kinds)]
end Go.Proofs.YtdachaekcjbfmaaGreatDoor
