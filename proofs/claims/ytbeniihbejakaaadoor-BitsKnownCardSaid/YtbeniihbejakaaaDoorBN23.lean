/-
  The arguments of stage 15's laws as data: numbers, acts, two numbers.
-/
import Derived.Deep.Slices
import Derived.Deep.Fields
import Derived.Test.YtbeniihbejakaaaDoorBN03
import Derived.Test.YtbeniihbejakaaaDoorBN20
import Derived.Test.YtbeniihbejakaaaDoorBN22
import Derived.Test.YtbeniihbejakaaaDoorBN09
set_option linter.unusedSimpArgs false
set_option linter.unusedVariables false
namespace Go.Proofs.YtbeniihbejakaaaDoor
open Go.ChangeShapes Go.WideShapes Go.ChangeAt Go.RowKit
open Go.Joins Go.Deep
/-- What the rows of this seat list. -/
def laidAll15 : List (String × DataW Unit) := Rows.bitsPlaysRow.laid
theorem laidAll15_met (os : Os) (args : Array Value) : laidMetH Tryd.prog laidAll15 ((World.laidAll Tryd.prog os laidAll15).forCall (fun _ _ => 0) ⟨#[], args, []⟩).memory := by
  rw [MakeChecks.laidMetH_plain _ _ _ (by kernel_rfl)]
  exact laidMet_laidAll _ (by kernel_rfl) (by kernel_rfl)
set_option maxRecDepth 100000 in
theorem glob15_of {W : World} (h : laidMetH Tryd.prog laidAll15 W) : Glob15 W := by
  rw [MakeChecks.laidMetH_plain _ _ _ (by kernel_rfl)] at h
  have hT : laidMet Tryd.prog (("math/bits.deBruijn64tab", Lib.tabData .u8 (Lib.deBruijn64tab.map fun x : Nat => (x : Int))) :: []) W := h
  exact ⟨Lib.tabIs_of_head glob15_tab (by kernel_rfl) Tryd.underlying82 Tryd.underlying5 (by kernel_rfl) (by kernel_rfl) hT⟩
section
variable {H : Type} {enc : TypeId × Value → H} {w : World} {sp : Nat → Bool} {held : Bool}
end
/-! The laws by the cards' order of arguments. -/
end Go.Proofs.YtbeniihbejakaaaDoor
