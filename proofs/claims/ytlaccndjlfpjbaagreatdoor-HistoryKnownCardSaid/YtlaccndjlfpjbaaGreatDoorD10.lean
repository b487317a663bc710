/-
  What the rows' condition on op's table gives.
-/
import Derived.Deep.Slices
import Derived.Deep.Fields
import Derived.Test.YtlaccndjlfpjbaaGreatDoorD05
import Derived.Test.YtlaccndjlfpjbaaGreatDoorD09
set_option linter.unusedSimpArgs false
set_option linter.unusedVariables false
namespace Go.Proofs.YtlaccndjlfpjbaaGreatDoor
open Go.ChangeShapes Go.WideShapes Go.ChangeAt Go.RowKit
open Go.Joins Go.Deep
/-- What the rows of this seat list. -/
def laidAll : List (String × DataW Unit) := [("umpire/op.kinds", Rows.laid_umpire_op_kinds)]
theorem laidAll_met (os : Os) (args : Array Value) : laidMetH Tryz.prog laidAll ((World.laidAll Tryz.prog os laidAll).forCall (fun _ _ => 0) ⟨#[], args, []⟩).memory := by
  rw [MakeChecks.laidMetH_plain _ _ _ (by kernel_rfl)]
  exact laidMet_laidAll _ (by kernel_rfl) (by kernel_rfl)
set_option maxRecDepth 100000 in
theorem glob_of {W : World} (h : laidMetH Tryz.prog laidAll W) : Glob4 W := by
  rw [MakeChecks.laidMetH_plain _ _ _ (by kernel_rfl)] at h
  refine ⟨?_⟩
  obtain ⟨ps, ⟨g', t', cs, fuel, p, q, hg', ht', hvar, hd, _, _⟩, _⟩ := h
  obtain rfl := Option.some.inj (glob_kinds.symm.trans hg')
  obtain rfl := Option.some.inj ((show (Tryz.prog.globals[0]?).map (·.type) = some 104 by kernel_rfl).symm.trans ht')
  have e2 : cs = kindCells := by
    apply Array.ext'
    exact cells_of_kinds hd
  rw [e2] at hvar
  exact block_of_var glob_kinds hvar
end Go.Proofs.YtlaccndjlfpjbaaGreatDoor
