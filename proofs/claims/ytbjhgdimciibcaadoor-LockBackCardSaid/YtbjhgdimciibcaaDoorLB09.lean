/-
  The arguments of stage 10's laws as data: lists of numbers, operations; what the rows' condition on op's table gives.
-/
import Derived.Deep.RegionHeld3
import Derived.Laws.Tables
import Derived.BigQuiet
import Derived.StillTailTactics
import Derived.Deep.Upon
import Derived.ArgAppend
import Derived.Deep.Slices
import Derived.Deep.Fields
import Derived.Test.YtbjhgdimciibcaaDoorLB05
import Derived.Test.YtbjhgdimciibcaaDoorLB08
import Derived.Test.YtbjhgdimciibcaaDoorLB07
import Derived.Test.YtbjhgdimciibcaaDoorLB04
set_option linter.unusedSimpArgs false
set_option linter.unusedVariables false
namespace Go.Proofs.YtbjhgdimciibcaaDoor
open Go.ChangeShapes Go.WideShapes Go.ChangeAt Go.RowKit
open Go.Joins Go.Deep
section
variable {H : Type} {enc : TypeId × Value → H} {w : World} {sp : Nat → Bool} {held : Bool}
end
/-- What the rows of this seat list. -/
def laidAll : List (String × DataW Unit) := [("umpire/op.kinds", Rows.laid_umpire_op_kinds)]
theorem laidAll_met (os : Os) (args : Array Value) : laidMetH Tryd.prog laidAll ((World.laidAll Tryd.prog os laidAll).forCall (fun _ _ => 0) ⟨#[], args, []⟩).memory := by
  rw [MakeChecks.laidMetH_plain _ _ _ (by kernel_rfl)]
  exact laidMet_laidAll _ (by kernel_rfl) (by kernel_rfl)
set_option maxRecDepth 100000 in
theorem glob_of {W : World} (h : laidMetH Tryd.prog laidAll W) : Glob4 W := by
  rw [MakeChecks.laidMetH_plain _ _ _ (by kernel_rfl)] at h
  refine ⟨?_⟩
  obtain ⟨ps, ⟨g', t', cs, fuel, p, q, hg', ht', hvar, hd, _, _⟩, _⟩ := h
  obtain rfl := Option.some.inj (glob_kinds.symm.trans hg')
  obtain rfl := Option.some.inj ((show (Tryd.prog.globals[0]?).map (·.type) = some 67 by kernel_rfl).symm.trans ht')
  have e2 : cs = kindCells := by
    apply Array.ext'
    exact cells_of_kinds hd
  rw [e2] at hvar
  exact block_of_var glob_kinds hvar
end Go.Proofs.YtbjhgdimciibcaaDoor
