/-
  The arguments of stage 14's laws as data; what the rows' condition on the package-level variables gives; the laws by the cards' order.
-/
import Derived.ArgAppend
import Derived.Deep.Slices
import Derived.Deep.Fields
import Derived.Deep.RegionHeld3
import Derived.Test.YtbnhcggjcdipeaaGreatDoorWK05
import Derived.Test.YtbnhcggjcdipeaaGreatDoorWK09
import Derived.Test.YtbnhcggjcdipeaaGreatDoorWK10
import Derived.Test.YtbnhcggjcdipeaaGreatDoorWK11
import Derived.Test.YtbnhcggjcdipeaaGreatDoorWK04
import Derived.Test.YtbnhcggjcdipeaaGreatDoorWK16
import Derived.Test.YtbnhcggjcdipeaaGreatDoorWK32
import Derived.Test.YtbnhcggjcdipeaaGreatDoorWK35
import Derived.Test.YtbnhcggjcdipeaaGreatDoorWK34
import Derived.Test.YtbnhcggjcdipeaaGreatDoorWK23
import Derived.Test.YtbnhcggjcdipeaaGreatDoorWK08
import Derived.Test.YtbnhcggjcdipeaaGreatDoorWK28
import Derived.Test.YtbnhcggjcdipeaaGreatDoorWK37
import Derived.Test.YtbnhcggjcdipeaaGreatDoorWK38
import Derived.Test.YtbnhcggjcdipeaaGreatDoorWK36
set_option linter.unusedSimpArgs false
set_option linter.unusedVariables false
namespace Go.Proofs.YtbnhcggjcdipeaaGreatDoor
open Go.ChangeShapes Go.WideShapes Go.ChangeAt Go.RowKit
open Go.Joins Go.Deep
/-- What the rows of this seat list. -/
def laidAll14 : List (String × DataW Unit) := Rows.worldStepsRow.laid
theorem laidAll14_met (os : Os) (args : Array Value) : laidMetH Tryz.prog laidAll14 ((World.laidAll Tryz.prog os laidAll14).forCall (fun _ _ => 0) ⟨#[], args, []⟩).memory := by
  rw [MakeChecks.laidMetH_plain _ _ _ (by kernel_rfl)]
  exact laidMet_laidAll _ (by kernel_rfl) (by kernel_rfl)
set_option maxRecDepth 100000 in
theorem glob14_of {W : World} (h : laidMetH Tryz.prog laidAll14 W) : Glob13 W := by
  rw [MakeChecks.laidMetH_plain _ _ _ (by kernel_rfl)] at h
  have h2 := h.tail.tail
  have h3 := h2.tail
  refine ⟨⟨?_⟩, ?_⟩
  · obtain ⟨ps, ⟨g', t', cs, fuel, p, q, hg', ht', hvar, hd, _, _⟩, _⟩ := h3
    obtain rfl := Option.some.inj (glob_kinds.symm.trans hg')
    obtain rfl := Option.some.inj ((show (Tryz.prog.globals[0]?).map (·.type) = some 151 by kernel_rfl).symm.trans ht')
    have e2 : cs = kindCells := by
      apply Array.ext'
      exact cells_of_kinds hd
    rw [e2] at hvar
    exact block_of_var glob_kinds hvar
  · have hT : laidMet Tryz.prog (("internal/strconv.uint64pow10", Lib.tabData .u64 Lib.pow10Tab) :: _) W := h2
    exact Lib.tabIs_of_head glob13_pow10 (by kernel_rfl) Tryz.underlying276 Tryz.underlying217 (by kernel_rfl) (by kernel_rfl) hT
section
variable {H : Type} {enc : TypeId × Value → H} {w : World} {sp : Nat → Bool} {held : Bool}
end
/-! The laws by the cards' order of arguments. -/
end Go.Proofs.YtbnhcggjcdipeaaGreatDoor
