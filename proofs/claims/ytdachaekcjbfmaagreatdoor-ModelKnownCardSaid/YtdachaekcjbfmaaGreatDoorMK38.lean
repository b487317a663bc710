/-
  The arguments of stage 13's laws as data; what the rows' condition on the package-level variables gives; the laws by the cards' order.
-/
import Derived.Test.YtdachaekcjbfmaaGreatDoorMK13
import Derived.Test.YtdachaekcjbfmaaGreatDoorMK20
import Derived.Test.YtdachaekcjbfmaaGreatDoorMK37
import Derived.Test.YtdachaekcjbfmaaGreatDoorMK36
set_option linter.unusedSimpArgs false
set_option linter.unusedVariables false
namespace Go.Proofs.YtdachaekcjbfmaaGreatDoor
open Go.ChangeShapes Go.WideShapes Go.ChangeAt Go.RowKit
open Go.Joins Go.Deep
/-- What the rows of this seat list. -/
def laidAll13 : List (String × DataW Unit) := Rows.modelStepsRow.laid
theorem laidAll13_met (os : Os) (args : Array Value) : laidMetH Tryz.prog laidAll13 ((World.laidAll Tryz.prog os laidAll13).forCall (fun _ _ => 0) ⟨#[], args, []⟩).memory := by
  rw [MakeChecks.laidMetH_plain _ _ _ (by kernel_rfl)]
  exact laidMet_laidAll _ (by kernel_rfl) (by kernel_rfl)
set_option maxRecDepth 100000 in
theorem glob13_of {W : World} (h : laidMetH Tryz.prog laidAll13 W) : Glob13 W := by
  rw [MakeChecks.laidMetH_plain _ _ _ (by kernel_rfl)] at h
  have h2 := h.tail.tail
  have h3 := h2.tail
  refine ⟨⟨?_⟩, ?_⟩
  · obtain ⟨ps, ⟨g', t', cs, fuel, p, q, hg', ht', hvar, hd, _, _⟩, _⟩ := h3
    obtain rfl := Option.some.inj (glob_kinds.symm.trans hg')
    obtain rfl := Option.some.inj ((show (Tryz.prog.globals[0]?).map (·.type) = some 108 by kernel_rfl).symm.trans ht')
    have e2 : cs = kindCells := by
      apply Array.ext'
      exact cells_of_kinds hd
    rw [e2] at hvar
    exact block_of_var glob_kinds hvar
  · have hT : laidMet Tryz.prog (("internal/strconv.uint64pow10", Lib.tabData .u64 Lib.pow10Tab) :: _) W := h2
    exact Lib.tabIs_of_head glob13_pow10 (by kernel_rfl) Tryz.underlying275 Tryz.underlying268 (by kernel_rfl) (by kernel_rfl) hT
section
variable {H : Type} {enc : TypeId × Value → H} {w : World} {sp : Nat → Bool} {held : Bool}
end
/-! The laws by the cards' order of arguments. -/
end Go.Proofs.YtdachaekcjbfmaaGreatDoor
/-
  The law ModelKnown as its card takes it.
-/
namespace Go.Proofs.YtdachaekcjbfmaaGreatDoor
open Go.RowKit
theorem ModelKnown_args (W : World) (hG : Glob13 W) : Calls Tryz.prog 5 #[] W fun e w' => e = .returned (.bool true) ∧ Keeps [] W w' :=
  ModelKnown_any mdP mdP_fits mdP_same mdP_dec mdP_idle W hG
end Go.Proofs.YtdachaekcjbfmaaGreatDoor
