/-
  The kinds of answers of an operation: the iterator's contract.
-/
import Derived.RangeFuncNested
import Derived.RangeFuncBound
import Derived.RangeFuncCalls
import Derived.RangeFuncLeaves
import Derived.RangeFuncBox
import Derived.RangeFuncFrom
import Derived.Shelf.Abstract
import Derived.Shelf.RegionOpen
import Derived.OwnWalkIn
import Derived.TacticsInMore
import Derived.LoopNIn
import Derived.LoopIn
import Derived.RegionIn
import Derived.Shelf.Lay
import Derived.Shelf.LaySoft
import Derived.Shelf.Strings.Builder1
import Derived.Shelf.Strings.BuilderF
import Derived.Shelf.Strings.BuilderK
import Derived.Shelf.Strconv.Itoa0
import Derived.Shelf.Strconv.Itoa1
import Derived.Shelf.LaysM
import Derived.Test.YtdachaekcjbfmaaGreatDoorProg
import Derived.Test.YtdachaekcjbfmaaGreatDoorMS02
import Derived.Test.YtdachaekcjbfmaaGreatDoorMS03
import Derived.Test.YtdachaekcjbfmaaGreatDoorMS24
import Derived.Test.YtdachaekcjbfmaaGreatDoorMS01
set_option linter.unusedSimpArgs false
set_option linter.unusedVariables false
namespace Go.Proofs.YtdachaekcjbfmaaGreatDoor
open Go.RowKit Go.Shelf
attribute [local go_sem] Oper.semAt_some
def kindsL (f : Int) : List Int := if f = 1 then [1] else if f = 2 ∨ f = 4 ∨ f = 7 then [0] else if f = 5 ∨ f = 6 then [1, 2] else if f = 3 ∨ f = 8 ∨ f = 9 ∨ f = 10 ∨ f = 11 then [3, 4] else []
theorem f_cases (f : Int) : f = 1 ∨ f = 2 ∨ f = 3 ∨ f = 4 ∨ f = 5 ∨ f = 6 ∨ f = 7 ∨ f = 8 ∨ f = 9 ∨ f = 10 ∨ f = 11 ∨ (f ≠ 1 ∧ f ≠ 2 ∧ f ≠ 3 ∧ f ≠ 4 ∧ f ≠ 5 ∧ f ≠ 6 ∧ f ≠ 7 ∧ f ≠ 8 ∧ f ≠ 9 ∧ f ≠ 10 ∧ f ≠ 11) := by omega
theorem kindsL_none {f : Int} (h : f ≠ 1 ∧ f ≠ 2 ∧ f ≠ 3 ∧ f ≠ 4 ∧ f ≠ 5 ∧ f ≠ 6 ∧ f ≠ 7 ∧ f ≠ 8 ∧ f ≠ 9 ∧ f ≠ 10 ∧ f ≠ 11) : kindsL f = [] := by
  obtain ⟨h1, h2, h3, h4, h5, h6, h7, h8, h9, h10, h11⟩ := h
  simp [kindsL, *]
end Go.Proofs.YtdachaekcjbfmaaGreatDoor
/-
  May: the program's.
-/
namespace Go.Proofs.YtdachaekcjbfmaaGreatDoor
open Go.RowKit Go.Shelf
attribute [local go_sem] Oper.semAt_some
/-- Whether an operation may answer. -/
def mayOf (f k v : Int) : Int := if rsGood k v then (if k ∈ kindsL f then 0 else 10) else 4
end Go.Proofs.YtdachaekcjbfmaaGreatDoor
