/-
  slices.Chunk at two bytes: the iterator's contract.
-/
import Derived.RangeFuncNested
import Derived.RangeFuncBound
import Derived.RangeFuncCalls
import Derived.RangeFuncLeaves
import Derived.RangeFuncBox
import Derived.Shelf.Abstract
import Derived.Shelf.RegionOpen
import Derived.OwnWalkIn
import Derived.TacticsInMore
import Derived.LoopNIn
import Derived.LoopIn
import Derived.RegionIn
import Derived.Test.YtlaccndjlfpjbaaGreatDoorD01
set_option linter.unusedSimpArgs false
set_option linter.unusedVariables false
namespace Go.Proofs.YtlaccndjlfpjbaaGreatDoor
open Go.RowKit Go.Shelf
attribute [local go_sem] Oper.semAt_some
/-- These blocks are as they were. -/
def KpC (L : List Nat) (W W' : World) : Prop := ∀ k ∈ L, W'.heap[k]? = W.heap[k]?
theorem KpC.refl (L : List Nat) (W : World) : KpC L W W := fun _ _ => rfl
theorem KpC.trans {L : List Nat} {A B C : World} (h : KpC L A B) (k : KpC L B C) : KpC L A C := fun i hi => (k i hi).trans (h i hi)
end Go.Proofs.YtlaccndjlfpjbaaGreatDoor
