/-
  What a loop over an iterator keeps.
-/
import Derived.RangeFuncNested
import Derived.RangeFuncBound
import Derived.RangeFuncCalls
import Derived.RangeFuncLeaves
import Derived.RangeFuncBox
import Derived.RangeFuncFrom
import Derived.Test.YtffldnjjijckcaaGreatDoorR01
set_option linter.unusedSimpArgs false
set_option linter.unusedVariables false
namespace Go.Proofs.YtffldnjjijckcaaGreatDoor
open Go.RowKit
theorem Keeps.others {F : List Nat} {W W' : World} (h : Keeps F W W') (hF : ∀ g ∈ F, ∀ o, W.heap[g]? = some o → o.isCells = true) : KeepsOthers W W' :=
  ⟨h.size, fun k o hk ho => h.heap hk (fun hm => by rw [hF k hm o hk] at ho; cases ho)⟩
end Go.Proofs.YtffldnjjijckcaaGreatDoor
