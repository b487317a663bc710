/-
  QueueKnown's walk, over any queue.
-/
import Derived.StillTailTactics
import Derived.Deep.RegionHeld3
import Derived.Test.YtaicampenpkneaaDoorQA10
import Derived.Test.YtaicampenpkneaaDoorQA07
import Derived.Test.YtaicampenpkneaaDoorQA11
set_option linter.unusedSimpArgs false
set_option linter.unusedVariables false
namespace Go.Proofs.YtaicampenpkneaaDoor
open Go.RowKit
variable {G : World → Prop}
def kwE (a : Int) : Opn := ⟨4, 0, 0, a, 0⟩
set_option maxHeartbeats 8000000
set_option maxRecDepth 100000
end Go.Proofs.YtaicampenpkneaaDoor
