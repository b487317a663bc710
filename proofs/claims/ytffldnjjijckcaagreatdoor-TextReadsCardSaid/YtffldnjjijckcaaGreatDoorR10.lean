/-
  The Reader's List, where a list is whole.
-/
import Derived.RangeFuncFrom
import Derived.Test.YtffldnjjijckcaaGreatDoorR08
import Derived.Test.YtffldnjjijckcaaGreatDoorR09
set_option linter.unusedSimpArgs false
set_option linter.unusedVariables false
namespace Go.Proofs.YtffldnjjijckcaaGreatDoor
open Go.RowKit Go.Shelf
attribute [local go_sem] Oper.semAt_some
theorem Tryz.info16 : (Tryz.prog.info? 22).map (fun i => (i.zero, i.size, i.bytes)) = some (some (.int .u16 0), 1, 2) := by kernel_rfl
end Go.Proofs.YtffldnjjijckcaaGreatDoor
