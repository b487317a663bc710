/-
  The program's lock: Run.
-/
import Derived.Test.YtbeniihbejakaaaDoorBD10
import Derived.Test.YtbeniihbejakaaaDoorBD07
import Derived.Test.YtbeniihbejakaaaDoorBD09
import Derived.Test.YtbeniihbejakaaaDoorBD05
import Derived.Test.YtbeniihbejakaaaDoorBD06
set_option linter.unusedSimpArgs false
set_option linter.unusedVariables false
namespace Go.Proofs.YtbeniihbejakaaaDoor
open Go.RowKit
section
variable {ops : Array Oper} {rest : List Oper} {a : Act} {w : World} {Q : Exit → Act → World → Prop}
end
/-- A new block, then stores into it. -/
theorem Keeps.trans' {a b c : World} {g : Nat} (h : Keeps [] a b) (k : Keeps [g] b c) (hg : a.heap.size ≤ g) : Keeps [] a c := h.trans k (fun q hq => .inr (by simp at hq; omega))
set_option maxHeartbeats 8000000
set_option maxRecDepth 100000
end Go.Proofs.YtbeniihbejakaaaDoor
