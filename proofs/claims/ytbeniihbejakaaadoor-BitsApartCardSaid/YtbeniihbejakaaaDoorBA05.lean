/-
  A register, as data; no program.
-/
import Derived.Lib.ParseIntBCases
import Derived.Lib.IndexMore
import Derived.Lib.ItoaMem
import Derived.Test.YtbeniihbejakaaaDoorBA01
set_option linter.unusedSimpArgs false
set_option linter.unusedVariables false
namespace Go.Proofs.YtbeniihbejakaaaDoor
/-- An answer. -/
structure Ans where
  k : Int
  v : Int
deriving DecidableEq
end Go.Proofs.YtbeniihbejakaaaDoor
