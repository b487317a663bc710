/-
  The program's Text, the document's Text.
-/
import Derived.Lib.AtoiErrMem
import Derived.Test.YtnehnbhdkhgakaaDoorG08
set_option linter.unusedSimpArgs false
set_option linter.unusedVariables false
namespace Go.Proofs.YtnehnbhdkhgakaaDoor
open Go.RowKit

end Go.Proofs.YtnehnbhdkhgakaaDoor
