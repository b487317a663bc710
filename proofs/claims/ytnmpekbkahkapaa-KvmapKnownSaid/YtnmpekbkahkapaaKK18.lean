/-
  The arguments of stage 11's laws as data: a state, operations, a key, a text.
-/
import Derived.Deep.Slices
import Derived.Deep.Fields
import Derived.ProofKit
import Derived.OpenShut
import Derived.ChangeSame
import Derived.Test.YtnmpekbkahkapaaKK17
import Derived.Test.YtnmpekbkahkapaaKK15
import Derived.Test.YtnmpekbkahkapaaKK07
import Derived.Test.YtnmpekbkahkapaaKK06
import Derived.Test.YtnmpekbkahkapaaKK16
set_option linter.unusedSimpArgs false
set_option linter.unusedVariables false
namespace Go.Proofs.Ytnmpekbkahkapaa
open Go.ChangeShapes Go.WideShapes Go.ChangeAt Go.RowKit
open Go.Deep
theorem own0 : ownKnob Try.prog.godebug = none := by kernel_rfl
section
variable {H : Type} {enc : TypeId × Value → H} {w : World} {sp : Nat → Bool} {held : Bool}
end
end Go.Proofs.Ytnmpekbkahkapaa
