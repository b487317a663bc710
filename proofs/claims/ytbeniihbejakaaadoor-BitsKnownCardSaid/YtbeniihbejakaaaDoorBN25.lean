/-
  The law BitsKnown, by its card's order of arguments.
-/
import Derived.Test.YtbeniihbejakaaaDoorBN23
import Derived.Test.YtbeniihbejakaaaDoorBN24
set_option linter.unusedSimpArgs false
set_option linter.unusedVariables false
namespace Go.Proofs.YtbeniihbejakaaaDoor
theorem BitsKnown_args (W : World) (hG : Glob15 W) : Calls Tryd.prog 5 #[] W fun e w' => e = .returned (.bool true) ∧ Keeps [] W w' := BitsKnown_any btP W hG
end Go.Proofs.YtbeniihbejakaaaDoor
