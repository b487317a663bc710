/-
  The law WorldKnown, by its card's order of arguments.
-/
import Derived.Test.YtbnhcggjcdipeaaGreatDoorWK39
import Derived.Test.YtbnhcggjcdipeaaGreatDoorWK40
set_option linter.unusedSimpArgs false
set_option linter.unusedVariables false
namespace Go.Proofs.YtbnhcggjcdipeaaGreatDoor
theorem WorldKnown_args (W : World) (hG : Glob13 W) : Calls Tryz.prog 8 #[] W fun e w' => e = .returned (.bool true) ∧ Keeps [] W w' := WorldKnown_any wdP W hG
end Go.Proofs.YtbnhcggjcdipeaaGreatDoor
