/-
  The law WorldApart, by its card's order of arguments.
-/
import Derived.Test.YtbnhcggjcdipeaaGreatDoorWA41
import Derived.Test.YtbnhcggjcdipeaaGreatDoorWA42
set_option linter.unusedSimpArgs false
set_option linter.unusedVariables false
namespace Go.Proofs.YtbnhcggjcdipeaaGreatDoor
open Go.RowKit
theorem WorldApart_args (W : World) (hG : Glob13 W) (m : Int) (h0 : 0 ≤ m) (h1 : m < 256) {v : Value} {l : List Cl} (hI : rkC14.In W.heap.size W v l) (hl : ∀ y ∈ l, y.In) : Calls Tryz.prog 5 #[.int .u8 m, v] W fun e w' => e = .returned (.bool true) ∧ Keeps [] W w' :=
  WorldApart_all wdP W hG h0 h1 hl hI
end Go.Proofs.YtbnhcggjcdipeaaGreatDoor
