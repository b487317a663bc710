/-
  TextScripts, whatever the input.
-/
import Derived.Test.YtiljdehhjiahdaaGreatDoorG50
import Derived.Test.YtiljdehhjiahdaaGreatDoorG51
set_option linter.unusedSimpArgs false
set_option linter.unusedVariables false
namespace Go.Proofs.YtiljdehhjiahdaaGreatDoor
open Go.RowKit
theorem textScripts_true (w : World) (hG : Glob6 w) (l : List Ev) (hl : ∀ x ∈ l, x.In) (v : Value) (hv : Evs w.heap.size w v l) (at0 : Int) (ha0 : 0 ≤ at0) (ha1 : at0 < 256) :
    Calls Tryz.prog 4 #[v, .int .u8 at0] w fun e w' => e = .returned (.bool true) ∧ Keeps [] w w' := TextScripts_any w hG l hl v hv (Nat.le_refl _) at0 ha0 ha1
end Go.Proofs.YtiljdehhjiahdaaGreatDoor
