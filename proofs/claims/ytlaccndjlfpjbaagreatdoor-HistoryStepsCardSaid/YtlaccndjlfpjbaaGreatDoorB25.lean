/-
  HistorySteps, whatever the input.
-/
import Derived.Test.YtlaccndjlfpjbaaGreatDoorB23
import Derived.Test.YtlaccndjlfpjbaaGreatDoorB24
set_option linter.unusedSimpArgs false
set_option linter.unusedVariables false
namespace Go.Proofs.YtlaccndjlfpjbaaGreatDoor
open Go.RowKit
theorem historySteps_true (w : World) (hG : Glob4 w) (l : List Ev) (hl : ∀ x ∈ l, x.In) (v : Value) (hv : Evs w.heap.size w v l) :
    Calls Tryz.prog 3 #[v] w fun e w' => e = .returned (.bool true) ∧ Keeps [] w w' := HistorySteps_any w hG l hl v hv (Nat.le_refl _)
end Go.Proofs.YtlaccndjlfpjbaaGreatDoor
