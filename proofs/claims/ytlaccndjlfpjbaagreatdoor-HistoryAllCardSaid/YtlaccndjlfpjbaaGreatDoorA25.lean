/-
  HistoryAll, whatever the input.
-/
import Derived.Test.YtlaccndjlfpjbaaGreatDoorA23
import Derived.Test.YtlaccndjlfpjbaaGreatDoorA24
set_option linter.unusedSimpArgs false
set_option linter.unusedVariables false
namespace Go.Proofs.YtlaccndjlfpjbaaGreatDoor
open Go.RowKit
theorem historyAll_true (w : World) (hG : Glob4 w) (l : List Ev) (hl : ∀ x ∈ l, x.In) (v : Value) (hv : Evs w.heap.size w v l) :
    Calls Tryz.prog 4 #[v] w fun e w' => e = .returned (.bool true) ∧ Keeps [] w w' := HistoryAll_any w hG l hl v hv (Nat.le_refl _)
end Go.Proofs.YtlaccndjlfpjbaaGreatDoor
