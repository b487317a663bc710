/-
  HistoryApart, whatever the input.
-/
import Derived.Test.YtlaccndjlfpjbaaGreatDoorC19
import Derived.Test.YtlaccndjlfpjbaaGreatDoorC20
set_option linter.unusedSimpArgs false
set_option linter.unusedVariables false
namespace Go.Proofs.YtlaccndjlfpjbaaGreatDoor
open Go.RowKit
theorem historyApart_true (w : World) (hG : Glob4 w) (l : List Ev) (hl : ∀ x ∈ l, x.In) (v : Value) (hv : Evs w.heap.size w v l) (x : Ev) (hx : x.In) (tx rd : Value) (hxa : EvAt w.heap.size w tx rd x) (y : Ev) (hy : y.In) (ty ry : Value) (hya : EvAt w.heap.size w ty ry y) :
    Calls Tryz.prog 7 #[v, .agg (evC x tx rd), .agg (evC y ty ry)] w fun e w' => e = .returned (.bool true) ∧ Keeps [] w w' := HistoryApart_any w hG l hl v hv (Nat.le_refl _) x hx tx rd hxa y hy ty ry hya
end Go.Proofs.YtlaccndjlfpjbaaGreatDoor
