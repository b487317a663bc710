/-
  EventPuts, whatever the input.
-/
import Derived.Test.YtibppobibncpdaaGreatDoorXpM
set_option linter.unusedSimpArgs false
set_option linter.unusedVariables false
namespace Go.Proofs.YtibppobibncpdaaGreatDoor
open Go.RowKit
theorem eventPuts_true (w : World) (hG : Glob4 w) (x : Ev) (hx : x.In) (tx rd : Value) (hE : EvAt w.heap.size w tx rd x) (y : Ev) (hy : y.In) (ty ry : Value) (hF : EvAt w.heap.size w ty ry y) :
    Calls Tryz.prog 3 #[.agg (evC x tx rd), .agg (evC y ty ry)] w fun e w' => e = .returned (.bool true) ∧ Keeps [] w w' :=
  EventPuts_any w hG x hx tx rd y hy ty ry hE hF (Nat.le_refl _)
end Go.Proofs.YtibppobibncpdaaGreatDoor
