/-
  EventWhole, whatever the input.
-/
import Derived.Test.YtnehnbhdkhgakaaDoorWdM
set_option linter.unusedSimpArgs false
set_option linter.unusedVariables false
namespace Go.Proofs.YtnehnbhdkhgakaaDoor
open Go.RowKit
theorem eventWhole_true (w : World) (hG : Glob4 w) (x : Ev) (hx : x.In) (tx rd : Value) (hE : EvAt w.heap.size w tx rd x) (y : Ev) (hy : y.In) (ty ry : Value) (hF : EvAt w.heap.size w ty ry y) (z0 z1 : Int) (a0 : 0 ≤ z0) (a1 : z0 < 65536) (c0 : 0 ≤ z1) (c1 : z1 < 65536) :
    Calls Tryd.prog 5 #[.agg (evC x tx rd), .agg (evC y ty ry), .agg #[.int .u16 z0, .int .u16 z1]] w fun e w' => e = .returned (.bool true) ∧ Keeps [] w w' :=
  EventWhole_any w hG x y hx hy tx rd ty ry hE hF (Nat.le_refl _) z0 z1 a0 a1 c0 c1
end Go.Proofs.YtnehnbhdkhgakaaDoor
