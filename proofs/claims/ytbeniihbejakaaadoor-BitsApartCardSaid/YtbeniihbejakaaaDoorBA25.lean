/-
  The law BitsApart, by its card's order of arguments.
-/
import Derived.Test.YtbeniihbejakaaaDoorBA23
import Derived.Test.YtbeniihbejakaaaDoorBA24
set_option linter.unusedSimpArgs false
set_option linter.unusedVariables false
namespace Go.Proofs.YtbeniihbejakaaaDoor
theorem BitsApart_args (W : World) (hG : Glob15 W) {va vb : Value} {a b : List Int} (hIa : rkZ.In W.heap.size W va a) (h64a : ∀ n ∈ a, I64 n) (hIb : rkZ.In W.heap.size W vb b) (h64b : ∀ n ∈ b, I64 n) (x0 x1 : Int) (h0 : I64 x0) (h1 : I64 x1) :
    Calls Tryd.prog 6 #[va, vb, .agg #[.int .i64 x0, .int .i64 x1]] W fun e w' => e = .returned (.bool true) ∧ Keeps [] W w' := BitsApart_any btP W hG hIa hIb h64a h64b x0 x1 h0 h1
end Go.Proofs.YtbeniihbejakaaaDoor
