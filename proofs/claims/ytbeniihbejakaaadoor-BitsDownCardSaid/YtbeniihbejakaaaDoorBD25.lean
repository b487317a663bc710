/-
  The law BitsDown, by its card's order of arguments.
-/
import Derived.Test.YtbeniihbejakaaaDoorBD23
import Derived.Test.YtbeniihbejakaaaDoorBD24
set_option linter.unusedSimpArgs false
set_option linter.unusedVariables false
namespace Go.Proofs.YtbeniihbejakaaaDoor
theorem BitsDown_args (W : World) (hG : Glob15 W) {v : Value} {l : List Int} (hI : rkZ.In W.heap.size W v l) (_ : ∀ n ∈ l, I64 n) (ma : Int) (ha0 : 0 ≤ ma) (ha1 : ma < 4294967296) (mb : Int) (hb0 : 0 ≤ mb) (hb1 : mb < 4294967296) :
    Calls Tryd.prog 7 #[v, .int .u32 ma, .int .u32 mb] W fun e w' => e = .returned (.bool true) ∧ Keeps [] W w' := BitsDown_any btP W hG hI ma mb ha0 ha1 hb0 hb1
end Go.Proofs.YtbeniihbejakaaaDoor
