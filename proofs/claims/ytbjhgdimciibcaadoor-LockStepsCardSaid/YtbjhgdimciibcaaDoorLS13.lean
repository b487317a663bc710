/-
  The arguments of stage 12's laws as data: calls; any slice of structs without references.
-/
import Derived.Deep.RegionHeld3
import Derived.Laws.Tables
import Derived.BigQuiet
import Derived.Test.YtbjhgdimciibcaaDoorLS10
import Derived.Test.YtbjhgdimciibcaaDoorLS12
import Derived.Test.YtbjhgdimciibcaaDoorLS08
import Derived.Test.YtbjhgdimciibcaaDoorLS07
set_option linter.unusedSimpArgs false
set_option linter.unusedVariables false
namespace Go.Proofs.YtbjhgdimciibcaaDoor
open Go.ChangeShapes Go.WideShapes Go.ChangeAt Go.RowKit
open Go.Joins Go.Deep
section
variable {H : Type} {enc : TypeId × Value → H} {w : World} {sp : Nat → Bool} {held : Bool}
end
/-! The laws by the cards' order of arguments. -/
theorem LockSteps_args (W : World) (hG : Glob4 W) (s : Int) (h0 : 0 ≤ s) (h1 : s < 256) (c : Int) (h2 : 0 ≤ c) (h3 : c < 256) (x : Opn) (hx : x.In) : Calls Tryd.prog 3 #[.int .u8 s, .int .u8 c, x.val] W fun e w' => e = .returned (.bool true) ∧ Keeps [] W w' :=
  LockSteps_any W hG x ⟨h0, h1⟩ ⟨h2, h3⟩ hx
end Go.Proofs.YtbjhgdimciibcaaDoor
