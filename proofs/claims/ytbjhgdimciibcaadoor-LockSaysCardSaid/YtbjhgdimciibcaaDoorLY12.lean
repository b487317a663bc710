/-
  The arguments of stage 12's laws as data: calls; any slice of structs without references.
-/
import Derived.StillTailTactics
import Derived.Deep.RegionHeld3
import Derived.Deep.Upon
import Derived.Laws.Tables
import Derived.BigQuiet
import Derived.Test.YtbjhgdimciibcaaDoorLY09
import Derived.Test.YtbjhgdimciibcaaDoorLY11
import Derived.Test.YtbjhgdimciibcaaDoorLY07
import Derived.Test.YtbjhgdimciibcaaDoorLY08
set_option linter.unusedSimpArgs false
set_option linter.unusedVariables false
namespace Go.Proofs.YtbjhgdimciibcaaDoor
open Go.ChangeShapes Go.WideShapes Go.ChangeAt Go.RowKit
open Go.Joins Go.Deep
section
variable {H : Type} {enc : TypeId × Value → H} {w : World} {sp : Nat → Bool} {held : Bool}
end
/-! The laws by the cards' order of arguments. -/
theorem LockSays_args (W : World) (hG : Glob4 W) (s : Int) (h0 : 0 ≤ s) (h1 : s < 256) (c : Int) (h2 : 0 ≤ c) (h3 : c < 256) (x : Opn) (hx : x.In) : Calls Tryd.prog 7 #[.int .u8 s, .int .u8 c, x.val] W fun e w' => e = .returned (.bool true) ∧ Keeps [] W w' :=
  LockSays_any W hG x ⟨h0, h1⟩ ⟨h2, h3⟩ hx
end Go.Proofs.YtbjhgdimciibcaaDoor
