/-
  The arguments of stage 12's laws as data: calls; any slice of structs without references.
-/
import Derived.StillTailTactics
import Derived.Deep.RegionHeld3
import Derived.Deep.Upon
import Derived.Laws.Tables
import Derived.BigQuiet
import Derived.Test.YtbjhgdimciibcaaDoorLB09
import Derived.Test.YtbjhgdimciibcaaDoorLB11
import Derived.Test.YtbjhgdimciibcaaDoorLB07
import Derived.Test.YtbjhgdimciibcaaDoorLB08
set_option linter.unusedSimpArgs false
set_option linter.unusedVariables false
namespace Go.Proofs.YtbjhgdimciibcaaDoor
open Go.ChangeShapes Go.WideShapes Go.ChangeAt Go.RowKit
open Go.Joins Go.Deep
section
variable {H : Type} {enc : TypeId × Value → H} {w : World} {sp : Nat → Bool} {held : Bool}
end
/-! The laws by the cards' order of arguments. -/
theorem LockBack_args (W : World) (hG : Glob4 W) (s : Int) (h0 : 0 ≤ s) (h1 : s < 256) (t : ByteArray) (_ : t.size ≤ maxLen) : Calls Tryd.prog 8 #[.int .u8 s, .string t] W fun e w' => e = .returned (.bool true) ∧ Keeps [] W w' := by
  rw [← bs_of t]
  exact LockBack_any W hG h0 h1 _
end Go.Proofs.YtbjhgdimciibcaaDoor
