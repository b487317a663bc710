/-
  The arguments of stage 12's laws as data: calls; any slice of structs without references.
-/
import Derived.StillTailTactics
import Derived.Deep.RegionHeld3
import Derived.Deep.Upon
import Derived.Laws.Tables
import Derived.BigQuiet
import Derived.Test.YtbjhgdimciibcaaDoorLT09
import Derived.Test.YtbjhgdimciibcaaDoorLT11
import Derived.Test.YtbjhgdimciibcaaDoorLT07
import Derived.Test.YtbjhgdimciibcaaDoorLT08
set_option linter.unusedSimpArgs false
set_option linter.unusedVariables false
namespace Go.Proofs.YtbjhgdimciibcaaDoor
open Go.ChangeShapes Go.WideShapes Go.ChangeAt Go.RowKit
open Go.Joins Go.Deep
section
variable {H : Type} {enc : TypeId × Value → H} {w : World} {sp : Nat → Bool} {held : Bool}
end
/-! The laws by the cards' order of arguments. -/
theorem LockTexts_args (W : World) (hG : Glob4 W) (t : ByteArray) (_ : t.size ≤ maxLen) : Calls Tryd.prog 5 #[.string t] W fun e w' => e = .returned (.bool true) ∧ Keeps [] W w' := by
  rw [← bs_of t]
  exact LockTexts_any W hG _
end Go.Proofs.YtbjhgdimciibcaaDoor
