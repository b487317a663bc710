/-
  The law ModelDecodes by its card's order of arguments.
-/
import Derived.Test.YtdachaekcjbfmaaGreatDoorMD39
import Derived.Test.YtdachaekcjbfmaaGreatDoorMD40
set_option linter.unusedSimpArgs false
set_option linter.unusedVariables false
namespace Go.Proofs.YtdachaekcjbfmaaGreatDoor
open Go.RowKit
theorem ModelDecodes_args (W : World) (hG : Glob13 W) (m : Int) (h0 : 0 ≤ m) (h1 : m < 256) (t : ByteArray) (_ : t.size ≤ maxLen) (f : Int) (h2 : 0 ≤ f) (h3 : f < 256) : Calls Tryz.prog 4 #[.int .u8 m, .string t, .int .u8 f] W fun e w' => e = .returned (.bool true) ∧ Keeps [] W w' := by
  rw [← bs_of t]
  exact ModelDecodes_any mdP mdP_dec mdP_idle W hG ⟨h0, h1⟩ _ ⟨h2, h3⟩
end Go.Proofs.YtdachaekcjbfmaaGreatDoor
