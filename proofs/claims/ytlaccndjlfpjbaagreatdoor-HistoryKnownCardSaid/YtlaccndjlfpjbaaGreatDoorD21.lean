/-
  The document's Kinds and May.
-/
import Derived.LoopTactic
import Derived.Test.YtlaccndjlfpjbaaGreatDoorD17
set_option linter.unusedSimpArgs false
set_option linter.unusedVariables false
namespace Go.Proofs.YtlaccndjlfpjbaaGreatDoor
open Go.RowKit
/-- A list's numbers stand where the slice's address says. -/
def Src8 (w : World) (a : Option Addr) (ls : List Int) : Prop := ls = [] ∨ ∃ b, a = some ⟨b, 0, none⟩ ∧ ∀ j, j < ls.length → w.cell? ⟨b, j, none⟩ = some (.int .u8 (ls.getD j 0))
theorem Src8.keeps {w w' : World} {a : Option Addr} {ls : List Int} (h : Src8 w a ls) (hk : Keeps [] w w') : Src8 w' a ls := by
  rcases h with h | ⟨b, h1, h2⟩
  · exact .inl h
  · exact .inr ⟨b, h1, fun j hj => hk.cell (h2 j hj) (by simp)⟩
end Go.Proofs.YtlaccndjlfpjbaaGreatDoor
