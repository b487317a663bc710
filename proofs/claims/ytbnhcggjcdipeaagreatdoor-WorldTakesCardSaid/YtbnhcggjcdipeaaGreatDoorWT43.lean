/-
  The law WorldDecodes, over any program's worlds.
-/
import Derived.Deep.RegionHeld3
import Derived.Test.YtbnhcggjcdipeaaGreatDoorWT40
import Derived.Test.YtbnhcggjcdipeaaGreatDoorWT38
import Derived.Test.YtbnhcggjcdipeaaGreatDoorWT27
import Derived.Test.YtbnhcggjcdipeaaGreatDoorWT08
import Derived.Test.YtbnhcggjcdipeaaGreatDoorWT19
import Derived.Test.YtbnhcggjcdipeaaGreatDoorWT39
import Derived.Test.YtbnhcggjcdipeaaGreatDoorWT42
set_option linter.unusedSimpArgs false
set_option linter.unusedVariables false
namespace Go.Proofs.YtbnhcggjcdipeaaGreatDoor
open Go.RowKit
set_option maxRecDepth 100000
set_option maxHeartbeats 8000000
variable {G : World → Prop}
theorem wdD_or (m : Int) : ∀ (n : Nat) (l : List Md) (last : Int) (b : List UInt8), (∃ l', wdD m n l last b = (some l', 0)) ∨ ∃ e, e ≠ 0 ∧ wdD m n l last b = (none, e)
  | 0, l, _, _ => .inl ⟨l, rfl⟩
  | n + 1, l, last, b => by
    by_cases h1 : b = []
    · rw [h1, wdD_nil]; exact .inl ⟨l, rfl⟩
    · by_cases h2 : b.length < 3 ∨ b.length < 3 + bL b
      · rw [wdD_torn h1 h2]; exact .inr ⟨5, by decide, rfl⟩
      · by_cases h3 : 7 < bO b ∨ (bO b : Int) ≤ last
        · rw [wdD_form h1 h2 h3]; exact .inr ⟨4, by decide, rfl⟩
        · rcases mdD_or14 m ((b.drop 3).take (bL b)) with ⟨he, S, hS⟩ | ⟨he, hS⟩
          · by_cases h4 : mdB S = mdB (mdInit m)
            · rw [wdD_first h1 h2 h3 (Prod.ext hS he) h4]; exact .inr ⟨4, by decide, rfl⟩
            · rw [wdD_next h1 h2 h3 (Prod.ext hS he) h4]; exact wdD_or m n _ _ _
          · rw [wdD_bad h1 h2 h3 (er := (mdD m ((b.drop 3).take (bL b))).2) (Prod.ext hS rfl)]; exact .inr ⟨_, he, rfl⟩
theorem wdDec_or (m : Int) (b : List UInt8) : (∃ W, wdDec m b = (some W, 0)) ∨ ∃ e, e ≠ 0 ∧ wdDec m b = (none, e) := by
  unfold wdDec
  split
  · rcases wdD_or m b.length (wd0 m).l (-1) b with ⟨l', h⟩ | ⟨e, he, h⟩
    · rw [h]; exact .inl ⟨_, rfl⟩
    · rw [h]; exact .inr ⟨e, he, rfl⟩
  · exact .inr ⟨10, by decide, rfl⟩
end Go.Proofs.YtbnhcggjcdipeaaGreatDoor
/-
  The law WorldBack, over any program's worlds.
-/
namespace Go.Proofs.YtbnhcggjcdipeaaGreatDoor
open Go.RowKit
set_option maxRecDepth 100000
set_option maxHeartbeats 8000000
variable {G : World → Prop}
theorem woAt_ok {R : MdProg G} {w : World} {A : List Value} {O : Option Wd} (h : WoAt R w (.agg A.toArray) O) : skW.Ok A := by
  obtain ⟨B, e, hB⟩ := h.cells
  rw [show A = B by simpa using e]; exact hB
theorem oNew_some {m : Int} (h : m ≤ 3) : oWNew m = some (wd0 m) := if_pos h
end Go.Proofs.YtbnhcggjcdipeaaGreatDoor
