/-
  TablePlays: its walk.
-/
import Derived.Test.YtjiglbjpmclncaaO11
import Derived.Test.YtjiglbjpmclncaaO12
set_option linter.unusedSimpArgs false
set_option linter.unusedVariables false
namespace Go.Proofs.Ytjiglbjpmclncaa
open Go.RowKit Go.Maps
theorem works_true (w : World) : Calls Try.prog 7 #[] w fun e w' => e = .returned (.bool true) ∧ Keeps [] w w' := works8_any tabP.toPTabs w (N := 0) trivial (Nat.zero_le _)
theorem Duo.rows {w0 w : World} {p : Value} {O : List Nat} {b base : Nat} {v : Value} {t : Tb} (h : Duo w0 w p O b base v t) (hl : t.L.length ≤ 1000) : Calls Try.prog 16 #[p, .pointer (some ⟨b, 0, none⟩)] w fun e w' => e = .returned (.bool true) ∧ Keeps [] w w' :=
  same8_any w p h.both.doc ((tabP.rows h.both.prog h.ok hl).mono fun e w' hp => by
    obtain ⟨v', rfl, hr, hk⟩ := hp
    exact ⟨v', rfl, hr.in_, hk⟩)
set_option maxHeartbeats 8000000
set_option maxRecDepth 100000
end Go.Proofs.Ytjiglbjpmclncaa
