/-
  Two lists of answers that are the same: the document's and the law's comparison; the law's small functions.
-/
import Derived.StillTailTactics
import Derived.Deep.RegionHeld3
import Derived.Test.YtbnhcggjcdipeaaGreatDoorWA07
set_option linter.unusedSimpArgs false
set_option linter.unusedVariables false
namespace Go.Proofs.YtbnhcggjcdipeaaGreatDoor
open Go.RowKit
theorem yields_ans {ops : Array Oper} {S : World → Prop} {o : Oper} {a : Act} (r : Ans) (hw : Region.wanted o (yielded ops a.tmps) = true) (y : Operand) (ho : o.op = .load 25 y) (b off : Nat) (hx : a.eval y = .pointer (some ⟨b, off, none⟩))
    (hS : ∀ w, S w → w.rangeAt b off (ansC r)) : YieldsIf Tryz.prog ops S o (.agg #[.int .u8 r.k, .int .u16 r.v]) a :=
  yields_ansC hw y ho b off hx r hS
set_option maxHeartbeats 8000000
set_option maxRecDepth 100000
end Go.Proofs.YtbnhcggjcdipeaaGreatDoor
