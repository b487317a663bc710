/-
  Two lists of answers that are the same: the document's and the law's comparison; the law's small functions.
-/
import Derived.StillTailTactics
import Derived.Deep.RegionHeld3
import Derived.Test.YtbjhgdimciibcaaDoorLK07
set_option linter.unusedSimpArgs false
set_option linter.unusedVariables false
namespace Go.Proofs.YtbjhgdimciibcaaDoor
open Go.RowKit
theorem yields_ans {ops : Array Oper} {S : World → Prop} {o : Oper} {a : Act} (r : Ans) (hw : Region.wanted o (yielded ops a.tmps) = true) (y : Operand) (ho : o.op = .load 27 y) (b off : Nat) (hx : a.eval y = .pointer (some ⟨b, off, none⟩))
    (hS : ∀ w, S w → w.rangeAt b off (ansC r)) : YieldsIf Tryd.prog ops S o (.agg #[.int .u8 r.k, .int .u16 r.v]) a :=
  rkA.yields Tryd.underlying27 rfl hw y ho b off hx r hS
theorem InA_at {N : Nat} {w : World} {a : Option Addr} {n c : Nat} {l : List Ans} (h : rkA.In N w (.slice a n c) l) {k : Nat} (hk : k < l.length) : ∃ bk o, a = some ⟨bk, o, none⟩ ∧ bk < N ∧ w.rangeAt bk (o + k * 2) (ansC l[k]) := by
  obtain ⟨_, _, e, _, _, h⟩ := h
  simp at e
  obtain ⟨rfl, -, -⟩ := e
  obtain ⟨bk, o, e, hb, hr⟩ := h (fun e => by rw [e] at hk; simp at hk)
  exact ⟨bk, o, e, hb, hr k hk⟩
set_option maxHeartbeats 8000000
set_option maxRecDepth 100000
end Go.Proofs.YtbjhgdimciibcaaDoor
