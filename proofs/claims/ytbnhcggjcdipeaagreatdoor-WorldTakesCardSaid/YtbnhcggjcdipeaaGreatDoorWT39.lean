/-
  The document's object: Decode, Idle.
-/
import Derived.Test.YtbnhcggjcdipeaaGreatDoorWT27
import Derived.Test.YtbnhcggjcdipeaaGreatDoorWT31
import Derived.Test.YtbnhcggjcdipeaaGreatDoorWT19
import Derived.Test.YtbnhcggjcdipeaaGreatDoorWT09
set_option linter.unusedSimpArgs false
set_option linter.unusedVariables false
namespace Go.Proofs.YtbnhcggjcdipeaaGreatDoor
open Go.RowKit
set_option maxRecDepth 100000
set_option maxHeartbeats 8000000
theorem wp_put13 {o : Oper} {a : Act} {w : World} {K : Act → World → Prop} {Q : Exit → Act → World → Prop} {ty : TypeId} {x y : Operand} {g j : Nat} {v : Value} {A : List Value} {t : TypeId} (ho : o.op = .store ty x y) (hi : (Tryz.prog.info? ty).map (·.size) = some 1)
    (hx : a.eval x = .pointer (some ⟨g, j, none⟩)) (hy : a.eval y = v) (hg : w.heap[g]? = some (.cells A.toArray t (0, 0))) (hj : j < A.length) (h1 : v.oneCell' = true)
    (h : ∀ W, W.heap[g]? = some (.cells (A.set j v).toArray t (0, 0)) → Keeps [g] w W → K (a.put o.dst undef) W) : o.wp Tryz.prog a w K Q := by
  unfold Oper.wp execOp
  simp only [ho, hx, hy, Instr.storeAt, Instr.sureAddr, Sem.run_bind, Sem.run_pure, Result.andThen_ok, run_put13 hi hg (by simpa using hj) h1]
  refine h _ ?_ ((Keeps.refl [g] w).setCell _ _ (.inl (by simp)))
  have := heap_setCell_same w g j _ t v hg
  simpa using this
end Go.Proofs.YtbnhcggjcdipeaaGreatDoor
