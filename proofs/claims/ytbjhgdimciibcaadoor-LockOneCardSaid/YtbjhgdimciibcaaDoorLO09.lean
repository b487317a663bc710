/-
  The law's steps and works, over any queue.
-/
import Derived.Deep.RegionHeld3
import Derived.Laws.Tables
import Derived.BigQuiet
import Derived.Test.YtbjhgdimciibcaaDoorLO08
import Derived.Test.YtbjhgdimciibcaaDoorLO07
set_option linter.unusedSimpArgs false
set_option linter.unusedVariables false
namespace Go.Proofs.YtbjhgdimciibcaaDoor
open Go.RowKit
variable {G : World → Prop}
section
variable {o : Oper} {a : Act} {w : World} {K : Act → World → Prop} {Q : Exit → Act → World → Prop}
theorem run_allocA (w : World) : (Instr.alloc 27 true (.tuple #[])).run Tryd.prog w = .ok (.pointer (some ⟨w.heap.size, 0, none⟩)) (w.alloc (.cells (ansC ⟨0, 0⟩).toArray 27)) := by kernel_rfl
theorem wp_allocA (o : Oper) (a : Act) (w : World) (K : Act → World → Prop) (ho : o.op = .alloc 27) (h : K (a.put o.dst (.pointer (some ⟨w.heap.size, 0, none⟩))) (w.alloc (.cells (ansC ⟨0, 0⟩).toArray 27))) : o.wp Tryd.prog a w K Q := by
  unfold Oper.wp execOp
  simp only [ho, Sem.run_bind, run_allocA, Result.andThen_ok, Sem.run_pure]
  exact h
end
set_option maxHeartbeats 8000000
set_option maxRecDepth 100000
end Go.Proofs.YtbjhgdimciibcaaDoor
