/-
  The law's items and alike, over any state.
-/
import Derived.Lib.ParseIntBCases
import Derived.Lib.IndexMore
import Derived.Lib.ItoaMem
import Derived.Shelf.Lay
import Derived.Shelf.LaySoft
import Derived.Shelf.Strings.Builder1
import Derived.Test.YtbeniihbejakaaaDoorProg
import Derived.Laws.ResultCell
import Derived.Deep.RegionHeld3
import Derived.BigQuiet
import Derived.DeepKeys
import Derived.Test.YtbeniihbejakaaaDoorBP05
import Derived.Test.YtbeniihbejakaaaDoorBP01
import Derived.Test.YtbeniihbejakaaaDoorBP02
import Derived.Test.YtbeniihbejakaaaDoorBP07
import Derived.Test.YtbeniihbejakaaaDoorBP06
set_option linter.unusedSimpArgs false
set_option linter.unusedVariables false
namespace Go.Proofs.YtbeniihbejakaaaDoor
open Go.RowKit
set_option maxHeartbeats 8000000
set_option maxRecDepth 100000
section
variable {o : Oper} {a : Act} {w : World} {K : Act → World → Prop} {Q : Exit → Act → World → Prop}
theorem wp_loadB {x : Operand} (ho : o.op = .load 5 x) {g i : Nat} {z : Value} (hx : a.eval x = .pointer (some ⟨g, i, none⟩)) (hc : w.cell? ⟨g, i, none⟩ = some z) (h : K (a.put o.dst z) w) : o.wp Tryd.prog a w K Q := by
  have hrun : (loadVar 5 ⟨g, i, none⟩).run Tryd.prog w = .ok z w := by simp [loadVar, run_underlying Tryd.underlying5, hc]
  unfold Oper.wp execOp
  simp only [ho, hx, Instr.loadAt, Instr.sureAddr, Sem.run_bind, Sem.run_pure, Result.andThen_ok, hrun]
  exact h
end
end Go.Proofs.YtbeniihbejakaaaDoor
