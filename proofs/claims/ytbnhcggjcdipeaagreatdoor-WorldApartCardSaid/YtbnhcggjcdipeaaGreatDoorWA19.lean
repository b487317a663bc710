/-
  When two states of a key map are the same.
-/
import Derived.DeepKeys
import Derived.Test.YtbnhcggjcdipeaaGreatDoorWA13
import Derived.Test.YtbnhcggjcdipeaaGreatDoorWA08
import Derived.Test.YtbnhcggjcdipeaaGreatDoorWA07
set_option linter.unusedSimpArgs false
set_option linter.unusedVariables false
namespace Go.Proofs.YtbnhcggjcdipeaaGreatDoor
open Go.RowKit
/-- The numbers alone. -/
def kvT (vs : List Int) : Array Value := #[.int .u16 (vs.getD 0 0), .int .u16 (vs.getD 1 0), .int .u16 (vs.getD 2 0), .int .u16 (vs.getD 3 0), .int .u16 (vs.getD 4 0), .int .u16 (vs.getD 5 0), .int .u16 (vs.getD 6 0), .int .u16 (vs.getD 7 0)]
end Go.Proofs.YtbnhcggjcdipeaaGreatDoor
/-
  The law's items and alike, over any state.
-/
namespace Go.Proofs.YtbnhcggjcdipeaaGreatDoor
open Go.RowKit
set_option maxHeartbeats 8000000
set_option maxRecDepth 100000
section
variable {o : Oper} {a : Act} {w : World} {K : Act → World → Prop} {Q : Exit → Act → World → Prop}
theorem wp_put1 {T : TypeId} {x y : Operand} (ho : o.op = .store T x y) {g i : Nat} {z : Value} (hx : a.eval x = .pointer (some ⟨g, i, none⟩)) (hy : a.eval y = z) (hi : (Tryz.prog.info? T).map (·.size) = some 1) (h1 : z.oneCell' = true)
    (hc : (w.cell? ⟨g, i, none⟩).isSome = true) (hf : w.frozen? ⟨g, i, none⟩ = false) (h : K (a.put o.dst undef) (w.setCell ⟨g, i, none⟩ z)) : o.wp Tryz.prog a w K Q := by
  have hrun := run_put1 (P := Tryz.prog) w g i T z hi h1 hc hf
  unfold Oper.wp execOp
  simp only [ho, hx, hy, Instr.storeAt, Instr.sureAddr, Sem.run_bind, Sem.run_pure, Result.andThen_ok, hrun]
  exact h
end
end Go.Proofs.YtbnhcggjcdipeaaGreatDoor
