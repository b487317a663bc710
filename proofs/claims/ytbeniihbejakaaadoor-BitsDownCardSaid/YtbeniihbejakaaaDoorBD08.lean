/-
  Slice literals of any struct; what the program's register must tell; the law's awake, over any such register.
-/
import Derived.StillTailTactics
import Derived.Deep.RegionHeld3
import Derived.Deep.Upon
import Derived.Test.YtbeniihbejakaaaDoorBD05
import Derived.Test.YtbeniihbejakaaaDoorBD06
set_option linter.unusedSimpArgs false
set_option linter.unusedVariables false
namespace Go.Proofs.YtbeniihbejakaaaDoor
open Go.RowKit
section
variable {α : Type} {ops : Array Oper} {rest : List Oper} {o : Oper} {a : Act} {w : World} {Q : Exit → Act → World → Prop} {K : Act → World → Prop}
end
section
variable {ops : Array Oper} {rest : List Oper} {a : Act} {w : World} {Q : Exit → Act → World → Prop}
end
section
variable {o : Oper} {a : Act} {w : World} {K : Act → World → Prop} {Q : Exit → Act → World → Prop}
theorem wp_call9 {fn : Func} (f : FuncId) (args : Array Operand) (tys : Array TypeId) (ho : o.op = .call { callee := .value (.func f), args := args, argTypes := tys }) (vs : List Value) (hv : args.toList.map a.eval = vs)
    (hf : Tryd.prog.funcs[f]? = some fn) (hname : (fn.name == "runtime.NumGoroutine") = false) (hb : fn.body.isNone = false)
    (h : Calls Tryd.prog f vs.toArray w fun e w' => ∃ v, e = .returned v ∧ K (a.put o.dst v) w') : o.wp Tryd.prog a w K Q := by
  have hv2 : args.map a.eval = vs.toArray := by rw [← hv]; apply Array.ext'; simp
  unfold Oper.wp execOp
  have h1 : fn.name ≠ "runtime.NumGoroutine" := by simpa using hname
  have h2 : ∃ z, fn.body = some z := by
    cases h : fn.body with
    | none => rw [h] at hb; cases hb
    | some z => exact ⟨z, rfl⟩
  obtain ⟨z, h2⟩ := h2
  simp only [ho, resolve, invoke, Sem.run_bind, Sem.run_pure, Result.andThen_ok, hv2, Act.eval, Deferred.ofValue, Array.empty_append, Array.append_empty]
  simp [callFunc, hf, h1, h2, Sem.run]
  rw [Oper.upon_enter]
  exact h.mono fun e w' ⟨v, he, hk⟩ => by subst he; exact hk
end
set_option maxHeartbeats 8000000
set_option maxRecDepth 100000
end Go.Proofs.YtbeniihbejakaaaDoor
