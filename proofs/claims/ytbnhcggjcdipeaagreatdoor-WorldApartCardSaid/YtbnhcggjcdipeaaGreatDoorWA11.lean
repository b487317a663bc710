/-
  Slice literals of any struct; what the program's register must tell; the law's awake, over any such register.
-/
import Derived.Deep.Upon
import Derived.Test.YtbnhcggjcdipeaaGreatDoorWA10
set_option linter.unusedSimpArgs false
set_option linter.unusedVariables false
namespace Go.Proofs.YtbnhcggjcdipeaaGreatDoor
open Go.RowKit
section
variable {α : Type} {ops : Array Oper} {rest : List Oper} {o : Oper} {a : Act} {w : World} {Q : Exit → Act → World → Prop} {K : Act → World → Prop}
/-- Where it lies. -/
theorem RK.lit_in (R : RK α) {N b : Nat} {L : List α} (hb : w.heap[b]? = some (.cells (R.row L).toArray R.T (0, 0))) (hN : b < N) (hm : L.length ≤ 10000) : R.In N w (.slice (some ⟨b, 0, none⟩) L.length L.length) L := by
  refine ⟨_, _, rfl, Nat.le_refl _, by omega, fun _ => ⟨b, 0, rfl, hN, fun j hj => ?_⟩⟩
  intro i u hi
  have := R.row_get L j L[j] (List.getElem?_eq_getElem hj) i u hi
  simp only [World.cell?, hb, Nat.zero_add]
  simpa using this
end
section
variable {ops : Array Oper} {rest : List Oper} {a : Act} {w : World} {Q : Exit → Act → World → Prop}
end
/-- A state's two bytes, and what two bytes tell. -/
def rgB (s : Int) : List UInt8 := [UInt8.ofNat (s / 256).toNat, UInt8.ofNat (s % 256).toNat]
def rgN : List UInt8 → Int
  | [x, y] => x.toNat * 256 + y.toNat
  | _ => 0
section
variable {o : Oper} {a : Act} {w : World} {K : Act → World → Prop} {Q : Exit → Act → World → Prop}
theorem wp_call9 {fn : Func} (f : FuncId) (args : Array Operand) (tys : Array TypeId) (ho : o.op = .call { callee := .value (.func f), args := args, argTypes := tys }) (vs : List Value) (hv : args.toList.map a.eval = vs)
    (hf : Tryz.prog.funcs[f]? = some fn) (hname : (fn.name == "runtime.NumGoroutine") = false) (hb : fn.body.isNone = false)
    (h : Calls Tryz.prog f vs.toArray w fun e w' => ∃ v, e = .returned v ∧ K (a.put o.dst v) w') : o.wp Tryz.prog a w K Q := by
  have hv2 : args.map a.eval = vs.toArray := by rw [← hv]; apply Array.ext'; simp
  unfold Oper.wp execOp
  have h1 : fn.name ≠ "runtime.NumGoroutine" := by simpa using hname
  have h2 : ∃ z, fn.body = some z := by
    cases h : fn.body with
    | none => rw [h] at hb; cases hb
    | some z => exact ⟨z, rfl⟩
  obtain ⟨z, h2⟩ := h2
  simp only [ho, resolve, invoke, Sem.run_bind, Sem.run_pure, Result.andThen_ok, hv2, Act.eval, Deferred.ofValue, Array.empty_append, Array.append_empty]
  simp [callFunc, hf, h1, h2, Sem.run]
  rw [Oper.upon_enter]
  exact h.mono fun e w' ⟨v, he, hk⟩ => by subst he; exact hk
end
set_option maxHeartbeats 8000000
set_option maxRecDepth 100000
end Go.Proofs.YtbnhcggjcdipeaaGreatDoor
/-
  RegisterCode's walk, over any program's register.
-/
namespace Go.Proofs.YtbnhcggjcdipeaaGreatDoor
open Go.RowKit
theorem rgB_len (s : Int) : (rgB s).length = 2 := rfl
theorem rgN_rgB {s : Int} (h : 0 ≤ s ∧ s < 65536) : rgN (rgB s) = s := by
  simp only [rgB, rgN]
  rw [UInt8.toNat_ofNat', UInt8.toNat_ofNat']
  omega
theorem rgB_rgN {l : List UInt8} (h : l.length = 2) : rgB (rgN l) = l := by
  match l, h with
  | [x, y], _ =>
    have hx := UInt8.toNat_lt x
    have hy := UInt8.toNat_lt y
    simp only [rgB, rgN]
    have e1 : (((x.toNat : Int) * 256 + (y.toNat : Int)) / 256).toNat = x.toNat := by omega
    have e2 : (((x.toNat : Int) * 256 + (y.toNat : Int)) % 256).toNat = y.toNat := by omega
    rw [e1, e2]
    simp
set_option maxHeartbeats 8000000
set_option maxRecDepth 100000
end Go.Proofs.YtbnhcggjcdipeaaGreatDoor
