/-
  The document's register: a step.
-/
import Derived.Test.YtbnhcggjcdipeaaGreatDoorWA02
import Derived.Test.YtbnhcggjcdipeaaGreatDoorWA06
set_option linter.unusedSimpArgs false
set_option linter.unusedVariables false
namespace Go.Proofs.YtbnhcggjcdipeaaGreatDoor
open Go.RowKit
theorem opC_one (x : Opn) : ∀ v ∈ opC x, v.oneCell' = true := by
  intro v hv
  simp only [opC, List.mem_cons, List.not_mem_nil, or_false] at hv
  rcases hv with rfl | rfl | rfl | rfl | rfl <;> rfl
theorem ansC_len (x : Ans) : (ansC x).length = 2 := rfl
theorem ansC_one (x : Ans) : ∀ v ∈ ansC x, v.oneCell' = true := by
  intro v hv
  simp only [ansC, List.mem_cons, List.not_mem_nil, or_false] at hv
  rcases hv with rfl | rfl <;> rfl
theorem Tryz.infoAnsR : (Tryz.prog.info? 25).map (fun i => (i.zero, i.size, i.bytes)) = some (some (.agg (ansC ⟨0, 0⟩).toArray), 2, 4) := by kernel_rfl
/-- Answers, side by side. -/
noncomputable def rkA : RK Ans :=
  { T := 25, Sl := 63, s := 2, b := 4, cs := ansC, i := (info_parts Tryz.infoAnsR).choose, z := .agg (ansC ⟨0, 0⟩).toArray,
    len := ansC_len, one := ansC_one, s0 := by decide, b1 := by decide, und := Tryz.underlying63,
    hi := (info_parts Tryz.infoAnsR).choose_spec.1, hz := (info_parts Tryz.infoAnsR).choose_spec.2.1, hs := (info_parts Tryz.infoAnsR).choose_spec.2.2.1, hb := (info_parts Tryz.infoAnsR).choose_spec.2.2.2, hzs := rfl }
section
variable {ops : Array Oper} {S : World → Prop} {o : Oper} {a : Act}
theorem yields_opC (hw : Region.wanted o (yielded ops a.tmps) = true) (x : Operand) (ho : o.op = .load 47 x) (g off : Nat) (hx : a.eval x = .pointer (some ⟨g, off, none⟩)) (y : Opn) (hS : ∀ w, S w → w.rangeAt g off (opC y)) :
    YieldsIf Tryz.prog ops S o (.agg (opC y).toArray) a :=
  yieldsIf_load_mid (P := Tryz.prog) hw 47 x ho g off hx (opC y) _ hS Tryz.underlying47 rfl (by kernel_rfl)
theorem yields_ansC (hw : Region.wanted o (yielded ops a.tmps) = true) (x : Operand) (ho : o.op = .load 25 x) (g off : Nat) (hx : a.eval x = .pointer (some ⟨g, off, none⟩)) (y : Ans) (hS : ∀ w, S w → w.rangeAt g off (ansC y)) :
    YieldsIf Tryz.prog ops S o (.agg (ansC y).toArray) a :=
  yieldsIf_load_mid (P := Tryz.prog) hw 25 x ho g off hx (ansC y) _ hS Tryz.underlying25 rfl (by kernel_rfl)
end
theorem results_tct {fn : Func} {c p u : Tmp} {ty : TypeId} (h : fn.results = #[.tmp c, .cell p ty, .tmp u]) (tmps : Array Value) (P : Program) (w : World) :
    (results fn tmps).run P w =
      ((asAddr (tmps.getD p undef)).run P w).andThen fun a w₁ => ((loadVar ty a).run P w₁).andThen fun v w₂ => .ok (.tuple #[tmps.getD c undef, v, tmps.getD u undef]) w₂ := by
  simp only [results, h]
  simp [Sem.run_bind, Result.andThen]
/-- A number, an answer that stands in a block, a number are handed back. -/
theorem results_ans {fn : Func} {c p u : Tmp} (h : fn.results = #[.tmp c, .cell p 25, .tmp u]) (tmps : Array Value) (w : World) (b : Nat) (y : Ans) {t : TypeId}
    (hp : tmps.getD p undef = .pointer (some ⟨b, 0, none⟩)) (hb : w.heap[b]? = some (.cells (ansC y).toArray t (0, 0))) : (results fn tmps).run Tryz.prog w = .ok (.tuple #[tmps.getD c undef, .agg (ansC y).toArray, tmps.getD u undef]) w := by
  have h1 : (loadVar 25 ⟨b, 0, none⟩).run Tryz.prog w = .ok (.agg (ansC y).toArray) w := run_loadVar_row w b t 25 _ _ _ hb Tryz.underlying25 rfl (by kernel_rfl)
  rw [results_tct h, hp]
  simp [asAddr, h1, Result.andThen]
set_option maxHeartbeats 8000000
set_option maxRecDepth 100000
end Go.Proofs.YtbnhcggjcdipeaaGreatDoor
/-
  The document's register: operations in a row.
-/
namespace Go.Proofs.YtbnhcggjcdipeaaGreatDoor
open Go.RowKit
section
variable {ops : Array Oper} {rest : List Oper} {a : Act} {w : World} {Q : Exit → Act → World → Prop}
set_option maxRecDepth 100000 in
theorem wpList_loadO {dst : Option Tmp} {ty : TypeId} {pos : String} {after : Array Edge} {gd : Option (Nat × Bool)} {x : Operand} {g off : Nat} {y : Opn}
    (hw : Region.wanted { dst := dst, op := .load 47 x, type := ty, pos := pos, after := after, guard := gd } (yielded ops a.tmps) = true)
    (hx : a.eval x = .pointer (some ⟨g, off, none⟩)) (hr : w.rangeAt g off (opC y)) (h : wpList Tryz.prog ops Q rest (a.put dst (.agg (opC y).toArray)) w) :
    wpList Tryz.prog ops Q ({ dst := dst, op := .load 47 x, type := ty, pos := pos, after := after, guard := gd } :: rest) a w :=
  wpList_step fun _ hK => by
    rw [if_pos hw]
    exact wp_load_mid 47 x rfl g off hx (opC y) _ hr Tryz.underlying47 rfl (by kernel_rfl) (hK _ _ h)
set_option maxRecDepth 100000 in
theorem wpList_buildA {dst : Option Tmp} {ty : TypeId} {pos : String} {after : Array Edge} {y : Operand} {x : Ans} (hy : a.eval y = .agg (ansC x).toArray)
    (h : wpList Tryz.prog ops Q rest (a.put dst (.slice (some ⟨w.heap.size, 0, none⟩) 1 1)) (w.alloc (.cells (ansC x).toArray 25))) :
    wpList Tryz.prog ops Q ({ dst := dst, op := .buildSlice 63 1 #[(0, y)], type := ty, pos := pos, after := after, guard := none } :: rest) a w :=
  wpList_plain rfl fun _ hK => rkA.wp_build1 y rfl hy (by show (2 : Nat) ≤ 10000; decide) (hK _ _ h)
end
set_option maxHeartbeats 8000000
set_option maxRecDepth 100000
end Go.Proofs.YtbnhcggjcdipeaaGreatDoor
