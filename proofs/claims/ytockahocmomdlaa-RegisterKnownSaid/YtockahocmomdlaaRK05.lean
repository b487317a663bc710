/-
  The document's register: a step.
-/
import Derived.Test.YtockahocmomdlaaRK02
import Derived.Test.YtockahocmomdlaaRK04
set_option linter.unusedSimpArgs false
set_option linter.unusedVariables false
namespace Go.Proofs.Ytockahocmomdlaa
open Go.RowKit
theorem opC_len (x : Opn) : (opC x).length = 5 := rfl
theorem opC_one (x : Opn) : ∀ v ∈ opC x, v.oneCell' = true := by
  intro v hv
  simp only [opC, List.mem_cons, List.not_mem_nil, or_false] at hv
  rcases hv with rfl | rfl | rfl | rfl | rfl <;> rfl
theorem ansC_len (x : Ans) : (ansC x).length = 2 := rfl
theorem ansC_one (x : Ans) : ∀ v ∈ ansC x, v.oneCell' = true := by
  intro v hv
  simp only [ansC, List.mem_cons, List.not_mem_nil, or_false] at hv
  rcases hv with rfl | rfl <;> rfl
theorem Try.infoOpR : (Try.prog.info? 24).map (fun i => (i.zero, i.size, i.bytes)) = some (some (.agg (opC ⟨0, 0, 0, 0, 0⟩).toArray), 5, 8) := by kernel_rfl
theorem Try.infoAnsR : (Try.prog.info? 27).map (fun i => (i.zero, i.size, i.bytes)) = some (some (.agg (ansC ⟨0, 0⟩).toArray), 2, 4) := by kernel_rfl
/-- Operations, side by side. -/
noncomputable def rkO : RK Opn :=
  { T := 24, Sl := 36, s := 5, b := 8, cs := opC, i := (info_parts Try.infoOpR).choose, z := .agg (opC ⟨0, 0, 0, 0, 0⟩).toArray,
    len := opC_len, one := opC_one, s0 := by decide, b1 := by decide, und := Try.underlying36,
    hi := (info_parts Try.infoOpR).choose_spec.1, hz := (info_parts Try.infoOpR).choose_spec.2.1, hs := (info_parts Try.infoOpR).choose_spec.2.2.1, hb := (info_parts Try.infoOpR).choose_spec.2.2.2, hzs := rfl }
/-- Answers, side by side. -/
noncomputable def rkA : RK Ans :=
  { T := 27, Sl := 37, s := 2, b := 4, cs := ansC, i := (info_parts Try.infoAnsR).choose, z := .agg (ansC ⟨0, 0⟩).toArray,
    len := ansC_len, one := ansC_one, s0 := by decide, b1 := by decide, und := Try.underlying37,
    hi := (info_parts Try.infoAnsR).choose_spec.1, hz := (info_parts Try.infoAnsR).choose_spec.2.1, hs := (info_parts Try.infoAnsR).choose_spec.2.2.1, hb := (info_parts Try.infoAnsR).choose_spec.2.2.2, hzs := rfl }
theorem results_tct {fn : Func} {c p u : Tmp} {ty : TypeId} (h : fn.results = #[.tmp c, .cell p ty, .tmp u]) (tmps : Array Value) (P : Program) (w : World) :
    (results fn tmps).run P w =
      ((asAddr (tmps.getD p undef)).run P w).andThen fun a w₁ => ((loadVar ty a).run P w₁).andThen fun v w₂ => .ok (.tuple #[tmps.getD c undef, v, tmps.getD u undef]) w₂ := by
  simp only [results, h]
  simp [Sem.run_bind, Result.andThen]
/-- A number, an answer that stands in a block, a number are handed back. -/
theorem results_ans {fn : Func} {c p u : Tmp} (h : fn.results = #[.tmp c, .cell p 27, .tmp u]) (tmps : Array Value) (w : World) (b : Nat) (y : Ans) {t : TypeId}
    (hp : tmps.getD p undef = .pointer (some ⟨b, 0, none⟩)) (hb : w.heap[b]? = some (.cells (ansC y).toArray t (0, 0))) : (results fn tmps).run Try.prog w = .ok (.tuple #[tmps.getD c undef, .agg (ansC y).toArray, tmps.getD u undef]) w := by
  have h1 : (loadVar 27 ⟨b, 0, none⟩).run Try.prog w = .ok (.agg (ansC y).toArray) w := run_loadVar_row w b t 27 _ _ _ hb Try.underlying27 rfl (by kernel_rfl)
  rw [results_tct h, hp]
  simp [asAddr, h1, Result.andThen]
set_option maxHeartbeats 8000000
set_option maxRecDepth 100000
end Go.Proofs.Ytockahocmomdlaa
/-
  The document's register: operations in a row.
-/
namespace Go.Proofs.Ytockahocmomdlaa
open Go.RowKit
section
variable {ops : Array Oper} {rest : List Oper} {a : Act} {w : World} {Q : Exit → Act → World → Prop}
theorem wpList_loadO {dst : Option Tmp} {ty : TypeId} {pos : String} {after : Array Edge} {gd : Option (Nat × Bool)} {x : Operand} {g off : Nat} {y : Opn}
    (hw : Region.wanted { dst := dst, op := .load 24 x, type := ty, pos := pos, after := after, guard := gd } (yielded ops a.tmps) = true)
    (hx : a.eval x = .pointer (some ⟨g, off, none⟩)) (hr : w.rangeAt g off (opC y)) (h : wpList Try.prog ops Q rest (a.put dst (.agg (opC y).toArray)) w) :
    wpList Try.prog ops Q ({ dst := dst, op := .load 24 x, type := ty, pos := pos, after := after, guard := gd } :: rest) a w :=
  rkO.wpList_load Try.underlying24 rfl rfl hw hx hr h
end
/-- Where an operation of the list stands. -/
theorem In_at {N : Nat} {w : World} {a : Option Addr} {n c : Nat} {l : List Opn} (h : rkO.In N w (.slice a n c) l) {k : Nat} (hk : k < l.length) : ∃ bk o, a = some ⟨bk, o, none⟩ ∧ bk < N ∧ w.rangeAt bk (o + k * 5) (opC l[k]) := by
  obtain ⟨_, _, e, _, _, h⟩ := h
  simp at e
  obtain ⟨rfl, -, -⟩ := e
  obtain ⟨bk, o, e, hb, hr⟩ := h (fun e => by rw [e] at hk; simp at hk)
  exact ⟨bk, o, e, hb, hr k hk⟩
theorem rg_next {s : Int} {l : List Opn} {k : Nat} (hk : k < l.length) (h : rgE s (l.take k) = 0) :
    rgE s (l.take (k + 1)) = (rgX (rgS s (l.take k)) l[k]).2.2 ∧ rgS s (l.take (k + 1)) = (rgX (rgS s (l.take k)) l[k]).1 ∧
    rgL s (l.take (k + 1)) = rgL s (l.take k) ++ (if (rgX (rgS s (l.take k)) l[k]).2.2 = 0 then [(rgX (rgS s (l.take k)) l[k]).2.1] else []) := by
  rw [List.take_add_one, List.getElem?_eq_getElem hk, Option.toList_some]
  exact ⟨rgE_app s _ _ h, rgS_app s _ _ h, rgL_app s _ _ h⟩
theorem rg_stop {s : Int} {l : List Opn} {k : Nat} (hk : k < l.length) (h : rgE s (l.take k) = 0) (he : (rgX (rgS s (l.take k)) l[k]).2.2 ≠ 0) :
    rgE s l = 10 ∧ rgS s l = rgS s (l.take k) ∧ rgL s l = rgL s (l.take k) := by
  obtain ⟨h1, h2, h3⟩ := rg_next hk h
  have hb := rgE_bad s (l.take (k + 1)) (l.drop (k + 1)) (by rw [h1]; exact he)
  rw [List.take_append_drop] at hb
  have hx := rgX_bad he
  refine ⟨?_, ?_, ?_⟩
  · rw [hb.1, h1, hx]
  · rw [hb.2.1, h2, hx]
  · rw [hb.2.2, h3, if_neg he, List.append_nil]
theorem rgL_few {s : Int} {l : List Opn} (k : Nat) : (rgL s (l.take k)).length ≤ l.length := Nat.le_trans (rgL_len s _).1 (by rw [List.length_take]; omega)
set_option maxHeartbeats 8000000
set_option maxRecDepth 100000
end Go.Proofs.Ytockahocmomdlaa
