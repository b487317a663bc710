/-
  The document's register: a step.
-/
import Derived.Test.YtnmpekbkahkapaaKK02
import Derived.Test.YtnmpekbkahkapaaKK05
set_option linter.unusedSimpArgs false
set_option linter.unusedVariables false
namespace Go.Proofs.Ytnmpekbkahkapaa
open Go.RowKit
theorem opC_len (x : Opn) : (opC x).length = 5 := rfl
theorem opC_one (x : Opn) : ∀ v ∈ opC x, v.oneCell' = true := by
  intro v hv
  simp only [opC, List.mem_cons, List.not_mem_nil, or_false] at hv
  rcases hv with rfl | rfl | rfl | rfl | rfl <;> rfl
theorem ansC_len (x : Ans) : (ansC x).length = 2 := rfl
theorem ansC_one (x : Ans) : ∀ v ∈ ansC x, v.oneCell' = true := by
  intro v hv
  simp only [ansC, List.mem_cons, List.not_mem_nil, or_false] at hv
  rcases hv with rfl | rfl <;> rfl
theorem Try.infoOpR : (Try.prog.info? 27).map (fun i => (i.zero, i.size, i.bytes)) = some (some (.agg (opC ⟨0, 0, 0, 0, 0⟩).toArray), 5, 8) := by kernel_rfl
theorem Try.infoAnsR : (Try.prog.info? 32).map (fun i => (i.zero, i.size, i.bytes)) = some (some (.agg (ansC ⟨0, 0⟩).toArray), 2, 4) := by kernel_rfl
/-- Operations, side by side. -/
noncomputable def rkO : RK Opn :=
  { T := 27, Sl := 42, s := 5, b := 8, cs := opC, i := (info_parts Try.infoOpR).choose, z := .agg (opC ⟨0, 0, 0, 0, 0⟩).toArray,
    len := opC_len, one := opC_one, s0 := by decide, b1 := by decide, und := Try.underlying42,
    hi := (info_parts Try.infoOpR).choose_spec.1, hz := (info_parts Try.infoOpR).choose_spec.2.1, hs := (info_parts Try.infoOpR).choose_spec.2.2.1, hb := (info_parts Try.infoOpR).choose_spec.2.2.2, hzs := rfl }
/-- Answers, side by side. -/
noncomputable def rkA : RK Ans :=
  { T := 32, Sl := 43, s := 2, b := 4, cs := ansC, i := (info_parts Try.infoAnsR).choose, z := .agg (ansC ⟨0, 0⟩).toArray,
    len := ansC_len, one := ansC_one, s0 := by decide, b1 := by decide, und := Try.underlying43,
    hi := (info_parts Try.infoAnsR).choose_spec.1, hz := (info_parts Try.infoAnsR).choose_spec.2.1, hs := (info_parts Try.infoAnsR).choose_spec.2.2.1, hb := (info_parts Try.infoAnsR).choose_spec.2.2.2, hzs := rfl }
set_option maxHeartbeats 8000000
set_option maxRecDepth 100000
end Go.Proofs.Ytnmpekbkahkapaa
/-
  The document's register: operations in a row.
-/
namespace Go.Proofs.Ytnmpekbkahkapaa
open Go.RowKit
section
variable {ops : Array Oper} {rest : List Oper} {a : Act} {w : World} {Q : Exit → Act → World → Prop}
theorem wpList_loadO {dst : Option Tmp} {ty : TypeId} {pos : String} {after : Array Edge} {gd : Option (Nat × Bool)} {x : Operand} {g off : Nat} {y : Opn}
    (hw : Region.wanted { dst := dst, op := .load 27 x, type := ty, pos := pos, after := after, guard := gd } (yielded ops a.tmps) = true)
    (hx : a.eval x = .pointer (some ⟨g, off, none⟩)) (hr : w.rangeAt g off (opC y)) (h : wpList Try.prog ops Q rest (a.put dst (.agg (opC y).toArray)) w) :
    wpList Try.prog ops Q ({ dst := dst, op := .load 27 x, type := ty, pos := pos, after := after, guard := gd } :: rest) a w :=
  rkO.wpList_load Try.underlying27 rfl rfl hw hx hr h
end
/-- Where an operation of the list stands. -/
theorem In_at {N : Nat} {w : World} {a : Option Addr} {n c : Nat} {l : List Opn} (h : rkO.In N w (.slice a n c) l) {k : Nat} (hk : k < l.length) : ∃ bk o, a = some ⟨bk, o, none⟩ ∧ bk < N ∧ w.rangeAt bk (o + k * 5) (opC l[k]) := by
  obtain ⟨_, _, e, _, _, h⟩ := h
  simp at e
  obtain ⟨rfl, -, -⟩ := e
  obtain ⟨bk, o, e, hb, hr⟩ := h (fun e => by rw [e] at hk; simp at hk)
  exact ⟨bk, o, e, hb, hr k hk⟩
set_option maxHeartbeats 8000000
set_option maxRecDepth 100000
end Go.Proofs.Ytnmpekbkahkapaa
