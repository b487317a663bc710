/-
  The document's register: a step.
-/
import Derived.Test.YtockahocmomdlaaRS02
import Derived.Test.YtockahocmomdlaaRS04
set_option linter.unusedSimpArgs false
set_option linter.unusedVariables false
namespace Go.Proofs.Ytockahocmomdlaa
open Go.RowKit
theorem opC_len (x : Opn) : (opC x).length = 5 := rfl
theorem opC_one (x : Opn) : ∀ v ∈ opC x, v.oneCell' = true := by
  intro v hv
  simp only [opC, List.mem_cons, List.not_mem_nil, or_false] at hv
  rcases hv with rfl | rfl | rfl | rfl | rfl <;> rfl
theorem ansC_len (x : Ans) : (ansC x).length = 2 := rfl
theorem ansC_one (x : Ans) : ∀ v ∈ ansC x, v.oneCell' = true := by
  intro v hv
  simp only [ansC, List.mem_cons, List.not_mem_nil, or_false] at hv
  rcases hv with rfl | rfl <;> rfl
theorem Try.infoOpR : (Try.prog.info? 24).map (fun i => (i.zero, i.size, i.bytes)) = some (some (.agg (opC ⟨0, 0, 0, 0, 0⟩).toArray), 5, 8) := by kernel_rfl
theorem Try.infoAnsR : (Try.prog.info? 27).map (fun i => (i.zero, i.size, i.bytes)) = some (some (.agg (ansC ⟨0, 0⟩).toArray), 2, 4) := by kernel_rfl
/-- Operations, side by side. -/
noncomputable def rkO : RK Opn :=
  { T := 24, Sl := 36, s := 5, b := 8, cs := opC, i := (info_parts Try.infoOpR).choose, z := .agg (opC ⟨0, 0, 0, 0, 0⟩).toArray,
    len := opC_len, one := opC_one, s0 := by decide, b1 := by decide, und := Try.underlying36,
    hi := (info_parts Try.infoOpR).choose_spec.1, hz := (info_parts Try.infoOpR).choose_spec.2.1, hs := (info_parts Try.infoOpR).choose_spec.2.2.1, hb := (info_parts Try.infoOpR).choose_spec.2.2.2, hzs := rfl }
/-- Answers, side by side. -/
noncomputable def rkA : RK Ans :=
  { T := 27, Sl := 37, s := 2, b := 4, cs := ansC, i := (info_parts Try.infoAnsR).choose, z := .agg (ansC ⟨0, 0⟩).toArray,
    len := ansC_len, one := ansC_one, s0 := by decide, b1 := by decide, und := Try.underlying37,
    hi := (info_parts Try.infoAnsR).choose_spec.1, hz := (info_parts Try.infoAnsR).choose_spec.2.1, hs := (info_parts Try.infoAnsR).choose_spec.2.2.1, hb := (info_parts Try.infoAnsR).choose_spec.2.2.2, hzs := rfl }
theorem results_tct {fn : Func} {c p u : Tmp} {ty : TypeId} (h : fn.results = #[.tmp c, .cell p ty, .tmp u]) (tmps : Array Value) (P : Program) (w : World) :
    (results fn tmps).run P w =
      ((asAddr (tmps.getD p undef)).run P w).andThen fun a w₁ => ((loadVar ty a).run P w₁).andThen fun v w₂ => .ok (.tuple #[tmps.getD c undef, v, tmps.getD u undef]) w₂ := by
  simp only [results, h]
  simp [Sem.run_bind, Result.andThen]
/-- A number, an answer that stands in a block, a number are handed back. -/
theorem results_ans {fn : Func} {c p u : Tmp} (h : fn.results = #[.tmp c, .cell p 27, .tmp u]) (tmps : Array Value) (w : World) (b : Nat) (y : Ans) {t : TypeId}
    (hp : tmps.getD p undef = .pointer (some ⟨b, 0, none⟩)) (hb : w.heap[b]? = some (.cells (ansC y).toArray t (0, 0))) : (results fn tmps).run Try.prog w = .ok (.tuple #[tmps.getD c undef, .agg (ansC y).toArray, tmps.getD u undef]) w := by
  have h1 : (loadVar 27 ⟨b, 0, none⟩).run Try.prog w = .ok (.agg (ansC y).toArray) w := run_loadVar_row w b t 27 _ _ _ hb Try.underlying27 rfl (by kernel_rfl)
  rw [results_tct h, hp]
  simp [asAddr, h1, Result.andThen]
set_option maxHeartbeats 8000000
set_option maxRecDepth 100000
theorem r9Step_any (w : World) (s : Int) (x : Opn) : Calls Try.prog 9 #[.int .u16 s, x.val] w fun e w' => e = .returned (.tuple #[.int .u16 (rgX s x).1, .agg (ansC (rgX s x).2.1).toArray, .int .i64 (rgX s x).2.2]) ∧ Keeps [] w w' := by
  have hk := (Keeps.refl [] w).alloc (.cells (opC x).toArray 24)
  have hk2 : ∀ y : Ans, Keeps [] w ((w.alloc (.cells (opC x).toArray 24)).alloc (.cells (ansC y).toArray 27)) := fun y => hk.alloc _
  have hnew : ∀ y : Ans, ((w.alloc (.cells (opC x).toArray 24)).alloc (.cells (ansC y).toArray 27)).heap[w.heap.size + 1]? = some (.cells (ansC y).toArray 27 (0, 0)) := fun y => by
    have := heap_alloc_new (w.alloc (.cells (opC x).toArray 24)) (.cells (ansC y).toArray 27)
    rwa [show (w.alloc (.cells (opC x).toArray 24)).heap.size = w.heap.size + 1 from Array.size_push _] at this
  have HK2 := Lib.hid hk2; have HN := Lib.hid hnew
  clear hk hk2 hnew
  unfold Opn.val
  obtain ⟨f, o, k, a, b⟩ := x
  by_cases h1 : f = 1
  · subst h1
    go_enter Try.func9, Try.ntmps9
    go_wp2_with fail
    try simp only [Exit.inBlock, Exit.then]
    exact bodyPost_ret (results_ans rfl _ _ _ ⟨1, s⟩ rfl (HN.out ⟨1, s⟩)) rfl ⟨by simp [rgX, ansC], HK2.out ⟨1, s⟩⟩
  · by_cases h2 : f = 2
    · subst h2
      go_enter Try.func9, Try.ntmps9
      go_wp2_with fail
      try simp only [Exit.inBlock, Exit.then]
      exact bodyPost_ret (results_ans rfl _ _ _ ⟨0, 0⟩ rfl (HN.out ⟨0, 0⟩)) rfl ⟨by simp [rgX, ansC], HK2.out ⟨0, 0⟩⟩
    · by_cases h3 : f = 3
      · subst h3
        by_cases h4 : s = a
        · subst h4
          go_enter Try.func9, Try.ntmps9
          go_wp2_with fail
          try simp only [Exit.inBlock, Exit.then]
          exact bodyPost_ret (results_ans rfl _ _ _ ⟨3, 0⟩ rfl (HN.out ⟨3, 0⟩)) rfl ⟨by simp [rgX, ansC], HK2.out ⟨3, 0⟩⟩
        · have t4 : (s == a) = false := by simpa using h4
          go_enter Try.func9, Try.ntmps9
          go_wp2_with fail
          try simp only [Exit.inBlock, Exit.then]
          exact bodyPost_ret (results_ans rfl _ _ _ ⟨4, 0⟩ rfl (HN.out ⟨4, 0⟩)) rfl ⟨by simp [rgX, ansC, h4], HK2.out ⟨4, 0⟩⟩
      · have t1 : (f == 1) = false := by simpa using h1
        have t2 : (f == 2) = false := by simpa using h2
        have t3 : (f == 3) = false := by simpa using h3
        go_enter Try.func9, Try.ntmps9
        go_wp2_with fail
        try simp only [Exit.inBlock, Exit.then]
        exact bodyPost_ret (results_ans rfl _ _ _ ⟨0, 0⟩ rfl (HN.out ⟨0, 0⟩)) rfl ⟨by simp [rgX, ansC, h1, h2, h3], HK2.out ⟨0, 0⟩⟩
end Go.Proofs.Ytockahocmomdlaa
/-
  The document's register: operations in a row.
-/
namespace Go.Proofs.Ytockahocmomdlaa
open Go.RowKit
section
variable {ops : Array Oper} {rest : List Oper} {a : Act} {w : World} {Q : Exit → Act → World → Prop}
theorem wpList_loadO {dst : Option Tmp} {ty : TypeId} {pos : String} {after : Array Edge} {gd : Option (Nat × Bool)} {x : Operand} {g off : Nat} {y : Opn}
    (hw : Region.wanted { dst := dst, op := .load 24 x, type := ty, pos := pos, after := after, guard := gd } (yielded ops a.tmps) = true)
    (hx : a.eval x = .pointer (some ⟨g, off, none⟩)) (hr : w.rangeAt g off (opC y)) (h : wpList Try.prog ops Q rest (a.put dst (.agg (opC y).toArray)) w) :
    wpList Try.prog ops Q ({ dst := dst, op := .load 24 x, type := ty, pos := pos, after := after, guard := gd } :: rest) a w :=
  rkO.wpList_load Try.underlying24 rfl rfl hw hx hr h
end
/-- Where an operation of the list stands. -/
theorem In_at {N : Nat} {w : World} {a : Option Addr} {n c : Nat} {l : List Opn} (h : rkO.In N w (.slice a n c) l) {k : Nat} (hk : k < l.length) : ∃ bk o, a = some ⟨bk, o, none⟩ ∧ bk < N ∧ w.rangeAt bk (o + k * 5) (opC l[k]) := by
  obtain ⟨_, _, e, _, _, h⟩ := h
  simp at e
  obtain ⟨rfl, -, -⟩ := e
  obtain ⟨bk, o, e, hb, hr⟩ := h (fun e => by rw [e] at hk; simp at hk)
  exact ⟨bk, o, e, hb, hr k hk⟩
theorem rg_next {s : Int} {l : List Opn} {k : Nat} (hk : k < l.length) (h : rgE s (l.take k) = 0) :
    rgE s (l.take (k + 1)) = (rgX (rgS s (l.take k)) l[k]).2.2 ∧ rgS s (l.take (k + 1)) = (rgX (rgS s (l.take k)) l[k]).1 ∧
    rgL s (l.take (k + 1)) = rgL s (l.take k) ++ (if (rgX (rgS s (l.take k)) l[k]).2.2 = 0 then [(rgX (rgS s (l.take k)) l[k]).2.1] else []) := by
  rw [List.take_add_one, List.getElem?_eq_getElem hk, Option.toList_some]
  exact ⟨rgE_app s _ _ h, rgS_app s _ _ h, rgL_app s _ _ h⟩
theorem rg_stop {s : Int} {l : List Opn} {k : Nat} (hk : k < l.length) (h : rgE s (l.take k) = 0) (he : (rgX (rgS s (l.take k)) l[k]).2.2 ≠ 0) :
    rgE s l = 10 ∧ rgS s l = rgS s (l.take k) ∧ rgL s l = rgL s (l.take k) := by
  obtain ⟨h1, h2, h3⟩ := rg_next hk h
  have hb := rgE_bad s (l.take (k + 1)) (l.drop (k + 1)) (by rw [h1]; exact he)
  rw [List.take_append_drop] at hb
  have hx := rgX_bad he
  refine ⟨?_, ?_, ?_⟩
  · rw [hb.1, h1, hx]
  · rw [hb.2.1, h2, hx]
  · rw [hb.2.2, h3, if_neg he, List.append_nil]
theorem rgL_few {s : Int} {l : List Opn} (k : Nat) : (rgL s (l.take k)).length ≤ l.length := Nat.le_trans (rgL_len s _).1 (by rw [List.length_take]; omega)
set_option maxHeartbeats 8000000
set_option maxRecDepth 100000
end Go.Proofs.Ytockahocmomdlaa
