/-
  The document's register: a step.
-/
import Derived.Test.YtbnhcggjcdipeaaGreatDoorWS02
import Derived.Test.YtbnhcggjcdipeaaGreatDoorWS06
set_option linter.unusedSimpArgs false
set_option linter.unusedVariables false
namespace Go.Proofs.YtbnhcggjcdipeaaGreatDoor
open Go.RowKit
theorem opC_one (x : Opn) : ∀ v ∈ opC x, v.oneCell' = true := by
  intro v hv
  simp only [opC, List.mem_cons, List.not_mem_nil, or_false] at hv
  rcases hv with rfl | rfl | rfl | rfl | rfl <;> rfl
theorem ansC_one (x : Ans) : ∀ v ∈ ansC x, v.oneCell' = true := by
  intro v hv
  simp only [ansC, List.mem_cons, List.not_mem_nil, or_false] at hv
  rcases hv with rfl | rfl <;> rfl
section
variable {ops : Array Oper} {S : World → Prop} {o : Oper} {a : Act}
theorem yields_opC (hw : Region.wanted o (yielded ops a.tmps) = true) (x : Operand) (ho : o.op = .load 47 x) (g off : Nat) (hx : a.eval x = .pointer (some ⟨g, off, none⟩)) (y : Opn) (hS : ∀ w, S w → w.rangeAt g off (opC y)) :
    YieldsIf Tryz.prog ops S o (.agg (opC y).toArray) a :=
  yieldsIf_load_mid (P := Tryz.prog) hw 47 x ho g off hx (opC y) _ hS Tryz.underlying47 rfl (by kernel_rfl)
theorem yields_ansC (hw : Region.wanted o (yielded ops a.tmps) = true) (x : Operand) (ho : o.op = .load 25 x) (g off : Nat) (hx : a.eval x = .pointer (some ⟨g, off, none⟩)) (y : Ans) (hS : ∀ w, S w → w.rangeAt g off (ansC y)) :
    YieldsIf Tryz.prog ops S o (.agg (ansC y).toArray) a :=
  yieldsIf_load_mid (P := Tryz.prog) hw 25 x ho g off hx (ansC y) _ hS Tryz.underlying25 rfl (by kernel_rfl)
end
theorem results_tct {fn : Func} {c p u : Tmp} {ty : TypeId} (h : fn.results = #[.tmp c, .cell p ty, .tmp u]) (tmps : Array Value) (P : Program) (w : World) :
    (results fn tmps).run P w =
      ((asAddr (tmps.getD p undef)).run P w).andThen fun a w₁ => ((loadVar ty a).run P w₁).andThen fun v w₂ => .ok (.tuple #[tmps.getD c undef, v, tmps.getD u undef]) w₂ := by
  simp only [results, h]
  simp [Sem.run_bind, Result.andThen]
/-- A number, an answer that stands in a block, a number are handed back. -/
theorem results_ans {fn : Func} {c p u : Tmp} (h : fn.results = #[.tmp c, .cell p 25, .tmp u]) (tmps : Array Value) (w : World) (b : Nat) (y : Ans) {t : TypeId}
    (hp : tmps.getD p undef = .pointer (some ⟨b, 0, none⟩)) (hb : w.heap[b]? = some (.cells (ansC y).toArray t (0, 0))) : (results fn tmps).run Tryz.prog w = .ok (.tuple #[tmps.getD c undef, .agg (ansC y).toArray, tmps.getD u undef]) w := by
  have h1 : (loadVar 25 ⟨b, 0, none⟩).run Tryz.prog w = .ok (.agg (ansC y).toArray) w := run_loadVar_row w b t 25 _ _ _ hb Tryz.underlying25 rfl (by kernel_rfl)
  rw [results_tct h, hp]
  simp [asAddr, h1, Result.andThen]
set_option maxHeartbeats 8000000
set_option maxRecDepth 100000
theorem r9Step_any (w : World) (s : Int) (x : Opn) : Calls Tryz.prog 55 #[.int .u16 s, x.val] w fun e w' => e = .returned (.tuple #[.int .u16 (rgX s x).1, .agg (ansC (rgX s x).2.1).toArray, .int .i64 (rgX s x).2.2]) ∧ Keeps [] w w' := by
  have hk := (Keeps.refl [] w).alloc (.cells (opC x).toArray 47)
  have hk2 : ∀ y : Ans, Keeps [] w ((w.alloc (.cells (opC x).toArray 47)).alloc (.cells (ansC y).toArray 25)) := fun y => hk.alloc _
  have hnew : ∀ y : Ans, ((w.alloc (.cells (opC x).toArray 47)).alloc (.cells (ansC y).toArray 25)).heap[w.heap.size + 1]? = some (.cells (ansC y).toArray 25 (0, 0)) := fun y => by
    have := heap_alloc_new (w.alloc (.cells (opC x).toArray 47)) (.cells (ansC y).toArray 25)
    rwa [show (w.alloc (.cells (opC x).toArray 47)).heap.size = w.heap.size + 1 from Array.size_push _] at this
  have HK2 := Lib.hid hk2; have HN := Lib.hid hnew
  clear hk hk2 hnew
  unfold Opn.val
  obtain ⟨f, o, k, a, b⟩ := x
  by_cases h1 : f = 1
  · subst h1
    go_enter Tryz.func55, Tryz.ntmps55
    go_wp2_with fail
    try simp only [Exit.inBlock, Exit.then]
    exact bodyPost_ret (results_ans rfl _ _ _ ⟨1, s⟩ rfl (HN.out ⟨1, s⟩)) rfl ⟨by simp [rgX, ansC], HK2.out ⟨1, s⟩⟩
  · by_cases h2 : f = 2
    · subst h2
      go_enter Tryz.func55, Tryz.ntmps55
      go_wp2_with fail
      try simp only [Exit.inBlock, Exit.then]
      exact bodyPost_ret (results_ans rfl _ _ _ ⟨0, 0⟩ rfl (HN.out ⟨0, 0⟩)) rfl ⟨by simp [rgX, ansC], HK2.out ⟨0, 0⟩⟩
    · by_cases h3 : f = 3
      · subst h3
        by_cases h4 : s = a
        · subst h4
          go_enter Tryz.func55, Tryz.ntmps55
          go_wp2_with fail
          try simp only [Exit.inBlock, Exit.then]
          exact bodyPost_ret (results_ans rfl _ _ _ ⟨3, 0⟩ rfl (HN.out ⟨3, 0⟩)) rfl ⟨by simp [rgX, ansC], HK2.out ⟨3, 0⟩⟩
        · have t4 : (s == a) = false := by simpa using h4
          go_enter Tryz.func55, Tryz.ntmps55
          go_wp2_with fail
          try simp only [Exit.inBlock, Exit.then]
          exact bodyPost_ret (results_ans rfl _ _ _ ⟨4, 0⟩ rfl (HN.out ⟨4, 0⟩)) rfl ⟨by simp [rgX, ansC, h4], HK2.out ⟨4, 0⟩⟩
      · have t1 : (f == 1) = false := by simpa using h1
        have t2 : (f == 2) = false := by simpa using h2
        have t3 : (f == 3) = false := by simpa using h3
        go_enter Tryz.func55, Tryz.ntmps55
        go_wp2_with fail
        try simp only [Exit.inBlock, Exit.then]
        exact bodyPost_ret (results_ans rfl _ _ _ ⟨0, 0⟩ rfl (HN.out ⟨0, 0⟩)) rfl ⟨by simp [rgX, ansC, h1, h2, h3], HK2.out ⟨0, 0⟩⟩
end Go.Proofs.YtbnhcggjcdipeaaGreatDoor
/-
  The document's register: operations in a row.
-/
namespace Go.Proofs.YtbnhcggjcdipeaaGreatDoor
open Go.RowKit
section
variable {ops : Array Oper} {rest : List Oper} {a : Act} {w : World} {Q : Exit → Act → World → Prop}
set_option maxRecDepth 100000 in
theorem wpList_loadO {dst : Option Tmp} {ty : TypeId} {pos : String} {after : Array Edge} {gd : Option (Nat × Bool)} {x : Operand} {g off : Nat} {y : Opn}
    (hw : Region.wanted { dst := dst, op := .load 47 x, type := ty, pos := pos, after := after, guard := gd } (yielded ops a.tmps) = true)
    (hx : a.eval x = .pointer (some ⟨g, off, none⟩)) (hr : w.rangeAt g off (opC y)) (h : wpList Tryz.prog ops Q rest (a.put dst (.agg (opC y).toArray)) w) :
    wpList Tryz.prog ops Q ({ dst := dst, op := .load 47 x, type := ty, pos := pos, after := after, guard := gd } :: rest) a w :=
  wpList_step fun _ hK => by
    rw [if_pos hw]
    exact wp_load_mid 47 x rfl g off hx (opC y) _ hr Tryz.underlying47 rfl (by kernel_rfl) (hK _ _ h)
end
set_option maxHeartbeats 8000000
set_option maxRecDepth 100000
end Go.Proofs.YtbnhcggjcdipeaaGreatDoor
