/-
  The row of an operation's number, of the document.
-/
import Derived.Test.YtllloahimfkmfaaDoorOc
namespace Go.Proofs.YtllloahimfkmfaaDoor
open Go.RowKit
set_option maxRecDepth 100000 in
theorem results_row42 {fn : Func} {p u : Tmp} (h : fn.results = #[.cell p 75, .tmp u]) (tmps : Array Value) (w : World) (b : Nat) {x0 x1 x2 x3 x4 : Value} {t : TypeId}
    (hp : tmps.getD p undef = .pointer (some ⟨b, 0, none⟩)) (hb : w.heap[b]? = some (.cells #[x0, x1, x2, x3, x4] t (0, 0))) : (results fn tmps).run Tryd.prog w = .ok (.tuple #[.agg #[x0, x1, x2, x3, x4], tmps.getD u undef]) w := by
  have h1 : (loadVar 75 ⟨b, 0, none⟩).run Tryd.prog w = .ok (.agg #[x0, x1, x2, x3, x4]) w := run_loadVar_row w b t 75 _ _ _ hb Tryd.underlying75 rfl (by kernel_rfl)
  rw [results_cell_tmp h, hp]
  simp [asAddr, h1, Result.andThen]
set_option maxHeartbeats 4000000 in
theorem Of_any (w : World) (f : Int) (h0 : 0 ≤ f) (h1 : f < 256) : Calls Tryd.prog 30 #[.int .u8 f] w fun e w' =>
    e = .returned (.tuple #[.agg #[.int .i64 (opM f), .string (bs (opNm f)), .bool (opK f), .bool (opA f), .bool (opB f)], .bool (opIs f)]) ∧ Keeps [] w w' := by
  by_cases hf : opIs f = true
  · rcases is_cases hf with rfl | rfl | rfl | rfl | rfl | rfl | rfl | rfl | rfl | rfl | rfl
    all_goals
      go_enter Tryd.func30, Tryd.ntmps30
      go_wp2_with fail
      exact bodyPost_ret (results_row42 rfl _ _ _ rfl (heap_alloc_new w _)) rfl ⟨rfl, (Keeps.refl _ _).alloc _⟩
  · have hf2 : opIs f = false := by simpa using hf
    have hfz : f = 0 ∨ ¬ f < 12 := by simp [opIs] at hf2; omega
    have h2 : opM f = 0 ∧ opNm f = [] ∧ opK f = false ∧ opA f = false ∧ opB f = false := by
      rcases hfz with rfl | h
      · exact ⟨rfl, rfl, rfl, rfl, rfl⟩
      · exact (op_none h0 h).2
    obtain ⟨e1, e2, e3, e4, e5⟩ := h2
    rw [hf2, e1, e2, e3, e4, e5]
    have q1 : (f == 1) = false := by simp; omega
    have q2 : (f == 2) = false := by simp; omega
    have q3 : (f == 3) = false := by simp; omega
    have q4 : (f == 4) = false := by simp; omega
    have q5 : (f == 5) = false := by simp; omega
    have q6 : (f == 6) = false := by simp; omega
    have q7 : (f == 7) = false := by simp; omega
    have q8 : (f == 8) = false := by simp; omega
    have q9 : (f == 9) = false := by simp; omega
    have q10 : (f == 10) = false := by simp; omega
    have q11 : (f == 11) = false := by simp; omega
    go_enter Tryd.func30, Tryd.ntmps30
    go_wp2_with fail
    exact bodyPost_ret (results_row42 rfl _ _ _ rfl (heap_alloc_new w _)) rfl ⟨rfl, (Keeps.refl _ _).alloc _⟩
/-- Each operation has one model; the program's number and the document's. -/
theorem opM_b (f : Int) : 0 ≤ opM f ∧ opM f ≤ 3 := by
  unfold opM
  repeat' split
  all_goals omega
end Go.Proofs.YtllloahimfkmfaaDoor
