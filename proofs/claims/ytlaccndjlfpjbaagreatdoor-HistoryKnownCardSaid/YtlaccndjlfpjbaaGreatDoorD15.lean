/-
  The program's history: the small functions.
-/
import Derived.Laws.Tables
import Derived.Test.YtlaccndjlfpjbaaGreatDoorD14
set_option linter.unusedSimpArgs false
set_option linter.unusedVariables false
namespace Go.Proofs.YtlaccndjlfpjbaaGreatDoor
open Go.RowKit Go.Maps
set_option maxHeartbeats 1000000
set_option maxRecDepth 100000
theorem made_yes (w : World) (a p : Nat) (hc : w.cell? ⟨a, 0, none⟩ = some (.pointer (some ⟨p, 0, none⟩))) :
    Calls Tryz.prog 27 #[.pointer (some ⟨a, 0, none⟩)] w fun e w' => e = .returned (.bool true) ∧ w' = w := by
  go_enter Tryz.func27, Tryz.ntmps27
  go_wp2_with fail
  go_ret
  exact ⟨rfl, rfl⟩
theorem made_none (w : World) : Calls Tryz.prog 27 #[.pointer none] w fun e w' => e = .returned (.bool false) ∧ w' = w := by
  go_enter Tryz.func27, Tryz.ntmps27
  go_wp2_with fail
  go_ret
  exact ⟨rfl, rfl⟩
theorem made_zero (w : World) (a : Nat) (hc : w.cell? ⟨a, 0, none⟩ = some (.pointer none)) :
    Calls Tryz.prog 27 #[.pointer (some ⟨a, 0, none⟩)] w fun e w' => e = .returned (.bool false) ∧ w' = w := by
  go_enter Tryz.func27, Tryz.ntmps27
  go_wp2_with fail
  go_ret
  exact ⟨rfl, rfl⟩
theorem busy_cell (w : World) (p c : Nat) (k : Int) (hc : c < 16) (h : w.cell? ⟨p, 8 + c * 19, none⟩ = some (.int .u8 k)) :
    Calls Tryz.prog 35 #[.pointer (some ⟨p, 0, none⟩), .int .u8 c] w fun e w' => e = .returned (.bool (decide (k ≠ 0))) ∧ w' = w := by
  have hc2 : (c : Int) < 16 := by omega
  by_cases hk : k = 0
  · subst hk
    go_enter Tryz.func35, Tryz.ntmps35
    go_wp2_with fail
    go_ret
    exact ⟨rfl, rfl⟩
  · have hk2 : (k == 0) = false := by simpa using hk
    have hk3 : (k != 0) = true := by simpa using hk
    have e : decide (k ≠ 0) = true := by simp [hk]
    rw [e]
    go_enter Tryz.func35, Tryz.ntmps35
    go_wp2_with fail
    go_ret
    exact ⟨rfl, rfl⟩
theorem foreign_any (w : World) (m k : Int) (hk : evKind k = true) :
    Calls Tryz.prog 39 #[.int .u8 m, .int .u8 k] w fun e w' => e = .returned (.bool (decide (hWrong m k))) ∧ w' = w := by
  by_cases hm : m = 4
  · subst hm
    rcases kind_cases hk with rfl | rfl | rfl | rfl | rfl | rfl | rfl
    all_goals
      first
        | rw [show decide (hWrong 4 2) = true from by decide]
        | rw [show decide (hWrong 4 3) = true from by decide]
        | rw [show decide (hWrong 4 1) = false from by decide]
        | rw [show decide (hWrong 4 4) = false from by decide]
        | rw [show decide (hWrong 4 5) = false from by decide]
        | rw [show decide (hWrong 4 6) = false from by decide]
        | rw [show decide (hWrong 4 7) = false from by decide]
      go_enter Tryz.func39, Tryz.ntmps39
      go_wp2_with fail
      go_ret
      exact ⟨rfl, rfl⟩
  · have hm2 : (m == 4) = false := by simpa using hm
    have hm3 : (m != 4) = true := by simpa using hm
    rcases kind_cases hk with rfl | rfl | rfl | rfl | rfl | rfl | rfl
    all_goals
      first
        | rw [show decide (hWrong m 5) = true from by simp [hWrong, hm]]
        | rw [show decide (hWrong m 6) = true from by simp [hWrong, hm]]
        | rw [show decide (hWrong m 7) = true from by simp [hWrong, hm]]
        | rw [show decide (hWrong m 1) = false from by simp [hWrong, hm]]
        | rw [show decide (hWrong m 2) = false from by simp [hWrong, hm]]
        | rw [show decide (hWrong m 3) = false from by simp [hWrong, hm]]
        | rw [show decide (hWrong m 4) = false from by simp [hWrong, hm]]
      go_enter Tryz.func39, Tryz.ntmps39
      go_wp2_with fail
      go_ret
      exact ⟨rfl, rfl⟩
/-- A new automaton. -/
def evZ : Ev × Value × Value := (evZero, .slice none 0 0, .slice none 0 0)
def open0 : EvL := List.replicate 16 evZ
theorem past_zero (b : Nat) : (Tryz.zeroCells73.setIfInBounds 312 (.int .i64 (-1))).setIfInBounds 313 (.map (some b)) = (pastL cfgZero false open0 (-1) b).toArray := by kernel_rfl
theorem evZero_in : evZero.In := ⟨by decide, by decide, by decide, by decide, by decide, by decide, ⟨by decide, by decide, by decide, by decide, by decide, by decide, by decide, by decide, by decide, by decide⟩, by decide, by decide, by decide, by decide, by simp [evZero], by simp [evZero], by decide, by decide, by decide, by decide, by decide, by decide, by decide, by decide⟩
theorem open0_at (c : Nat) (h : c < open0.length) : open0[c] = evZ := List.eq_of_mem_replicate (List.getElem_mem h)
theorem newPast_any (w : World) : Calls Tryz.prog 26 #[] w fun e w' => ∃ p mb, e = .returned (.pointer (some ⟨p, 0, none⟩)) ∧ HPast w' p mb 0 cfgZero false open0 (-1) [] [] ∧ Keeps [] w w' ∧ w.heap.size ≤ p ∧ w.heap.size ≤ mb ∧ p < w'.heap.size ∧ mb < w'.heap.size := by
  have hmm := @run_makeMap Tryz.prog
  have HM := Lib.hid (MapAt.made w)
  go_enter Tryz.func26, Tryz.ntmps26
  go_wp2_with fail
  rw [past_zero]
  go_ret
  have hk := ((Keeps.refl [] w).alloc (.map #[] 0)).alloc (.cells (pastL cfgZero false open0 (-1) w.heap.size).toArray 73)
  have hP := heap_alloc_new (w.alloc (.map #[] 0)) (.cells (pastL cfgZero false open0 (-1) w.heap.size).toArray 73)
  have hs : (w.alloc (.map #[] 0)).heap.size = w.heap.size + 1 := by simp
  rw [hs] at hP
  refine ⟨_, w.heap.size, rfl, ⟨hP, rfl, HM.out.keeps ((Keeps.refl [] _).alloc _) (by simp), fun c hc => ?_, by omega, by simp, by simp, by simp⟩, hk, by omega, Nat.le_refl _, by simp, by simp; omega⟩
  rw [open0_at]
  exact ⟨evZero_in, MicsIn.nil _ _, rfl, rfl⟩
theorem new_any (w : World) : Calls Tryz.prog 10 #[] w fun e w' => ∃ a p mb, e = .returned (.pointer (some ⟨a, 0, none⟩)) ∧ AAt w' a p mb 0 cfgZero false open0 (-1) [] [] ∧ Keeps [] w w' ∧ w.heap.size ≤ a ∧ w.heap.size ≤ p ∧ w.heap.size ≤ mb := by
  go_enter Tryz.func10, Tryz.ntmps10
  go_wp2_with fail
  refine (newPast_any _).mono ?_; rintro e w1 ⟨p, mb, rfl, hP, hk, h1, h2, h3, h4⟩
  go_wp2_with fail
  go_ret
  exact ⟨_, p, mb, rfl, ⟨heap_alloc_new w1 _, hP.new ((Keeps.refl [] _).alloc _), by omega, by omega, by simp⟩, hk.alloc _, hk.size, h1, h2⟩
end Go.Proofs.YtlaccndjlfpjbaaGreatDoor
