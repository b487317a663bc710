/-
  Automatons that are none.
-/
import Derived.Test.YtlaccndjlfpjbaaGreatDoorD22
import Derived.Test.YtlaccndjlfpjbaaGreatDoorD20
set_option linter.unusedSimpArgs false
set_option linter.unusedVariables false
namespace Go.Proofs.YtlaccndjlfpjbaaGreatDoor
open Go.RowKit Go.Maps
set_option maxHeartbeats 8000000
set_option maxRecDepth 100000
theorem hStep_nil (w : World) (x : Ev) (tx rd : Value) : Calls Tryz.prog 11 #[.pointer none, .agg (evC x tx rd)] w fun e w' => e = .returned (.int .i64 1) ∧ Keeps [] w w' := by
  have HK := Lib.hid ((Keeps.refl [] w).alloc (.cells (evC x tx rd) 42))
  have hm := made_none (w.alloc (.cells (evC x tx rd) 42))
  go_enter Tryz.func11, Tryz.ntmps11
  go_wp2_with fail
  refine hm.mono ?_; rintro e w1 ⟨rfl, hw1⟩
  rw [hw1]
  clear hw1 hm
  go_wp2_with fail
  go_ret
  exact ⟨rfl, HK.out⟩
theorem hStep_zero (w : World) (a : Nat) (hc : w.cell? ⟨a, 0, none⟩ = some (.pointer none)) (x : Ev) (tx rd : Value) : Calls Tryz.prog 11 #[.pointer (some ⟨a, 0, none⟩), .agg (evC x tx rd)] w fun e w' => e = .returned (.int .i64 1) ∧ Keeps [] w w' := by
  have hk := (Keeps.refl [] w).alloc (.cells (evC x tx rd) 42)
  have HK := Lib.hid hk
  have hm := made_zero (w.alloc (.cells (evC x tx rd) 42)) a (hk.cell hc (by simp))
  clear hk hc
  go_enter Tryz.func11, Tryz.ntmps11
  go_wp2_with fail
  refine hm.mono ?_; rintro e w1 ⟨rfl, hw1⟩
  rw [hw1]
  clear hw1 hm
  go_wp2_with fail
  go_ret
  exact ⟨rfl, HK.out⟩
theorem hOpen_none (w : World) : Calls Tryz.prog 21 #[.pointer none] w fun e w' => e = .returned (.int .i64 0) ∧ w' = w := by
  have hm := made_none w
  go_enter Tryz.func21, Tryz.ntmps21
  go_wp2_with fail
  refine hm.mono ?_; rintro e w1 ⟨rfl, hw1⟩
  rw [hw1]
  clear hw1 hm
  go_wp2_with fail
  go_ret
  exact ⟨rfl, rfl⟩
theorem hLast_zero (w : World) (a : Nat) (hc : w.cell? ⟨a, 0, none⟩ = some (.pointer none)) : Calls Tryz.prog 15 #[.pointer (some ⟨a, 0, none⟩)] w fun e w' => e = .returned (.int .i64 (-1)) ∧ w' = w := by
  have hm := made_zero w a hc
  clear hc
  go_enter Tryz.func15, Tryz.ntmps15
  go_wp2_with fail
  refine hm.mono ?_; rintro e w1 ⟨rfl, hw1⟩
  rw [hw1]
  clear hw1 hm
  go_wp2_with fail
  go_ret
  exact ⟨rfl, rfl⟩
theorem hCopy_none (w : World) : Calls Tryz.prog 25 #[.pointer none] w fun e w' => e = .returned (.pointer none) ∧ w' = w := by
  have hm := made_none w
  go_enter Tryz.func25, Tryz.ntmps25
  go_wp2_with fail
  refine hm.mono ?_; rintro e w1 ⟨rfl, hw1⟩
  rw [hw1]
  clear hw1 hm
  go_wp2_with fail
  go_ret
  exact ⟨rfl, rfl⟩
theorem hCopy_zero (w : World) (a : Nat) (hc : w.cell? ⟨a, 0, none⟩ = some (.pointer none)) : Calls Tryz.prog 25 #[.pointer (some ⟨a, 0, none⟩)] w fun e w' => e = .returned (.pointer none) ∧ w' = w := by
  have hm := made_zero w a hc
  clear hc
  go_enter Tryz.func25, Tryz.ntmps25
  go_wp2_with fail
  refine hm.mono ?_; rintro e w1 ⟨rfl, hw1⟩
  rw [hw1]
  clear hw1 hm
  go_wp2_with fail
  go_ret
  exact ⟨rfl, rfl⟩
theorem hConfig_none (w : World) : Calls Tryz.prog 23 #[.pointer none] w fun e w' => e = .returned (.tuple #[.agg (cfgC cfgZero).toArray, .bool false]) ∧ Keeps [] w w' := by
  have HK := Lib.hid ((Keeps.refl [] w).alloc (.cells #[.int .u8 0, .int .i64 0, .int .i64 0, .int .i64 0, .bool false, .bool false, .bool false] 40))
  have HR := Lib.hid (heap_alloc_new w (.cells #[.int .u8 0, .int .i64 0, .int .i64 0, .int .i64 0, .bool false, .bool false, .bool false] 40))
  have hm := made_none (w.alloc (.cells #[.int .u8 0, .int .i64 0, .int .i64 0, .int .i64 0, .bool false, .bool false, .bool false] 40))
  go_enter Tryz.func23, Tryz.ntmps23
  go_wp2_with fail
  refine hm.mono ?_; rintro e w1 ⟨rfl, hw1⟩
  rw [hw1]
  clear hw1 hm
  go_wp2_with (refine wpList_put_cfg1 cfgZero rfl rfl rfl rfl HR.out rfl ?_)
  intro W hb hk
  go_wp2_with fail
  exact bodyPost_ret (results_cfg2 (g := cfgZero) rfl _ _ _ rfl hb) rfl ⟨rfl, HK.out.trans hk (fun q hq => .inr (by simp at hq; omega))⟩
theorem hPending_zero (w : World) (a : Nat) (hc : w.cell? ⟨a, 0, none⟩ = some (.pointer none)) (c : Int) :
    Calls Tryz.prog 24 #[.pointer (some ⟨a, 0, none⟩), .int .u8 c] w fun e w' => e = .returned (.tuple #[.agg (evC evZero (.slice none 0 0) (.slice none 0 0)), .bool false]) ∧ Keeps [] w w' := by
  have hk0 := (Keeps.refl [] w).alloc (.cells #[.int .u8 0, .int .u8 0, .int .u16 0, .int .u8 0, .int .u8 0, .int .u8 0, .int .u16 0, .int .u16 0, .int .u8 0, .int .u16 0, .slice none 0 0, .slice none 0 0, .int .u8 0, .int .i64 0, .int .i64 0, .int .i64 0, .bool false, .bool false, .bool false] 42)
  have hR := heap_alloc_new w (.cells #[.int .u8 0, .int .u8 0, .int .u16 0, .int .u8 0, .int .u8 0, .int .u8 0, .int .u16 0, .int .u16 0, .int .u8 0, .int .u16 0, .slice none 0 0, .slice none 0 0, .int .u8 0, .int .i64 0, .int .i64 0, .int .i64 0, .bool false, .bool false, .bool false] 42)
  have hm := made_zero _ a (hk0.cell hc (by simp))
  have HK := Lib.hid hk0; have HR := Lib.hid hR
  clear hk0 hR hc
  go_enter Tryz.func24, Tryz.ntmps24
  go_wp2_with fail
  generalize w.alloc _ = W at *
  obtain ⟨B, hB⟩ : ∃ B, B = w.heap.size := ⟨_, rfl⟩
  rw [← hB] at HR ⊢
  have HRE := Lib.hid (show w.heap.size ≤ B from Nat.le_of_eq hB.symm)
  clear hB
  refine hm.mono ?_; rintro e w1 ⟨rfl, hw1⟩
  rw [hw1]
  clear hw1 hm
  have hRb := HR.out
  go_wp2_with (first | ((with_reducible apply wpList_put_ev); exact rfl; exact rfl; (first | assumption | (refine heap_alloc_lt ?_; assumption) | (refine heap_alloc_lt (heap_alloc_lt ?_); assumption) | exact heap_alloc_at (by simp)); exact ⟨rfl, rfl⟩; exact rfl))
  intro W4 h4 k4
  go_wp2_with fail
  exact bodyPost_ret (results_ev2 (x := evZero) (tx := .slice none 0 0) (rd := .slice none 0 0) rfl _ _ _ rfl h4) rfl ⟨rfl, HK.out.trans k4 (fun q hq => .inr (by simp at hq; rw [hq]; exact HRE.out))⟩
end Go.Proofs.YtlaccndjlfpjbaaGreatDoor
