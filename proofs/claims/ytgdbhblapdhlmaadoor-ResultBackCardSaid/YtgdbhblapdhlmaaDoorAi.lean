/-
  Bytes as numbers.
-/
import Derived.Test.YtgdbhblapdhlmaaDoorAh
namespace Go.Proofs.YtgdbhblapdhlmaaDoor
open Go.RowKit
theorem u32_wraps (n : Int) (h0 : 0 ≤ n) (h1 : n < 2 ^ 32) : IntKind.u32.wrap n = n := by
  simp [IntKind.wrap, IntKind.signed, IntKind.bits]; omega
theorem or_zero (c : Int) (h2 : 0 ≤ c) (h3 : c < 256) : bits .or .u32 0 c = c := by
  have := bits_join .u32 32 (by decide) u32_wraps 8 0 c (by omega) (by omega) (by omega) h2 (by omega) (by omega)
  simpa using this
theorem or_join (x c : Int) (h0 : 0 ≤ x) (h1 : x < 16777216) (h2 : 0 ≤ c) (h3 : c < 256) : bits .or .u32 (x * 256) c = x * 256 + c :=
  bits_join .u32 32 (by decide) u32_wraps 8 (x * 256) c (by omega) (by omega) (by omega) h2 (by omega) (by omega)
set_option maxHeartbeats 400000 in
theorem join16_two (w : World) (g o c : Nat) (x0 x1 : Int) (a0 : 0 ≤ x0) (a1 : x0 < 256) (b0 : 0 ≤ x1) (b1 : x1 < 256) (c0 : w.cell? ⟨g, o, none⟩ = some (.int .u8 x0)) (c1 : w.cell? ⟨g, o + 1, none⟩ = some (.int .u8 x1)) :
    Calls Tryd.prog 59 #[.slice (some ⟨g, o, none⟩) 2 c] w fun x w' => x = .returned (.int .u16 (x0 * 256 + x1)) ∧ w = w' := by
  have o1 := or_join x0 x1 a0 (by omega) b0 b1
  have o0 := or_zero x0 a0 a1
  have z1 : 0 ≤ x0 * 256 := by omega
  have z2 : x0 * 256 < 65536 := by omega
  have z3 : 0 ≤ x0 * 256 + x1 := by omega
  have z4 : x0 * 256 + x1 < 65536 := by omega
  go_enter Tryd.func59, Tryd.ntmps59
  go_wp2_with fail
  refine wp_loop_rounds 3 ?_
  rw [rounds_succ]
  go_wp2_with fail
  rw [rounds_succ]
  go_wp2_with fail
  rw [rounds_succ]
  go_wp2_with fail
  go_ret
  exact ⟨rfl, rfl⟩
set_option maxHeartbeats 400000 in
theorem join8_one (w : World) (g o c : Nat) (x0 : Int) (a0 : 0 ≤ x0) (a1 : x0 < 256) (c0 : w.cell? ⟨g, o, none⟩ = some (.int .u8 x0)) :
    Calls Tryd.prog 57 #[.slice (some ⟨g, o, none⟩) 1 c] w fun x w' => x = .returned (.int .u8 x0) ∧ w = w' := by
  have o0 := or_zero x0 a0 a1
  go_enter Tryd.func57, Tryd.ntmps57
  go_wp2_with fail
  refine wp_loop_rounds 2 ?_
  rw [rounds_succ]
  go_wp2_with fail
  rw [rounds_succ]
  go_wp2_with fail
  go_ret
  exact ⟨rfl, rfl⟩
set_option maxHeartbeats 400000 in
theorem join8_nil (w : World) : Calls Tryd.prog 57 #[.slice none 0 0] w fun x w' => x = .returned (.int .u8 0) ∧ w = w' := by
  go_enter Tryd.func57, Tryd.ntmps57
  go_wp2_with fail
  refine wp_loop_rounds 1 ?_
  rw [rounds_succ]
  go_wp2_with fail
  go_ret
  exact ⟨rfl, rfl⟩
set_option maxHeartbeats 400000 in
theorem join16_nil (w : World) : Calls Tryd.prog 59 #[.slice none 0 0] w fun x w' => x = .returned (.int .u16 0) ∧ w = w' := by
  go_enter Tryd.func59, Tryd.ntmps59
  go_wp2_with fail
  refine wp_loop_rounds 1 ?_
  rw [rounds_succ]
  go_wp2_with fail
  go_ret
  exact ⟨rfl, rfl⟩
end Go.Proofs.YtgdbhblapdhlmaaDoor
