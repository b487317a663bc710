/-
  Small contracts over the program's leaves: how wide a number is.
-/
import Derived.Test.YtbnhcggjcdipeaaGreatDoorRows
import Derived.WalkKit
import Derived.WalkSpells
import Derived.WalkLawsBesides
set_option linter.unusedSimpArgs false
set_option linter.unusedVariables false
namespace Go.Proofs.YtbnhcggjcdipeaaGreatDoor
open Go.RowKit
set_option maxHeartbeats 400000 in
set_option maxRecDepth 100000 in
theorem len_16 (w : World) : Calls Tryz.prog 209 #[.int .u32 65535] w fun e w' => e = .returned (.int .i64 16) ∧ w = w' := by
  go_enter Tryz.func209, Tryz.ntmps209
  go_wp2
  go_ret
  exact ⟨by kernel_rfl, rfl⟩
set_option maxHeartbeats 400000 in
set_option maxRecDepth 100000 in
theorem len_8 (w : World) : Calls Tryz.prog 209 #[.int .u32 255] w fun e w' => e = .returned (.int .i64 8) ∧ w = w' := by
  go_enter Tryz.func209, Tryz.ntmps209
  go_wp2
  go_ret
  exact ⟨by kernel_rfl, rfl⟩
set_option maxHeartbeats 400000 in
theorem wid16_any (w : World) : Calls Tryz.prog 205 #[] w fun e w' => e = .returned (.int .i64 2) ∧ w = w' := by
  have hs : IntKind.u16.signed = false := rfl
  have hx : bits BinOp.xor IntKind.u16 IntKind.u16.max 0 = 65535 := by decide +kernel
  go_enter Tryz.func205, Tryz.ntmps205
  go_wp2_with fail
  refine (len_16 _).mono ?_; rintro e w' ⟨rfl, rfl⟩
  go_wp2
  go_ret
  exact ⟨rfl, rfl⟩
set_option maxHeartbeats 400000 in
theorem wid8_any (w : World) : Calls Tryz.prog 204 #[] w fun e w' => e = .returned (.int .i64 1) ∧ w = w' := by
  have hs : IntKind.u8.signed = false := rfl
  have hx : bits BinOp.xor IntKind.u8 IntKind.u8.max 0 = 255 := by decide +kernel
  go_enter Tryz.func204, Tryz.ntmps204
  go_wp2_with fail
  refine (len_8 _).mono ?_; rintro e w' ⟨rfl, rfl⟩
  go_wp2
  go_ret
  exact ⟨rfl, rfl⟩
end Go.Proofs.YtbnhcggjcdipeaaGreatDoor
