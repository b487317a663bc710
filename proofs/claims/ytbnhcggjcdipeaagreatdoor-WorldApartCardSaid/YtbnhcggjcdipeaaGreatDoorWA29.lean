/-
  The program's register: New, Idle, Encode, Decode; all of it as one value.
-/
import Derived.WalkMore
import Derived.Test.YtbnhcggjcdipeaaGreatDoorWA28
set_option linter.unusedSimpArgs false
set_option linter.unusedVariables false
namespace Go.Proofs.YtbnhcggjcdipeaaGreatDoor
set_option maxRecDepth 100000
open Go.RowKit Go.Maps
set_option maxHeartbeats 8000000
set_option maxRecDepth 100000
theorem rgNew_any (w : World) : Calls Tryz.prog 88 #[] w fun e w' => e = .returned (.int .u16 0) ∧ Keeps [] w w' := by
  go_enter Tryz.func88, Tryz.ntmps88
  go_wp2_with fail
  go_ret
  exact ⟨rfl, Keeps.refl _ _⟩
theorem rgIdle_any (w : World) (f : Int) : Calls Tryz.prog 97 #[.int .u8 f] w fun e w' => e = .returned (.bool (decide (f = 1))) ∧ Keeps [] w w' := by
  go_enter Tryz.func97, Tryz.ntmps97
  go_wp2_with fail
  go_ret
  exact ⟨by congr 2, Keeps.refl _ _⟩
theorem two_str9 (W : World) (x y : Int) : (convert 109 9 (.slice (some ⟨W.heap.size, 0, none⟩) 2 2)).run Tryz.prog (W.alloc (.cells #[.int .u8 x, .int .u8 y] 5)) = .ok (.string (strOfNums [x, y])) (W.alloc (.cells #[.int .u8 x, .int .u8 y] 5)) := by
  refine run_convert_bytes_arg _ _ _ Tryz.underlying109 Tryz.underlying5 W.heap.size 0 2 2 [x, y] (by simp) (fun i hi => ?_) _ Tryz.underlying9
  match i, hi with
  | 0, _ => simp
  | 1, _ => simp
  | i + 2, hi => exact absurd hi (by omega)
theorem two_nums9 {s : Int} (h : 0 ≤ s ∧ s < 65536) : strOfNums [s / 256, s % 256] = bs (rgB s) := by
  rw [← str_nb]
  have e : nb (rgB s) = [s / 256, s % 256] := by
    simp only [nb, rgB, List.map_cons, List.map_nil, UInt8.toNat_ofNat', List.cons.injEq, and_true]
    omega
  rw [e]
theorem rgEncode_any (w : World) (s : Int) (hs : 0 ≤ s ∧ s < 65536) : Calls Tryz.prog 93 #[.int .u16 s] w fun e w' => e = .returned (.string (bs (rgB s))) ∧ Keeps [] w w' := by
  have HS := Lib.hid (two_nums9 hs)
  have hcv := fun (W : World) => two_str9 W (s / 256) (s % 256)
  go_enter Tryz.func93, Tryz.ntmps93
  go_wp2_with fail
  go_ret
  exact ⟨by rw [HS.out]; rfl, (Keeps.refl _ _).alloc _⟩
theorem u16_wraps9 (n : Int) (h0 : 0 ≤ n) (h1 : n < 2 ^ 16) : IntKind.u16.wrap n = n := by
  simp [IntKind.wrap, IntKind.signed, IntKind.bits]; omega
theorem or16_join9 (x c : Nat) (h1 : x < 256) (h3 : c < 256) : bits .or .u16 ((x : Int) * 256) (c : Int) = (x : Int) * 256 + c :=
  bits_join .u16 16 (by decide) u16_wraps9 8 ((x : Int) * 256) c (by omega) (by omega) (by omega) (by omega) (by omega) (by omega)
theorem str_index9 (w : World) (x y : UInt8) : (Instr.index 9 (.string (bs [x, y])) (.int .i64 0)).run Tryz.prog w = .ok (.int .u8 x.toNat) w ∧ (Instr.index 9 (.string (bs [x, y])) (.int .i64 1)).run Tryz.prog w = .ok (.int .u8 y.toNat) w := by
  constructor
  · simp [Instr.index, run_underlying Tryz.underlying9, bs, asIntOf, part, go_sem]
    rfl
  · simp [Instr.index, run_underlying Tryz.underlying9, bs, asIntOf, part, go_sem]
    rfl
theorem rgDecode_any (w : World) (l : List UInt8) (hl : l.length ≤ 1000) : Calls Tryz.prog 96 #[.string (bs l)] w fun e w' => ∃ q, e = .returned (.tuple #[.int .u16 q, .int .i64 (if l.length = 2 then 0 else 4)]) ∧ (l.length = 2 → q = rgN l) ∧ (0 ≤ q ∧ q < 65536) ∧ Keeps [] w w' := by
  by_cases h2 : l.length = 2
  · obtain ⟨x, y, rfl⟩ : ∃ x y, l = [x, y] := by
      match l, h2 with
      | [x, y], _ => exact ⟨x, y, rfl⟩
    have hj := or16_join9 x.toNat y.toNat x.toNat_lt y.toNat_lt
    have hx := x.toNat_lt; have hy := y.toNat_lt
    have hi0 := fun w => (str_index9 w x y).1
    have hi1 := fun w => (str_index9 w x y).2
    clear hl h2
    go_enter Tryz.func96, Tryz.ntmps96
    go_wp2_with fail
    go_quiet (fail)
    go_wp2_with fail
    go_ret2
    exact ⟨_, rfl, rfl, ⟨by omega, by omega⟩, (Keeps.refl _ _).drewN _⟩
  · have hs : (bs l).size = l.length := by simp [bs, ByteArray.size]
    have t2 : (((bs l).size : Int) != 2) = true := by rw [hs]; simp; omega
    have H2 := Lib.hid h2
    clear h2 hs
    generalize bs l = B at *
    go_enter Tryz.func96, Tryz.ntmps96
    go_wp2_with fail
    go_ret2
    exact ⟨0, rfl, ⟨Int.le_refl _, by decide⟩, Keeps.refl _ _⟩
end Go.Proofs.YtbnhcggjcdipeaaGreatDoor
