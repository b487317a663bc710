/-
  The document's answer: numbers and lists as texts.
-/
import Derived.Test.YtgdbhblapdhlmaaDoorAk
namespace Go.Proofs.YtgdbhblapdhlmaaDoor
open Go.RowKit
theorem strOfNums_append (a b : List Int) : strOfNums (a ++ b) = strOfNums a ++ strOfNums b := by
  apply ByteArray.ext
  simp [strOfNums]
theorem one_string (W : World) (x : Int) : (convert 46 9 (.slice (some ⟨W.heap.size, 0, none⟩) 1 1)).run Tryd.prog (W.alloc (.cells #[.int .u8 x] 5)) = .ok (.string (strOfNums [x])) (W.alloc (.cells #[.int .u8 x] 5)) := by
  refine run_convert_bytes_arg _ _ _ Tryd.underlying46 Tryd.underlying5 W.heap.size 0 1 1 [x] rfl (fun i hi => ?_) _ Tryd.underlying9
  obtain rfl : i = 0 := by omega
  simp
/-- The last k bytes of a number, the highest first. -/
def lastBytes : Nat → Int → List Int
  | 0, _ => []
  | k + 1, m => (m / 256 ^ k % 256) :: lastBytes k m
theorem lastBytes_length : ∀ (k : Nat) (m : Int), (lastBytes k m).length = k
  | 0, _ => rfl
  | k + 1, m => by simp [lastBytes, lastBytes_length k m]
theorem lastBytes_1 (m : Int) : lastBytes 1 m = be1 (m % 256) := by simp [lastBytes, be1]
theorem lastBytes_2 (m : Int) : lastBytes 2 m = be2 (m % 65536) := by
  simp only [lastBytes, be2, List.cons.injEq, and_true]
  constructor
  · omega
  · omega
theorem lastBytes_4 (m : Int) : lastBytes 4 m = be4 (m % 4294967296) := by
  simp only [lastBytes, be4, List.cons.injEq, and_true]
  refine ⟨?_, ?_, ?_, ?_⟩ <;> omega
theorem div_step (m : Int) (k : Nat) : m / 256 ^ k / 256 = m / 256 ^ (k + 1) := by
  rw [Int.ediv_ediv_of_nonneg (Int.pow_nonneg (by omega)), Int.pow_succ]
theorem div_bound (m : Int) (k : Nat) (h0 : 0 ≤ m) (h1 : m < 4294967296) : 0 ≤ m / 256 ^ k ∧ m / 256 ^ k < 4294967296 := by
  have hp : (0 : Int) < 256 ^ k := Int.pow_pos (by omega)
  refine ⟨Int.ediv_nonneg h0 (Int.le_of_lt hp), Int.lt_of_le_of_lt (Int.ediv_le_self _ h0) h1⟩
set_option maxHeartbeats 400000 in
theorem refNumber_any (w : World) (m : Int) (h0 : 0 ≤ m) (h1 : m < 4294967296) (W : Nat) (hW : W ≤ 4) : Calls Tryd.prog 31 #[.int .u32 m, .int .i64 W] w fun e w' => e = .returned (.string (strOfNums (lastBytes W m))) ∧ Keeps [] w w' := by
  go_enter Tryd.func31, Tryd.ntmps31
  go_wp2_with fail
  go_loopw [0, 5, 6] (fun n s i wr => ∃ k : Nat, k ≤ W ∧ i = .int .i64 k ∧ n = .int .u32 (m / 256 ^ k) ∧ s = .string (strOfNums (lastBytes k m)) ∧ Keeps [] w wr) (fun _ _ i _ => W - (intOf i).toNat)
  case atStart => exact ⟨0, Nat.zero_le _, rfl, by simp, rfl, Keeps.refl _ _⟩
  case round =>
    obtain ⟨k, hk, rfl, rfl, rfl, hkp⟩ := hrel
    by_cases hlt : k < W
    · have hb := div_bound m k h0 h1
      have hs1 : (strOfNums (lastBytes k m)).size ≤ 4 := by rw [strOfNums_size, lastBytes_length]; omega
      have e1 := div_step m k
      have e2 : strOfNums [m / 256 ^ k % 256] ++ strOfNums (lastBytes k m) = strOfNums (lastBytes (k + 1) m) := by
        rw [← strOfNums_append]; rfl
      have E1 := Lib.hid e1; have E2 := Lib.hid e2; clear e1 e2
      have hcv := one_string wr (m / 256 ^ k % 256)
      have hs2 : (strOfNums [m / 256 ^ k % 256]).size ≤ 1 := by rw [strOfNums_size]; simp
      generalize hT : strOfNums [m / 256 ^ k % 256] = T at *
      generalize hS : strOfNums (lastBytes k m) = S at *
      generalize hD : m / 256 ^ k = D at *
      have hb1 := hb.1
      have hb2 := hb.2
      clear hT hS hD hb
      go_wp2_with fail
      go_roundw
      case rel => exact ⟨k + 1, by omega, by go_num, by rw [← E1.out], by rw [← E2.out], hkp.alloc _⟩
      case measure => simp [intOf]; omega
    · obtain rfl : k = W := by omega
      go_wp2_with fail
      go_ret
      exact ⟨rfl, hkp⟩
theorem refNumber_1 (w : World) (m : Int) (h0 : 0 ≤ m) (h1 : m < 4294967296) : Calls Tryd.prog 31 #[.int .u32 m, .int .i64 1] w fun e w' => e = .returned (.string (strOfNums (be1 (m % 256)))) ∧ Keeps [] w w' := by
  rw [← lastBytes_1]; exact refNumber_any w m h0 h1 1 (by omega)
theorem refNumber_2 (w : World) (m : Int) (h0 : 0 ≤ m) (h1 : m < 4294967296) : Calls Tryd.prog 31 #[.int .u32 m, .int .i64 2] w fun e w' => e = .returned (.string (strOfNums (be2 (m % 65536)))) ∧ Keeps [] w w' := by
  rw [← lastBytes_2]; exact refNumber_any w m h0 h1 2 (by omega)
theorem refNumber_4 (w : World) (m : Int) (h0 : 0 ≤ m) (h1 : m < 4294967296) : Calls Tryd.prog 31 #[.int .u32 m, .int .i64 4] w fun e w' => e = .returned (.string (strOfNums (be4 (m % 4294967296)))) ∧ Keeps [] w w' := by
  rw [← lastBytes_4]; exact refNumber_any w m h0 h1 4 (by omega)
end Go.Proofs.YtgdbhblapdhlmaaDoor
