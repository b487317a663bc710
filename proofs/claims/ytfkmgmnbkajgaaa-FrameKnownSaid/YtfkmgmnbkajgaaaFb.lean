/-
  Texts as lists of bytes; the sums, numbers of two bytes.
-/
import Derived.Test.YtfkmgmnbkajgaaaFa
import Derived.Test.YtfkmgmnbkajgaaaAb
namespace Go.Proofs.Ytfkmgmnbkajgaaa
open Go.RowKit
theorem ret_num {k : IntKind} {a b : Int} (h : a = b) : Ending.returned (.int k a) = .returned (.int k b) := by rw [h]
theorem ret_str {a b : ByteArray} (h : a = b) : Ending.returned (.string a) = .returned (.string b) := by rw [h]
theorem ret_pair {a b : ByteArray} {v : Value} (h : a = b) : Ending.returned (.tuple #[.string a, v]) = .returned (.tuple #[.string b, v]) := by rw [h]
/-- Bytes as a text. -/
def bs (l : List UInt8) : ByteArray := ⟨l.toArray⟩
theorem bs_list (l : List UInt8) : (bs l).data.toList = l := by simp [bs]
theorem bs_of (s : ByteArray) : bs s.data.toList = s := by cases s; simp [bs]
theorem bs_size (l : List UInt8) : (bs l).size = l.length := rfl
theorem bs_inj {l m : List UInt8} (h : bs l = bs m) : l = m := by have := congrArg (fun s : ByteArray => s.data.toList) h; simpa [bs_list] using this
theorem bs_app (l m : List UInt8) : bs l ++ bs m = bs (l ++ m) := by
  apply ByteArray.ext; rw [ByteArray.data_append]; simp [bs]
theorem bs_piece (l : List UInt8) (a b : Nat) : (bs l).extract a b = bs ((l.drop a).take (b - a)) := by
  apply ByteArray.ext
  rw [ByteArray.data_extract]
  apply Array.ext'
  simp [bs, List.extract]
theorem piece_list (s : ByteArray) (a b : Nat) : (s.extract a b).data.toList = (s.data.toList.drop a).take (b - a) := by
  rw [ByteArray.data_extract]; simp [List.extract]
theorem rest_list (s : ByteArray) (a : Nat) : (s.extract a s.size).data.toList = s.data.toList.drop a := by
  rw [piece_list, List.take_of_length_le (by simp)]
theorem app_list (s t : ByteArray) : (s ++ t).data.toList = s.data.toList ++ t.data.toList := by rw [ByteArray.data_append]; simp
/-- Bytes as numbers. -/
def nb (l : List UInt8) : List Int := l.map fun b => (b.toNat : Int)
theorem nb_length (l : List UInt8) : (nb l).length = l.length := by simp [nb]
theorem nb_app (l m : List UInt8) : nb (l ++ m) = nb l ++ nb m := by simp [nb]
theorem str_nb (l : List UInt8) : strOfNums (nb l) = bs l := by
  simp [strOfNums, nb, bs, Function.comp_def]
theorem nb_nums (s : ByteArray) : nums s = nb s.data.toList := rfl
theorem nb_getD (l : List UInt8) (i : Nat) : (nb l).getD i 0 = ((l.getD i 0).toNat : Int) := by
  by_cases h : i < l.length
  · simp [nb, List.getD, h]
  · simp [nb, List.getD, List.getElem?_eq_none (by omega : l.length ≤ i)]
theorem take_snoc (s : ByteArray) (k : Nat) (h : k < s.size) : s.data.toList.take (k + 1) = s.data.toList.take k ++ [s[k]] := by
  rw [List.take_succ_eq_append_getElem (by simpa using h)]; rfl
theorem u16_wraps (n : Int) (h0 : 0 ≤ n) (h1 : n < 2 ^ 16) : IntKind.u16.wrap n = n := by
  simp [IntKind.wrap, IntKind.signed, IntKind.bits]; omega
theorem or16_join (x c : Int) (h0 : 0 ≤ x) (h1 : x < 256) (h2 : 0 ≤ c) (h3 : c < 256) : bits .or .u16 (x * 256) c = x * 256 + c :=
  bits_join .u16 16 (by decide) u16_wraps 8 (x * 256) c (by omega) (by omega) (by omega) h2 (by omega) (by omega)

set_option maxHeartbeats 1000000 in
theorem Sum_any (w : World) (s : ByteArray) (hs : s.size ≤ maxLen) :
    Calls Try.prog 12 #[.string s] w fun e w' => e = .returned (.int .u16 (sumN s.data.toList)) ∧ w = w' := by
  unfold maxLen at hs
  go_enter Try.func12, Try.ntmps12
  go_wp2
  go_loop [3, 4, 8] (fun a b i => ∃ k : Nat, k ≤ s.size ∧ i = .int .i64 k ∧ a = .int .u16 (sumP (s.data.toList.take k)).1 ∧ b = .int .u16 (sumP (s.data.toList.take k)).2) (fun _ _ i => s.size - (intOf i).toNat)
  case atStart => exact ⟨0, Nat.zero_le _, rfl, rfl, rfl⟩
  case round =>
    obtain ⟨k, hk, rfl, rfl, rfl⟩ := hrel
    obtain ⟨h1, h2⟩ := sumP_lt (s.data.toList.take k)
    by_cases hlt : k < s.size
    · have hc := s[k].toNat_lt
      have HS : Hid (sumP (s.data.toList.take (k + 1)) = sumStep (sumP (s.data.toList.take k)) s[k]) := by
        rw [take_snoc s k hlt]; exact sumP_snoc _ _
      generalize sumP (s.data.toList.take k) = p at *
      obtain ⟨p1, p2⟩ := p
      simp only at h1 h2
      go_wp2
      go_round
      case rel => exact ⟨k + 1, by omega, by go_num, by rw [HS.out]; rfl, by rw [HS.out]; rfl⟩
      case measure => simp [intOf]; omega
    · have hj := or16_join (sumP (s.data.toList.take k)).2 (sumP (s.data.toList.take k)).1 (by omega) (by omega) (by omega) (by omega)
      have HT : Hid (s.data.toList.take k = s.data.toList) := Lib.hid (List.take_of_length_le (by simp; omega))
      go_wp2
      go_ret
      exact ⟨ret_num (by rw [HT.out]; unfold sumN; omega), rfl⟩

set_option maxHeartbeats 1000000 in
theorem rSum_any (w : World) (s : ByteArray) (hs : s.size ≤ maxLen) :
    Calls Try.prog 13 #[.string s] w fun e w' => e = .returned (.int .i64 (sumN s.data.toList)) ∧ w = w' := by
  unfold maxLen at hs
  go_enter Try.func13, Try.ntmps13
  go_wp2
  go_loop [3, 4, 5] (fun a b i => ∃ k : Nat, k ≤ s.size ∧ i = .int .i64 k ∧ a = .int .i64 (sumP (s.data.toList.take k)).1 ∧ b = .int .i64 (sumP (s.data.toList.take k)).2) (fun _ _ i => s.size - (intOf i).toNat)
  case atStart => exact ⟨0, Nat.zero_le _, rfl, rfl, rfl⟩
  case round =>
    obtain ⟨k, hk, rfl, rfl, rfl⟩ := hrel
    obtain ⟨h1, h2⟩ := sumP_lt (s.data.toList.take k)
    by_cases hlt : k < s.size
    · have hc := s[k].toNat_lt
      have HS : Hid (sumP (s.data.toList.take (k + 1)) = sumStep (sumP (s.data.toList.take k)) s[k]) := by
        rw [take_snoc s k hlt]; exact sumP_snoc _ _
      generalize sumP (s.data.toList.take k) = p at *
      obtain ⟨p1, p2⟩ := p
      simp only at h1 h2
      go_wp2
      go_round
      case rel => exact ⟨k + 1, by omega, by go_num, by rw [HS.out]; rfl, by rw [HS.out]; rfl⟩
      case measure => simp [intOf]; omega
    · have HT : Hid (s.data.toList.take k = s.data.toList) := Lib.hid (List.take_of_length_le (by simp; omega))
      go_wp2
      go_ret
      exact ⟨ret_num (by rw [HT.out]; unfold sumN; omega), rfl⟩
/-- A made slice of two bytes, as a text. -/
theorem two_string (W : World) (x y : Int) : (convert 33 9 (.slice (some ⟨W.heap.size, 0, none⟩) 2 2)).run Try.prog (W.alloc (.cells #[.int .u8 x, .int .u8 y] 5)) = .ok (.string (strOfNums [x, y])) (W.alloc (.cells #[.int .u8 x, .int .u8 y] 5)) := by
  refine run_convert_bytes_arg _ _ _ Try.underlying33 Try.underlying5 W.heap.size 0 2 2 [x, y] (by simp) (fun i hi => ?_) _ Try.underlying9
  match i, hi with
  | 0, _ => simp
  | 1, _ => simp
  | i + 2, hi => exact absurd hi (by omega)
theorem two_nums (m : Nat) (hm : m < 65536) : strOfNums [(m : Int) / 256, (m : Int) % 256] = bs (twoL m) := by
  rw [← str_nb]
  have h : nb (twoL m) = [(m : Int) / 256, (m : Int) % 256] := by
    simp only [nb, twoL, List.map_cons, List.map_nil, UInt8.toNat_ofNat', List.cons.injEq, and_true]
    omega
  rw [h]
set_option maxHeartbeats 1000000 in
theorem pair_any (w : World) (m : Nat) (hm : m < 65536) :
    Calls Try.prog 23 #[.int .u16 m] w fun e w' => e = .returned (.string (bs (twoL m))) ∧ Keeps [] w w' := by
  have hs := two_nums m hm
  have HS := Lib.hid hs; clear hs
  have hcv := fun (W : World) => two_string W ((m : Int) / 256) ((m : Int) % 256)
  go_enter Try.func23, Try.ntmps23
  go_wp2
  go_ret
  exact ⟨ret_str HS.out, (Keeps.refl _ _).alloc _⟩
set_option maxHeartbeats 1000000 in
theorem two_any (w : World) (m : Nat) (hm : m < 65536) :
    Calls Try.prog 24 #[.int .i64 m] w fun e w' => e = .returned (.string (bs (twoL m))) ∧ Keeps [] w w' := by
  have hs := two_nums m hm
  have HS := Lib.hid hs; clear hs
  have hcv := fun (W : World) => two_string W ((m : Int) / 256) ((m : Int) % 256)
  go_enter Try.func24, Try.ntmps24
  go_wp2
  go_ret
  exact ⟨ret_str HS.out, (Keeps.refl _ _).alloc _⟩
theorem xor_all : ∀ m : Fin 601, bits BinOp.xor IntKind.u16 IntKind.u16.max ((m.val : Nat) : Int) = ((65535 - m.val : Nat) : Int) := by decide +kernel
theorem xor_of (m : Nat) (h : m ≤ 600) : bits BinOp.xor IntKind.u16 IntKind.u16.max (m : Int) = ((65535 - m : Nat) : Int) := xor_all ⟨m, by omega⟩
theorem frame_str (p : ByteArray) : bs (twoL p.data.toList.length) ++ bs (twoL (65535 - p.data.toList.length)) ++ p ++ bs (twoL (sumN p.data.toList)) = bs (frameL p.data.toList) := by
  unfold frameL
  rw [← bs_app, ← bs_app, ← bs_app, bs_of]
set_option maxHeartbeats 1000000 in
theorem Put_none (w : World) (s : ByteArray) (h0 : s.size = 0) : Calls Try.prog 10 #[.string s] w fun e w' => e = .returned (.tuple #[.string ⟨#[]⟩, .int .i64 2]) ∧ w = w' := by
  go_enter Try.func10, Try.ntmps10
  go_wp2
  go_ret2
  exact ⟨rfl, rfl⟩
set_option maxHeartbeats 1000000 in
theorem Put_long (w : World) (s : ByteArray) (h6 : 600 < s.size) (hs : s.size ≤ maxLen) : Calls Try.prog 10 #[.string s] w fun e w' => e = .returned (.tuple #[.string ⟨#[]⟩, .int .i64 3]) ∧ w = w' := by
  unfold maxLen at hs
  go_enter Try.func10, Try.ntmps10
  go_wp2
  go_ret2
  exact ⟨rfl, rfl⟩
set_option maxHeartbeats 1000000 in
theorem Put_ok (w : World) (s : ByteArray) (h0 : 0 < s.size) (h6 : s.size ≤ 600) : Calls Try.prog 10 #[.string s] w fun e w' => e = .returned (.tuple #[.string (bs (frameL s.data.toList)), .int .i64 0]) ∧ Keeps [] w w' := by
  have hx := xor_of s.size (by omega)
  have hg : IntKind.u16.signed = false := rfl
  have hl : s.data.toList.length = s.size := by simp
  have HF : Hid (bs (twoL s.size) ++ bs (twoL (65535 - s.size)) ++ s ++ bs (twoL (sumN s.data.toList)) = bs (frameL s.data.toList)) := Lib.hid (by have := frame_str s; rw [hl] at this; exact this)
  clear hl
  obtain ⟨A, HA, hA⟩ : ∃ A : ByteArray, Hid (bs (twoL s.size) = A) ∧ A.size ≤ 2 := ⟨_, Lib.hid rfl, Nat.le_refl _⟩
  obtain ⟨B, HB, hB⟩ : ∃ B : ByteArray, Hid (bs (twoL (65535 - s.size)) = B) ∧ B.size ≤ 2 := ⟨_, Lib.hid rfl, Nat.le_refl _⟩
  obtain ⟨C, HC, hC⟩ : ∃ C : ByteArray, Hid (bs (twoL (sumN s.data.toList)) = C) ∧ C.size ≤ 2 := ⟨_, Lib.hid rfl, Nat.le_refl _⟩
  rw [HA.out, HB.out, HC.out] at HF
  go_enter Try.func10, Try.ntmps10
  go_wp2_with fail
  refine (pair_any _ s.size (by omega)).mono ?_; rintro e w1 ⟨rfl, hk1⟩
  rw [HA.out]
  go_wp2_with fail
  refine (pair_any _ (65535 - s.size) (by omega)).mono ?_; rintro e w2 ⟨rfl, hk2⟩
  rw [HB.out]
  go_wp2_with fail
  refine (Sum_any _ s (by unfold maxLen; omega)).mono ?_; rintro e w3 ⟨rfl, rfl⟩
  go_wp2_with fail
  refine (pair_any _ (sumN s.data.toList) (sumN_lt _)).mono ?_; rintro e w4 ⟨rfl, hk4⟩
  rw [HC.out]
  go_wp2_with fail
  go_ret2
  exact ⟨ret_pair HF.out, (hk1.step hk2 (by simp)).step hk4 (by simp)⟩
set_option maxHeartbeats 1000000 in
theorem rPut_none (w : World) (s : ByteArray) (h0 : s.size = 0) : Calls Try.prog 11 #[.string s] w fun e w' => e = .returned (.tuple #[.string ⟨#[]⟩, .int .i64 2]) ∧ w = w' := by
  go_enter Try.func11, Try.ntmps11
  go_wp2
  go_ret2
  exact ⟨rfl, rfl⟩
set_option maxHeartbeats 1000000 in
theorem rPut_long (w : World) (s : ByteArray) (h6 : 600 < s.size) (hs : s.size ≤ maxLen) : Calls Try.prog 11 #[.string s] w fun e w' => e = .returned (.tuple #[.string ⟨#[]⟩, .int .i64 3]) ∧ w = w' := by
  unfold maxLen at hs
  go_enter Try.func11, Try.ntmps11
  go_wp2
  go_ret2
  exact ⟨rfl, rfl⟩
set_option maxHeartbeats 1000000 in
theorem rPut_ok (w : World) (s : ByteArray) (h0 : 0 < s.size) (h6 : s.size ≤ 600) : Calls Try.prog 11 #[.string s] w fun e w' => e = .returned (.tuple #[.string (bs (frameL s.data.toList)), .int .i64 0]) ∧ Keeps [] w w' := by
  have hl : s.data.toList.length = s.size := by simp
  have HF : Hid (bs (twoL s.size) ++ bs (twoL (65535 - s.size)) ++ s ++ bs (twoL (sumN s.data.toList)) = bs (frameL s.data.toList)) := Lib.hid (by have := frame_str s; rw [hl] at this; exact this)
  clear hl
  have HX : Hid (((65535 - s.size : Nat) : Int) = 65535 - (s.size : Int)) := Lib.hid (by omega)
  obtain ⟨A, HA, hA⟩ : ∃ A : ByteArray, Hid (bs (twoL s.size) = A) ∧ A.size ≤ 2 := ⟨_, Lib.hid rfl, Nat.le_refl _⟩
  obtain ⟨B, HB, hB⟩ : ∃ B : ByteArray, Hid (bs (twoL (65535 - s.size)) = B) ∧ B.size ≤ 2 := ⟨_, Lib.hid rfl, Nat.le_refl _⟩
  obtain ⟨C, HC, hC⟩ : ∃ C : ByteArray, Hid (bs (twoL (sumN s.data.toList)) = C) ∧ C.size ≤ 2 := ⟨_, Lib.hid rfl, Nat.le_refl _⟩
  rw [HA.out, HB.out, HC.out] at HF
  go_enter Try.func11, Try.ntmps11
  go_wp2_with fail
  refine (two_any _ s.size (by omega)).mono ?_; rintro e w1 ⟨rfl, hk1⟩
  rw [HA.out]
  go_wp2_with fail
  rw [← HX.out]
  refine (two_any _ (65535 - s.size) (by omega)).mono ?_; rintro e w2 ⟨rfl, hk2⟩
  rw [HB.out]
  go_wp2_with fail
  refine (rSum_any _ s (by unfold maxLen; omega)).mono ?_; rintro e w3 ⟨rfl, rfl⟩
  go_wp2_with fail
  refine (two_any _ (sumN s.data.toList) (sumN_lt _)).mono ?_; rintro e w4 ⟨rfl, hk4⟩
  rw [HC.out]
  go_wp2_with fail
  go_ret2
  exact ⟨ret_pair HF.out, (hk1.step hk2 (by simp)).step hk4 (by simp)⟩
end Go.Proofs.Ytfkmgmnbkajgaaa
