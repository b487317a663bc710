/-
  The document's Put, digits and Text.
-/
import Derived.Test.YtgdbhblapdhlmaaDoorHb
import Derived.Test.YtgdbhblapdhlmaaDoorBa
namespace Go.Proofs.YtgdbhblapdhlmaaDoor
open Go.RowKit
set_option maxHeartbeats 1000000 in
theorem r3Put_one (w : World) (v : Int) (v0 : 0 ≤ v) (v1 : v < 65536) :
    Calls Tryd.prog 9 #[.agg #[.int .u8 1, .int .u16 v]] w fun e w' => e = .returned (.tuple #[.string (strOfNums [1, v / 256, v % 256]), .int .i64 0]) ∧ Keeps [] w w' := by
  have hc := fun w => Good_any w 1 v (by omega) (by omega)
  rw [show rsGood 1 v = true by simp [rsGood]] at hc
  have hs : (strOfNums (be2 (v % 65536))).size ≤ 2 := by rw [strOfNums_size]; simp [be2]
  have ha : (⟨#[1]⟩ : ByteArray) ++ strOfNums (be2 (v % 65536)) = strOfNums [1, v / 256, v % 256] := by
    rw [Int.emod_eq_of_lt v0 v1]
    show strOfNums [1] ++ strOfNums (be2 v) = _
    rw [← strOfNums_append]; rfl
  rw [← ha]
  have hn := fun w => refNumber_2 w v v0 (by omega)
  generalize strOfNums (be2 (v % 65536)) = S at *
  clear ha
  go_enter Tryd.func9, Tryd.ntmps9
  go_wp2_with fail
  refine (hc _).mono ?_; rintro e w1 ⟨rfl, hk1⟩
  have hb := boxed2 hk1
  replace hk1 := ((Keeps.refl [] w).alloc _).trans hk1 (FSub.refl _ _)
  obtain ⟨c0, c1, hlt⟩ := cell2 hb
  clear hb
  go_wp2_with fail
  refine (hn _).mono ?_; rintro e w2 ⟨rfl, hk2⟩
  go_wp2_with fail
  go_ret2
  exact ⟨rfl, hk1.trans hk2 (FSub.refl _ _)⟩
set_option maxHeartbeats 1000000 in
theorem r3Put_word (w : World) (k : Int) (h0 : 0 ≤ k) (h4 : k ≤ 4) (h1 : k ≠ 1) :
    Calls Tryd.prog 9 #[.agg #[.int .u8 k, .int .u16 0]] w fun e w' => e = .returned (.tuple #[.string (strOfNums [k]), .int .i64 0]) ∧ Keeps [] w w' := by
  have hc := fun w => Good_any w k 0 h0 (by omega)
  rw [show rsGood k 0 = true by simp [rsGood, h4]] at hc
  have hq1 : (k == 1) = false := by simpa using h1
  have ha : strOfNums (be1 (k % 256)) = strOfNums [k] := by rw [Int.emod_eq_of_lt h0 (by omega)]; rfl
  go_enter Tryd.func9, Tryd.ntmps9
  go_wp2_with fail
  refine (hc _).mono ?_; rintro e w1 ⟨rfl, hk1⟩
  have hb := boxed2 hk1
  replace hk1 := ((Keeps.refl [] w).alloc _).trans hk1 (FSub.refl _ _)
  obtain ⟨c0, c1, hlt⟩ := cell2 hb
  clear hb
  go_wp2_with fail
  refine (refNumber_1 _ k h0 (by omega)).mono ?_; rintro e w2 ⟨rfl, hk2⟩
  rw [ha]
  go_wp2_with fail
  go_ret2
  exact ⟨rfl, hk1.trans hk2 (FSub.refl _ _)⟩
set_option maxHeartbeats 1000000 in
theorem r3Put_bad (w : World) (k v : Int) (h0 : 0 ≤ k) (h1 : k < 256) (hg : rsGood k v = false) :
    Calls Tryd.prog 9 #[.agg #[.int .u8 k, .int .u16 v]] w fun e w' => e = .returned (.tuple #[.string ⟨#[]⟩, .int .i64 4]) ∧ Keeps [] w w' := by
  have hc := fun w => Good_any w k v h0 h1
  rw [hg] at hc
  go_enter Tryd.func9, Tryd.ntmps9
  go_wp2_with fail
  refine (hc _).mono ?_; rintro e w1 ⟨rfl, hk1⟩
  go_wp2_with fail
  go_ret2
  exact ⟨rfl, ((Keeps.refl _ _).alloc _).trans hk1 (FSub.refl _ _)⟩
theorem r3Put_any (w : World) (k v : Int) (h0 : 0 ≤ k) (h1 : k < 256) (v0 : 0 ≤ v) (v1 : v < 65536) :
    Calls Tryd.prog 9 #[.agg #[.int .u8 k, .int .u16 v]] w fun e w' => e = .returned (.tuple #[.string (if rsGood k v then strOfNums (rsPut k v) else ⟨#[]⟩), .int .i64 (rsErr k v)]) ∧ Keeps [] w w' := by
  by_cases hg : rsGood k v = true
  · rw [rsErr_good hg, if_pos hg]
    rcases good_cases h0 hg with rfl | ⟨rfl, h⟩
    · exact r3Put_one w v v0 v1
    · have e : rsPut k 0 = [k] := by unfold rsPut; rw [if_neg (by omega)]
      rw [e]
      exact r3Put_word w k h0 (by omega) (by omega)
  · rw [rsErr_bad (by simpa using hg), if_neg hg]
    exact r3Put_bad w k v h0 h1 (by simpa using hg)

theorem one_digit (c : Nat) : strOfNums [48 + (c : Int) % 10] = bs [UInt8.ofNat (48 + c % 10)] := by
  have : (48 + (c : Int) % 10).toNat = 48 + c % 10 := by omega
  simp [strOfNums, bs, this]
set_option maxHeartbeats 1000000 in
theorem digits_any (w : World) (m : Nat) (hm : m < 4294967296) : Calls Tryd.prog 33 #[.int .u32 m] w fun e w' => e = .returned (.string (bs (Lib.decDigits m))) ∧ Keeps [] w w' := by
  have hlen := dec_length_le 9 m (by omega)
  go_enter Tryd.func33, Tryd.ntmps33
  go_wp2_with fail
  go_loopw [0, 3] (fun n s wr => ∃ (c : Nat) (t : List UInt8), n = .int .u32 c ∧ s = .string (bs t) ∧ Lib.decDigits c ++ t = Lib.decDigits m ∧ c ≤ m ∧ Keeps [] w wr) (fun n _ _ => (intOf n).toNat)
  case atStart => exact ⟨m, [], rfl, rfl, by simp, Nat.le_refl _, Keeps.refl _ _⟩
  case round =>
    obtain ⟨c, t, rfl, rfl, ht, hcm, hk⟩ := hrel
    have htl : t.length ≤ 10 := by have := congrArg List.length ht; rw [List.length_append] at this; omega
    have hs1 : (bs t).size ≤ 10 := by rw [bs_size]; exact htl
    have hcv := one_string wr (48 + (c : Int) % 10)
    have hs2 : (strOfNums [48 + (c : Int) % 10]).size ≤ 1 := by rw [strOfNums_size]; simp
    have e2 : strOfNums [48 + (c : Int) % 10] ++ bs t = bs (UInt8.ofNat (48 + c % 10) :: t) := by rw [one_digit, bs_app]; rfl
    have E2 := Lib.hid e2; clear e2
    generalize hT : strOfNums [48 + (c : Int) % 10] = T at *
    generalize hS : bs t = S at *
    clear hT hS
    by_cases hlt : c < 10
    · have e3 : UInt8.ofNat (48 + c % 10) :: t = Lib.decDigits m := by rw [← ht, dec_small hlt]; rfl
      rw [e3] at E2
      have hq : (c : Int) / 10 = 0 := by omega
      clear e3
      go_wp2_with fail
      go_ret
      exact ⟨by rw [← E2.out]; rfl, hk.alloc _⟩
    · have e3 : Lib.decDigits (c / 10) ++ (UInt8.ofNat (48 + c % 10) :: t) = Lib.decDigits m := by rw [← ht, dec_big hlt]; simp
      have hq : ((c : Int) / 10 == 0) = false := by simp; omega
      go_wp2_with fail
      go_roundw
      case rel => exact ⟨c / 10, _, by congr 1, by rw [← E2.out], e3, by omega, hk.alloc _⟩
      case measure => simp [intOf]; omega
end Go.Proofs.YtgdbhblapdhlmaaDoor
