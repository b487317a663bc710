/-
  The document's answer for what bytes begin with.
-/
import Derived.Test.YtfkmgmnbkajgaaaFk
import Derived.IntWalk
import Derived.Deep.RegionWith
import Derived.Deep.RegionHeld3
namespace Go.Proofs.Ytfkmgmnbkajgaaa
open Go.RowKit
theorem at_str (s : ByteArray) (i : Nat) (h : i < s.size) : s[i] = s.data.toList.getD i 0 := by
  have h' : i < s.data.toList.length := by simpa using h
  simp [List.getD, h]
  rfl
theorem piece_str (s : ByteArray) (i m : Nat) (h : i + 1 < s.size) (hm : m < 65536) : s.extract i (i + 2) = bs (twoL m) ↔ numAt s.data.toList i = m := by
  have h' : i + 1 < s.data.toList.length := by simpa using h
  rw [← piece_iff _ _ _ h' hm]
  have e : s.extract i (i + 2) = bs ((s.data.toList.drop i).take 2) := by
    have := bs_piece s.data.toList i (i + 2)
    rw [bs_of] at this
    rw [this]; congr 2; omega
  rw [e]
  exact ⟨bs_inj, fun h => by rw [h]⟩
theorem list_beq (a b : ByteArray) : (a.toList == b.toList) = decide (a = b) := by
  rw [ByteArray.toList_eq, ByteArray.toList_eq]
  by_cases e : a = b
  · subst e; simp
  · have e2 : ¬ a.data.toList = b.data.toList := fun x => e (by rw [← bs_of a, ← bs_of b, x])
    simp only [e, decide_false]
    exact beq_eq_false_iff_ne.2 e2
theorem piece_ne (s : ByteArray) (i m : Nat) (b : Bool) (h : i + 1 < s.size) (hm : m < 65536) (hb : decide (numAt s.data.toList i = m) = b) : ((s.extract i (i + 2)).toList == (bs (twoL m)).toList) = b := by
  subst hb
  have := piece_str s i m h hm
  rw [list_beq]
  exact decide_eq_decide.2 this
theorem two_int (w : World) (m : Int) (h0 : 0 ≤ m) (h1 : m < 65536) : Calls Try.prog 24 #[.int .i64 m] w fun e w' => e = .returned (.string (bs (twoL m.toNat))) ∧ Keeps [] w w' := by
  obtain ⟨n, rfl⟩ := Int.eq_ofNat_of_zero_le h0
  exact two_any w n (by omega)
set_option maxHeartbeats 1000000 in
theorem First_short (w : World) (s : ByteArray) (h : s.size < 4) :
    Calls Try.prog 29 #[.string s] w fun e w' => e = .returned (.tuple #[.string ⟨#[]⟩, .int .i64 0, .int .i64 0]) ∧ w = w' := by
  go_enter Try.func29, Try.ntmps29
  go_wp2
  go_ret3
  exact ⟨rfl, rfl⟩
set_option maxHeartbeats 1000000 in
theorem First_head (w : World) (s : ByteArray) (h : ¬ s.size < 4) (hs : s.size ≤ 1000000) (h2 : headBad s.data.toList) :
    Calls Try.prog 29 #[.string s] w fun e w' => e = .returned (.tuple #[.string ⟨#[]⟩, .int .i64 0, .int .i64 2]) ∧ Keeps [] w w' := by
  have hs0 : 0 < s.size := by omega
  have hs1 : 1 < s.size := by omega
  obtain ⟨x0, hx0⟩ : ∃ x : Nat, (s[0]'(by omega)).toNat = x := ⟨_, rfl⟩
  obtain ⟨x1, hx1⟩ : ∃ x : Nat, (s[1]'(by omega)).toNat = x := ⟨_, rfl⟩
  have hn : numAt s.data.toList 0 = 256 * x0 + x1 := by rw [numAt, ← hx0, ← hx1, at_str, at_str]
  have b0 : x0 < 256 := by rw [← hx0]; exact UInt8.toNat_lt _
  have b1 : x1 < 256 := by rw [← hx1]; exact UInt8.toNat_lt _
  have hp := piece_ne s 2 (65535 - numAt s.data.toList 0) _ (by omega) (by omega) rfl
  unfold headBad at h2
  generalize hq : numAt s.data.toList 2 = q at *
  generalize hN : numAt s.data.toList 0 = n at *
  have hnn : 256 * (x0 : Int) + x1 = n := by omega
  have HN := Lib.hid hnn; clear hnn
  have hw1 : IntKind.i64.wrap (256 * (x0 : Int)) = 256 * (x0 : Int) := IntWalk.i64_in _ ⟨by omega, by omega⟩
  rw [show 2 + 2 = 4 from rfl] at hp
  by_cases hn1 : n < 1
  · have hb1 : decide ((n : Int) < 1) = true := by simp; omega
    go_enter Try.func29, Try.ntmps29
    go_wp2_with fail
    go_quiet (fail)
    rw [HN.out]
    clear hw1 hn hx0 hx1 hp hq hN
    go_wp2_with fail
    go_quiet (fail)
    go_wp2_with fail
    go_ret3
    exact ⟨rfl, ((Keeps.refl _ _).drewN _).drewN _⟩
  · have hb1 : decide ((n : Int) < 1) = false := by simp; omega
    by_cases hn6 : 600 < n
    · have hb6 : decide ((600 : Int) < n) = true := by simp; omega
      go_enter Try.func29, Try.ntmps29
      go_wp2_with fail
      go_quiet (fail)
      rw [HN.out]
      clear hw1 hn hx0 hx1 hp hq hN
      go_wp2_with fail
      go_quiet (fail)
      go_wp2_with fail
      go_ret3
      exact ⟨rfl, ((Keeps.refl _ _).drewN _).drewN _⟩
    · have hb6 : decide ((600 : Int) < n) = false := by simp; omega
      have hqn : decide (q = 65535 - n) = false := by simp; omega
      rw [hqn] at hp
      have hcall := fun w => two_int w (65535 - (n : Int)) (by omega) (by omega)
      rw [show (65535 - (n : Int)).toNat = 65535 - n by omega] at hcall
      go_enter Try.func29, Try.ntmps29
      go_wp2_with fail
      go_quiet (fail)
      have hk0 : Keeps [] w (w.drewN nq) := (Keeps.refl _ _).drewN _
      rw [HN.out]
      clear hw1 hn hx0 hx1 hq hN hqn
      have HCL := Lib.hid hcall; clear hcall
      have hw2 : IntKind.i64.wrap (65535 - (n : Int)) = 65535 - (n : Int) := IntWalk.i64_in _ ⟨by omega, by omega⟩
      generalize w.drewN nq = w1 at *
      go_wp2_with fail
      go_region_held3 (fun w' => Keeps [] w1 w') (first | exact Keeps.refl _ _ | assumption | exact Keeps.step (by assumption) (by assumption) (fun _ h => h) | exact (Keeps.refl _ _).drew | exact Keeps.drew (by assumption))
        (first | (go_at_call 24; (with_reducible refine (HCL.out _).mono ?_); rintro e w' ⟨rfl, hk⟩))
      go_wp2_with fail
      go_ret3
      exact ⟨rfl, hk0.step ((Keeps.refl [] w1).drew.step hk (by simp)) (by simp)⟩
set_option maxHeartbeats 1000000 in
theorem First_part (w : World) (s : ByteArray) (h : ¬ s.size < 4) (hs : s.size ≤ 1000000) (h2 : ¬ headBad s.data.toList) (h3 : s.size < numAt s.data.toList 0 + 6) :
    Calls Try.prog 29 #[.string s] w fun e w' => e = .returned (.tuple #[.string ⟨#[]⟩, .int .i64 0, .int .i64 0]) ∧ Keeps [] w w' := by
  have hs0 : 0 < s.size := by omega
  have hs1 : 1 < s.size := by omega
  obtain ⟨x0, hx0⟩ : ∃ x : Nat, (s[0]'(by omega)).toNat = x := ⟨_, rfl⟩
  obtain ⟨x1, hx1⟩ : ∃ x : Nat, (s[1]'(by omega)).toNat = x := ⟨_, rfl⟩
  have hn : numAt s.data.toList 0 = 256 * x0 + x1 := by rw [numAt, ← hx0, ← hx1, at_str, at_str]
  have b0 : x0 < 256 := by rw [← hx0]; exact UInt8.toNat_lt _
  have b1 : x1 < 256 := by rw [← hx1]; exact UInt8.toNat_lt _
  unfold headBad at h2
  have hp := piece_ne s 2 (65535 - numAt s.data.toList 0) true (by omega) (by omega) (by simp; omega)
  generalize hN : numAt s.data.toList 0 = n at *
  have hnn : 256 * (x0 : Int) + x1 = n := by omega
  have HN := Lib.hid hnn; clear hnn
  have hw1 : IntKind.i64.wrap (256 * (x0 : Int)) = 256 * (x0 : Int) := IntWalk.i64_in _ ⟨by omega, by omega⟩
  rw [show 2 + 2 = 4 from rfl] at hp
  have n1 : 1 ≤ n ∧ n ≤ 600 := by omega
  have hb1 : decide ((n : Int) < 1) = false := by simp; omega
  have hb6 : decide ((600 : Int) < n) = false := by simp; omega
  have hcall := fun w => two_int w (65535 - (n : Int)) (by omega) (by omega)
  rw [show (65535 - (n : Int)).toNat = 65535 - n by omega] at hcall
  clear h2
  go_enter Try.func29, Try.ntmps29
  go_wp2_with fail
  go_quiet (fail)
  have hk0 : Keeps [] w (w.drewN nq) := (Keeps.refl _ _).drewN _
  rw [HN.out]
  clear hw1 hn hx0 hx1 hN
  have HCL := Lib.hid hcall; clear hcall
  have hw2 : IntKind.i64.wrap (65535 - (n : Int)) = 65535 - (n : Int) := IntWalk.i64_in _ ⟨by omega, by omega⟩
  generalize w.drewN nq = w1 at *
  go_wp2_with fail
  go_region_held3 (fun w' => Keeps [] w1 w') (first | exact Keeps.refl _ _ | assumption | exact Keeps.step (by assumption) (by assumption) (fun _ h => h) | exact (Keeps.refl _ _).drew | exact Keeps.drew (by assumption))
    (first | (go_at_call 24; (with_reducible refine (HCL.out _).mono ?_); rintro e w' ⟨rfl, hk⟩))
  have hk2 : Keeps [] w1 w' := (Keeps.refl [] w1).drew.step hk (by simp)
  clear hw2 hp hk
  go_wp2_with fail
  go_ret3
  exact ⟨rfl, hk0.step hk2 (by simp)⟩
set_option maxHeartbeats 1000000 in
theorem First_full (w : World) (s : ByteArray) (h : ¬ s.size < 4) (hs : s.size ≤ 1000000) (h2 : ¬ headBad s.data.toList) (h3 : numAt s.data.toList 0 + 6 ≤ s.size) :
    Calls Try.prog 29 #[.string s] w fun e w' => e = .returned (.tuple #[.string (bs (payOf s.data.toList)), .int .i64 (sizeOf1 s.data.toList), .int .i64 (tellOf s.data.toList)]) ∧ Keeps [] w w' := by
  have hll : s.data.toList.length = s.size := by simp
  obtain ⟨b, hb, HE⟩ : ∃ b : Bool, decide (numAt s.data.toList (numAt s.data.toList 0 + 4) = sumN ((s.data.toList.drop 4).take (numAt s.data.toList 0))) = b ∧
      Hid (if b then sizeOf1 s.data.toList = numAt s.data.toList 0 + 6 ∧ tellOf s.data.toList = 1 ∧ payOf s.data.toList = (s.data.toList.drop 4).take (numAt s.data.toList 0) else sizeOf1 s.data.toList = 0 ∧ tellOf s.data.toList = 2 ∧ payOf s.data.toList = []) := by
    by_cases hB : sumBad s.data.toList
    · have t := tell_sum (by omega) h2 (by omega) hB
      refine ⟨false, ?_, Lib.hid (by simpa using ⟨(size_none (by omega)).1, t, (size_none (by omega)).2⟩)⟩
      unfold sumBad at hB
      simp; omega
    · have t := tell_one (by omega) h2 (by omega) hB
      refine ⟨true, ?_, Lib.hid (by simpa using ⟨(size_one t).1, t, (size_one t).2.1⟩)⟩
      unfold sumBad at hB
      simp; omega
  have hs0 : 0 < s.size := by omega
  have hs1 : 1 < s.size := by omega
  obtain ⟨x0, hx0⟩ : ∃ x : Nat, (s[0]'(by omega)).toNat = x := ⟨_, rfl⟩
  obtain ⟨x1, hx1⟩ : ∃ x : Nat, (s[1]'(by omega)).toNat = x := ⟨_, rfl⟩
  have hn : numAt s.data.toList 0 = 256 * x0 + x1 := by rw [numAt, ← hx0, ← hx1, at_str, at_str]
  have b0 : x0 < 256 := by rw [← hx0]; exact UInt8.toNat_lt _
  have b1 : x1 < 256 := by rw [← hx1]; exact UInt8.toNat_lt _
  unfold headBad at h2
  have hp := piece_ne s 2 (65535 - numAt s.data.toList 0) true (by omega) (by omega) (by simp; omega)
  have hp2 := piece_ne s (numAt s.data.toList 0 + 4) (sumN ((s.data.toList.drop 4).take (numAt s.data.toList 0))) b (by omega) (sumN_lt _) hb
  have hpl := piece_list s 4 (numAt s.data.toList 0 + 4)
  have hps : s.extract 4 (numAt s.data.toList 0 + 4) = bs ((s.data.toList.drop 4).take (numAt s.data.toList 0)) := by
    rw [← bs_of (s.extract 4 _), hpl]; congr 2
  have hpz : (s.extract 4 (numAt s.data.toList 0 + 4)).size ≤ maxLen := by rw [hps, bs_size]; unfold maxLen; simp; omega
  clear hb hll hpl
  generalize hN : numAt s.data.toList 0 = n at *
  generalize hP : (s.data.toList.drop 4).take n = P at *
  have hsum := fun w => rSum_any w (s.extract 4 (n + 4)) hpz
  rw [hps, bs_list] at hsum
  have hnn : 256 * (x0 : Int) + x1 = n := by omega
  have HN := Lib.hid hnn; clear hnn
  have hw1 : IntKind.i64.wrap (256 * (x0 : Int)) = 256 * (x0 : Int) := IntWalk.i64_in _ ⟨by omega, by omega⟩
  rw [show 2 + 2 = 4 from rfl] at hp
  rw [show n + 4 + 2 = n + 6 from rfl] at hp2
  have n1 : 1 ≤ n ∧ n ≤ 600 := by omega
  have hb1 : decide ((n : Int) < 1) = false := by simp; omega
  have hb6 : decide ((600 : Int) < n) = false := by simp; omega
  have hcall := fun w => two_int w (65535 - (n : Int)) (by omega) (by omega)
  rw [show (65535 - (n : Int)).toNat = 65535 - n by omega] at hcall
  have hcall2 := fun w => two_any w (sumN P) (sumN_lt _)
  clear h2
  have HP2 := Lib.hid hp2; clear hp2
  have HPS := Lib.hid hps; clear hps
  have HSUM := Lib.hid hsum; clear hsum
  have HC2 := Lib.hid hcall2; clear hcall2
  have HPP := Lib.hid hP; clear hP
  go_enter Try.func29, Try.ntmps29
  go_wp2_with fail
  go_quiet (fail)
  have hk0 : Keeps [] w (w.drewN nq) := (Keeps.refl _ _).drewN _
  rw [HN.out]
  clear hw1 hn hx0 hx1 hN
  have HCL := Lib.hid hcall; clear hcall
  have hw2 : IntKind.i64.wrap (65535 - (n : Int)) = 65535 - (n : Int) := IntWalk.i64_in _ ⟨by omega, by omega⟩
  generalize w.drewN nq = w1 at *
  go_wp2_with fail
  go_region_held3 (fun w' => Keeps [] w1 w') (first | exact Keeps.refl _ _ | assumption | exact Keeps.step (by assumption) (by assumption) (fun _ h => h) | exact (Keeps.refl _ _).drew | exact Keeps.drew (by assumption))
    (first | (go_at_call 24; (with_reducible refine (HCL.out _).mono ?_); rintro e w' ⟨rfl, hk⟩))
  have hk2 : Keeps [] w w' := hk0.step ((Keeps.refl [] w1).drew.step hk (by simp)) (by simp)
  clear hw2 hp hk hk0
  generalize w' = w2 at *
  go_wp2_with fail
  have hw4 : IntKind.i64.wrap ((n : Int) + 4) = (n : Int) + 4 := IntWalk.i64_in _ ⟨by omega, by omega⟩
  have hw6 : IntKind.i64.wrap ((n : Int) + 6) = (n : Int) + 6 := IntWalk.i64_in _ ⟨by omega, by omega⟩
  have hv4 : 0 ≤ (n : Int) + 4 := by omega
  have hv6 : (n : Int) + 6 ≤ s.size := by omega
  have hv5 : (n : Int) + 4 ≤ (n : Int) + 6 := by omega
  have hv7 : (n : Int) + 4 ≤ s.size := by omega
  have hv8 : 4 ≤ (n : Int) + 4 := by omega
  have ht4 : ((n : Int) + 4).toNat = n + 4 := by omega
  have ht6 : ((n : Int) + 6).toNat = n + 6 := by omega
  have hps := HPS.out
  have hp2 := HP2.out
  go_region_held3 (fun wz => Keeps [] w wz) (first | assumption | exact Keeps.step (by assumption) (by assumption) (fun _ h => h) | exact Keeps.drew (by assumption))
    (first
      | (go_at_call 13; (with_reducible refine (HSUM.out _).mono ?_); rintro e w' ⟨rfl, rfl⟩)
      | (go_at_call 24; (with_reducible refine (HC2.out _).mono ?_); rintro e w' ⟨rfl, hk⟩))
  have hk3 : Keeps [] w w' := hk2.step ((Keeps.refl [] w2).drew.step hk (by simp)) (by simp)
  clear hk hk2 hp2 hw4 hw6
  cases b
  · have h5 := HE.out
    simp only [Bool.false_eq_true, if_false] at h5
    have H5 := Lib.hid h5; clear h5
    go_wp2_with fail
    go_ret3
    exact ⟨by rw [H5.out.1, H5.out.2.1, H5.out.2.2]; rfl, hk3⟩
  · have h5 := HE.out
    simp only [if_true] at h5
    have H5 := Lib.hid h5; clear h5
    go_wp2_with fail
    go_ret3
    exact ⟨by rw [H5.out.1, H5.out.2.1, H5.out.2.2]; rfl, hk3⟩
/-- First, of any text. -/
theorem First_any (w : World) (s : ByteArray) (hs : s.size ≤ 1000000) :
    Calls Try.prog 29 #[.string s] w fun e w' => e = .returned (.tuple #[.string (bs (payOf s.data.toList)), .int .i64 (sizeOf1 s.data.toList), .int .i64 (tellOf s.data.toList)]) ∧ Keeps [] w w' := by
  have hl : s.data.toList.length = s.size := by simp
  by_cases h : s.size < 4
  · have t := tell_short (l := s.data.toList) (by omega)
    rw [t, (size_none (by omega)).1, (size_none (by omega)).2]
    exact (First_short w s h).mono fun e w' ⟨he, hw⟩ => ⟨he, hw ▸ Keeps.refl _ _⟩
  · by_cases h2 : headBad s.data.toList
    · have t := tell_head (l := s.data.toList) (by omega) h2
      rw [t, (size_none (by omega)).1, (size_none (by omega)).2]
      exact First_head w s h hs h2
    · by_cases h3 : s.size < numAt s.data.toList 0 + 6
      · have t := tell_part (l := s.data.toList) (by omega) h2 (by omega)
        rw [t, (size_none (by omega)).1, (size_none (by omega)).2]
        exact First_part w s h hs h2 h3
      · exact First_full w s h hs h2 (by omega)
end Go.Proofs.Ytfkmgmnbkajgaaa
