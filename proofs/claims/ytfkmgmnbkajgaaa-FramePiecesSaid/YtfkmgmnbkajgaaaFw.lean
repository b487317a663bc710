/-
  FramePieces: the walk.
-/
import Derived.Test.YtfkmgmnbkajgaaaFr
namespace Go.Proofs.Ytfkmgmnbkajgaaa
open Go.RowKit
/-- Two cutters that have nothing in common. -/
structure PInv (w wr : World) (b c : Nat) (F1 F2 : List Nat) (S1 S2 : List UInt8) (p1 p2 : Nat) : Prop where
  one : CAt wr b F1 S1 p1
  two : CAt wr c F2 S2 p2
  keeps : Keeps [] w wr
  fresh1 : FSub F1 [] w.heap.size
  fresh2 : FSub F2 [] w.heap.size
  apart : ∀ g ∈ F1, g ∉ F2
theorem PInv.first {w wr w1 : World} {b c : Nat} {F1 F2 F : List Nat} {S1 S2 S : List UInt8} {p1 p2 p : Nat} (h : PInv w wr b c F1 F2 S1 S2 p1 p2) (h1 : CAt w1 b F S p) (hk : Keeps F1 wr w1) (hs : FSub F F1 wr.heap.size) : PInv w w1 b c F F2 S S2 p p2 := by
  obtain ⟨hk1, hf1⟩ := h.keeps.fresh h.fresh1 hk hs
  refine ⟨h1, h.two.keeps hk (fun g hg hg1 => h.apart g hg1 hg), hk1, hf1, h.fresh2, fun g hg hg2 => ?_⟩
  rcases hs g hg with h3 | h3
  · exact h.apart g h3 hg2
  · have := h.two.lt g hg2; omega
theorem PInv.second {w wr w1 : World} {b c : Nat} {F1 F2 F : List Nat} {S1 S2 S : List UInt8} {p1 p2 p : Nat} (h : PInv w wr b c F1 F2 S1 S2 p1 p2) (h1 : CAt w1 c F S p) (hk : Keeps F2 wr w1) (hs : FSub F F2 wr.heap.size) : PInv w w1 b c F1 F S1 S p1 p := by
  obtain ⟨hk1, hf1⟩ := h.keeps.fresh h.fresh2 hk hs
  refine ⟨h.one.keeps hk (fun g hg hg1 => h.apart g hg hg1), h1, hk1, h.fresh1, hf1, fun g hg hg2 => ?_⟩
  rcases hs g hg2 with h3 | h3
  · exact h.apart g hg h3
  · have := h.one.lt g hg; omega
def strLen : Value → Nat
  | .string R => R.size
  | _ => 0
/-- What the first loop keeps. -/
def PRel (w : World) (b c : Nat) (F1 : List Nat) (L : List UInt8) (k : Nat) (wr : World) : Prop := ∃ F2, PInv w wr b c F1 F2 L (L.take k) 0 0
/-- What the second loop keeps. -/
def QRel (w : World) (b c : Nat) (L : List UInt8) (wr : World) : Prop := ∃ F1 F2 p, PInv w wr b c F1 F2 L L p p
set_option maxHeartbeats 1000000 in
theorem pieces_long (w : World) (s : ByteArray) (a : Option Addr) (m c : Nat) (hs : s.size ≤ 9223372036854775807) (h : 3000 < s.size) :
    Calls Try.prog 6 #[.string s, .slice a m c] w fun e w' => e = .returned (.bool true) ∧ Keeps [] w w' := by
  go_enter Try.func6, Try.ntmps6
  go_wp2_with fail
  refine (works_true w).mono ?_; rintro e w1 ⟨rfl, hk⟩
  go_wp2
  go_ret
  exact ⟨rfl, hk⟩
set_option maxHeartbeats 4000000 in
set_option maxRecDepth 100000 in
theorem pieces_main (w : World) (s : ByteArray) (a : Option Addr) (m c2 : Nat) (hA : Asks8 w a m) (hm : m ≤ 9223372036854775807) (h : s.size ≤ 3000) :
    Calls Try.prog 6 #[.string s, .slice a m c2] w fun e w' => e = .returned (.bool true) ∧ Keeps [] w w' := by
  have hLl : s.data.toList.length = s.size := by simp
  have HA := Lib.hid hA; clear hA
  have HL := Lib.hid hLl; clear hLl
  go_enter Try.func6, Try.ntmps6
  go_wp2_with fail
  refine (New_any w).mono ?_; rintro e w1 ⟨rfl, hw⟩
  have hc := cat_new w
  have hk := lone_new w
  have hsz : w.heap.size < w1.heap.size := by rw [hw]; simp
  rw [← hw] at hc hk
  clear hw
  go_wp2_with fail
  refine (New_any w1).mono ?_; rintro e w2 ⟨rfl, hw⟩
  have hc2 := cat_new w1
  have hk2 := lone_new w1
  have hsz2 : w1.heap.size < w2.heap.size := by rw [hw]; simp
  rw [← hw] at hc2 hk2
  clear hw
  have hP : PInv w w2 w.heap.size w1.heap.size [w.heap.size] [w1.heap.size] [] [] 0 0 :=
    ⟨hc.keeps hk2 (by simp), hc2, hk.step hk2 (fun _ h => h), fun g hg => .inr (by simp at hg; omega), fun g hg => .inr (by simp at hg; omega), fun g hg hg2 => by simp at hg hg2; omega⟩
  have HP := Lib.hid hP
  clear hc hk hc2 hk2 hP
  generalize hq : w1.heap.size = q at *
  generalize hb0 : w.heap.size = b0 at *
  have HB0 := Lib.hid hb0; clear hb0
  have HQ := Lib.hid hq; clear hq
  go_wp2_with fail
  refine (Feed_any w2 b0 [b0] [] 0 HP.out.one s (by simp; omega)).mono ?_; rintro e w3 ⟨rfl, F1, hc3, hk3, hs3⟩
  have HP3 := Lib.hid (HP.out.first hc3 hk3 hs3)
  clear hc3 hk3 hs3 HP
  have e0 : ([] ++ s.data.toList : List UInt8) = s.data.toList := by simp
  rw [e0] at HP3; clear e0
  go_wp2_with fail
  go_loopw [7, 8] (fun rest i wr => ∃ (k : Nat) (R : ByteArray) (j : Nat), k ≤ s.size ∧ rest = .string R ∧ R.data.toList = s.data.toList.drop k ∧ i = .int .i64 j ∧ j ≤ k ∧ PRel w b0 q F1 s.data.toList k wr)
    (fun rest _ _ => strLen rest)
  case atStart => exact ⟨0, s, 0, Nat.zero_le _, rfl, rfl, rfl, Nat.zero_le _, _, by simpa using HP3.out⟩
  case round =>
    obtain ⟨k, R, j, hk, rfl, hR, rfl, hj, F2, hI⟩ := hrel
    clear HP3
    have hRs : R.size = s.size - k := by
      have h1 : R.data.toList.length = R.size := by simp
      rw [← h1, hR, List.length_drop, HL.out]
    have hR1 : R.size ≤ 3000 := by omega
    have hks : k + R.size ≤ s.size := by omega
    have hks2 : s.size ≤ k + R.size := by omega
    have HR := Lib.hid hR; clear hR
    have HRS := Lib.hid hRs; clear hRs
    have HI := Lib.hid hI; clear hI
    by_cases hpos : 0 < R.size
    · by_cases hm0 : 0 < m
      · obtain ⟨ab, ao, rfl, haa⟩ : ∃ ab ao, a = some ⟨ab, ao, none⟩ ∧ ∀ j, j < m → ∃ z : Nat, z < 256 ∧ w.cell? ⟨ab, ao + j, none⟩ = some (.int .u8 z) := by
          rcases HA.out with h1 | h1
          · omega
          · exact h1
        have hjm : j % m < m := Nat.mod_lt _ hm0
        obtain ⟨z, hz, hzc⟩ := haa (j % m) hjm
        have hz4 := HI.out.keeps.cell hzc (by simp)
        have hmod : ((j : Int) % (m : Int)) = ((j % m : Nat) : Int) := by omega
        clear haa hzc
        go_wp2_with fail
        rw [hmod]
        clear hmod
        generalize j % m = jm at *
        by_cases hlt : (R.size : Int) < 1 + (z : Int) % 50
        · go_wp2_with fail
          have hfd := Feed_any wr q F2 _ 0 HI.out.two R (by
            have h1 : (s.data.toList.take k).length ≤ s.size := by rw [List.length_take, HL.out]; omega
            omega)
          have hcatl : s.data.toList.take k ++ R.data.toList = s.data.toList.take (k + R.size) := by
            rw [HR.out, List.take_append_drop, List.take_of_length_le (by rw [HL.out]; omega)]
          rw [hcatl] at hfd
          have HFD := Lib.hid hfd
          clear hfd hcatl
          refine HFD.out.mono ?_; rintro e w4 ⟨rfl, F4, hc4, hk4, hs4⟩
          have HI4 := Lib.hid (HI.out.second hc4 hk4 hs4)
          clear hc4 hk4 hs4 HFD HI
          have HE : Hid (ByteArray.empty.data.toList = s.data.toList.drop (k + R.size)) := Lib.hid (by
            rw [List.drop_eq_nil_of_le (by rw [HL.out]; omega)]; rfl)
          go_wp2_with fail
          go_roundw
          case rel => exact ⟨k + R.size, ByteArray.empty, j + 1, by omega, rfl, HE.out, by go_num, by omega, F4, HI4.out⟩
          case measure => exact hpos
        · have hn1 : 0 ≤ (1 : Int) + (z : Int) % 50 := by omega
          have hn2 : (1 : Int) + (z : Int) % 50 ≤ R.size := by omega
          have hn3 : ((1 : Int) + (z : Int) % 50).toNat = 1 + z % 50 := by omega
          go_wp2_with fail
          have hfd := Feed_any wr q F2 _ 0 HI.out.two (R.extract 0 (1 + z % 50)) (by
            have h1 : (s.data.toList.take k).length ≤ s.size := by rw [List.length_take, HL.out]; omega
            have h2 : (R.extract 0 (1 + z % 50)).size ≤ 3000 := by simp only [ByteArray.size_extract]; omega
            omega)
          have hcatl : s.data.toList.take k ++ (R.extract 0 (1 + z % 50)).data.toList = s.data.toList.take (k + (1 + z % 50)) := by
            rw [piece_list, HR.out, List.drop_zero, Nat.sub_zero]; exact List.take_add.symm
          rw [hcatl] at hfd
          have hrl : (R.extract (1 + z % 50) R.size).data.toList = s.data.toList.drop (k + (1 + z % 50)) := by
            rw [rest_list, HR.out, List.drop_drop]
          have hrz : (R.extract (1 + z % 50) R.size).size < R.size := by simp only [ByteArray.size_extract]; omega
          have HFD := Lib.hid hfd
          have HRL := Lib.hid hrl
          have HRZ := Lib.hid hrz
          clear hfd hcatl hrl hrz
          refine HFD.out.mono ?_; rintro e w4 ⟨rfl, F4, hc4, hk4, hs4⟩
          have HI4 := Lib.hid (HI.out.second hc4 hk4 hs4)
          clear hc4 hk4 hs4 HFD HI
          go_wp2_with fail
          go_roundw
          case rel => exact ⟨k + (1 + z % 50), R.extract (1 + z % 50) R.size, j + 1, by omega, rfl, HRL.out, by go_num, by omega, F4, HI4.out⟩
          case measure => exact HRZ.out
      · go_wp2_with fail
        have hfd := Feed_any wr q F2 _ 0 HI.out.two (R.extract 0 1) (by
          have h1 : (s.data.toList.take k).length ≤ s.size := by rw [List.length_take, HL.out]; omega
          have h2 : (R.extract 0 1).size ≤ 3000 := by simp only [ByteArray.size_extract]; omega
          omega)
        have hcatl : s.data.toList.take k ++ (R.extract 0 1).data.toList = s.data.toList.take (k + 1) := by
          rw [piece_list, HR.out, List.drop_zero, Nat.sub_zero]; exact List.take_add.symm
        rw [hcatl] at hfd
        have hrl : (R.extract 1 R.size).data.toList = s.data.toList.drop (k + 1) := by
          rw [rest_list, HR.out, List.drop_drop]
        have hrz : (R.extract 1 R.size).size < R.size := by simp only [ByteArray.size_extract]; omega
        have HFD := Lib.hid hfd
        have HRL := Lib.hid hrl
        have HRZ := Lib.hid hrz
        clear hfd hcatl hrl hrz
        refine HFD.out.mono ?_; rintro e w4 ⟨rfl, F4, hc4, hk4, hs4⟩
        have HI4 := Lib.hid (HI.out.second hc4 hk4 hs4)
        clear hc4 hk4 hs4 HFD HI
        go_wp2_with fail
        go_roundw
        case rel => exact ⟨k + 1, R.extract 1 R.size, j + 1, by omega, rfl, HRL.out, by go_num, by omega, F4, HI4.out⟩
        case measure => exact HRZ.out
    · have hk0 : k = s.size := by omega
      have hp2 := HI.out
      rw [hk0, ← HL.out, List.take_length] at hp2
      have hQ : QRel w b0 q s.data.toList wr := ⟨F1, F2, 0, hp2⟩
      have HQ2 := Lib.hid hQ
      clear hp2 hQ HI
      go_wp2_with fail
      go_loopw [10] (fun i wr => ∃ n : Nat, n ≤ 500 ∧ i = .int .i64 n ∧ QRel w b0 q s.data.toList wr)
        (fun i _ => 500 - (intOf i).toNat)
      case atStart => exact ⟨0, by omega, rfl, HQ2.out⟩
      case round =>
        obtain ⟨n, hn, rfl, G1, G2, p, hI⟩ := hrel
        clear HQ2
        have HI := Lib.hid hI; clear hI
        by_cases hlt : n < 500
        · obtain ⟨tt, htt⟩ : ∃ tt, tellOf (s.data.toList.drop p) = tt := ⟨_, rfl⟩
          obtain ⟨ps, hps⟩ : ∃ ps, bs (payOf (s.data.toList.drop p)) = ps := ⟨_, rfl⟩
          obtain ⟨zz, hzz⟩ : ∃ zz, p + sizeOf1 (s.data.toList.drop p) = zz := ⟨_, rfl⟩
          have hlen : s.data.toList.length ≤ 1000000 := by rw [HL.out]; omega
          have hN := Next_any wr b0 G1 _ p HI.out.one hlen
          rw [htt, hps, hzz] at hN
          have hTl := fun w4 (h : CAt w4 q G2 s.data.toList p) => tells_any w4 q G2 _ p h hlen ps p tt hps.symm rfl (by rw [htt])
          rw [hzz] at hTl
          have HN := Lib.hid hN
          have HTL := Lib.hid hTl
          clear htt hps hzz hlen hN hTl
          by_cases ht1 : tt = 1
          · subst ht1
            go_wp2_with fail
            refine HN.out.mono ?_; rintro e w4 ⟨rfl, G3, hc4, hk4, hs4⟩
            have HI4 := Lib.hid (HI.out.first hc4 hk4 hs4)
            clear hc4 hk4 hs4 HN HI
            go_wp2_with fail
            refine (HTL.out w4 HI4.out.two).mono ?_; rintro e w5 ⟨rfl, G4, hc5, hk5, hs5⟩
            have HI5 := Lib.hid (HI4.out.second hc5 hk5 hs5)
            clear hc5 hk5 hs5 HTL HI4
            go_wp2_with fail
            go_roundw
            case rel => exact ⟨n + 1, by omega, by go_num, G3, G4, zz, HI5.out⟩
            case measure => simp [intOf]; omega
          · have hb1 : ((tt : Int) == 1) = false := by simp; omega
            have hb2 : ((tt : Int) != 1) = true := by simp; omega
            go_wp2_with fail
            refine HN.out.mono ?_; rintro e w4 ⟨rfl, G3, hc4, hk4, hs4⟩
            have HI4 := Lib.hid (HI.out.first hc4 hk4 hs4)
            clear hc4 hk4 hs4 HN HI
            go_wp2_with fail
            refine (HTL.out w4 HI4.out.two).mono ?_; rintro e w5 ⟨rfl, G4, hc5, hk5, hs5⟩
            have HI5 := Lib.hid (HI4.out.second hc5 hk5 hs5)
            clear hc5 hk5 hs5 HTL HI4
            have hFed : Calls Try.prog 19 #[.pointer (some ⟨q, 0, none⟩)] w5 fun e w' => e = .returned (.int .i64 s.size) ∧ w5 = w' := by
              have h1 := Fed_any w5 q _ _ _ HI5.out.two
              rw [HL.out] at h1; exact h1
            have HFED := Lib.hid hFed; clear hFed
            go_wp2_with fail
            refine HFED.out.mono ?_; rintro e w6 ⟨rfl, rfl⟩
            go_wp2_with fail
            refine (works_true w5).mono ?_; rintro e w7 ⟨rfl, hk7⟩
            go_wp2_with fail
            go_ret
            exact ⟨rfl, HI5.out.keeps.step hk7 (by simp)⟩
        · obtain rfl : n = 500 := by omega
          have hFed : Calls Try.prog 19 #[.pointer (some ⟨q, 0, none⟩)] wr fun e w' => e = .returned (.int .i64 s.size) ∧ wr = w' := by
            have h1 := Fed_any wr q _ _ _ HI.out.two
            rw [HL.out] at h1; exact h1
          have HFED := Lib.hid hFed; clear hFed
          go_wp2_with fail
          refine HFED.out.mono ?_; rintro e w6 ⟨rfl, rfl⟩
          go_wp2_with fail
          refine (works_true wr).mono ?_; rintro e w7 ⟨rfl, hk7⟩
          go_wp2_with fail
          go_ret
          exact ⟨rfl, HI.out.keeps.step hk7 (by simp)⟩
theorem pieces_true (w : World) (s : ByteArray) (hs : s.size ≤ 9223372036854775807) (a : Option Addr) (m c2 : Nat) (hA : Asks8 w a m) (hm : m ≤ 9223372036854775807) :
    Calls Try.prog 6 #[.string s, .slice a m c2] w fun e w' => e = .returned (.bool true) ∧ Keeps [] w w' := by
  by_cases h : 3000 < s.size
  · exact pieces_long w s a m c2 hs h
  · exact pieces_main w s a m c2 hA hm (by omega)
end Go.Proofs.Ytfkmgmnbkajgaaa
