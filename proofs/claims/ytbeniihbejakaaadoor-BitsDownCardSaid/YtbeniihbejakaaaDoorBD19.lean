/-
  The program's sets: FromKey.
-/
import Derived.Test.YtbeniihbejakaaaDoorBD00
import Derived.Test.YtbeniihbejakaaaDoorBD18
import Derived.Test.YtbeniihbejakaaaDoorBD09
set_option linter.unusedSimpArgs false
set_option linter.unusedVariables false
namespace Go.Proofs.YtbeniihbejakaaaDoor
open Go.RowKit
set_option maxRecDepth 100000
set_option maxHeartbeats 4000000
/-- A byte in its place of a word. -/
def upB (x t : Nat) : Nat := (x * 2 ^ t) % 18446744073709551616
theorem upB_lt (x t : Nat) : upB x t < 18446744073709551616 := Nat.mod_lt _ (by decide)
theorem upB_bit (x t : Nat) {i : Nat} (hi : i < 64) : (upB x t).testBit i = (decide (t ≤ i) && x.testBit (i - t)) := by
  unfold upB
  rw [show (18446744073709551616 : Nat) = 2 ^ 64 by decide, Nat.testBit_mod_two_pow, decide_eq_true hi, Bool.true_and, Nat.testBit_mul_two_pow]
theorem keyBit_bit (key : List UInt8) (m : Nat) : keyBit key (m : Int) = 1 ↔ (key.getD (m / 8) 0).toNat.testBit (m % 8) = true := by
  unfold keyBit
  rw [show ((m : Int) / 8).toNat = m / 8 by omega, show ((m : Int) % 8).toNat = m % 8 by omega, Nat.testBit_eq_decide_div_mod_eq, decide_eq_true_eq]
def fromK (key : List UInt8) (k : Nat) : List Int := (fromL key).filter fun y => decide (y < 8 * (k : Int))
theorem fromK_in {key : List UInt8} (h : key.length ≤ 8192) (k : Nat) : BIn (fromK key k) := ⟨(fromL_in h).1.filter _, fun y hy => (fromL_in h).2 y (List.mem_filter.1 hy).1⟩
theorem fromK_0 {key : List UInt8} (h : key.length ≤ 8192) : fromK key 0 = [] := List.filter_eq_nil_iff.2 fun y hy => by have := ((fromL_in h).of hy).1; simp; omega
theorem fromK_all (key : List UInt8) : fromK key key.length = fromL key := List.filter_eq_self.2 fun y hy => by have := (fromL_rise key).2 y hy; simp; omega
theorem WIn.byte {L : List Nat} {key : List UInt8} {k : Nat} (h : WIn L (fromK key k)) (hkey : key.length ≤ 8192) (hk : k / 8 < L.length) :
    WIn (L.set (k / 8) (L.getD (k / 8) 0 ||| upB (key.getD k 0).toNat (8 * (k % 8)))) (fromK key (k + 1)) :=
  ⟨set_lt h.lt (or_lt64 (h.get _) (upB_lt _ _)), fromK_in hkey _, fun m => by
    have h1 := h.tell m
    rw [wBit_set hk]
    unfold fromK at h1 ⊢
    simp only [List.mem_filter, decide_eq_true_eq, mem_fromL] at h1 ⊢
    rw [keyBit_bit] at h1 ⊢
    have hb8 : (key.getD k 0).toNat < 256 := UInt8.toNat_lt _
    by_cases e : m / 64 = k / 8
    · rw [if_pos e, Nat.testBit_or, upB_bit _ _ (by omega)]
      unfold wBit at h1
      rw [e] at h1
      rw [Bool.or_eq_true, ← h1]
      by_cases e8 : m / 8 = k
      · rw [decide_eq_true (by omega : 8 * (k % 8) ≤ m % 64), show m % 64 - 8 * (k % 8) = m % 8 by omega, e8, Bool.true_and]
        have h3 : ¬ ((m : Int) < 8 * (k : Int)) := by omega
        have h4 : ((m : Int) < 8 * ((k + 1 : Nat) : Int)) := by omega
        simp only [h3, h4, and_false, false_or, and_true]
        constructor
        · rintro ⟨-, h5⟩; exact h5
        · intro h5; exact ⟨by omega, h5⟩
      · have h4 : ((m : Int) < 8 * ((k + 1 : Nat) : Int)) ↔ ((m : Int) < 8 * (k : Int)) := by omega
        rw [h4]
        have h6 : (decide (8 * (k % 8) ≤ m % 64) && (key.getD k 0).toNat.testBit (m % 64 - 8 * (k % 8))) = false := by
          by_cases h7 : 8 * (k % 8) ≤ m % 64
          · rw [Nat.testBit_lt_two_pow (Nat.lt_of_lt_of_le hb8 (show 2 ^ 8 ≤ 2 ^ (m % 64 - 8 * (k % 8)) from Nat.pow_le_pow_right (by decide) (by omega)))]; simp
          · rw [decide_eq_false h7]; rfl
        rw [h6]; simp
    · rw [if_neg e, ← h1]
      have h4 : ((m : Int) < 8 * ((k + 1 : Nat) : Int)) ↔ ((m : Int) < 8 * (k : Int)) := by omega
      rw [h4]⟩
theorem btFromKey_any (w : World) (key : List UInt8) (hk10 : key.length ≤ 10000) : Calls Tryd.prog 18 #[.string (bs key)] w fun e w' => ∃ st, e = .returned (.tuple #[st, .int .i64 (fromB key).2]) ∧ BtAt w' st (fromB key).1 ∧ Keeps [] w w' ∧ ∀ q ∈ btFoot st, w.heap.size ≤ q := by
  obtain ⟨s, hs⟩ : ∃ s, s = bs key := ⟨_, rfl⟩
  have hz : s.size = key.length := by rw [hs]; rfl
  have HN := Lib.hid (heap_alloc_new w (.cells btZA 27))
  have HKA := Lib.hid (show Keeps [] w (w.alloc (.cells btZA 27)) from (Keeps.refl _ _).alloc _)
  have HSS := Lib.hid hs
  have HZZ := Lib.hid hz
  rw [← hs]
  clear hs
  by_cases hbig : 8192 < key.length
  case pos =>
    have h1 : (8192 : Int) < s.size := by omega
    have HF := Lib.hid (show fromB key = ([], 4) from if_pos (.inl hbig))
    clear hbig hz
    go_enter Tryd.func18, Tryd.ntmps18
    go_wp2_with fail
    exact bodyPost_ret (results_sk1 skB rfl _ _ w.heap.size btZ_ok rfl HN.out) rfl ⟨_, by rw [HF.out]; rfl, by rw [HF.out]; exact BtAt.zero _, HKA.out, fun q hq => by simp [btFoot, btZ, own, Value.ownBlock] at hq⟩
  have h1 : ¬ (8192 : Int) < s.size := by omega
  have h8 : s.size ≤ 8192 := by omega
  by_cases hnil : key = []
  case pos =>
    subst hnil
    have HF := Lib.hid (show fromB [] = ([], 0) from rfl)
    rw [HF.out]
    have hemp : s.toList.isEmpty = true := by rw [HSS.out]; decide +kernel
    have hB := BIn.nil
    clear hz hbig
    have HBI := Lib.hid hB
    have HK8 := Lib.hid (show ([] : List UInt8).length ≤ 8192 from by rw [← HZZ.out]; exact h8)
    obtain ⟨M, hM⟩ : ∃ M, M = (s.size + 7) / 8 := ⟨_, rfl⟩
    have hM2 : ((s.size : Int) + 8 - 1).tdiv 8 = (M : Int) := by rw [Int.tdiv_eq_ediv_of_nonneg (by omega)]; omega
    have hM3 : ((s.size : Int) + 8 - 1) / 8 = (M : Int) := by omega
    have hwM : IntKind.i64.wrap (M : Int) = (M : Int) := IntWalk.i64_in _ ⟨by omega, by omega⟩
    obtain ⟨w2, hmk, hown, hk2⟩ := run_makeW (w.alloc (.cells btZA 27)) M (by omega)
    have HMK := Lib.hid hmk
    obtain ⟨G, hG⟩ : ∃ G, G = (w.alloc (.cells btZA 27)).heap.size := ⟨_, rfl⟩
    rw [← hG] at hown
    have HG := Lib.hid (show w.heap.size + 1 ≤ G from by rw [hG, World.size_alloc]; exact Nat.le_refl _)
    have HOW := Lib.hid hown; have HK2 := Lib.hid (HKA.out.trans hk2 (FSub.refl _ _)); have HN2 := Lib.hid (hk2.heap HN.out (by simp))
    have HMM := Lib.hid hM
    have HGE := Lib.hid hG
    clear hmk hown hk2 hB hM hG
    go_enter Tryd.func18, Tryd.ntmps18
    go_wp2_with ((with_reducible refine wpList_makeW _ _ ?_ ?_ HMK.out ?_); exact rfl; exact rfl)
    obtain ⟨Q0, hQ0⟩ : ∃ q : Nat, q = w.heap.size := ⟨_, rfl⟩
    rw [show (w.heap.size + 1) = G from by rw [HGE.out, World.size_alloc]]
    clear hQ0 HMK
    go_loopw [5, 30] (fun _ i wr => ∃ (k : Nat) (L : List Nat), i = .int .i64 (k : Int) ∧ k ≤ s.size ∧ L.length = M ∧ WIn L (fromK ([]) k) ∧ rkW64.Own G wr (.slice (some ⟨G, 0, none⟩) M M) L ∧ Keeps [] w wr ∧ wr.heap[w.heap.size]? = some (.cells btZA 27 (0, 0))) (fun _ i _ => s.size - (intOf i).toNat)
    case atStart => exact ⟨0, _, rfl, by omega, List.length_replicate, by rw [fromK_0 HK8.out]; exact WIn.zeros M, HOW.out, HK2.out, HN2.out⟩
    case round =>
      obtain ⟨k, L, rfl, hk, hL, hWL, hOL, hKL, hNL⟩ := hrel
      have HWL := Lib.hid hWL; have HOL := Lib.hid hOL; have HKL := Lib.hid hKL; have HNL := Lib.hid hNL
      clear hWL hOL hKL hNL HOW HK2 HN2
      by_cases hlt : k < s.size
      · obtain ⟨x, hx⟩ : ∃ x : Nat, (s[k]'hlt).toNat = x := ⟨_, rfl⟩
        have HXD := Lib.hid (show (([] : List UInt8).getD k 0).toNat = x from by rw [← hx]; subst_vars; rw [bs_getZ])
        have hx8 : x < 256 := by rw [← hx]; exact UInt8.toNat_lt _
        obtain ⟨j, hj⟩ : ∃ j, j = k / 8 := ⟨_, rfl⟩
        obtain ⟨t, ht⟩ : ∃ t, t = k % 8 := ⟨_, rfl⟩
        have hd1 : (k : Int).tdiv 8 = (j : Int) := by rw [Int.tdiv_eq_ediv_of_nonneg (by omega)]; omega
        have hd2 : (k : Int) / 8 = (j : Int) := by omega
        have hd3 : (k : Int).tmod 8 = (t : Int) := by rw [Int.tmod_eq_emod_of_nonneg (by omega)]; omega
        have hd4 : (k : Int) % 8 = (t : Int) := by omega
        have hwj : IntKind.i64.wrap (j : Int) = (j : Int) := IntWalk.i64_in _ ⟨by omega, by omega⟩
        have hwt : IntKind.i64.wrap (t : Int) = (t : Int) := IntWalk.i64_in _ ⟨by omega, by omega⟩
        obtain ⟨u, hu⟩ : ∃ u, u = 8 * t := ⟨_, rfl⟩
        have hu1 : (t : Int) * 8 = (u : Int) := by omega
        have hwu : IntKind.i64.wrap (u : Int) = (u : Int) := IntWalk.i64_in _ ⟨by omega, by omega⟩
        have hu64 : u ≤ 64 := by omega
        have hjn : j < M := by have := HMM.out; omega
        have hwx : IntKind.u64.wrap (x : Int) = (x : Int) := by rw [IntKind.wrap_u64]; omega
        have hsl : IntKind.u64.wrap ((x : Int) * 2 ^ u) = ((upB x u : Nat) : Int) := by
          rw [IntKind.wrap_u64, upB, Int.natCast_emod, Int.natCast_mul, Int.natCast_pow]; rfl
        have HNXT := Lib.hid (HWL.out.byte (k := k) HK8.out (by rw [hL, ← hj]; exact hjn))
        rw [HXD.out, ← hj, ← ht, ← hu] at HNXT
        have e1 := bits_or_u64_nat (L.getD j 0) (upB x u) (HWL.out.get j) (upB_lt _ _)
        obtain ⟨y1, hy1⟩ : ∃ y1, y1 = L.getD j 0 := ⟨_, rfl⟩
        have HPUT := Lib.hid (fun (Y : World) (h : Keeps [] wr Y) (z : Nat) => by
          have h2 := W64.put (HOL.out.keeps h (by simp)) j (by omega) z
          rw [← hy1] at h2
          exact h2)
        rw [← hy1] at e1 HNXT
        obtain ⟨y2, hy2⟩ : ∃ y2, y2 = upB x u := ⟨_, rfl⟩
        rw [← hy2] at hsl e1 HNXT
        obtain ⟨z, hz⟩ : ∃ z, z = y1 ||| y2 := ⟨_, rfl⟩
        rw [← hz] at e1 HNXT
        clear hy1 hy2 hz hj ht hu
        obtain ⟨S0, hS0⟩ : ∃ S0 : World → Prop, S0 = fun y => Keeps [G] wr y := ⟨_, rfl⟩
        have HSE := Lib.hid hS0
        have hSD : S0 wr.drew := by rw [hS0]; exact (Keeps.refl _ _).drew
        clear hS0
        go_wp2_with fail
        refine wp_region_noPanic ?_
        refine wp_region_held_drew (S := S0) (by kernel_rfl) hSD (fun hHeld => ?_)
        have HY := Lib.hid ((Keeps.refl [] wr).drew)
        generalize wr.drew = YC at *
        refine tw 0 (h := ?_)
        refine tw 1 (h := ?_)
        refine tw 2 (h := ?_)
        refine tk 3 (y := by exact yields_indexW0 rfl _ _ rfl G _ _ j rfl rfl hjn) (h := ?_)
        refine tw 5 (h := ?_)
        refine tw 6 (h := ?_)
        refine tw 7 (h := ?_)
        refine tw 8 (h := ?_)
        refine tw 9 (h := ?_)
        refine tw 10 (h := ?_)
        refine tw 11 (h := ?_)
        refine tw 12 (h := ?_)
        refine rp 4 (h := fun K hK => ?_)
        refine wp_loadW rfl (g := G) (j := j) (z := .int .u64 (y1 : Int)) rfl ((HPUT.out YC HY.out 0).2.2) ?_
        refine hK.out _ _ (by rw [HSE.out]; exact HY.out.more (by simp)) (fun hHeld => ?_); clear hK K; try simp only [Act.put, lsA, lsZ, lsS]
        refine tw 13 (h := ?_)
        refine tk 14 (y := by exact yields_indexW0 rfl _ _ rfl G _ _ j rfl rfl hjn) (h := ?_)
        refine rp 15 (h := fun K hK => ?_)
        refine wp_putW rfl (g := G) (j := j) (z := (z : Int)) (old := (y1 : Int)) rfl rfl ((HPUT.out YC HY.out 0).2.2) ((HPUT.out YC HY.out 0).2.1) ?_
        have HOZ := Lib.hid (HPUT.out YC HY.out z).1
        have HYE := Lib.hid ((HY.out.more (G := [G]) (by simp)).setCell ⟨G, j, none⟩ (.int .u64 (z : Int)) (.inl (by simp)))
        refine hK.out _ _ (by rw [HSE.out]; exact HYE.out) (fun hHeld => ?_); clear hK K; try simp only [Act.put, lsA, lsZ, lsS]
        refine wpAnyH_done (by kernel_rfl) ?_ _
        refine NoPanic.normal ?_
        generalize YC.setCell ⟨G, j, none⟩ (.int .u64 (z : Int)) = YE at *
        have HKE := Lib.hid (show Keeps [] w YE from HKL.out.trans HYE.out (fun q hq => by have := HG.out; simp at hq; exact .inr (by omega)))
        have HNE := Lib.hid (HYE.out.heap HNL.out (by have := HG.out; simp; omega))
        clear HPUT HYE hHeld hSD HSE HY
        go_wp2_with fail
        go_roundw
        case rel => exact ⟨k + 1, L.set j z, by go_num, by omega, by rw [List.length_set]; exact hL, HNXT.out, HOZ.out, HKE.out, HNE.out⟩
        case measure => simp [intOf]; omega
      · obtain rfl : k = s.size := by omega
        have HALL := Lib.hid (show fromK ([]) s.size = fromL ([]) from by rw [HZZ.out]; exact fromK_all _)
        rw [HALL.out] at HWL
        have HKW := HKL; have HNW := HNL
        have HGW := Lib.hid (show ∀ p ∈ own (.slice (some ⟨G, 0, none⟩) M M), w.heap.size + 1 ≤ p ∧ p < wr.heap.size from fun p hp => by
          have := own_new HOL.out p hp; have := HG.out; omega)
        have HSW := Lib.hid (show w.heap.size + 1 ≤ wr.heap.size from lt_of_block HNL.out)
        have HMD := Lib.hid (btMade_any wr HOL.out.in_ (fun p hp => (HGW.out p hp).2) HWL.out (by have := HMM.out; omega))
        go_wp2_with fail
        refine HMD.out.mono ?_
        rintro e w4 ⟨st, rfl, hat, hk4, hft⟩
        obtain ⟨A, rfl, hA⟩ := hat.cells
        have HAT := Lib.hid hat; have HK4 := Lib.hid (HKW.out.trans hk4 (FSub.refl _ _)); have HN4 := Lib.hid (hk4.heap HNW.out (by simp)); have HOA := Lib.hid hA
        have HFT := Lib.hid (show ∀ q ∈ btFoot (.agg A.toArray), w.heap.size + 1 ≤ q from fun q hq => by
          rcases hft q hq with h | h
          · exact (HGW.out _ h).1
          · exact Nat.le_trans HSW.out h)
        clear hat hk4 hft hA HMD HNW
        go_wp2_with ((with_reducible refine wpList_putBt HOA.out btZ_ok ?_ ?_ HN4.out ?_); exact rfl; exact rfl)
        intro W2 hW2 hk2
        have HW2 := Lib.hid hW2; have HK5 := Lib.hid hk2
        clear hW2 hk2
        go_wp2_with fail
        try simp only [Exit.inBlock, Exit.then]
        have hks : Keeps [] w W2 := HK4.out.trans HK5.out (fun q hq => .inr (by simp at hq; omega))
        exact bodyPost_ret (results_sk1 skB rfl _ _ w.heap.size HOA.out rfl HW2.out) rfl ⟨_, rfl, HAT.out.keep HK5.out (fun q hq => by have := HFT.out q hq; simp; omega), hks, fun q hq => by have := HFT.out q hq; omega⟩
  have hpos : 0 < s.size := by rw [hz]; exact List.length_pos_iff.2 hnil
  have hlt : s.size - 1 < s.size := by omega
  have hlast : key.getLast? = some (s[s.size - 1]'hlt) := by
    subst_vars
    rw [List.getLast?_eq_getElem?, bs_getZ, List.getD_eq_getElem?_getD]
    show key[key.length - 1]? = _
    have h : key.length - 1 < key.length := by have := List.length_pos_iff.2 hnil; omega
    rw [show (bs key).size - 1 = key.length - 1 from rfl, List.getElem?_eq_getElem h]; rfl
  obtain ⟨xl, hxl⟩ : ∃ x : Nat, (s[s.size - 1]'hlt).toNat = x := ⟨_, rfl⟩
  have h2 : 0 < (s.size : Int) := by omega
  have hne : s.toList.isEmpty = false := by
    rw [HSS.out, ByteArray.toList_eq, bs_list]
    cases key with
    | nil => exact absurd rfl hnil
    | cons x r => rfl
  have HNL := Lib.hid hnil; have HBG := Lib.hid hbig
  clear hz hnil hbig
  by_cases hx0 : xl = 0
  case pos =>
    subst hx0
    have HF := Lib.hid (show fromB key = ([], 4) from if_pos (.inr (by rw [hlast]; congr 1; exact UInt8.toNat_inj.1 hxl)))
    clear hlast
    go_enter Tryd.func18, Tryd.ntmps18
    go_wp2_with fail
    exact bodyPost_ret (results_sk1 skB rfl _ _ w.heap.size btZ_ok rfl HN.out) rfl ⟨_, by rw [HF.out]; rfl, by rw [HF.out]; exact BtAt.zero _, HKA.out, fun q hq => by simp [btFoot, btZ, own, Value.ownBlock] at hq⟩
  have q0 : ((xl : Int) == 0) = false := by simpa using hx0
  have HF := Lib.hid (show fromB key = (fromL key, 0) from if_neg (by
    rintro (h | h)
    · exact HBG.out h
    · rw [hlast] at h
      have := Option.some.inj h
      rw [this] at hxl
      exact hx0 hxl.symm))
  rw [HF.out]
  have hB := fromL_in (k := key) (by rw [← HZZ.out]; exact h8)
  clear hx0 hlast
  have HBI := Lib.hid hB
  have HK8 := Lib.hid (show (key : List UInt8).length ≤ 8192 from by rw [← HZZ.out]; exact h8)
  obtain ⟨M, hM⟩ : ∃ M, M = (s.size + 7) / 8 := ⟨_, rfl⟩
  have hM2 : ((s.size : Int) + 8 - 1).tdiv 8 = (M : Int) := by rw [Int.tdiv_eq_ediv_of_nonneg (by omega)]; omega
  have hM3 : ((s.size : Int) + 8 - 1) / 8 = (M : Int) := by omega
  have hwM : IntKind.i64.wrap (M : Int) = (M : Int) := IntWalk.i64_in _ ⟨by omega, by omega⟩
  obtain ⟨w2, hmk, hown, hk2⟩ := run_makeW (w.alloc (.cells btZA 27)) M (by omega)
  have HMK := Lib.hid hmk
  obtain ⟨G, hG⟩ : ∃ G, G = (w.alloc (.cells btZA 27)).heap.size := ⟨_, rfl⟩
  rw [← hG] at hown
  have HG := Lib.hid (show w.heap.size + 1 ≤ G from by rw [hG, World.size_alloc]; exact Nat.le_refl _)
  have HOW := Lib.hid hown; have HK2 := Lib.hid (HKA.out.trans hk2 (FSub.refl _ _)); have HN2 := Lib.hid (hk2.heap HN.out (by simp))
  have HMM := Lib.hid hM
  have HGE := Lib.hid hG
  clear hmk hown hk2 hB hM hG
  go_enter Tryd.func18, Tryd.ntmps18
  go_wp2_with ((with_reducible refine wpList_makeW _ _ ?_ ?_ HMK.out ?_); exact rfl; exact rfl)
  obtain ⟨Q0, hQ0⟩ : ∃ q : Nat, q = w.heap.size := ⟨_, rfl⟩
  rw [show (w.heap.size + 1) = G from by rw [HGE.out, World.size_alloc]]
  clear hQ0 HMK
  go_loopw [5, 30] (fun _ i wr => ∃ (k : Nat) (L : List Nat), i = .int .i64 (k : Int) ∧ k ≤ s.size ∧ L.length = M ∧ WIn L (fromK (key) k) ∧ rkW64.Own G wr (.slice (some ⟨G, 0, none⟩) M M) L ∧ Keeps [] w wr ∧ wr.heap[w.heap.size]? = some (.cells btZA 27 (0, 0))) (fun _ i _ => s.size - (intOf i).toNat)
  case atStart => exact ⟨0, _, rfl, by omega, List.length_replicate, by rw [fromK_0 HK8.out]; exact WIn.zeros M, HOW.out, HK2.out, HN2.out⟩
  case round =>
    obtain ⟨k, L, rfl, hk, hL, hWL, hOL, hKL, hNL⟩ := hrel
    have HWL := Lib.hid hWL; have HOL := Lib.hid hOL; have HKL := Lib.hid hKL; have HNL := Lib.hid hNL
    clear hWL hOL hKL hNL HOW HK2 HN2
    by_cases hlt : k < s.size
    · obtain ⟨x, hx⟩ : ∃ x : Nat, (s[k]'hlt).toNat = x := ⟨_, rfl⟩
      have HXD := Lib.hid (show ((key : List UInt8).getD k 0).toNat = x from by rw [← hx]; subst_vars; rw [bs_getZ])
      have hx8 : x < 256 := by rw [← hx]; exact UInt8.toNat_lt _
      obtain ⟨j, hj⟩ : ∃ j, j = k / 8 := ⟨_, rfl⟩
      obtain ⟨t, ht⟩ : ∃ t, t = k % 8 := ⟨_, rfl⟩
      have hd1 : (k : Int).tdiv 8 = (j : Int) := by rw [Int.tdiv_eq_ediv_of_nonneg (by omega)]; omega
      have hd2 : (k : Int) / 8 = (j : Int) := by omega
      have hd3 : (k : Int).tmod 8 = (t : Int) := by rw [Int.tmod_eq_emod_of_nonneg (by omega)]; omega
      have hd4 : (k : Int) % 8 = (t : Int) := by omega
      have hwj : IntKind.i64.wrap (j : Int) = (j : Int) := IntWalk.i64_in _ ⟨by omega, by omega⟩
      have hwt : IntKind.i64.wrap (t : Int) = (t : Int) := IntWalk.i64_in _ ⟨by omega, by omega⟩
      obtain ⟨u, hu⟩ : ∃ u, u = 8 * t := ⟨_, rfl⟩
      have hu1 : (t : Int) * 8 = (u : Int) := by omega
      have hwu : IntKind.i64.wrap (u : Int) = (u : Int) := IntWalk.i64_in _ ⟨by omega, by omega⟩
      have hu64 : u ≤ 64 := by omega
      have hjn : j < M := by have := HMM.out; omega
      have hwx : IntKind.u64.wrap (x : Int) = (x : Int) := by rw [IntKind.wrap_u64]; omega
      have hsl : IntKind.u64.wrap ((x : Int) * 2 ^ u) = ((upB x u : Nat) : Int) := by
        rw [IntKind.wrap_u64, upB, Int.natCast_emod, Int.natCast_mul, Int.natCast_pow]; rfl
      have HNXT := Lib.hid (HWL.out.byte (k := k) HK8.out (by rw [hL, ← hj]; exact hjn))
      rw [HXD.out, ← hj, ← ht, ← hu] at HNXT
      have e1 := bits_or_u64_nat (L.getD j 0) (upB x u) (HWL.out.get j) (upB_lt _ _)
      obtain ⟨y1, hy1⟩ : ∃ y1, y1 = L.getD j 0 := ⟨_, rfl⟩
      have HPUT := Lib.hid (fun (Y : World) (h : Keeps [] wr Y) (z : Nat) => by
        have h2 := W64.put (HOL.out.keeps h (by simp)) j (by omega) z
        rw [← hy1] at h2
        exact h2)
      rw [← hy1] at e1 HNXT
      obtain ⟨y2, hy2⟩ : ∃ y2, y2 = upB x u := ⟨_, rfl⟩
      rw [← hy2] at hsl e1 HNXT
      obtain ⟨z, hz⟩ : ∃ z, z = y1 ||| y2 := ⟨_, rfl⟩
      rw [← hz] at e1 HNXT
      clear hy1 hy2 hz hj ht hu
      obtain ⟨S0, hS0⟩ : ∃ S0 : World → Prop, S0 = fun y => Keeps [G] wr y := ⟨_, rfl⟩
      have HSE := Lib.hid hS0
      have hSD : S0 wr.drew := by rw [hS0]; exact (Keeps.refl _ _).drew
      clear hS0
      go_wp2_with fail
      refine wp_region_noPanic ?_
      refine wp_region_held_drew (S := S0) (by kernel_rfl) hSD (fun hHeld => ?_)
      have HY := Lib.hid ((Keeps.refl [] wr).drew)
      generalize wr.drew = YC at *
      refine tw 0 (h := ?_)
      refine tw 1 (h := ?_)
      refine tw 2 (h := ?_)
      refine tk 3 (y := by exact yields_indexW0 rfl _ _ rfl G _ _ j rfl rfl hjn) (h := ?_)
      refine tw 5 (h := ?_)
      refine tw 6 (h := ?_)
      refine tw 7 (h := ?_)
      refine tw 8 (h := ?_)
      refine tw 9 (h := ?_)
      refine tw 10 (h := ?_)
      refine tw 11 (h := ?_)
      refine tw 12 (h := ?_)
      refine rp 4 (h := fun K hK => ?_)
      refine wp_loadW rfl (g := G) (j := j) (z := .int .u64 (y1 : Int)) rfl ((HPUT.out YC HY.out 0).2.2) ?_
      refine hK.out _ _ (by rw [HSE.out]; exact HY.out.more (by simp)) (fun hHeld => ?_); clear hK K; try simp only [Act.put, lsA, lsZ, lsS]
      refine tw 13 (h := ?_)
      refine tk 14 (y := by exact yields_indexW0 rfl _ _ rfl G _ _ j rfl rfl hjn) (h := ?_)
      refine rp 15 (h := fun K hK => ?_)
      refine wp_putW rfl (g := G) (j := j) (z := (z : Int)) (old := (y1 : Int)) rfl rfl ((HPUT.out YC HY.out 0).2.2) ((HPUT.out YC HY.out 0).2.1) ?_
      have HOZ := Lib.hid (HPUT.out YC HY.out z).1
      have HYE := Lib.hid ((HY.out.more (G := [G]) (by simp)).setCell ⟨G, j, none⟩ (.int .u64 (z : Int)) (.inl (by simp)))
      refine hK.out _ _ (by rw [HSE.out]; exact HYE.out) (fun hHeld => ?_); clear hK K; try simp only [Act.put, lsA, lsZ, lsS]
      refine wpAnyH_done (by kernel_rfl) ?_ _
      refine NoPanic.normal ?_
      generalize YC.setCell ⟨G, j, none⟩ (.int .u64 (z : Int)) = YE at *
      have HKE := Lib.hid (show Keeps [] w YE from HKL.out.trans HYE.out (fun q hq => by have := HG.out; simp at hq; exact .inr (by omega)))
      have HNE := Lib.hid (HYE.out.heap HNL.out (by have := HG.out; simp; omega))
      clear HPUT HYE hHeld hSD HSE HY
      go_wp2_with fail
      go_roundw
      case rel => exact ⟨k + 1, L.set j z, by go_num, by omega, by rw [List.length_set]; exact hL, HNXT.out, HOZ.out, HKE.out, HNE.out⟩
      case measure => simp [intOf]; omega
    · obtain rfl : k = s.size := by omega
      have HALL := Lib.hid (show fromK (key) s.size = fromL (key) from by rw [HZZ.out]; exact fromK_all _)
      rw [HALL.out] at HWL
      have HKW := HKL; have HNW := HNL
      have HGW := Lib.hid (show ∀ p ∈ own (.slice (some ⟨G, 0, none⟩) M M), w.heap.size + 1 ≤ p ∧ p < wr.heap.size from fun p hp => by
        have := own_new HOL.out p hp; have := HG.out; omega)
      have HSW := Lib.hid (show w.heap.size + 1 ≤ wr.heap.size from lt_of_block HNL.out)
      have HMD := Lib.hid (btMade_any wr HOL.out.in_ (fun p hp => (HGW.out p hp).2) HWL.out (by have := HMM.out; omega))
      go_wp2_with fail
      refine HMD.out.mono ?_
      rintro e w4 ⟨st, rfl, hat, hk4, hft⟩
      obtain ⟨A, rfl, hA⟩ := hat.cells
      have HAT := Lib.hid hat; have HK4 := Lib.hid (HKW.out.trans hk4 (FSub.refl _ _)); have HN4 := Lib.hid (hk4.heap HNW.out (by simp)); have HOA := Lib.hid hA
      have HFT := Lib.hid (show ∀ q ∈ btFoot (.agg A.toArray), w.heap.size + 1 ≤ q from fun q hq => by
        rcases hft q hq with h | h
        · exact (HGW.out _ h).1
        · exact Nat.le_trans HSW.out h)
      clear hat hk4 hft hA HMD HNW
      go_wp2_with ((with_reducible refine wpList_putBt HOA.out btZ_ok ?_ ?_ HN4.out ?_); exact rfl; exact rfl)
      intro W2 hW2 hk2
      have HW2 := Lib.hid hW2; have HK5 := Lib.hid hk2
      clear hW2 hk2
      go_wp2_with fail
      try simp only [Exit.inBlock, Exit.then]
      have hks : Keeps [] w W2 := HK4.out.trans HK5.out (fun q hq => .inr (by simp at hq; omega))
      exact bodyPost_ret (results_sk1 skB rfl _ _ w.heap.size HOA.out rfl HW2.out) rfl ⟨_, rfl, HAT.out.keep HK5.out (fun q hq => by have := HFT.out q hq; simp; omega), hks, fun q hq => by have := HFT.out q hq; omega⟩
end Go.Proofs.YtbeniihbejakaaaDoor
/-
  The program's sets: groups, Key.
-/
namespace Go.Proofs.YtbeniihbejakaaaDoor
open Go.RowKit
set_option maxRecDepth 100000
set_option maxHeartbeats 4000000
theorem WIn.empty {W : List Nat} {S : List Int} (h : WIn W S) (hn : W.length = 0) : S = [] := List.eq_nil_iff_forall_not_mem.2 fun x hx => by
  have := wBit_lt ((h.any x).1 hx).2
  omega
theorem WIn.lenB {W : List Nat} {S : List Int} (h : WIn W S) (hl : W.getLast? ≠ some 0) (hn : 0 < W.length) : lenB S = 8 * (W.length - 1) + (Lib.bitLen (W.getD (W.length - 1) 0) + 7) / 8 := by
  obtain ⟨-, h1, h2, h3, h4⟩ := h.last hl hn
  have hne : S ≠ [] := fun e => by rw [e] at h1; cases h1
  obtain ⟨z, hz⟩ : ∃ z, S.getLast? = some z := by
    cases h : S.getLast? with
    | none => exact absurd (List.getLast?_eq_none_iff.1 h) hne
    | some z => exact ⟨z, rfl⟩
  have h5 := BIn.le_last h.set.1 hz _ h1
  have h6 := h2 z (List.mem_of_getLast? hz)
  unfold Go.Proofs.YtbeniihbejakaaaDoor.lenB
  rw [hz]
  show (z / 8).toNat + 1 = _
  omega
theorem WIn.byteB {W : List Nat} {S : List Int} (h : WIn W S) (i : Nat) : byteB S i = W.getD (i / 8) 0 / 2 ^ (8 * (i % 8)) % 256 := by
  apply Nat.eq_of_testBit_eq
  intro k
  rw [show (256 : Nat) = 2 ^ 8 by decide, Nat.testBit_mod_two_pow, Nat.testBit_div_two_pow]
  by_cases hk : k < 8
  · rw [decide_eq_true hk, Bool.true_and, Nat.testBit_eq_decide_div_mod_eq, byteB_bit S i hk]
    have h1 := h.tell (8 * i + k)
    unfold wBit at h1
    rw [show (8 * i + k) / 64 = i / 8 by omega, show (8 * i + k) % 64 = k + 8 * (i % 8) by omega] at h1
    have h2 := @bitB_one S ((8 * i + k : Nat) : Int)
    rw [show ((8 * i + k : Nat) : Int) = 8 * (i : Int) + (k : Int) by omega] at h1 h2
    cases hb : (W.getD (i / 8) 0).testBit (k + 8 * (i % 8)) with
    | true => rw [decide_eq_true_eq]; exact h2.2 (h1.2 hb)
    | false => rw [decide_eq_false_iff_not]; intro h3; have := h1.1 (h2.1 h3); rw [hb] at this; cases this
  · rw [decide_eq_false hk, Bool.false_and]
    exact Nat.testBit_lt_two_pow (Nat.lt_of_lt_of_le (byteB_lt S i) (show 2 ^ 8 ≤ 2 ^ k from Nat.pow_le_pow_right (by decide) (by omega)))
theorem btGroups_any (w : World) (st : Value) (S : List Int) (h : BtAt w st S) : Calls Tryd.prog 37 #[st] w fun e w' => e = .returned (.int .i64 (lenB S : Nat)) ∧ Keeps [] w w' := by
  obtain ⟨v, W, rfl, hI, ho, hW, hlast⟩ := h
  have hW1 := hW.len hlast
  obtain ⟨a, c, rfl, hc, hm, -⟩ := id hI
  have HI := Lib.hid hI; have HW := Lib.hid hW; have HL := Lib.hid hlast
  have HKA := Lib.hid (show Keeps [] w (w.alloc (.cells #[.slice a W.length c] 27)) from (Keeps.refl _ _).alloc _)
  clear hI hW ho hlast
  generalize hmm : W.length = m at *
  have HMM := Lib.hid hmm
  clear hmm
  by_cases h0 : m = 0
  case pos =>
    subst h0
    have HS := Lib.hid (HW.out.empty HMM.out)
    go_enter Tryd.func37, Tryd.ntmps37
    go_wp2_with fail
    go_ret
    exact ⟨by rw [HS.out]; rfl, HKA.out⟩
  obtain ⟨k, rfl⟩ : ∃ k, m = k + 1 := ⟨m - 1, by omega⟩
  have hkl : k < W.length := by rw [HMM.out]; omega
  obtain ⟨bk, o, rfl, -, c1⟩ := InW_getD HI.out hkl
  have c2 := HKA.out.cell c1 (by simp)
  have HLB := Lib.hid (HW.out.lenB HL.out (by rw [HMM.out]; omega))
  rw [HMM.out, show k + 1 - 1 = k from rfl] at HLB
  have HBL := Lib.hid (fun w => len64_any w (HW.out.get k))
  have hb64 : Lib.bitLen (W.getD k 0) ≤ 64 := by have := (HW.out.last HL.out (by rw [HMM.out]; omega)).2.2.2.2; rwa [HMM.out] at this
  clear h0 c1
  generalize W.getD k 0 = x at *
  go_enter Tryd.func37, Tryd.ntmps37
  go_wp2_with fail
  refine (HBL.out _).mono ?_
  rintro e w1 ⟨rfl, hk1⟩
  have HK1 := Lib.hid (HKA.out.trans hk1 (FSub.refl _ _))
  clear hk1
  generalize Lib.bitLen x = y at *
  obtain ⟨t, ht⟩ : ∃ t, t = (y + 7) / 8 := ⟨_, rfl⟩
  have hd1 : ((y : Int) + 8 - 1).tdiv 8 = (t : Int) := by rw [Int.tdiv_eq_ediv_of_nonneg (by omega)]; omega
  have hd2 : ((y : Int) + 8 - 1) / 8 = (t : Int) := by omega
  have hwt : IntKind.i64.wrap (t : Int) = (t : Int) := IntWalk.i64_in _ ⟨by omega, by omega⟩
  have ht9 : t ≤ 8 := by omega
  rw [← ht] at HLB
  clear ht
  go_wp2_with fail
  go_ret
  exact ⟨by rw [HLB.out]; go_num, HK1.out⟩
/-- The bytes of a key, the first k of them. -/
def keyP (S : List Int) (n k : Nat) : List Int := (List.range n).map fun i => if i < k then (Go.Proofs.YtbeniihbejakaaaDoor.byteB S i : Int) else 0
theorem keyP_len (S : List Int) (n k : Nat) : (keyP S n k).length = n := by simp [keyP]
theorem keyP_0 (S : List Int) (n : Nat) : keyP S n 0 = List.replicate n 0 := by
  apply List.ext_getElem
  · simp [keyP]
  · intro i h1 h2; simp [keyP]
theorem keyP_all (S : List Int) : keyP S (Go.Proofs.YtbeniihbejakaaaDoor.lenB S) (Go.Proofs.YtbeniihbejakaaaDoor.lenB S) = nb (keyB S) := by
  unfold keyP keyB nb
  rw [List.map_map]
  refine List.map_congr_left fun i hi => ?_
  rw [List.mem_range] at hi
  rw [if_pos hi]
  show _ = ((UInt8.ofNat (Go.Proofs.YtbeniihbejakaaaDoor.byteB S i)).toNat : Int)
  rw [UInt8.toNat_ofNat']
  have := byteB_lt S i
  omega
theorem keyP_next (S : List Int) {n k : Nat} (hk : k < n) : keyP S n (k + 1) = (keyP S n k).set k (Go.Proofs.YtbeniihbejakaaaDoor.byteB S k : Int) := by
  apply List.ext_getElem
  · simp [keyP]
  · intro i h1 h2
    rw [List.getElem_set]
    simp only [keyP, List.getElem_map, List.getElem_range]
    by_cases e : k = i
    · subst e; simp
    · rw [if_neg e]
      by_cases h : i < k
      · rw [if_pos h, if_pos (by omega)]
      · rw [if_neg h, if_neg (by omega)]
theorem btKey_any (w : World) (st : Value) (S : List Int) (h : BtAt w st S) : Calls Tryd.prog 15 #[st] w fun e w' => e = .returned (.string (bs (keyB S))) ∧ Keeps [] w w' := by
  have HGR := Lib.hid (fun w' (hk : Keeps [] w w') => btGroups_any w' st S (h.keep hk (by simp)))
  obtain ⟨v, W, rfl, hI, ho, hW, hlast⟩ := h
  have hW1 := hW.len hlast
  obtain ⟨a, c, rfl, hc, hm, -⟩ := id hI
  have HI := Lib.hid hI; have HW := Lib.hid hW
  have hb0 := heap_alloc_new w (.cells #[.slice a W.length c] 27)
  have HKA := Lib.hid (show Keeps [] w (w.alloc (.cells #[.slice a W.length c] 27)) from (Keeps.refl _ _).alloc _)
  have hlb : Go.Proofs.YtbeniihbejakaaaDoor.lenB S ≤ 8192 := lenB_le hW.set
  have HLW := Lib.hid (show Go.Proofs.YtbeniihbejakaaaDoor.lenB S ≤ 8 * W.length from by
    by_cases h0 : 0 < W.length
    · have := hW.lenB hlast h0
      have := (hW.last hlast h0).2.2.2.2
      omega
    · rw [hW.empty (by omega)]; simp [Go.Proofs.YtbeniihbejakaaaDoor.lenB])
  have HOK := Lib.hid (btOk1 a W.length c)
  have HB0 := Lib.hid hb0
  have HR0 := Lib.hid (block_range (A := [.slice a W.length c]) hb0)
  have HSZ := Lib.hid (show w.heap.size < (w.alloc (.cells #[.slice a W.length c] 27)).heap.size from lt_of_block hb0)
  clear hI hW ho hlast hb0
  generalize hmm : W.length = m at *
  have HMM := Lib.hid hmm
  clear hmm
  go_enter Tryd.func15, Tryd.ntmps15
  go_wp2_with ((with_reducible refine wpList_loadBt (g := w.heap.size) HOK.out ?_ ?_ HR0.out ?_); exact rfl; exact rfl)
  refine (HGR.out _ HKA.out).mono ?_
  rintro e w1 ⟨rfl, hk1⟩
  have HK1 := Lib.hid (HKA.out.trans hk1 (FSub.refl _ _)); have HB1 := Lib.hid (hk1.heap HB0.out (by simp)); have HS1 := Lib.hid (Nat.lt_of_lt_of_le HSZ.out hk1.size)
  clear hk1 HR0 HGR
  obtain ⟨n, hn⟩ : ∃ n, n = Go.Proofs.YtbeniihbejakaaaDoor.lenB S := ⟨_, rfl⟩
  obtain ⟨w2, hmk, hown, hk2⟩ := run_makeZ w1 n (by omega)
  have HMK := Lib.hid hmk
  obtain ⟨G, hG⟩ : ∃ G, G = w1.heap.size := ⟨_, rfl⟩
  rw [← hG] at hown HMK
  have HG := Lib.hid (show w.heap.size < G from by rw [hG]; exact HS1.out)
  have HOW := Lib.hid hown; have HK2 := Lib.hid (HK1.out.trans hk2 (FSub.refl _ _)); have HB2 := Lib.hid (hk2.heap HB1.out (by simp))
  have HN := Lib.hid hn
  rw [← hn] at HLW hlb ⊢
  clear hmk hown hk2 hn hG
  go_wp2_with ((with_reducible refine wpList_makeB _ _ ?_ ?_ HMK.out ?_); exact rfl; exact rfl)
  go_loopw [4, 10] (fun _ i wr => ∃ k : Nat, i = .int .i64 (k : Int) ∧ k ≤ n ∧ rkB.Own G wr (.slice (some ⟨G, 0, none⟩) n n) (keyP S n k) ∧ Keeps [] w wr ∧ wr.heap[w.heap.size]? = some (.cells #[.slice a m c] 27 (0, 0))) (fun _ i _ => n - (intOf i).toNat)
  case atStart => exact ⟨0, rfl, by omega, by rw [keyP_0]; exact HOW.out, HK2.out, HB2.out⟩
  case round =>
    obtain ⟨k, rfl, hk, hO, hKW, hBW⟩ := hrel
    have HO := Lib.hid hO; have HKW := Lib.hid hKW; have HBW := Lib.hid hBW
    clear hO hKW hBW HOW HK2 HB2
    by_cases hlt : k < n
    · obtain ⟨j, hj⟩ : ∃ j, j = k / 8 := ⟨_, rfl⟩
      obtain ⟨t, ht⟩ : ∃ t, t = k % 8 := ⟨_, rfl⟩
      have hd1 : (k : Int).tdiv 8 = (j : Int) := by rw [Int.tdiv_eq_ediv_of_nonneg (by omega)]; omega
      have hd2 : (k : Int) / 8 = (j : Int) := by omega
      have hd3 : (k : Int).tmod 8 = (t : Int) := by rw [Int.tmod_eq_emod_of_nonneg (by omega)]; omega
      have hd4 : (k : Int) % 8 = (t : Int) := by omega
      have hwj : IntKind.i64.wrap (j : Int) = (j : Int) := IntWalk.i64_in _ ⟨by omega, by omega⟩
      have hwt : IntKind.i64.wrap (t : Int) = (t : Int) := IntWalk.i64_in _ ⟨by omega, by omega⟩
      obtain ⟨u, hu⟩ : ∃ u, u = 8 * t := ⟨_, rfl⟩
      have hu1 : (t : Int) * 8 = (u : Int) := by omega
      have hwu : IntKind.i64.wrap (u : Int) = (u : Int) := IntWalk.i64_in _ ⟨by omega, by omega⟩
      have hu64 : u ≤ 64 := by omega
      have hjm : j < m := by have := HLW.out; omega
      obtain ⟨bk, o, rfl, -, c1⟩ := InW_getD HI.out (show j < W.length by rw [HMM.out]; exact hjm)
      have c2 := HKW.out.cell c1 (by simp)
      have hbt := HW.out.byteB k
      rw [← hj, ← ht, ← hu] at hbt
      have hb256 := byteB_lt S k
      have hbc := cell_lit HBW.out 0 rfl
      have HX := Lib.hid (keyP_next S hlt)
      have hput := B8.put HO.out k (by rw [keyP_len]; exact hlt) (Go.Proofs.YtbeniihbejakaaaDoor.byteB S k : Int)
      have hold : (keyP S n k)[k]'(by rw [keyP_len]; exact hlt) = 0 := by simp [keyP]
      rw [hold] at hput
      generalize Go.Proofs.YtbeniihbejakaaaDoor.byteB S k = y at *
      generalize W.getD j 0 = x at *
      have hcv : IntKind.u8.wrap ((x : Int) / 2 ^ u) = (y : Int) := by
        rw [hbt, Int.natCast_emod, Int.natCast_ediv, Int.natCast_pow]
        simp [IntKind.wrap, IntKind.signed, IntKind.bits]
      have f1 := hput.2.1
      have f2 := hput.2.2
      have HOZ := Lib.hid hput.1
      have HKE := Lib.hid ((HKW.out.more (G := []) (by simp)).setCell ⟨G, k, none⟩ (.int .u8 (y : Int)) (.inr (by have := HG.out; show w.heap.size ≤ G; omega)))
      have HBE := Lib.hid (((Keeps.refl [G] wr).setCell ⟨G, k, none⟩ (.int .u8 (y : Int)) (.inl (by simp))).heap HBW.out (by have := HG.out; simp; omega))
      clear hj ht hu hbt hold hput c1
      go_wp2_with fail
      go_roundw
      case rel => exact ⟨k + 1, by go_num, by omega, by rw [HX.out]; exact HOZ.out, HKE.out, HBE.out⟩
      case measure => simp [intOf]; omega
    · obtain rfl : k = n := by omega
      have hcv := conv_own wr (by rw [← keyP_all, ← HN.out]; exact HO.out : rkB.Own G wr _ (nb (keyB S)))
      go_wp2_with fail
      go_ret
      exact ⟨rfl, HKW.out⟩
end Go.Proofs.YtbeniihbejakaaaDoor
