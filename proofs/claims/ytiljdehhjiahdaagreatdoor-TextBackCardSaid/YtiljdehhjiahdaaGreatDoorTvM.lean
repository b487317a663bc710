/-
  TextBack's walk. (Printed by draft/genback6.py.)
-/
import Derived.Test.YtiljdehhjiahdaaGreatDoorG48
set_option linter.unusedSimpArgs false
set_option linter.unusedVariables false
namespace Go.Proofs.YtiljdehhjiahdaaGreatDoor
open Go.RowKit
theorem evSame_no {x y : Ev} (h : ¬ x = y) : evSame x y = false := eqB_no h
theorem line_ne6 {x : Ev} (hg : evGood x = true) : (bs (evLine x)).toList.isEmpty = false := by
  have h := line_ne (good_parts hg).1
  rw [toL_bs]
  cases e : evLine x with
  | nil => exact absurd e h
  | cons a l => rfl
theorem contains6 (x : Ev) (w : World) : Calls Tryz.prog 11 #[.string (bs (evLine x)), .string ⟨#[10]⟩] w fun e w' => e = .returned (.bool false) ∧ w' = w := by
  refine (Tryz.strings_Contains_one (bs (evLine x)) 10 w).mono ?_
  rintro e w' ⟨he, hw⟩
  refine ⟨?_, hw⟩
  rw [he]
  have h1 : (bs (evLine x)).data.toList = evLine x := by simp [bs]
  rw [h1]
  have h2 : ¬ 0 ≤ Lib.indexByte (evLine x) 10 := by
    intro h
    have h3 := Lib.indexByte_some (l := evLine x) (c := 10) (o := (Lib.indexByte (evLine x) 10).toNat) (by omega)
    exact line_free x (List.mem_of_getElem? h3.1)
  simp [h2]
set_option maxHeartbeats 16000000 in
set_option maxRecDepth 100000 in
theorem TextBack_any (w : World) (hG : Glob6 w) (x y : Ev) (hx : x.In) (hy : y.In) {N : Nat} (tx rd ty ry : Value) (ht : EvAt N w tx rd x) (hu : EvAt N w ty ry y) (hN : N ≤ w.heap.size) (L : List UInt8) (hL : (L.length : Int) ≤ 9223372036854775807) :
    Calls Tryz.prog 3 #[.agg (evC x tx rd), .agg (evC y ty ry), .string (bs L)] w fun e w' => e = .returned (.bool true) ∧ Keeps [] w w' := by
  have hk0 : Keeps [] w ((w.alloc (.cells (evC x tx rd) 32)).alloc (.cells (evC y ty ry) 32)) := ((Keeps.refl [] w).alloc _).alloc _
  have hb0 := ((Keeps.refl [] (w.alloc (.cells (evC x tx rd) 32))).alloc (.cells (evC y ty ry) 32)).heap (heap_alloc_new w (.cells (evC x tx rd) 32)) (by simp)
  have hc0 := heap_alloc_new (w.alloc (.cells (evC x tx rd) 32)) (.cells (evC y ty ry) 32)
  have hcs : (w.alloc (.cells (evC x tx rd) 32)).heap.size = w.heap.size + 1 := by simp
  rw [hcs] at hc0
  clear hcs
  have hx1 := ht.t.one
  have hx2 := ht.r.one
  have hy1 := hu.t.one
  have hy2 := hu.r.one
  have HK0 := Lib.hid hk0; have HT0 := Lib.hid (ht.new hk0 hN); have HU0 := Lib.hid (hu.new hk0 hN)
  have hn0 := Nat.le_trans hN hk0.size
  have HG0 := Lib.hid (hG.new hk0)
  have HR := Lib.hid (fun (hl : L.length ≤ 1000000) w hG => txParse_any w hG L hl)
  have hsz : (bs L).size = L.length := bs_size L
  clear hk0 ht hu hN hG
  generalize hS : bs L = S at *
  go_enter Tryz.func3, Tryz.ntmps3
  go_wp2_with ((with_reducible apply wpList_load_ev); exact rfl; (first | assumption | (refine heap_alloc_lt ?_; assumption) | (refine heap_alloc_lt (heap_alloc_lt ?_); assumption) | exact heap_alloc_at (by simp)); exact rfl)
  generalize (w.alloc (.cells (evC x tx rd) 32)).alloc (.cells (evC y ty ry) 32) = W0 at *
  generalize w.heap.size = b at *
  refine (few6_any W0 x tx rd HT0.out hn0).mono ?_; rintro z w1 ⟨fb, rfl, hk1⟩
  have hb1 := hk1.heap hb0 (by simp)
  have hc1 := hk1.heap hc0 (by simp)
  have HK1 := Lib.hid (HK0.out.trans hk1 (FSub.refl _ _))
  have HT1 := Lib.hid (HT0.out.new hk1 hn0)
  have HU1 := Lib.hid (HU0.out.new hk1 hn0)
  have HG1 := Lib.hid (HG0.out.new hk1)
  have hn1 := Nat.le_trans hn0 hk1.size
  clear hk1 hb0 hc0 HT0 HU0 HG0 HK0 hn0
  cases fb with
  | false =>
    go_wp2_with fail
    refine (works6_any w1 (HG1.out)).mono ?_; rintro z wa ⟨rfl, hka⟩
    have HKZ := Lib.hid (HK1.out.trans hka (FSub.refl _ _))
    clear hka
    go_wp2_with fail
    go_ret
    exact ⟨rfl, HKZ.out⟩
  | true =>
    go_wp2_with ((with_reducible apply wpList_load_evG6); exact rfl; exact rfl; assumption; exact rfl)
    refine (few6_any w1 y ty ry HU1.out hn1).mono ?_; rintro z w2 ⟨fb, rfl, hk2⟩
    have hb2 := hk2.heap hb1 (by simp)
    have hc2 := hk2.heap hc1 (by simp)
    have HK2 := Lib.hid (HK1.out.trans hk2 (FSub.refl _ _))
    have HT2 := Lib.hid (HT1.out.new hk2 hn1)
    have HU2 := Lib.hid (HU1.out.new hk2 hn1)
    have HG2 := Lib.hid (HG1.out.new hk2)
    have hn2 := Nat.le_trans hn1 hk2.size
    clear hk2 hb1 hc1 HT1 HU1 HG1 HK1 hn1
    cases fb with
    | false =>
      go_wp2_with fail
      refine (works6_any w2 (HG2.out)).mono ?_; rintro z wa ⟨rfl, hka⟩
      have HKZ := Lib.hid (HK2.out.trans hka (FSub.refl _ _))
      clear hka
      go_wp2_with fail
      go_ret
      exact ⟨rfl, HKZ.out⟩
    | true =>
      by_cases hl : L.length ≤ 2000
      · have z1 : ¬ 2000 < (S.size : Int) := by omega
        have hr := HR.out (by omega)
        clear HR
        have HR := Lib.hid hr
        clear hr hsz hL hl
        rcases bool_two (evGood x) with hg | hg
        · skip
          -- x has a line
          have hl := fun w hG (ht : EvAt N w tx rd x) hN => line_yes w hG x hx tx rd ht hN hg
          have hp := fun w hG => parse6_yes w hG x hx hg
          have hcn := contains6 x
          have hne := line_ne6 hg
          generalize hSX : bs (evLine x) = SX at *
          have HL1 := Lib.hid hl; have HP := Lib.hid hp; have HCN := Lib.hid hcn; have HSX := Lib.hid hSX
          clear hl hp hcn hSX
          go_wp2_with ((with_reducible apply wpList_load_ev); exact rfl; (first | assumption | (refine heap_alloc_lt ?_; assumption) | (refine heap_alloc_lt (heap_alloc_lt ?_); assumption) | exact heap_alloc_at (by simp)); exact rfl)
          refine (HL1.out _ HG2.out HT2.out hn2).mono ?_; rintro z w3 ⟨rfl, hk3⟩
          have hb3 := hk3.heap hb2 (by simp)
          have hc3 := hk3.heap hc2 (by simp)
          have HK3 := Lib.hid (HK2.out.trans hk3 (FSub.refl _ _))
          have HT3 := Lib.hid (HT2.out.new hk3 hn2)
          have HU3 := Lib.hid (HU2.out.new hk3 hn2)
          have HG3 := Lib.hid (HG2.out.new hk3)
          have hn3 := Nat.le_trans hn2 hk3.size
          clear hk3 hb2 hc2 HT2 HU2 HG2 HK2 hn2 HL1
          go_wp2_with ((with_reducible apply wpList_load_ev); exact rfl; (first | assumption | (refine heap_alloc_lt ?_; assumption) | (refine heap_alloc_lt (heap_alloc_lt ?_); assumption) | exact heap_alloc_at (by simp)); exact rfl)
          rcases bool_two (evGood y) with hgy | hgy
          · have hl := fun w hG (ht : EvAt N w ty ry y) hN => line_yes w hG y hy ty ry ht hN hgy
            by_cases hxy : x = y
            · subst hxy
              rw [HSX.out] at hl
              have HL2 := Lib.hid hl
              have hsm := evSame_self x
              have HSM := Lib.hid hsm
              clear hl hsm hgy
              refine (HL2.out _ HG3.out HU3.out hn3).mono ?_; rintro z w4 ⟨rfl, hk4⟩
              have hb4 := hk4.heap hb3 (by simp)
              have hc4 := hk4.heap hc3 (by simp)
              have HK4 := Lib.hid (HK3.out.trans hk4 (FSub.refl _ _))
              have HT4 := Lib.hid (HT3.out.new hk4 hn3)
              have HU4 := Lib.hid (HU3.out.new hk4 hn3)
              have HG4 := Lib.hid (HG3.out.new hk4)
              have hn4 := Nat.le_trans hn3 hk4.size
              clear hk4 hb3 hc3 HT3 HU3 HG3 HK3 hn3 HL2
              go_wp2_with fail
              refine (HP.out _ HG4.out).mono ?_; rintro z w8 ⟨tz, rz, rfl, hz, hk8⟩
              have hz1 := hz.t.one
              have hz2 := hz.r.one
              have HZ := Lib.hid hz
              have HKA := Lib.hid ((Keeps.refl [] w8).alloc (.cells #[.int .u8 0, .int .u8 0, .int .u16 0, .int .u8 0, .int .u8 0, .int .u8 0, .int .u16 0, .int .u16 0, .int .u8 0, .int .u16 0, .slice none 0 0, .slice none 0 0, .int .u8 0, .int .i64 0, .int .i64 0, .int .i64 0, .bool false, .bool false, .bool false] 32))
              have hb8 := hk8.heap hb4 (by simp)
              have hc8 := hk8.heap hc4 (by simp)
              have HK8 := Lib.hid (HK4.out.trans hk8 (FSub.refl _ _))
              have HT8 := Lib.hid (HT4.out.new hk8 hn4)
              have HU8 := Lib.hid (HU4.out.new hk8 hn4)
              have HG8 := Lib.hid (HG4.out.new hk8)
              have hn8 := Nat.le_trans hn4 hk8.size
              clear hk8 hb4 hc4 HT4 HU4 HG4 HK4 hn4 HP
              clear hz
              go_wp2_with ((with_reducible apply wpList_put_ev); exact rfl; exact rfl; (first | assumption | (refine heap_alloc_lt ?_; assumption) | (refine heap_alloc_lt (heap_alloc_lt ?_); assumption) | exact heap_alloc_at (by simp)); exact ⟨rfl, rfl⟩; (refine evC_one _ ?_ ?_ <;> first | rfl | assumption))
              intro W9 hd9 hk9
              have hk9 : Keeps [] w8 W9 := HKA.out.trans hk9 (fun q hq => .inr (by simp at hq; omega))
              have HZ9 := Lib.hid (HZ.out.new hk9 (Nat.le_refl _))
              have hs9 : w8.heap.size ≤ W9.heap.size := hk9.size
              have hb9 := hk9.heap hb8 (by simp)
              have hc9 := hk9.heap hc8 (by simp)
              have HK9 := Lib.hid (HK8.out.trans hk9 (FSub.refl _ _))
              have HT9 := Lib.hid (HT8.out.new hk9 hn8)
              have HU9 := Lib.hid (HU8.out.new hk9 hn8)
              have HG9 := Lib.hid (HG8.out.new hk9)
              have hn9 := Nat.le_trans hn8 hk9.size
              clear hk9 hb8 hc8 HT8 HU8 HG8 HK8 hn8 HKA HZ
              generalize w8.heap.size = c at *
              go_wp2_with ((with_reducible apply wpList_load_evG6); exact rfl; exact rfl; assumption; exact rfl)
              refine (Same5_any W9 x x _ _ _ _ HZ9.out HT9.out hs9 hn9).mono ?_; rintro z w10 ⟨rfl, hk10⟩
              rw [evSame_self]
              have hb10 := hk10.heap hb9 (by simp)
              have hc10 := hk10.heap hc9 (by simp)
              have HK10 := Lib.hid (HK9.out.trans hk10 (FSub.refl _ _))
              have HT10 := Lib.hid (HT9.out.new hk10 hn9)
              have HU10 := Lib.hid (HU9.out.new hk10 hn9)
              have HG10 := Lib.hid (HG9.out.new hk10)
              have hn10 := Nat.le_trans hn9 hk10.size
              clear hk10 hb9 hc9 HT9 HU9 HG9 HK9 hn9 HZ9 hd9 hs9
              go_wp2_with fail
              refine (HCN.out w10).mono ?_; rintro z w10 ⟨rfl, rfl⟩
              clear HCN

              go_wp2_with ((with_reducible apply wpList_load_evG6); exact rfl; exact rfl; assumption; exact rfl)
              refine (Same5_any w10 x x _ _ _ _ HT10.out HU10.out hn10 hn10).mono ?_; rintro z w11 ⟨rfl, hk11⟩
              rw [HSM.out]
              have hb11 := hk11.heap hb10 (by simp)
              have hc11 := hk11.heap hc10 (by simp)
              have HK11 := Lib.hid (HK10.out.trans hk11 (FSub.refl _ _))
              have HT11 := Lib.hid (HT10.out.new hk11 hn10)
              have HU11 := Lib.hid (HU10.out.new hk11 hn10)
              have HG11 := Lib.hid (HG10.out.new hk11)
              have hn11 := Nat.le_trans hn10 hk11.size
              clear hk11 hb10 hc10 HT10 HU10 HG10 HK10 hn10 HSM
              go_wp2_with fail
              clear hx hy
              refine (HR.out _ HG11.out).mono ?_; rintro z w5 ⟨tx', rd', rfl, hx', hk5⟩
              have HK5 := Lib.hid (HK11.out.trans hk5 (FSub.refl _ _))
              have HG5 := Lib.hid (HG11.out.new hk5)
              have hx1' := hx'.t.one
              have hx2' := hx'.r.one
              have HX := Lib.hid hx'
              have HKA := Lib.hid ((Keeps.refl [] w5).alloc (.cells #[.int .u8 0, .int .u8 0, .int .u16 0, .int .u8 0, .int .u8 0, .int .u8 0, .int .u16 0, .int .u16 0, .int .u8 0, .int .u16 0, .slice none 0 0, .slice none 0 0, .int .u8 0, .int .i64 0, .int .i64 0, .int .i64 0, .bool false, .bool false, .bool false] 32))
              clear hk5 HR HG11 HK11 HT11 HU11 hb11 hc11 hn11 hx'

              rcases lnE_two L with h0 | h0
              · obtain ⟨g0, g1, g2⟩ := ln_ok h0
                have hl := fun w hG N tx rd ht hN => line_yes w hG (lnX L) g0 tx rd (N := N) ht hN g1
                rw [g2, hS] at hl
                have HL2 := Lib.hid hl
                rw [h0]
                clear hl g0 g1 g2 h0
                generalize lnX L = X at *
                go_wp2_with ((with_reducible apply wpList_put_ev); exact rfl; exact rfl; (first | assumption | (refine heap_alloc_lt ?_; assumption) | (refine heap_alloc_lt (heap_alloc_lt ?_); assumption) | exact heap_alloc_at (by simp)); exact ⟨rfl, rfl⟩; (refine evC_one _ ?_ ?_ <;> first | rfl | assumption))
                intro W6 hb6 hk6
                have hq6 : Keeps [] w5 W6 := HKA.out.trans hk6 (fun q hq => .inr (by simp at hq; omega))
                have HK6 := Lib.hid (HK5.out.trans hq6 (FSub.refl _ _))
                have HX6 := Lib.hid (HX.out.new hq6 (Nat.le_refl _))
                have HG6 := Lib.hid (HG5.out.new hq6)
                have hs6 : w5.heap.size ≤ W6.heap.size := hq6.size
                clear hk6 hq6 HK5 HX HG5 HKA
                generalize w5.heap.size = c at *
                go_wp2_with ((with_reducible apply wpList_load_ev); exact rfl; (first | assumption | (refine heap_alloc_lt ?_; assumption) | (refine heap_alloc_lt (heap_alloc_lt ?_); assumption) | exact heap_alloc_at (by simp)); exact rfl)
                refine (HL2.out W6 HG6.out c _ _ HX6.out hs6).mono ?_; rintro z w7 ⟨rfl, hk7⟩
                have HK7 := Lib.hid (HK6.out.trans hk7 (FSub.refl _ _))
                have HG7 := Lib.hid (HG6.out.new hk7)
                clear HK6 HG6 hk7 HL2 HX6
                go_wp2_with fail
                refine (works6_any w7 (HG7.out)).mono ?_; rintro z wa ⟨rfl, hka⟩
                have HKZ := Lib.hid (HK7.out.trans hka (FSub.refl _ _))
                clear hka
                go_wp2_with fail
                go_ret
                exact ⟨rfl, HKZ.out⟩
              · obtain ⟨g0, -⟩ := ln_bad (s := L) (by omega)
                rw [h0]
                rw [g0] at HX ⊢
                clear h0 g0
                go_wp2_with ((with_reducible apply wpList_put_ev); exact rfl; exact rfl; (first | assumption | (refine heap_alloc_lt ?_; assumption) | (refine heap_alloc_lt (heap_alloc_lt ?_); assumption) | exact heap_alloc_at (by simp)); exact ⟨rfl, rfl⟩; (refine evC_one _ ?_ ?_ <;> first | rfl | assumption))
                intro W6 hb6 hk6
                have hq6 : Keeps [] w5 W6 := HKA.out.trans hk6 (fun q hq => .inr (by simp at hq; omega))
                have HK6 := Lib.hid (HK5.out.trans hq6 (FSub.refl _ _))
                have HX6 := Lib.hid (HX.out.new hq6 (Nat.le_refl _))
                have HG6 := Lib.hid (HG5.out.new hq6)
                have hs6 : w5.heap.size ≤ W6.heap.size := hq6.size
                clear hk6 hq6 HK5 HX HG5 HKA
                generalize w5.heap.size = c at *
                go_wp2_with ((with_reducible apply wpList_load_ev); exact rfl; (first | assumption | (refine heap_alloc_lt ?_; assumption) | (refine heap_alloc_lt (heap_alloc_lt ?_); assumption) | exact heap_alloc_at (by simp)); exact rfl)
                rw [zero_cells6]
                refine (Same5_any W6 evZero evZero _ _ _ _ HX6.out (⟨Mics.nil c _, Lists.nil _ _⟩ : EvAt c W6 _ _ evZero) hs6 hs6).mono ?_; rintro z w7 ⟨rfl, hk7⟩
                rw [evSame_self]
                have HK7 := Lib.hid (HK6.out.trans hk7 (FSub.refl _ _))
                have HG7 := Lib.hid (HG6.out.new hk7)
                clear HK6 HG6 HX6 hk7
                go_wp2_with fail
                refine (works6_any w7 (HG7.out)).mono ?_; rintro z wa ⟨rfl, hka⟩
                have HKZ := Lib.hid (HK7.out.trans hka (FSub.refl _ _))
                clear hka
                go_wp2_with fail
                go_ret
                exact ⟨rfl, HKZ.out⟩

            · have hns : (SX.toList == (bs (evLine y)).toList) = false := by
                rw [← HSX.out, toL_bs, toL_bs, beq_eq_false_iff_ne]
                exact fun e => hxy (line_inj hx hg hy hgy e)
              have hsm := evSame_no hxy
              generalize bs (evLine y) = SY at *
              have HL2 := Lib.hid hl
              have HSM := Lib.hid hsm
              clear hl hsm hgy
              refine (HL2.out _ HG3.out HU3.out hn3).mono ?_; rintro z w4 ⟨rfl, hk4⟩
              have hb4 := hk4.heap hb3 (by simp)
              have hc4 := hk4.heap hc3 (by simp)
              have HK4 := Lib.hid (HK3.out.trans hk4 (FSub.refl _ _))
              have HT4 := Lib.hid (HT3.out.new hk4 hn3)
              have HU4 := Lib.hid (HU3.out.new hk4 hn3)
              have HG4 := Lib.hid (HG3.out.new hk4)
              have hn4 := Nat.le_trans hn3 hk4.size
              clear hk4 hb3 hc3 HT3 HU3 HG3 HK3 hn3 HL2
              go_wp2_with fail
              refine (HP.out _ HG4.out).mono ?_; rintro z w8 ⟨tz, rz, rfl, hz, hk8⟩
              have hz1 := hz.t.one
              have hz2 := hz.r.one
              have HZ := Lib.hid hz
              have HKA := Lib.hid ((Keeps.refl [] w8).alloc (.cells #[.int .u8 0, .int .u8 0, .int .u16 0, .int .u8 0, .int .u8 0, .int .u8 0, .int .u16 0, .int .u16 0, .int .u8 0, .int .u16 0, .slice none 0 0, .slice none 0 0, .int .u8 0, .int .i64 0, .int .i64 0, .int .i64 0, .bool false, .bool false, .bool false] 32))
              have hb8 := hk8.heap hb4 (by simp)
              have hc8 := hk8.heap hc4 (by simp)
              have HK8 := Lib.hid (HK4.out.trans hk8 (FSub.refl _ _))
              have HT8 := Lib.hid (HT4.out.new hk8 hn4)
              have HU8 := Lib.hid (HU4.out.new hk8 hn4)
              have HG8 := Lib.hid (HG4.out.new hk8)
              have hn8 := Nat.le_trans hn4 hk8.size
              clear hk8 hb4 hc4 HT4 HU4 HG4 HK4 hn4 HP
              clear hz
              go_wp2_with ((with_reducible apply wpList_put_ev); exact rfl; exact rfl; (first | assumption | (refine heap_alloc_lt ?_; assumption) | (refine heap_alloc_lt (heap_alloc_lt ?_); assumption) | exact heap_alloc_at (by simp)); exact ⟨rfl, rfl⟩; (refine evC_one _ ?_ ?_ <;> first | rfl | assumption))
              intro W9 hd9 hk9
              have hk9 : Keeps [] w8 W9 := HKA.out.trans hk9 (fun q hq => .inr (by simp at hq; omega))
              have HZ9 := Lib.hid (HZ.out.new hk9 (Nat.le_refl _))
              have hs9 : w8.heap.size ≤ W9.heap.size := hk9.size
              have hb9 := hk9.heap hb8 (by simp)
              have hc9 := hk9.heap hc8 (by simp)
              have HK9 := Lib.hid (HK8.out.trans hk9 (FSub.refl _ _))
              have HT9 := Lib.hid (HT8.out.new hk9 hn8)
              have HU9 := Lib.hid (HU8.out.new hk9 hn8)
              have HG9 := Lib.hid (HG8.out.new hk9)
              have hn9 := Nat.le_trans hn8 hk9.size
              clear hk9 hb8 hc8 HT8 HU8 HG8 HK8 hn8 HKA HZ
              generalize w8.heap.size = c at *
              go_wp2_with ((with_reducible apply wpList_load_evG6); exact rfl; exact rfl; assumption; exact rfl)
              refine (Same5_any W9 x x _ _ _ _ HZ9.out HT9.out hs9 hn9).mono ?_; rintro z w10 ⟨rfl, hk10⟩
              rw [evSame_self]
              have hb10 := hk10.heap hb9 (by simp)
              have hc10 := hk10.heap hc9 (by simp)
              have HK10 := Lib.hid (HK9.out.trans hk10 (FSub.refl _ _))
              have HT10 := Lib.hid (HT9.out.new hk10 hn9)
              have HU10 := Lib.hid (HU9.out.new hk10 hn9)
              have HG10 := Lib.hid (HG9.out.new hk10)
              have hn10 := Nat.le_trans hn9 hk10.size
              clear hk10 hb9 hc9 HT9 HU9 HG9 HK9 hn9 HZ9 hd9 hs9
              go_wp2_with fail
              refine (HCN.out w10).mono ?_; rintro z w10 ⟨rfl, rfl⟩
              clear HCN

              go_wp2_with ((with_reducible apply wpList_load_evG6); exact rfl; exact rfl; assumption; exact rfl)
              refine (Same5_any w10 x y _ _ _ _ HT10.out HU10.out hn10 hn10).mono ?_; rintro z w11 ⟨rfl, hk11⟩
              rw [HSM.out]
              have hb11 := hk11.heap hb10 (by simp)
              have hc11 := hk11.heap hc10 (by simp)
              have HK11 := Lib.hid (HK10.out.trans hk11 (FSub.refl _ _))
              have HT11 := Lib.hid (HT10.out.new hk11 hn10)
              have HU11 := Lib.hid (HU10.out.new hk11 hn10)
              have HG11 := Lib.hid (HG10.out.new hk11)
              have hn11 := Nat.le_trans hn10 hk11.size
              clear hk11 hb10 hc10 HT10 HU10 HG10 HK10 hn10 HSM
              go_wp2_with fail
              clear hx hy
              refine (HR.out _ HG11.out).mono ?_; rintro z w5 ⟨tx', rd', rfl, hx', hk5⟩
              have HK5 := Lib.hid (HK11.out.trans hk5 (FSub.refl _ _))
              have HG5 := Lib.hid (HG11.out.new hk5)
              have hx1' := hx'.t.one
              have hx2' := hx'.r.one
              have HX := Lib.hid hx'
              have HKA := Lib.hid ((Keeps.refl [] w5).alloc (.cells #[.int .u8 0, .int .u8 0, .int .u16 0, .int .u8 0, .int .u8 0, .int .u8 0, .int .u16 0, .int .u16 0, .int .u8 0, .int .u16 0, .slice none 0 0, .slice none 0 0, .int .u8 0, .int .i64 0, .int .i64 0, .int .i64 0, .bool false, .bool false, .bool false] 32))
              clear hk5 HR HG11 HK11 HT11 HU11 hb11 hc11 hn11 hx'

              rcases lnE_two L with h0 | h0
              · obtain ⟨g0, g1, g2⟩ := ln_ok h0
                have hl := fun w hG N tx rd ht hN => line_yes w hG (lnX L) g0 tx rd (N := N) ht hN g1
                rw [g2, hS] at hl
                have HL2 := Lib.hid hl
                rw [h0]
                clear hl g0 g1 g2 h0
                generalize lnX L = X at *
                go_wp2_with ((with_reducible apply wpList_put_ev); exact rfl; exact rfl; (first | assumption | (refine heap_alloc_lt ?_; assumption) | (refine heap_alloc_lt (heap_alloc_lt ?_); assumption) | exact heap_alloc_at (by simp)); exact ⟨rfl, rfl⟩; (refine evC_one _ ?_ ?_ <;> first | rfl | assumption))
                intro W6 hb6 hk6
                have hq6 : Keeps [] w5 W6 := HKA.out.trans hk6 (fun q hq => .inr (by simp at hq; omega))
                have HK6 := Lib.hid (HK5.out.trans hq6 (FSub.refl _ _))
                have HX6 := Lib.hid (HX.out.new hq6 (Nat.le_refl _))
                have HG6 := Lib.hid (HG5.out.new hq6)
                have hs6 : w5.heap.size ≤ W6.heap.size := hq6.size
                clear hk6 hq6 HK5 HX HG5 HKA
                generalize w5.heap.size = c at *
                go_wp2_with ((with_reducible apply wpList_load_ev); exact rfl; (first | assumption | (refine heap_alloc_lt ?_; assumption) | (refine heap_alloc_lt (heap_alloc_lt ?_); assumption) | exact heap_alloc_at (by simp)); exact rfl)
                refine (HL2.out W6 HG6.out c _ _ HX6.out hs6).mono ?_; rintro z w7 ⟨rfl, hk7⟩
                have HK7 := Lib.hid (HK6.out.trans hk7 (FSub.refl _ _))
                have HG7 := Lib.hid (HG6.out.new hk7)
                clear HK6 HG6 hk7 HL2 HX6
                go_wp2_with fail
                refine (works6_any w7 (HG7.out)).mono ?_; rintro z wa ⟨rfl, hka⟩
                have HKZ := Lib.hid (HK7.out.trans hka (FSub.refl _ _))
                clear hka
                go_wp2_with fail
                go_ret
                exact ⟨rfl, HKZ.out⟩
              · obtain ⟨g0, -⟩ := ln_bad (s := L) (by omega)
                rw [h0]
                rw [g0] at HX ⊢
                clear h0 g0
                go_wp2_with ((with_reducible apply wpList_put_ev); exact rfl; exact rfl; (first | assumption | (refine heap_alloc_lt ?_; assumption) | (refine heap_alloc_lt (heap_alloc_lt ?_); assumption) | exact heap_alloc_at (by simp)); exact ⟨rfl, rfl⟩; (refine evC_one _ ?_ ?_ <;> first | rfl | assumption))
                intro W6 hb6 hk6
                have hq6 : Keeps [] w5 W6 := HKA.out.trans hk6 (fun q hq => .inr (by simp at hq; omega))
                have HK6 := Lib.hid (HK5.out.trans hq6 (FSub.refl _ _))
                have HX6 := Lib.hid (HX.out.new hq6 (Nat.le_refl _))
                have HG6 := Lib.hid (HG5.out.new hq6)
                have hs6 : w5.heap.size ≤ W6.heap.size := hq6.size
                clear hk6 hq6 HK5 HX HG5 HKA
                generalize w5.heap.size = c at *
                go_wp2_with ((with_reducible apply wpList_load_ev); exact rfl; (first | assumption | (refine heap_alloc_lt ?_; assumption) | (refine heap_alloc_lt (heap_alloc_lt ?_); assumption) | exact heap_alloc_at (by simp)); exact rfl)
                rw [zero_cells6]
                refine (Same5_any W6 evZero evZero _ _ _ _ HX6.out (⟨Mics.nil c _, Lists.nil _ _⟩ : EvAt c W6 _ _ evZero) hs6 hs6).mono ?_; rintro z w7 ⟨rfl, hk7⟩
                rw [evSame_self]
                have HK7 := Lib.hid (HK6.out.trans hk7 (FSub.refl _ _))
                have HG7 := Lib.hid (HG6.out.new hk7)
                clear HK6 HG6 HX6 hk7
                go_wp2_with fail
                refine (works6_any w7 (HG7.out)).mono ?_; rintro z wa ⟨rfl, hka⟩
                have HKZ := Lib.hid (HK7.out.trans hka (FSub.refl _ _))
                clear hka
                go_wp2_with fail
                go_ret
                exact ⟨rfl, HKZ.out⟩

          · have hl := fun w hG (ht : EvAt N w ty ry y) hN => line_no w hG y hy ty ry ht hN hgy
            generalize bs [] = SY at hl
            have HL2 := Lib.hid hl
            clear hl hgy
            refine (HL2.out _ HG3.out HU3.out hn3).mono ?_; rintro z w4 ⟨rfl, hk4⟩
            have hb4 := hk4.heap hb3 (by simp)
            have hc4 := hk4.heap hc3 (by simp)
            have HK4 := Lib.hid (HK3.out.trans hk4 (FSub.refl _ _))
            have HT4 := Lib.hid (HT3.out.new hk4 hn3)
            have HU4 := Lib.hid (HU3.out.new hk4 hn3)
            have HG4 := Lib.hid (HG3.out.new hk4)
            have hn4 := Nat.le_trans hn3 hk4.size
            clear hk4 hb3 hc3 HT3 HU3 HG3 HK3 hn3 HL2
            go_wp2_with fail
            refine (HP.out _ HG4.out).mono ?_; rintro z w8 ⟨tz, rz, rfl, hz, hk8⟩
            have hz1 := hz.t.one
            have hz2 := hz.r.one
            have HZ := Lib.hid hz
            have HKA := Lib.hid ((Keeps.refl [] w8).alloc (.cells #[.int .u8 0, .int .u8 0, .int .u16 0, .int .u8 0, .int .u8 0, .int .u8 0, .int .u16 0, .int .u16 0, .int .u8 0, .int .u16 0, .slice none 0 0, .slice none 0 0, .int .u8 0, .int .i64 0, .int .i64 0, .int .i64 0, .bool false, .bool false, .bool false] 32))
            have hb8 := hk8.heap hb4 (by simp)
            have hc8 := hk8.heap hc4 (by simp)
            have HK8 := Lib.hid (HK4.out.trans hk8 (FSub.refl _ _))
            have HT8 := Lib.hid (HT4.out.new hk8 hn4)
            have HU8 := Lib.hid (HU4.out.new hk8 hn4)
            have HG8 := Lib.hid (HG4.out.new hk8)
            have hn8 := Nat.le_trans hn4 hk8.size
            clear hk8 hb4 hc4 HT4 HU4 HG4 HK4 hn4 HP
            clear hz
            go_wp2_with ((with_reducible apply wpList_put_ev); exact rfl; exact rfl; (first | assumption | (refine heap_alloc_lt ?_; assumption) | (refine heap_alloc_lt (heap_alloc_lt ?_); assumption) | exact heap_alloc_at (by simp)); exact ⟨rfl, rfl⟩; (refine evC_one _ ?_ ?_ <;> first | rfl | assumption))
            intro W9 hd9 hk9
            have hk9 : Keeps [] w8 W9 := HKA.out.trans hk9 (fun q hq => .inr (by simp at hq; omega))
            have HZ9 := Lib.hid (HZ.out.new hk9 (Nat.le_refl _))
            have hs9 : w8.heap.size ≤ W9.heap.size := hk9.size
            have hb9 := hk9.heap hb8 (by simp)
            have hc9 := hk9.heap hc8 (by simp)
            have HK9 := Lib.hid (HK8.out.trans hk9 (FSub.refl _ _))
            have HT9 := Lib.hid (HT8.out.new hk9 hn8)
            have HU9 := Lib.hid (HU8.out.new hk9 hn8)
            have HG9 := Lib.hid (HG8.out.new hk9)
            have hn9 := Nat.le_trans hn8 hk9.size
            clear hk9 hb8 hc8 HT8 HU8 HG8 HK8 hn8 HKA HZ
            generalize w8.heap.size = c at *
            go_wp2_with ((with_reducible apply wpList_load_evG6); exact rfl; exact rfl; assumption; exact rfl)
            refine (Same5_any W9 x x _ _ _ _ HZ9.out HT9.out hs9 hn9).mono ?_; rintro z w10 ⟨rfl, hk10⟩
            rw [evSame_self]
            have hb10 := hk10.heap hb9 (by simp)
            have hc10 := hk10.heap hc9 (by simp)
            have HK10 := Lib.hid (HK9.out.trans hk10 (FSub.refl _ _))
            have HT10 := Lib.hid (HT9.out.new hk10 hn9)
            have HU10 := Lib.hid (HU9.out.new hk10 hn9)
            have HG10 := Lib.hid (HG9.out.new hk10)
            have hn10 := Nat.le_trans hn9 hk10.size
            clear hk10 hb9 hc9 HT9 HU9 HG9 HK9 hn9 HZ9 hd9 hs9
            go_wp2_with fail
            refine (HCN.out w10).mono ?_; rintro z w10 ⟨rfl, rfl⟩
            clear HCN

            go_wp2_with fail
            clear hx hy
            refine (HR.out _ HG10.out).mono ?_; rintro z w5 ⟨tx', rd', rfl, hx', hk5⟩
            have HK5 := Lib.hid (HK10.out.trans hk5 (FSub.refl _ _))
            have HG5 := Lib.hid (HG10.out.new hk5)
            have hx1' := hx'.t.one
            have hx2' := hx'.r.one
            have HX := Lib.hid hx'
            have HKA := Lib.hid ((Keeps.refl [] w5).alloc (.cells #[.int .u8 0, .int .u8 0, .int .u16 0, .int .u8 0, .int .u8 0, .int .u8 0, .int .u16 0, .int .u16 0, .int .u8 0, .int .u16 0, .slice none 0 0, .slice none 0 0, .int .u8 0, .int .i64 0, .int .i64 0, .int .i64 0, .bool false, .bool false, .bool false] 32))
            clear hk5 HR HG10 HK10 HT10 HU10 hb10 hc10 hn10 hx'

            rcases lnE_two L with h0 | h0
            · obtain ⟨g0, g1, g2⟩ := ln_ok h0
              have hl := fun w hG N tx rd ht hN => line_yes w hG (lnX L) g0 tx rd (N := N) ht hN g1
              rw [g2, hS] at hl
              have HL2 := Lib.hid hl
              rw [h0]
              clear hl g0 g1 g2 h0
              generalize lnX L = X at *
              go_wp2_with ((with_reducible apply wpList_put_ev); exact rfl; exact rfl; (first | assumption | (refine heap_alloc_lt ?_; assumption) | (refine heap_alloc_lt (heap_alloc_lt ?_); assumption) | exact heap_alloc_at (by simp)); exact ⟨rfl, rfl⟩; (refine evC_one _ ?_ ?_ <;> first | rfl | assumption))
              intro W6 hb6 hk6
              have hq6 : Keeps [] w5 W6 := HKA.out.trans hk6 (fun q hq => .inr (by simp at hq; omega))
              have HK6 := Lib.hid (HK5.out.trans hq6 (FSub.refl _ _))
              have HX6 := Lib.hid (HX.out.new hq6 (Nat.le_refl _))
              have HG6 := Lib.hid (HG5.out.new hq6)
              have hs6 : w5.heap.size ≤ W6.heap.size := hq6.size
              clear hk6 hq6 HK5 HX HG5 HKA
              generalize w5.heap.size = c at *
              go_wp2_with ((with_reducible apply wpList_load_ev); exact rfl; (first | assumption | (refine heap_alloc_lt ?_; assumption) | (refine heap_alloc_lt (heap_alloc_lt ?_); assumption) | exact heap_alloc_at (by simp)); exact rfl)
              refine (HL2.out W6 HG6.out c _ _ HX6.out hs6).mono ?_; rintro z w7 ⟨rfl, hk7⟩
              have HK7 := Lib.hid (HK6.out.trans hk7 (FSub.refl _ _))
              have HG7 := Lib.hid (HG6.out.new hk7)
              clear HK6 HG6 hk7 HL2 HX6
              go_wp2_with fail
              refine (works6_any w7 (HG7.out)).mono ?_; rintro z wa ⟨rfl, hka⟩
              have HKZ := Lib.hid (HK7.out.trans hka (FSub.refl _ _))
              clear hka
              go_wp2_with fail
              go_ret
              exact ⟨rfl, HKZ.out⟩
            · obtain ⟨g0, -⟩ := ln_bad (s := L) (by omega)
              rw [h0]
              rw [g0] at HX ⊢
              clear h0 g0
              go_wp2_with ((with_reducible apply wpList_put_ev); exact rfl; exact rfl; (first | assumption | (refine heap_alloc_lt ?_; assumption) | (refine heap_alloc_lt (heap_alloc_lt ?_); assumption) | exact heap_alloc_at (by simp)); exact ⟨rfl, rfl⟩; (refine evC_one _ ?_ ?_ <;> first | rfl | assumption))
              intro W6 hb6 hk6
              have hq6 : Keeps [] w5 W6 := HKA.out.trans hk6 (fun q hq => .inr (by simp at hq; omega))
              have HK6 := Lib.hid (HK5.out.trans hq6 (FSub.refl _ _))
              have HX6 := Lib.hid (HX.out.new hq6 (Nat.le_refl _))
              have HG6 := Lib.hid (HG5.out.new hq6)
              have hs6 : w5.heap.size ≤ W6.heap.size := hq6.size
              clear hk6 hq6 HK5 HX HG5 HKA
              generalize w5.heap.size = c at *
              go_wp2_with ((with_reducible apply wpList_load_ev); exact rfl; (first | assumption | (refine heap_alloc_lt ?_; assumption) | (refine heap_alloc_lt (heap_alloc_lt ?_); assumption) | exact heap_alloc_at (by simp)); exact rfl)
              rw [zero_cells6]
              refine (Same5_any W6 evZero evZero _ _ _ _ HX6.out (⟨Mics.nil c _, Lists.nil _ _⟩ : EvAt c W6 _ _ evZero) hs6 hs6).mono ?_; rintro z w7 ⟨rfl, hk7⟩
              rw [evSame_self]
              have HK7 := Lib.hid (HK6.out.trans hk7 (FSub.refl _ _))
              have HG7 := Lib.hid (HG6.out.new hk7)
              clear HK6 HG6 HX6 hk7
              go_wp2_with fail
              refine (works6_any w7 (HG7.out)).mono ?_; rintro z wa ⟨rfl, hka⟩
              have HKZ := Lib.hid (HK7.out.trans hka (FSub.refl _ _))
              clear hka
              go_wp2_with fail
              go_ret
              exact ⟨rfl, HKZ.out⟩

        · skip
          -- x has none
          have hl := fun w hG (ht : EvAt N w tx rd x) hN => line_no w hG x hx tx rd ht hN hg
          have hl2 := fun w hG (ht : EvAt N w ty ry y) hN => txLine_any w hG y hy ty ry ht hN
          have hck := fun w (hG : Glob6 w) (ht : EvAt N w tx rd x) hN => Check5_any w hG.o x hx tx rd ht hN
          have he : evErr x = 4 := by simp [evErr, hg]
          rw [he] at hck
          unfold LinePost at hl2
          generalize bs [] = SX at hl
          generalize bs (if evGood y then evLine y else []) = SY at *
          generalize evErr y = EY at *
          have HL1 := Lib.hid hl; have HL2 := Lib.hid hl2; have HCK := Lib.hid hck
          clear hl hl2 hck he
          go_wp2_with ((with_reducible apply wpList_load_ev); exact rfl; (first | assumption | (refine heap_alloc_lt ?_; assumption) | (refine heap_alloc_lt (heap_alloc_lt ?_); assumption) | exact heap_alloc_at (by simp)); exact rfl)
          refine (HL1.out _ HG2.out HT2.out hn2).mono ?_; rintro z w3 ⟨rfl, hk3⟩
          have hb3 := hk3.heap hb2 (by simp)
          have hc3 := hk3.heap hc2 (by simp)
          have HK3 := Lib.hid (HK2.out.trans hk3 (FSub.refl _ _))
          have HT3 := Lib.hid (HT2.out.new hk3 hn2)
          have HU3 := Lib.hid (HU2.out.new hk3 hn2)
          have HG3 := Lib.hid (HG2.out.new hk3)
          have hn3 := Nat.le_trans hn2 hk3.size
          clear hk3 hb2 hc2 HT2 HU2 HG2 HK2 hn2 HL1
          go_wp2_with ((with_reducible apply wpList_load_ev); exact rfl; (first | assumption | (refine heap_alloc_lt ?_; assumption) | (refine heap_alloc_lt (heap_alloc_lt ?_); assumption) | exact heap_alloc_at (by simp)); exact rfl)
          refine (HL2.out _ HG3.out HU3.out hn3).mono ?_; rintro z w4 ⟨rfl, hk4⟩
          have hb4 := hk4.heap hb3 (by simp)
          have hc4 := hk4.heap hc3 (by simp)
          have HK4 := Lib.hid (HK3.out.trans hk4 (FSub.refl _ _))
          have HT4 := Lib.hid (HT3.out.new hk4 hn3)
          have HU4 := Lib.hid (HU3.out.new hk4 hn3)
          have HG4 := Lib.hid (HG3.out.new hk4)
          have hn4 := Nat.le_trans hn3 hk4.size
          clear hk4 hb3 hc3 HT3 HU3 HG3 HK3 hn3 HL2
          go_wp2_with ((with_reducible apply wpList_load_ev); exact rfl; (first | assumption | (refine heap_alloc_lt ?_; assumption) | (refine heap_alloc_lt (heap_alloc_lt ?_); assumption) | exact heap_alloc_at (by simp)); exact rfl)
          refine (HCK.out _ HG4.out HT4.out hn4).mono ?_; rintro z w11 ⟨rfl, hk11⟩
          have hb11 := hk11.heap hb4 (by simp)
          have hc11 := hk11.heap hc4 (by simp)
          have HK11 := Lib.hid (HK4.out.trans hk11 (FSub.refl _ _))
          have HT11 := Lib.hid (HT4.out.new hk11 hn4)
          have HU11 := Lib.hid (HU4.out.new hk11 hn4)
          have HG11 := Lib.hid (HG4.out.new hk11)
          have hn11 := Nat.le_trans hn4 hk11.size
          clear hk11 hb4 hc4 HT4 HU4 HG4 HK4 hn4 HCK
          go_wp2_with fail
          clear hx hy
          refine (HR.out _ HG11.out).mono ?_; rintro z w5 ⟨tx', rd', rfl, hx', hk5⟩
          have HK5 := Lib.hid (HK11.out.trans hk5 (FSub.refl _ _))
          have HG5 := Lib.hid (HG11.out.new hk5)
          have hx1' := hx'.t.one
          have hx2' := hx'.r.one
          have HX := Lib.hid hx'
          have HKA := Lib.hid ((Keeps.refl [] w5).alloc (.cells #[.int .u8 0, .int .u8 0, .int .u16 0, .int .u8 0, .int .u8 0, .int .u8 0, .int .u16 0, .int .u16 0, .int .u8 0, .int .u16 0, .slice none 0 0, .slice none 0 0, .int .u8 0, .int .i64 0, .int .i64 0, .int .i64 0, .bool false, .bool false, .bool false] 32))
          clear hk5 HR HG11 HK11 HT11 HU11 hb11 hc11 hn11 hx'

          rcases lnE_two L with h0 | h0
          · obtain ⟨g0, g1, g2⟩ := ln_ok h0
            have hl := fun w hG N tx rd ht hN => line_yes w hG (lnX L) g0 tx rd (N := N) ht hN g1
            rw [g2, hS] at hl
            have HL2 := Lib.hid hl
            rw [h0]
            clear hl g0 g1 g2 h0
            generalize lnX L = X at *
            go_wp2_with ((with_reducible apply wpList_put_ev); exact rfl; exact rfl; (first | assumption | (refine heap_alloc_lt ?_; assumption) | (refine heap_alloc_lt (heap_alloc_lt ?_); assumption) | exact heap_alloc_at (by simp)); exact ⟨rfl, rfl⟩; (refine evC_one _ ?_ ?_ <;> first | rfl | assumption))
            intro W6 hb6 hk6
            have hq6 : Keeps [] w5 W6 := HKA.out.trans hk6 (fun q hq => .inr (by simp at hq; omega))
            have HK6 := Lib.hid (HK5.out.trans hq6 (FSub.refl _ _))
            have HX6 := Lib.hid (HX.out.new hq6 (Nat.le_refl _))
            have HG6 := Lib.hid (HG5.out.new hq6)
            have hs6 : w5.heap.size ≤ W6.heap.size := hq6.size
            clear hk6 hq6 HK5 HX HG5 HKA
            generalize w5.heap.size = c at *
            go_wp2_with ((with_reducible apply wpList_load_ev); exact rfl; (first | assumption | (refine heap_alloc_lt ?_; assumption) | (refine heap_alloc_lt (heap_alloc_lt ?_); assumption) | exact heap_alloc_at (by simp)); exact rfl)
            refine (HL2.out W6 HG6.out c _ _ HX6.out hs6).mono ?_; rintro z w7 ⟨rfl, hk7⟩
            have HK7 := Lib.hid (HK6.out.trans hk7 (FSub.refl _ _))
            have HG7 := Lib.hid (HG6.out.new hk7)
            clear HK6 HG6 hk7 HL2 HX6
            go_wp2_with fail
            refine (works6_any w7 (HG7.out)).mono ?_; rintro z wa ⟨rfl, hka⟩
            have HKZ := Lib.hid (HK7.out.trans hka (FSub.refl _ _))
            clear hka
            go_wp2_with fail
            go_ret
            exact ⟨rfl, HKZ.out⟩
          · obtain ⟨g0, -⟩ := ln_bad (s := L) (by omega)
            rw [h0]
            rw [g0] at HX ⊢
            clear h0 g0
            go_wp2_with ((with_reducible apply wpList_put_ev); exact rfl; exact rfl; (first | assumption | (refine heap_alloc_lt ?_; assumption) | (refine heap_alloc_lt (heap_alloc_lt ?_); assumption) | exact heap_alloc_at (by simp)); exact ⟨rfl, rfl⟩; (refine evC_one _ ?_ ?_ <;> first | rfl | assumption))
            intro W6 hb6 hk6
            have hq6 : Keeps [] w5 W6 := HKA.out.trans hk6 (fun q hq => .inr (by simp at hq; omega))
            have HK6 := Lib.hid (HK5.out.trans hq6 (FSub.refl _ _))
            have HX6 := Lib.hid (HX.out.new hq6 (Nat.le_refl _))
            have HG6 := Lib.hid (HG5.out.new hq6)
            have hs6 : w5.heap.size ≤ W6.heap.size := hq6.size
            clear hk6 hq6 HK5 HX HG5 HKA
            generalize w5.heap.size = c at *
            go_wp2_with ((with_reducible apply wpList_load_ev); exact rfl; (first | assumption | (refine heap_alloc_lt ?_; assumption) | (refine heap_alloc_lt (heap_alloc_lt ?_); assumption) | exact heap_alloc_at (by simp)); exact rfl)
            rw [zero_cells6]
            refine (Same5_any W6 evZero evZero _ _ _ _ HX6.out (⟨Mics.nil c _, Lists.nil _ _⟩ : EvAt c W6 _ _ evZero) hs6 hs6).mono ?_; rintro z w7 ⟨rfl, hk7⟩
            rw [evSame_self]
            have HK7 := Lib.hid (HK6.out.trans hk7 (FSub.refl _ _))
            have HG7 := Lib.hid (HG6.out.new hk7)
            clear HK6 HG6 HX6 hk7
            go_wp2_with fail
            refine (works6_any w7 (HG7.out)).mono ?_; rintro z wa ⟨rfl, hka⟩
            have HKZ := Lib.hid (HK7.out.trans hka (FSub.refl _ _))
            clear hka
            go_wp2_with fail
            go_ret
            exact ⟨rfl, HKZ.out⟩

      · have z1 : 2000 < (S.size : Int) := by omega
        go_wp2_with fail
        refine (works6_any w2 (HG2.out)).mono ?_; rintro z wa ⟨rfl, hka⟩
        have HKZ := Lib.hid (HK2.out.trans hka (FSub.refl _ _))
        clear hka
        go_wp2_with fail
        go_ret
        exact ⟨rfl, HKZ.out⟩
end Go.Proofs.YtiljdehhjiahdaaGreatDoor
