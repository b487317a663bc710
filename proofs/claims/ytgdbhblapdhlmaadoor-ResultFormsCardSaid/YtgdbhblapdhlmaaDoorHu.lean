/-
  ResultForms, walked.
-/
import Derived.Test.YtgdbhblapdhlmaaDoorHj
import Derived.Test.YtgdbhblapdhlmaaDoorHh
import Derived.Test.YtgdbhblapdhlmaaDoorHm
import Derived.Deep.RegionWith
import Derived.Deep.RegionHeld3
namespace Go.Proofs.YtgdbhblapdhlmaaDoor
open Go.RowKit
theorem qat_new (w : World) (s : ByteArray) : QAt (w.alloc (.cells #[.string s, .int .i64 0, .int .i64 0] 41)) w.heap.size (nums s) 0 0 := by
  have h := heap_alloc_new w (.cells #[.string s, .int .i64 0, .int .i64 0] 41)
  unfold QAt
  rw [List.drop_zero, strOfNums_nums]
  exact h
theorem Keeps.undrew {F : List Nat} {w w' : World} (h : Keeps F w.drew w') : Keeps F w w' := ⟨h.os, h.tape, h.output, h.size, h.block⟩
theorem QAt.drew {w : World} {q p : Nat} {xs : List Int} {e : Int} (h : QAt w q xs e p) : QAt w.drew q xs e p := h
theorem tkP2_le {xs : List Int} {e : Int} {p : Nat} (h : p ≤ xs.length) : tkP2 xs e p ≤ xs.length := by
  unfold tkP2; split
  · exact rdPos_le (rdPos_le h)
  · exact rdPos_le h
set_option maxHeartbeats 4000000 in
set_option maxRecDepth 100000 in
theorem forms_true (w : World) (hG : Glob w) (k v : Int) (s t : ByteArray) (h0 : 0 ≤ k) (h1 : k < 256) (v0 : 0 ≤ v) (v1 : v < 65536) (hs : s.size ≤ maxLen) (ht : t.size ≤ maxLen) :
    Calls Tryd.prog 3 #[.agg #[.int .u8 k, .int .u16 v], .string s, .string t] w fun e w' => e = .returned (.bool true) ∧ Keeps [] w w' := by
  have ha : Keeps [] w (w.alloc (.cells #[.int .u8 k, .int .u16 v] 24)) := (Keeps.refl _ _).alloc _
  by_cases hs3 : s.size ≤ 300
  · by_cases ht3 : t.size ≤ 300
    · have z1 : ¬ 300 < (s.size : Int) := by omega
      have z2 : ¬ 300 < (t.size : Int) := by omega
      have hp1 := fun w => rsPut_any w k v h0 h1 v0 v1
      have hp2 := fun w => r3Put_any w k v h0 h1 v0 v1
      have ht1 := fun w hG => Text_any w hG k v h0 h1 v0 v1
      have ht2 := fun w => r3Text_any w k v h0 h1 v0 v1
      generalize (if rsGood k v = true then strOfNums (rsPut k v) else (⟨#[]⟩ : ByteArray)) = SP at *
      generalize bs (if rsGood k v = true then rsTxt k v else []) = ST at *
      go_enter Tryd.func3, Tryd.ntmps3
      go_wp2_with fail
      refine (hp1 _).mono ?_; rintro e w1 ⟨rfl, hk1⟩
      have hb1 := boxed2 hk1
      replace hk1 := ha.trans hk1 (FSub.refl _ _)
      obtain ⟨c0, c1, hlt⟩ := cell2 hb1
      go_wp2_with fail
      refine (hp2 _).mono ?_; rintro e w2 ⟨rfl, hk2⟩
      have hb2 := hk2.heap hb1 (by simp)
      replace hk2 := hk1.trans hk2 (FSub.refl _ _)
      clear c0 c1 hlt hb1 hk1
      obtain ⟨c0, c1, hlt⟩ := cell2 hb2
      go_wp2_with fail
      refine (ht1 _ (hG.new hk2)).mono ?_; rintro e w3 ⟨rfl, hk3⟩
      have hb3 := hk3.heap hb2 (by simp)
      replace hk3 := hk2.trans hk3 (FSub.refl _ _)
      clear c0 c1 hlt hb2 hk2
      obtain ⟨c0, c1, hlt⟩ := cell2 hb3
      go_wp2_with fail
      refine (ht2 _).mono ?_; rintro e w4 ⟨rfl, hk4⟩
      have hb4 := hk4.heap hb3 (by simp)
      replace hk4 := hk3.trans hk4 (FSub.refl _ _)
      clear c0 c1 hlt hb3 hk3 hp1 hp2 ht1 ht2
      obtain ⟨c0, c1, hlt⟩ := cell2 hb4
      have t1 : (SP.toList == SP.toList) = true := by simp
      have t2 : (ST.toList == ST.toList) = true := by simp
      have hc1 := fun w => Check_any w k v h0 h1
      have hc2 := fun w => Good_any w k v h0 h1
      have hee : (rsErr k v == 0) = rsGood k v := by
        cases hgd : rsGood k v <;> simp [rsErr, hgd]
      generalize rsErr k v = RE at *
      generalize rsGood k v = RG at *
      go_wp2_with fail
      have HC1 := Lib.hid hc1; have HC2 := Lib.hid hc2; clear hc1 hc2
      go_region_held3 (fun w' => Keeps [] w4 w' ∧ w'.cell? ⟨w.heap.size, 0, none⟩ = some (.int .u8 k) ∧ w'.cell? ⟨w.heap.size, 1, none⟩ = some (.int .u16 v))
        (refine ⟨?_, ?_, ?_⟩ <;> first | exact Keeps.refl _ _ | assumption | exact (Keeps.refl _ _).drew | exact Keeps.drew (by assumption) | exact Keeps.step (by assumption) (by assumption) (fun _ h => h) | exact Keeps.undrew (by assumption) | exact Keeps.step (Keeps.undrew (by assumption)) (by assumption) (fun _ h => h) | exact Keeps.cell (by assumption) (by assumption) (by simp))
        (first | (go_at_call 12; (with_reducible refine (HC1.out _).mono ?_); rintro e wA ⟨rfl, hkA⟩; have a0 := (Keeps.undrew hkA).cell c0 (by simp); have a1 := (Keeps.undrew hkA).cell c1 (by simp)) | (go_at_call 13; (with_reducible refine (HC2.out _).mono ?_); rintro e wB ⟨rfl, hkB⟩))
      have hk5 : Keeps [] w wB := (hk4.trans (Keeps.undrew hkA) (FSub.refl _ _)).trans hkB (FSub.refl _ _)
      clear hkA hkB a0 a1 c0 c1 HC1 HC2 hlt t1 t2 hb4 hk4
      have hps := fun w hG => Parse_any w hG t ht3
      have hpr := fun w => r3Parse_any w t ht3
      generalize psK t.data.toList = PK at *
      generalize psV t.data.toList = PV at *
      generalize psE t.data.toList = PE at *
      go_wp2_with fail
      refine (hps _ (hG.new hk5)).mono ?_; rintro e w6 ⟨rfl, hk6⟩
      replace hk6 := hk5.trans hk6 (FSub.refl _ _)
      go_wp2_with fail
      have hk6' := hk6.alloc (.cells #[.int .u8 PK, .int .u16 PV] 24)
      refine (hpr _).mono ?_; rintro e w7 ⟨rfl, hk7⟩
      have hb6 := boxed2 hk7
      replace hk7 := hk6'.trans hk7 (FSub.refl _ _)
      obtain ⟨c0, c1, hlt⟩ := cell2 hb6
      clear hb6 hk6 hk6' hk5 hps hpr
      go_wp2_with fail
      have hk8 := hk7.alloc (.cells #[.int .u8 PK, .int .u16 PV] 24)
      clear hk7 c0 c1 hlt
      generalize w7.alloc (.cells #[.int .u8 PK, .int .u16 PV] 24) = W8 at *
      refine (Over_any _ s).mono ?_; rintro e w9 ⟨rfl, ⟨cap, hR⟩, hk9⟩
      have hrz := lt_of_block hR.blk
      have hz8 := hk8.size
      replace hk9 := hk8.trans hk9 (FSub.refl _ _)
      have hQ := qat_new w9 s
      have hR2 := hR.keeps (F := []) ((Keeps.refl [] w9).alloc (.cells #[.string s, .int .i64 0, .int .i64 0] 41)) (by simp) (by simp)
      have hk10 := hk9.alloc (.cells #[.string s, .int .i64 0, .int .i64 0] 41)
      have hz10 : w9.heap.size < (w9.alloc (.cells #[.string s, .int .i64 0, .int .i64 0] 41)).heap.size := by simp
      obtain ⟨r, hr⟩ : ∃ r, W8.heap.size + 1 = r := ⟨_, rfl⟩
      obtain ⟨g, hg⟩ : ∃ g, W8.heap.size = g := ⟨_, rfl⟩
      obtain ⟨q, hq⟩ : ∃ q, w9.heap.size = q := ⟨_, rfl⟩
      rw [hr, hg] at hR2
      rw [hq] at hQ hz10
      rw [hr, hq] at hrz
      have hgr : g + 1 = r := by omega
      have hwg : w.heap.size ≤ g := by omega
      have hin := nums_in s
      have hnl : (nums s).length ≤ 300 := by rw [nums_length]; exact hs3
      clear hR hk9 hk8 hz8
      go_wp2_with fail
      generalize w9.alloc (.cells #[.string s, .int .i64 0, .int .i64 0] 41) = W10 at *
      clear hr hg hq
      have HX := Lib.hid hin; clear hin
      go_loopw [21] (fun i wr => ∃ (j p : Nat) (e : Int), j ≤ 5 ∧ i = .int .i64 j ∧ p ≤ (nums s).length ∧ RAt wr r g cap (nums s) e p ∧ QAt wr q (nums s) e p ∧ q < wr.heap.size ∧ Keeps [] w wr) (fun i _ => 5 - (intOf i).toNat)
      case atStart => exact ⟨0, 0, 0, by omega, rfl, Nat.zero_le _, hR2, hQ, hz10, hk10⟩
      case round =>
        clear hR2 hQ hz10 hk10
        obtain ⟨j, p, e, hj, rfl, hp, hRr, hQr, hqz, hk⟩ := hrel
        by_cases hlt : j < 5
        · have hT1 := Take_any wr r g cap p (nums s) e hRr HX.out (by omega) (by omega)
          have hT2 := fun w h => r3Take_any w q p (nums s) e h HX.out hp (by omega)
          have hp2 := tkP2_le (xs := nums s) (e := e) hp
          generalize tkK (nums s) e p = TK at *
          generalize tkV (nums s) e p = TV at *
          generalize tkE (nums s) e p = TE at *
          generalize tkE2 (nums s) e p = E2 at *
          generalize tkP2 (nums s) e p = P2 at *
          go_wp2_with fail
          refine hT1.mono ?_; rintro x w11 ⟨rfl, hR11, hk11⟩
          have hz11 := hk11.size
          have hQ11 := hQr.keep hk11 (by simp; omega)
          have hK11 : Keeps [] w w11 := hk.trans hk11 (fun z hz => .inr (by simp at hz; omega))
          have hQ12 := hQ11.keep (F := []) ((Keeps.refl [] w11).alloc (.cells #[.int .u8 TK, .int .u16 TV] 24)) (by simp)
          go_wp2_with fail
          refine (hT2 _ hQ12).mono ?_; rintro x w12 ⟨rfl, hQ13, hk12⟩
          have hb12 := boxedF hk12 (by simp; omega)
          have hz12 := hk12.size
          rw [World.size_alloc] at hz12
          have hR12 := (hR11.keeps (F := []) ((Keeps.refl [] w11).alloc (.cells #[.int .u8 TK, .int .u16 TV] 24)) (by simp) (by simp)).keeps hk12 (by simp; omega) (by simp; omega)
          have hK12 : Keeps [] w w12 := (hK11.alloc _).trans hk12 (fun z hz => .inr (by simp at hz; omega))
          obtain ⟨W13, hW13⟩ : ∃ W13, W13 = w12.alloc (.cells #[.int .u8 TK, .int .u16 TV] 24) := ⟨_, rfl⟩
          have kN : Keeps [] w12 W13 := by rw [hW13]; exact (Keeps.refl _ _).alloc _
          have hu := kN.heap hb12 (by simp)
          have hv : W13.heap[w12.heap.size]? = some (.cells #[.int .u8 TK, .int .u16 TV] 24 (0, 0)) := by rw [hW13]; exact heap_alloc_new _ _
          have hR13 := hR12.keeps kN (by simp) (by simp)
          have hQ14 := hQ13.keep kN (by simp)
          have hK13 := hK12.trans kN (FSub.refl _ _)
          have hz13 := kN.size
          obtain ⟨c0, c1, hlu⟩ := cell2 hu
          obtain ⟨d0, d1, hlv⟩ := cell2 hv
          obtain ⟨q0, q1, q2, _, _, _⟩ := cell3 (show _ = _ from hQ14)
          have HW := Lib.hid hW13
          clear hW13 hu hv kN hR12 hQ13 hb12 hk12 hQ12 hQ11 hk11 hR11 hRr hQr hT1 hT2 q0 q2
          go_wp2_with fail
          rw [← HW.out]
          have hR14 : RAt W13.drew r g cap (nums s) E2 P2 := hR13.drew
          have hK14 : Keeps [] w W13.drew := hK13.drew
          have hQ15 : QAt W13.drew q (nums s) E2 P2 := hQ14
          have hzD : q < W13.drew.heap.size := by show q < W13.heap.size; omega
          have x1 : W13.drew.cell? ⟨q, 1, none⟩ = some (.int .i64 P2) := q1
          have x2 : W13.drew.cell? ⟨w11.heap.size, 0, none⟩ = some (.int .u8 TK) := c0
          have x3 : W13.drew.cell? ⟨w11.heap.size, 1, none⟩ = some (.int .u16 TV) := c1
          have x4 : W13.drew.cell? ⟨w12.heap.size, 0, none⟩ = some (.int .u8 TK) := d0
          have x5 : W13.drew.cell? ⟨w12.heap.size, 1, none⟩ = some (.int .u16 TV) := d1
          have hS0 := And.intro hR14 (And.intro hQ15 (And.intro hK14 (And.intro hzD (And.intro x1 (And.intro x2 (And.intro x3 (And.intro x4 x5)))))))
          go_region_held3 (fun w' => RAt w' r g cap (nums s) E2 P2 ∧ QAt w' q (nums s) E2 P2 ∧ Keeps [] w w' ∧ q < w'.heap.size ∧ w'.cell? ⟨q, 1, none⟩ = some (.int .i64 P2) ∧ w'.cell? ⟨w11.heap.size, 0, none⟩ = some (.int .u8 TK) ∧ w'.cell? ⟨w11.heap.size, 1, none⟩ = some (.int .u16 TV) ∧ w'.cell? ⟨w12.heap.size, 0, none⟩ = some (.int .u8 TK) ∧ w'.cell? ⟨w12.heap.size, 1, none⟩ = some (.int .u16 TV))
            (first | exact hS0 | assumption | (refine ⟨?_, ?_, ?_, ?_, ?_, ?_, ?_, ?_, ?_⟩ <;> assumption))
            (first | (go_at_call 19; (with_reducible refine (At_any _ r g cap P2 (nums s) E2 (by first | assumption | exact RAt.drew (by assumption))).mono ?_); rintro e w' ⟨rfl, rfl⟩))
          clear hS0 x1 x2 x3 x4 x5 c0 c1 d0 d1 q1
          go_wp2_with fail
          go_roundw
          case rel => exact ⟨j + 1, P2, E2, by omega, by go_num, hp2, hR14, hQ15, hzD, hK14⟩
          case measure => simp [intOf]; omega
        · obtain rfl : j = 5 := by omega
          go_wp2_with fail
          refine (awake3_true _ (hG.new hk)).mono ?_; rintro e w1 ⟨rfl, hk1⟩
          go_wp2
          go_ret
          exact ⟨rfl, hk.trans hk1 (FSub.refl _ _)⟩
    · have z1 : ¬ 300 < (s.size : Int) := by omega
      have z2 : 300 < (t.size : Int) := by omega
      go_enter Tryd.func3, Tryd.ntmps3
      go_wp2_with fail
      refine (awake3_true _ (hG.new ha)).mono ?_; rintro e w1 ⟨rfl, hk1⟩
      go_wp2
      go_ret
      exact ⟨rfl, ha.trans hk1 (FSub.refl _ _)⟩
  · have z1 : 300 < (s.size : Int) := by omega
    go_enter Tryd.func3, Tryd.ntmps3
    go_wp2_with fail
    refine (awake3_true _ (hG.new ha)).mono ?_; rintro e w1 ⟨rfl, hk1⟩
    go_wp2
    go_ret
    exact ⟨rfl, ha.trans hk1 (FSub.refl _ _)⟩
end Go.Proofs.YtgdbhblapdhlmaaDoor
