/-
  QueueTexts's walk, over any queue.
-/
import Derived.StillTailTactics
import Derived.Deep.RegionHeld3
import Derived.Test.YtaicampenpkneaaDoorQT10
import Derived.Test.YtaicampenpkneaaDoorQT07
set_option linter.unusedSimpArgs false
set_option linter.unusedVariables false
namespace Go.Proofs.YtaicampenpkneaaDoor
open Go.RowKit
variable {G : World → Prop}
set_option maxHeartbeats 8000000
set_option maxRecDepth 100000
theorem QueueTexts_any (R : QuProg G) (w : World) (hG : G w) {v1 v2 : Value} {l m : List Int} (hl : rkU.In w.heap.size w v1 l) (hul : U16s l) (hm : rkU.In w.heap.size w v2 m) (hum : U16s m) (b : List UInt8) :
    Calls Tryd.prog 5 #[v1, v2, .string (bs b)] w fun e w' => e = .returned (.bool true) ∧ Keeps [] w w' := by
  obtain ⟨a1, c1, rfl, hc1, hm1, -⟩ := id hl
  obtain ⟨a2, c2, rfl, hc2, hm2, -⟩ := id hm
  have HG := Lib.hid hG; have HL := Lib.hid hl; have HM := Lib.hid hm; have HUL := Lib.hid hul; have HUM := Lib.hid hum
  have hbs : (bs b).size = b.length := by show b.toArray.size = _; simp
  clear hG hl hm hul hum
  by_cases hn : l.length ≤ 200
  · have t2 : ¬ (200 : Int) < l.length := by omega
    by_cases hn2 : m.length ≤ 200
    · have t3 : ¬ (200 : Int) < m.length := by omega
      by_cases hn3 : b.length ≤ 500
      · have t4 : ¬ (500 : Int) < (bs b).size := by omega
        go_enter Tryd.func5, Tryd.ntmps5
        go_wp2_with fail
        refine (R.dec w b HG.out (by omega)).mono ?_
        rintro e w1 ⟨st, rfl, hz1, hk1, hf1⟩
        have HQL := Lib.hid (show (if b.length % 2 = 1 then [] else quN b).length ≤ 1000 from by
          by_cases h : b.length % 2 = 1
          · rw [if_pos h]; simp
          · rw [if_neg h, quN_len]; omega)
        generalize hD : (if b.length % 2 = 1 then [] else quN b) = D at *
        generalize hE : (if b.length % 2 = 1 then (5 : Int) else 0) = er at *
        have HD := Lib.hid hD; have HE := Lib.hid hE
        clear hD hE
        obtain ⟨z1, rfl, hone1⟩ := R.one hz1
        have HC1 := Lib.hid (heap_alloc_new w1 (.cells #[.slice none 0 0] 28))
        have HE1 := Lib.hid hone1; have HK1 := Lib.hid hk1; have HZ1 := Lib.hid hz1
        clear hz1 hk1 hf1 hone1
        go_wp2_with ((with_reducible refine wpList_putSt (g := w1.heap.size) (z := z1) ?_ ?_ HC1.out HE1.out ?_); exact rfl; exact rfl)
        intro W2 h2 k2
        have k12 : Keeps [] w1 W2 := ((Keeps.refl [] w1).alloc _).trans k2 (fun q hq => .inr (by simp at hq; omega))
        have HK2 := Lib.hid (HK1.out.trans k12 (FSub.refl _ _))
        have HZ2 := Lib.hid (R.new_ HZ1.out k12)
        have HS2 := Lib.hid h2
        clear h2 k2 k12 HC1 HE1 HK1 HZ1
        generalize w1.heap.size = q7 at *
        go_wp2_with fail
        refine (r10Decode_any W2 b (by omega)).mono ?_
        rintro e w3 ⟨v3, rfl, ho3, hk3⟩
        rw [HD.out] at ho3
        rw [HE.out]
        have HK3 := Lib.hid (HK2.out.trans hk3 (FSub.refl _ _))
        have HZ3 := Lib.hid (R.new_ HZ2.out hk3)
        have HS3 := Lib.hid (hk3.heap HS2.out (by simp))
        have HI3 := Lib.hid ho3.in_
        obtain ⟨a3, c3, rfl, hc3, hm3⟩ := ho3.shape
        clear hk3 ho3 HK2 HZ2 HS2
        clear HD HE
        generalize bs b = T at *
        go_wp2_with fail
        refine (R.of w3 w.heap.size _ l (R.keepG HG.out HK3.out) (HL.out.new HK3.out (Nat.le_refl _)) HK3.out.size (by omega)).mono ?_
        rintro e w4 ⟨st4, rfl, hz4, hk4, -⟩
        have HK4 := Lib.hid (show Keeps [] w3 w4 from hk4); have HZ4 := Lib.hid hz4
        obtain ⟨z4, rfl, -⟩ := R.one hz4
        clear hk4 hz4
        go_wp2_with fail
        refine (R.enc w4 _ l (R.keepG HG.out (HK3.out.trans HK4.out (FSub.refl _ _))) HZ4.out (by omega) HUL.out).mono ?_
        rintro e w5 ⟨rfl, hk5⟩
        have HK5 := Lib.hid (HK4.out.trans hk5 (FSub.refl _ _))
        clear hk5 HK4 HZ4
        go_wp2_with fail
        refine (r10Encode_any w5 ((HL.out.new (HK3.out.trans HK5.out (FSub.refl _ _)) (Nat.le_refl _)).more (HK3.out.trans HK5.out (FSub.refl _ _)).size) (by omega) HUL.out).mono ?_
        rintro e w6 ⟨rfl, hk6⟩
        have HK6 := Lib.hid (HK5.out.trans hk6 (FSub.refl _ _))
        clear hk6 HK5
        generalize bs (quB l) = EL at *
        have t5 : (EL.toList == EL.toList) = true := by simp
        have t6 : (er == er) = true := by simp
        have c7 : w6.cell? ⟨q7, 0, none⟩ = some z1 := cell_lit (HK6.out.heap HS3.out (by simp)) 0 rfl
        go_wp2_with fail
        refine (R.values w6 _ D (R.keepG HG.out (HK3.out.trans HK6.out (FSub.refl _ _))) (R.new_ HZ3.out HK6.out) HQL.out).mono ?_
        rintro e w7 ⟨v7, rfl, ho7, hk7⟩
        have HK7 := Lib.hid (HK6.out.trans hk7 (FSub.refl _ _)); have HO7 := Lib.hid ho7
        obtain ⟨a7, c7', rfl, hc7, hm7⟩ := ho7.shape
        clear hk7 ho7 HK6 c7
        go_wp2_with fail
        refine (r10Same_any w7 HO7.out.in_ (HI3.out.new HK7.out (Nat.le_refl _))).mono ?_
        rintro e y0 ⟨rfl, m0, rfl⟩
        rw [decide_eq_true (rfl : D = D)]
        have HY := Lib.hid (show Keeps [] w (w7.drewN m0) from HK3.out.trans (HK7.out.drewN _) (FSub.refl _ _))
        clear HK7 HO7 HI3 HZ3 HS3
        generalize w7.drewN m0 = Y at *
        go_wp2_with fail
        refine (R.of Y w.heap.size _ l (R.keepG HG.out HY.out) (HL.out.new HY.out (Nat.le_refl _)) HY.out.size (by omega)).mono ?_
        rintro e y1 ⟨st1, rfl, hz1, hk1, -⟩
        have HY1 := Lib.hid (HY.out.trans hk1 (FSub.refl _ _)); have HA1 := Lib.hid hz1
        obtain ⟨u1, rfl, -⟩ := R.one hz1
        clear hz1 hk1
        go_wp2_with fail
        refine (R.of y1 w.heap.size _ m (R.keepG HG.out HY1.out) (HM.out.new HY1.out (Nat.le_refl _)) HY1.out.size (by omega)).mono ?_
        rintro e y2 ⟨st2, rfl, hz2, hk2, -⟩
        have HY2 := Lib.hid (HY1.out.trans hk2 (FSub.refl _ _)); have HA2 := Lib.hid (R.new_ HA1.out hk2); have HB2 := Lib.hid hz2
        obtain ⟨u2, rfl, -⟩ := R.one hz2
        clear hz2 hk2 HA1
        go_wp2_with fail
        refine (R.same y2 _ l _ m (R.keepG HG.out HY2.out) HA2.out HB2.out (by omega) (by omega)).mono ?_
        rintro e y3 ⟨rfl, hk3⟩
        have HY3 := Lib.hid (HY2.out.trans hk3 (FSub.refl _ _))
        clear hk3 HA2 HB2
        go_wp2_with fail
        refine (r10Same_any y3 (HL.out.new HY3.out (Nat.le_refl _)) (HM.out.new HY3.out (Nat.le_refl _))).mono ?_
        rintro e y4 ⟨rfl, m4, rfl⟩
        have HY4 := Lib.hid (show Keeps [] w (y3.drewN m4) from HY3.out.drewN _)
        generalize decide (l = m) = E at *
        have t7 : (E == E) = true := by simp
        go_wp2_with fail
        refine (works10_any R _ (R.keepG HG.out HY4.out)).mono ?_
        rintro e y5 ⟨rfl, hk5⟩
        have HY5 := Lib.hid (HY4.out.trans hk5 (FSub.refl _ _))
        clear hk5
        go_wp2_with fail
        go_ret
        exact ⟨rfl, HY5.out⟩
      · have t4 : (500 : Int) < (bs b).size := by omega
        go_enter Tryd.func5, Tryd.ntmps5
        go_wp2_with fail
        refine (works10_any R _ HG.out).mono ?_; rintro e w1 ⟨rfl, hk1⟩
        have HK1 := Lib.hid hk1
        clear hk1
        go_wp2_with fail
        go_ret
        exact ⟨rfl, HK1.out⟩
    · have t3 : (200 : Int) < m.length := by omega
      go_enter Tryd.func5, Tryd.ntmps5
      go_wp2_with fail
      refine (works10_any R _ HG.out).mono ?_; rintro e w1 ⟨rfl, hk1⟩
      have HK1 := Lib.hid hk1
      clear hk1
      go_wp2_with fail
      go_ret
      exact ⟨rfl, HK1.out⟩
  · have t2 : (200 : Int) < l.length := by omega
    go_enter Tryd.func5, Tryd.ntmps5
    go_wp2_with fail
    refine (works10_any R _ HG.out).mono ?_; rintro e w1 ⟨rfl, hk1⟩
    have HK1 := Lib.hid hk1
    clear hk1
    go_wp2_with fail
    go_ret
    exact ⟨rfl, HK1.out⟩
end Go.Proofs.YtaicampenpkneaaDoor
