/-
  QueueBack's walk, over any queue.
-/
import Derived.StillTailTactics
import Derived.Deep.RegionHeld3
import Derived.Test.YtaicampenpkneaaDoorQB10
import Derived.Test.YtaicampenpkneaaDoorQB07
set_option linter.unusedSimpArgs false
set_option linter.unusedVariables false
namespace Go.Proofs.YtaicampenpkneaaDoor
open Go.RowKit
variable {G : World → Prop}
set_option maxHeartbeats 8000000
set_option maxRecDepth 100000
theorem QueueBack_any (R : QuProg G) (w : World) (hG : G w) {v1 v2 : Value} {l m : List Int} (hl : rkU.In w.heap.size w v1 l) (hul : U16s l) (hm : rkU.In w.heap.size w v2 m) (hum : U16s m) (b : List UInt8) :
    Calls Tryd.prog 8 #[v1, v2, .string (bs b)] w fun e w' => e = .returned (.bool true) ∧ Keeps [] w w' := by
  obtain ⟨a1, c1, rfl, hc1, hm1, -⟩ := id hl
  obtain ⟨a2, c2, rfl, hc2, hm2, -⟩ := id hm
  have HG := Lib.hid hG; have HL := Lib.hid hl; have HM := Lib.hid hm; have HUL := Lib.hid hul; have HUM := Lib.hid hum
  have hbs : (bs b).size = b.length := by show b.toArray.size = _; simp
  clear hG hl hm hul hum
  by_cases hn : l.length ≤ 200
  · have t2 : ¬ (200 : Int) < l.length := by omega
    by_cases hn2 : m.length ≤ 200
    · have t3 : ¬ (200 : Int) < m.length := by omega
      by_cases hn3 : b.length ≤ 500
      · have t4 : ¬ (500 : Int) < (bs b).size := by omega
        go_enter Tryd.func8, Tryd.ntmps8
        go_wp2_with fail
        refine (R.of w w.heap.size _ l HG.out HL.out (Nat.le_refl _) (by omega)).mono ?_
        rintro e w1 ⟨st, rfl, hz1, hk1, -⟩
        obtain ⟨z1, rfl, -⟩ := R.one hz1
        have HK1 := Lib.hid hk1; have HZ1 := Lib.hid hz1
        clear hz1 hk1
        go_wp2_with fail
        refine (R.enc w1 _ l (R.keepG HG.out HK1.out) HZ1.out (by omega) HUL.out).mono ?_
        rintro e w2 ⟨rfl, hk2⟩
        have HK2 := Lib.hid (HK1.out.trans hk2 (FSub.refl _ _))
        clear hk2 HK1 HZ1
        have HBL := Lib.hid (quB_len l)
        go_wp2_with fail
        refine (R.dec w2 (quB l) (R.keepG HG.out HK2.out) (by have := HBL.out; omega)).mono ?_
        rw [if_neg (by have := HBL.out; omega), if_neg (by have := HBL.out; omega), quN_quB HUL.out]
        rintro e w3 ⟨st3, rfl, hz3, hk3, -⟩
        obtain ⟨z3, rfl, hone3⟩ := R.one hz3
        have HC3 := Lib.hid (heap_alloc_new w3 (.cells #[.slice none 0 0] 28))
        have HE3 := Lib.hid hone3; have HK3 := Lib.hid (HK2.out.trans hk3 (FSub.refl _ _)); have HZ3 := Lib.hid hz3
        clear hz3 hk3 hone3 HK2 HBL
        go_wp2_with ((with_reducible refine wpList_putSt (g := w3.heap.size) (z := z3) ?_ ?_ HC3.out HE3.out ?_); exact rfl; exact rfl)
        intro W4 h4 k4
        have k34 : Keeps [] w3 W4 := ((Keeps.refl [] w3).alloc _).trans k4 (fun q hq => .inr (by simp at hq; omega))
        have HK4 := Lib.hid (HK3.out.trans k34 (FSub.refl _ _))
        have HZ4 := Lib.hid (R.new_ HZ3.out k34)
        have HS4 := Lib.hid h4
        clear h4 k4 k34 HC3 HE3 HK3 HZ3
        generalize w3.heap.size = q7 at *
        go_wp2_with fail
        refine (R.dec W4 b (R.keepG HG.out HK4.out) (by omega)).mono ?_
        rintro e w5 ⟨st5, rfl, hz5, hk5, -⟩
        have HQD := Lib.hid (show (if b.length % 2 = 1 then [] else quN b).length ≤ 1000 ∧ U16s (if b.length % 2 = 1 then [] else quN b) ∧ (b.length % 2 = 0 → quB (if b.length % 2 = 1 then [] else quN b) = b) from by
          by_cases h : b.length % 2 = 1
          · rw [if_pos h]; exact ⟨by simp, fun v hv => (by cases hv), fun h2 => (by omega)⟩
          · rw [if_neg h]; exact ⟨by rw [quN_len]; omega, quN_in b, fun h2 => quB_quN h2⟩)
        have HER := Lib.hid (show (b.length % 2 = 1 → (if b.length % 2 = 1 then (5 : Int) else 0) = 5) ∧ (b.length % 2 = 0 → (if b.length % 2 = 1 then (5 : Int) else 0) = 0) from ⟨fun h => if_pos h, fun h => if_neg (by omega)⟩)
        generalize (if b.length % 2 = 1 then [] else quN b) = D at *
        generalize (if b.length % 2 = 1 then (5 : Int) else 0) = er at *
        obtain ⟨z5, rfl, hone5⟩ := R.one hz5
        have HC5 := Lib.hid (heap_alloc_new w5 (.cells #[.slice none 0 0] 28))
        have HE5 := Lib.hid hone5; have HK5 := Lib.hid (HK4.out.trans hk5 (FSub.refl _ _)); have HZ5 := Lib.hid hz5
        have HY5 := Lib.hid (R.new_ HZ4.out hk5); have HS5 := Lib.hid (hk5.heap HS4.out (by simp))
        clear hz5 hk5 hone5 HK4 HZ4 HS4
        go_wp2_with ((with_reducible refine wpList_putSt (g := w5.heap.size) (z := z5) ?_ ?_ HC5.out HE5.out ?_); exact rfl; exact rfl)
        intro W6 h6 k6
        have k56 : Keeps [] w5 W6 := ((Keeps.refl [] w5).alloc _).trans k6 (fun q hq => .inr (by simp at hq; omega))
        have HK6 := Lib.hid (HK5.out.trans k56 (FSub.refl _ _))
        have HZ6 := Lib.hid (R.new_ HZ5.out k56)
        have HY6 := Lib.hid (R.new_ HY5.out k56)
        have HS6 := Lib.hid (k56.heap HS5.out (by simp))
        have HT6 := Lib.hid h6
        clear h6 k6 k56 HC5 HE5 HK5 HZ5 HY5 HS5
        generalize w5.heap.size = q9 at *
        go_wp2_with fail
        refine (R.of W6 w.heap.size _ l (R.keepG HG.out HK6.out) (HL.out.new HK6.out (Nat.le_refl _)) HK6.out.size (by omega)).mono ?_
        rintro e w7 ⟨st7, rfl, hz7, hk7, -⟩
        obtain ⟨z7, rfl, -⟩ := R.one hz7
        have HK7 := Lib.hid (show Keeps [] W6 w7 from hk7); have HZ7 := Lib.hid hz7
        clear hz7 hk7
        go_wp2_with fail
        refine (R.of w7 w.heap.size _ m (R.keepG HG.out (HK6.out.trans HK7.out (FSub.refl _ _))) (HM.out.new (HK6.out.trans HK7.out (FSub.refl _ _)) (Nat.le_refl _)) (HK6.out.trans HK7.out (FSub.refl _ _)).size (by omega)).mono ?_
        rintro e w8 ⟨st8, rfl, hz8, hk8, -⟩
        obtain ⟨z8, rfl, -⟩ := R.one hz8
        have HK8 := Lib.hid (HK7.out.trans hk8 (FSub.refl _ _)); have HZ8 := Lib.hid hz8; have HZ78 := Lib.hid (R.new_ HZ7.out hk8)
        clear hz8 hk8 HK7 HZ7
        go_wp2_with fail
        refine (R.same w8 _ l _ m (R.keepG HG.out (HK6.out.trans HK8.out (FSub.refl _ _))) HZ78.out HZ8.out (by omega) (by omega)).mono ?_
        rintro e w9 ⟨rfl, hk9⟩
        have HK9 := Lib.hid (HK8.out.trans hk9 (FSub.refl _ _))
        clear hk9 HK8 HZ8 HZ78
        have HCMP := Lib.hid (show ((bs (quB l)).toList == (bs (quB m)).toList) = decide (l = m) from by
          by_cases h : l = m
          · rw [h, decide_eq_true rfl]; simp
          · rw [decide_eq_false h]
            have h2 : quB l ≠ quB m := fun e => h ((quB_inj l m HUL.out HUM.out).1 e)
            have e3 : ∀ a : List UInt8, (bs a).toList = a := fun a => by show (ByteArray.mk a.toArray).toList = a; simp
            rw [e3, e3]
            simpa using h2)
        generalize hE : decide (l = m) = E at *
        have t6 : (E == E) = true := by simp
        clear hE
        have c7 : w9.cell? ⟨q7, 0, none⟩ = some z3 := cell_lit (HK9.out.heap HS6.out (by simp)) 0 rfl
        go_wp2_with fail
        refine (has10_any R w9 (R.keepG HG.out (HK6.out.trans HK9.out (FSub.refl _ _))) (R.new_ HY6.out HK9.out) (by omega) (HL.out.new (HK6.out.trans HK9.out (FSub.refl _ _)) (Nat.le_refl _)) (HK6.out.trans HK9.out (FSub.refl _ _)).size).mono ?_
        rintro e w10 ⟨rfl, hk10⟩
        rw [decide_eq_true (rfl : l = l)]
        have HK10 := Lib.hid (HK9.out.trans hk10 (FSub.refl _ _))
        clear hk10 HK9 c7
        have HEND := fun (y : World) (hy : Keeps [] w y) => works10_any R y (R.keepG HG.out hy)
        have HLAST := Lib.hid HEND
        clear HEND
        by_cases hp : b.length % 2 = 1
        · obtain rfl := HER.out.1 hp
          have e1 : ((b.length : Int) % 2 == 0) = false := by rw [show (b.length : Int) % 2 = 1 by omega]; rfl
          generalize bs b = T at *
          go_wp2_with fail
          refine (R.of w10 w.heap.size _ l (R.keepG HG.out (HK6.out.trans HK10.out (FSub.refl _ _))) (HL.out.new (HK6.out.trans HK10.out (FSub.refl _ _)) (Nat.le_refl _)) ((HK6.out.trans HK10.out (FSub.refl _ _))).size (by omega)).mono ?_
          rintro e x1 ⟨sx1, rfl, hz1, hk1, -⟩
          obtain ⟨u1, rfl, -⟩ := R.one hz1
          have HX1 := Lib.hid (((HK6.out.trans HK10.out (FSub.refl _ _))).trans hk1 (FSub.refl _ _)); have HU1 := Lib.hid hz1
          clear hz1 hk1
          go_wp2_with fail
          refine (R.enc x1 _ l (R.keepG HG.out HX1.out) HU1.out (by omega) HUL.out).mono ?_
          rintro e x2 ⟨rfl, hk2⟩
          have HX2 := Lib.hid (HX1.out.trans hk2 (FSub.refl _ _))
          clear hk2 HX1 HU1
          go_wp2_with fail
          refine (R.of x2 w.heap.size _ m (R.keepG HG.out HX2.out) (HM.out.new HX2.out (Nat.le_refl _)) HX2.out.size (by omega)).mono ?_
          rintro e x3 ⟨sx3, rfl, hz3, hk3, -⟩
          obtain ⟨u3, rfl, -⟩ := R.one hz3
          have HX3 := Lib.hid (HX2.out.trans hk3 (FSub.refl _ _)); have HU3 := Lib.hid hz3
          clear hz3 hk3 HX2
          go_wp2_with fail
          refine (R.enc x3 _ m (R.keepG HG.out HX3.out) HU3.out (by omega) HUM.out).mono ?_
          rintro e x4 ⟨rfl, hk4⟩
          have HX4 := Lib.hid (HX3.out.trans hk4 (FSub.refl _ _))
          have hcmp := HCMP.out
          clear hk4 HX3 HU3
          generalize bs (quB l) = EL at *
          generalize bs (quB m) = EM at *
          go_wp2_with fail
          refine (HLAST.out x4 HX4.out).mono ?_
          rintro e x5 ⟨rfl, hk5⟩
          have HX5 := Lib.hid (HX4.out.trans hk5 (FSub.refl _ _))
          clear hk5
          go_wp2_with fail
          go_ret
          exact ⟨rfl, HX5.out⟩
        · have hp0 : b.length % 2 = 0 := by omega
          obtain rfl := HER.out.2 hp0
          have e1 : ((b.length : Int) % 2 == 0) = true := by rw [show (b.length : Int) % 2 = 0 by omega]; rfl
          have HBB := Lib.hid (HQD.out.2.2 hp0)
          have c9 : w10.cell? ⟨q9, 0, none⟩ = some z5 := cell_lit (HK10.out.heap HT6.out (by simp)) 0 rfl
          go_wp2_with fail
          refine (R.enc w10 _ D (R.keepG HG.out (HK6.out.trans HK10.out (FSub.refl _ _))) (R.new_ HZ6.out HK10.out) HQD.out.1 HQD.out.2.1).mono ?_
          rintro e w11 ⟨rfl, hk11⟩
          rw [HBB.out]
          have HK11 := Lib.hid ((HK6.out.trans HK10.out (FSub.refl _ _)).trans hk11 (FSub.refl _ _))
          clear hk11 c9 HBB
          generalize bs b = T at *
          have t8 : (T.toList == T.toList) = true := by simp
          go_wp2_with fail
          refine (R.of w11 w.heap.size _ l (R.keepG HG.out HK11.out) (HL.out.new HK11.out (Nat.le_refl _)) (HK11.out).size (by omega)).mono ?_
          rintro e x1 ⟨sx1, rfl, hz1, hk1, -⟩
          obtain ⟨u1, rfl, -⟩ := R.one hz1
          have HX1 := Lib.hid ((HK11.out).trans hk1 (FSub.refl _ _)); have HU1 := Lib.hid hz1
          clear hz1 hk1
          go_wp2_with fail
          refine (R.enc x1 _ l (R.keepG HG.out HX1.out) HU1.out (by omega) HUL.out).mono ?_
          rintro e x2 ⟨rfl, hk2⟩
          have HX2 := Lib.hid (HX1.out.trans hk2 (FSub.refl _ _))
          clear hk2 HX1 HU1
          go_wp2_with fail
          refine (R.of x2 w.heap.size _ m (R.keepG HG.out HX2.out) (HM.out.new HX2.out (Nat.le_refl _)) HX2.out.size (by omega)).mono ?_
          rintro e x3 ⟨sx3, rfl, hz3, hk3, -⟩
          obtain ⟨u3, rfl, -⟩ := R.one hz3
          have HX3 := Lib.hid (HX2.out.trans hk3 (FSub.refl _ _)); have HU3 := Lib.hid hz3
          clear hz3 hk3 HX2
          go_wp2_with fail
          refine (R.enc x3 _ m (R.keepG HG.out HX3.out) HU3.out (by omega) HUM.out).mono ?_
          rintro e x4 ⟨rfl, hk4⟩
          have HX4 := Lib.hid (HX3.out.trans hk4 (FSub.refl _ _))
          have hcmp := HCMP.out
          clear hk4 HX3 HU3
          generalize bs (quB l) = EL at *
          generalize bs (quB m) = EM at *
          go_wp2_with fail
          refine (HLAST.out x4 HX4.out).mono ?_
          rintro e x5 ⟨rfl, hk5⟩
          have HX5 := Lib.hid (HX4.out.trans hk5 (FSub.refl _ _))
          clear hk5
          go_wp2_with fail
          go_ret
          exact ⟨rfl, HX5.out⟩
      · have t4 : (500 : Int) < (bs b).size := by omega
        go_enter Tryd.func8, Tryd.ntmps8
        go_wp2_with fail
        refine (works10_any R _ HG.out).mono ?_; rintro e w1 ⟨rfl, hk1⟩
        have HK1 := Lib.hid hk1
        clear hk1
        go_wp2_with fail
        go_ret
        exact ⟨rfl, HK1.out⟩
    · have t3 : (200 : Int) < m.length := by omega
      go_enter Tryd.func8, Tryd.ntmps8
      go_wp2_with fail
      refine (works10_any R _ HG.out).mono ?_; rintro e w1 ⟨rfl, hk1⟩
      have HK1 := Lib.hid hk1
      clear hk1
      go_wp2_with fail
      go_ret
      exact ⟨rfl, HK1.out⟩
  · have t2 : (200 : Int) < l.length := by omega
    go_enter Tryd.func8, Tryd.ntmps8
    go_wp2_with fail
    refine (works10_any R _ HG.out).mono ?_; rintro e w1 ⟨rfl, hk1⟩
    have HK1 := Lib.hid hk1
    clear hk1
    go_wp2_with fail
    go_ret
    exact ⟨rfl, HK1.out⟩
end Go.Proofs.YtaicampenpkneaaDoor
