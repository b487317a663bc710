/-
  QueueRuns' walk, over any queue.
-/
import Derived.Test.YtaicampenpkneaaDoorQR10
import Derived.Test.YtaicampenpkneaaDoorQR11
set_option linter.unusedSimpArgs false
set_option linter.unusedVariables false
namespace Go.Proofs.YtaicampenpkneaaDoor
open Go.RowKit
variable {G : World → Prop}
set_option maxHeartbeats 8000000
set_option maxRecDepth 100000
theorem QueueRuns_any (R : QuProg G) (w : World) (hG : G w) {v v2 : Value} {l : List Int} {ops : List Opn} (hl : rkU.In w.heap.size w v l) (hu : U16s l) (ho : rkO.In w.heap.size w v2 ops) (hin : ∀ x ∈ ops, x.In) :
    Calls Tryd.prog 4 #[v, v2] w fun e w' => e = .returned (.bool true) ∧ Keeps [] w w' := by
  obtain ⟨a1, c1, rfl, hc1, hm1, -⟩ := id hl
  obtain ⟨a2, c2, rfl, hc2, hm2, -⟩ := id ho
  have HG := Lib.hid hG; have HL := Lib.hid hl; have HI := Lib.hid ho; have HU := Lib.hid hu; have HIN := Lib.hid hin
  clear hG hl hu ho hin
  by_cases hn : l.length ≤ 200
  · have t2 : ¬ (200 : Int) < l.length := by omega
    by_cases hn2 : ops.length ≤ 200
    · have t3 : ¬ (200 : Int) < ops.length := by omega
      go_enter Tryd.func4, Tryd.ntmps4
      go_wp2_with fail
      refine (R.of w w.heap.size _ l HG.out HL.out (Nat.le_refl _) (by omega)).mono ?_
      rintro e w1 ⟨st, rfl, hz1, hk1, hf1⟩
      obtain ⟨z1, rfl, hone1⟩ := R.one hz1
      have HK1 := Lib.hid hk1; have HZ1 := Lib.hid hz1
      clear hz1 hk1 hf1 hone1
      go_wp2_with fail
      refine (R.run w1 _ l _ ops (R.keepG HG.out HK1.out) HZ1.out (by omega) HIN.out ((HI.out.new HK1.out (Nat.le_refl _)).more HK1.out.size) (by omega)).mono ?_
      rintro e w2 ⟨st2, vr, rfl, hz2, hi2, hk2, hf2⟩
      obtain ⟨z2, rfl, hone2⟩ := R.one hz2
      obtain ⟨a3, c3, rfl, hc3, hm3, -⟩ := id hi2
      have HC2 := Lib.hid (heap_alloc_new w2 (.cells #[.slice none 0 0] 28))
      have HE2 := Lib.hid hone2; have HK2 := Lib.hid (HK1.out.trans hk2 (FSub.refl _ _)); have HZ2 := Lib.hid hz2; have HI2 := Lib.hid hi2
      have HSL := Lib.hid (show (stS quX l ops).length ≤ 1000 from by have := quS_len l ops; omega)
      have HSF := Lib.hid (show (stL quX l ops).length ≤ 200 from Nat.le_trans (stL_len quX l ops).1 hn2)
      clear hz2 hk2 hf2 hi2 hone2 HK1 HZ1
      go_wp2_with ((with_reducible refine wpList_putSt (g := w2.heap.size) (z := z2) ?_ ?_ HC2.out HE2.out ?_); exact rfl; exact rfl)
      intro W3 h3 k3
      have k23 : Keeps [] w2 W3 := ((Keeps.refl [] w2).alloc _).trans k3 (fun q hq => .inr (by simp at hq; omega))
      have HK3 := Lib.hid (HK2.out.trans k23 (FSub.refl _ _))
      have HZ3 := Lib.hid (R.new_ HZ2.out k23)
      have HI3 := Lib.hid (show rkA.In W3.heap.size W3 (.slice a3 (stL quX l ops).length c3) (stL quX l ops) from (HI2.out.new k23 (Nat.le_refl _)).more k23.size)
      have HS3 := Lib.hid h3
      clear h3 k3 k23 HC2 HE2 HK2 HZ2 HI2
      generalize w2.heap.size = q5 at *
      go_wp2_with fail
      refine (r10Run_any W3 ((HL.out.new HK3.out (Nat.le_refl _)).more HK3.out.size) (by omega) HIN.out ((HI.out.new HK3.out (Nat.le_refl _)).more HK3.out.size) (by omega)).mono ?_
      rintro e w4 ⟨v4, v5, rfl, hi4, ho5, hk4⟩
      obtain ⟨a4, c4, rfl, hc4, hm4, -⟩ := id hi4
      obtain ⟨a5, c5, rfl, hc5, hm5⟩ := ho5.shape
      have HK4 := Lib.hid hk4; have HI4 := Lib.hid hi4; have HI5 := Lib.hid ho5.in_
      have c0 : w4.cell? ⟨q5, 0, none⟩ = some z2 := cell_lit (hk4.heap HS3.out (by simp)) 0 rfl
      clear hk4 hi4 ho5
      go_wp2_with fail
      refine (R.values w4 _ (stS quX l ops) (R.keepG HG.out (HK3.out.trans HK4.out (FSub.refl _ _))) (R.new_ HZ3.out HK4.out) HSL.out).mono ?_
      rintro e w5 ⟨v6, rfl, ho6, hk6⟩
      obtain ⟨a6, c6, rfl, hc6, hm6⟩ := ho6.shape
      have HK5 := Lib.hid hk6; have HO6 := Lib.hid ho6
      clear hk6 ho6 c0
      go_wp2_with fail
      refine (r10Same_any w5 HO6.out.in_ (HI4.out.new HK5.out (Nat.le_refl _))).mono ?_
      rintro e y0 ⟨rfl, m0, rfl⟩
      rw [decide_eq_true (rfl : stS quX l ops = stS quX l ops)]
      have HY := Lib.hid (show Keeps [] w (w5.drewN m0) from (HK3.out.trans HK4.out (FSub.refl _ _)).trans (HK5.out.drewN _) (FSub.refl _ _))
      have HR3 := Lib.hid (show rkA.In W3.heap.size (w5.drewN m0) (.slice a3 (stL quX l ops).length c3) (stL quX l ops) from (HI3.out.new HK4.out (Nat.le_refl _)).new (HK5.out.drewN _) HK4.out.size)
      have HR5 := Lib.hid (show rkA.In w4.heap.size (w5.drewN m0) (.slice a5 (stL quX l ops).length c5) (stL quX l ops) from HI5.out.new (HK5.out.drewN _) (Nat.le_refl _))
      have hsz : W3.heap.size ≤ (w5.drewN m0).heap.size ∧ w4.heap.size ≤ (w5.drewN m0).heap.size := ⟨Nat.le_trans HK4.out.size HK5.out.size, HK5.out.size⟩
      have HSZ := Lib.hid hsz
      generalize stE quX l ops = er at *
      generalize hLA : stL quX l ops = LA at *
      have t5 : (er != er) = false := by simp
      have t6 : ((LA.length : Int) != LA.length) = false := by simp
      clear hsz HI3 HI4 HI5 HO6 HK5 HZ3 HS3 hLA
      generalize w5.drewN m0 = Y at *
      go_wp2_with fail
      go_loopw [11] (fun i wr => ∃ k q : Nat, i = .int .i64 k ∧ k ≤ LA.length ∧ wr = Y.drewN q) (fun i _ => LA.length - (intOf i).toNat)
      case atStart => exact ⟨0, 0, rfl, Nat.zero_le _, rfl⟩
      case round =>
        obtain ⟨k, q, rfl, hk, rfl⟩ := hrel
        by_cases hlt : k < LA.length
        · obtain ⟨g, o, rfl, -, hr⟩ := InA_at HR3.out hlt
          obtain ⟨g', o', rfl, -, hr'⟩ := InA_at HR5.out hlt
          generalize LA[k] = r at *
          obtain ⟨rk, rv⟩ := r
          have d0 : Y.cell? ⟨g, o + k * 2, none⟩ = some (.int .u8 rk) := hr 0 _ rfl
          have d1 : Y.cell? ⟨g, o + k * 2 + 1, none⟩ = some (.int .u16 rv) := hr 1 _ rfl
          have d2 : Y.cell? ⟨g', o' + k * 2, none⟩ = some (.int .u8 rk) := hr' 0 _ rfl
          have d3 : Y.cell? ⟨g', o' + k * 2 + 1, none⟩ = some (.int .u16 rv) := hr' 1 _ rfl
          have t7 : (rk == rk) = true := by simp
          have t8 : (rv == rv) = true := by simp
          clear hr hr'
          go_wp2_with fail
          go_quiet (fail)
          go_wp2_with fail
          go_roundw
          case rel => exact ⟨k + 1, q + nq, by go_num, by omega, by simp⟩
          case measure => simp [intOf]; omega
        · obtain rfl : k = LA.length := by omega
          go_wp2_with fail
          have HYD := Lib.hid (show Keeps [] w (Y.drewN q) from HY.out.drewN _)
          refine (works10_any R _ (R.keepG HG.out HYD.out)).mono ?_
          rintro e y6 ⟨rfl, hy6⟩
          have HY6 := Lib.hid (HYD.out.trans hy6 (FSub.refl _ _))
          clear hy6
          go_wp2_with fail
          go_ret
          exact ⟨rfl, HY6.out⟩
    · have t3 : (200 : Int) < ops.length := by omega
      go_enter Tryd.func4, Tryd.ntmps4
      go_wp2_with fail
      refine (works10_any R _ HG.out).mono ?_; rintro e w1 ⟨rfl, hk1⟩
      have HK1 := Lib.hid hk1
      clear hk1
      go_wp2_with fail
      go_ret
      exact ⟨rfl, HK1.out⟩
  · have t2 : (200 : Int) < l.length := by omega
    go_enter Tryd.func4, Tryd.ntmps4
    go_wp2_with fail
    refine (works10_any R _ HG.out).mono ?_; rintro e w1 ⟨rfl, hk1⟩
    have HK1 := Lib.hid hk1
    clear hk1
    go_wp2_with fail
    go_ret
    exact ⟨rfl, HK1.out⟩
end Go.Proofs.YtaicampenpkneaaDoor
