/-
  The document's Put of an event: a config. (Printed by draft/genrput5.py.)
-/
import Derived.Test.YtibppobibncpdaaGreatDoorG40
set_option linter.unusedSimpArgs false
set_option linter.unusedVariables false
namespace Go.Proofs.YtibppobibncpdaaGreatDoor
open Go.RowKit
set_option maxHeartbeats 8000000 in
set_option maxRecDepth 100000 in
theorem RPut5_1 (w : World) (x : Ev) (hx : x.In) {N : Nat} (tx rd : Value) (ht : EvAt N w tx rd x) (hN : N ≤ w.heap.size) (hg : evGood x = true) (hk : x.k = 1) : Calls Tryz.prog 8 #[.agg (evC x tx rd)] w (RPutPost x w) := by
  have hk0 := (Keeps.refl [] w).alloc (.cells (evC x tx rd) 32)
  have hX := heap_alloc_new w (.cells (evC x tx rd) 32)
  have hM := refMay5_any _ x hx tx rd (ht.new hk0 hN) (Nat.le_trans hN hk0.size)
  have he : evErr x = 0 := by simp [evErr, hg]
  unfold RPutPost
  rw [hg, he, if_pos rfl]
  obtain ⟨P, hP⟩ : ∃ P, P = strOfNums (evPut x) := ⟨_, rfl⟩
  rw [← hP]
  have HP := Lib.hid hP
  clear hP
  rw [hg] at hM
  have HM := Lib.hid hM
  have HT := Lib.hid ht
  have E0 := evC_0 x tx rd; have E1 := evC_1 x tx rd; have E2 := evC_2 x tx rd
  have HGG := Lib.hid hg
  rw [hk] at E0
  clear hM hg he ht
  go_enter Tryz.func8, Tryz.ntmps8
  go_wp2_with ((with_reducible apply wpList_load_ev); exact rfl; (first | assumption | (refine heap_alloc_lt ?_; assumption) | (refine heap_alloc_lt (heap_alloc_lt ?_); assumption) | exact heap_alloc_at (by simp)); exact rfl)
  refine HM.out.mono ?_; rintro z w1 ⟨rfl, hk1⟩
  have hX1 := hk1.heap hX (by simp)
  have HK1 := Lib.hid (hk0.trans hk1 (FSub.refl _ _))
  have c0 := ev_cell hX1 0 E0
  have c12 := ev_cell hX1 12 (evC_12 x tx rd)
  have c13 := ev_cell hX1 13 (evC_13 x tx rd)
  have c14 := ev_cell hX1 14 (evC_14 x tx rd)
  have c15 := ev_cell hX1 15 (evC_15 x tx rd)
  have c16 := ev_cell hX1 16 (evC_16 x tx rd)
  have c17 := ev_cell hX1 17 (evC_17 x tx rd)
  have c18 := ev_cell hX1 18 (evC_18 x tx rd)
  have HX1 := Lib.hid hX1
  have hw : w.heap.size < w1.heap.size := lt_of_block hX1
  clear hk0 hk1 HM hX E0 E1 E2 hX1
  have hF : cfgGood x.g = true := by have := (good_parts HGG.out).2.2.1; unfold evFits at this; rw [if_pos hk] at this; exact this
  unfold cfgGood at hF
  simp only [Bool.and_eq_true, decide_eq_true_eq] at hF
  obtain ⟨⟨⟨g1, g2, g3⟩, g4, g5⟩, g6, g7⟩ := hF
  have hm0 := hx.m0
  have hfl : 0 ≤ flagsOf x.g ∧ flagsOf x.g < 8 := by unfold flagsOf; cases x.g.p <;> cases x.g.cu <;> cases x.g.me <;> simp
  have n1 := fun w => refn_1 w x.g.m hx.m0 hx.m1
  have n2 := fun w => refn_1 w (flagsOf x.g) hfl.1 (by omega)
  have n3 := fun w => refn_1 w x.g.mo (by omega) (by omega)
  have n4 := fun w => refn_2 w x.g.ms (by omega) (by omega)
  have n5 := fun w => refn_4 w x.g.mt (by omega) (by omega)
  have nb1 := fun w => refbit_any w x.g.p 1
  have nb2 := fun w => refbit_any w x.g.cu 2
  have nb3 := fun w => refbit_any w x.g.me 4
  have v1 : IntKind.i64.wrap x.g.m = x.g.m := wrap64i hm0 (by omega)
  have v2 : IntKind.i64.wrap ((if x.g.p then 1 else 0) + (if x.g.cu then 2 else 0)) = (if x.g.p then 1 else 0) + (if x.g.cu then 2 else 0) := by cases x.g.p <;> cases x.g.cu <;> decide
  have v3 : IntKind.i64.wrap ((if x.g.p then 1 else 0) + (if x.g.cu then 2 else 0) + (if x.g.me then 4 else 0)) = flagsOf x.g := by unfold flagsOf; cases x.g.p <;> cases x.g.cu <;> cases x.g.me <;> decide
  have hpl : evPut x = [1] ++ [x.g.m] ++ [flagsOf x.g] ++ [x.g.mo] ++ be2 x.g.ms ++ be4 x.g.mt := by unfold evPut evBody; rw [if_pos hk, hk]; rfl
  have hPS := HP.out.trans (congrArg strOfNums hpl)
  rw [nums_join, nums_join, nums_join, nums_join, nums_join] at hPS
  have s0 : strOfNums [1] = ⟨#[1]⟩ := by decide
  rw [s0] at hPS
  have s1 : (strOfNums [x.g.m]).size = 1 := strOfNums_size _
  have s2 : (strOfNums [flagsOf x.g]).size = 1 := strOfNums_size _
  have s3 : (strOfNums [x.g.mo]).size = 1 := strOfNums_size _
  have s4 : (strOfNums (be2 x.g.ms)).size = 2 := strOfNums_size _
  have s5 : (strOfNums (be4 x.g.mt)).size = 4 := strOfNums_size _
  generalize (if x.g.p = true then (1 : Int) else 0) = X1 at *
  generalize (if x.g.cu = true then (2 : Int) else 0) = X2 at *
  generalize (if x.g.me = true then (4 : Int) else 0) = X3 at *
  generalize flagsOf x.g = FL at *
  have N1 := Lib.hid n1; have N2 := Lib.hid n2; have N3 := Lib.hid n3; have N4 := Lib.hid n4; have N5 := Lib.hid n5; have NB1 := Lib.hid nb1; have NB2 := Lib.hid nb2; have NB3 := Lib.hid nb3
  clear n1 n2 n3 n4 n5 nb1 nb2 nb3 hfl s0 hpl HP HGG HT hx
  generalize strOfNums [x.g.m] = S1 at *
  generalize strOfNums [FL] = S2 at *
  generalize strOfNums [x.g.mo] = S3 at *
  generalize strOfNums (be2 x.g.ms) = S4 at *
  generalize strOfNums (be4 x.g.mt) = S5 at *
  subst hPS
  have hb := heap_alloc_new w1 (.cells #[.int .u8 x.g.m, .int .i64 x.g.mo, .int .i64 x.g.ms, .int .i64 x.g.mt, .bool x.g.p, .bool x.g.cu, .bool x.g.me] 30)
  have HKW := Lib.hid (HK1.out.alloc (.cells #[.int .u8 x.g.m, .int .i64 x.g.mo, .int .i64 x.g.ms, .int .i64 x.g.mt, .bool x.g.p, .bool x.g.cu, .bool x.g.me] 30))
  have f0 : (w1.alloc (.cells #[.int .u8 x.g.m, .int .i64 x.g.mo, .int .i64 x.g.ms, .int .i64 x.g.mt, .bool x.g.p, .bool x.g.cu, .bool x.g.me] 30)).cell? ⟨w1.heap.size, 0, none⟩ = some (.int .u8 x.g.m) := by unfold World.cell?; simp only [hb]; rfl
  have f1 : (w1.alloc (.cells #[.int .u8 x.g.m, .int .i64 x.g.mo, .int .i64 x.g.ms, .int .i64 x.g.mt, .bool x.g.p, .bool x.g.cu, .bool x.g.me] 30)).cell? ⟨w1.heap.size, 1, none⟩ = some (.int .i64 x.g.mo) := by unfold World.cell?; simp only [hb]; rfl
  have f2 : (w1.alloc (.cells #[.int .u8 x.g.m, .int .i64 x.g.mo, .int .i64 x.g.ms, .int .i64 x.g.mt, .bool x.g.p, .bool x.g.cu, .bool x.g.me] 30)).cell? ⟨w1.heap.size, 2, none⟩ = some (.int .i64 x.g.ms) := by unfold World.cell?; simp only [hb]; rfl
  have f3 : (w1.alloc (.cells #[.int .u8 x.g.m, .int .i64 x.g.mo, .int .i64 x.g.ms, .int .i64 x.g.mt, .bool x.g.p, .bool x.g.cu, .bool x.g.me] 30)).cell? ⟨w1.heap.size, 3, none⟩ = some (.int .i64 x.g.mt) := by unfold World.cell?; simp only [hb]; rfl
  have f4 : (w1.alloc (.cells #[.int .u8 x.g.m, .int .i64 x.g.mo, .int .i64 x.g.ms, .int .i64 x.g.mt, .bool x.g.p, .bool x.g.cu, .bool x.g.me] 30)).cell? ⟨w1.heap.size, 4, none⟩ = some (.bool x.g.p) := by unfold World.cell?; simp only [hb]; rfl
  have f5 : (w1.alloc (.cells #[.int .u8 x.g.m, .int .i64 x.g.mo, .int .i64 x.g.ms, .int .i64 x.g.mt, .bool x.g.p, .bool x.g.cu, .bool x.g.me] 30)).cell? ⟨w1.heap.size, 5, none⟩ = some (.bool x.g.cu) := by unfold World.cell?; simp only [hb]; rfl
  have f6 : (w1.alloc (.cells #[.int .u8 x.g.m, .int .i64 x.g.mo, .int .i64 x.g.ms, .int .i64 x.g.mt, .bool x.g.p, .bool x.g.cu, .bool x.g.me] 30)).cell? ⟨w1.heap.size, 6, none⟩ = some (.bool x.g.me) := by unfold World.cell?; simp only [hb]; rfl
  go_wp2_with fail
  clear hb c0 c12 c13 c14 c15 c16 c17 c18 HX1 HK1
  generalize w1.alloc (.cells #[.int .u8 x.g.m, .int .i64 x.g.mo, .int .i64 x.g.ms, .int .i64 x.g.mt, .bool x.g.p, .bool x.g.cu, .bool x.g.me] 30) = W1 at *
  generalize w1.heap.size = B at *
  go_region_held3 (fun w' => Keeps [] W1 w' ∧ w'.cell? ⟨B, 0, none⟩ = some (.int .u8 x.g.m) ∧ w'.cell? ⟨B, 1, none⟩ = some (.int .i64 x.g.mo) ∧ w'.cell? ⟨B, 2, none⟩ = some (.int .i64 x.g.ms) ∧ w'.cell? ⟨B, 3, none⟩ = some (.int .i64 x.g.mt) ∧ w'.cell? ⟨B, 4, none⟩ = some (.bool x.g.p) ∧ w'.cell? ⟨B, 5, none⟩ = some (.bool x.g.cu) ∧ w'.cell? ⟨B, 6, none⟩ = some (.bool x.g.me))
    (refine ⟨?_, ?_, ?_, ?_, ?_, ?_, ?_, ?_⟩ <;> first | exact Keeps.refl _ _ | assumption | exact (Keeps.refl _ _).drew | exact Keeps.drew (by assumption))
    (first
      | (go_at_call 21; (with_reducible refine (N1.out _).mono ?_); rintro e wA ⟨rfl, hkA⟩; have kA : Keeps [] W1 wA := Keeps.undrew hkA; have fA0 := kA.cell f0 (by simp); have fA1 := kA.cell f1 (by simp); have fA2 := kA.cell f2 (by simp); have fA3 := kA.cell f3 (by simp); have fA4 := kA.cell f4 (by simp); have fA5 := kA.cell f5 (by simp); have fA6 := kA.cell f6 (by simp))
      | (go_at_call 22; (with_reducible refine (NB1.out _).mono ?_); rintro e wB ⟨rfl, hkB⟩; have kB : Keeps [] W1 wB := hkB ▸ kA; have fB0 := kB.cell f0 (by simp); have fB1 := kB.cell f1 (by simp); have fB2 := kB.cell f2 (by simp); have fB3 := kB.cell f3 (by simp); have fB4 := kB.cell f4 (by simp); have fB5 := kB.cell f5 (by simp); have fB6 := kB.cell f6 (by simp))
      | (go_at_call 22; (with_reducible refine (NB2.out _).mono ?_); rintro e wC ⟨rfl, hkC⟩; have kC : Keeps [] W1 wC := hkC ▸ kB; have fC0 := kC.cell f0 (by simp); have fC1 := kC.cell f1 (by simp); have fC2 := kC.cell f2 (by simp); have fC3 := kC.cell f3 (by simp); have fC4 := kC.cell f4 (by simp); have fC5 := kC.cell f5 (by simp); have fC6 := kC.cell f6 (by simp))
      | (go_at_call 22; (with_reducible refine (NB3.out _).mono ?_); rintro e wD ⟨rfl, hkD⟩; have kD : Keeps [] W1 wD := hkD ▸ kC; have fD0 := kD.cell f0 (by simp); have fD1 := kD.cell f1 (by simp); have fD2 := kD.cell f2 (by simp); have fD3 := kD.cell f3 (by simp); have fD4 := kD.cell f4 (by simp); have fD5 := kD.cell f5 (by simp); have fD6 := kD.cell f6 (by simp))
      | (go_at_call 21; (with_reducible refine (N2.out _).mono ?_); rintro e wE ⟨rfl, hkE⟩; have kE : Keeps [] W1 wE := kD.trans hkE (FSub.refl _ _); have fE0 := kE.cell f0 (by simp); have fE1 := kE.cell f1 (by simp); have fE2 := kE.cell f2 (by simp); have fE3 := kE.cell f3 (by simp); have fE4 := kE.cell f4 (by simp); have fE5 := kE.cell f5 (by simp); have fE6 := kE.cell f6 (by simp))
      | (go_at_call 21; (with_reducible refine (N3.out _).mono ?_); rintro e wF ⟨rfl, hkF⟩; have kF : Keeps [] W1 wF := kE.trans hkF (FSub.refl _ _); have fF0 := kF.cell f0 (by simp); have fF1 := kF.cell f1 (by simp); have fF2 := kF.cell f2 (by simp); have fF3 := kF.cell f3 (by simp); have fF4 := kF.cell f4 (by simp); have fF5 := kF.cell f5 (by simp); have fF6 := kF.cell f6 (by simp))
      | (go_at_call 21; (with_reducible refine (N4.out _).mono ?_); rintro e wG ⟨rfl, hkG⟩; have kG : Keeps [] W1 wG := kF.trans hkG (FSub.refl _ _); have fG0 := kG.cell f0 (by simp); have fG1 := kG.cell f1 (by simp); have fG2 := kG.cell f2 (by simp); have fG3 := kG.cell f3 (by simp); have fG4 := kG.cell f4 (by simp); have fG5 := kG.cell f5 (by simp); have fG6 := kG.cell f6 (by simp))
      | (go_at_call 21; (with_reducible refine (N5.out _).mono ?_); rintro e wH ⟨rfl, hkH⟩; have kH : Keeps [] W1 wH := kG.trans hkH (FSub.refl _ _); have fH0 := kH.cell f0 (by simp); have fH1 := kH.cell f1 (by simp); have fH2 := kH.cell f2 (by simp); have fH3 := kH.cell f3 (by simp); have fH4 := kH.cell f4 (by simp); have fH5 := kH.cell f5 (by simp); have fH6 := kH.cell f6 (by simp)))
  go_wp2_with fail
  go_ret2
  exact ⟨rfl, HKW.out.trans kH (FSub.refl _ _)⟩
end Go.Proofs.YtibppobibncpdaaGreatDoor
