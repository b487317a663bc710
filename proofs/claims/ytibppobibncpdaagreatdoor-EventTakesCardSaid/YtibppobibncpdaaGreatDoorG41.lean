/-
  The document's Put of an event: an invoke, a return. (Printed by draft/genrput5.py.)
-/
import Derived.Test.YtibppobibncpdaaGreatDoorG40
set_option linter.unusedSimpArgs false
set_option linter.unusedVariables false
namespace Go.Proofs.YtibppobibncpdaaGreatDoor
open Go.RowKit
set_option maxHeartbeats 8000000 in
set_option maxRecDepth 100000 in
theorem RPut5_2 (w : World) (x : Ev) (hx : x.In) {N : Nat} (tx rd : Value) (ht : EvAt N w tx rd x) (hN : N ≤ w.heap.size) (hg : evGood x = true) (hk : x.k = 2) : Calls Tryz.prog 8 #[.agg (evC x tx rd)] w (RPutPost x w) := by
  have hk0 := (Keeps.refl [] w).alloc (.cells (evC x tx rd) 32)
  have hX := heap_alloc_new w (.cells (evC x tx rd) 32)
  have hM := refMay5_any _ x hx tx rd (ht.new hk0 hN) (Nat.le_trans hN hk0.size)
  have he : evErr x = 0 := by simp [evErr, hg]
  unfold RPutPost
  rw [hg, he, if_pos rfl]
  obtain ⟨P, hP⟩ : ∃ P, P = strOfNums (evPut x) := ⟨_, rfl⟩
  rw [← hP]
  have HP := Lib.hid hP
  clear hP
  rw [hg] at hM
  have HM := Lib.hid hM
  have HT := Lib.hid ht
  have E0 := evC_0 x tx rd; have E1 := evC_1 x tx rd; have E2 := evC_2 x tx rd
  have HGG := Lib.hid hg
  rw [hk] at E0
  clear hM hg he ht
  go_enter Tryz.func8, Tryz.ntmps8
  go_wp2_with ((with_reducible apply wpList_load_ev); exact rfl; (first | assumption | (refine heap_alloc_lt ?_; assumption) | (refine heap_alloc_lt (heap_alloc_lt ?_); assumption) | exact heap_alloc_at (by simp)); exact rfl)
  refine HM.out.mono ?_; rintro z w1 ⟨rfl, hk1⟩
  have hX1 := hk1.heap hX (by simp)
  have HK1 := Lib.hid (hk0.trans hk1 (FSub.refl _ _))
  have c0 := ev_cell hX1 0 E0; have c1 := ev_cell hX1 1 E1; have c2 := ev_cell hX1 2 E2

  have HX1 := Lib.hid hX1
  have hw : w.heap.size < w1.heap.size := lt_of_block hX1
  clear hk0 hk1 HM hX E0 E1 E2 hX1
  have n1 := fun w => refn_1 w 2 (by omega) (by omega)
  have n2 := fun w => refn_1 w x.c hx.c0 hx.c1
  have n3 := fun w => refn_2 w x.id hx.i0 hx.i1
  have v1 : IntKind.i64.wrap 2 = 2 := by decide
  have v2 : IntKind.i64.wrap x.c = x.c := wrap64i hx.c0 (by have := hx.c1; omega)
  have v3 : IntKind.i64.wrap x.id = x.id := wrap64i hx.i0 (by have := hx.i1; omega)
  have hS0 : strOfNums [2] ++ strOfNums [x.c] ++ strOfNums (be2 x.id) = strOfNums (2 :: whoPut x) := by rw [← nums_join, ← nums_join]; rfl
  have s1 : (strOfNums [(2 : Int)]).size = 1 := strOfNums_size _
  have s2 : (strOfNums [x.c]).size = 1 := strOfNums_size _
  have s3 : (strOfNums (be2 x.id)).size = 2 := strOfNums_size _
  have HS0 := Lib.hid hS0; have N1 := Lib.hid n1; have N2 := Lib.hid n2; have N3 := Lib.hid n3
  clear n1 n2 n3 hS0
  generalize strOfNums [(2 : Int)] = S1 at *
  generalize strOfNums [x.c] = S2 at *
  generalize strOfNums (be2 x.id) = S3 at *
  go_wp2_with fail
  go_region_held3 (fun w' => Keeps [] w1 w' ∧ w'.cell? ⟨w.heap.size, 0, none⟩ = some (.int .u8 2) ∧ w'.cell? ⟨w.heap.size, 1, none⟩ = some (.int .u8 x.c) ∧ w'.cell? ⟨w.heap.size, 2, none⟩ = some (.int .u16 x.id))
    (refine ⟨?_, ?_, ?_, ?_⟩ <;> first | exact Keeps.refl _ _ | assumption | exact (Keeps.refl _ _).drew | exact Keeps.drew (by assumption))
    (first
      | (go_at_call 21; (with_reducible refine (N1.out _).mono ?_); rintro e wA ⟨rfl, hkA⟩; have kA : Keeps [] w1 wA := Keeps.undrew hkA; have a0 := kA.cell c0 (by simp); have a1 := kA.cell c1 (by simp); have a2 := kA.cell c2 (by simp))
      | (go_at_call 21; (with_reducible refine (N2.out _).mono ?_); rintro e wB ⟨rfl, hkB⟩; have kB : Keeps [] w1 wB := kA.trans hkB (FSub.refl _ _); have b0 := kB.cell c0 (by simp); have b1 := kB.cell c1 (by simp); have b2 := kB.cell c2 (by simp))
      | (go_at_call 21; (with_reducible refine (N3.out _).mono ?_); rintro e wC ⟨rfl, hkC⟩; have kC : Keeps [] w1 wC := kB.trans hkC (FSub.refl _ _); have d0 := kC.cell c0 (by simp); have d1 := kC.cell c1 (by simp); have d2 := kC.cell c2 (by simp)))
  have hkC2 : Keeps [] w wC := HK1.out.trans kC (FSub.refl _ _)
  have HKC := Lib.hid hkC2
  have hXC := kC.heap HX1.out (by simp)
  rw [HS0.out]
  clear hkA kA a0 a1 a2 hkB kB b0 b1 b2 hkC kC d1 d2 N1 N2 N3 HS0 v1 v2 v3 s1 s2 s3 HK1 hkC2 HX1 c0 c1 c2
  have hS : evPut x = (2 :: whoPut x) ++ opPut x.o := by unfold evPut evBody; rw [if_neg (by omega), if_pos hk, hk]; rfl
  have hPS := HP.out.trans ((congrArg strOfNums hS).trans (nums_join _ _))
  have hF : opGood x.o = true := by have := (good_parts HGG.out).2.2.1; unfold evFits at this; rw [if_neg (by omega), if_pos hk] at this; exact this
  have hF2 : opGood ⟨x.o.f, x.o.o, x.o.k, x.o.a, x.o.b⟩ = true := hF
  have hcall := fun w => r4Put_any w x.o.f x.o.o x.o.k x.o.a x.o.b hx.o
  simp only [hF2, if_true] at hcall
  have z4 : (strOfNums (opPut x.o)).size ≤ 10 := by rw [strOfNums_size]; have := opPut_len x.o; omega
  clear hF2
  have z0 : (strOfNums (2 :: whoPut x)).size = 4 := strOfNums_size _
  generalize strOfNums (2 :: whoPut x) = S0 at *
  generalize strOfNums (opPut x.o) = S4 at *
  subst hPS
  have e3 := ev_cell hXC 3 (evC_3 x tx rd)
  have e4 := ev_cell hXC 4 (evC_4 x tx rd)
  have e5 := ev_cell hXC 5 (evC_5 x tx rd)
  have e6 := ev_cell hXC 6 (evC_6 x tx rd)
  have e7 := ev_cell hXC 7 (evC_7 x tx rd)
  have HC := Lib.hid hcall
  clear hcall hXC hS hx hF HP
  go_wp2_with fail
  refine (HC.out _).mono ?_; rintro z w5 ⟨rfl, hk5⟩
  have HK5 := Lib.hid (HKC.out.trans hk5 (FSub.refl _ _))
  clear hk5 HKC HC
  go_wp2_with fail
  go_ret2
  exact ⟨rfl, HK5.out⟩
set_option maxHeartbeats 8000000 in
set_option maxRecDepth 100000 in
theorem RPut5_3 (w : World) (x : Ev) (hx : x.In) {N : Nat} (tx rd : Value) (ht : EvAt N w tx rd x) (hN : N ≤ w.heap.size) (hg : evGood x = true) (hk : x.k = 3) : Calls Tryz.prog 8 #[.agg (evC x tx rd)] w (RPutPost x w) := by
  have hk0 := (Keeps.refl [] w).alloc (.cells (evC x tx rd) 32)
  have hX := heap_alloc_new w (.cells (evC x tx rd) 32)
  have hM := refMay5_any _ x hx tx rd (ht.new hk0 hN) (Nat.le_trans hN hk0.size)
  have he : evErr x = 0 := by simp [evErr, hg]
  unfold RPutPost
  rw [hg, he, if_pos rfl]
  obtain ⟨P, hP⟩ : ∃ P, P = strOfNums (evPut x) := ⟨_, rfl⟩
  rw [← hP]
  have HP := Lib.hid hP
  clear hP
  rw [hg] at hM
  have HM := Lib.hid hM
  have HT := Lib.hid ht
  have E0 := evC_0 x tx rd; have E1 := evC_1 x tx rd; have E2 := evC_2 x tx rd
  have HGG := Lib.hid hg
  rw [hk] at E0
  clear hM hg he ht
  go_enter Tryz.func8, Tryz.ntmps8
  go_wp2_with ((with_reducible apply wpList_load_ev); exact rfl; (first | assumption | (refine heap_alloc_lt ?_; assumption) | (refine heap_alloc_lt (heap_alloc_lt ?_); assumption) | exact heap_alloc_at (by simp)); exact rfl)
  refine HM.out.mono ?_; rintro z w1 ⟨rfl, hk1⟩
  have hX1 := hk1.heap hX (by simp)
  have HK1 := Lib.hid (hk0.trans hk1 (FSub.refl _ _))
  have c0 := ev_cell hX1 0 E0; have c1 := ev_cell hX1 1 E1; have c2 := ev_cell hX1 2 E2

  have HX1 := Lib.hid hX1
  have hw : w.heap.size < w1.heap.size := lt_of_block hX1
  clear hk0 hk1 HM hX E0 E1 E2 hX1
  have n1 := fun w => refn_1 w 3 (by omega) (by omega)
  have n2 := fun w => refn_1 w x.c hx.c0 hx.c1
  have n3 := fun w => refn_2 w x.id hx.i0 hx.i1
  have v1 : IntKind.i64.wrap 3 = 3 := by decide
  have v2 : IntKind.i64.wrap x.c = x.c := wrap64i hx.c0 (by have := hx.c1; omega)
  have v3 : IntKind.i64.wrap x.id = x.id := wrap64i hx.i0 (by have := hx.i1; omega)
  have hS0 : strOfNums [3] ++ strOfNums [x.c] ++ strOfNums (be2 x.id) = strOfNums (3 :: whoPut x) := by rw [← nums_join, ← nums_join]; rfl
  have s1 : (strOfNums [(3 : Int)]).size = 1 := strOfNums_size _
  have s2 : (strOfNums [x.c]).size = 1 := strOfNums_size _
  have s3 : (strOfNums (be2 x.id)).size = 2 := strOfNums_size _
  have HS0 := Lib.hid hS0; have N1 := Lib.hid n1; have N2 := Lib.hid n2; have N3 := Lib.hid n3
  clear n1 n2 n3 hS0
  generalize strOfNums [(3 : Int)] = S1 at *
  generalize strOfNums [x.c] = S2 at *
  generalize strOfNums (be2 x.id) = S3 at *
  go_wp2_with fail
  go_region_held3 (fun w' => Keeps [] w1 w' ∧ w'.cell? ⟨w.heap.size, 0, none⟩ = some (.int .u8 3) ∧ w'.cell? ⟨w.heap.size, 1, none⟩ = some (.int .u8 x.c) ∧ w'.cell? ⟨w.heap.size, 2, none⟩ = some (.int .u16 x.id))
    (refine ⟨?_, ?_, ?_, ?_⟩ <;> first | exact Keeps.refl _ _ | assumption | exact (Keeps.refl _ _).drew | exact Keeps.drew (by assumption))
    (first
      | (go_at_call 21; (with_reducible refine (N1.out _).mono ?_); rintro e wA ⟨rfl, hkA⟩; have kA : Keeps [] w1 wA := Keeps.undrew hkA; have a0 := kA.cell c0 (by simp); have a1 := kA.cell c1 (by simp); have a2 := kA.cell c2 (by simp))
      | (go_at_call 21; (with_reducible refine (N2.out _).mono ?_); rintro e wB ⟨rfl, hkB⟩; have kB : Keeps [] w1 wB := kA.trans hkB (FSub.refl _ _); have b0 := kB.cell c0 (by simp); have b1 := kB.cell c1 (by simp); have b2 := kB.cell c2 (by simp))
      | (go_at_call 21; (with_reducible refine (N3.out _).mono ?_); rintro e wC ⟨rfl, hkC⟩; have kC : Keeps [] w1 wC := kB.trans hkC (FSub.refl _ _); have d0 := kC.cell c0 (by simp); have d1 := kC.cell c1 (by simp); have d2 := kC.cell c2 (by simp)))
  have hkC2 : Keeps [] w wC := HK1.out.trans kC (FSub.refl _ _)
  have HKC := Lib.hid hkC2
  have hXC := kC.heap HX1.out (by simp)
  rw [HS0.out]
  clear hkA kA a0 a1 a2 hkB kB b0 b1 b2 hkC kC d1 d2 N1 N2 N3 HS0 v1 v2 v3 s1 s2 s3 HK1 hkC2 HX1 c0 c1 c2
  have hS : evPut x = (3 :: whoPut x) ++ rsPut x.rk x.rv := by unfold evPut evBody; rw [if_neg (by omega), if_neg (by omega), if_pos hk, hk]; rfl
  have hPS := HP.out.trans ((congrArg strOfNums hS).trans (nums_join _ _))
  have hF : rsGood x.rk x.rv = true := by have := (good_parts HGG.out).2.2.1; unfold evFits at this; rw [if_neg (by omega), if_neg (by omega), if_pos hk] at this; exact this
  have hcall := fun w => r3Put_any w x.rk x.rv hx.rk0 hx.rk1 hx.rv0 hx.rv1
  simp only [hF, if_true, rsErr] at hcall
  have z4 : (strOfNums (rsPut x.rk x.rv)).size ≤ 10 := by rw [strOfNums_size]; unfold rsPut; split <;> simp
  have z0 : (strOfNums (3 :: whoPut x)).size = 4 := strOfNums_size _
  generalize strOfNums (3 :: whoPut x) = S0 at *
  generalize strOfNums (rsPut x.rk x.rv) = S4 at *
  subst hPS
  have e8 := ev_cell hXC 8 (evC_8 x tx rd)
  have e9 := ev_cell hXC 9 (evC_9 x tx rd)
  have HC := Lib.hid hcall
  clear hcall hXC hS hx hF HP
  go_wp2_with fail
  refine (HC.out _).mono ?_; rintro z w5 ⟨rfl, hk5⟩
  have HK5 := Lib.hid (HKC.out.trans hk5 (FSub.refl _ _))
  clear hk5 HKC HC
  go_wp2_with fail
  go_ret2
  exact ⟨rfl, HK5.out⟩
end Go.Proofs.YtibppobibncpdaaGreatDoor
