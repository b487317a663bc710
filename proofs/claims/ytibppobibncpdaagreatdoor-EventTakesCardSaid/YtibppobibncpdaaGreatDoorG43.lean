/-
  The document's Put of an event: micros. (Printed by draft/genrput5.py.)
-/
import Derived.Test.YtibppobibncpdaaGreatDoorG40
set_option linter.unusedSimpArgs false
set_option linter.unusedVariables false
namespace Go.Proofs.YtibppobibncpdaaGreatDoor
open Go.RowKit
theorem take_more {α : Type} {l : List α} {k : Nat} (d : α) (h : k < l.length) : l.take (k + 1) = l.take k ++ [l.getD k d] := by
  rw [List.take_add_one, List.getElem?_eq_getElem h]; simp [List.getD, List.getElem?_eq_getElem h]
theorem flat_le {α : Type} (f : α → List Int) (c : Nat) (h : ∀ a, (f a).length ≤ c) : ∀ l : List α, (l.flatMap f).length ≤ c * l.length
  | [] => by simp
  | a :: l => by have h1 := flat_le f c h l; have h2 := h a; simp only [List.flatMap_cons, List.length_append, List.length_cons, Nat.mul_add]; omega
theorem micPut_le (m : Mic) : (micPut m).length ≤ 3 := by unfold micPut; split <;> simp [be2]
set_option maxHeartbeats 8000000 in
set_option maxRecDepth 100000 in
theorem RPut5_5 (w : World) (x : Ev) (hx : x.In) {N : Nat} (tx rd : Value) (ht : EvAt N w tx rd x) (hN : N ≤ w.heap.size) (hg : evGood x = true) (hk : x.k = 5) : Calls Tryz.prog 8 #[.agg (evC x tx rd)] w (RPutPost x w) := by
  have hk0 := (Keeps.refl [] w).alloc (.cells (evC x tx rd) 32)
  have hX := heap_alloc_new w (.cells (evC x tx rd) 32)
  have hM := refMay5_any _ x hx tx rd (ht.new hk0 hN) (Nat.le_trans hN hk0.size)
  have he : evErr x = 0 := by simp [evErr, hg]
  unfold RPutPost
  rw [hg, he, if_pos rfl]
  obtain ⟨P, hP⟩ : ∃ P, P = strOfNums (evPut x) := ⟨_, rfl⟩
  rw [← hP]
  have HP := Lib.hid hP
  clear hP
  rw [hg] at hM
  have HM := Lib.hid hM
  have HT := Lib.hid ht
  have E0 := evC_0 x tx rd; have E1 := evC_1 x tx rd; have E2 := evC_2 x tx rd
  have HGG := Lib.hid hg
  rw [hk] at E0
  clear hM hg he ht
  go_enter Tryz.func8, Tryz.ntmps8
  go_wp2_with ((with_reducible apply wpList_load_ev); exact rfl; (first | assumption | (refine heap_alloc_lt ?_; assumption) | (refine heap_alloc_lt (heap_alloc_lt ?_); assumption) | exact heap_alloc_at (by simp)); exact rfl)
  refine HM.out.mono ?_; rintro z w1 ⟨rfl, hk1⟩
  have hX1 := hk1.heap hX (by simp)
  have HK1 := Lib.hid (hk0.trans hk1 (FSub.refl _ _))
  have c0 := ev_cell hX1 0 E0; have c1 := ev_cell hX1 1 E1; have c2 := ev_cell hX1 2 E2

  have HX1 := Lib.hid hX1
  have hw : w.heap.size < w1.heap.size := lt_of_block hX1
  clear hk0 hk1 HM hX E0 E1 E2 hX1
  have n1 := fun w => refn_1 w 5 (by omega) (by omega)
  have n2 := fun w => refn_1 w x.c hx.c0 hx.c1
  have n3 := fun w => refn_2 w x.id hx.i0 hx.i1
  have v1 : IntKind.i64.wrap 5 = 5 := by decide
  have v2 : IntKind.i64.wrap x.c = x.c := wrap64i hx.c0 (by have := hx.c1; omega)
  have v3 : IntKind.i64.wrap x.id = x.id := wrap64i hx.i0 (by have := hx.i1; omega)
  have hS0 : strOfNums [5] ++ strOfNums [x.c] ++ strOfNums (be2 x.id) = strOfNums (5 :: whoPut x) := by rw [← nums_join, ← nums_join]; rfl
  have s1 : (strOfNums [(5 : Int)]).size = 1 := strOfNums_size _
  have s2 : (strOfNums [x.c]).size = 1 := strOfNums_size _
  have s3 : (strOfNums (be2 x.id)).size = 2 := strOfNums_size _
  have HS0 := Lib.hid hS0; have N1 := Lib.hid n1; have N2 := Lib.hid n2; have N3 := Lib.hid n3
  clear n1 n2 n3 hS0
  generalize strOfNums [(5 : Int)] = S1 at *
  generalize strOfNums [x.c] = S2 at *
  generalize strOfNums (be2 x.id) = S3 at *
  go_wp2_with fail
  go_region_held3 (fun w' => Keeps [] w1 w' ∧ w'.cell? ⟨w.heap.size, 0, none⟩ = some (.int .u8 5) ∧ w'.cell? ⟨w.heap.size, 1, none⟩ = some (.int .u8 x.c) ∧ w'.cell? ⟨w.heap.size, 2, none⟩ = some (.int .u16 x.id))
    (refine ⟨?_, ?_, ?_, ?_⟩ <;> first | exact Keeps.refl _ _ | assumption | exact (Keeps.refl _ _).drew | exact Keeps.drew (by assumption))
    (first
      | (go_at_call 21; (with_reducible refine (N1.out _).mono ?_); rintro e wA ⟨rfl, hkA⟩; have kA : Keeps [] w1 wA := Keeps.undrew hkA; have a0 := kA.cell c0 (by simp); have a1 := kA.cell c1 (by simp); have a2 := kA.cell c2 (by simp))
      | (go_at_call 21; (with_reducible refine (N2.out _).mono ?_); rintro e wB ⟨rfl, hkB⟩; have kB : Keeps [] w1 wB := kA.trans hkB (FSub.refl _ _); have b0 := kB.cell c0 (by simp); have b1 := kB.cell c1 (by simp); have b2 := kB.cell c2 (by simp))
      | (go_at_call 21; (with_reducible refine (N3.out _).mono ?_); rintro e wC ⟨rfl, hkC⟩; have kC : Keeps [] w1 wC := kB.trans hkC (FSub.refl _ _); have d0 := kC.cell c0 (by simp); have d1 := kC.cell c1 (by simp); have d2 := kC.cell c2 (by simp)))
  have hkC2 : Keeps [] w wC := HK1.out.trans kC (FSub.refl _ _)
  have HKC := Lib.hid hkC2
  have hXC := kC.heap HX1.out (by simp)
  rw [HS0.out]
  clear hkA kA a0 a1 a2 hkB kB b0 b1 b2 hkC kC d1 d2 N1 N2 N3 HS0 v1 v2 v3 s1 s2 s3 HK1 hkC2 HX1 c0 c1 c2
  have e10 := ev_cell hXC 10 (evC_10 x tx rd)
  obtain ⟨a, cc, ea, hc, hm, hh⟩ := HT.out.t
  replace e10 := e10.trans (congrArg some ea)
  have hgd : micsGood x.t = true := by have := (good_parts HGG.out).2.2.1; unfold evFits at this; rw [if_neg (by omega), if_neg (by omega), if_neg (by omega), if_pos hk] at this; exact this
  unfold micsGood at hgd
  simp only [Bool.and_eq_true, decide_eq_true_eq] at hgd
  obtain ⟨hl, hall⟩ := hgd
  obtain ⟨bk, o, rfl, hbN, hcells⟩ := hh (fun e => by rw [e] at hl; simp at hl)
  have HC := Lib.hid hcells; have HALL := Lib.hid (List.all_eq_true.1 hall); have hti := hx.t; have HTI := Lib.hid hti
  have n4 := fun w => refn_1 w (x.t.length : Int) (by omega) (by omega)
  have hpl : evPut x = (5 :: whoPut x ++ [(x.t.length : Int)]) ++ x.t.flatMap micPut := by unfold evPut evBody; rw [if_neg (by omega), if_neg (by omega), if_neg (by omega), if_pos hk, hk]; simp
  have HPL := Lib.hid (HP.out.trans (congrArg strOfNums hpl))
  have z0 : (strOfNums (5 :: whoPut x)).size = 4 := strOfNums_size _
  have z1 : (strOfNums [(x.t.length : Int)]).size = 1 := strOfNums_size _
  have v1 : IntKind.i64.wrap (x.t.length : Int) = (x.t.length : Int) := wrap64i (by omega) (by omega)
  have hB0 := (nums_join (5 :: whoPut x) [(x.t.length : Int)]).symm
  have HB0 := Lib.hid hB0; have N4 := Lib.hid n4
  clear hcells hall hti n4 hpl HP hB0 ea hx
  generalize strOfNums (5 :: whoPut x) = S0 at *
  generalize strOfNums [(x.t.length : Int)] = S4 at *
  go_wp2_with fail
  refine (N4.out _).mono ?_; rintro z w5 ⟨rfl, hk5⟩
  have HK5 := Lib.hid (HKC.out.trans hk5 (FSub.refl _ _))
  replace e10 := hk5.cell e10 (by simp)
  replace d0 := hk5.cell d0 (by simp)
  clear hk5 HKC N4 hXC
  go_wp2_with fail
  go_loopw [5, 10, 11] (fun s i _ wr => ∃ k : Nat, s = .string (strOfNums ((5 :: whoPut x ++ [(x.t.length : Int)]) ++ (x.t.take k).flatMap micPut)) ∧ i = .int .i64 k ∧ k ≤ x.t.length ∧ Keeps [] w5 wr) (fun _ i _ _ => x.t.length - (intOf i).toNat)
  case atStart => exact ⟨0, by rw [HB0.out]; simp, rfl, by omega, Keeps.refl _ _⟩
  case round =>
    obtain ⟨k, rfl, rfl, hk', hkw⟩ := hrel
    replace e10 := hkw.cell e10 (by simp)
    by_cases hlt : k < x.t.length
    · obtain ⟨d1, d2, d3⟩ := HC.out k _ (getD_get micNone hlt)
      have hK := HK5.out.trans hkw (FSub.refl _ _)
      replace d1 := hK.cell d1 (by simp)
      replace d2 := hK.cell d2 (by simp)
      replace d3 := hK.cell d3 (by simp)
      have hmi := HTI.out _ (getD_in micNone hlt)
      have hmg := HALL.out _ (getD_in micNone hlt)
      have b1 := hmi.k0; have b3 := hmi.v0; have b4 := hmi.v1
      have y1 : (k : Int) < (x.t.length : Int) := by omega
      have hbz : bk < wr.heap.size := by have := hK.size; omega
      have hnx : strOfNums ((5 :: whoPut x ++ [(x.t.length : Int)]) ++ (x.t.take k).flatMap micPut) ++ strOfNums (micPut (x.t.getD k micNone)) = strOfNums ((5 :: whoPut x ++ [(x.t.length : Int)]) ++ (x.t.take (k + 1)).flatMap micPut) := by
        rw [← nums_join, take_more micNone hlt]; simp
      have hsz : (strOfNums ((5 :: whoPut x ++ [(x.t.length : Int)]) ++ (x.t.take k).flatMap micPut)).size ≤ 100 := by
        rw [strOfNums_size]
        have := flat_le micPut 3 micPut_le (x.t.take k)
        have := List.length_take_le k x.t
        simp only [List.length_append, List.length_cons, List.length_nil, whoPut, be2]
        omega
      clear hmi hK
      generalize hM : x.t.getD k micNone = M at *
      clear hM
      obtain ⟨m1, m2, m3⟩ := M
      simp only [micGood, Bool.and_eq_true, decide_eq_true_eq] at hmg d1 d2 d3 b1 b3 b4
      have b2 := hmg.1
      clear hmg
      generalize strOfNums ((5 :: whoPut x ++ [(x.t.length : Int)]) ++ (x.t.take k).flatMap micPut) = S at *
      have f0 : (wr.alloc (.cells #[.bool m1, .int .u8 m2, .int .u16 m3] 72)).cell? ⟨wr.heap.size, 0, none⟩ = some (.bool m1) := by unfold World.cell?; simp only [heap_alloc_new]; rfl
      have f1 : (wr.alloc (.cells #[.bool m1, .int .u8 m2, .int .u16 m3] 72)).cell? ⟨wr.heap.size, 1, none⟩ = some (.int .u8 m2) := by unfold World.cell?; simp only [heap_alloc_new]; rfl
      have f2 : (wr.alloc (.cells #[.bool m1, .int .u8 m2, .int .u16 m3] 72)).cell? ⟨wr.heap.size, 2, none⟩ = some (.int .u16 m3) := by unfold World.cell?; simp only [heap_alloc_new]; rfl
      have HKA := Lib.hid (hkw.alloc (.cells #[.bool m1, .int .u8 m2, .int .u16 m3] 72))
      cases m1 with
      | true =>
        have nb := fun w => refbit_any w true 128
        have n5 := fun w => refn_1 w (m2 + 128) (by omega) (by omega)
        have v2 : IntKind.i64.wrap m2 = m2 := wrap64i b1 (by omega)
        have v3 : IntKind.i64.wrap (m2 + 128) = m2 + 128 := wrap64i (by omega) (by omega)
        have hmp : micPut ⟨true, m2, m3⟩ = [m2 + 128] := rfl
        rw [hmp] at hnx
        have z5 : (strOfNums [m2 + 128]).size = 1 := strOfNums_size _
        have y2 : ¬ 9223372036854775807 < S.size + 1 := by omega
        have NB := Lib.hid nb; have N5 := Lib.hid n5; have HNX := Lib.hid hnx
        clear nb n5 hmp hnx
        generalize strOfNums [m2 + 128] = S5 at *
        go_wp2_with fail
        generalize wr.alloc (.cells #[.bool true, .int .u8 m2, .int .u16 m3] 72) = W1 at *
        generalize wr.heap.size = B at *
        go_region_held3 (fun w' => Keeps [] W1 w' ∧ w'.cell? ⟨B, 0, none⟩ = some (.bool true) ∧ w'.cell? ⟨B, 1, none⟩ = some (.int .u8 m2) ∧ w'.cell? ⟨B, 2, none⟩ = some (.int .u16 m3))
          (refine ⟨?_, ?_, ?_, ?_⟩ <;> first | exact Keeps.refl _ _ | assumption | exact (Keeps.refl _ _).drew | exact Keeps.drew (by assumption))
          (first
            | (go_at_call 22; (with_reducible refine (NB.out _).mono ?_); rintro e wA ⟨rfl, hkA⟩; have kA : Keeps [] W1 wA := hkA ▸ (Keeps.refl [] W1).drew; have fA0 := kA.cell f0 (by simp); have fA1 := kA.cell f1 (by simp); have fA2 := kA.cell f2 (by simp))
            | (go_at_call 21; (with_reducible refine (N5.out _).mono ?_); rintro e wB ⟨rfl, hkB⟩; have kB : Keeps [] W1 wB := kA.trans hkB (FSub.refl _ _); have fB0 := kB.cell f0 (by simp); have fB1 := kB.cell f1 (by simp); have fB2 := kB.cell f2 (by simp)))

        go_wp2_with fail
        go_roundw
        case rel => exact ⟨k + 1, by rw [← HNX.out], by go_num, by omega, HKA.out.trans kB (FSub.refl _ _)⟩
        case measure => simp [intOf]; omega
      | false =>
        have nb := fun w => refbit_any w false 128
        have n5 := fun w => refn_1 w m2 (by omega) (by omega)
        have n6 := fun w => refn_2 w m3 b3 b4
        have v2 : IntKind.i64.wrap m2 = m2 := wrap64i b1 (by omega)
        have v4 : IntKind.i64.wrap m3 = m3 := wrap64i b3 (by omega)
        have hmp : micPut ⟨false, m2, m3⟩ = [m2] ++ be2 m3 := rfl
        rw [hmp, nums_join, ← ByteArray.append_assoc] at hnx
        have z5 : (strOfNums [m2]).size = 1 := strOfNums_size _
        have y2 : ¬ 9223372036854775807 < S.size + 1 := by omega
        have z6 : (strOfNums (be2 m3)).size = 2 := strOfNums_size _
        have NB := Lib.hid nb; have N5 := Lib.hid n5; have HNX := Lib.hid hnx
        clear nb n5 hmp hnx
        generalize strOfNums [m2] = S5 at *
        generalize strOfNums (be2 m3) = S6 at *
        go_wp2_with fail
        generalize wr.alloc (.cells #[.bool false, .int .u8 m2, .int .u16 m3] 72) = W1 at *
        generalize wr.heap.size = B at *
        go_region_held3 (fun w' => Keeps [] W1 w' ∧ w'.cell? ⟨B, 0, none⟩ = some (.bool false) ∧ w'.cell? ⟨B, 1, none⟩ = some (.int .u8 m2) ∧ w'.cell? ⟨B, 2, none⟩ = some (.int .u16 m3))
          (refine ⟨?_, ?_, ?_, ?_⟩ <;> first | exact Keeps.refl _ _ | assumption | exact (Keeps.refl _ _).drew | exact Keeps.drew (by assumption))
          (first
            | (go_at_call 22; (with_reducible refine (NB.out _).mono ?_); rintro e wA ⟨rfl, hkA⟩; have kA : Keeps [] W1 wA := hkA ▸ (Keeps.refl [] W1).drew; have fA0 := kA.cell f0 (by simp); have fA1 := kA.cell f1 (by simp); have fA2 := kA.cell f2 (by simp))
            | (go_at_call 21; (with_reducible refine (N5.out _).mono ?_); rintro e wB ⟨rfl, hkB⟩; have kB : Keeps [] W1 wB := kA.trans hkB (FSub.refl _ _); have fB0 := kB.cell f0 (by simp); have fB1 := kB.cell f1 (by simp); have fB2 := kB.cell f2 (by simp)))

        go_wp2_with fail
        refine (n6 _).mono ?_; rintro z w6 ⟨rfl, hk6⟩
        go_wp2_with fail
        go_roundw
        case rel => exact ⟨k + 1, by rw [← HNX.out], by go_num, by omega, HKA.out.trans (kB.trans hk6 (FSub.refl _ _)) (FSub.refl _ _)⟩
        case measure => simp [intOf]; omega
    · obtain rfl : k = x.t.length := by omega
      rw [List.take_length, ← HPL.out]
      clear HC HALL HTI HPL
      go_wp2_with fail
      go_ret2
      exact ⟨rfl, HK5.out.trans hkw (FSub.refl _ _)⟩
end Go.Proofs.YtibppobibncpdaaGreatDoor
