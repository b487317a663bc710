/-
  The document's Put of an event: lists. (Printed by draft/genrput5.py.)
-/
import Derived.Test.YtibppobibncpdaaGreatDoorG43
import Derived.Test.YtibppobibncpdaaGreatDoorG04
import Derived.Test.YtibppobibncpdaaGreatDoorG41
import Derived.Test.YtibppobibncpdaaGreatDoorG42
set_option linter.unusedSimpArgs false
set_option linter.unusedVariables false
namespace Go.Proofs.YtibppobibncpdaaGreatDoor
open Go.RowKit
theorem src_of {N : Nat} {w : World} {a : Option Addr} {l : List Int} (h : l ≠ [] → ∃ bk o, a = some ⟨bk, o, none⟩ ∧ bk < N ∧ ∀ j, j < l.length → w.cell? ⟨bk, o + j, none⟩ = some (.int .u16 (l.getD j 0))) : Src16 w a l := by
  by_cases he : l = []
  · exact .inl he
  · obtain ⟨bk, o, e, _, h⟩ := h he
    exact .inr ⟨bk, o, e, h⟩
theorem flat_le2 {α : Type} (f : α → List Int) (c : Nat) : ∀ l : List α, (∀ a ∈ l, (f a).length ≤ c) → (l.flatMap f).length ≤ c * l.length
  | [], _ => by simp
  | a :: l, h => by have h1 := flat_le2 f c l (fun b hb => h b (List.mem_cons_of_mem _ hb)); have h2 := h a (by simp); simp only [List.flatMap_cons, List.length_append, List.length_cons, Nat.mul_add]; omega
set_option maxHeartbeats 8000000 in
set_option maxRecDepth 100000 in
theorem RPut5_6 (w : World) (x : Ev) (hx : x.In) {N : Nat} (tx rd : Value) (ht : EvAt N w tx rd x) (hN : N ≤ w.heap.size) (hg : evGood x = true) (hk : x.k = 6) : Calls Tryz.prog 8 #[.agg (evC x tx rd)] w (RPutPost x w) := by
  have hk0 := (Keeps.refl [] w).alloc (.cells (evC x tx rd) 32)
  have hX := heap_alloc_new w (.cells (evC x tx rd) 32)
  have hM := refMay5_any _ x hx tx rd (ht.new hk0 hN) (Nat.le_trans hN hk0.size)
  have he : evErr x = 0 := by simp [evErr, hg]
  unfold RPutPost
  rw [hg, he, if_pos rfl]
  obtain ⟨P, hP⟩ : ∃ P, P = strOfNums (evPut x) := ⟨_, rfl⟩
  rw [← hP]
  have HP := Lib.hid hP
  clear hP
  rw [hg] at hM
  have HM := Lib.hid hM
  have HT := Lib.hid ht
  have E0 := evC_0 x tx rd; have E1 := evC_1 x tx rd; have E2 := evC_2 x tx rd
  have HGG := Lib.hid hg
  rw [hk] at E0
  clear hM hg he ht
  go_enter Tryz.func8, Tryz.ntmps8
  go_wp2_with ((with_reducible apply wpList_load_ev); exact rfl; (first | assumption | (refine heap_alloc_lt ?_; assumption) | (refine heap_alloc_lt (heap_alloc_lt ?_); assumption) | exact heap_alloc_at (by simp)); exact rfl)
  refine HM.out.mono ?_; rintro z w1 ⟨rfl, hk1⟩
  have hX1 := hk1.heap hX (by simp)
  have HK1 := Lib.hid (hk0.trans hk1 (FSub.refl _ _))
  have c0 := ev_cell hX1 0 E0; have c1 := ev_cell hX1 1 E1; have c2 := ev_cell hX1 2 E2

  have HX1 := Lib.hid hX1
  have hw : w.heap.size < w1.heap.size := lt_of_block hX1
  clear hk0 hk1 HM hX E0 E1 E2 hX1
  have n1 := fun w => refn_1 w 6 (by omega) (by omega)
  have n2 := fun w => refn_1 w x.c hx.c0 hx.c1
  have n3 := fun w => refn_2 w x.id hx.i0 hx.i1
  have v1 : IntKind.i64.wrap 6 = 6 := by decide
  have v2 : IntKind.i64.wrap x.c = x.c := wrap64i hx.c0 (by have := hx.c1; omega)
  have v3 : IntKind.i64.wrap x.id = x.id := wrap64i hx.i0 (by have := hx.i1; omega)
  have hS0 : strOfNums [6] ++ strOfNums [x.c] ++ strOfNums (be2 x.id) = strOfNums (6 :: whoPut x) := by rw [← nums_join, ← nums_join]; rfl
  have s1 : (strOfNums [(6 : Int)]).size = 1 := strOfNums_size _
  have s2 : (strOfNums [x.c]).size = 1 := strOfNums_size _
  have s3 : (strOfNums (be2 x.id)).size = 2 := strOfNums_size _
  have HS0 := Lib.hid hS0; have N1 := Lib.hid n1; have N2 := Lib.hid n2; have N3 := Lib.hid n3
  clear n1 n2 n3 hS0
  generalize strOfNums [(6 : Int)] = S1 at *
  generalize strOfNums [x.c] = S2 at *
  generalize strOfNums (be2 x.id) = S3 at *
  go_wp2_with fail
  go_region_held3 (fun w' => Keeps [] w1 w' ∧ w'.cell? ⟨w.heap.size, 0, none⟩ = some (.int .u8 6) ∧ w'.cell? ⟨w.heap.size, 1, none⟩ = some (.int .u8 x.c) ∧ w'.cell? ⟨w.heap.size, 2, none⟩ = some (.int .u16 x.id))
    (refine ⟨?_, ?_, ?_, ?_⟩ <;> first | exact Keeps.refl _ _ | assumption | exact (Keeps.refl _ _).drew | exact Keeps.drew (by assumption))
    (first
      | (go_at_call 21; (with_reducible refine (N1.out _).mono ?_); rintro e wA ⟨rfl, hkA⟩; have kA : Keeps [] w1 wA := Keeps.undrew hkA; have a0 := kA.cell c0 (by simp); have a1 := kA.cell c1 (by simp); have a2 := kA.cell c2 (by simp))
      | (go_at_call 21; (with_reducible refine (N2.out _).mono ?_); rintro e wB ⟨rfl, hkB⟩; have kB : Keeps [] w1 wB := kA.trans hkB (FSub.refl _ _); have b0 := kB.cell c0 (by simp); have b1 := kB.cell c1 (by simp); have b2 := kB.cell c2 (by simp))
      | (go_at_call 21; (with_reducible refine (N3.out _).mono ?_); rintro e wC ⟨rfl, hkC⟩; have kC : Keeps [] w1 wC := kB.trans hkC (FSub.refl _ _); have d0 := kC.cell c0 (by simp); have d1 := kC.cell c1 (by simp); have d2 := kC.cell c2 (by simp)))
  have hkC2 : Keeps [] w wC := HK1.out.trans kC (FSub.refl _ _)
  have HKC := Lib.hid hkC2
  have hXC := kC.heap HX1.out (by simp)
  rw [HS0.out]
  clear hkA kA a0 a1 a2 hkB kB b0 b1 b2 hkC kC d1 d2 N1 N2 N3 HS0 v1 v2 v3 s1 s2 s3 HK1 hkC2 HX1 c0 c1 c2
  have e11 := ev_cell hXC 11 (evC_11 x tx rd)
  obtain ⟨a, cc, ea, hc, hm, hh⟩ := HT.out.r
  replace e11 := e11.trans (congrArg some ea)
  have hgd : listsGood x.r = true := by have := (good_parts HGG.out).2.2.1; unfold evFits at this; rw [if_neg (by omega), if_neg (by omega), if_neg (by omega), if_neg (by omega), if_pos hk] at this; exact this
  unfold listsGood at hgd
  simp only [Bool.and_eq_true, decide_eq_true_eq] at hgd
  obtain ⟨hl, hall⟩ := hgd
  have HH := Lib.hid hh; have HALL := Lib.hid (List.all_eq_true.1 hall); have hri := hx.r; have HRI := Lib.hid hri
  have n4 := fun w => refn_1 w (x.r.length : Int) (by omega) (by omega)
  have hpl : evPut x = (6 :: whoPut x ++ [(x.r.length : Int)]) ++ x.r.flatMap beList := by unfold evPut evBody; rw [if_neg (by omega), if_neg (by omega), if_neg (by omega), if_neg (by omega), if_pos hk, hk]; simp
  have HPL := Lib.hid (HP.out.trans (congrArg strOfNums hpl))
  have z0 : (strOfNums (6 :: whoPut x)).size = 4 := strOfNums_size _
  have z1 : (strOfNums [(x.r.length : Int)]).size = 1 := strOfNums_size _
  have v1 : IntKind.i64.wrap (x.r.length : Int) = (x.r.length : Int) := wrap64i (by omega) (by omega)
  have hB0 := (nums_join (6 :: whoPut x) [(x.r.length : Int)]).symm
  have HB0 := Lib.hid hB0; have N4 := Lib.hid n4
  clear hh hall hri n4 hpl HP hB0 ea hx
  generalize strOfNums (6 :: whoPut x) = S0 at *
  generalize strOfNums [(x.r.length : Int)] = S4 at *
  go_wp2_with fail
  refine (N4.out _).mono ?_; rintro z w5 ⟨rfl, hk5⟩
  have HK5 := Lib.hid (HKC.out.trans hk5 (FSub.refl _ _))
  replace e11 := hk5.cell e11 (by simp)
  replace d0 := hk5.cell d0 (by simp)
  clear hk5 HKC N4 hXC
  go_wp2_with fail
  go_loopw [5, 12, 13, 14] (fun s i _ _ wr => ∃ k : Nat, s = .string (strOfNums ((6 :: whoPut x ++ [(x.r.length : Int)]) ++ (x.r.take k).flatMap beList)) ∧ i = .int .i64 k ∧ k ≤ x.r.length ∧ Keeps [] w5 wr) (fun _ i _ _ _ => x.r.length - (intOf i).toNat)
  case atStart => exact ⟨0, by rw [HB0.out]; simp, rfl, by omega, Keeps.refl _ _⟩
  case round =>
    obtain ⟨k, rfl, rfl, hk', hkw⟩ := hrel
    replace e11 := hkw.cell e11 (by simp)
    by_cases hlt : k < x.r.length
    · obtain ⟨bk, o, rfl, hbN, hcells⟩ := HH.out (fun e => by rw [e] at hlt; simp at hlt)
      obtain ⟨u, d1, hnu⟩ := hcells k hlt
      have hK := HK5.out.trans hkw (FSub.refl _ _)
      replace d1 := hK.cell d1 (by simp)
      have hnu2 := hnu.same (hK.same hN (by simp))
      obtain ⟨a3, c3, rfl, hc3, hm3, hsr⟩ := hnu2
      have hl32 : (x.r.getD k []).length ≤ 32 := of_decide_eq_true (HALL.out _ (getD_in [] hlt))
      have hlc := refList_any wr a3 (x.r.getD k []).length c3 (x.r.getD k []) rfl (src_of hsr) (HRI.out _ (getD_in [] hlt))
      rw [if_pos (by omega), if_pos (by omega)] at hlc
      have y1 : (k : Int) < (x.r.length : Int) := by omega
      have hnx : strOfNums ((6 :: whoPut x ++ [(x.r.length : Int)]) ++ (x.r.take k).flatMap beList) ++ strOfNums (beList (x.r.getD k [])) = strOfNums ((6 :: whoPut x ++ [(x.r.length : Int)]) ++ (x.r.take (k + 1)).flatMap beList) := by
        rw [← nums_join, take_more [] hlt]; simp
      have hsz : (strOfNums ((6 :: whoPut x ++ [(x.r.length : Int)]) ++ (x.r.take k).flatMap beList)).size ≤ 1000 := by
        rw [strOfNums_size]
        have h1 := flat_le2 beList 65 (x.r.take k) (fun l hl => by have := of_decide_eq_true (HALL.out l (List.mem_of_mem_take hl)); rw [beList_len]; omega)
        have := List.length_take_le k x.r
        simp only [List.length_append, List.length_cons, List.length_nil, whoPut, be2]
        omega
      have hs6 : (strOfNums (beList (x.r.getD k []))).size ≤ 65 := by rw [strOfNums_size, beList_len]; omega
      have HLC := Lib.hid hlc; have HNX := Lib.hid hnx
      clear hK hcells hnu hsr hlc hnx hl32
      generalize strOfNums ((6 :: whoPut x ++ [(x.r.length : Int)]) ++ (x.r.take k).flatMap beList) = S at *
      generalize strOfNums (beList (x.r.getD k [])) = S6 at *
      generalize (x.r.getD k []).length = L at *
      go_wp2_with fail
      refine HLC.out.mono ?_; rintro z w6 ⟨rfl, hk6⟩
      have y2 : ¬ 9223372036854775807 < S.size + S6.size := by omega
      go_wp2_with fail
      go_roundw
      case rel => exact ⟨k + 1, by rw [← HNX.out], by go_num, by omega, hkw.trans hk6 (FSub.refl _ _)⟩
      case measure => simp [intOf]; omega
    · obtain rfl : k = x.r.length := by omega
      rw [List.take_length, ← HPL.out]
      clear HH HALL HRI HPL
      go_wp2_with fail
      go_ret2
      exact ⟨rfl, HK5.out.trans hkw (FSub.refl _ _)⟩
end Go.Proofs.YtibppobibncpdaaGreatDoor
/-
  The document's Put of an event. (Printed by draft/genrput5.py.)
-/
namespace Go.Proofs.YtibppobibncpdaaGreatDoor
open Go.RowKit
theorem RPut5_any (w : World) (x : Ev) (hx : x.In) {N : Nat} (tx rd : Value) (ht : EvAt N w tx rd x) (hN : N ≤ w.heap.size) : Calls Tryz.prog 8 #[.agg (evC x tx rd)] w (RPutPost x w) := by
  rcases bool_two (evGood x) with hg | hg
  · rcases kind_cases (good_parts hg).1 with h | h | h | h | h | h | h
    · exact RPut5_1 w x hx tx rd ht hN hg h
    · exact RPut5_2 w x hx tx rd ht hN hg h
    · exact RPut5_3 w x hx tx rd ht hN hg h
    · exact RPut5_4 w x hx tx rd ht hN hg h
    · exact RPut5_5 w x hx tx rd ht hN hg h
    · exact RPut5_6 w x hx tx rd ht hN hg h
    · exact RPut5_7 w x hx tx rd ht hN hg h
  · exact RPut5_bad w x hx tx rd ht hN hg
end Go.Proofs.YtibppobibncpdaaGreatDoor
