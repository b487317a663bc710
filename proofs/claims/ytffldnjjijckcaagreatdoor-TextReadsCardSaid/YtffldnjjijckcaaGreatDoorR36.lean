/-
  The document's Parse, way by way. (Printed by draft/genr6parse.py.)
-/
import Derived.Test.YtffldnjjijckcaaGreatDoorR35
set_option linter.unusedSimpArgs false
set_option linter.unusedVariables false
namespace Go.Proofs.YtffldnjjijckcaaGreatDoor
open Go.RowKit
set_option maxHeartbeats 16000000 in
set_option maxRecDepth 100000 in
theorem r6Parse_5 (w : World) (s : List UInt8) (hs : s.length ≤ 90000) (hk : (cutAt 32 s).getD 0 [] = beginL) (hwho : dcWho (cutAt 32 s) = true) :
    Calls Tryz.prog 11 #[.string (bs s)] w (R6ParsePost s w) := by
  have ht1 : ((bs ((cutAt 32 s).getD 0 [])).toList == [99, 111, 110, 102, 105, 103]) = false := by rw [toL_bs, hk]; decide
  have ht2 : ((bs ((cutAt 32 s).getD 0 [])).toList == [105, 110, 118, 111, 107, 101]) = false := by rw [toL_bs, hk]; decide
  have ht3 : ((bs ((cutAt 32 s).getD 0 [])).toList == [114, 101, 116, 117, 114, 110]) = false := by rw [toL_bs, hk]; decide
  have ht4 : ((bs ((cutAt 32 s).getD 0 [])).toList == [105, 110, 102, 111]) = false := by rw [toL_bs, hk]; decide
  have ht5 : ((bs ((cutAt 32 s).getD 0 [])).toList == [98, 101, 103, 105, 110]) = true := by rw [toL_bs, hk]; decide
  have ht6 : ((bs ((cutAt 32 s).getD 0 [])).toList == [99, 111, 109, 109, 105, 116]) = false := by rw [toL_bs, hk]; decide
  have ht7 : ((bs ((cutAt 32 s).getD 0 [])).toList == [97, 98, 111, 114, 116]) = false := by rw [toL_bs, hk]; decide
  have hxe : dcX s = { evZero with k := 5, c := sm ((cutAt 32 s).getD 1 []), id := sm ((cutAt 32 s).getD 2 []), t := (rdMics ((cutAt 32 s).drop 3)).getD [] } := by unfold dcX; rw [if_neg (by rw [hk]; decide), hwho, if_pos rfl, hk]; rfl
  have hie : dcI s = (rdMics ((cutAt 32 s).drop 3)).isSome := by unfold dcI; rw [if_neg (by rw [hk]; decide), hwho, if_pos rfl, hk]; rfl
  have HXE := Lib.hid hxe; have HIE := Lib.hid hie
  clear hxe hie
  clear hk
  unfold dcWho at hwho
  simp only [decide_eq_true_eq] at hwho
  obtain ⟨hw3, hcA, hcB, hiA⟩ := hwho
  have hcut := fun w => r6Cut_any w s 32 hs
  unfold Words6 at hcut
  have hne := cutAt_ne 32 s
  have hpl := cut_part_le 32 s
  have hll := cut_len_le 32 s
  generalize hL : cutAt 32 s = L at *
  have HL := Lib.hid hL
  have HPL := Lib.hid hpl
  clear hL hpl
  have hk0 := (Keeps.refl [] w).alloc (.cells (evC evZero (.slice none 0 0) (.slice none 0 0)) 32)
  have hb0 := heap_alloc_new w (.cells (evC evZero (.slice none 0 0) (.slice none 0 0)) 32)
  have HK0 := Lib.hid hk0; have HB0 := Lib.hid hb0
  have HCT := Lib.hid hcut
  clear hk0 hb0 hcut
  generalize hS : bs s = S at *
  have HS := Lib.hid hS
  clear hS
  go_enter Tryz.func11, Tryz.ntmps11
  go_wp2_with fail
  refine (HCT.out _).mono ?_; rintro z w1 ⟨v1, rfl, hrow1, hk1⟩
  have hst1 := Strs.row (row_up (b2 := 0) hrow1 (fun _ _ => Nat.zero_le _))
  obtain ⟨a1, c1, rfl, hc1, hm1⟩ := hst1.shape
  obtain ⟨-, -, -, bk, o, rfl, hbN, hcell, hdrop⟩ := hst1.at hne
  have hb01 : w1.heap[w.heap.size]? = some (.cells (evC evZero (.slice none 0 0) (.slice none 0 0)) 32 (0, 0)) := hk1.heap HB0.out (by simp)
  have HK1 := Lib.hid (HK0.out.trans hk1 (FSub.refl _ _))
  have hka := (Keeps.refl [] w1).alloc (.cells (evC evZero (.slice none 0 0) (.slice none 0 0)) 32)
  have HW0 := Lib.hid (lt_of_block hb01)
  have HKA := Lib.hid hka; have HB01 := Lib.hid hb01
  have HCL := Lib.hid hcell; have HDR := Lib.hid hdrop
  have hx0 : w1.cell? ⟨bk, o, none⟩ = some (.string (bs (L.getD 0 []))) := hcell 0 (List.length_pos_iff.2 hne)
  have hn0 : ¬ L.length = 0 := fun e => hne (List.eq_nil_of_length_eq_zero e)
  have hn1 : 1 ≤ L.length := by omega
  have hc2 : (c1 : Int) ≤ 9223372036854775807 := by omega
  have hbkn : bk < w1.heap.size := hbN
  have hcc1 : 1 ≤ c1 := by omega
  clear hk1 hrow1 hst1 hcell hdrop hb01 HK0 HB0 HCT hka hne
  generalize hn : L.length = n at *
  have HN := Lib.hid hn
  clear hn
  generalize bs (L.getD 0 []) = X0 at *
  go_wp2_with ((with_reducible apply wpList_put_ev); exact rfl; exact rfl; (first | assumption | (refine heap_alloc_lt ?_; assumption) | (refine heap_alloc_lt (heap_alloc_lt ?_); assumption) | exact heap_alloc_at (by simp)); exact ⟨rfl, rfl⟩; exact rfl)
  intro W2 hb2 hk2
  have hq2 : Keeps [] w1 W2 := HKA.out.trans hk2 (fun q hq => .inr (by simp at hq; omega))
  replace hb2 : W2.heap[w1.heap.size]? = some (.cells (evC evZero (.slice none 0 0) (.slice none 0 0)) 32 (0, 0)) := hb2
  have hb02 := hq2.heap HB01.out (by simp)
  replace hx0 := hq2.cell hx0 (by simp)
  have HB2 := Lib.hid hb2; have HB02 := Lib.hid hb02; have HQ2 := Lib.hid hq2
  have e0 := ev_cell hb2 0 (evC_0 _ _ _); have e1 := ev_cell hb2 1 (evC_1 _ _ _); have e2 := ev_cell hb2 2 (evC_2 _ _ _)
  have f0 := ev_thaw hb2 0; have f1 := ev_thaw hb2 1; have f2 := ev_thaw hb2 2
  have hlt2 : w1.heap.size < W2.heap.size := lt_of_block hb2
  clear hk2 hb2 hb02 hq2 HKA HB01
  have hg1 : (L.getD 1 []).length ≤ 1000000 := by
    by_cases hj : 1 < L.length
    · have := HPL.out (L.getD 1 []) (by rw [List.getD_eq_getElem?_getD, List.getElem?_eq_getElem hj]; exact List.getElem_mem hj); omega
    · rw [List.getD_eq_getElem?_getD, List.getElem?_eq_none (by omega)]; simp
  have hg2 : (L.getD 2 []).length ≤ 1000000 := by
    by_cases hj : 2 < L.length
    · have := HPL.out (L.getD 2 []) (by rw [List.getD_eq_getElem?_getD, List.getElem?_eq_getElem hj]; exact List.getElem_mem hj); omega
    · rw [List.getD_eq_getElem?_getD, List.getElem?_eq_none (by omega)]; simp
  have hsa := fun w => r6small_any w (L.getD 1 []) (by rw [bs_size]; omega)
  have hsb := fun w => r6small_any w (L.getD 2 []) (by rw [bs_size]; omega)
  have S1 := Lib.hid hsa; have S2 := Lib.hid hsb
  have hbi := sm_bounds (L.getD 2 [])
  have hbc := sm_bounds (L.getD 1 [])
  clear hsa hsb hg1 hg2
  have x1 := HQ2.out.cell (HCL.out 1 (by omega)) (by simp)
  have x2 := HQ2.out.cell (HCL.out 2 (by omega)) (by simp)
  generalize sm (L.getD 1 []) = c at *
  generalize sm (L.getD 2 []) = i at *
  generalize bs (L.getD 1 []) = X1 at *
  generalize bs (L.getD 2 []) = X2 at *
  have hn2 : 2 < n := by omega
  have hn1' : 1 < n := by omega
  have hwc : IntKind.u8.wrap c = c := by simp [IntKind.wrap, IntKind.bits, IntKind.signed]; omega
  have hwi : IntKind.u16.wrap i = i := by simp [IntKind.wrap, IntKind.bits, IntKind.signed]; omega
  have hz3 : (3 : Int) ≤ (n : Int) := by omega
  go_wp2_with fail
  refine (S1.out _).mono ?_; rintro z w9 ⟨rfl, rfl⟩
  go_wp2_with fail
  refine (S1.out _).mono ?_; rintro z w9 ⟨rfl, rfl⟩
  go_wp2_with fail
  refine (S2.out _).mono ?_; rintro z w9 ⟨rfl, rfl⟩
  go_wp2_with fail
  refine (S1.out _).mono ?_; rintro z w9 ⟨rfl, rfl⟩
  go_wp2_with (refine wpList_put_evc 1 { evZero with c := c } _ _ rfl rfl rfl rfl HB2.out (by kernel_rfl) rfl rfl rfl ?_)
  intro W3 hb3 hk3
  have hnb : bk ∉ [w1.heap.size] := by simp; omega
  replace x2 := hk3.cell x2 hnb
  replace hx0 := hk3.cell hx0 hnb
  have HB3 := Lib.hid hb3
  clear hb3
  go_wp2_with fail
  refine (S2.out _).mono ?_; rintro z w9 ⟨rfl, rfl⟩
  go_wp2_with (refine wpList_put_evc 2 { evZero with c := c, id := i } _ _ rfl rfl rfl rfl HB3.out (by kernel_rfl) rfl rfl rfl ?_)
  intro W4 hb4 hk4
  replace hx0 := hk4.cell hx0 hnb
  have HB4 := Lib.hid hb4
  have HQ4 := Lib.hid (hk3.trans hk4 (FSub.refl _ _))
  clear hb4 hk3 hk4 x1 x2 e0 e1 e2 f0 f1 f2 hlt2 HB3 HB2 S1 S2 hwc hwi hnb
  go_wp2_with (refine wpList_put_evc 0 { evZero with k := 5, c := c, id := i } _ _ rfl rfl rfl rfl HB4.out (by kernel_rfl) rfl rfl rfl ?_)
  intro W5 hb5 hk5
  have HQ5 := Lib.hid (HQ4.out.trans hk5 (FSub.refl _ _))
  have HB5 := Lib.hid hb5
  clear hb5 hk5 HB4 hx0 ht1 ht2 ht3 ht4 ht5 ht6 ht7
  obtain ⟨A3, hA3⟩ : ∃ A, (if c1 = 3 then some (⟨bk, o, none⟩ : Addr) else some ⟨bk, o + 3, none⟩) = A := ⟨_, rfl⟩
  have HA3 := Lib.hid hA3
  have hc33 : 3 ≤ c1 := by omega
  go_wp2_with fail
  have hst5 : Strs w1.heap.size W5 (.slice A3 (n - 3) (c1 - 3)) (L.drop 3) := ((HDR.out 3 hw3 A3 (fun hd => drop_addr HA3.out (by rw [HN.out]; exact hc1) hd)).keeps HQ2.out).others HQ5.out (by simp)
  have hz5 : w1.heap.size + 1 ≤ W5.heap.size := lt_of_block HB5.out
  have hld : (L.drop 3).length ≤ 90000 := by rw [List.length_drop, HN.out]; omega
  have hmd : ∀ x ∈ L.drop 3, x.length ≤ s.length := fun x hx => HPL.out x (List.mem_of_mem_drop hx)
  have hmc := r6micros_any W5 _ (L.drop 3) hst5 (Nat.le_trans (Nat.le_succ _) hz5) hld (fun x hx => by have := hmd x hx; omega)
  unfold MicsPost at hmc
  generalize (rdMics (L.drop 3)).getD [] = tt at *
  generalize (rdMics (L.drop 3)).isSome = b at *
  refine hmc.mono ?_; rintro z W6 ⟨vt, rfl, hrow, hk6⟩
  have HB6 := Lib.hid (hk6.heap HB5.out (by simp))
  have HB06 := Lib.hid (hk6.heap (HQ5.out.heap HB02.out (by have := HW0.out; simp; omega)) (by simp))
  have HK6 := Lib.hid (((HK1.out.trans HQ2.out (FSub.refl _ _)).trans HQ5.out (fun q hq => .inr (by simp at hq; have := HW0.out; omega))).trans hk6 (FSub.refl _ _))
  clear hk6 hmc hst5 hA3 HA3
  have hr6 : W6.ownsRow (w1.heap.size + 1) 70 3 vt tt.length (micsC tt) := row_up hrow (fun q hq => Nat.le_trans hz5 (row_base hrow q hq).1)
  have hv1 : vt.oneCell' = true := row_one hrow
  have HR6 := Lib.hid hr6
  have HV1 := Lib.hid hv1
  clear hr6 hv1 hrow
  go_wp2_with (refine wpList_put_evc 10 { evZero with k := 5, c := c, id := i, t := tt } vt (.slice none 0 0) rfl rfl rfl rfl HB6.out (by kernel_rfl) HV1.out rfl rfl ?_)
  intro W7 hb7 hk7
  have hev := hb7
  rw [← HXE.out] at hev
  have HEV := Lib.hid hev
  have HB := Lib.hid (hk7.heap HB06.out (by have := HW0.out; simp; omega))
  have HKW := Lib.hid (HK6.out.trans hk7 (fun q hq => .inr (by simp at hq; have := HW0.out; omega)))
  have HRW : Hid (EvRows (w1.heap.size + 1) W7 vt (.slice none 0 0) (dcX s)) := Lib.hid (by
    rw [HXE.out]
    exact ⟨row_old HR6.out hk7 (fun q hq hf => by have := (row_base HR6.out q hq).1; simp at hf; omega), [], World.ownsRow_nil _ _ _ _, rfl, fun j hj => by simp [evZero] at hj⟩)
  clear hb7 hk7 hev HXE HB5 HB02 HK1 HQ5 HQ4 HQ2 HDR HCL HB6 HB06 HK6
  clear HR6
  cases b with
  | true =>
    have hxi := dcX_in s
    have hnoI : dcI s = false → _ := fun h => dc_no (s := s) (.inl h)
    have hnoG : evGood (dcX s) = false → _ := fun h => dc_no (s := s) (.inr (.inl h))
    have hnoL : evLine (dcX s) ≠ s → _ := fun h => dc_no (s := s) (.inr (.inr h))
    have hyes : dcI s = true → evGood (dcX s) = true → evLine (dcX s) = s → _ := fun h1 h2 h3 => dc_yes (s := s) h1 h2 h3
    have hln := r6Line_any _ (dcX s) hxi _ _ HRW.out.at (Nat.le_refl _)
    unfold R6LinePost at hln
    generalize dcX s = x at *
    have HNI := Lib.hid hnoI; have HNG := Lib.hid hnoG; have HNL := Lib.hid hnoL; have HYS := Lib.hid hyes
    clear hnoI hnoG hnoL hyes hxi
    rcases bool_two (evGood x) with hg | hg
    · have hE : evErr x = 0 := by unfold evErr; rw [hg]; rfl
      rw [hE] at hln
      by_cases hl : evLine x = s
      · have HYES := Lib.hid (HYS.out HIE.out hg hl)
        have t9 : ((bs (lineX x)).toList == S.toList) = true := by
          rw [← HS.out, toL_bs, toL_bs]
          unfold lineX
          rw [hg]
          simpa using hl
        generalize bs (lineX x) = LX at *
        have HLN := Lib.hid hln
        clear hln HNI HNG HNL HYS HIE hE hl hg
        have hevp := HEV.out
        go_wp2_with ((with_reducible apply wpList_load_ev); exact rfl; (first | assumption | (refine heap_alloc_lt ?_; assumption) | (refine heap_alloc_lt (heap_alloc_lt ?_); assumption) | exact heap_alloc_at (by simp)); exact rfl)
        refine HLN.out.mono ?_; rintro z w8 ⟨rfl, hk8⟩
        have hb8 := hk8.heap HEV.out (by simp)
        have hb80 := hk8.heap HB.out (by simp)
        have HB80 := Lib.hid hb80
        have HK8 := Lib.hid (HKW.out.trans hk8 (FSub.refl _ _))
        have HR8 := Lib.hid (HRW.out.keeps hk8 (by simp))
        clear hk8 HLN HEV HB HRW HKW hb80 hevp
        go_wp2_with (first | ((with_reducible apply wpList_load_ev); exact rfl; (first | assumption | (refine heap_alloc_lt ?_; assumption) | (refine heap_alloc_lt (heap_alloc_lt ?_); assumption) | exact heap_alloc_at (by simp)); exact rfl) | ((with_reducible apply wpList_put_ev); exact rfl; exact rfl; exact HB80.out; exact ⟨rfl, rfl⟩; first | exact rfl | (refine evC_one _ ?_ ?_ <;> first | rfl | exact row_one HR8.out.1 | exact row_one HR8.out.2.choose_spec.1)))
        intro W9 hb9 hk9
        go_wp2_with fail
        try simp only [Exit.inBlock, Exit.then]
        exact bodyPost_ret (results_ev2 (p := 2) (u := 3) rfl _ _ _ rfl hb9) rfl (R6ParsePost.yes HYES.out ((HR8.out.keeps hk9 (fun q hq => by simp at hq; have := HW0.out; omega)).kept (by have := HW0.out; omega)) (HK8.out.trans hk9 (fun q hq => .inr (by simp at hq; omega))))
      · have HNO := Lib.hid (HNL.out hl)
        have t9 : ((bs (lineX x)).toList == S.toList) = false := by
          rw [← HS.out, toL_bs, toL_bs, beq_eq_false_iff_ne]
          unfold lineX
          rw [hg]
          simpa using hl
        generalize bs (lineX x) = LX at *
        have HLN := Lib.hid hln
        clear hln HNI HNG HNL HYS HIE hE hl hg
        have hevp := HEV.out
        go_wp2_with ((with_reducible apply wpList_load_ev); exact rfl; (first | assumption | (refine heap_alloc_lt ?_; assumption) | (refine heap_alloc_lt (heap_alloc_lt ?_); assumption) | exact heap_alloc_at (by simp)); exact rfl)
        refine HLN.out.mono ?_; rintro z w8 ⟨rfl, hk8⟩
        have hb8 := hk8.heap HEV.out (by simp)
        have hb80 := hk8.heap HB.out (by simp)
        have HB80 := Lib.hid hb80
        have HK8 := Lib.hid (HKW.out.trans hk8 (FSub.refl _ _))
        have HR8 := Lib.hid (HRW.out.keeps hk8 (by simp))
        clear hk8 HLN HEV HB HRW HKW hb80 hevp
        go_wp2_with (first | ((with_reducible apply wpList_load_ev); exact rfl; (first | assumption | (refine heap_alloc_lt ?_; assumption) | (refine heap_alloc_lt (heap_alloc_lt ?_); assumption) | exact heap_alloc_at (by simp)); exact rfl) | ((with_reducible apply wpList_put_ev); exact rfl; exact rfl; exact HB80.out; exact ⟨rfl, rfl⟩; first | exact rfl | (refine evC_one _ ?_ ?_ <;> first | rfl | exact row_one HR8.out.1 | exact row_one HR8.out.2.choose_spec.1)))
        intro W9 hb9 hk9
        replace hb9 : W9.heap[w.heap.size]? = some (.cells (evC evZero (.slice none 0 0) (.slice none 0 0)) 32 (0, 0)) := hb9
        go_wp2_with fail
        try simp only [Exit.inBlock, Exit.then]
        exact bodyPost_ret (results_ev2 (p := 2) (u := 3) rfl _ _ _ rfl hb9) rfl (R6ParsePost.no HNO.out (HK8.out.trans hk9 (fun q hq => .inr (by simp at hq; omega))))
    · have HNO := Lib.hid (HNG.out hg)
      have hE : evErr x = 4 := by unfold evErr; rw [hg]; rfl
      rw [hE] at hln
      generalize bs (lineX x) = LX at *
      have HLN := Lib.hid hln
      clear hln HNI HNG HNL HYS HIE hE hg
      have hevp := HEV.out
      go_wp2_with ((with_reducible apply wpList_load_ev); exact rfl; (first | assumption | (refine heap_alloc_lt ?_; assumption) | (refine heap_alloc_lt (heap_alloc_lt ?_); assumption) | exact heap_alloc_at (by simp)); exact rfl)
      refine HLN.out.mono ?_; rintro z w8 ⟨rfl, hk8⟩
      have hb8 := hk8.heap HEV.out (by simp)
      have hb80 := hk8.heap HB.out (by simp)
      have HB80 := Lib.hid hb80
      have HK8 := Lib.hid (HKW.out.trans hk8 (FSub.refl _ _))
      have HR8 := Lib.hid (HRW.out.keeps hk8 (by simp))
      clear hk8 HLN HEV HB HRW HKW hb80 hevp
      go_wp2_with (first | ((with_reducible apply wpList_load_ev); exact rfl; (first | assumption | (refine heap_alloc_lt ?_; assumption) | (refine heap_alloc_lt (heap_alloc_lt ?_); assumption) | exact heap_alloc_at (by simp)); exact rfl) | ((with_reducible apply wpList_put_ev); exact rfl; exact rfl; exact HB80.out; exact ⟨rfl, rfl⟩; first | exact rfl | (refine evC_one _ ?_ ?_ <;> first | rfl | exact row_one HR8.out.1 | exact row_one HR8.out.2.choose_spec.1)))
      intro W9 hb9 hk9
      replace hb9 : W9.heap[w.heap.size]? = some (.cells (evC evZero (.slice none 0 0) (.slice none 0 0)) 32 (0, 0)) := hb9
      go_wp2_with fail
      try simp only [Exit.inBlock, Exit.then]
      exact bodyPost_ret (results_ev2 (p := 2) (u := 3) rfl _ _ _ rfl hb9) rfl (R6ParsePost.no HNO.out (HK8.out.trans hk9 (fun q hq => .inr (by simp at hq; omega))))
  | false =>
    have hxi := dcX_in s
    have hnoI : dcI s = false → _ := fun h => dc_no (s := s) (.inl h)
    have hnoG : evGood (dcX s) = false → _ := fun h => dc_no (s := s) (.inr (.inl h))
    have hnoL : evLine (dcX s) ≠ s → _ := fun h => dc_no (s := s) (.inr (.inr h))
    have hyes : dcI s = true → evGood (dcX s) = true → evLine (dcX s) = s → _ := fun h1 h2 h3 => dc_yes (s := s) h1 h2 h3
    have hln := r6Line_any _ (dcX s) hxi _ _ HRW.out.at (Nat.le_refl _)
    unfold R6LinePost at hln
    generalize dcX s = x at *
    have HNI := Lib.hid hnoI; have HNG := Lib.hid hnoG; have HNL := Lib.hid hnoL; have HYS := Lib.hid hyes
    clear hnoI hnoG hnoL hyes hxi
    have HNO := Lib.hid (HNI.out HIE.out)
    generalize bs (lineX x) = LX at *
    generalize evErr x = EE at *
    have HLN := Lib.hid hln
    clear hln HNI HNG HNL HYS HIE
    have hevp := HEV.out
    go_wp2_with ((with_reducible apply wpList_load_ev); exact rfl; (first | assumption | (refine heap_alloc_lt ?_; assumption) | (refine heap_alloc_lt (heap_alloc_lt ?_); assumption) | exact heap_alloc_at (by simp)); exact rfl)
    refine HLN.out.mono ?_; rintro z w8 ⟨rfl, hk8⟩
    have hb8 := hk8.heap HEV.out (by simp)
    have hb80 := hk8.heap HB.out (by simp)
    have HB80 := Lib.hid hb80
    have HK8 := Lib.hid (HKW.out.trans hk8 (FSub.refl _ _))
    have HR8 := Lib.hid (HRW.out.keeps hk8 (by simp))
    clear hk8 HLN HEV HB HRW HKW hb80 hevp
    go_wp2_with (first | ((with_reducible apply wpList_load_ev); exact rfl; (first | assumption | (refine heap_alloc_lt ?_; assumption) | (refine heap_alloc_lt (heap_alloc_lt ?_); assumption) | exact heap_alloc_at (by simp)); exact rfl) | ((with_reducible apply wpList_put_ev); exact rfl; exact rfl; exact HB80.out; exact ⟨rfl, rfl⟩; first | exact rfl | (refine evC_one _ ?_ ?_ <;> first | rfl | exact row_one HR8.out.1 | exact row_one HR8.out.2.choose_spec.1)))
    intro W9 hb9 hk9
    replace hb9 : W9.heap[w.heap.size]? = some (.cells (evC evZero (.slice none 0 0) (.slice none 0 0)) 32 (0, 0)) := hb9
    go_wp2_with fail
    try simp only [Exit.inBlock, Exit.then]
    exact bodyPost_ret (results_ev2 (p := 2) (u := 3) rfl _ _ _ rfl hb9) rfl (R6ParsePost.no HNO.out (HK8.out.trans hk9 (fun q hq => .inr (by simp at hq; omega))))
set_option maxHeartbeats 16000000 in
set_option maxRecDepth 100000 in
theorem r6Parse_6 (w : World) (s : List UInt8) (hs : s.length ≤ 90000) (hk : (cutAt 32 s).getD 0 [] = commitL) (hwho : dcWho (cutAt 32 s) = true) :
    Calls Tryz.prog 11 #[.string (bs s)] w (R6ParsePost s w) := by
  have ht1 : ((bs ((cutAt 32 s).getD 0 [])).toList == [99, 111, 110, 102, 105, 103]) = false := by rw [toL_bs, hk]; decide
  have ht2 : ((bs ((cutAt 32 s).getD 0 [])).toList == [105, 110, 118, 111, 107, 101]) = false := by rw [toL_bs, hk]; decide
  have ht3 : ((bs ((cutAt 32 s).getD 0 [])).toList == [114, 101, 116, 117, 114, 110]) = false := by rw [toL_bs, hk]; decide
  have ht4 : ((bs ((cutAt 32 s).getD 0 [])).toList == [105, 110, 102, 111]) = false := by rw [toL_bs, hk]; decide
  have ht5 : ((bs ((cutAt 32 s).getD 0 [])).toList == [98, 101, 103, 105, 110]) = false := by rw [toL_bs, hk]; decide
  have ht6 : ((bs ((cutAt 32 s).getD 0 [])).toList == [99, 111, 109, 109, 105, 116]) = true := by rw [toL_bs, hk]; decide
  have ht7 : ((bs ((cutAt 32 s).getD 0 [])).toList == [97, 98, 111, 114, 116]) = false := by rw [toL_bs, hk]; decide
  have hxe : dcX s = { evZero with k := 6, c := sm ((cutAt 32 s).getD 1 []), id := sm ((cutAt 32 s).getD 2 []), r := (dcLists ((cutAt 32 s).drop 3)).getD [] } := by unfold dcX; rw [if_neg (by rw [hk]; decide), hwho, if_pos rfl, hk]; rfl
  have hie : dcI s = (dcLists ((cutAt 32 s).drop 3)).isSome := by unfold dcI; rw [if_neg (by rw [hk]; decide), hwho, if_pos rfl, hk]; rfl
  have HXE := Lib.hid hxe; have HIE := Lib.hid hie
  clear hxe hie
  clear hk
  unfold dcWho at hwho
  simp only [decide_eq_true_eq] at hwho
  obtain ⟨hw3, hcA, hcB, hiA⟩ := hwho
  have hcut := fun w => r6Cut_any w s 32 hs
  unfold Words6 at hcut
  have hne := cutAt_ne 32 s
  have hpl := cut_part_le 32 s
  have hll := cut_len_le 32 s
  generalize hL : cutAt 32 s = L at *
  have HL := Lib.hid hL
  have HPL := Lib.hid hpl
  clear hL hpl
  have hk0 := (Keeps.refl [] w).alloc (.cells (evC evZero (.slice none 0 0) (.slice none 0 0)) 32)
  have hb0 := heap_alloc_new w (.cells (evC evZero (.slice none 0 0) (.slice none 0 0)) 32)
  have HK0 := Lib.hid hk0; have HB0 := Lib.hid hb0
  have HCT := Lib.hid hcut
  clear hk0 hb0 hcut
  generalize hS : bs s = S at *
  have HS := Lib.hid hS
  clear hS
  go_enter Tryz.func11, Tryz.ntmps11
  go_wp2_with fail
  refine (HCT.out _).mono ?_; rintro z w1 ⟨v1, rfl, hrow1, hk1⟩
  have hst1 := Strs.row (row_up (b2 := 0) hrow1 (fun _ _ => Nat.zero_le _))
  obtain ⟨a1, c1, rfl, hc1, hm1⟩ := hst1.shape
  obtain ⟨-, -, -, bk, o, rfl, hbN, hcell, hdrop⟩ := hst1.at hne
  have hb01 : w1.heap[w.heap.size]? = some (.cells (evC evZero (.slice none 0 0) (.slice none 0 0)) 32 (0, 0)) := hk1.heap HB0.out (by simp)
  have HK1 := Lib.hid (HK0.out.trans hk1 (FSub.refl _ _))
  have hka := (Keeps.refl [] w1).alloc (.cells (evC evZero (.slice none 0 0) (.slice none 0 0)) 32)
  have HW0 := Lib.hid (lt_of_block hb01)
  have HKA := Lib.hid hka; have HB01 := Lib.hid hb01
  have HCL := Lib.hid hcell; have HDR := Lib.hid hdrop
  have hx0 : w1.cell? ⟨bk, o, none⟩ = some (.string (bs (L.getD 0 []))) := hcell 0 (List.length_pos_iff.2 hne)
  have hn0 : ¬ L.length = 0 := fun e => hne (List.eq_nil_of_length_eq_zero e)
  have hn1 : 1 ≤ L.length := by omega
  have hc2 : (c1 : Int) ≤ 9223372036854775807 := by omega
  have hbkn : bk < w1.heap.size := hbN
  have hcc1 : 1 ≤ c1 := by omega
  clear hk1 hrow1 hst1 hcell hdrop hb01 HK0 HB0 HCT hka hne
  generalize hn : L.length = n at *
  have HN := Lib.hid hn
  clear hn
  generalize bs (L.getD 0 []) = X0 at *
  go_wp2_with ((with_reducible apply wpList_put_ev); exact rfl; exact rfl; (first | assumption | (refine heap_alloc_lt ?_; assumption) | (refine heap_alloc_lt (heap_alloc_lt ?_); assumption) | exact heap_alloc_at (by simp)); exact ⟨rfl, rfl⟩; exact rfl)
  intro W2 hb2 hk2
  have hq2 : Keeps [] w1 W2 := HKA.out.trans hk2 (fun q hq => .inr (by simp at hq; omega))
  replace hb2 : W2.heap[w1.heap.size]? = some (.cells (evC evZero (.slice none 0 0) (.slice none 0 0)) 32 (0, 0)) := hb2
  have hb02 := hq2.heap HB01.out (by simp)
  replace hx0 := hq2.cell hx0 (by simp)
  have HB2 := Lib.hid hb2; have HB02 := Lib.hid hb02; have HQ2 := Lib.hid hq2
  have e0 := ev_cell hb2 0 (evC_0 _ _ _); have e1 := ev_cell hb2 1 (evC_1 _ _ _); have e2 := ev_cell hb2 2 (evC_2 _ _ _)
  have f0 := ev_thaw hb2 0; have f1 := ev_thaw hb2 1; have f2 := ev_thaw hb2 2
  have hlt2 : w1.heap.size < W2.heap.size := lt_of_block hb2
  clear hk2 hb2 hb02 hq2 HKA HB01
  have hg1 : (L.getD 1 []).length ≤ 1000000 := by
    by_cases hj : 1 < L.length
    · have := HPL.out (L.getD 1 []) (by rw [List.getD_eq_getElem?_getD, List.getElem?_eq_getElem hj]; exact List.getElem_mem hj); omega
    · rw [List.getD_eq_getElem?_getD, List.getElem?_eq_none (by omega)]; simp
  have hg2 : (L.getD 2 []).length ≤ 1000000 := by
    by_cases hj : 2 < L.length
    · have := HPL.out (L.getD 2 []) (by rw [List.getD_eq_getElem?_getD, List.getElem?_eq_getElem hj]; exact List.getElem_mem hj); omega
    · rw [List.getD_eq_getElem?_getD, List.getElem?_eq_none (by omega)]; simp
  have hsa := fun w => r6small_any w (L.getD 1 []) (by rw [bs_size]; omega)
  have hsb := fun w => r6small_any w (L.getD 2 []) (by rw [bs_size]; omega)
  have S1 := Lib.hid hsa; have S2 := Lib.hid hsb
  have hbi := sm_bounds (L.getD 2 [])
  have hbc := sm_bounds (L.getD 1 [])
  clear hsa hsb hg1 hg2
  have x1 := HQ2.out.cell (HCL.out 1 (by omega)) (by simp)
  have x2 := HQ2.out.cell (HCL.out 2 (by omega)) (by simp)
  generalize sm (L.getD 1 []) = c at *
  generalize sm (L.getD 2 []) = i at *
  generalize bs (L.getD 1 []) = X1 at *
  generalize bs (L.getD 2 []) = X2 at *
  have hn2 : 2 < n := by omega
  have hn1' : 1 < n := by omega
  have hwc : IntKind.u8.wrap c = c := by simp [IntKind.wrap, IntKind.bits, IntKind.signed]; omega
  have hwi : IntKind.u16.wrap i = i := by simp [IntKind.wrap, IntKind.bits, IntKind.signed]; omega
  have hz3 : (3 : Int) ≤ (n : Int) := by omega
  go_wp2_with fail
  refine (S1.out _).mono ?_; rintro z w9 ⟨rfl, rfl⟩
  go_wp2_with fail
  refine (S1.out _).mono ?_; rintro z w9 ⟨rfl, rfl⟩
  go_wp2_with fail
  refine (S2.out _).mono ?_; rintro z w9 ⟨rfl, rfl⟩
  go_wp2_with fail
  refine (S1.out _).mono ?_; rintro z w9 ⟨rfl, rfl⟩
  go_wp2_with (refine wpList_put_evc 1 { evZero with c := c } _ _ rfl rfl rfl rfl HB2.out (by kernel_rfl) rfl rfl rfl ?_)
  intro W3 hb3 hk3
  have hnb : bk ∉ [w1.heap.size] := by simp; omega
  replace x2 := hk3.cell x2 hnb
  replace hx0 := hk3.cell hx0 hnb
  have HB3 := Lib.hid hb3
  clear hb3
  go_wp2_with fail
  refine (S2.out _).mono ?_; rintro z w9 ⟨rfl, rfl⟩
  go_wp2_with (refine wpList_put_evc 2 { evZero with c := c, id := i } _ _ rfl rfl rfl rfl HB3.out (by kernel_rfl) rfl rfl rfl ?_)
  intro W4 hb4 hk4
  replace hx0 := hk4.cell hx0 hnb
  have HB4 := Lib.hid hb4
  have HQ4 := Lib.hid (hk3.trans hk4 (FSub.refl _ _))
  clear hb4 hk3 hk4 x1 x2 e0 e1 e2 f0 f1 f2 hlt2 HB3 HB2 S1 S2 hwc hwi hnb
  go_wp2_with (refine wpList_put_evc 0 { evZero with k := 6, c := c, id := i } _ _ rfl rfl rfl rfl HB4.out (by kernel_rfl) rfl rfl rfl ?_)
  intro W5 hb5 hk5
  have HQ5 := Lib.hid (HQ4.out.trans hk5 (FSub.refl _ _))
  have HB5 := Lib.hid hb5
  clear hb5 hk5 HB4 hx0 ht1 ht2 ht3 ht4 ht5 ht6 ht7
  obtain ⟨A3, hA3⟩ : ∃ A, (if c1 = 3 then some (⟨bk, o, none⟩ : Addr) else some ⟨bk, o + 3, none⟩) = A := ⟨_, rfl⟩
  have HA3 := Lib.hid hA3
  have hc33 : 3 ≤ c1 := by omega
  go_wp2_with fail
  have hst5 : Strs w1.heap.size W5 (.slice A3 (n - 3) (c1 - 3)) (L.drop 3) := ((HDR.out 3 hw3 A3 (fun hd => drop_addr HA3.out (by rw [HN.out]; exact hc1) hd)).keeps HQ2.out).others HQ5.out (by simp)
  have hz5 : w1.heap.size + 1 ≤ W5.heap.size := lt_of_block HB5.out
  have hld : (L.drop 3).length ≤ 90000 := by rw [List.length_drop, HN.out]; omega
  have hmd : ∀ x ∈ L.drop 3, x.length ≤ s.length := fun x hx => HPL.out x (List.mem_of_mem_drop hx)
  have hmc := r6lists_any W5 _ (L.drop 3) hst5 (Nat.le_trans (Nat.le_succ _) hz5) hld (fun x hx => by have := hmd x hx; omega)
  unfold ListsPost at hmc
  generalize (dcLists (L.drop 3)).getD [] = tt at *
  generalize (dcLists (L.drop 3)).isSome = b at *
  refine hmc.mono ?_; rintro z W6 ⟨vt, us, rfl, hrow, hinn, hk6⟩
  have HB6 := Lib.hid (hk6.heap HB5.out (by simp))
  have HB06 := Lib.hid (hk6.heap (HQ5.out.heap HB02.out (by have := HW0.out; simp; omega)) (by simp))
  have HK6 := Lib.hid (((HK1.out.trans HQ2.out (FSub.refl _ _)).trans HQ5.out (fun q hq => .inr (by simp at hq; have := HW0.out; omega))).trans hk6 (FSub.refl _ _))
  clear hk6 hmc hst5 hA3 HA3
  have hr6 : W6.ownsRow (w1.heap.size + 1) 54 1 vt us.length us := row_up hrow (fun q hq => Nat.le_trans hz5 (row_base hrow q hq).1)
  have hi6 : Inner (w1.heap.size + 1) W6 us tt := ⟨hinn.1, fun j hj => row_up (hinn.2 j hj) (fun q hq => Nat.le_trans hz5 (row_base (hinn.2 j hj) q hq).1)⟩
  have hv1 : vt.oneCell' = true := row_one hrow
  have HR6 := Lib.hid hr6
  have HV1 := Lib.hid hv1
  clear hr6 hv1 hrow
  go_wp2_with (refine wpList_put_evc 11 { evZero with k := 6, c := c, id := i, r := tt } (.slice none 0 0) vt rfl rfl rfl rfl HB6.out (by kernel_rfl) HV1.out rfl rfl ?_)
  intro W7 hb7 hk7
  have hev := hb7
  rw [← HXE.out] at hev
  have HEV := Lib.hid hev
  have HB := Lib.hid (hk7.heap HB06.out (by have := HW0.out; simp; omega))
  have HKW := Lib.hid (HK6.out.trans hk7 (fun q hq => .inr (by simp at hq; have := HW0.out; omega)))
  have HRW : Hid (EvRows (w1.heap.size + 1) W7 (.slice none 0 0) vt (dcX s)) := Lib.hid (by
    rw [HXE.out]
    exact ⟨World.ownsRow_nil _ _ _ _, us, row_old HR6.out hk7 (fun q hq hf => by have := (row_base HR6.out q hq).1; simp at hf; omega), hi6.keeps hk7 (fun q hq => .inl (by simp at hq; omega))⟩)
  clear hi6
  clear hb7 hk7 hev HXE HB5 HB02 HK1 HQ5 HQ4 HQ2 HDR HCL HB6 HB06 HK6
  clear HR6
  cases b with
  | true =>
    have hxi := dcX_in s
    have hnoI : dcI s = false → _ := fun h => dc_no (s := s) (.inl h)
    have hnoG : evGood (dcX s) = false → _ := fun h => dc_no (s := s) (.inr (.inl h))
    have hnoL : evLine (dcX s) ≠ s → _ := fun h => dc_no (s := s) (.inr (.inr h))
    have hyes : dcI s = true → evGood (dcX s) = true → evLine (dcX s) = s → _ := fun h1 h2 h3 => dc_yes (s := s) h1 h2 h3
    have hln := r6Line_any _ (dcX s) hxi _ _ HRW.out.at (Nat.le_refl _)
    unfold R6LinePost at hln
    generalize dcX s = x at *
    have HNI := Lib.hid hnoI; have HNG := Lib.hid hnoG; have HNL := Lib.hid hnoL; have HYS := Lib.hid hyes
    clear hnoI hnoG hnoL hyes hxi
    rcases bool_two (evGood x) with hg | hg
    · have hE : evErr x = 0 := by unfold evErr; rw [hg]; rfl
      rw [hE] at hln
      by_cases hl : evLine x = s
      · have HYES := Lib.hid (HYS.out HIE.out hg hl)
        have t9 : ((bs (lineX x)).toList == S.toList) = true := by
          rw [← HS.out, toL_bs, toL_bs]
          unfold lineX
          rw [hg]
          simpa using hl
        generalize bs (lineX x) = LX at *
        have HLN := Lib.hid hln
        clear hln HNI HNG HNL HYS HIE hE hl hg
        have hevp := HEV.out
        go_wp2_with ((with_reducible apply wpList_load_ev); exact rfl; (first | assumption | (refine heap_alloc_lt ?_; assumption) | (refine heap_alloc_lt (heap_alloc_lt ?_); assumption) | exact heap_alloc_at (by simp)); exact rfl)
        refine HLN.out.mono ?_; rintro z w8 ⟨rfl, hk8⟩
        have hb8 := hk8.heap HEV.out (by simp)
        have hb80 := hk8.heap HB.out (by simp)
        have HB80 := Lib.hid hb80
        have HK8 := Lib.hid (HKW.out.trans hk8 (FSub.refl _ _))
        have HR8 := Lib.hid (HRW.out.keeps hk8 (by simp))
        clear hk8 HLN HEV HB HRW HKW hb80 hevp
        go_wp2_with (first | ((with_reducible apply wpList_load_ev); exact rfl; (first | assumption | (refine heap_alloc_lt ?_; assumption) | (refine heap_alloc_lt (heap_alloc_lt ?_); assumption) | exact heap_alloc_at (by simp)); exact rfl) | ((with_reducible apply wpList_put_ev); exact rfl; exact rfl; exact HB80.out; exact ⟨rfl, rfl⟩; first | exact rfl | (refine evC_one _ ?_ ?_ <;> first | rfl | exact row_one HR8.out.1 | exact row_one HR8.out.2.choose_spec.1)))
        intro W9 hb9 hk9
        go_wp2_with fail
        try simp only [Exit.inBlock, Exit.then]
        exact bodyPost_ret (results_ev2 (p := 2) (u := 3) rfl _ _ _ rfl hb9) rfl (R6ParsePost.yes HYES.out ((HR8.out.keeps hk9 (fun q hq => by simp at hq; have := HW0.out; omega)).kept (by have := HW0.out; omega)) (HK8.out.trans hk9 (fun q hq => .inr (by simp at hq; omega))))
      · have HNO := Lib.hid (HNL.out hl)
        have t9 : ((bs (lineX x)).toList == S.toList) = false := by
          rw [← HS.out, toL_bs, toL_bs, beq_eq_false_iff_ne]
          unfold lineX
          rw [hg]
          simpa using hl
        generalize bs (lineX x) = LX at *
        have HLN := Lib.hid hln
        clear hln HNI HNG HNL HYS HIE hE hl hg
        have hevp := HEV.out
        go_wp2_with ((with_reducible apply wpList_load_ev); exact rfl; (first | assumption | (refine heap_alloc_lt ?_; assumption) | (refine heap_alloc_lt (heap_alloc_lt ?_); assumption) | exact heap_alloc_at (by simp)); exact rfl)
        refine HLN.out.mono ?_; rintro z w8 ⟨rfl, hk8⟩
        have hb8 := hk8.heap HEV.out (by simp)
        have hb80 := hk8.heap HB.out (by simp)
        have HB80 := Lib.hid hb80
        have HK8 := Lib.hid (HKW.out.trans hk8 (FSub.refl _ _))
        have HR8 := Lib.hid (HRW.out.keeps hk8 (by simp))
        clear hk8 HLN HEV HB HRW HKW hb80 hevp
        go_wp2_with (first | ((with_reducible apply wpList_load_ev); exact rfl; (first | assumption | (refine heap_alloc_lt ?_; assumption) | (refine heap_alloc_lt (heap_alloc_lt ?_); assumption) | exact heap_alloc_at (by simp)); exact rfl) | ((with_reducible apply wpList_put_ev); exact rfl; exact rfl; exact HB80.out; exact ⟨rfl, rfl⟩; first | exact rfl | (refine evC_one _ ?_ ?_ <;> first | rfl | exact row_one HR8.out.1 | exact row_one HR8.out.2.choose_spec.1)))
        intro W9 hb9 hk9
        replace hb9 : W9.heap[w.heap.size]? = some (.cells (evC evZero (.slice none 0 0) (.slice none 0 0)) 32 (0, 0)) := hb9
        go_wp2_with fail
        try simp only [Exit.inBlock, Exit.then]
        exact bodyPost_ret (results_ev2 (p := 2) (u := 3) rfl _ _ _ rfl hb9) rfl (R6ParsePost.no HNO.out (HK8.out.trans hk9 (fun q hq => .inr (by simp at hq; omega))))
    · have HNO := Lib.hid (HNG.out hg)
      have hE : evErr x = 4 := by unfold evErr; rw [hg]; rfl
      rw [hE] at hln
      generalize bs (lineX x) = LX at *
      have HLN := Lib.hid hln
      clear hln HNI HNG HNL HYS HIE hE hg
      have hevp := HEV.out
      go_wp2_with ((with_reducible apply wpList_load_ev); exact rfl; (first | assumption | (refine heap_alloc_lt ?_; assumption) | (refine heap_alloc_lt (heap_alloc_lt ?_); assumption) | exact heap_alloc_at (by simp)); exact rfl)
      refine HLN.out.mono ?_; rintro z w8 ⟨rfl, hk8⟩
      have hb8 := hk8.heap HEV.out (by simp)
      have hb80 := hk8.heap HB.out (by simp)
      have HB80 := Lib.hid hb80
      have HK8 := Lib.hid (HKW.out.trans hk8 (FSub.refl _ _))
      have HR8 := Lib.hid (HRW.out.keeps hk8 (by simp))
      clear hk8 HLN HEV HB HRW HKW hb80 hevp
      go_wp2_with (first | ((with_reducible apply wpList_load_ev); exact rfl; (first | assumption | (refine heap_alloc_lt ?_; assumption) | (refine heap_alloc_lt (heap_alloc_lt ?_); assumption) | exact heap_alloc_at (by simp)); exact rfl) | ((with_reducible apply wpList_put_ev); exact rfl; exact rfl; exact HB80.out; exact ⟨rfl, rfl⟩; first | exact rfl | (refine evC_one _ ?_ ?_ <;> first | rfl | exact row_one HR8.out.1 | exact row_one HR8.out.2.choose_spec.1)))
      intro W9 hb9 hk9
      replace hb9 : W9.heap[w.heap.size]? = some (.cells (evC evZero (.slice none 0 0) (.slice none 0 0)) 32 (0, 0)) := hb9
      go_wp2_with fail
      try simp only [Exit.inBlock, Exit.then]
      exact bodyPost_ret (results_ev2 (p := 2) (u := 3) rfl _ _ _ rfl hb9) rfl (R6ParsePost.no HNO.out (HK8.out.trans hk9 (fun q hq => .inr (by simp at hq; omega))))
  | false =>
    have hxi := dcX_in s
    have hnoI : dcI s = false → _ := fun h => dc_no (s := s) (.inl h)
    have hnoG : evGood (dcX s) = false → _ := fun h => dc_no (s := s) (.inr (.inl h))
    have hnoL : evLine (dcX s) ≠ s → _ := fun h => dc_no (s := s) (.inr (.inr h))
    have hyes : dcI s = true → evGood (dcX s) = true → evLine (dcX s) = s → _ := fun h1 h2 h3 => dc_yes (s := s) h1 h2 h3
    have hln := r6Line_any _ (dcX s) hxi _ _ HRW.out.at (Nat.le_refl _)
    unfold R6LinePost at hln
    generalize dcX s = x at *
    have HNI := Lib.hid hnoI; have HNG := Lib.hid hnoG; have HNL := Lib.hid hnoL; have HYS := Lib.hid hyes
    clear hnoI hnoG hnoL hyes hxi
    have HNO := Lib.hid (HNI.out HIE.out)
    generalize bs (lineX x) = LX at *
    generalize evErr x = EE at *
    have HLN := Lib.hid hln
    clear hln HNI HNG HNL HYS HIE
    have hevp := HEV.out
    go_wp2_with ((with_reducible apply wpList_load_ev); exact rfl; (first | assumption | (refine heap_alloc_lt ?_; assumption) | (refine heap_alloc_lt (heap_alloc_lt ?_); assumption) | exact heap_alloc_at (by simp)); exact rfl)
    refine HLN.out.mono ?_; rintro z w8 ⟨rfl, hk8⟩
    have hb8 := hk8.heap HEV.out (by simp)
    have hb80 := hk8.heap HB.out (by simp)
    have HB80 := Lib.hid hb80
    have HK8 := Lib.hid (HKW.out.trans hk8 (FSub.refl _ _))
    have HR8 := Lib.hid (HRW.out.keeps hk8 (by simp))
    clear hk8 HLN HEV HB HRW HKW hb80 hevp
    go_wp2_with (first | ((with_reducible apply wpList_load_ev); exact rfl; (first | assumption | (refine heap_alloc_lt ?_; assumption) | (refine heap_alloc_lt (heap_alloc_lt ?_); assumption) | exact heap_alloc_at (by simp)); exact rfl) | ((with_reducible apply wpList_put_ev); exact rfl; exact rfl; exact HB80.out; exact ⟨rfl, rfl⟩; first | exact rfl | (refine evC_one _ ?_ ?_ <;> first | rfl | exact row_one HR8.out.1 | exact row_one HR8.out.2.choose_spec.1)))
    intro W9 hb9 hk9
    replace hb9 : W9.heap[w.heap.size]? = some (.cells (evC evZero (.slice none 0 0) (.slice none 0 0)) 32 (0, 0)) := hb9
    go_wp2_with fail
    try simp only [Exit.inBlock, Exit.then]
    exact bodyPost_ret (results_ev2 (p := 2) (u := 3) rfl _ _ _ rfl hb9) rfl (R6ParsePost.no HNO.out (HK8.out.trans hk9 (fun q hq => .inr (by simp at hq; omega))))
end Go.Proofs.YtffldnjjijckcaaGreatDoor
/-
  The document's Parse, way by way. (Printed by draft/genr6parse.py.)
-/
namespace Go.Proofs.YtffldnjjijckcaaGreatDoor
open Go.RowKit
set_option maxHeartbeats 16000000 in
set_option maxRecDepth 100000 in
theorem r6Parse_other (w : World) (s : List UInt8) (hs : s.length ≤ 90000) (hd1 : (cutAt 32 s).getD 0 [] ≠ configL) (hd2 : (cutAt 32 s).getD 0 [] ≠ invokeL) (hd3 : (cutAt 32 s).getD 0 [] ≠ returnL) (hd4 : (cutAt 32 s).getD 0 [] ≠ infoL) (hd5 : (cutAt 32 s).getD 0 [] ≠ beginL) (hd6 : (cutAt 32 s).getD 0 [] ≠ commitL) (hd7 : (cutAt 32 s).getD 0 [] ≠ abortL) (hwho : dcWho (cutAt 32 s) = true) :
    Calls Tryz.prog 11 #[.string (bs s)] w (R6ParsePost s w) := by
  have ht1 : ((bs ((cutAt 32 s).getD 0 [])).toList == [99, 111, 110, 102, 105, 103]) = false := by rw [toL_bs, beq_eq_false_iff_ne]; exact hd1
  have ht2 : ((bs ((cutAt 32 s).getD 0 [])).toList == [105, 110, 118, 111, 107, 101]) = false := by rw [toL_bs, beq_eq_false_iff_ne]; exact hd2
  have ht3 : ((bs ((cutAt 32 s).getD 0 [])).toList == [114, 101, 116, 117, 114, 110]) = false := by rw [toL_bs, beq_eq_false_iff_ne]; exact hd3
  have ht4 : ((bs ((cutAt 32 s).getD 0 [])).toList == [105, 110, 102, 111]) = false := by rw [toL_bs, beq_eq_false_iff_ne]; exact hd4
  have ht5 : ((bs ((cutAt 32 s).getD 0 [])).toList == [98, 101, 103, 105, 110]) = false := by rw [toL_bs, beq_eq_false_iff_ne]; exact hd5
  have ht6 : ((bs ((cutAt 32 s).getD 0 [])).toList == [99, 111, 109, 109, 105, 116]) = false := by rw [toL_bs, beq_eq_false_iff_ne]; exact hd6
  have ht7 : ((bs ((cutAt 32 s).getD 0 [])).toList == [97, 98, 111, 114, 116]) = false := by rw [toL_bs, beq_eq_false_iff_ne]; exact hd7
  have hkd : kdOf ((cutAt 32 s).getD 0 []) = 0 := by unfold kdOf; rw [if_neg hd1, if_neg hd2, if_neg hd3, if_neg hd4, if_neg hd5, if_neg hd6, if_neg hd7]
  have hxe : dcX s = { evZero with c := sm ((cutAt 32 s).getD 1 []), id := sm ((cutAt 32 s).getD 2 []) } := by unfold dcX; rw [if_neg hd1, hwho, if_pos rfl, hkd]; rfl
  have hie : dcI s = false := by unfold dcI; rw [if_neg hd1, hwho, if_pos rfl, hkd]; rfl
  have HXE := Lib.hid hxe; have HIE := Lib.hid hie
  clear hxe hie hkd hd1 hd2 hd3 hd4 hd5 hd6 hd7
  unfold dcWho at hwho
  simp only [decide_eq_true_eq] at hwho
  obtain ⟨hw3, hcA, hcB, hiA⟩ := hwho
  have hcut := fun w => r6Cut_any w s 32 hs
  unfold Words6 at hcut
  have hne := cutAt_ne 32 s
  have hpl := cut_part_le 32 s
  have hll := cut_len_le 32 s
  generalize hL : cutAt 32 s = L at *
  have HL := Lib.hid hL
  have HPL := Lib.hid hpl
  clear hL hpl
  have hk0 := (Keeps.refl [] w).alloc (.cells (evC evZero (.slice none 0 0) (.slice none 0 0)) 32)
  have hb0 := heap_alloc_new w (.cells (evC evZero (.slice none 0 0) (.slice none 0 0)) 32)
  have HK0 := Lib.hid hk0; have HB0 := Lib.hid hb0
  have HCT := Lib.hid hcut
  clear hk0 hb0 hcut
  generalize hS : bs s = S at *
  have HS := Lib.hid hS
  clear hS
  go_enter Tryz.func11, Tryz.ntmps11
  go_wp2_with fail
  refine (HCT.out _).mono ?_; rintro z w1 ⟨v1, rfl, hrow1, hk1⟩
  have hst1 := Strs.row (row_up (b2 := 0) hrow1 (fun _ _ => Nat.zero_le _))
  obtain ⟨a1, c1, rfl, hc1, hm1⟩ := hst1.shape
  obtain ⟨-, -, -, bk, o, rfl, hbN, hcell, hdrop⟩ := hst1.at hne
  have hb01 : w1.heap[w.heap.size]? = some (.cells (evC evZero (.slice none 0 0) (.slice none 0 0)) 32 (0, 0)) := hk1.heap HB0.out (by simp)
  have HK1 := Lib.hid (HK0.out.trans hk1 (FSub.refl _ _))
  have hka := (Keeps.refl [] w1).alloc (.cells (evC evZero (.slice none 0 0) (.slice none 0 0)) 32)
  have HW0 := Lib.hid (lt_of_block hb01)
  have HKA := Lib.hid hka; have HB01 := Lib.hid hb01
  have HCL := Lib.hid hcell; have HDR := Lib.hid hdrop
  have hx0 : w1.cell? ⟨bk, o, none⟩ = some (.string (bs (L.getD 0 []))) := hcell 0 (List.length_pos_iff.2 hne)
  have hn0 : ¬ L.length = 0 := fun e => hne (List.eq_nil_of_length_eq_zero e)
  have hn1 : 1 ≤ L.length := by omega
  have hc2 : (c1 : Int) ≤ 9223372036854775807 := by omega
  have hbkn : bk < w1.heap.size := hbN
  have hcc1 : 1 ≤ c1 := by omega
  clear hk1 hrow1 hst1 hcell hdrop hb01 HK0 HB0 HCT hka hne
  generalize hn : L.length = n at *
  have HN := Lib.hid hn
  clear hn
  generalize bs (L.getD 0 []) = X0 at *
  go_wp2_with ((with_reducible apply wpList_put_ev); exact rfl; exact rfl; (first | assumption | (refine heap_alloc_lt ?_; assumption) | (refine heap_alloc_lt (heap_alloc_lt ?_); assumption) | exact heap_alloc_at (by simp)); exact ⟨rfl, rfl⟩; exact rfl)
  intro W2 hb2 hk2
  have hq2 : Keeps [] w1 W2 := HKA.out.trans hk2 (fun q hq => .inr (by simp at hq; omega))
  replace hb2 : W2.heap[w1.heap.size]? = some (.cells (evC evZero (.slice none 0 0) (.slice none 0 0)) 32 (0, 0)) := hb2
  have hb02 := hq2.heap HB01.out (by simp)
  replace hx0 := hq2.cell hx0 (by simp)
  have HB2 := Lib.hid hb2; have HB02 := Lib.hid hb02; have HQ2 := Lib.hid hq2
  have e0 := ev_cell hb2 0 (evC_0 _ _ _); have e1 := ev_cell hb2 1 (evC_1 _ _ _); have e2 := ev_cell hb2 2 (evC_2 _ _ _)
  have f0 := ev_thaw hb2 0; have f1 := ev_thaw hb2 1; have f2 := ev_thaw hb2 2
  have hlt2 : w1.heap.size < W2.heap.size := lt_of_block hb2
  clear hk2 hb2 hb02 hq2 HKA HB01
  have hg1 : (L.getD 1 []).length ≤ 1000000 := by
    by_cases hj : 1 < L.length
    · have := HPL.out (L.getD 1 []) (by rw [List.getD_eq_getElem?_getD, List.getElem?_eq_getElem hj]; exact List.getElem_mem hj); omega
    · rw [List.getD_eq_getElem?_getD, List.getElem?_eq_none (by omega)]; simp
  have hg2 : (L.getD 2 []).length ≤ 1000000 := by
    by_cases hj : 2 < L.length
    · have := HPL.out (L.getD 2 []) (by rw [List.getD_eq_getElem?_getD, List.getElem?_eq_getElem hj]; exact List.getElem_mem hj); omega
    · rw [List.getD_eq_getElem?_getD, List.getElem?_eq_none (by omega)]; simp
  have hsa := fun w => r6small_any w (L.getD 1 []) (by rw [bs_size]; omega)
  have hsb := fun w => r6small_any w (L.getD 2 []) (by rw [bs_size]; omega)
  have S1 := Lib.hid hsa; have S2 := Lib.hid hsb
  have hbi := sm_bounds (L.getD 2 [])
  have hbc := sm_bounds (L.getD 1 [])
  clear hsa hsb hg1 hg2
  have x1 := HQ2.out.cell (HCL.out 1 (by omega)) (by simp)
  have x2 := HQ2.out.cell (HCL.out 2 (by omega)) (by simp)
  generalize sm (L.getD 1 []) = c at *
  generalize sm (L.getD 2 []) = i at *
  generalize bs (L.getD 1 []) = X1 at *
  generalize bs (L.getD 2 []) = X2 at *
  have hn2 : 2 < n := by omega
  have hn1' : 1 < n := by omega
  have hwc : IntKind.u8.wrap c = c := by simp [IntKind.wrap, IntKind.bits, IntKind.signed]; omega
  have hwi : IntKind.u16.wrap i = i := by simp [IntKind.wrap, IntKind.bits, IntKind.signed]; omega
  have hz3 : (3 : Int) ≤ (n : Int) := by omega
  go_wp2_with fail
  refine (S1.out _).mono ?_; rintro z w9 ⟨rfl, rfl⟩
  go_wp2_with fail
  refine (S1.out _).mono ?_; rintro z w9 ⟨rfl, rfl⟩
  go_wp2_with fail
  refine (S2.out _).mono ?_; rintro z w9 ⟨rfl, rfl⟩
  go_wp2_with fail
  refine (S1.out _).mono ?_; rintro z w9 ⟨rfl, rfl⟩
  go_wp2_with (refine wpList_put_evc 1 { evZero with c := c } _ _ rfl rfl rfl rfl HB2.out (by kernel_rfl) rfl rfl rfl ?_)
  intro W3 hb3 hk3
  have hnb : bk ∉ [w1.heap.size] := by simp; omega
  replace x2 := hk3.cell x2 hnb
  replace hx0 := hk3.cell hx0 hnb
  have HB3 := Lib.hid hb3
  clear hb3
  go_wp2_with fail
  refine (S2.out _).mono ?_; rintro z w9 ⟨rfl, rfl⟩
  go_wp2_with (refine wpList_put_evc 2 { evZero with c := c, id := i } _ _ rfl rfl rfl rfl HB3.out (by kernel_rfl) rfl rfl rfl ?_)
  intro W4 hb4 hk4
  replace hx0 := hk4.cell hx0 hnb
  have HB4 := Lib.hid hb4
  have HQ4 := Lib.hid (hk3.trans hk4 (FSub.refl _ _))
  clear hb4 hk3 hk4 x1 x2 e0 e1 e2 f0 f1 f2 hlt2 HB3 HB2 S1 S2 hwc hwi hnb
  have HB5 := HB4; have HQ5 := HQ4
  generalize W4 = W5 at *
  have hev := HB5.out
  rw [← HXE.out] at hev
  have HEV := Lib.hid hev
  have HB := Lib.hid (HQ5.out.heap HB02.out (by have := HW0.out; simp; omega))
  have HKW := Lib.hid ((HK1.out.trans HQ2.out (FSub.refl _ _)).trans HQ5.out (fun q hq => .inr (by simp at hq; have := HW0.out; omega)))
  have HRW : Hid (EvRows (w1.heap.size + 1) W5 (.slice none 0 0) (.slice none 0 0) (dcX s)) := Lib.hid (EvRows.nil (by rw [HXE.out]; rfl) (by rw [HXE.out]; rfl))
  clear hev HXE HB5 HB4 HB02 HK1 HQ5 HQ4 HQ2 HDR HCL
  have hxi := dcX_in s
  have hnoI : dcI s = false → _ := fun h => dc_no (s := s) (.inl h)
  have hnoG : evGood (dcX s) = false → _ := fun h => dc_no (s := s) (.inr (.inl h))
  have hnoL : evLine (dcX s) ≠ s → _ := fun h => dc_no (s := s) (.inr (.inr h))
  have hyes : dcI s = true → evGood (dcX s) = true → evLine (dcX s) = s → _ := fun h1 h2 h3 => dc_yes (s := s) h1 h2 h3
  have hln := r6Line_any _ (dcX s) hxi _ _ HRW.out.at (Nat.le_refl _)
  unfold R6LinePost at hln
  generalize dcX s = x at *
  have HNI := Lib.hid hnoI; have HNG := Lib.hid hnoG; have HNL := Lib.hid hnoL; have HYS := Lib.hid hyes
  clear hnoI hnoG hnoL hyes hxi
  have HNO := Lib.hid (HNI.out HIE.out)
  generalize bs (lineX x) = LX at *
  generalize evErr x = EE at *
  have HLN := Lib.hid hln
  clear hln HNI HNG HNL HYS HIE
  have hevp := HEV.out
  go_wp2_with ((with_reducible apply wpList_load_ev); exact rfl; (first | assumption | (refine heap_alloc_lt ?_; assumption) | (refine heap_alloc_lt (heap_alloc_lt ?_); assumption) | exact heap_alloc_at (by simp)); exact rfl)
  refine HLN.out.mono ?_; rintro z w8 ⟨rfl, hk8⟩
  have hb8 := hk8.heap HEV.out (by simp)
  have hb80 := hk8.heap HB.out (by simp)
  have HB80 := Lib.hid hb80
  have HK8 := Lib.hid (HKW.out.trans hk8 (FSub.refl _ _))
  have HR8 := Lib.hid (HRW.out.keeps hk8 (by simp))
  clear hk8 HLN HEV HB HRW HKW hb80 hevp
  go_wp2_with (first | ((with_reducible apply wpList_load_ev); exact rfl; (first | assumption | (refine heap_alloc_lt ?_; assumption) | (refine heap_alloc_lt (heap_alloc_lt ?_); assumption) | exact heap_alloc_at (by simp)); exact rfl) | ((with_reducible apply wpList_put_ev); exact rfl; exact rfl; exact HB80.out; exact ⟨rfl, rfl⟩; first | exact rfl | (refine evC_one _ ?_ ?_ <;> first | rfl | exact row_one HR8.out.1 | exact row_one HR8.out.2.choose_spec.1)))
  intro W9 hb9 hk9
  replace hb9 : W9.heap[w.heap.size]? = some (.cells (evC evZero (.slice none 0 0) (.slice none 0 0)) 32 (0, 0)) := hb9
  go_wp2_with fail
  try simp only [Exit.inBlock, Exit.then]
  exact bodyPost_ret (results_ev2 (p := 2) (u := 3) rfl _ _ _ rfl hb9) rfl (R6ParsePost.no HNO.out (HK8.out.trans hk9 (fun q hq => .inr (by simp at hq; omega))))
set_option maxHeartbeats 16000000 in
set_option maxRecDepth 100000 in
theorem r6Parse_none (w : World) (s : List UInt8) (hs : s.length ≤ 90000) (hd1 : (cutAt 32 s).getD 0 [] ≠ configL) (hwho : dcWho (cutAt 32 s) = false) :
    Calls Tryz.prog 11 #[.string (bs s)] w (R6ParsePost s w) := by
  have ht1 : ((bs ((cutAt 32 s).getD 0 [])).toList == [99, 111, 110, 102, 105, 103]) = false := by rw [toL_bs, beq_eq_false_iff_ne]; exact hd1
  have hxe : dcX s = evZero := by unfold dcX; rw [if_neg hd1, hwho]; rfl
  have hie : dcI s = false := by unfold dcI; rw [if_neg hd1, hwho]; rfl
  have HXE := Lib.hid hxe; have HIE := Lib.hid hie
  unfold dcWho at hwho
  simp only [decide_eq_false_iff_not] at hwho
  clear hxe hie hd1
  have hcut := fun w => r6Cut_any w s 32 hs
  unfold Words6 at hcut
  have hne := cutAt_ne 32 s
  have hpl := cut_part_le 32 s
  have hll := cut_len_le 32 s
  generalize hL : cutAt 32 s = L at *
  have HL := Lib.hid hL
  have HPL := Lib.hid hpl
  clear hL hpl
  have hk0 := (Keeps.refl [] w).alloc (.cells (evC evZero (.slice none 0 0) (.slice none 0 0)) 32)
  have hb0 := heap_alloc_new w (.cells (evC evZero (.slice none 0 0) (.slice none 0 0)) 32)
  have HK0 := Lib.hid hk0; have HB0 := Lib.hid hb0
  have HCT := Lib.hid hcut
  clear hk0 hb0 hcut
  generalize hS : bs s = S at *
  have HS := Lib.hid hS
  clear hS
  go_enter Tryz.func11, Tryz.ntmps11
  go_wp2_with fail
  refine (HCT.out _).mono ?_; rintro z w1 ⟨v1, rfl, hrow1, hk1⟩
  have hst1 := Strs.row (row_up (b2 := 0) hrow1 (fun _ _ => Nat.zero_le _))
  obtain ⟨a1, c1, rfl, hc1, hm1⟩ := hst1.shape
  obtain ⟨-, -, -, bk, o, rfl, hbN, hcell, hdrop⟩ := hst1.at hne
  have hb01 : w1.heap[w.heap.size]? = some (.cells (evC evZero (.slice none 0 0) (.slice none 0 0)) 32 (0, 0)) := hk1.heap HB0.out (by simp)
  have HK1 := Lib.hid (HK0.out.trans hk1 (FSub.refl _ _))
  have hka := (Keeps.refl [] w1).alloc (.cells (evC evZero (.slice none 0 0) (.slice none 0 0)) 32)
  have HW0 := Lib.hid (lt_of_block hb01)
  have HKA := Lib.hid hka; have HB01 := Lib.hid hb01
  have HCL := Lib.hid hcell; have HDR := Lib.hid hdrop
  have hx0 : w1.cell? ⟨bk, o, none⟩ = some (.string (bs (L.getD 0 []))) := hcell 0 (List.length_pos_iff.2 hne)
  have hn0 : ¬ L.length = 0 := fun e => hne (List.eq_nil_of_length_eq_zero e)
  have hn1 : 1 ≤ L.length := by omega
  have hc2 : (c1 : Int) ≤ 9223372036854775807 := by omega
  have hbkn : bk < w1.heap.size := hbN
  have hcc1 : 1 ≤ c1 := by omega
  clear hk1 hrow1 hst1 hcell hdrop hb01 HK0 HB0 HCT hka hne
  generalize hn : L.length = n at *
  have HN := Lib.hid hn
  clear hn
  generalize bs (L.getD 0 []) = X0 at *
  go_wp2_with ((with_reducible apply wpList_put_ev); exact rfl; exact rfl; (first | assumption | (refine heap_alloc_lt ?_; assumption) | (refine heap_alloc_lt (heap_alloc_lt ?_); assumption) | exact heap_alloc_at (by simp)); exact ⟨rfl, rfl⟩; exact rfl)
  intro W2 hb2 hk2
  have hq2 : Keeps [] w1 W2 := HKA.out.trans hk2 (fun q hq => .inr (by simp at hq; omega))
  replace hb2 : W2.heap[w1.heap.size]? = some (.cells (evC evZero (.slice none 0 0) (.slice none 0 0)) 32 (0, 0)) := hb2
  have hb02 := hq2.heap HB01.out (by simp)
  replace hx0 := hq2.cell hx0 (by simp)
  have HB2 := Lib.hid hb2; have HB02 := Lib.hid hb02; have HQ2 := Lib.hid hq2
  have e0 := ev_cell hb2 0 (evC_0 _ _ _); have e1 := ev_cell hb2 1 (evC_1 _ _ _); have e2 := ev_cell hb2 2 (evC_2 _ _ _)
  have f0 := ev_thaw hb2 0; have f1 := ev_thaw hb2 1; have f2 := ev_thaw hb2 2
  have hlt2 : w1.heap.size < W2.heap.size := lt_of_block hb2
  clear hk2 hb2 hb02 hq2 HKA HB01
  have hg1 : (L.getD 1 []).length ≤ 1000000 := by
    by_cases hj : 1 < L.length
    · have := HPL.out (L.getD 1 []) (by rw [List.getD_eq_getElem?_getD, List.getElem?_eq_getElem hj]; exact List.getElem_mem hj); omega
    · rw [List.getD_eq_getElem?_getD, List.getElem?_eq_none (by omega)]; simp
  have hg2 : (L.getD 2 []).length ≤ 1000000 := by
    by_cases hj : 2 < L.length
    · have := HPL.out (L.getD 2 []) (by rw [List.getD_eq_getElem?_getD, List.getElem?_eq_getElem hj]; exact List.getElem_mem hj); omega
    · rw [List.getD_eq_getElem?_getD, List.getElem?_eq_none (by omega)]; simp
  have hsa := fun w => r6small_any w (L.getD 1 []) (by rw [bs_size]; omega)
  have hsb := fun w => r6small_any w (L.getD 2 []) (by rw [bs_size]; omega)
  have S1 := Lib.hid hsa; have S2 := Lib.hid hsb
  have hbi := sm_bounds (L.getD 2 [])
  have hbc := sm_bounds (L.getD 1 [])
  clear hsa hsb hg1 hg2
  have hev := HB2.out
  rw [← HXE.out] at hev
  have HEV := Lib.hid hev
  have HB := HB02
  have HKW := Lib.hid (HK1.out.trans HQ2.out (FSub.refl _ _))
  have HRW : Hid (EvRows (w1.heap.size + 1) W2 (.slice none 0 0) (.slice none 0 0) (dcX s)) := Lib.hid (EvRows.nil (by rw [HXE.out]; rfl) (by rw [HXE.out]; rfl))
  by_cases hw3 : 3 ≤ n
  · have x1 := HQ2.out.cell (HCL.out 1 (by omega)) (by simp)
    have x2 := HQ2.out.cell (HCL.out 2 (by omega)) (by simp)
    generalize sm (L.getD 1 []) = c at *
    generalize sm (L.getD 2 []) = i at *
    generalize bs (L.getD 1 []) = X1 at *
    generalize bs (L.getD 2 []) = X2 at *
    have hn2 : 2 < n := by omega
    have hn1' : 1 < n := by omega
    have hz3 : (3 : Int) ≤ (n : Int) := by omega
    clear e0 e1 e2 f0 f1 f2 hlt2 HB2 HB02 HK1 HXE hev
    by_cases q0 : 0 ≤ c
    · by_cases q1 : c < 16
      · have q2 : ¬ 0 ≤ i := fun h => hwho ⟨hw3, q0, q1, h⟩
        clear hwho
        go_wp2_with fail
        refine (S1.out _).mono ?_; rintro z w9 ⟨rfl, rfl⟩
        go_wp2_with fail
        refine (S1.out _).mono ?_; rintro z w9 ⟨rfl, rfl⟩
        go_wp2_with fail
        refine (S2.out _).mono ?_; rintro z w9 ⟨rfl, rfl⟩
        have hxi := dcX_in s
        have hnoI : dcI s = false → _ := fun h => dc_no (s := s) (.inl h)
        have hnoG : evGood (dcX s) = false → _ := fun h => dc_no (s := s) (.inr (.inl h))
        have hnoL : evLine (dcX s) ≠ s → _ := fun h => dc_no (s := s) (.inr (.inr h))
        have hyes : dcI s = true → evGood (dcX s) = true → evLine (dcX s) = s → _ := fun h1 h2 h3 => dc_yes (s := s) h1 h2 h3
        have hln := r6Line_any _ (dcX s) hxi _ _ HRW.out.at (Nat.le_refl _)
        unfold R6LinePost at hln
        generalize dcX s = x at *
        have HNI := Lib.hid hnoI; have HNG := Lib.hid hnoG; have HNL := Lib.hid hnoL; have HYS := Lib.hid hyes
        clear hnoI hnoG hnoL hyes hxi
        have HNO := Lib.hid (HNI.out HIE.out)
        generalize bs (lineX x) = LX at *
        generalize evErr x = EE at *
        have HLN := Lib.hid hln
        clear hln HNI HNG HNL HYS HIE
        have hevp := HEV.out
        go_wp2_with ((with_reducible apply wpList_load_ev); exact rfl; (first | assumption | (refine heap_alloc_lt ?_; assumption) | (refine heap_alloc_lt (heap_alloc_lt ?_); assumption) | exact heap_alloc_at (by simp)); exact rfl)
        refine HLN.out.mono ?_; rintro z w8 ⟨rfl, hk8⟩
        have hb8 := hk8.heap HEV.out (by simp)
        have hb80 := hk8.heap HB.out (by simp)
        have HB80 := Lib.hid hb80
        have HK8 := Lib.hid (HKW.out.trans hk8 (FSub.refl _ _))
        have HR8 := Lib.hid (HRW.out.keeps hk8 (by simp))
        clear hk8 HLN HEV HB HRW HKW hb80 hevp
        go_wp2_with (first | ((with_reducible apply wpList_load_ev); exact rfl; (first | assumption | (refine heap_alloc_lt ?_; assumption) | (refine heap_alloc_lt (heap_alloc_lt ?_); assumption) | exact heap_alloc_at (by simp)); exact rfl) | ((with_reducible apply wpList_put_ev); exact rfl; exact rfl; exact HB80.out; exact ⟨rfl, rfl⟩; first | exact rfl | (refine evC_one _ ?_ ?_ <;> first | rfl | exact row_one HR8.out.1 | exact row_one HR8.out.2.choose_spec.1)))
        intro W9 hb9 hk9
        replace hb9 : W9.heap[w.heap.size]? = some (.cells (evC evZero (.slice none 0 0) (.slice none 0 0)) 32 (0, 0)) := hb9
        go_wp2_with fail
        try simp only [Exit.inBlock, Exit.then]
        exact bodyPost_ret (results_ev2 (p := 2) (u := 3) rfl _ _ _ rfl hb9) rfl (R6ParsePost.no HNO.out (HK8.out.trans hk9 (fun q hq => .inr (by simp at hq; omega))))
      · clear hwho
        go_wp2_with fail
        refine (S1.out _).mono ?_; rintro z w9 ⟨rfl, rfl⟩
        go_wp2_with fail
        refine (S1.out _).mono ?_; rintro z w9 ⟨rfl, rfl⟩
        have hxi := dcX_in s
        have hnoI : dcI s = false → _ := fun h => dc_no (s := s) (.inl h)
        have hnoG : evGood (dcX s) = false → _ := fun h => dc_no (s := s) (.inr (.inl h))
        have hnoL : evLine (dcX s) ≠ s → _ := fun h => dc_no (s := s) (.inr (.inr h))
        have hyes : dcI s = true → evGood (dcX s) = true → evLine (dcX s) = s → _ := fun h1 h2 h3 => dc_yes (s := s) h1 h2 h3
        have hln := r6Line_any _ (dcX s) hxi _ _ HRW.out.at (Nat.le_refl _)
        unfold R6LinePost at hln
        generalize dcX s = x at *
        have HNI := Lib.hid hnoI; have HNG := Lib.hid hnoG; have HNL := Lib.hid hnoL; have HYS := Lib.hid hyes
        clear hnoI hnoG hnoL hyes hxi
        have HNO := Lib.hid (HNI.out HIE.out)
        generalize bs (lineX x) = LX at *
        generalize evErr x = EE at *
        have HLN := Lib.hid hln
        clear hln HNI HNG HNL HYS HIE
        have hevp := HEV.out
        go_wp2_with ((with_reducible apply wpList_load_ev); exact rfl; (first | assumption | (refine heap_alloc_lt ?_; assumption) | (refine heap_alloc_lt (heap_alloc_lt ?_); assumption) | exact heap_alloc_at (by simp)); exact rfl)
        refine HLN.out.mono ?_; rintro z w8 ⟨rfl, hk8⟩
        have hb8 := hk8.heap HEV.out (by simp)
        have hb80 := hk8.heap HB.out (by simp)
        have HB80 := Lib.hid hb80
        have HK8 := Lib.hid (HKW.out.trans hk8 (FSub.refl _ _))
        have HR8 := Lib.hid (HRW.out.keeps hk8 (by simp))
        clear hk8 HLN HEV HB HRW HKW hb80 hevp
        go_wp2_with (first | ((with_reducible apply wpList_load_ev); exact rfl; (first | assumption | (refine heap_alloc_lt ?_; assumption) | (refine heap_alloc_lt (heap_alloc_lt ?_); assumption) | exact heap_alloc_at (by simp)); exact rfl) | ((with_reducible apply wpList_put_ev); exact rfl; exact rfl; exact HB80.out; exact ⟨rfl, rfl⟩; first | exact rfl | (refine evC_one _ ?_ ?_ <;> first | rfl | exact row_one HR8.out.1 | exact row_one HR8.out.2.choose_spec.1)))
        intro W9 hb9 hk9
        replace hb9 : W9.heap[w.heap.size]? = some (.cells (evC evZero (.slice none 0 0) (.slice none 0 0)) 32 (0, 0)) := hb9
        go_wp2_with fail
        try simp only [Exit.inBlock, Exit.then]
        exact bodyPost_ret (results_ev2 (p := 2) (u := 3) rfl _ _ _ rfl hb9) rfl (R6ParsePost.no HNO.out (HK8.out.trans hk9 (fun q hq => .inr (by simp at hq; omega))))
    · clear hwho
      go_wp2_with fail
      refine (S1.out _).mono ?_; rintro z w9 ⟨rfl, rfl⟩
      have hxi := dcX_in s
      have hnoI : dcI s = false → _ := fun h => dc_no (s := s) (.inl h)
      have hnoG : evGood (dcX s) = false → _ := fun h => dc_no (s := s) (.inr (.inl h))
      have hnoL : evLine (dcX s) ≠ s → _ := fun h => dc_no (s := s) (.inr (.inr h))
      have hyes : dcI s = true → evGood (dcX s) = true → evLine (dcX s) = s → _ := fun h1 h2 h3 => dc_yes (s := s) h1 h2 h3
      have hln := r6Line_any _ (dcX s) hxi _ _ HRW.out.at (Nat.le_refl _)
      unfold R6LinePost at hln
      generalize dcX s = x at *
      have HNI := Lib.hid hnoI; have HNG := Lib.hid hnoG; have HNL := Lib.hid hnoL; have HYS := Lib.hid hyes
      clear hnoI hnoG hnoL hyes hxi
      have HNO := Lib.hid (HNI.out HIE.out)
      generalize bs (lineX x) = LX at *
      generalize evErr x = EE at *
      have HLN := Lib.hid hln
      clear hln HNI HNG HNL HYS HIE
      have hevp := HEV.out
      go_wp2_with ((with_reducible apply wpList_load_ev); exact rfl; (first | assumption | (refine heap_alloc_lt ?_; assumption) | (refine heap_alloc_lt (heap_alloc_lt ?_); assumption) | exact heap_alloc_at (by simp)); exact rfl)
      refine HLN.out.mono ?_; rintro z w8 ⟨rfl, hk8⟩
      have hb8 := hk8.heap HEV.out (by simp)
      have hb80 := hk8.heap HB.out (by simp)
      have HB80 := Lib.hid hb80
      have HK8 := Lib.hid (HKW.out.trans hk8 (FSub.refl _ _))
      have HR8 := Lib.hid (HRW.out.keeps hk8 (by simp))
      clear hk8 HLN HEV HB HRW HKW hb80 hevp
      go_wp2_with (first | ((with_reducible apply wpList_load_ev); exact rfl; (first | assumption | (refine heap_alloc_lt ?_; assumption) | (refine heap_alloc_lt (heap_alloc_lt ?_); assumption) | exact heap_alloc_at (by simp)); exact rfl) | ((with_reducible apply wpList_put_ev); exact rfl; exact rfl; exact HB80.out; exact ⟨rfl, rfl⟩; first | exact rfl | (refine evC_one _ ?_ ?_ <;> first | rfl | exact row_one HR8.out.1 | exact row_one HR8.out.2.choose_spec.1)))
      intro W9 hb9 hk9
      replace hb9 : W9.heap[w.heap.size]? = some (.cells (evC evZero (.slice none 0 0) (.slice none 0 0)) 32 (0, 0)) := hb9
      go_wp2_with fail
      try simp only [Exit.inBlock, Exit.then]
      exact bodyPost_ret (results_ev2 (p := 2) (u := 3) rfl _ _ _ rfl hb9) rfl (R6ParsePost.no HNO.out (HK8.out.trans hk9 (fun q hq => .inr (by simp at hq; omega))))
  · have hz3 : ¬ (3 : Int) ≤ (n : Int) := by omega
    clear e0 e1 e2 f0 f1 f2 hlt2 HB2 HB02 HK1 HXE hev hwho S1 S2 hbi hbc
    have hxi := dcX_in s
    have hnoI : dcI s = false → _ := fun h => dc_no (s := s) (.inl h)
    have hnoG : evGood (dcX s) = false → _ := fun h => dc_no (s := s) (.inr (.inl h))
    have hnoL : evLine (dcX s) ≠ s → _ := fun h => dc_no (s := s) (.inr (.inr h))
    have hyes : dcI s = true → evGood (dcX s) = true → evLine (dcX s) = s → _ := fun h1 h2 h3 => dc_yes (s := s) h1 h2 h3
    have hln := r6Line_any _ (dcX s) hxi _ _ HRW.out.at (Nat.le_refl _)
    unfold R6LinePost at hln
    generalize dcX s = x at *
    have HNI := Lib.hid hnoI; have HNG := Lib.hid hnoG; have HNL := Lib.hid hnoL; have HYS := Lib.hid hyes
    clear hnoI hnoG hnoL hyes hxi
    have HNO := Lib.hid (HNI.out HIE.out)
    generalize bs (lineX x) = LX at *
    generalize evErr x = EE at *
    have HLN := Lib.hid hln
    clear hln HNI HNG HNL HYS HIE
    have hevp := HEV.out
    go_wp2_with ((with_reducible apply wpList_load_ev); exact rfl; (first | assumption | (refine heap_alloc_lt ?_; assumption) | (refine heap_alloc_lt (heap_alloc_lt ?_); assumption) | exact heap_alloc_at (by simp)); exact rfl)
    refine HLN.out.mono ?_; rintro z w8 ⟨rfl, hk8⟩
    have hb8 := hk8.heap HEV.out (by simp)
    have hb80 := hk8.heap HB.out (by simp)
    have HB80 := Lib.hid hb80
    have HK8 := Lib.hid (HKW.out.trans hk8 (FSub.refl _ _))
    have HR8 := Lib.hid (HRW.out.keeps hk8 (by simp))
    clear hk8 HLN HEV HB HRW HKW hb80 hevp
    go_wp2_with (first | ((with_reducible apply wpList_load_ev); exact rfl; (first | assumption | (refine heap_alloc_lt ?_; assumption) | (refine heap_alloc_lt (heap_alloc_lt ?_); assumption) | exact heap_alloc_at (by simp)); exact rfl) | ((with_reducible apply wpList_put_ev); exact rfl; exact rfl; exact HB80.out; exact ⟨rfl, rfl⟩; first | exact rfl | (refine evC_one _ ?_ ?_ <;> first | rfl | exact row_one HR8.out.1 | exact row_one HR8.out.2.choose_spec.1)))
    intro W9 hb9 hk9
    replace hb9 : W9.heap[w.heap.size]? = some (.cells (evC evZero (.slice none 0 0) (.slice none 0 0)) 32 (0, 0)) := hb9
    go_wp2_with fail
    try simp only [Exit.inBlock, Exit.then]
    exact bodyPost_ret (results_ev2 (p := 2) (u := 3) rfl _ _ _ rfl hb9) rfl (R6ParsePost.no HNO.out (HK8.out.trans hk9 (fun q hq => .inr (by simp at hq; omega))))
end Go.Proofs.YtffldnjjijckcaaGreatDoor
/-
  The document's Parse, every text.
-/
namespace Go.Proofs.YtffldnjjijckcaaGreatDoor
open Go.RowKit
theorem r6Parse_any (w : World) (s : List UInt8) (hs : s.length ≤ 90000) : Calls Tryz.prog 11 #[.string (bs s)] w (R6ParsePost s w) := by
  by_cases h1 : (cutAt 32 s).getD 0 [] = configL
  · exact r6Parse_cfg w s hs h1
  rcases bool_two (dcWho (cutAt 32 s)) with hw | hw
  · by_cases h2 : (cutAt 32 s).getD 0 [] = invokeL
    · exact r6Parse_2 w s hs h2 hw
    by_cases h3 : (cutAt 32 s).getD 0 [] = returnL
    · exact r6Parse_3 w s hs h3 hw
    by_cases h4 : (cutAt 32 s).getD 0 [] = infoL
    · exact r6Parse_4 w s hs h4 hw
    by_cases h5 : (cutAt 32 s).getD 0 [] = beginL
    · exact r6Parse_5 w s hs h5 hw
    by_cases h6 : (cutAt 32 s).getD 0 [] = commitL
    · exact r6Parse_6 w s hs h6 hw
    by_cases h7 : (cutAt 32 s).getD 0 [] = abortL
    · exact r6Parse_7 w s hs h7 hw
    exact r6Parse_other w s hs h1 h2 h3 h4 h5 h6 h7 hw
  · exact r6Parse_none w s hs h1 hw
end Go.Proofs.YtffldnjjijckcaaGreatDoor
