/-
  The document's Parse, where words say no operation.
-/
import Derived.Test.YtffldnjjijckcaaGreatDoorR30
set_option linter.unusedSimpArgs false
set_option linter.unusedVariables false
namespace Go.Proofs.YtffldnjjijckcaaGreatDoor
open Go.RowKit
set_option maxHeartbeats 8000000 in
set_option maxRecDepth 100000 in
theorem r4Parse_no (w : World) (v : Value) (l : List (List UInt8)) (hno : ∀ f, ¬ Said l f) (hs : Strs w.heap.size w v l) (hw : ∀ j, (l.getD j []).length ≤ 90000) (hlen : l.length ≤ 90000) :
    Calls Tryz.prog 36 #[v] w fun e w' => e = .returned (.tuple #[(opsX l).val, .int .i64 (opsE l)]) ∧ Keeps [] w w' := by
  have HNO := Lib.hid hno; clear hno
  generalize hRX : opsX l = RX at *
  generalize hRE : opsE l = RE at *
  have HRX := Lib.hid hRX; have HRE := Lib.hid hRE; clear hRX hRE
  obtain ⟨a, c, rfl, hc, hm, h⟩ := hs
  have HH := Lib.hid h; clear h
  have hk0 := (Keeps.refl [] w).alloc (.cells #[.int .u8 0, .int .u8 0, .int .u8 0, .int .u16 0, .int .u16 0] 24)
  have hX0 := heap_alloc_new w (.cells #[.int .u8 0, .int .u8 0, .int .u8 0, .int .u16 0, .int .u16 0] 24)
  have HX := Lib.hid hX0; have HK := Lib.hid hk0; clear hX0 hk0
  go_enter Tryz.func36, Tryz.ntmps36
  go_wp2_with fail
  go_loopw [3, 4] (fun r i wr => ∃ f : Nat, r = .int .i64 0 ∧ i = .int .u8 f ∧ 1 ≤ f ∧ f ≤ 12 ∧ NoneBelow l f ∧ wr.heap[w.heap.size]? = some (.cells #[.int .u8 0, .int .u8 0, .int .u8 0, .int .u16 0, .int .u16 0] 24 (0, 0)) ∧ Keeps [] w wr) (fun _ i _ => 12 - (intOf i).toNat)
  case atStart => exact ⟨1, rfl, rfl, by omega, by omega, fun g h1 h2 => by omega, HX.out, HK.out⟩
  case round =>
    obtain ⟨f, rfl, rfl, f1, f12, hnb, hb, hkp⟩ := hrel
    have HB := Lib.hid hb; have HNB := Lib.hid hnb
    by_cases hf : f < 12
    · clear hb hnb
      have hof := fun w => Of_any w f (by omega) (by omega)
      generalize hNM : bs (opNm f) = NM at *
      have HNM := Lib.hid hNM; clear hNM
      generalize opM f = M at *
      generalize hFK : opK f = FK at *
      generalize hFA : opA f = FA at *
      generalize hFB : opB f = FB at *
      have HFK := Lib.hid hFK; have HFA := Lib.hid hFA; have HFB := Lib.hid hFB; clear hFK hFA hFB
      generalize opIs f = IS at *
      go_wp2_with fail
      refine (hof _).mono ?_; rintro e w1 ⟨rfl, hk1⟩
      have hb1 := hk1.heap HB.out (by simp)
      have hq2 := heap_alloc_new w1 (.cells #[.int .i64 M, .string NM, .bool FK, .bool FA, .bool FB] 116)
      have hb2 := heap_alloc_lt (o := .cells #[.int .i64 M, .string NM, .bool FK, .bool FA, .bool FB] 116) hb1
      have hk2 := (hkp.trans hk1 (FSub.refl _ _)).alloc (.cells #[.int .i64 M, .string NM, .bool FK, .bool FA, .bool FB] 116)
      have hlt := lt_of_block hb1
      have HQ := Lib.hid hq2; have HB2 := Lib.hid hb2; have HK2 := Lib.hid hk2; have HLT := Lib.hid hlt
      clear hq2 hb2 hk2 hb1 hk1 hkp HB hof hlt
      go_wp2_with fail
      generalize w1.alloc (.cells #[.int .i64 M, .string NM, .bool FK, .bool FA, .bool FB] 116) = W2 at *
      by_cases hl2 : l.length < 2
      · have z1 : (l.length : Int) < 2 := by omega
        have z2 : decide ((l.length : Int) < 2) = true := by simpa using z1
        go_quiet (fail)
        go_wp2_with fail
        go_roundw
        case rel => exact ⟨f + 1, rfl, by go_num, by omega, by omega, HNB.out.next (fun h => by omega), HB2.out, HK2.out.drewN _⟩
        case measure => simp [intOf]; omega
      · obtain ⟨bk, o, rfl, hbN, hcells⟩ := HH.out (fun e => by rw [e] at hl2; simp at hl2)
        have z1 : ¬ (l.length : Int) < 2 := by omega
        have z2 : decide ((l.length : Int) < 2) = false := by simpa using z1
        have z3 : (1 : Int) < (l.length : Int) := by omega
        have h1 := HK2.out.cell (hcells 1 (by omega)) (by simp)
        obtain ⟨q0, q1, q2, q3, q4, ql⟩ := cell5 HQ.out
        have HCS := Lib.hid hcells
        by_cases hnm : l.getD 1 [] = opNm f
        · have t1 : ((bs (l.getD 1 [])).toList == NM.toList) = true := by
            rw [← HNM.out, toL_bs, toL_bs]; simpa using hnm
          have HNN := Lib.hid hnm
          clear hnm hcells
          generalize bs (l.getD 1 []) = S1 at *
          obtain ⟨i0, hi, hz0, hz1, hz2⟩ := info_parts Tryz.infoI
          have HI := Lib.hid hi
          clear hi HNB HH HX HK HNM
          go_quiet (fail)
          clear t1 h1 z1 z2
          go_wp2_with fail
          clear q0 q1 q2 q3 q4 ql
          go_loopw [7, 8, 9] (fun n i _ W => ∃ j : Nat, i = .int .i64 j ∧ j ≤ l.length ∧ PAt w w1 W 3 (.cells #[.int .u8 0, .int .u8 0, .int .u8 0, .int .u16 0, .int .u16 0] 24 (0, 0)) (.cells #[.int .i64 M, .string NM, .bool FK, .bool FA, .bool FB] 116 (0, 0)) n ((numL l (numCnt j)).map (.int .i64))) (fun _ i _ _ => l.length - (intOf i).toNat)
          case atStart => exact ⟨0, rfl, by omega, ⟨HB2.out, HQ.out, HK2.out.drewN _, row_none _ _, by simp [own, Value.ownBlock], HLT.out⟩⟩
          case round =>
            obtain ⟨j, rfl, hj, hp⟩ := hrel
            have HP := Lib.hid hp; clear hp
            by_cases hjl : j < l.length
            · have hjz : (j : Int) < (l.length : Int) := by omega
              by_cases hj1 : j = 1
              · subst hj1
                go_wp2_with fail
                go_roundw
                case rel => exact ⟨2, rfl, by omega, by rw [numL_one]; exact HP.out⟩
                case measure => simp [intOf]; omega
              · have hcj := HP.out.keeps.cell (HCS.out j hjl) (by simp)
                have hnum := fun w => r4Number_any w (l.getD j []) (by rw [bs_size]; have := hw j; omega)
                obtain ⟨st1, st2⟩ := numL_step l j hj1
                have HST := Lib.hid st1; have HS2 := Lib.hid st2
                clear st1 st2
                generalize bs (l.getD j []) = SJ at *
                generalize wordNum (l.getD j []) = NJ at *
                have hj1z : ¬ (j : Int) = 1 := by omega
                have hj1w : ((j : Int) == 1) = false := by simpa using hj1z
                go_wp2_with fail
                refine (hnum _).mono ?_; rintro e w5 ⟨rfl, rfl⟩
                clear hnum hcj
                have hcl : ((numL l (numCnt j)).map (Value.int .i64)).length ≤ 90000 := by
                  rw [List.length_map, numL_len]; unfold numCnt; split <;> (try split) <;> omega
                go_wp2_with (at_builtin; refine wpList_append_sharp _ rfl _ _ 123 rfl 3 i0 (.int .i64 0) 8 Tryz.underlying123 HI.out hz0 hz1 hz2 rfl _ _ _ rfl (HP.out.row.alloc _) ⟨_, 0, none⟩ 1 1 [.int .i64 NJ] rfl rfl ?c1 ?c2 ?c3 ?c4 ?_)
                case c1 => exact one_at (by simp) _ _
                case c2 => intro u hu; simp at hu; subst hu; rfl
                case c3 => unfold maxLen; omega
                case c4 => omega
                intro v2 w6 ho hq hs hn
                have HP2 := Lib.hid (HP.out.step2 hq ho hs (by simp))
                clear ho hq hs hn HP hcl
                go_wp2_with fail
                go_roundw
                case rel => exact ⟨j + 1, by go_num, by omega, by rw [HST.out, List.map_append]; exact HP2.out⟩
                case measure => simp [intOf]; omega
            · obtain rfl : j = l.length := by omega
              have hcn : numCnt l.length = l.length - 1 := by unfold numCnt; rw [if_neg (by omega), if_neg (by omega)]
              have hrow : ∃ g cap, u7 = Value.slice (some ⟨g, 0, none⟩) (l.length - 1) cap ∧ l.length - 1 ≤ cap ∧ cap ≤ 9223372036854775807 ∧ ∀ j, j < l.length - 1 → wr.cell? ⟨g, j, none⟩ = some (.int .i64 (numAt l j)) := by
                have hr := HP.out.row
                rw [List.length_map, numL_len, hcn] at hr
                obtain ⟨g, cap, e, h1, h2, h3⟩ := row_ints hr (by omega) (numL_len _ _)
                exact ⟨g, cap, e, h1, h2, fun j hj => by rw [h3 j hj, numL_getD _ _ _ hj]⟩
              obtain ⟨g, ncap, rfl, hnc, hnm2, hnums⟩ := hrow
              have HNU := Lib.hid hnums
              have hjl0 : ¬ (l.length : Int) < (l.length : Int) := by omega
              clear HB2 HQ HK2 HCS hnums
              go_wp2_with fail
              go_loopw [10, 11] (fun x i W => ∃ k : Nat, i = .int .i64 k ∧ k ≤ 3 ∧ x = .int .i64 (needAt FK FA FB k) ∧ W = wr) (fun _ i _ => 3 - (intOf i).toNat)
              case atStart => exact ⟨0, rfl, by omega, rfl, rfl⟩
              case round =>
                obtain ⟨k, rfl, hk3, rfl, rfl⟩ := hrel
                obtain ⟨q0, q1, q2, q3, q4, ql⟩ := cell5 HP.out.qb
                by_cases hk : k < 3
                · clear HRX HRE
                  rcases (by omega : k = 0 ∨ k = 1 ∨ k = 2) with rfl | rfl | rfl
                  · have e0 := needAt_b FK FA FB 0
                    generalize hN0 : needAt FK FA FB 0 = N0 at *
                    cases FK with
                    | false =>
                      have ST := Lib.hid (show needAt false FA FB 1 = N0 from by rw [← hN0]; simp [needAt])
                      clear hN0
                      go_wp2_with fail
                      go_roundw
                      case rel => exact ⟨1, rfl, by omega, by rw [ST.out], by first | rfl | trivial⟩
                      case measure => simp [intOf]
                    | true =>
                      have ST := Lib.hid (show needAt true FA FB 1 = N0 + 1 from by rw [← hN0]; simp [needAt]; try omega)
                      clear hN0
                      go_wp2_with fail
                      go_roundw
                      case rel => exact ⟨1, rfl, by omega, by rw [ST.out], by first | rfl | trivial⟩
                      case measure => simp [intOf]
                  · have e0 := needAt_b FK FA FB 1
                    generalize hN0 : needAt FK FA FB 1 = N0 at *
                    cases FA with
                    | false =>
                      have ST := Lib.hid (show needAt FK false FB 2 = N0 from by rw [← hN0]; simp [needAt])
                      clear hN0
                      go_wp2_with fail
                      go_roundw
                      case rel => exact ⟨2, rfl, by omega, by rw [ST.out], by first | rfl | trivial⟩
                      case measure => simp [intOf]
                    | true =>
                      have ST := Lib.hid (show needAt FK true FB 2 = N0 + 1 from by rw [← hN0]; simp [needAt]; try omega)
                      clear hN0
                      go_wp2_with fail
                      go_roundw
                      case rel => exact ⟨2, rfl, by omega, by rw [ST.out], by first | rfl | trivial⟩
                      case measure => simp [intOf]
                  · have e0 := needAt_b FK FA FB 2
                    generalize hN0 : needAt FK FA FB 2 = N0 at *
                    cases FB with
                    | false =>
                      have ST := Lib.hid (show needAt FK FA false 3 = N0 from by rw [← hN0]; simp [needAt])
                      clear hN0
                      go_wp2_with fail
                      go_roundw
                      case rel => exact ⟨3, rfl, by omega, by rw [ST.out], by first | rfl | trivial⟩
                      case measure => simp [intOf]
                    | true =>
                      have ST := Lib.hid (show needAt FK FA true 3 = N0 + 1 from by rw [← hN0]; simp [needAt]; try omega)
                      clear hN0
                      go_wp2_with fail
                      go_roundw
                      case rel => exact ⟨3, rfl, by omega, by rw [ST.out], by first | rfl | trivial⟩
                      case measure => simp [intOf]
                · obtain rfl : k = 3 := by omega
                  have hwn := needAt_wn (f : Int)
                  rw [HFK.out, HFA.out, HFB.out] at hwn
                  have e0 := needAt_b FK FA FB 3
                  generalize needAt FK FA FB 3 = N at *
                  have his : opIs (f : Int) = true := by simp [opIs]; omega
                  by_cases hne : ((l.length - 1 : Nat) : Int) = N
                  · subst hne
                    have HWN := Lib.hid hwn; have HIS := Lib.hid his
                    clear hwn his e0
                    go_wp2_with fail
                    clear q0 q1 q2 q3 q4 ql
                    go_loopw [3, 12] (fun r i W => ∃ k : Nat, r = .int .i64 0 ∧ i = .int .i64 k ∧ k ≤ l.length - 1 ∧ GoodTo l FK k ∧ W = wr) (fun _ i _ => l.length - (intOf i).toNat)
                    case atStart => exact ⟨0, rfl, rfl, by omega, fun j hj => by omega, rfl⟩
                    case round =>
                      obtain ⟨k, rfl, rfl, hk4, hgt, rfl⟩ := hrel
                      have HGT := Lib.hid hgt; clear hgt
                      obtain ⟨q0, q1, q2, q3, q4, ql⟩ := cell5 HP.out.qb
                      by_cases hkl : k < l.length - 1
                      · have hkz : (k : Int) < ((l.length - 1 : Nat) : Int) := by omega
                        have hv := HNU.out k hkl
                        have vb := numAt_b l k
                        have hwk : numAt l k = wordNum (l.getD (if k = 0 then 0 else k + 1) []) := rfl
                        have HWK := Lib.hid hwk; clear hwk
                        generalize hV : numAt l k = V at *
                        have HV := Lib.hid hV; clear hV
                        by_cases v0 : V < 0
                        · obtain ⟨e1, e2⟩ := none_said HNN.out HIS.out (fun h => by
                            have h1 := h.num (if k = 0 then 0 else k + 1) (by split <;> omega) (by split <;> omega)
                            rw [← HWK.out] at h1
                            omega)
                          obtain rfl := HRX.out.symm.trans e1
                          obtain rfl := HRE.out.symm.trans e2
                          obtain ⟨c0, c1, c2, c3, c4, cl⟩ := cell5 HP.out.xb
                          obtain ⟨d0, d1, d2, d3, d4⟩ := thaw5 HP.out.xb
                          have HXB := Lib.hid HP.out.xb; have HKP := Lib.hid HP.out.keeps
                          clear HRX HRE e1 e2
                          go_wp2_with fail
                          try simp only [Exit.inBlock, Exit.then]
                          exact bodyPost_ret (results_op2 rfl _ _ _ rfl (put5 HXB.out _ _ _ _ _)) rfl ⟨rfl, HKP.out.set5 (b := w.heap.size) (.inr (Nat.le_refl _)) _ _ _ _ _⟩
                        · rcases (by omega : k = 0 ∨ k = 1 ∨ 2 ≤ k) with rfl | rfl | k2
                          · by_cases v7 : 7 < V
                            · obtain ⟨e1, e2⟩ := none_said HNN.out HIS.out (fun h => by
                                have h1 := h.o
                                have h2 := HWK.out
                                rw [if_pos rfl] at h2
                                omega)
                              obtain rfl := HRX.out.symm.trans e1
                              obtain rfl := HRE.out.symm.trans e2
                              obtain ⟨c0, c1, c2, c3, c4, cl⟩ := cell5 HP.out.xb
                              obtain ⟨d0, d1, d2, d3, d4⟩ := thaw5 HP.out.xb
                              have HXB := Lib.hid HP.out.xb; have HKP := Lib.hid HP.out.keeps
                              clear HRX HRE e1 e2
                              go_wp2_with fail
                              try simp only [Exit.inBlock, Exit.then]
                              exact bodyPost_ret (results_op2 rfl _ _ _ rfl (put5 HXB.out _ _ _ _ _)) rfl ⟨rfl, HKP.out.set5 (b := w.heap.size) (.inr (Nat.le_refl _)) _ _ _ _ _⟩
                            · go_wp2_with fail
                              go_roundw
                              case rel => exact ⟨1, rfl, rfl, by omega, HGT.out.next (by rw [HV.out]; omega) (fun _ => by rw [HV.out]; omega) (fun h => by omega), by first | rfl | trivial⟩
                              case measure => simp [intOf]; omega
                          · cases FK with
                            | false =>
                              go_wp2_with fail
                              go_roundw
                              case rel => exact ⟨2, rfl, rfl, by omega, HGT.out.next (by rw [HV.out]; omega) (fun h => by omega) (fun _ h => by cases h), by first | rfl | trivial⟩
                              case measure => simp [intOf]; omega
                            | true =>
                              by_cases v7 : 7 < V
                              · obtain ⟨e1, e2⟩ := none_said HNN.out HIS.out (fun h => by
                                  have h1 := h.k HFK.out
                                  have h2 : V = wordNum (l.getD 2 []) := HWK.out.trans rfl
                                  omega)
                                obtain rfl := HRX.out.symm.trans e1
                                obtain rfl := HRE.out.symm.trans e2
                                obtain ⟨c0, c1, c2, c3, c4, cl⟩ := cell5 HP.out.xb
                                obtain ⟨d0, d1, d2, d3, d4⟩ := thaw5 HP.out.xb
                                have HXB := Lib.hid HP.out.xb; have HKP := Lib.hid HP.out.keeps
                                clear HRX HRE e1 e2
                                go_wp2_with fail
                                try simp only [Exit.inBlock, Exit.then]
                                exact bodyPost_ret (results_op2 rfl _ _ _ rfl (put5 HXB.out _ _ _ _ _)) rfl ⟨rfl, HKP.out.set5 (b := w.heap.size) (.inr (Nat.le_refl _)) _ _ _ _ _⟩
                              · go_wp2_with fail
                                go_roundw
                                case rel => exact ⟨2, rfl, rfl, by omega, HGT.out.next (by rw [HV.out]; omega) (fun h => by omega) (fun _ _ => by rw [HV.out]; omega), by first | rfl | trivial⟩
                                case measure => simp [intOf]; omega
                          · have y0 : ((k : Int) == 0) = false := by simp; omega
                            have y1 : ((k : Int) == 1) = false := by simp; omega
                            go_wp2_with fail
                            go_roundw
                            case rel => exact ⟨k + 1, rfl, by go_num, by omega, HGT.out.next (by rw [HV.out]; omega) (fun h => by omega) (fun h => by omega), by first | rfl | trivial⟩
                            case measure => simp [intOf]; omega
                      · obtain rfl : k = l.length - 1 := by omega
                        have hsd := said_of HIS.out HNN.out (by have := HWN.out; omega) HFK.out HGT.out
                        exact absurd hsd (HNO.out _)
                  · obtain ⟨e1, e2⟩ := none_said HNN.out his (fun h => by have := h.len; omega)
                    clear hwn his
                    obtain rfl := HRX.out.symm.trans e1
                    obtain rfl := HRE.out.symm.trans e2
                    obtain ⟨c0, c1, c2, c3, c4, cl⟩ := cell5 HP.out.xb
                    obtain ⟨d0, d1, d2, d3, d4⟩ := thaw5 HP.out.xb
                    have HXB := Lib.hid HP.out.xb; have HKP := Lib.hid HP.out.keeps
                    clear HRX HRE e1 e2
                    go_wp2_with fail
                    try simp only [Exit.inBlock, Exit.then]
                    exact bodyPost_ret (results_op2 rfl _ _ _ rfl (put5 HXB.out _ _ _ _ _)) rfl ⟨rfl, HKP.out.set5 (b := w.heap.size) (.inr (Nat.le_refl _)) _ _ _ _ _⟩
        · have t1 : ((bs (l.getD 1 [])).toList == NM.toList) = false := by
            rw [← HNM.out, toL_bs, toL_bs]; simpa using hnm
          have HNN := Lib.hid hnm
          clear hnm
          generalize bs (l.getD 1 []) = S1 at *
          clear hcells
          go_quiet (fail)
          go_wp2_with fail
          go_roundw
          case rel => exact ⟨f + 1, rfl, by go_num, by omega, by omega, HNB.out.next (fun h => HNN.out h.2), HB2.out, HK2.out.drewN _⟩
          case measure => simp [intOf]; omega
    · obtain rfl : f = 12 := by omega
      obtain ⟨e1, e2⟩ := hnb.all
      obtain rfl := HRX.out.symm.trans e1
      obtain rfl := HRE.out.symm.trans e2
      obtain ⟨c0, c1, c2, c3, c4, cl⟩ := cell5 hb
      obtain ⟨d0, d1, d2, d3, d4⟩ := thaw5 hb
      have HXB := Lib.hid hb; have HKP := Lib.hid hkp
      clear hb hkp HB HNB hnb HX HK HH HRX HRE e1 e2
      go_wp2_with fail
      try simp only [Exit.inBlock, Exit.then]
      exact bodyPost_ret (results_op2 rfl _ _ _ rfl (put5 HXB.out _ _ _ _ _)) rfl ⟨rfl, HKP.out.set5 (b := w.heap.size) (.inr (Nat.le_refl _)) _ _ _ _ _⟩
end Go.Proofs.YtffldnjjijckcaaGreatDoor
