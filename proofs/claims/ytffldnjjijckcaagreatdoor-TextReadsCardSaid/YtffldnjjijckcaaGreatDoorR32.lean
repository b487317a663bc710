/-
  The document's Parse, where words say an operation.
-/
import Derived.Test.YtffldnjjijckcaaGreatDoorR30
set_option linter.unusedSimpArgs false
set_option linter.unusedVariables false
namespace Go.Proofs.YtffldnjjijckcaaGreatDoor
open Go.RowKit
set_option maxHeartbeats 8000000 in
set_option maxRecDepth 100000 in
theorem r4Parse_said (w : World) (v : Value) (l : List (List UInt8)) (F : Nat) (hsd : Said l F) (hs : Strs w.heap.size w v l) (hw : ∀ j, (l.getD j []).length ≤ 90000) (hlen : l.length ≤ 90000) :
    Calls Tryz.prog 36 #[v] w fun e w' => e = .returned (.tuple #[(saidOp l F).val, .int .i64 0]) ∧ Keeps [] w w' := by
  generalize hRX : (saidOp l F).val = RX at *
  have HRX := Lib.hid hRX; clear hRX
  have HSD := Lib.hid hsd; clear hsd
  obtain ⟨a, c, rfl, hc, hm, h⟩ := hs
  have F1 : 1 ≤ F ∧ F ≤ 11 := by have := HSD.out.is; simp [opIs] at this; omega
  obtain ⟨F1, F11⟩ := F1
  have hl2 : 2 ≤ l.length := by have := HSD.out.len; have := opWN_le F; omega
  obtain ⟨bk, o, rfl, hbN, hcells⟩ := h (fun e => by rw [e] at hl2; simp at hl2)
  have HCS := Lib.hid hcells
  clear h hcells
  have hk0 := (Keeps.refl [] w).alloc (.cells #[.int .u8 0, .int .u8 0, .int .u8 0, .int .u16 0, .int .u16 0] 24)
  have hX0 := heap_alloc_new w (.cells #[.int .u8 0, .int .u8 0, .int .u8 0, .int .u16 0, .int .u16 0] 24)
  have HX := Lib.hid hX0; have HK := Lib.hid hk0; clear hX0 hk0
  go_enter Tryz.func36, Tryz.ntmps36
  go_wp2_with fail
  go_loopw [3, 4] (fun r i wr => ∃ f : Nat, r = .int .i64 0 ∧ i = .int .u8 f ∧ 1 ≤ f ∧ f ≤ F ∧ wr.heap[w.heap.size]? = some (.cells #[.int .u8 0, .int .u8 0, .int .u8 0, .int .u16 0, .int .u16 0] 24 (0, 0)) ∧ Keeps [] w wr) (fun _ i _ => 12 - (intOf i).toNat)
  case atStart => exact ⟨1, rfl, rfl, by omega, by omega, HX.out, HK.out⟩
  case round =>
    obtain ⟨f, rfl, rfl, f1, fF, hb, hkp⟩ := hrel
    have HB := Lib.hid hb
    clear hb
    have hof := fun w => Of_any w f (by omega) (by omega)
    generalize hNM : bs (opNm f) = NM at *
    have HNM := Lib.hid hNM; clear hNM
    generalize opM f = M at *
    generalize hFK : opK f = FK at *
    generalize hFA : opA f = FA at *
    generalize hFB : opB f = FB at *
    have HFK := Lib.hid hFK; have HFA := Lib.hid hFA; have HFB := Lib.hid hFB; clear hFK hFA hFB
    generalize opIs f = IS at *
    have his : opIs (f : Int) = true := by simp [opIs]; omega
    have HIS := Lib.hid his; clear his
    go_wp2_with fail
    refine (hof _).mono ?_; rintro e w1 ⟨rfl, hk1⟩
    have hb1 := hk1.heap HB.out (by simp)
    have hq2 := heap_alloc_new w1 (.cells #[.int .i64 M, .string NM, .bool FK, .bool FA, .bool FB] 116)
    have hb2 := heap_alloc_lt (o := .cells #[.int .i64 M, .string NM, .bool FK, .bool FA, .bool FB] 116) hb1
    have hk2 := (hkp.trans hk1 (FSub.refl _ _)).alloc (.cells #[.int .i64 M, .string NM, .bool FK, .bool FA, .bool FB] 116)
    have hlt := lt_of_block hb1
    have HQ := Lib.hid hq2; have HB2 := Lib.hid hb2; have HK2 := Lib.hid hk2; have HLT := Lib.hid hlt
    clear hq2 hb2 hk2 hb1 hk1 hkp HB hof hlt
    go_wp2_with fail
    generalize w1.alloc (.cells #[.int .i64 M, .string NM, .bool FK, .bool FA, .bool FB] 116) = W2 at *
    have z1 : ¬ (l.length : Int) < 2 := by omega
    have z2 : decide ((l.length : Int) < 2) = false := by simpa using z1
    have z3 : (1 : Int) < (l.length : Int) := by omega
    have h1 := HK2.out.cell (HCS.out 1 (by omega)) (by simp)
    obtain ⟨q0, q1, q2, q3, q4, ql⟩ := cell5 HQ.out
    by_cases hfF : f < F
    · have t1 : ((bs (l.getD 1 [])).toList == NM.toList) = false := by
        have hne : ¬ l.getD 1 [] = opNm f := fun e => by
          have e1 := named_of HSD.out.is HSD.out.nm.symm
          have e2 := named_of HIS.out e.symm
          have e3 := e1.symm.trans e2
          omega
        rw [← HNM.out, toL_bs, toL_bs]; simpa using hne
      generalize bs (l.getD 1 []) = S1 at *
      clear HRX
      go_quiet (fail)
      go_wp2_with fail
      go_roundw
      case rel => exact ⟨f + 1, rfl, by go_num, by omega, by omega, HB2.out, HK2.out.drewN _⟩
      case measure => simp [intOf]; omega
    · obtain rfl : f = F := by omega
      have t1 : ((bs (l.getD 1 [])).toList == NM.toList) = true := by
        rw [← HNM.out, toL_bs, toL_bs]; simpa using HSD.out.nm
      generalize bs (l.getD 1 []) = S1 at *
      obtain ⟨i0, hi, hz0, hz1, hz2⟩ := info_parts Tryz.infoI
      have HI := Lib.hid hi
      clear hi HX HK HNM
      go_quiet (fail)
      clear t1 h1 z1 z2
      go_wp2_with fail
      clear q0 q1 q2 q3 q4 ql
      go_loopw [7, 8, 9] (fun n i _ W => ∃ j : Nat, i = .int .i64 j ∧ j ≤ l.length ∧ PAt w w1 W 3 (.cells #[.int .u8 0, .int .u8 0, .int .u8 0, .int .u16 0, .int .u16 0] 24 (0, 0)) (.cells #[.int .i64 M, .string NM, .bool FK, .bool FA, .bool FB] 116 (0, 0)) n ((numL l (numCnt j)).map (.int .i64))) (fun _ i _ _ => l.length - (intOf i).toNat)
      case atStart => exact ⟨0, rfl, by omega, ⟨HB2.out, HQ.out, HK2.out.drewN _, row_none _ _, by simp [own, Value.ownBlock], HLT.out⟩⟩
      case round =>
        obtain ⟨j, rfl, hj, hp⟩ := hrel
        have HP := Lib.hid hp; clear hp
        by_cases hjl : j < l.length
        · have hjz : (j : Int) < (l.length : Int) := by omega
          by_cases hj1 : j = 1
          · subst hj1
            go_wp2_with fail
            go_roundw
            case rel => exact ⟨2, rfl, by omega, by rw [numL_one]; exact HP.out⟩
            case measure => simp [intOf]; omega
          · have hcj := HP.out.keeps.cell (HCS.out j hjl) (by simp)
            have hnum := fun w => r4Number_any w (l.getD j []) (by rw [bs_size]; have := hw j; omega)
            obtain ⟨st1, st2⟩ := numL_step l j hj1
            have HST := Lib.hid st1; have HS2 := Lib.hid st2
            clear st1 st2
            generalize bs (l.getD j []) = SJ at *
            generalize wordNum (l.getD j []) = NJ at *
            have hj1z : ¬ (j : Int) = 1 := by omega
            have hj1w : ((j : Int) == 1) = false := by simpa using hj1z
            go_wp2_with fail
            refine (hnum _).mono ?_; rintro e w5 ⟨rfl, rfl⟩
            clear hnum hcj
            have hcl : ((numL l (numCnt j)).map (Value.int .i64)).length ≤ 90000 := by
              rw [List.length_map, numL_len]; unfold numCnt; split <;> (try split) <;> omega
            go_wp2_with (at_builtin; refine wpList_append_sharp _ rfl _ _ 123 rfl 3 i0 (.int .i64 0) 8 Tryz.underlying123 HI.out hz0 hz1 hz2 rfl _ _ _ rfl (HP.out.row.alloc _) ⟨_, 0, none⟩ 1 1 [.int .i64 NJ] rfl rfl ?c1 ?c2 ?c3 ?c4 ?_)
            case c1 => exact one_at (by simp) _ _
            case c2 => intro u hu; simp at hu; subst hu; rfl
            case c3 => unfold maxLen; omega
            case c4 => omega
            intro v2 w6 ho hq hs hn
            have HP2 := Lib.hid (HP.out.step2 hq ho hs (by simp))
            clear ho hq hs hn HP hcl
            go_wp2_with fail
            go_roundw
            case rel => exact ⟨j + 1, by go_num, by omega, by rw [HST.out, List.map_append]; exact HP2.out⟩
            case measure => simp [intOf]; omega
        · obtain rfl : j = l.length := by omega
          have hcn : numCnt l.length = l.length - 1 := by unfold numCnt; rw [if_neg (by omega), if_neg (by omega)]
          have hrow : ∃ g cap, u7 = Value.slice (some ⟨g, 0, none⟩) (l.length - 1) cap ∧ l.length - 1 ≤ cap ∧ cap ≤ 9223372036854775807 ∧ ∀ j, j < l.length - 1 → wr.cell? ⟨g, j, none⟩ = some (.int .i64 (numAt l j)) := by
            have hr := HP.out.row
            rw [List.length_map, numL_len, hcn] at hr
            obtain ⟨g, cap, e, h1, h2, h3⟩ := row_ints hr (by omega) (numL_len _ _)
            exact ⟨g, cap, e, h1, h2, fun j hj => by rw [h3 j hj, numL_getD _ _ _ hj]⟩
          obtain ⟨g, ncap, rfl, hnc, hnm2, hnums⟩ := hrow
          have HNU := Lib.hid hnums
          have hjl0 : ¬ (l.length : Int) < (l.length : Int) := by omega
          clear HB2 HQ HK2 HCS hnums
          go_wp2_with fail
          go_loopw [10, 11] (fun x i W => ∃ k : Nat, i = .int .i64 k ∧ k ≤ 3 ∧ x = .int .i64 (needAt FK FA FB k) ∧ W = wr) (fun _ i _ => 3 - (intOf i).toNat)
          case atStart => exact ⟨0, rfl, by omega, rfl, rfl⟩
          case round =>
            obtain ⟨k, rfl, hk3, rfl, rfl⟩ := hrel
            obtain ⟨q0, q1, q2, q3, q4, ql⟩ := cell5 HP.out.qb
            by_cases hk : k < 3
            · clear HRX HSD
              rcases (by omega : k = 0 ∨ k = 1 ∨ k = 2) with rfl | rfl | rfl
              · have e0 := needAt_b FK FA FB 0
                generalize hN0 : needAt FK FA FB 0 = N0 at *
                cases FK with
                | false =>
                  have ST := Lib.hid (show needAt false FA FB 1 = N0 from by rw [← hN0]; simp [needAt])
                  clear hN0
                  go_wp2_with fail
                  go_roundw
                  case rel => exact ⟨1, rfl, by omega, by rw [ST.out], by first | rfl | trivial⟩
                  case measure => simp [intOf]
                | true =>
                  have ST := Lib.hid (show needAt true FA FB 1 = N0 + 1 from by rw [← hN0]; simp [needAt]; try omega)
                  clear hN0
                  go_wp2_with fail
                  go_roundw
                  case rel => exact ⟨1, rfl, by omega, by rw [ST.out], by first | rfl | trivial⟩
                  case measure => simp [intOf]
              · have e0 := needAt_b FK FA FB 1
                generalize hN0 : needAt FK FA FB 1 = N0 at *
                cases FA with
                | false =>
                  have ST := Lib.hid (show needAt FK false FB 2 = N0 from by rw [← hN0]; simp [needAt])
                  clear hN0
                  go_wp2_with fail
                  go_roundw
                  case rel => exact ⟨2, rfl, by omega, by rw [ST.out], by first | rfl | trivial⟩
                  case measure => simp [intOf]
                | true =>
                  have ST := Lib.hid (show needAt FK true FB 2 = N0 + 1 from by rw [← hN0]; simp [needAt]; try omega)
                  clear hN0
                  go_wp2_with fail
                  go_roundw
                  case rel => exact ⟨2, rfl, by omega, by rw [ST.out], by first | rfl | trivial⟩
                  case measure => simp [intOf]
              · have e0 := needAt_b FK FA FB 2
                generalize hN0 : needAt FK FA FB 2 = N0 at *
                cases FB with
                | false =>
                  have ST := Lib.hid (show needAt FK FA false 3 = N0 from by rw [← hN0]; simp [needAt])
                  clear hN0
                  go_wp2_with fail
                  go_roundw
                  case rel => exact ⟨3, rfl, by omega, by rw [ST.out], by first | rfl | trivial⟩
                  case measure => simp [intOf]
                | true =>
                  have ST := Lib.hid (show needAt FK FA true 3 = N0 + 1 from by rw [← hN0]; simp [needAt]; try omega)
                  clear hN0
                  go_wp2_with fail
                  go_roundw
                  case rel => exact ⟨3, rfl, by omega, by rw [ST.out], by first | rfl | trivial⟩
                  case measure => simp [intOf]
            · obtain rfl : k = 3 := by omega
              have hwn := needAt_wn (f : Int)
              rw [HFK.out, HFA.out, HFB.out] at hwn
              have hne : ((l.length - 1 : Nat) : Int) = needAt FK FA FB 3 := by have := HSD.out.len; omega
              generalize needAt FK FA FB 3 = N at *
              subst hne
              clear hwn
              go_wp2_with fail
              clear q0 q1 q2 q3 q4 ql
              go_loopw [3, 12] (fun r i W => ∃ k : Nat, r = .int .i64 0 ∧ i = .int .i64 k ∧ k ≤ l.length - 1 ∧ W = wr) (fun _ i _ => l.length - (intOf i).toNat)
              case atStart => exact ⟨0, rfl, rfl, by omega, rfl⟩
              case round =>
                obtain ⟨k, rfl, rfl, hk4, rfl⟩ := hrel
                obtain ⟨q0, q1, q2, q3, q4, ql⟩ := cell5 HP.out.qb
                by_cases hkl : k < l.length - 1
                · have hkz : (k : Int) < ((l.length - 1 : Nat) : Int) := by omega
                  have hv := HNU.out k hkl
                  have vb := numAt_b l k
                  have v0 : ¬ numAt l k < 0 := by
                    have h1 := HSD.out.num (if k = 0 then 0 else k + 1) (by split <;> omega) (by split <;> omega)
                    unfold numAt; omega
                  have v0' : 0 ≤ numAt l k := by omega
                  have v7 : (k = 0 → ¬ 7 < numAt l k) ∧ (k = 1 → FK = true → ¬ 7 < numAt l k) := by
                    refine ⟨fun h => ?_, fun h hk => ?_⟩
                    · subst h; have := HSD.out.o; unfold numAt; simp only [if_true]; omega
                    · subst h; have := HSD.out.k (by rw [HFK.out]; exact hk); show ¬ 7 < wordNum (l.getD 2 []); omega
                  obtain ⟨v70, v71⟩ := v7
                  generalize numAt l k = V at *
                  clear HSD HRX
                  rcases (by omega : k = 0 ∨ k = 1 ∨ 2 ≤ k) with rfl | rfl | k2
                  · replace v70 := v70 rfl
                    clear v71
                    go_wp2_with fail
                    go_roundw
                    case rel => exact ⟨1, rfl, rfl, by omega, by first | rfl | trivial⟩
                    case measure => simp [intOf]; omega
                  · clear v70
                    rcases bool_two FK with rfl | rfl
                    · replace v71 := v71 rfl rfl
                      go_wp2_with fail
                      go_roundw
                      case rel => exact ⟨2, rfl, rfl, by omega, by first | rfl | trivial⟩
                      case measure => simp [intOf]; omega
                    · clear v71
                      go_wp2_with fail
                      go_roundw
                      case rel => exact ⟨2, rfl, rfl, by omega, by first | rfl | trivial⟩
                      case measure => simp [intOf]; omega
                  · have y0 : ((k : Int) == 0) = false := by simp; omega
                    have y1 : ((k : Int) == 1) = false := by simp; omega
                    clear v70 v71
                    go_wp2_with fail
                    go_roundw
                    case rel => exact ⟨k + 1, rfl, by go_num, by omega, by first | rfl | trivial⟩
                    case measure => simp [intOf]; omega
                · obtain rfl : k = l.length - 1 := by omega
                  have y0 : ¬ ((l.length - 1 : Nat) : Int) < ((l.length - 1 : Nat) : Int) := by omega
                  have n0 := HNU.out 0 (by omega)
                  have gl : g < wr.heap.size := World.block_lt_of_cell? _ _ n0
                  have g0 : 0 ≤ numAt l 0 ∧ numAt l 0 ≤ 7 := by have h1 := HSD.out.num 0 (by omega) (by omega); have h2 := HSD.out.o; show 0 ≤ wordNum (l.getD 0 []) ∧ wordNum (l.getD 0 []) ≤ 7; omega
                  have w0 : IntKind.u8.wrap (numAt l 0) = numAt l 0 := by simp [IntKind.wrap, IntKind.bits, IntKind.signed]; omega
                  have hRX := HRX.out
                  have hL := HSD.out.len
                  unfold saidOp opWB opWA Opn.val at hRX
                  unfold opWN opWB opWA at hL
                  rw [HFK.out, HFA.out, HFB.out] at hRX hL
                  have e0 : wordNum (l.getD 0 []) = numAt l 0 := rfl
                  rw [e0] at hRX
                  clear e0 HRX
                  have ways := need_ways HIS.out
                  rw [HFK.out, HFA.out, HFB.out] at ways
                  have xk : ∀ j, wordNum (l.getD (j + 2) []) = numAt l (j + 1) := fun j => rfl
                  have e1 : wordNum (l.getD 2 []) = numAt l 1 := rfl
                  have e2 : wordNum (l.getD 3 []) = numAt l 2 := rfl
                  have e3 : wordNum (l.getD 4 []) = numAt l 3 := rfl
                  have k7 := HSD.out.k
                  rw [HFK.out, e1] at k7
                  obtain ⟨c0, c1, c2, c3, c4, cl⟩ := cell5 HP.out.xb
                  obtain ⟨d0, d1, d2, d3, d4⟩ := thaw5 HP.out.xb
                  clear xk HFK HFA HFB
                  rcases ways with ⟨rfl, rfl, rfl⟩ | ⟨rfl, rfl, rfl⟩ | ⟨rfl, rfl, rfl⟩ | ⟨rfl, rfl, rfl⟩ | ⟨rfl, rfl, rfl⟩ | ⟨rfl, rfl, rfl⟩ <;> simp only [if_true, if_false, Bool.false_eq_true, Nat.add_zero, Nat.reduceAdd] at hRX hL
                  · have hN : l.length - 1 = 1 := by omega
                    have HR := Lib.hid hRX
                    rw [hN] at *
                    clear hL hRX hN HSD HNU z3 hcn e1 e2 e3 k7
                    generalize numAt l 0 = V0 at *
                    generalize numAt l 1 = V1 at *
                    generalize numAt l 2 = V2 at *
                    generalize numAt l 3 = V3 at *
                    go_wp2_with fail
                    try simp only [Exit.inBlock, Exit.then]
                    all_goals exact bodyPost_ret (results_op2 rfl _ _ _ rfl (heap_alloc_lt (put5 HP.out.xb _ _ _ _ _))) rfl ⟨by rw [← HR.out]; rfl, (HP.out.keeps.set5 (b := w.heap.size) (.inr (Nat.le_refl _)) _ _ _ _ _).alloc _⟩
                  · have hN : l.length - 1 = 2 := by omega
                    have n1 := HNU.out 1 (by omega)
                    have b1 : 0 ≤ numAt l 1 ∧ numAt l 1 ≤ 65535 := ⟨HSD.out.num 2 (by omega) (by omega), (numAt_b l 1).2⟩
                    have w1' : IntKind.u16.wrap (numAt l 1) = numAt l 1 := by simp [IntKind.wrap, IntKind.bits, IntKind.signed]; omega
                    rw [e1] at hRX
                    have hcap1 : ¬ ncap = 1 := by omega
                    have HR := Lib.hid hRX
                    rw [hN] at *
                    clear hL hRX hN HSD HNU z3 hcn e1 e2 e3 k7
                    generalize numAt l 0 = V0 at *
                    generalize numAt l 1 = V1 at *
                    generalize numAt l 2 = V2 at *
                    generalize numAt l 3 = V3 at *
                    go_wp2_with fail
                    try simp only [Exit.inBlock, Exit.then]
                    all_goals exact bodyPost_ret (results_op2 rfl _ _ _ rfl (heap_alloc_lt (put5 HP.out.xb _ _ _ _ _))) rfl ⟨by rw [← HR.out]; rfl, (HP.out.keeps.set5 (b := w.heap.size) (.inr (Nat.le_refl _)) _ _ _ _ _).alloc _⟩
                  · have hN : l.length - 1 = 3 := by omega
                    have n1 := HNU.out 1 (by omega)
                    have b1 : 0 ≤ numAt l 1 ∧ numAt l 1 ≤ 65535 := ⟨HSD.out.num 2 (by omega) (by omega), (numAt_b l 1).2⟩
                    have w1' : IntKind.u16.wrap (numAt l 1) = numAt l 1 := by simp [IntKind.wrap, IntKind.bits, IntKind.signed]; omega
                    have n2 := HNU.out 2 (by omega)
                    have b2 : 0 ≤ numAt l 2 ∧ numAt l 2 ≤ 65535 := ⟨HSD.out.num 3 (by omega) (by omega), (numAt_b l 2).2⟩
                    have w2' : IntKind.u16.wrap (numAt l 2) = numAt l 2 := by simp [IntKind.wrap, IntKind.bits, IntKind.signed]; omega
                    rw [e1, e2] at hRX
                    have hcap1 : ¬ ncap = 1 := by omega
                    have hcap2 : ¬ ncap = 2 := by omega
                    have hcaq2 : ¬ ncap - 1 = 1 := by omega
                    have hcar2 : 2 ≤ ncap := by omega
                    have HR := Lib.hid hRX
                    rw [hN] at *
                    clear hL hRX hN HSD HNU z3 hcn e1 e2 e3 k7
                    generalize numAt l 0 = V0 at *
                    generalize numAt l 1 = V1 at *
                    generalize numAt l 2 = V2 at *
                    generalize numAt l 3 = V3 at *
                    go_wp2_with fail
                    try simp only [Exit.inBlock, Exit.then]
                    all_goals exact bodyPost_ret (results_op2 rfl _ _ _ rfl (heap_alloc_lt (put5 HP.out.xb _ _ _ _ _))) rfl ⟨by rw [← HR.out]; rfl, (HP.out.keeps.set5 (b := w.heap.size) (.inr (Nat.le_refl _)) _ _ _ _ _).alloc _⟩
                  · have hN : l.length - 1 = 2 := by omega
                    have n1 := HNU.out 1 (by omega)
                    have b1 : 0 ≤ numAt l 1 ∧ numAt l 1 < 8 := ⟨HSD.out.num 2 (by omega) (by omega), k7 rfl⟩
                    have w1' : IntKind.u8.wrap (numAt l 1) = numAt l 1 := by simp [IntKind.wrap, IntKind.bits, IntKind.signed]; omega
                    rw [e1] at hRX
                    have hcap1 : ¬ ncap = 1 := by omega
                    have HR := Lib.hid hRX
                    rw [hN] at *
                    clear hL hRX hN HSD HNU z3 hcn e1 e2 e3 k7
                    generalize numAt l 0 = V0 at *
                    generalize numAt l 1 = V1 at *
                    generalize numAt l 2 = V2 at *
                    generalize numAt l 3 = V3 at *
                    go_wp2_with fail
                    try simp only [Exit.inBlock, Exit.then]
                    all_goals exact bodyPost_ret (results_op2 rfl _ _ _ rfl (heap_alloc_lt (put5 HP.out.xb _ _ _ _ _))) rfl ⟨by rw [← HR.out]; rfl, (HP.out.keeps.set5 (b := w.heap.size) (.inr (Nat.le_refl _)) _ _ _ _ _).alloc _⟩
                  · have hN : l.length - 1 = 3 := by omega
                    have n1 := HNU.out 1 (by omega)
                    have b1 : 0 ≤ numAt l 1 ∧ numAt l 1 < 8 := ⟨HSD.out.num 2 (by omega) (by omega), k7 rfl⟩
                    have w1' : IntKind.u8.wrap (numAt l 1) = numAt l 1 := by simp [IntKind.wrap, IntKind.bits, IntKind.signed]; omega
                    have n2 := HNU.out 2 (by omega)
                    have b2 : 0 ≤ numAt l 2 ∧ numAt l 2 ≤ 65535 := ⟨HSD.out.num 3 (by omega) (by omega), (numAt_b l 2).2⟩
                    have w2' : IntKind.u16.wrap (numAt l 2) = numAt l 2 := by simp [IntKind.wrap, IntKind.bits, IntKind.signed]; omega
                    rw [e1, e2] at hRX
                    have hcap1 : ¬ ncap = 1 := by omega
                    have hcap2 : ¬ ncap = 2 := by omega
                    have hcaq2 : ¬ ncap - 1 = 1 := by omega
                    have hcar2 : 2 ≤ ncap := by omega
                    have HR := Lib.hid hRX
                    rw [hN] at *
                    clear hL hRX hN HSD HNU z3 hcn e1 e2 e3 k7
                    generalize numAt l 0 = V0 at *
                    generalize numAt l 1 = V1 at *
                    generalize numAt l 2 = V2 at *
                    generalize numAt l 3 = V3 at *
                    go_wp2_with fail
                    try simp only [Exit.inBlock, Exit.then]
                    all_goals exact bodyPost_ret (results_op2 rfl _ _ _ rfl (heap_alloc_lt (put5 HP.out.xb _ _ _ _ _))) rfl ⟨by rw [← HR.out]; rfl, (HP.out.keeps.set5 (b := w.heap.size) (.inr (Nat.le_refl _)) _ _ _ _ _).alloc _⟩
                  · have hN : l.length - 1 = 4 := by omega
                    have n1 := HNU.out 1 (by omega)
                    have b1 : 0 ≤ numAt l 1 ∧ numAt l 1 < 8 := ⟨HSD.out.num 2 (by omega) (by omega), k7 rfl⟩
                    have w1' : IntKind.u8.wrap (numAt l 1) = numAt l 1 := by simp [IntKind.wrap, IntKind.bits, IntKind.signed]; omega
                    have n2 := HNU.out 2 (by omega)
                    have b2 : 0 ≤ numAt l 2 ∧ numAt l 2 ≤ 65535 := ⟨HSD.out.num 3 (by omega) (by omega), (numAt_b l 2).2⟩
                    have w2' : IntKind.u16.wrap (numAt l 2) = numAt l 2 := by simp [IntKind.wrap, IntKind.bits, IntKind.signed]; omega
                    have n3 := HNU.out 3 (by omega)
                    have b3 : 0 ≤ numAt l 3 ∧ numAt l 3 ≤ 65535 := ⟨HSD.out.num 4 (by omega) (by omega), (numAt_b l 3).2⟩
                    have w3' : IntKind.u16.wrap (numAt l 3) = numAt l 3 := by simp [IntKind.wrap, IntKind.bits, IntKind.signed]; omega
                    rw [e1, e2, e3] at hRX
                    have hcap1 : ¬ ncap = 1 := by omega
                    have hcap2 : ¬ ncap = 2 := by omega
                    have hcaq2 : ¬ ncap - 1 = 1 := by omega
                    have hcar2 : 2 ≤ ncap := by omega
                    have hcap3 : ¬ ncap = 3 := by omega
                    have hcaq3 : ¬ ncap - 2 = 1 := by omega
                    have hcar3 : 3 ≤ ncap := by omega
                    have HR := Lib.hid hRX
                    rw [hN] at *
                    clear hL hRX hN HSD HNU z3 hcn e1 e2 e3 k7
                    generalize numAt l 0 = V0 at *
                    generalize numAt l 1 = V1 at *
                    generalize numAt l 2 = V2 at *
                    generalize numAt l 3 = V3 at *
                    go_wp2_with fail
                    try simp only [Exit.inBlock, Exit.then]
                    all_goals exact bodyPost_ret (results_op2 rfl _ _ _ rfl (heap_alloc_lt (put5 HP.out.xb _ _ _ _ _))) rfl ⟨by rw [← HR.out]; rfl, (HP.out.keeps.set5 (b := w.heap.size) (.inr (Nat.le_refl _)) _ _ _ _ _).alloc _⟩
end Go.Proofs.YtffldnjjijckcaaGreatDoor
