/-
  ResultBack, walked.
-/
import Derived.Test.YtgdbhblapdhlmaaDoorHs
import Derived.Test.YtgdbhblapdhlmaaDoorHm
import Derived.Test.YtgdbhblapdhlmaaDoorBh
namespace Go.Proofs.YtgdbhblapdhlmaaDoor
open Go.RowKit
theorem str_nums_take (s : ByteArray) (n : Nat) : s.extract 0 n = strOfNums ((nums s).take n) := by
  rw [← str_take, strOfNums_nums]
set_option maxHeartbeats 8000000 in
set_option maxRecDepth 100000 in
theorem back_true (w : World) (hG : Glob w) (k v : Int) (s t : ByteArray) (h0 : 0 ≤ k) (h1 : k < 256) (v0 : 0 ≤ v) (v1 : v < 65536) (hs : s.size ≤ maxLen) (ht : t.size ≤ maxLen) :
    Calls Tryd.prog 6 #[.agg #[.int .u8 k, .int .u16 v], .string s, .string t] w fun e w' => e = .returned (.bool true) ∧ Keeps [] w w' := by
  have ha : Keeps [] w (w.alloc (.cells #[.int .u8 k, .int .u16 v] 24)) := (Keeps.refl _ _).alloc _
  by_cases hs3 : s.size ≤ 300
  · by_cases ht3 : t.size ≤ 300
    · have z1 : ¬ 300 < (s.size : Int) := by omega
      have z2 : ¬ 300 < (t.size : Int) := by omega
      have hc1 := fun w => Check_any w k v h0 h1
      have hp1 := fun w => rsPut_any w k v h0 h1 v0 v1
      have ht1 := fun w hG => Text_any w hG k v h0 h1 v0 v1
      have hps := fun w hG => Parse_any w hG t ht3
      have hpO := fun h => ps_ok (l := t.data.toList) h
      have hp2 := psE_two t.data.toList
      have hpK := psK_bounds t.data.toList
      have hpV := psV_bounds t.data.toList
      generalize psK t.data.toList = PK at *
      generalize psV t.data.toList = PV at *
      generalize psE t.data.toList = PE at *
      have HPO := Lib.hid hpO; clear hpO
      have htb := fun h => tk_back (xs := nums s) (nums_in s) h
      have hnl : (nums s).length = s.size := nums_length s
      have hTake := fun (w : World) (r g cap : Nat) (h : RAt w r g cap (nums s) 0 0) (hg : g < w.heap.size) => Take_any w r g cap 0 (nums s) 0 h (nums_in s) (by omega) hg
      generalize tkK (nums s) 0 0 = TK at *
      generalize tkV (nums s) 0 0 = TV at *
      generalize tkE (nums s) 0 0 = TE at *
      generalize tkE2 (nums s) 0 0 = TE2 at *
      generalize tkP2 (nums s) 0 0 = TP at *
      have HTB := Lib.hid htb; clear htb
      by_cases hg : rsGood k v = true
      · rw [rsErr_good hg] at hc1
        rw [rsErr_good hg, if_pos hg] at hp1 ht1
        obtain ⟨hpb, hpl⟩ := put_bytes h0 v0 v1 hg
        have happ := nums_app (rsPut k v) hpb s
        obtain ⟨q1, q2, q3, q4, q5⟩ := tk_put h0 v0 v1 hg (nums s)
        have htx : (rsTxt k v).length ≤ 11 := txt_size (by omega)
        have hSP : (strOfNums (rsPut k v)).size ≤ 3 := by rw [strOfNums_size]; exact hpl
        have hST : (bs (rsTxt k v)).size ≤ 300 := by rw [bs_size]; omega
        have hTT := fun w hG => text_true w hG k v (bs (rsTxt k v)) hST h0 h1 v0 v1 hg (by rw [bs_list])
        have hLn : (nums (strOfNums (rsPut k v) ++ s)).length = (rsPut k v).length + s.size := by rw [happ, List.length_append, hnl]
        have hTk1 := fun (w : World) (r g cap : Nat) (h : RAt w r g cap (nums (strOfNums (rsPut k v) ++ s)) 0 0) (hg : g < w.heap.size) => Take_any w r g cap 0 _ 0 h (nums_in _) (by omega) hg
        rw [happ, q1, q2, q3, q4, q5] at hTk1
        rw [← happ] at hTk1
        generalize hSPe : strOfNums (rsPut k v) = SP at *
        generalize bs (rsTxt k v) = ST at *
        generalize (rsPut k v).length = PL at *
        clear hSPe happ q1 q2 q3 q4 q5 hpb htx hST
        have HTK := Lib.hid hTk1; have HTA := Lib.hid hTake; clear hTk1 hTake
        go_enter Tryd.func6, Tryd.ntmps6
        go_wp2_with fail
        refine (hp1 _).mono ?_; rintro e w1 ⟨rfl, hk1⟩
        have hb1 := boxed2 hk1
        replace hk1 := ha.trans hk1 (FSub.refl _ _)
        obtain ⟨c0, c1, hlt⟩ := cell2 hb1
        go_wp2_with fail
        refine (ht1 _ (hG.new hk1)).mono ?_; rintro e w2 ⟨rfl, hk2⟩
        have hb2 := hk2.heap hb1 (by simp)
        replace hk2 := hk1.trans hk2 (FSub.refl _ _)
        clear c0 c1 hlt hb1 hk1
        obtain ⟨c0, c1, hlt⟩ := cell2 hb2
        go_wp2_with fail
        refine (hc1 _).mono ?_; rintro e w3 ⟨rfl, hk3⟩
        have hb3 := hk3.heap hb2 (by simp)
        replace hk3 := hk2.trans hk3 (FSub.refl _ _)
        clear c0 c1 hlt hb2 hk2 hp1 ht1 hc1
        have hcat : (SP ++ s).size ≤ 303 := by rw [ByteArray.size_append]; omega
        go_wp2_with fail
        refine (Over_any _ _).mono ?_; rintro e w4 ⟨rfl, ⟨cap, hR⟩, hk4⟩
        have hb4 := hk4.heap hb3 (by simp)
        have hz3 := hk3.size
        replace hk4 := hk3.trans hk4 (FSub.refl _ _)
        have hrl := lt_of_block hR.blk
        have hlb := lt_of_block hb3
        go_wp2_with fail
        refine (HTK.out _ _ _ cap hR (by omega)).mono ?_; rintro e w5 ⟨rfl, hR5, hk5⟩
        have hb5 := hk5.heap hb4 (by simp; omega)
        replace hk5 := hk4.trans hk5 (fun z hz => .inr (by simp at hz; omega))
        have ka : Keeps [] w5 (w5.alloc (.cells #[.int .u8 k, .int .u16 v] 24)) := (Keeps.refl _ _).alloc _
        have hR6 := hR5.keeps ka (by simp) (by simp)
        have hL := Left_any _ _ _ _ _ _ _ hR6 (by omega)
        rw [show ((nums (SP ++ s)).length : Int) - (PL : Int) = s.size by omega] at hL
        have hb6 := ka.heap hb5 (by simp)
        have hk6 := hk5.trans ka (FSub.refl _ _)
        have hd6 : (w5.alloc (.cells #[.int .u8 k, .int .u16 v] 24)).heap[w5.heap.size]? = some (.cells #[.int .u8 k, .int .u16 v] 24 (0, 0)) := heap_alloc_new _ _
        obtain ⟨c0, c1, hlt⟩ := cell2 hb5
        clear hb3 hb4 hR hk4 hk3 HTK hR5 ka
        go_wp2_with fail
        refine hL.mono ?_; rintro e w6 ⟨rfl, n6, rfl⟩
        have hb7 : ((w5.alloc (.cells #[.int .u8 k, .int .u16 v] 24)).drewN n6).heap[w.heap.size]? = some (.cells #[.int .u8 k, .int .u16 v] 24 (0, 0)) := hb6
        have hk7 : Keeps [] w ((w5.alloc (.cells #[.int .u8 k, .int .u16 v] 24)).drewN n6) := hk6.drewN _
        clear c0 c1 hlt hL hR6 hb6 hk6 hd6 hb5 hk5
        generalize (w5.alloc (.cells #[.int .u8 k, .int .u16 v] 24)).drewN n6 = w7 at *
        obtain ⟨c0, c1, hlt⟩ := cell2 hb7
        go_wp2_with fail
        refine (hTT _ (hG.new hk7)).mono ?_; rintro e w8 ⟨rfl, hk8⟩
        replace hk8 := hk7.trans hk8 (FSub.refl _ _)
        clear c0 c1 hlt hb7 hk7 hTT
        go_wp2_with fail
        refine (Over_any _ _).mono ?_; rintro e w9 ⟨rfl, ⟨cap2, hR9⟩, hk9⟩
        have hz8 := hk8.size
        replace hk9 := hk8.trans hk9 (FSub.refl _ _)
        have hrl9 := lt_of_block hR9.blk
        go_wp2_with fail
        refine (HTA.out _ _ _ cap2 hR9 (by omega)).mono ?_; rintro e w10 ⟨rfl, hR10, hk10⟩
        replace hk10 := hk9.trans hk10 (fun z hz => .inr (by simp at hz; omega))
        clear HTA hR9
        by_cases hTE : TE = 0
        · obtain ⟨hgT, hpT, hpl2, k0, k4, u0, u1⟩ := HTB.out hTE
          have hpp := fun w => rsPut_any w TK TV k0 (by omega) u0 u1
          rw [rsErr_good hgT, if_pos hgT, hpT, ← str_nums_take] at hpp
          subst hTE
          have kb : Keeps [] w10 (w10.alloc (.cells #[.int .u8 TK, .int .u16 TV] 24)) := (Keeps.refl _ _).alloc _
          have hR11 := hR10.keeps kb (by simp) (by simp)
          replace hk10 := hk10.trans kb (FSub.refl _ _)
          have hTP : TP ≤ s.size := by omega
          have hti : (TP : Int) ≤ s.size := by omega
          have t1 : ((s.extract 0 TP).toList == (s.extract 0 TP).toList) = true := by simp
          clear HTB kb hgT hpT hpl2 hR10
          go_wp2_with fail
          refine (hpp _).mono ?_; rintro e w12 ⟨rfl, hk12⟩
          have hR12 := hR11.keeps hk12 (by simp) (by simp)
          replace hk12 := hk10.trans hk12 (FSub.refl _ _)
          clear hpp hR11
          go_wp2_with fail
          refine (At_any _ _ _ _ _ _ _ hR12).mono ?_; rintro e w13 ⟨rfl, rfl⟩
          clear hR12
          go_wp2_with fail
          refine (hps _ (hG.new hk12)).mono ?_; rintro e w20 ⟨rfl, hk20⟩
          replace hk20 := (hk12).trans hk20 (FSub.refl _ _)
          rcases hp2 with rfl | rfl
          · obtain ⟨hgo, htxt⟩ := HPO.out rfl
            have hk21 := hk20.alloc (.cells #[.int .u8 PK, .int .u16 PV] 24)
            go_wp2_with fail
            refine (text_true _ (hG.new hk21) PK PV t ht3 hpK.1 (by omega) hpV.1 (by omega) hgo htxt).mono ?_; rintro e w22 ⟨rfl, hk22⟩
            replace hk22 := hk21.trans hk22 (FSub.refl _ _)
            go_wp2_with fail
            refine (awake3_true _ (hG.new hk22)).mono ?_; rintro e w23 ⟨rfl, hk23⟩
            go_wp2
            go_ret
            exact ⟨rfl, hk22.trans hk23 (FSub.refl _ _)⟩
          · have hk21 := hk20.alloc (.cells #[.int .u8 PK, .int .u16 PV] 24)
            go_wp2_with fail
            refine (awake3_true _ (hG.new hk21)).mono ?_; rintro e w23 ⟨rfl, hk23⟩
            go_wp2
            go_ret
            exact ⟨rfl, hk21.trans hk23 (FSub.refl _ _)⟩
        · have hTE2 : (TE == 0) = false := by simpa using hTE
          replace hk10 := hk10.alloc (.cells #[.int .u8 TK, .int .u16 TV] 24)
          clear hR10 HTB
          go_wp2_with fail
          refine (hps _ (hG.new hk10)).mono ?_; rintro e w20 ⟨rfl, hk20⟩
          replace hk20 := (hk10).trans hk20 (FSub.refl _ _)
          rcases hp2 with rfl | rfl
          · obtain ⟨hgo, htxt⟩ := HPO.out rfl
            have hk21 := hk20.alloc (.cells #[.int .u8 PK, .int .u16 PV] 24)
            go_wp2_with fail
            refine (text_true _ (hG.new hk21) PK PV t ht3 hpK.1 (by omega) hpV.1 (by omega) hgo htxt).mono ?_; rintro e w22 ⟨rfl, hk22⟩
            replace hk22 := hk21.trans hk22 (FSub.refl _ _)
            go_wp2_with fail
            refine (awake3_true _ (hG.new hk22)).mono ?_; rintro e w23 ⟨rfl, hk23⟩
            go_wp2
            go_ret
            exact ⟨rfl, hk22.trans hk23 (FSub.refl _ _)⟩
          · have hk21 := hk20.alloc (.cells #[.int .u8 PK, .int .u16 PV] 24)
            go_wp2_with fail
            refine (awake3_true _ (hG.new hk21)).mono ?_; rintro e w23 ⟨rfl, hk23⟩
            go_wp2
            go_ret
            exact ⟨rfl, hk21.trans hk23 (FSub.refl _ _)⟩
      · have hg2 : rsGood k v = false := by simpa using hg
        rw [rsErr_bad hg2] at hc1
        rw [rsErr_bad hg2, if_neg hg] at hp1 ht1
        have HTA := Lib.hid hTake; clear hTake
        go_enter Tryd.func6, Tryd.ntmps6
        go_wp2_with fail
        refine (hp1 _).mono ?_; rintro e w1 ⟨rfl, hk1⟩
        have hb1 := boxed2 hk1
        replace hk1 := ha.trans hk1 (FSub.refl _ _)
        obtain ⟨c0, c1, hlt⟩ := cell2 hb1
        go_wp2_with fail
        refine (ht1 _ (hG.new hk1)).mono ?_; rintro e w2 ⟨rfl, hk2⟩
        have hb2 := hk2.heap hb1 (by simp)
        replace hk2 := hk1.trans hk2 (FSub.refl _ _)
        clear c0 c1 hlt hb1 hk1
        obtain ⟨c0, c1, hlt⟩ := cell2 hb2
        go_wp2_with fail
        refine (hc1 _).mono ?_; rintro e w3 ⟨rfl, hk3⟩
        have hb3 := hk3.heap hb2 (by simp)
        replace hk3 := hk2.trans hk3 (FSub.refl _ _)
        clear c0 c1 hlt hb2 hk2 hp1 ht1 hc1
        go_wp2_with fail
        refine (Over_any _ _).mono ?_; rintro e w9 ⟨rfl, ⟨cap2, hR9⟩, hk9⟩
        have hz8 := hk3.size
        replace hk9 := hk3.trans hk9 (FSub.refl _ _)
        have hrl9 := lt_of_block hR9.blk
        go_wp2_with fail
        refine (HTA.out _ _ _ cap2 hR9 (by omega)).mono ?_; rintro e w10 ⟨rfl, hR10, hk10⟩
        replace hk10 := hk9.trans hk10 (fun z hz => .inr (by simp at hz; omega))
        clear HTA hR9
        by_cases hTE : TE = 0
        · obtain ⟨hgT, hpT, hpl2, k0, k4, u0, u1⟩ := HTB.out hTE
          have hpp := fun w => rsPut_any w TK TV k0 (by omega) u0 u1
          rw [rsErr_good hgT, if_pos hgT, hpT, ← str_nums_take] at hpp
          subst hTE
          have kb : Keeps [] w10 (w10.alloc (.cells #[.int .u8 TK, .int .u16 TV] 24)) := (Keeps.refl _ _).alloc _
          have hR11 := hR10.keeps kb (by simp) (by simp)
          replace hk10 := hk10.trans kb (FSub.refl _ _)
          have hTP : TP ≤ s.size := by omega
          have hti : (TP : Int) ≤ s.size := by omega
          have t1 : ((s.extract 0 TP).toList == (s.extract 0 TP).toList) = true := by simp
          clear HTB kb hgT hpT hpl2 hR10
          go_wp2_with fail
          refine (hpp _).mono ?_; rintro e w12 ⟨rfl, hk12⟩
          have hR12 := hR11.keeps hk12 (by simp) (by simp)
          replace hk12 := hk10.trans hk12 (FSub.refl _ _)
          clear hpp hR11
          go_wp2_with fail
          refine (At_any _ _ _ _ _ _ _ hR12).mono ?_; rintro e w13 ⟨rfl, rfl⟩
          clear hR12
          go_wp2_with fail
          refine (hps _ (hG.new hk12)).mono ?_; rintro e w20 ⟨rfl, hk20⟩
          replace hk20 := (hk12).trans hk20 (FSub.refl _ _)
          rcases hp2 with rfl | rfl
          · obtain ⟨hgo, htxt⟩ := HPO.out rfl
            have hk21 := hk20.alloc (.cells #[.int .u8 PK, .int .u16 PV] 24)
            go_wp2_with fail
            refine (text_true _ (hG.new hk21) PK PV t ht3 hpK.1 (by omega) hpV.1 (by omega) hgo htxt).mono ?_; rintro e w22 ⟨rfl, hk22⟩
            replace hk22 := hk21.trans hk22 (FSub.refl _ _)
            go_wp2_with fail
            refine (awake3_true _ (hG.new hk22)).mono ?_; rintro e w23 ⟨rfl, hk23⟩
            go_wp2
            go_ret
            exact ⟨rfl, hk22.trans hk23 (FSub.refl _ _)⟩
          · have hk21 := hk20.alloc (.cells #[.int .u8 PK, .int .u16 PV] 24)
            go_wp2_with fail
            refine (awake3_true _ (hG.new hk21)).mono ?_; rintro e w23 ⟨rfl, hk23⟩
            go_wp2
            go_ret
            exact ⟨rfl, hk21.trans hk23 (FSub.refl _ _)⟩
        · have hTE2 : (TE == 0) = false := by simpa using hTE
          replace hk10 := hk10.alloc (.cells #[.int .u8 TK, .int .u16 TV] 24)
          clear hR10 HTB
          go_wp2_with fail
          refine (hps _ (hG.new hk10)).mono ?_; rintro e w20 ⟨rfl, hk20⟩
          replace hk20 := (hk10).trans hk20 (FSub.refl _ _)
          rcases hp2 with rfl | rfl
          · obtain ⟨hgo, htxt⟩ := HPO.out rfl
            have hk21 := hk20.alloc (.cells #[.int .u8 PK, .int .u16 PV] 24)
            go_wp2_with fail
            refine (text_true _ (hG.new hk21) PK PV t ht3 hpK.1 (by omega) hpV.1 (by omega) hgo htxt).mono ?_; rintro e w22 ⟨rfl, hk22⟩
            replace hk22 := hk21.trans hk22 (FSub.refl _ _)
            go_wp2_with fail
            refine (awake3_true _ (hG.new hk22)).mono ?_; rintro e w23 ⟨rfl, hk23⟩
            go_wp2
            go_ret
            exact ⟨rfl, hk22.trans hk23 (FSub.refl _ _)⟩
          · have hk21 := hk20.alloc (.cells #[.int .u8 PK, .int .u16 PV] 24)
            go_wp2_with fail
            refine (awake3_true _ (hG.new hk21)).mono ?_; rintro e w23 ⟨rfl, hk23⟩
            go_wp2
            go_ret
            exact ⟨rfl, hk21.trans hk23 (FSub.refl _ _)⟩
    · have z1 : ¬ 300 < (s.size : Int) := by omega
      have z2 : 300 < (t.size : Int) := by omega
      go_enter Tryd.func6, Tryd.ntmps6
      go_wp2_with fail
      refine (awake3_true _ (hG.new ha)).mono ?_; rintro e w1 ⟨rfl, hk1⟩
      go_wp2
      go_ret
      exact ⟨rfl, ha.trans hk1 (FSub.refl _ _)⟩
  · have z1 : 300 < (s.size : Int) := by omega
    go_enter Tryd.func6, Tryd.ntmps6
    go_wp2_with fail
    refine (awake3_true _ (hG.new ha)).mono ?_; rintro e w1 ⟨rfl, hk1⟩
    go_wp2
    go_ret
    exact ⟨rfl, ha.trans hk1 (FSub.refl _ _)⟩
end Go.Proofs.YtgdbhblapdhlmaaDoor
