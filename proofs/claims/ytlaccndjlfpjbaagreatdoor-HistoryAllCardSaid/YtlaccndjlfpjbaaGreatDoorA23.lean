/-
  The document's history: May, Step.
-/
import Derived.Test.YtlaccndjlfpjbaaGreatDoorA21
import Derived.Test.YtlaccndjlfpjbaaGreatDoorA22
import Derived.Test.YtlaccndjlfpjbaaGreatDoorA18
set_option linter.unusedSimpArgs false
set_option linter.unusedVariables false
namespace Go.Proofs.YtlaccndjlfpjbaaGreatDoor
open Go.RowKit Go.Maps
section
variable {ck : Int → Opn → Int} {my : Int → Int → Int → Int}
theorem hErr_bad {L : List Ev} {x : Ev} (h : evGood x = false) : hErr ck my L x = 4 := by unfold hErr; rw [if_pos h]
theorem hErr_cfg0 {x : Ev} (h : evGood x = true) (hk : x.k = 1) : hErr ck my [] x = 0 := by unfold hErr; rw [if_neg (by rw [h]; simp), if_pos hk, if_pos rfl]
theorem hErr_cfg {L : List Ev} {x : Ev} (h : evGood x = true) (hk : x.k = 1) (hL : L ≠ []) : hErr ck my L x = 11 := by unfold hErr; rw [if_neg (by rw [h]; simp), if_pos hk, if_neg hL]
theorem hErr_nil {x : Ev} (h : evGood x = true) (hk : x.k ≠ 1) : hErr ck my [] x = 11 := by unfold hErr; rw [if_neg (by rw [h]; simp), if_neg hk]
theorem hErr_cons {g : Ev} {r : List Ev} {x : Ev} (h : evGood x = true) (hk : x.k ≠ 1) : hErr ck my (g :: r) x = if hWrong g.g.m x.k then 10 else if hOpens x then hOpenE ck (g :: r) g x else hEndE my (g :: r) x := by unfold hErr; rw [if_neg (by rw [h]; simp), if_neg hk]
end
theorem wp_build_ev1 {o : Oper} {a : Act} {w : World} {K : Act → World → Prop} {Q : Exit → Act → World → Prop} {y : Operand} {x : Ev} {tx rd : Value} (ho : o.op = .buildSlice 22 1 #[(0, y)]) (hy : a.eval y = .agg (evC x tx rd))
    (h : K (a.put o.dst (.slice (some ⟨w.heap.size, 0, none⟩) 1 1)) (w.alloc (.cells (evC x tx rd) 42))) : o.wp Tryz.prog a w K Q := by
  obtain ⟨i0, hi, hz0, hz1, hz2⟩ := info_parts Tryz.infoE
  refine wp_buildSlice 22 42 1 #[(0, y)] ho (evC x tx rd) i0 _ Tryz.underlying22 hi hz0 (by rw [hz1]; decide) (by rw [hz1]; decide) ?_ h
  rw [hz1]
  have e : (#[(0, y)].map fun (i, z) => (i, a.eval z)).toList = [(0, a.eval y)] := by simp
  rw [e, hy]
  exact fill_ev x tx rd _ (by simp)
set_option maxHeartbeats 8000000
set_option maxRecDepth 100000
theorem r7May_any (w : World) {N b base : Nat} {v : Value} {T : EvL} (hH : R7At N b base w v T) (hn : T.length ≤ 1000) (hL : HistOk (evsOf T)) (x : Ev) (hx : x.In) {M : Nat} (tx rd : Value) (ht : EvAt M w tx rd x) (hM : M ≤ w.heap.size) :
    Calls Tryz.prog 30 #[.pointer (some ⟨b, 0, none⟩), .agg (evC x tx rd)] w fun e w' => e = .returned (.int .i64 (hErr opChk mayOf (evsOf T) x)) ∧ Keeps [] w w' := by
  have hk0 := (Keeps.refl [] w).alloc (.cells (evC x tx rd) 42)
  have hX := heap_alloc_new w (.cells (evC x tx rd) 42)
  have hH0 := hH.new hk0
  have HMAY := Lib.hid (refMay5_any _ x hx tx rd (ht.new hk0 hM) (Nat.le_trans hM hk0.size))
  have HK0 := Lib.hid hk0; have HL := Lib.hid hL; have HXI := Lib.hid hx; have HT0 := Lib.hid (ht.new hk0 hM); have HM := Lib.hid (Nat.le_trans hM hk0.size)
  have HH0 := Lib.hid hH0
  generalize hR : hErr opChk mayOf (evsOf T) x = R at *
  have HR := Lib.hid hR
  clear hk0 hL hH hH0 ht hR hx hM
  go_enter Tryz.func30, Tryz.ntmps30
  go_wp2_with (first | ((with_reducible apply wpList_load_ev); exact rfl; (first | assumption | (refine heap_alloc_lt ?_; assumption) | (refine heap_alloc_lt (heap_alloc_lt ?_); assumption) | exact heap_alloc_at (by simp)); exact rfl))
  generalize w.alloc _ = W at *
  generalize w.heap.size = B at *
  refine (HMAY.out).mono ?_; rintro e w1 ⟨rfl, hk1⟩
  have HX1 := Lib.hid (hk1.heap hX (by simp))
  have HKW := Lib.hid (HK0.out.trans hk1 (FSub.refl _ _))
  have HT1 := Lib.hid (HT0.out.new hk1 HM.out); have HM1 := Lib.hid (Nat.le_trans HM.out hk1.size); have HH1 := Lib.hid (HH0.out.new hk1)
  clear hk1 hX HT0 HM HH0 HMAY HK0
  obtain ⟨a, cp, hv0, hc, hm⟩ := HH1.out.row.shape
  have hv : w1.cell? ⟨b, 0, none⟩ = some (.slice a T.length cp) := by simp only [World.cell?, HH1.out.cell, hv0]; rfl
  have hX := HX1.out
  have e0 := ev_cell hX 0 (evC_0 x tx rd)
  cases hg : evGood x with
  | false =>
    obtain rfl : R = 4 := HR.out.symm.trans (hErr_bad hg)
    clear HR hg hX
    go_wp2_with fail
    go_ret
    exact ⟨rfl, HKW.out⟩
  | true =>
    have HG := Lib.hid hg
    have hgn := good_need hg
    have h8 := (good_mics hg).2
    rcases kind_cases hgn.2.2 with hk | hk | hk | hk | hk | hk | hk
    · rw [hk] at e0
      by_cases hT : T = []
      · obtain rfl : R = 0 := HR.out.symm.trans (by subst hT; exact hErr_cfg0 hg hk)
        have hl : T.length = 0 := by rw [hT]; rfl
        rw [hl] at hv
        clear HR hg hX hgn hT hl hv0 hc
        go_wp2_with fail
        go_ret
        exact ⟨rfl, HKW.out⟩
      · obtain rfl : R = 11 := HR.out.symm.trans (hErr_cfg hg hk (by intro e; exact hT (by simpa [evsOf] using e)))
        have hl : (0 : Int) < T.length := by have := List.length_pos_iff.2 hT; omega
        clear HR hg hX hgn hT hv0
        go_wp2_with fail
        go_ret
        exact ⟨rfl, HKW.out⟩
    · skip
      rw [hk] at e0
      by_cases hT : T = []
      · obtain rfl : R = 11 := HR.out.symm.trans (by subst hT; exact hErr_nil hg (by omega))
        have hl : T.length = 0 := by rw [hT]; rfl
        rw [hl] at hv
        clear HR hg hX hgn hT hl hv0 hc
        go_wp2_with fail
        go_ret
        exact ⟨rfl, HKW.out⟩
      · skip
        obtain ⟨hb0, hcap, hge, hg1, hg2, -, -, hrng⟩ := HH1.out.get hT
        rw [hv0] at hge
        simp at hge
        obtain ⟨rfl, rfl⟩ := hge
        have hT0 : 0 < T.length := List.length_pos_iff.2 hT
        have hTp : (0 : Int) < T.length := by omega
        obtain ⟨g, hgd⟩ : ∃ g, T[0].1 = g := ⟨_, rfl⟩
        have hgh : (evsOf T).head? = some g := by rw [List.head?_eq_getElem?]; simp [evsOf, List.getElem?_eq_getElem hT0, hgd]
        obtain ⟨r, hgr⟩ : ∃ r, evsOf T = g :: r := by
          cases he : evsOf T with
          | nil => rw [he] at hgh; cases hgh
          | cons y r => rw [he] at hgh; simp at hgh; exact ⟨r, by rw [hgh]⟩
        have d12 : w1.cell? ⟨hb0, 12, none⟩ = some (.int .u8 g.g.m) := by
          have := (hrng 0 hT0).1 12 _ rfl
          rw [hgd] at this; simpa using this
        have HRC := Lib.hid (show (if hWrong g.g.m x.k then (10 : Int) else if hOpens x then hOpenE opChk (evsOf T) g x else hEndE mayOf (evsOf T) x) = R by rw [← HR.out, hgr]; exact (hErr_cons HG.out (by omega)).symm)
        clear hrng hgd hgr HR hgn hg hv0 hTp
        generalize hTl : T.length = tl at *
        have HTL := Lib.hid hTl
        clear hTl
        have t0 : ((tl : Int) == 0) = false := by simp; omega
        have hTp : (0 : Int) < tl := by omega
        have HHN := Lib.hid hn
        by_cases hm4 : g.g.m = 4
        · rw [hm4] at d12
          obtain rfl : R = 10 := HRC.out.symm.trans (if_pos (by rw [hk]; simp [hWrong, hm4]))
          clear hm4 HRC hX
          go_wp2_with fail
          go_ret
          exact ⟨rfl, HKW.out⟩
        · have t4 : (g.g.m == 4) = false := by simpa using hm4
          have ho : hOpens x = true := by simp [hOpens, hk]
          have hRo : hOpenE opChk (evsOf T) g x = R := by rw [← HRC.out, if_neg (by rw [hk]; simp [hWrong, hm4]), if_pos ho]
          have HRO := Lib.hid hRo; have HO := Lib.hid ho
          clear hm4 HRC ho hRo hk hX
          go_wp2_with (with_reducible refine wpList_load_ev (g := B) (cells := evC x tx rd) rfl HX1.out rfl ?_)
          refine (r7Opens_any w1 x tx rd).mono ?_; rintro e w2 ⟨rfl, hk2⟩
          rw [HO.out]
          have HX2 := Lib.hid (hk2.heap HX1.out (by simp))
          have HOP := Lib.hid (r7opens_any w2 (HH1.out.new hk2) (by rw [HTL.out]; exact HHN.out) HL.out g hgh x HXI.out tx rd (HT1.out.new hk2 HM1.out) (Nat.le_trans HM1.out hk2.size) h8)
          have HK2 := Lib.hid (HKW.out.trans hk2 (FSub.refl _ _))
          rw [HRO.out] at HOP
          clear hk2 e0 d12 hv
          go_wp2_with (with_reducible refine wpList_load_ev (g := B) (cells := evC x tx rd) rfl HX2.out rfl ?_)
          refine (HOP.out).mono ?_; rintro e w3 ⟨rfl, hk3⟩
          go_wp2_with fail
          go_ret
          exact ⟨rfl, HK2.out.trans hk3 (FSub.refl _ _)⟩
    · skip
      rw [hk] at e0
      by_cases hT : T = []
      · obtain rfl : R = 11 := HR.out.symm.trans (by subst hT; exact hErr_nil hg (by omega))
        have hl : T.length = 0 := by rw [hT]; rfl
        rw [hl] at hv
        clear HR hg hX hgn hT hl hv0 hc
        go_wp2_with fail
        go_ret
        exact ⟨rfl, HKW.out⟩
      · skip
        obtain ⟨hb0, hcap, hge, hg1, hg2, -, -, hrng⟩ := HH1.out.get hT
        rw [hv0] at hge
        simp at hge
        obtain ⟨rfl, rfl⟩ := hge
        have hT0 : 0 < T.length := List.length_pos_iff.2 hT
        have hTp : (0 : Int) < T.length := by omega
        obtain ⟨g, hgd⟩ : ∃ g, T[0].1 = g := ⟨_, rfl⟩
        have hgh : (evsOf T).head? = some g := by rw [List.head?_eq_getElem?]; simp [evsOf, List.getElem?_eq_getElem hT0, hgd]
        obtain ⟨r, hgr⟩ : ∃ r, evsOf T = g :: r := by
          cases he : evsOf T with
          | nil => rw [he] at hgh; cases hgh
          | cons y r => rw [he] at hgh; simp at hgh; exact ⟨r, by rw [hgh]⟩
        have d12 : w1.cell? ⟨hb0, 12, none⟩ = some (.int .u8 g.g.m) := by
          have := (hrng 0 hT0).1 12 _ rfl
          rw [hgd] at this; simpa using this
        have HRC := Lib.hid (show (if hWrong g.g.m x.k then (10 : Int) else if hOpens x then hOpenE opChk (evsOf T) g x else hEndE mayOf (evsOf T) x) = R by rw [← HR.out, hgr]; exact (hErr_cons HG.out (by omega)).symm)
        clear hrng hgd hgr HR hgn hg hv0 hTp
        generalize hTl : T.length = tl at *
        have HTL := Lib.hid hTl
        clear hTl
        have t0 : ((tl : Int) == 0) = false := by simp; omega
        have hTp : (0 : Int) < tl := by omega
        have HHN := Lib.hid hn
        by_cases hm4 : g.g.m = 4
        · rw [hm4] at d12
          obtain rfl : R = 10 := HRC.out.symm.trans (if_pos (by rw [hk]; simp [hWrong, hm4]))
          clear hm4 HRC hX
          go_wp2_with fail
          go_ret
          exact ⟨rfl, HKW.out⟩
        · have t4 : (g.g.m == 4) = false := by simpa using hm4
          have ho : hOpens x = false := by simp [hOpens, hk]
          have hRo : hEndE mayOf (evsOf T) x = R := by rw [← HRC.out, if_neg (by rw [hk]; simp [hWrong, hm4]), if_neg (by rw [ho]; simp)]
          have HRO := Lib.hid hRo; have HO := Lib.hid ho
          clear hm4 HRC ho hRo hk hX
          go_wp2_with (with_reducible refine wpList_load_ev (g := B) (cells := evC x tx rd) rfl HX1.out rfl ?_)
          refine (r7Opens_any w1 x tx rd).mono ?_; rintro e w2 ⟨rfl, hk2⟩
          rw [HO.out]
          have HX2 := Lib.hid (hk2.heap HX1.out (by simp))
          have HOP := Lib.hid (r7ends_any w2 (HH1.out.new hk2) (by rw [HTL.out]; exact HHN.out) HL.out x HXI.out tx rd (HT1.out.new hk2 HM1.out) (Nat.le_trans HM1.out hk2.size))
          have HK2 := Lib.hid (HKW.out.trans hk2 (FSub.refl _ _))
          rw [HRO.out] at HOP
          clear hk2 e0 d12 hv
          go_wp2_with (with_reducible refine wpList_load_ev (g := B) (cells := evC x tx rd) rfl HX2.out rfl ?_)
          refine (HOP.out).mono ?_; rintro e w3 ⟨rfl, hk3⟩
          go_wp2_with fail
          go_ret
          exact ⟨rfl, HK2.out.trans hk3 (FSub.refl _ _)⟩
    · skip
      rw [hk] at e0
      by_cases hT : T = []
      · obtain rfl : R = 11 := HR.out.symm.trans (by subst hT; exact hErr_nil hg (by omega))
        have hl : T.length = 0 := by rw [hT]; rfl
        rw [hl] at hv
        clear HR hg hX hgn hT hl hv0 hc
        go_wp2_with fail
        go_ret
        exact ⟨rfl, HKW.out⟩
      · skip
        obtain ⟨hb0, hcap, hge, hg1, hg2, -, -, hrng⟩ := HH1.out.get hT
        rw [hv0] at hge
        simp at hge
        obtain ⟨rfl, rfl⟩ := hge
        have hT0 : 0 < T.length := List.length_pos_iff.2 hT
        have hTp : (0 : Int) < T.length := by omega
        obtain ⟨g, hgd⟩ : ∃ g, T[0].1 = g := ⟨_, rfl⟩
        have hgh : (evsOf T).head? = some g := by rw [List.head?_eq_getElem?]; simp [evsOf, List.getElem?_eq_getElem hT0, hgd]
        obtain ⟨r, hgr⟩ : ∃ r, evsOf T = g :: r := by
          cases he : evsOf T with
          | nil => rw [he] at hgh; cases hgh
          | cons y r => rw [he] at hgh; simp at hgh; exact ⟨r, by rw [hgh]⟩
        have d12 : w1.cell? ⟨hb0, 12, none⟩ = some (.int .u8 g.g.m) := by
          have := (hrng 0 hT0).1 12 _ rfl
          rw [hgd] at this; simpa using this
        have HRC := Lib.hid (show (if hWrong g.g.m x.k then (10 : Int) else if hOpens x then hOpenE opChk (evsOf T) g x else hEndE mayOf (evsOf T) x) = R by rw [← HR.out, hgr]; exact (hErr_cons HG.out (by omega)).symm)
        clear hrng hgd hgr HR hgn hg hv0 hTp
        generalize hTl : T.length = tl at *
        have HTL := Lib.hid hTl
        clear hTl
        have t0 : ((tl : Int) == 0) = false := by simp; omega
        have hTp : (0 : Int) < tl := by omega
        have HHN := Lib.hid hn
        by_cases hm4 : g.g.m = 4
        · rw [hm4] at d12
          have ho : hOpens x = false := by simp [hOpens, hk]
          have hRo : hEndE mayOf (evsOf T) x = R := by rw [← HRC.out, if_neg (by rw [hk]; simp [hWrong, hm4]), if_neg (by rw [ho]; simp)]
          have HRO := Lib.hid hRo; have HO := Lib.hid ho
          clear hm4 HRC ho hRo hk hX
          go_wp2_with (with_reducible refine wpList_load_ev (g := B) (cells := evC x tx rd) rfl HX1.out rfl ?_)
          refine (r7Opens_any w1 x tx rd).mono ?_; rintro e w2 ⟨rfl, hk2⟩
          rw [HO.out]
          have HX2 := Lib.hid (hk2.heap HX1.out (by simp))
          have HOP := Lib.hid (r7ends_any w2 (HH1.out.new hk2) (by rw [HTL.out]; exact HHN.out) HL.out x HXI.out tx rd (HT1.out.new hk2 HM1.out) (Nat.le_trans HM1.out hk2.size))
          have HK2 := Lib.hid (HKW.out.trans hk2 (FSub.refl _ _))
          rw [HRO.out] at HOP
          clear hk2 e0 d12 hv
          go_wp2_with (with_reducible refine wpList_load_ev (g := B) (cells := evC x tx rd) rfl HX2.out rfl ?_)
          refine (HOP.out).mono ?_; rintro e w3 ⟨rfl, hk3⟩
          go_wp2_with fail
          go_ret
          exact ⟨rfl, HK2.out.trans hk3 (FSub.refl _ _)⟩
        · have t4 : (g.g.m == 4) = false := by simpa using hm4
          have ho : hOpens x = false := by simp [hOpens, hk]
          have hRo : hEndE mayOf (evsOf T) x = R := by rw [← HRC.out, if_neg (by rw [hk]; simp [hWrong, hm4]), if_neg (by rw [ho]; simp)]
          have HRO := Lib.hid hRo; have HO := Lib.hid ho
          clear hm4 HRC ho hRo hk hX
          go_wp2_with (with_reducible refine wpList_load_ev (g := B) (cells := evC x tx rd) rfl HX1.out rfl ?_)
          refine (r7Opens_any w1 x tx rd).mono ?_; rintro e w2 ⟨rfl, hk2⟩
          rw [HO.out]
          have HX2 := Lib.hid (hk2.heap HX1.out (by simp))
          have HOP := Lib.hid (r7ends_any w2 (HH1.out.new hk2) (by rw [HTL.out]; exact HHN.out) HL.out x HXI.out tx rd (HT1.out.new hk2 HM1.out) (Nat.le_trans HM1.out hk2.size))
          have HK2 := Lib.hid (HKW.out.trans hk2 (FSub.refl _ _))
          rw [HRO.out] at HOP
          clear hk2 e0 d12 hv
          go_wp2_with (with_reducible refine wpList_load_ev (g := B) (cells := evC x tx rd) rfl HX2.out rfl ?_)
          refine (HOP.out).mono ?_; rintro e w3 ⟨rfl, hk3⟩
          go_wp2_with fail
          go_ret
          exact ⟨rfl, HK2.out.trans hk3 (FSub.refl _ _)⟩
    · skip
      rw [hk] at e0
      by_cases hT : T = []
      · obtain rfl : R = 11 := HR.out.symm.trans (by subst hT; exact hErr_nil hg (by omega))
        have hl : T.length = 0 := by rw [hT]; rfl
        rw [hl] at hv
        clear HR hg hX hgn hT hl hv0 hc
        go_wp2_with fail
        go_ret
        exact ⟨rfl, HKW.out⟩
      · skip
        obtain ⟨hb0, hcap, hge, hg1, hg2, -, -, hrng⟩ := HH1.out.get hT
        rw [hv0] at hge
        simp at hge
        obtain ⟨rfl, rfl⟩ := hge
        have hT0 : 0 < T.length := List.length_pos_iff.2 hT
        have hTp : (0 : Int) < T.length := by omega
        obtain ⟨g, hgd⟩ : ∃ g, T[0].1 = g := ⟨_, rfl⟩
        have hgh : (evsOf T).head? = some g := by rw [List.head?_eq_getElem?]; simp [evsOf, List.getElem?_eq_getElem hT0, hgd]
        obtain ⟨r, hgr⟩ : ∃ r, evsOf T = g :: r := by
          cases he : evsOf T with
          | nil => rw [he] at hgh; cases hgh
          | cons y r => rw [he] at hgh; simp at hgh; exact ⟨r, by rw [hgh]⟩
        have d12 : w1.cell? ⟨hb0, 12, none⟩ = some (.int .u8 g.g.m) := by
          have := (hrng 0 hT0).1 12 _ rfl
          rw [hgd] at this; simpa using this
        have HRC := Lib.hid (show (if hWrong g.g.m x.k then (10 : Int) else if hOpens x then hOpenE opChk (evsOf T) g x else hEndE mayOf (evsOf T) x) = R by rw [← HR.out, hgr]; exact (hErr_cons HG.out (by omega)).symm)
        clear hrng hgd hgr HR hgn hg hv0 hTp
        generalize hTl : T.length = tl at *
        have HTL := Lib.hid hTl
        clear hTl
        have t0 : ((tl : Int) == 0) = false := by simp; omega
        have hTp : (0 : Int) < tl := by omega
        have HHN := Lib.hid hn
        by_cases hm4 : g.g.m = 4
        · rw [hm4] at d12
          have ho : hOpens x = true := by simp [hOpens, hk]
          have hRo : hOpenE opChk (evsOf T) g x = R := by rw [← HRC.out, if_neg (by rw [hk]; simp [hWrong, hm4]), if_pos ho]
          have HRO := Lib.hid hRo; have HO := Lib.hid ho
          clear hm4 HRC ho hRo hk hX
          go_wp2_with (with_reducible refine wpList_load_ev (g := B) (cells := evC x tx rd) rfl HX1.out rfl ?_)
          refine (r7Opens_any w1 x tx rd).mono ?_; rintro e w2 ⟨rfl, hk2⟩
          rw [HO.out]
          have HX2 := Lib.hid (hk2.heap HX1.out (by simp))
          have HOP := Lib.hid (r7opens_any w2 (HH1.out.new hk2) (by rw [HTL.out]; exact HHN.out) HL.out g hgh x HXI.out tx rd (HT1.out.new hk2 HM1.out) (Nat.le_trans HM1.out hk2.size) h8)
          have HK2 := Lib.hid (HKW.out.trans hk2 (FSub.refl _ _))
          rw [HRO.out] at HOP
          clear hk2 e0 d12 hv
          go_wp2_with (with_reducible refine wpList_load_ev (g := B) (cells := evC x tx rd) rfl HX2.out rfl ?_)
          refine (HOP.out).mono ?_; rintro e w3 ⟨rfl, hk3⟩
          go_wp2_with fail
          go_ret
          exact ⟨rfl, HK2.out.trans hk3 (FSub.refl _ _)⟩
        · have t4 : (g.g.m == 4) = false := by simpa using hm4
          obtain rfl : R = 10 := HRC.out.symm.trans (if_pos (by rw [hk]; simp [hWrong, hm4]))
          clear hm4 HRC hX
          go_wp2_with fail
          go_ret
          exact ⟨rfl, HKW.out⟩
    · skip
      rw [hk] at e0
      by_cases hT : T = []
      · obtain rfl : R = 11 := HR.out.symm.trans (by subst hT; exact hErr_nil hg (by omega))
        have hl : T.length = 0 := by rw [hT]; rfl
        rw [hl] at hv
        clear HR hg hX hgn hT hl hv0 hc
        go_wp2_with fail
        go_ret
        exact ⟨rfl, HKW.out⟩
      · skip
        obtain ⟨hb0, hcap, hge, hg1, hg2, -, -, hrng⟩ := HH1.out.get hT
        rw [hv0] at hge
        simp at hge
        obtain ⟨rfl, rfl⟩ := hge
        have hT0 : 0 < T.length := List.length_pos_iff.2 hT
        have hTp : (0 : Int) < T.length := by omega
        obtain ⟨g, hgd⟩ : ∃ g, T[0].1 = g := ⟨_, rfl⟩
        have hgh : (evsOf T).head? = some g := by rw [List.head?_eq_getElem?]; simp [evsOf, List.getElem?_eq_getElem hT0, hgd]
        obtain ⟨r, hgr⟩ : ∃ r, evsOf T = g :: r := by
          cases he : evsOf T with
          | nil => rw [he] at hgh; cases hgh
          | cons y r => rw [he] at hgh; simp at hgh; exact ⟨r, by rw [hgh]⟩
        have d12 : w1.cell? ⟨hb0, 12, none⟩ = some (.int .u8 g.g.m) := by
          have := (hrng 0 hT0).1 12 _ rfl
          rw [hgd] at this; simpa using this
        have HRC := Lib.hid (show (if hWrong g.g.m x.k then (10 : Int) else if hOpens x then hOpenE opChk (evsOf T) g x else hEndE mayOf (evsOf T) x) = R by rw [← HR.out, hgr]; exact (hErr_cons HG.out (by omega)).symm)
        clear hrng hgd hgr HR hgn hg hv0 hTp
        generalize hTl : T.length = tl at *
        have HTL := Lib.hid hTl
        clear hTl
        have t0 : ((tl : Int) == 0) = false := by simp; omega
        have hTp : (0 : Int) < tl := by omega
        have HHN := Lib.hid hn
        by_cases hm4 : g.g.m = 4
        · rw [hm4] at d12
          have ho : hOpens x = false := by simp [hOpens, hk]
          have hRo : hEndE mayOf (evsOf T) x = R := by rw [← HRC.out, if_neg (by rw [hk]; simp [hWrong, hm4]), if_neg (by rw [ho]; simp)]
          have HRO := Lib.hid hRo; have HO := Lib.hid ho
          clear hm4 HRC ho hRo hk hX
          go_wp2_with (with_reducible refine wpList_load_ev (g := B) (cells := evC x tx rd) rfl HX1.out rfl ?_)
          refine (r7Opens_any w1 x tx rd).mono ?_; rintro e w2 ⟨rfl, hk2⟩
          rw [HO.out]
          have HX2 := Lib.hid (hk2.heap HX1.out (by simp))
          have HOP := Lib.hid (r7ends_any w2 (HH1.out.new hk2) (by rw [HTL.out]; exact HHN.out) HL.out x HXI.out tx rd (HT1.out.new hk2 HM1.out) (Nat.le_trans HM1.out hk2.size))
          have HK2 := Lib.hid (HKW.out.trans hk2 (FSub.refl _ _))
          rw [HRO.out] at HOP
          clear hk2 e0 d12 hv
          go_wp2_with (with_reducible refine wpList_load_ev (g := B) (cells := evC x tx rd) rfl HX2.out rfl ?_)
          refine (HOP.out).mono ?_; rintro e w3 ⟨rfl, hk3⟩
          go_wp2_with fail
          go_ret
          exact ⟨rfl, HK2.out.trans hk3 (FSub.refl _ _)⟩
        · have t4 : (g.g.m == 4) = false := by simpa using hm4
          obtain rfl : R = 10 := HRC.out.symm.trans (if_pos (by rw [hk]; simp [hWrong, hm4]))
          clear hm4 HRC hX
          go_wp2_with fail
          go_ret
          exact ⟨rfl, HKW.out⟩
    · skip
      rw [hk] at e0
      by_cases hT : T = []
      · obtain rfl : R = 11 := HR.out.symm.trans (by subst hT; exact hErr_nil hg (by omega))
        have hl : T.length = 0 := by rw [hT]; rfl
        rw [hl] at hv
        clear HR hg hX hgn hT hl hv0 hc
        go_wp2_with fail
        go_ret
        exact ⟨rfl, HKW.out⟩
      · skip
        obtain ⟨hb0, hcap, hge, hg1, hg2, -, -, hrng⟩ := HH1.out.get hT
        rw [hv0] at hge
        simp at hge
        obtain ⟨rfl, rfl⟩ := hge
        have hT0 : 0 < T.length := List.length_pos_iff.2 hT
        have hTp : (0 : Int) < T.length := by omega
        obtain ⟨g, hgd⟩ : ∃ g, T[0].1 = g := ⟨_, rfl⟩
        have hgh : (evsOf T).head? = some g := by rw [List.head?_eq_getElem?]; simp [evsOf, List.getElem?_eq_getElem hT0, hgd]
        obtain ⟨r, hgr⟩ : ∃ r, evsOf T = g :: r := by
          cases he : evsOf T with
          | nil => rw [he] at hgh; cases hgh
          | cons y r => rw [he] at hgh; simp at hgh; exact ⟨r, by rw [hgh]⟩
        have d12 : w1.cell? ⟨hb0, 12, none⟩ = some (.int .u8 g.g.m) := by
          have := (hrng 0 hT0).1 12 _ rfl
          rw [hgd] at this; simpa using this
        have HRC := Lib.hid (show (if hWrong g.g.m x.k then (10 : Int) else if hOpens x then hOpenE opChk (evsOf T) g x else hEndE mayOf (evsOf T) x) = R by rw [← HR.out, hgr]; exact (hErr_cons HG.out (by omega)).symm)
        clear hrng hgd hgr HR hgn hg hv0 hTp
        generalize hTl : T.length = tl at *
        have HTL := Lib.hid hTl
        clear hTl
        have t0 : ((tl : Int) == 0) = false := by simp; omega
        have hTp : (0 : Int) < tl := by omega
        have HHN := Lib.hid hn
        by_cases hm4 : g.g.m = 4
        · rw [hm4] at d12
          have ho : hOpens x = false := by simp [hOpens, hk]
          have hRo : hEndE mayOf (evsOf T) x = R := by rw [← HRC.out, if_neg (by rw [hk]; simp [hWrong, hm4]), if_neg (by rw [ho]; simp)]
          have HRO := Lib.hid hRo; have HO := Lib.hid ho
          clear hm4 HRC ho hRo hk hX
          go_wp2_with (with_reducible refine wpList_load_ev (g := B) (cells := evC x tx rd) rfl HX1.out rfl ?_)
          refine (r7Opens_any w1 x tx rd).mono ?_; rintro e w2 ⟨rfl, hk2⟩
          rw [HO.out]
          have HX2 := Lib.hid (hk2.heap HX1.out (by simp))
          have HOP := Lib.hid (r7ends_any w2 (HH1.out.new hk2) (by rw [HTL.out]; exact HHN.out) HL.out x HXI.out tx rd (HT1.out.new hk2 HM1.out) (Nat.le_trans HM1.out hk2.size))
          have HK2 := Lib.hid (HKW.out.trans hk2 (FSub.refl _ _))
          rw [HRO.out] at HOP
          clear hk2 e0 d12 hv
          go_wp2_with (with_reducible refine wpList_load_ev (g := B) (cells := evC x tx rd) rfl HX2.out rfl ?_)
          refine (HOP.out).mono ?_; rintro e w3 ⟨rfl, hk3⟩
          go_wp2_with fail
          go_ret
          exact ⟨rfl, HK2.out.trans hk3 (FSub.refl _ _)⟩
        · have t4 : (g.g.m == 4) = false := by simpa using hm4
          obtain rfl : R = 10 := HRC.out.symm.trans (if_pos (by rw [hk]; simp [hWrong, hm4]))
          clear hm4 HRC hX
          go_wp2_with fail
          go_ret
          exact ⟨rfl, HKW.out⟩
end Go.Proofs.YtlaccndjlfpjbaaGreatDoor
/-
  The document's history: Step.
-/
namespace Go.Proofs.YtlaccndjlfpjbaaGreatDoor
open Go.RowKit Go.Maps
/-- What Step tells and leaves. -/
def Step7Post (N b base : Nat) (w : World) (v : Value) (T : EvL) (x : Ev) (e : Ending) (w' : World) : Prop :=
  e = .returned (.int .i64 (hErr opChk mayOf (evsOf T) x)) ∧ ∃ v' T', R7At N b base w' v' T' ∧ evsOf T' = hNext opChk mayOf (evsOf T) x ∧ T'.length ≤ T.length + 1 ∧ Keeps (b :: own v) w w' ∧ FSub (own v') (own v) w.heap.size
theorem wp_put_slice {o : Oper} {a : Act} {w : World} {K : Act → World → Prop} {Q : Exit → Act → World → Prop} {x y : Operand} {b : Nat} {t : TypeId} {u v : Value} {ad : Option Addr} {n c : Nat} (hv : v = .slice ad n c)
    (ho : o.op = .store 22 x y) (hx : a.eval x = .pointer (some ⟨b, 0, none⟩)) (hy : a.eval y = v) (hg : w.heap[b]? = some (.cells #[u] t (0, 0)))
    (h : ∀ W, W.heap[b]? = some (.cells #[v] t (0, 0)) → Keeps [b] w W → K (a.put o.dst undef) W) : o.wp Tryz.prog a w K Q := by
  subst hv
  have hrun := run_put1 (P := Tryz.prog) w b 0 22 (.slice ad n c) (by kernel_rfl) rfl (by simp [World.cell?, hg]) (by simp [World.frozen?, hg])
  unfold Oper.wp execOp
  simp only [ho, hx, hy, Instr.storeAt, Instr.sureAddr, Sem.run_bind, Sem.run_pure, Result.andThen_ok, hrun]
  exact h _ (by rw [heap_setCell_same w b 0 _ t _ hg]; rfl) ((Keeps.refl [b] w).setCell _ _ (.inl (by simp)))
set_option maxHeartbeats 8000000
set_option maxRecDepth 100000
theorem r7Step_any (w : World) {N b base : Nat} {v : Value} {T : EvL} (hH : R7At N b base w v T) (hbase : base ≤ w.heap.size) (hn : T.length ≤ 900) (hL : HistOk (evsOf T)) (x : Ev) (hx : x.In) (tx rd : Value) (ht : EvAt N w tx rd x) :
    Calls Tryz.prog 12 #[.pointer (some ⟨b, 0, none⟩), .agg (evC x tx rd)] w (Step7Post N b base w v T x) := by
  have hN : N ≤ w.heap.size := Nat.le_trans hH.nb (Nat.le_of_lt (lt_of_block hH.cell))
  have HOW := Lib.hid (show ∀ q ∈ own v, q ≠ w.heap.size from fun q hq e => by have := (row_base hH.row q hq).2; omega)
  have hk0 := (Keeps.refl [] w).alloc (.cells (evC x tx rd) 42)
  have hX := heap_alloc_new w (.cells (evC x tx rd) 42)
  have hH0 := hH.new hk0
  have HMAY := Lib.hid (r7May_any _ hH0 (by omega) hL x hx tx rd (ht.new hk0 hN) (Nat.le_trans hN hk0.size))
  have HK0 := Lib.hid hk0; have HT0 := Lib.hid (ht.new hk0 hN); have HH0 := Lib.hid hH0; have HX := Lib.hid hX
  have HN := Lib.hid (Nat.le_trans hN hk0.size); have HB := Lib.hid (Nat.le_trans hbase hk0.size)
  obtain ⟨R, hR⟩ : ∃ R, R = hErr opChk mayOf (evsOf T) x := ⟨_, rfl⟩
  rw [← hR] at HMAY
  have HR := Lib.hid hR
  clear hk0 hL hH hH0 ht hR hx hX hN
  go_enter Tryz.func12, Tryz.ntmps12
  go_wp2_with (with_reducible refine wpList_load_ev (g := w.heap.size) (cells := evC x tx rd) rfl HX.out rfl ?_)
  generalize w.alloc (.cells (evC x tx rd) 42) = W at *
  have hKW := HK0.out
  generalize hBq : w.heap.size = B at *
  have HBq := Lib.hid hBq; have HKW := Lib.hid hKW
  clear hBq hKW HK0
  refine (HMAY.out).mono ?_; rintro e w1 ⟨rfl, hk1⟩
  have HK1 := Lib.hid (HKW.out.trans hk1 (FSub.refl _ _))
  have HX1 := Lib.hid (hk1.heap HX.out (by simp)); have HT1 := Lib.hid (HT0.out.new hk1 HN.out); have HH1 := Lib.hid (HH0.out.new hk1); have HB1 := Lib.hid (Nat.le_trans HB.out hk1.size)
  have HN1 := Lib.hid (Nat.le_trans HN.out hk1.size)
  clear hk1 HX HT0 HH0 HMAY HB HN HKW
  by_cases hz : R = 0
  · have hz2 : hErr opChk mayOf (evsOf T) x = 0 := by rw [← HR.out]; exact hz
    obtain ⟨a0, cp, hv0, hc, hm⟩ := HH1.out.row.shape
    subst hv0
    have hv : w1.cell? ⟨b, 0, none⟩ = some (.slice a0 T.length cp) := by simp only [World.cell?, HH1.out.cell]; rfl
    obtain ⟨v', w2, hrun, hrow, hk2, hf2⟩ := append_ev w1.drew base HB1.out (.slice a0 T.length cp) T (row_old HH1.out.row ((Keeps.refl [] w1).drew) (by simp)) (by omega) x tx rd HT1.out.t.one HT1.out.r.one
    have hk12 : Keeps (own (.slice a0 T.length cp)) w1 w2 := ((Keeps.refl [] w1).drew.more (by simp)).step hk2 (fun q hq => hq)
    have hbo : b ∉ own (.slice a0 T.length cp) := fun hq => by have := (row_base HH1.out.row b hq).1; have := HH1.out.bb; omega
    have hcell2 := hk12.heap HH1.out.cell hbo
    have HRUN := Lib.hid hrun; have HK12 := Lib.hid hk12; have HROW := Lib.hid hrow; have HF2 := Lib.hid hf2; have HC2 := Lib.hid hcell2
    have HKB := Lib.hid (((Keeps.refl [] w1).drew).alloc (.cells (evC x tx rd) 42))
    obtain ⟨a9, c9, rfl, hc9, hm9⟩ := hrow.shape
    have hs1 : w1.drew.cell? ⟨b, 0, none⟩ = some (.slice a0 T.length cp) := hv
    have s2 : w2.cell? ⟨b, 0, none⟩ = some (.slice a0 T.length cp) := by simp [World.cell?, hcell2]
    have s3 : w2.frozen? ⟨b, 0, none⟩ = false := by simp [World.frozen?, hcell2]
    have HC3 := Lib.hid (heap_setCell_same w2 b 0 _ 29 (.slice a9 (T ++ [(x, tx, rd)]).length c9) hcell2)
    have HK3 := Lib.hid ((Keeps.refl [b] w2).setCell ⟨b, 0, none⟩ (.slice a9 (T ++ [(x, tx, rd)]).length c9) (.inl (by simp)))
    have HNE := Lib.hid hbo
    subst hz
    have HZ2 := Lib.hid hz2
    have hwB := lt_of_block HX1.out
    have HNB := Lib.hid (show B ≠ b from fun e => by have h1 := HH1.out.bb; have h2 := hbase; omega)
    have HNO := Lib.hid (show B ∉ own (.slice a0 T.length cp) from fun hq => HOW.out B hq rfl)
    have HCA := Lib.hid (show (w1.drew.alloc (.cells (evC x tx rd) 42)).cell? ⟨b, 0, none⟩ = some (.slice a0 T.length cp) from HKB.out.cell (by simp only [World.cell?, HH1.out.cell]; rfl) (by simp))
    clear hrun hk12 hrow hf2 hcell2 hk2 hbo hv hz2 s2 s3 HC3 HK3
    go_wp2_with fail
    obtain ⟨S, hS⟩ : ∃ S : World → Prop, S = fun y => Keeps (b :: own (.slice a0 T.length cp)) w1 y := ⟨_, rfl⟩
    have HSE := Lib.hid hS
    have hSD : S w1.drew := by rw [hS]; exact (Keeps.refl _ _).drew
    have HS2 := Lib.hid (fun (w' : World) (h : S w') => show w'.rangeAt B 0 (evC x tx rd).toList from by rw [hS] at h; exact fun i u hi => h.cell (by have := HX1.out; simp only [World.cell?, this, Nat.zero_add]; simpa using hi) (by simp; exact ⟨HNB.out, HNO.out⟩))
    clear hS
    refine wp_region_noPanic ?_
    refine wp_region_held_drew (S := S) (by kernel_rfl) hSD (fun hHeld => ?_)
    apply wpAnyH_take (i := 0)
    · simp only [List.getElem?_toArray]; rfl
    · kernel_rfl
    · kernel_rfl
    · kernel_rfl
    · exact fun _ _ _ h => h
    · exact Or.inl ⟨by rfl, by intro w hSw; go_simp; try with_reducible rfl⟩
    · assumption
    try simp only [Act.put, List.setIfInBounds_toArray, List.set_cons_zero, List.set_cons_succ]
    apply wpAnyH_take (i := 1)
    · simp only [List.getElem?_toArray]; rfl
    · kernel_rfl
    · kernel_rfl
    · kernel_rfl
    · exact fun _ _ _ h => h
    · exact Or.inl ⟨by rfl, by intro w hSw; go_simp; try with_reducible rfl⟩
    · assumption
    try simp only [Act.put, List.setIfInBounds_toArray, List.set_cons_zero, List.set_cons_succ]
    apply wpAnyH_take (i := 2)
    · simp only [List.getElem?_toArray]; rfl
    · kernel_rfl
    · kernel_rfl
    · kernel_rfl
    · exact fun _ _ _ h => h
    · exact Or.inl ⟨by rfl, by intro w hSw; go_simp; try with_reducible rfl⟩
    · assumption
    try simp only [Act.put, List.setIfInBounds_toArray, List.set_cons_zero, List.set_cons_succ]
    apply wpAnyH_take (i := 3)
    · simp only [List.getElem?_toArray]; rfl
    · kernel_rfl
    · kernel_rfl
    · kernel_rfl
    · exact fun _ _ _ h => h
    · exact Or.inl ⟨by rfl, by intro w hSw; go_simp; try with_reducible rfl⟩
    · assumption
    try simp only [Act.put, List.setIfInBounds_toArray, List.set_cons_zero, List.set_cons_succ]
    apply wpAnyH_take (i := 5)
    · simp only [List.getElem?_toArray]; rfl
    · kernel_rfl
    · kernel_rfl
    · kernel_rfl
    · exact fun _ _ _ h => h
    · exact yields_ev_mid (by rfl) _ rfl B 0 rfl HS2.out
    · assumption
    try simp only [Act.put, List.setIfInBounds_toArray, List.set_cons_zero, List.set_cons_succ]
    apply wpAnyH_ready (rs := [4, 6])
    · kernel_rfl
    · simp
    apply AllReadyH.cons
    · simp only [List.getElem?_toArray]; rfl
    · intro K hK
      rw [if_pos (by rfl)]
      go_wp2_with fail
      refine hK.out _ _ ?_ (fun hHeld => ?_)
      · exact (by rw [HSE.out]; exact (Keeps.refl _ _).drew)
      clear hK K
      try simp only [Act.put, List.setIfInBounds_toArray, List.set_cons_zero, List.set_cons_succ]
      apply wpAnyH_ready (rs := [6])
      · kernel_rfl
      · simp
      apply AllReadyH.cons (hs := AllReadyH.nil)
      · simp only [List.getElem?_toArray]; rfl
      intro K hK
      rw [if_pos (by rfl)]
      refine wp_build_ev1 rfl rfl ?_
      refine hK.out _ _ ?_ (fun hHeld => ?_)
      · exact (by rw [HSE.out]; exact HKB.out.more (by simp))
      clear hK K
      try simp only [Act.put, List.setIfInBounds_toArray, List.set_cons_zero, List.set_cons_succ]
      apply wpAnyH_ready (rs := [7])
      · kernel_rfl
      · simp
      apply AllReadyH.cons (hs := AllReadyH.nil)
      · simp only [List.getElem?_toArray]; rfl
      intro K hK
      rw [if_pos (by rfl)]
      refine wp_append_run _ _ 22 rfl _ _ _ w2 rfl rfl HRUN.out ?_
      refine hK.out _ _ ?_ (fun hHeld => ?_)
      · exact (by rw [HSE.out]; exact HK12.out.more (fun q hq => List.mem_cons_of_mem _ hq))
      clear hK K
      try simp only [Act.put, List.setIfInBounds_toArray, List.set_cons_zero, List.set_cons_succ]
      apply wpAnyH_take (i := 8)
      · simp only [List.getElem?_toArray]; rfl
      · kernel_rfl
      · kernel_rfl
      · kernel_rfl
      · exact fun _ _ _ h => h
      · exact Or.inl ⟨by rfl, by intro w hSw; go_simp; try with_reducible rfl⟩
      · assumption
      try simp only [Act.put, List.setIfInBounds_toArray, List.set_cons_zero, List.set_cons_succ]
      apply wpAnyH_take (i := 9)
      · simp only [List.getElem?_toArray]; rfl
      · kernel_rfl
      · kernel_rfl
      · kernel_rfl
      · exact fun _ _ _ h => h
      · exact Or.inl ⟨by rfl, by intro w hSw; go_simp; try with_reducible rfl⟩
      · assumption
      try simp only [Act.put, List.setIfInBounds_toArray, List.set_cons_zero, List.set_cons_succ]
      apply wpAnyH_ready (rs := [10])
      · kernel_rfl
      · simp
      apply AllReadyH.cons (hs := AllReadyH.nil)
      · simp only [List.getElem?_toArray]; rfl
      intro K hK
      rw [if_pos (by rfl)]
      refine wp_put_slice rfl rfl rfl rfl HC2.out ?_
      intro w3 h3 k3
      have hk13 : Keeps (b :: own (.slice a0 T.length cp)) w1 w3 := (HK12.out.more (fun q hq => List.mem_cons_of_mem _ hq)).step (k3.more (by simp)) (fun q hq => hq)
      refine hK.out _ _ ?_ (fun hHeld => ?_)
      · exact (by rw [HSE.out]; exact hk13)
      clear hK K
      try simp only [Act.put, List.setIfInBounds_toArray, List.set_cons_zero, List.set_cons_succ]
      refine wpAnyH_done (by kernel_rfl) ?_ _
      refine NoPanic.normal ?_
      have HFIN := Lib.hid (show Step7Post N b base w (.slice a0 T.length cp) T x (.returned (.int .i64 0)) w3 from by
        have hk2e : Keeps (own (.slice a0 T.length cp)) w1 w2 := HK12.out
        have hNo : ∀ q ∈ own (.slice a0 T.length cp), N ≤ q := fun q hq => by have := (row_base HH1.out.row q hq).1; have := HH1.out.nb; have := HH1.out.bb; omega
        have hNb : N ≤ b := HH1.out.nb
        have hsm : Same N w1 w3 := hk13.same HN1.out (fun q hq => by rcases List.mem_cons.1 hq with rfl | hq; exact hNb; exact hNo q hq)
        refine ⟨by rw [← HR.out], _, T ++ [(x, tx, rd)], ⟨h3, row_old HROW.out k3 (fun q hq hb => ?_), fun p hp => ?_, hNb, HH1.out.bb⟩, ?_, by simp, ?_, ?_⟩
        · have h1 := (row_base HROW.out q hq).1
          have h2 := HH1.out.bb
          simp at hb
          omega
        · rcases List.mem_append.1 hp with hp | hp
          · exact (HH1.out.ok p hp).same hsm
          · simp at hp; subst hp; exact HT1.out.same hsm
        · rw [hNext_yes _ _ HZ2.out]; simp [evsOf]
        · exact (HK1.out.more (by simp)).step hk13 (fun q hq => hq)
        · exact FSub.mono HF2.out HK1.out.size)
      clear hHeld h3 k3 hk13 HS2 hSD
      go_wp2_with fail
      go_ret
      exact HFIN.out
    apply AllReadyH.cons (hs := AllReadyH.nil)
    · simp only [List.getElem?_toArray]; rfl
    · intro K hK
      rw [if_pos (by rfl)]
      refine wp_build_ev1 rfl rfl ?_
      refine hK.out _ _ ?_ (fun hHeld => ?_)
      · exact (by rw [HSE.out]; exact HKB.out.more (by simp))
      clear hK K
      try simp only [Act.put, List.setIfInBounds_toArray, List.set_cons_zero, List.set_cons_succ]
      generalize hW9 : w1.drew.alloc (.cells (evC x tx rd) 42) = W9 at *
      clear hW9
      have hs2 := HCA.out
      apply wpAnyH_ready (rs := [4])
      · kernel_rfl
      · simp
      apply AllReadyH.cons (hs := AllReadyH.nil)
      · simp only [List.getElem?_toArray]; rfl
      intro K hK
      rw [if_pos (by rfl)]
      go_wp2_with fail
      refine hK.out _ _ ?_ (fun hHeld => ?_)
      · exact (by rw [HSE.out]; exact HKB.out.more (by simp))
      clear hK K
      try simp only [Act.put, List.setIfInBounds_toArray, List.set_cons_zero, List.set_cons_succ]
      clear hs2
      apply wpAnyH_ready (rs := [7])
      · kernel_rfl
      · simp
      apply AllReadyH.cons (hs := AllReadyH.nil)
      · simp only [List.getElem?_toArray]; rfl
      intro K hK
      rw [if_pos (by rfl)]
      refine wp_append_run _ _ 22 rfl _ _ _ w2 rfl rfl HRUN.out ?_
      refine hK.out _ _ ?_ (fun hHeld => ?_)
      · exact (by rw [HSE.out]; exact HK12.out.more (fun q hq => List.mem_cons_of_mem _ hq))
      clear hK K
      try simp only [Act.put, List.setIfInBounds_toArray, List.set_cons_zero, List.set_cons_succ]
      apply wpAnyH_take (i := 8)
      · simp only [List.getElem?_toArray]; rfl
      · kernel_rfl
      · kernel_rfl
      · kernel_rfl
      · exact fun _ _ _ h => h
      · exact Or.inl ⟨by rfl, by intro w hSw; go_simp; try with_reducible rfl⟩
      · assumption
      try simp only [Act.put, List.setIfInBounds_toArray, List.set_cons_zero, List.set_cons_succ]
      apply wpAnyH_take (i := 9)
      · simp only [List.getElem?_toArray]; rfl
      · kernel_rfl
      · kernel_rfl
      · kernel_rfl
      · exact fun _ _ _ h => h
      · exact Or.inl ⟨by rfl, by intro w hSw; go_simp; try with_reducible rfl⟩
      · assumption
      try simp only [Act.put, List.setIfInBounds_toArray, List.set_cons_zero, List.set_cons_succ]
      apply wpAnyH_ready (rs := [10])
      · kernel_rfl
      · simp
      apply AllReadyH.cons (hs := AllReadyH.nil)
      · simp only [List.getElem?_toArray]; rfl
      intro K hK
      rw [if_pos (by rfl)]
      refine wp_put_slice rfl rfl rfl rfl HC2.out ?_
      intro w3 h3 k3
      have hk13 : Keeps (b :: own (.slice a0 T.length cp)) w1 w3 := (HK12.out.more (fun q hq => List.mem_cons_of_mem _ hq)).step (k3.more (by simp)) (fun q hq => hq)
      refine hK.out _ _ ?_ (fun hHeld => ?_)
      · exact (by rw [HSE.out]; exact hk13)
      clear hK K
      try simp only [Act.put, List.setIfInBounds_toArray, List.set_cons_zero, List.set_cons_succ]
      refine wpAnyH_done (by kernel_rfl) ?_ _
      refine NoPanic.normal ?_
      have HFIN := Lib.hid (show Step7Post N b base w (.slice a0 T.length cp) T x (.returned (.int .i64 0)) w3 from by
        have hk2e : Keeps (own (.slice a0 T.length cp)) w1 w2 := HK12.out
        have hNo : ∀ q ∈ own (.slice a0 T.length cp), N ≤ q := fun q hq => by have := (row_base HH1.out.row q hq).1; have := HH1.out.nb; have := HH1.out.bb; omega
        have hNb : N ≤ b := HH1.out.nb
        have hsm : Same N w1 w3 := hk13.same HN1.out (fun q hq => by rcases List.mem_cons.1 hq with rfl | hq; exact hNb; exact hNo q hq)
        refine ⟨by rw [← HR.out], _, T ++ [(x, tx, rd)], ⟨h3, row_old HROW.out k3 (fun q hq hb => ?_), fun p hp => ?_, hNb, HH1.out.bb⟩, ?_, by simp, ?_, ?_⟩
        · have h1 := (row_base HROW.out q hq).1
          have h2 := HH1.out.bb
          simp at hb
          omega
        · rcases List.mem_append.1 hp with hp | hp
          · exact (HH1.out.ok p hp).same hsm
          · simp at hp; subst hp; exact HT1.out.same hsm
        · rw [hNext_yes _ _ HZ2.out]; simp [evsOf]
        · exact (HK1.out.more (by simp)).step hk13 (fun q hq => hq)
        · exact FSub.mono HF2.out HK1.out.size)
      clear hHeld h3 k3 hk13 HS2 hSD
      go_wp2_with fail
      go_ret
      exact HFIN.out
  · have t1 : (R == 0) = false := by simpa using hz
    have HFIN := Lib.hid (show Step7Post N b base w v T x (.returned (.int .i64 R)) w1 from
      ⟨by rw [← HR.out], v, T, HH1.out, (hNext_no _ _ (by rw [← HR.out]; exact hz)).symm, by omega, HK1.out.more (by simp), FSub.refl _ _⟩)
    clear hz
    go_wp2_with fail
    go_ret
    exact HFIN.out
end Go.Proofs.YtlaccndjlfpjbaaGreatDoor
/-
  HistoryAll: its walk.
-/
namespace Go.Proofs.YtlaccndjlfpjbaaGreatDoor
open Go.RowKit Go.Maps
/-- The document's history in the law, and what it took. -/
structure DInv (N : Nat) (w0 wr : World) (b : Nat) (v : Value) (T : EvL) (L : List Ev) : Prop where
  at_ : R7At N b (b + 1) wr v T
  ev : evsOf T = L
  kp : Keeps [] w0 wr
  lo : w0.heap.size ≤ b ∧ b + 1 ≤ wr.heap.size
theorem DInv.new {N : Nat} {w0 wr w' : World} {b : Nat} {v : Value} {T : EvL} {L : List Ev} (h : DInv N w0 wr b v T L) (hk : Keeps [] wr w') : DInv N w0 w' b v T L :=
  ⟨h.at_.new hk, h.ev, h.kp.trans hk (FSub.refl _ _), h.lo.1, Nat.le_trans h.lo.2 hk.size⟩
theorem DInv.made {N : Nat} {w0 wr : World} (hN : N ≤ w0.heap.size) (hk : Keeps [] w0 wr) : DInv N w0 (wr.alloc (.cells #[.slice none 0 0] 29)) wr.heap.size (.slice none 0 0) [] [] :=
  ⟨⟨heap_alloc_new wr _, ⟨rfl, .inl ⟨rfl, rfl⟩⟩, by simp, Nat.le_trans hN hk.size, by omega⟩, rfl, hk.alloc _, hk.size, by simp⟩
theorem DInv.step {N : Nat} {w0 wr w' : World} {b : Nat} {v : Value} {T : EvL} {L : List Ev} (h : DInv N w0 wr b v T L) {x : Ev} {e : Ending} (hs : Step7Post N b (b + 1) wr v T x e w') :
    e = .returned (.int .i64 (hErr opChk mayOf L x)) ∧ ∃ v' T', DInv N w0 w' b v' T' (hNext opChk mayOf L x) ∧ T'.length ≤ T.length + 1 ∧ Keeps (b :: own v) wr w' := by
  obtain ⟨he, v', T', h1, h2, h3, h4, _⟩ := hs
  rw [h.ev] at he h2
  refine ⟨he, v', T', ⟨h1, h2, h.kp.trans h4 (fun q hq => .inr ?_), h.lo.1, Nat.le_trans h.lo.2 h4.size⟩, h3, h4⟩
  rcases List.mem_cons.1 hq with rfl | hq
  · exact h.lo.1
  · exact Nat.le_trans (Nat.le_trans h.lo.1 (Nat.le_succ b)) (row_base h.at_.row q hq).1
set_option maxHeartbeats 8000000
set_option maxRecDepth 100000
theorem HistoryAll_any (w : World) (hG : Glob4 w) (l : List Ev) (hi : ∀ x ∈ l, x.In) (v : Value) {N : Nat} (hv : Evs N w v l) (hN : N ≤ w.heap.size) :
    Calls Tryz.prog 4 #[v] w fun e w' => e = .returned (.bool true) ∧ Keeps [] w w' := by
  have HFEW := Lib.hid (few7_any w l v hv hN)
  have HV := Lib.hid hv
  obtain ⟨a, c, rfl, hc, hm, hrow⟩ := hv
  have HR := Lib.hid hrow; have HG := Lib.hid hG; have HL := Lib.hid hi
  have hnn : (l.length : Int) ≤ 9223372036854775807 := by omega
  clear hrow hG hi hm
  generalize hn2 : l.length = n at *
  have HN2 := Lib.hid hn2
  clear hn2
  go_enter Tryz.func4, Tryz.ntmps4
  go_wp2_with fail
  refine (HFEW.out).mono ?_; rintro e w0 ⟨B, rfl, hB, hw0⟩
  rw [hw0]
  clear hw0 HFEW
  cases B with
  | false =>
    have HAW := Lib.hid (awake7_any w HG.out)
    clear hB HR HV
    go_wp2_with fail
    refine (HAW.out).mono ?_; rintro e w1 ⟨rfl, hk1⟩
    go_wp2_with fail
    go_ret
    exact ⟨rfl, hk1⟩
  | true =>
    have h120 : n ≤ 120 := by have := hB rfl; rw [HN2.out] at this; exact this
    clear hB
    have HD0 := Lib.hid (DInv.made (N := N) hN (Keeps.refl [] w))
    obtain ⟨b, hb⟩ : ∃ b, b = w.heap.size := ⟨_, rfl⟩
    go_wp2_with fail
    rw [← hb] at HD0 ⊢
    clear hb
    go_loopw [4, 5, 6] (fun nv ev i wr => ∃ (nn k : Nat) (ee : Int) (tv : Value) (T : EvL), nv = .int .i64 nn ∧ ev = .int .i64 ee ∧ i = .int .i64 k ∧ k ≤ n ∧ (∀ j, j < nn → hErr opChk mayOf (l.take j) (l.getD j evZero) = 0) ∧ ((ee = 0 ∧ k = nn) ∨ (ee ≠ 0 ∧ k = nn + 1 ∧ ee = hErr opChk mayOf (l.take nn) (l.getD nn evZero))) ∧ HistOk (l.take nn) ∧ T.length ≤ nn ∧ DInv N w wr b tv T (l.take nn)) (fun _ _ i _ => n - (intOf i).toNat)
    case atStart => exact ⟨0, 0, 0, _, [], rfl, rfl, rfl, by omega, fun j hj => by omega, .inl ⟨rfl, rfl⟩, HistOk.nil, by simp, HD0.out⟩
    case round =>
      clear HD0
      obtain ⟨nn, k, ee, tv, T, rfl, rfl, rfl, hk, hall, hcase, hok, hT, hD⟩ := hrel
      by_cases hlt : k < n ∧ ee = 0
      · obtain ⟨hlt, rfl⟩ := hlt
        obtain rfl : k = nn := by rcases hcase with ⟨_, h⟩ | ⟨h, _⟩; exact h; exact absurd rfl h
        have hlt2 : k < l.length := by have := HN2.out; omega
        obtain ⟨bk, o, rfl, hbk, hcell⟩ := HR.out (fun e => by rw [e] at hlt2; simp at hlt2)
        obtain ⟨tx, rd, ht, hr⟩ := hcell k hlt
        have hmem : l.getD k evZero ∈ l := getD_in evZero hlt2
        have htk := take_nextD evZero hlt2
        have hxi := HL.out _ hmem
        have hsame := hD.kp.same hN (by simp)
        have hr2 := rangeAt_same hr hsame hbk
        have hok2 : HistOk (evsOf T) := by rw [hD.ev]; exact hok
        have HST := Lib.hid (r7Step_any wr hD.at_ hD.lo.2 (by omega) hok2 (l.getD k evZero) hxi tx rd (ht.same hsame))
        have HD := Lib.hid hD; have HALL := Lib.hid hall; have HOK := Lib.hid hok; have HTK := Lib.hid htk; have HXI := Lib.hid hxi
        have HX0 : ∃ x, x = l.getD k evZero := ⟨_, rfl⟩
        obtain ⟨x, hx⟩ := HX0
        rw [← hx] at hr2 HST HTK HXI
        have HX := Lib.hid hx
        have HR2 := Lib.hid hr2
        clear hcell ht hr hmem htk hD hok hxi hsame hok2 hall hcase hx hr2
        go_wp2_with ((with_reducible refine wpList_load_evM ?_ HR2.out ?_); exact rfl)
        refine (HST.out).mono ?_; intro e w2 hst
        obtain ⟨he, tv', T', hD', hT', _⟩ := HD.out.step hst
        subst he
        have HD2 := Lib.hid hD'
        clear HST hst hD'
        by_cases hz : hErr opChk mayOf (l.take k) x = 0
        · have hnx : hNext opChk mayOf (l.take k) x = l.take (k + 1) := by rw [hNext_yes _ _ hz, HTK.out]
          have HZ := Lib.hid hz; have HNX := Lib.hid hnx
          rw [hz]
          clear hz hnx
          go_wp2_with fail
          go_roundw
          case rel => exact ⟨k + 1, k + 1, 0, tv', T', by go_num, rfl, by go_num, by omega,
            fun j hj => (by omega : j < k ∨ j = k).elim (HALL.out j) (fun e => by subst e; rw [← HX.out]; exact HZ.out), .inl ⟨rfl, rfl⟩, by rw [← HNX.out]; exact HOK.out.next HXI.out, by omega, by rw [← HNX.out]; exact HD2.out⟩
          case measure => simp [intOf]; omega
        · have hnx : hNext opChk mayOf (l.take k) x = l.take k := hNext_no _ _ hz
          rw [hnx] at HD2
          have HEE := Lib.hid (show hErr opChk mayOf (l.take k) x = hErr opChk mayOf (l.take k) (l.getD k evZero) by rw [← HX.out])
          have HL2 := Lib.hid (show T'.length ≤ k by
            have h1 := HD2.out.ev
            have h2 := congrArg List.length h1
            simp [evsOf] at h2
            omega)
          have HNZ := Lib.hid hz
          generalize hErr opChk mayOf (l.take k) x = E at *
          have t1 : (E == 0) = false := by simpa using hz
          clear hz hnx
          go_wp2_with fail
          go_roundw
          case rel => exact ⟨k, k + 1, E, tv', T', rfl, rfl, by go_num, by omega, HALL.out, .inr ⟨HNZ.out, rfl, HEE.out⟩, HOK.out, HL2.out, HD2.out⟩
          case measure => simp [intOf]; omega
      · have hnn2 : nn ≤ n := by rcases hcase with ⟨_, h⟩ | ⟨_, h, _⟩ <;> omega
        have hlen := HN2.out
        have hRUN : hRun [] l = (nn, ee) := by
          rw [hRun_stop l [] nn (fun j hj => by simpa using hall j hj) (by omega) (fun h => by
            rcases hcase with ⟨h1, h2⟩ | ⟨h1, h2, h3⟩
            · exact absurd ⟨by omega, h1⟩ hlt
            · rw [List.nil_append, ← h3]; exact h1)]
          rcases hcase with ⟨h1, h2⟩ | ⟨h1, h2, h3⟩
          · rw [if_neg (by intro h; exact hlt ⟨by omega, h1⟩), h1]
          · rw [if_pos (by omega), List.nil_append, ← h3]
        have hall2 := hAll_any wr (HG.out.new hD.kp) l HL.out (by omega) _ (HV.out.same (hD.kp.same hN (by simp))) (Nat.le_trans hN hD.kp.size)
        rw [hRUN] at hall2
        have HALL2 := Lib.hid hall2; have HKW := Lib.hid hD.kp
        have tq : ((nn : Int) == (nn : Int)) = true := by simp
        have tr : (ee == ee) = true := by simp
        have hor : n ≤ k ∨ (k < n ∧ ee ≠ 0) := by
          by_cases h : k < n
          · exact .inr ⟨h, fun e => hlt ⟨h, e⟩⟩
          · exact .inl (by omega)
        clear hRUN hall2 hD hok hT hcase hall hlt hlen hnn2
        rcases hor with hge | ⟨hl, hne⟩
        · obtain rfl : k = n := by omega
          go_wp2_with fail
          refine (HALL2.out).mono ?_; rintro e w2 ⟨rfl, hk2⟩
          have HK2 := Lib.hid (HKW.out.trans hk2 (FSub.refl _ _))
          have HAW := Lib.hid (awake7_any w2 (HG.out.new HK2.out))
          clear hk2 HALL2
          go_wp2_with fail
          refine (HAW.out).mono ?_; rintro e w3 ⟨rfl, hk3⟩
          go_wp2_with fail
          go_ret
          exact ⟨rfl, HK2.out.trans hk3 (FSub.refl _ _)⟩
        · have t0 : (ee == 0) = false := by simpa using hne
          clear hne
          go_wp2_with fail
          refine (HALL2.out).mono ?_; rintro e w2 ⟨rfl, hk2⟩
          have HK2 := Lib.hid (HKW.out.trans hk2 (FSub.refl _ _))
          have HAW := Lib.hid (awake7_any w2 (HG.out.new HK2.out))
          clear hk2 HALL2
          go_wp2_with fail
          refine (HAW.out).mono ?_; rintro e w3 ⟨rfl, hk3⟩
          go_wp2_with fail
          go_ret
          exact ⟨rfl, HK2.out.trans hk3 (FSub.refl _ _)⟩
end Go.Proofs.YtlaccndjlfpjbaaGreatDoor
