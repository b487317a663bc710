/-
  The document's history: May, Step.
-/
import Derived.Test.YtlaccndjlfpjbaaGreatDoorB21
import Derived.Test.YtlaccndjlfpjbaaGreatDoorB22
import Derived.Test.YtlaccndjlfpjbaaGreatDoorB18
import Derived.Test.YtlaccndjlfpjbaaGreatDoorB19
import Derived.Test.YtlaccndjlfpjbaaGreatDoorB09
set_option linter.unusedSimpArgs false
set_option linter.unusedVariables false
namespace Go.Proofs.YtlaccndjlfpjbaaGreatDoor
open Go.RowKit Go.Maps
section
variable {ck : Int → Opn → Int} {my : Int → Int → Int → Int}
theorem hErr_bad {L : List Ev} {x : Ev} (h : evGood x = false) : hErr ck my L x = 4 := by unfold hErr; rw [if_pos h]
theorem hErr_cfg0 {x : Ev} (h : evGood x = true) (hk : x.k = 1) : hErr ck my [] x = 0 := by unfold hErr; rw [if_neg (by rw [h]; simp), if_pos hk, if_pos rfl]
theorem hErr_cfg {L : List Ev} {x : Ev} (h : evGood x = true) (hk : x.k = 1) (hL : L ≠ []) : hErr ck my L x = 11 := by unfold hErr; rw [if_neg (by rw [h]; simp), if_pos hk, if_neg hL]
theorem hErr_nil {x : Ev} (h : evGood x = true) (hk : x.k ≠ 1) : hErr ck my [] x = 11 := by unfold hErr; rw [if_neg (by rw [h]; simp), if_neg hk]
theorem hErr_cons {g : Ev} {r : List Ev} {x : Ev} (h : evGood x = true) (hk : x.k ≠ 1) : hErr ck my (g :: r) x = if hWrong g.g.m x.k then 10 else if hOpens x then hOpenE ck (g :: r) g x else hEndE my (g :: r) x := by unfold hErr; rw [if_neg (by rw [h]; simp), if_neg hk]
end
theorem wp_build_ev1 {o : Oper} {a : Act} {w : World} {K : Act → World → Prop} {Q : Exit → Act → World → Prop} {y : Operand} {x : Ev} {tx rd : Value} (ho : o.op = .buildSlice 22 1 #[(0, y)]) (hy : a.eval y = .agg (evC x tx rd))
    (h : K (a.put o.dst (.slice (some ⟨w.heap.size, 0, none⟩) 1 1)) (w.alloc (.cells (evC x tx rd) 42))) : o.wp Tryz.prog a w K Q := by
  obtain ⟨i0, hi, hz0, hz1, hz2⟩ := info_parts Tryz.infoE
  refine wp_buildSlice 22 42 1 #[(0, y)] ho (evC x tx rd) i0 _ Tryz.underlying22 hi hz0 (by rw [hz1]; decide) (by rw [hz1]; decide) ?_ h
  rw [hz1]
  have e : (#[(0, y)].map fun (i, z) => (i, a.eval z)).toList = [(0, a.eval y)] := by simp
  rw [e, hy]
  exact fill_ev x tx rd _ (by simp)
set_option maxHeartbeats 8000000
set_option maxRecDepth 100000
theorem r7May_any (w : World) {N b base : Nat} {v : Value} {T : EvL} (hH : R7At N b base w v T) (hn : T.length ≤ 1000) (hL : HistOk (evsOf T)) (x : Ev) (hx : x.In) {M : Nat} (tx rd : Value) (ht : EvAt M w tx rd x) (hM : M ≤ w.heap.size) :
    Calls Tryz.prog 30 #[.pointer (some ⟨b, 0, none⟩), .agg (evC x tx rd)] w fun e w' => e = .returned (.int .i64 (hErr opChk mayOf (evsOf T) x)) ∧ Keeps [] w w' := by
  have hk0 := (Keeps.refl [] w).alloc (.cells (evC x tx rd) 42)
  have hX := heap_alloc_new w (.cells (evC x tx rd) 42)
  have hH0 := hH.new hk0
  have HMAY := Lib.hid (refMay5_any _ x hx tx rd (ht.new hk0 hM) (Nat.le_trans hM hk0.size))
  have HK0 := Lib.hid hk0; have HL := Lib.hid hL; have HXI := Lib.hid hx; have HT0 := Lib.hid (ht.new hk0 hM); have HM := Lib.hid (Nat.le_trans hM hk0.size)
  have HH0 := Lib.hid hH0
  generalize hR : hErr opChk mayOf (evsOf T) x = R at *
  have HR := Lib.hid hR
  clear hk0 hL hH hH0 ht hR hx hM
  go_enter Tryz.func30, Tryz.ntmps30
  go_wp2_with (first | ((with_reducible apply wpList_load_ev); exact rfl; (first | assumption | (refine heap_alloc_lt ?_; assumption) | (refine heap_alloc_lt (heap_alloc_lt ?_); assumption) | exact heap_alloc_at (by simp)); exact rfl))
  generalize w.alloc _ = W at *
  generalize w.heap.size = B at *
  refine (HMAY.out).mono ?_; rintro e w1 ⟨rfl, hk1⟩
  have HX1 := Lib.hid (hk1.heap hX (by simp))
  have HKW := Lib.hid (HK0.out.trans hk1 (FSub.refl _ _))
  have HT1 := Lib.hid (HT0.out.new hk1 HM.out); have HM1 := Lib.hid (Nat.le_trans HM.out hk1.size); have HH1 := Lib.hid (HH0.out.new hk1)
  clear hk1 hX HT0 HM HH0 HMAY HK0
  obtain ⟨a, cp, hv0, hc, hm⟩ := HH1.out.row.shape
  have hv : w1.cell? ⟨b, 0, none⟩ = some (.slice a T.length cp) := by simp only [World.cell?, HH1.out.cell, hv0]; rfl
  have hX := HX1.out
  have e0 := ev_cell hX 0 (evC_0 x tx rd)
  cases hg : evGood x with
  | false =>
    obtain rfl : R = 4 := HR.out.symm.trans (hErr_bad hg)
    clear HR hg hX
    go_wp2_with fail
    go_ret
    exact ⟨rfl, HKW.out⟩
  | true =>
    have HG := Lib.hid hg
    have hgn := good_need hg
    have h8 := (good_mics hg).2
    rcases kind_cases hgn.2.2 with hk | hk | hk | hk | hk | hk | hk
    · rw [hk] at e0
      by_cases hT : T = []
      · obtain rfl : R = 0 := HR.out.symm.trans (by subst hT; exact hErr_cfg0 hg hk)
        have hl : T.length = 0 := by rw [hT]; rfl
        rw [hl] at hv
        clear HR hg hX hgn hT hl hv0 hc
        go_wp2_with fail
        go_ret
        exact ⟨rfl, HKW.out⟩
      · obtain rfl : R = 11 := HR.out.symm.trans (hErr_cfg hg hk (by intro e; exact hT (by simpa [evsOf] using e)))
        have hl : (0 : Int) < T.length := by have := List.length_pos_iff.2 hT; omega
        clear HR hg hX hgn hT hv0
        go_wp2_with fail
        go_ret
        exact ⟨rfl, HKW.out⟩
    · skip
      rw [hk] at e0
      by_cases hT : T = []
      · obtain rfl : R = 11 := HR.out.symm.trans (by subst hT; exact hErr_nil hg (by omega))
        have hl : T.length = 0 := by rw [hT]; rfl
        rw [hl] at hv
        clear HR hg hX hgn hT hl hv0 hc
        go_wp2_with fail
        go_ret
        exact ⟨rfl, HKW.out⟩
      · skip
        obtain ⟨hb0, hcap, hge, hg1, hg2, -, -, hrng⟩ := HH1.out.get hT
        rw [hv0] at hge
        simp at hge
        obtain ⟨rfl, rfl⟩ := hge
        have hT0 : 0 < T.length := List.length_pos_iff.2 hT
        have hTp : (0 : Int) < T.length := by omega
        obtain ⟨g, hgd⟩ : ∃ g, T[0].1 = g := ⟨_, rfl⟩
        have hgh : (evsOf T).head? = some g := by rw [List.head?_eq_getElem?]; simp [evsOf, List.getElem?_eq_getElem hT0, hgd]
        obtain ⟨r, hgr⟩ : ∃ r, evsOf T = g :: r := by
          cases he : evsOf T with
          | nil => rw [he] at hgh; cases hgh
          | cons y r => rw [he] at hgh; simp at hgh; exact ⟨r, by rw [hgh]⟩
        have d12 : w1.cell? ⟨hb0, 12, none⟩ = some (.int .u8 g.g.m) := by
          have := (hrng 0 hT0).1 12 _ rfl
          rw [hgd] at this; simpa using this
        have HRC := Lib.hid (show (if hWrong g.g.m x.k then (10 : Int) else if hOpens x then hOpenE opChk (evsOf T) g x else hEndE mayOf (evsOf T) x) = R by rw [← HR.out, hgr]; exact (hErr_cons HG.out (by omega)).symm)
        clear hrng hgd hgr HR hgn hg hv0 hTp
        generalize hTl : T.length = tl at *
        have HTL := Lib.hid hTl
        clear hTl
        have t0 : ((tl : Int) == 0) = false := by simp; omega
        have hTp : (0 : Int) < tl := by omega
        have HHN := Lib.hid hn
        by_cases hm4 : g.g.m = 4
        · rw [hm4] at d12
          obtain rfl : R = 10 := HRC.out.symm.trans (if_pos (by rw [hk]; simp [hWrong, hm4]))
          clear hm4 HRC hX
          go_wp2_with fail
          go_ret
          exact ⟨rfl, HKW.out⟩
        · have t4 : (g.g.m == 4) = false := by simpa using hm4
          have ho : hOpens x = true := by simp [hOpens, hk]
          have hRo : hOpenE opChk (evsOf T) g x = R := by rw [← HRC.out, if_neg (by rw [hk]; simp [hWrong, hm4]), if_pos ho]
          have HRO := Lib.hid hRo; have HO := Lib.hid ho
          clear hm4 HRC ho hRo hk hX
          go_wp2_with (with_reducible refine wpList_load_ev (g := B) (cells := evC x tx rd) rfl HX1.out rfl ?_)
          refine (r7Opens_any w1 x tx rd).mono ?_; rintro e w2 ⟨rfl, hk2⟩
          rw [HO.out]
          have HX2 := Lib.hid (hk2.heap HX1.out (by simp))
          have HOP := Lib.hid (r7opens_any w2 (HH1.out.new hk2) (by rw [HTL.out]; exact HHN.out) HL.out g hgh x HXI.out tx rd (HT1.out.new hk2 HM1.out) (Nat.le_trans HM1.out hk2.size) h8)
          have HK2 := Lib.hid (HKW.out.trans hk2 (FSub.refl _ _))
          rw [HRO.out] at HOP
          clear hk2 e0 d12 hv
          go_wp2_with (with_reducible refine wpList_load_ev (g := B) (cells := evC x tx rd) rfl HX2.out rfl ?_)
          refine (HOP.out).mono ?_; rintro e w3 ⟨rfl, hk3⟩
          go_wp2_with fail
          go_ret
          exact ⟨rfl, HK2.out.trans hk3 (FSub.refl _ _)⟩
    · skip
      rw [hk] at e0
      by_cases hT : T = []
      · obtain rfl : R = 11 := HR.out.symm.trans (by subst hT; exact hErr_nil hg (by omega))
        have hl : T.length = 0 := by rw [hT]; rfl
        rw [hl] at hv
        clear HR hg hX hgn hT hl hv0 hc
        go_wp2_with fail
        go_ret
        exact ⟨rfl, HKW.out⟩
      · skip
        obtain ⟨hb0, hcap, hge, hg1, hg2, -, -, hrng⟩ := HH1.out.get hT
        rw [hv0] at hge
        simp at hge
        obtain ⟨rfl, rfl⟩ := hge
        have hT0 : 0 < T.length := List.length_pos_iff.2 hT
        have hTp : (0 : Int) < T.length := by omega
        obtain ⟨g, hgd⟩ : ∃ g, T[0].1 = g := ⟨_, rfl⟩
        have hgh : (evsOf T).head? = some g := by rw [List.head?_eq_getElem?]; simp [evsOf, List.getElem?_eq_getElem hT0, hgd]
        obtain ⟨r, hgr⟩ : ∃ r, evsOf T = g :: r := by
          cases he : evsOf T with
          | nil => rw [he] at hgh; cases hgh
          | cons y r => rw [he] at hgh; simp at hgh; exact ⟨r, by rw [hgh]⟩
        have d12 : w1.cell? ⟨hb0, 12, none⟩ = some (.int .u8 g.g.m) := by
          have := (hrng 0 hT0).1 12 _ rfl
          rw [hgd] at this; simpa using this
        have HRC := Lib.hid (show (if hWrong g.g.m x.k then (10 : Int) else if hOpens x then hOpenE opChk (evsOf T) g x else hEndE mayOf (evsOf T) x) = R by rw [← HR.out, hgr]; exact (hErr_cons HG.out (by omega)).symm)
        clear hrng hgd hgr HR hgn hg hv0 hTp
        generalize hTl : T.length = tl at *
        have HTL := Lib.hid hTl
        clear hTl
        have t0 : ((tl : Int) == 0) = false := by simp; omega
        have hTp : (0 : Int) < tl := by omega
        have HHN := Lib.hid hn
        by_cases hm4 : g.g.m = 4
        · rw [hm4] at d12
          obtain rfl : R = 10 := HRC.out.symm.trans (if_pos (by rw [hk]; simp [hWrong, hm4]))
          clear hm4 HRC hX
          go_wp2_with fail
          go_ret
          exact ⟨rfl, HKW.out⟩
        · have t4 : (g.g.m == 4) = false := by simpa using hm4
          have ho : hOpens x = false := by simp [hOpens, hk]
          have hRo : hEndE mayOf (evsOf T) x = R := by rw [← HRC.out, if_neg (by rw [hk]; simp [hWrong, hm4]), if_neg (by rw [ho]; simp)]
          have HRO := Lib.hid hRo; have HO := Lib.hid ho
          clear hm4 HRC ho hRo hk hX
          go_wp2_with (with_reducible refine wpList_load_ev (g := B) (cells := evC x tx rd) rfl HX1.out rfl ?_)
          refine (r7Opens_any w1 x tx rd).mono ?_; rintro e w2 ⟨rfl, hk2⟩
          rw [HO.out]
          have HX2 := Lib.hid (hk2.heap HX1.out (by simp))
          have HOP := Lib.hid (r7ends_any w2 (HH1.out.new hk2) (by rw [HTL.out]; exact HHN.out) HL.out x HXI.out tx rd (HT1.out.new hk2 HM1.out) (Nat.le_trans HM1.out hk2.size))
          have HK2 := Lib.hid (HKW.out.trans hk2 (FSub.refl _ _))
          rw [HRO.out] at HOP
          clear hk2 e0 d12 hv
          go_wp2_with (with_reducible refine wpList_load_ev (g := B) (cells := evC x tx rd) rfl HX2.out rfl ?_)
          refine (HOP.out).mono ?_; rintro e w3 ⟨rfl, hk3⟩
          go_wp2_with fail
          go_ret
          exact ⟨rfl, HK2.out.trans hk3 (FSub.refl _ _)⟩
    · skip
      rw [hk] at e0
      by_cases hT : T = []
      · obtain rfl : R = 11 := HR.out.symm.trans (by subst hT; exact hErr_nil hg (by omega))
        have hl : T.length = 0 := by rw [hT]; rfl
        rw [hl] at hv
        clear HR hg hX hgn hT hl hv0 hc
        go_wp2_with fail
        go_ret
        exact ⟨rfl, HKW.out⟩
      · skip
        obtain ⟨hb0, hcap, hge, hg1, hg2, -, -, hrng⟩ := HH1.out.get hT
        rw [hv0] at hge
        simp at hge
        obtain ⟨rfl, rfl⟩ := hge
        have hT0 : 0 < T.length := List.length_pos_iff.2 hT
        have hTp : (0 : Int) < T.length := by omega
        obtain ⟨g, hgd⟩ : ∃ g, T[0].1 = g := ⟨_, rfl⟩
        have hgh : (evsOf T).head? = some g := by rw [List.head?_eq_getElem?]; simp [evsOf, List.getElem?_eq_getElem hT0, hgd]
        obtain ⟨r, hgr⟩ : ∃ r, evsOf T = g :: r := by
          cases he : evsOf T with
          | nil => rw [he] at hgh; cases hgh
          | cons y r => rw [he] at hgh; simp at hgh; exact ⟨r, by rw [hgh]⟩
        have d12 : w1.cell? ⟨hb0, 12, none⟩ = some (.int .u8 g.g.m) := by
          have := (hrng 0 hT0).1 12 _ rfl
          rw [hgd] at this; simpa using this
        have HRC := Lib.hid (show (if hWrong g.g.m x.k then (10 : Int) else if hOpens x then hOpenE opChk (evsOf T) g x else hEndE mayOf (evsOf T) x) = R by rw [← HR.out, hgr]; exact (hErr_cons HG.out (by omega)).symm)
        clear hrng hgd hgr HR hgn hg hv0 hTp
        generalize hTl : T.length = tl at *
        have HTL := Lib.hid hTl
        clear hTl
        have t0 : ((tl : Int) == 0) = false := by simp; omega
        have hTp : (0 : Int) < tl := by omega
        have HHN := Lib.hid hn
        by_cases hm4 : g.g.m = 4
        · rw [hm4] at d12
          have ho : hOpens x = false := by simp [hOpens, hk]
          have hRo : hEndE mayOf (evsOf T) x = R := by rw [← HRC.out, if_neg (by rw [hk]; simp [hWrong, hm4]), if_neg (by rw [ho]; simp)]
          have HRO := Lib.hid hRo; have HO := Lib.hid ho
          clear hm4 HRC ho hRo hk hX
          go_wp2_with (with_reducible refine wpList_load_ev (g := B) (cells := evC x tx rd) rfl HX1.out rfl ?_)
          refine (r7Opens_any w1 x tx rd).mono ?_; rintro e w2 ⟨rfl, hk2⟩
          rw [HO.out]
          have HX2 := Lib.hid (hk2.heap HX1.out (by simp))
          have HOP := Lib.hid (r7ends_any w2 (HH1.out.new hk2) (by rw [HTL.out]; exact HHN.out) HL.out x HXI.out tx rd (HT1.out.new hk2 HM1.out) (Nat.le_trans HM1.out hk2.size))
          have HK2 := Lib.hid (HKW.out.trans hk2 (FSub.refl _ _))
          rw [HRO.out] at HOP
          clear hk2 e0 d12 hv
          go_wp2_with (with_reducible refine wpList_load_ev (g := B) (cells := evC x tx rd) rfl HX2.out rfl ?_)
          refine (HOP.out).mono ?_; rintro e w3 ⟨rfl, hk3⟩
          go_wp2_with fail
          go_ret
          exact ⟨rfl, HK2.out.trans hk3 (FSub.refl _ _)⟩
        · have t4 : (g.g.m == 4) = false := by simpa using hm4
          have ho : hOpens x = false := by simp [hOpens, hk]
          have hRo : hEndE mayOf (evsOf T) x = R := by rw [← HRC.out, if_neg (by rw [hk]; simp [hWrong, hm4]), if_neg (by rw [ho]; simp)]
          have HRO := Lib.hid hRo; have HO := Lib.hid ho
          clear hm4 HRC ho hRo hk hX
          go_wp2_with (with_reducible refine wpList_load_ev (g := B) (cells := evC x tx rd) rfl HX1.out rfl ?_)
          refine (r7Opens_any w1 x tx rd).mono ?_; rintro e w2 ⟨rfl, hk2⟩
          rw [HO.out]
          have HX2 := Lib.hid (hk2.heap HX1.out (by simp))
          have HOP := Lib.hid (r7ends_any w2 (HH1.out.new hk2) (by rw [HTL.out]; exact HHN.out) HL.out x HXI.out tx rd (HT1.out.new hk2 HM1.out) (Nat.le_trans HM1.out hk2.size))
          have HK2 := Lib.hid (HKW.out.trans hk2 (FSub.refl _ _))
          rw [HRO.out] at HOP
          clear hk2 e0 d12 hv
          go_wp2_with (with_reducible refine wpList_load_ev (g := B) (cells := evC x tx rd) rfl HX2.out rfl ?_)
          refine (HOP.out).mono ?_; rintro e w3 ⟨rfl, hk3⟩
          go_wp2_with fail
          go_ret
          exact ⟨rfl, HK2.out.trans hk3 (FSub.refl _ _)⟩
    · skip
      rw [hk] at e0
      by_cases hT : T = []
      · obtain rfl : R = 11 := HR.out.symm.trans (by subst hT; exact hErr_nil hg (by omega))
        have hl : T.length = 0 := by rw [hT]; rfl
        rw [hl] at hv
        clear HR hg hX hgn hT hl hv0 hc
        go_wp2_with fail
        go_ret
        exact ⟨rfl, HKW.out⟩
      · skip
        obtain ⟨hb0, hcap, hge, hg1, hg2, -, -, hrng⟩ := HH1.out.get hT
        rw [hv0] at hge
        simp at hge
        obtain ⟨rfl, rfl⟩ := hge
        have hT0 : 0 < T.length := List.length_pos_iff.2 hT
        have hTp : (0 : Int) < T.length := by omega
        obtain ⟨g, hgd⟩ : ∃ g, T[0].1 = g := ⟨_, rfl⟩
        have hgh : (evsOf T).head? = some g := by rw [List.head?_eq_getElem?]; simp [evsOf, List.getElem?_eq_getElem hT0, hgd]
        obtain ⟨r, hgr⟩ : ∃ r, evsOf T = g :: r := by
          cases he : evsOf T with
          | nil => rw [he] at hgh; cases hgh
          | cons y r => rw [he] at hgh; simp at hgh; exact ⟨r, by rw [hgh]⟩
        have d12 : w1.cell? ⟨hb0, 12, none⟩ = some (.int .u8 g.g.m) := by
          have := (hrng 0 hT0).1 12 _ rfl
          rw [hgd] at this; simpa using this
        have HRC := Lib.hid (show (if hWrong g.g.m x.k then (10 : Int) else if hOpens x then hOpenE opChk (evsOf T) g x else hEndE mayOf (evsOf T) x) = R by rw [← HR.out, hgr]; exact (hErr_cons HG.out (by omega)).symm)
        clear hrng hgd hgr HR hgn hg hv0 hTp
        generalize hTl : T.length = tl at *
        have HTL := Lib.hid hTl
        clear hTl
        have t0 : ((tl : Int) == 0) = false := by simp; omega
        have hTp : (0 : Int) < tl := by omega
        have HHN := Lib.hid hn
        by_cases hm4 : g.g.m = 4
        · rw [hm4] at d12
          have ho : hOpens x = true := by simp [hOpens, hk]
          have hRo : hOpenE opChk (evsOf T) g x = R := by rw [← HRC.out, if_neg (by rw [hk]; simp [hWrong, hm4]), if_pos ho]
          have HRO := Lib.hid hRo; have HO := Lib.hid ho
          clear hm4 HRC ho hRo hk hX
          go_wp2_with (with_reducible refine wpList_load_ev (g := B) (cells := evC x tx rd) rfl HX1.out rfl ?_)
          refine (r7Opens_any w1 x tx rd).mono ?_; rintro e w2 ⟨rfl, hk2⟩
          rw [HO.out]
          have HX2 := Lib.hid (hk2.heap HX1.out (by simp))
          have HOP := Lib.hid (r7opens_any w2 (HH1.out.new hk2) (by rw [HTL.out]; exact HHN.out) HL.out g hgh x HXI.out tx rd (HT1.out.new hk2 HM1.out) (Nat.le_trans HM1.out hk2.size) h8)
          have HK2 := Lib.hid (HKW.out.trans hk2 (FSub.refl _ _))
          rw [HRO.out] at HOP
          clear hk2 e0 d12 hv
          go_wp2_with (with_reducible refine wpList_load_ev (g := B) (cells := evC x tx rd) rfl HX2.out rfl ?_)
          refine (HOP.out).mono ?_; rintro e w3 ⟨rfl, hk3⟩
          go_wp2_with fail
          go_ret
          exact ⟨rfl, HK2.out.trans hk3 (FSub.refl _ _)⟩
        · have t4 : (g.g.m == 4) = false := by simpa using hm4
          obtain rfl : R = 10 := HRC.out.symm.trans (if_pos (by rw [hk]; simp [hWrong, hm4]))
          clear hm4 HRC hX
          go_wp2_with fail
          go_ret
          exact ⟨rfl, HKW.out⟩
    · skip
      rw [hk] at e0
      by_cases hT : T = []
      · obtain rfl : R = 11 := HR.out.symm.trans (by subst hT; exact hErr_nil hg (by omega))
        have hl : T.length = 0 := by rw [hT]; rfl
        rw [hl] at hv
        clear HR hg hX hgn hT hl hv0 hc
        go_wp2_with fail
        go_ret
        exact ⟨rfl, HKW.out⟩
      · skip
        obtain ⟨hb0, hcap, hge, hg1, hg2, -, -, hrng⟩ := HH1.out.get hT
        rw [hv0] at hge
        simp at hge
        obtain ⟨rfl, rfl⟩ := hge
        have hT0 : 0 < T.length := List.length_pos_iff.2 hT
        have hTp : (0 : Int) < T.length := by omega
        obtain ⟨g, hgd⟩ : ∃ g, T[0].1 = g := ⟨_, rfl⟩
        have hgh : (evsOf T).head? = some g := by rw [List.head?_eq_getElem?]; simp [evsOf, List.getElem?_eq_getElem hT0, hgd]
        obtain ⟨r, hgr⟩ : ∃ r, evsOf T = g :: r := by
          cases he : evsOf T with
          | nil => rw [he] at hgh; cases hgh
          | cons y r => rw [he] at hgh; simp at hgh; exact ⟨r, by rw [hgh]⟩
        have d12 : w1.cell? ⟨hb0, 12, none⟩ = some (.int .u8 g.g.m) := by
          have := (hrng 0 hT0).1 12 _ rfl
          rw [hgd] at this; simpa using this
        have HRC := Lib.hid (show (if hWrong g.g.m x.k then (10 : Int) else if hOpens x then hOpenE opChk (evsOf T) g x else hEndE mayOf (evsOf T) x) = R by rw [← HR.out, hgr]; exact (hErr_cons HG.out (by omega)).symm)
        clear hrng hgd hgr HR hgn hg hv0 hTp
        generalize hTl : T.length = tl at *
        have HTL := Lib.hid hTl
        clear hTl
        have t0 : ((tl : Int) == 0) = false := by simp; omega
        have hTp : (0 : Int) < tl := by omega
        have HHN := Lib.hid hn
        by_cases hm4 : g.g.m = 4
        · rw [hm4] at d12
          have ho : hOpens x = false := by simp [hOpens, hk]
          have hRo : hEndE mayOf (evsOf T) x = R := by rw [← HRC.out, if_neg (by rw [hk]; simp [hWrong, hm4]), if_neg (by rw [ho]; simp)]
          have HRO := Lib.hid hRo; have HO := Lib.hid ho
          clear hm4 HRC ho hRo hk hX
          go_wp2_with (with_reducible refine wpList_load_ev (g := B) (cells := evC x tx rd) rfl HX1.out rfl ?_)
          refine (r7Opens_any w1 x tx rd).mono ?_; rintro e w2 ⟨rfl, hk2⟩
          rw [HO.out]
          have HX2 := Lib.hid (hk2.heap HX1.out (by simp))
          have HOP := Lib.hid (r7ends_any w2 (HH1.out.new hk2) (by rw [HTL.out]; exact HHN.out) HL.out x HXI.out tx rd (HT1.out.new hk2 HM1.out) (Nat.le_trans HM1.out hk2.size))
          have HK2 := Lib.hid (HKW.out.trans hk2 (FSub.refl _ _))
          rw [HRO.out] at HOP
          clear hk2 e0 d12 hv
          go_wp2_with (with_reducible refine wpList_load_ev (g := B) (cells := evC x tx rd) rfl HX2.out rfl ?_)
          refine (HOP.out).mono ?_; rintro e w3 ⟨rfl, hk3⟩
          go_wp2_with fail
          go_ret
          exact ⟨rfl, HK2.out.trans hk3 (FSub.refl _ _)⟩
        · have t4 : (g.g.m == 4) = false := by simpa using hm4
          obtain rfl : R = 10 := HRC.out.symm.trans (if_pos (by rw [hk]; simp [hWrong, hm4]))
          clear hm4 HRC hX
          go_wp2_with fail
          go_ret
          exact ⟨rfl, HKW.out⟩
    · skip
      rw [hk] at e0
      by_cases hT : T = []
      · obtain rfl : R = 11 := HR.out.symm.trans (by subst hT; exact hErr_nil hg (by omega))
        have hl : T.length = 0 := by rw [hT]; rfl
        rw [hl] at hv
        clear HR hg hX hgn hT hl hv0 hc
        go_wp2_with fail
        go_ret
        exact ⟨rfl, HKW.out⟩
      · skip
        obtain ⟨hb0, hcap, hge, hg1, hg2, -, -, hrng⟩ := HH1.out.get hT
        rw [hv0] at hge
        simp at hge
        obtain ⟨rfl, rfl⟩ := hge
        have hT0 : 0 < T.length := List.length_pos_iff.2 hT
        have hTp : (0 : Int) < T.length := by omega
        obtain ⟨g, hgd⟩ : ∃ g, T[0].1 = g := ⟨_, rfl⟩
        have hgh : (evsOf T).head? = some g := by rw [List.head?_eq_getElem?]; simp [evsOf, List.getElem?_eq_getElem hT0, hgd]
        obtain ⟨r, hgr⟩ : ∃ r, evsOf T = g :: r := by
          cases he : evsOf T with
          | nil => rw [he] at hgh; cases hgh
          | cons y r => rw [he] at hgh; simp at hgh; exact ⟨r, by rw [hgh]⟩
        have d12 : w1.cell? ⟨hb0, 12, none⟩ = some (.int .u8 g.g.m) := by
          have := (hrng 0 hT0).1 12 _ rfl
          rw [hgd] at this; simpa using this
        have HRC := Lib.hid (show (if hWrong g.g.m x.k then (10 : Int) else if hOpens x then hOpenE opChk (evsOf T) g x else hEndE mayOf (evsOf T) x) = R by rw [← HR.out, hgr]; exact (hErr_cons HG.out (by omega)).symm)
        clear hrng hgd hgr HR hgn hg hv0 hTp
        generalize hTl : T.length = tl at *
        have HTL := Lib.hid hTl
        clear hTl
        have t0 : ((tl : Int) == 0) = false := by simp; omega
        have hTp : (0 : Int) < tl := by omega
        have HHN := Lib.hid hn
        by_cases hm4 : g.g.m = 4
        · rw [hm4] at d12
          have ho : hOpens x = false := by simp [hOpens, hk]
          have hRo : hEndE mayOf (evsOf T) x = R := by rw [← HRC.out, if_neg (by rw [hk]; simp [hWrong, hm4]), if_neg (by rw [ho]; simp)]
          have HRO := Lib.hid hRo; have HO := Lib.hid ho
          clear hm4 HRC ho hRo hk hX
          go_wp2_with (with_reducible refine wpList_load_ev (g := B) (cells := evC x tx rd) rfl HX1.out rfl ?_)
          refine (r7Opens_any w1 x tx rd).mono ?_; rintro e w2 ⟨rfl, hk2⟩
          rw [HO.out]
          have HX2 := Lib.hid (hk2.heap HX1.out (by simp))
          have HOP := Lib.hid (r7ends_any w2 (HH1.out.new hk2) (by rw [HTL.out]; exact HHN.out) HL.out x HXI.out tx rd (HT1.out.new hk2 HM1.out) (Nat.le_trans HM1.out hk2.size))
          have HK2 := Lib.hid (HKW.out.trans hk2 (FSub.refl _ _))
          rw [HRO.out] at HOP
          clear hk2 e0 d12 hv
          go_wp2_with (with_reducible refine wpList_load_ev (g := B) (cells := evC x tx rd) rfl HX2.out rfl ?_)
          refine (HOP.out).mono ?_; rintro e w3 ⟨rfl, hk3⟩
          go_wp2_with fail
          go_ret
          exact ⟨rfl, HK2.out.trans hk3 (FSub.refl _ _)⟩
        · have t4 : (g.g.m == 4) = false := by simpa using hm4
          obtain rfl : R = 10 := HRC.out.symm.trans (if_pos (by rw [hk]; simp [hWrong, hm4]))
          clear hm4 HRC hX
          go_wp2_with fail
          go_ret
          exact ⟨rfl, HKW.out⟩
end Go.Proofs.YtlaccndjlfpjbaaGreatDoor
/-
  The document's history: Step.
-/
namespace Go.Proofs.YtlaccndjlfpjbaaGreatDoor
open Go.RowKit Go.Maps
/-- What Step tells and leaves. -/
def Step7Post (N b base : Nat) (w : World) (v : Value) (T : EvL) (x : Ev) (e : Ending) (w' : World) : Prop :=
  e = .returned (.int .i64 (hErr opChk mayOf (evsOf T) x)) ∧ ∃ v' T', R7At N b base w' v' T' ∧ evsOf T' = hNext opChk mayOf (evsOf T) x ∧ T'.length ≤ T.length + 1 ∧ Keeps (b :: own v) w w' ∧ FSub (own v') (own v) w.heap.size
theorem wp_put_slice {o : Oper} {a : Act} {w : World} {K : Act → World → Prop} {Q : Exit → Act → World → Prop} {x y : Operand} {b : Nat} {t : TypeId} {u v : Value} {ad : Option Addr} {n c : Nat} (hv : v = .slice ad n c)
    (ho : o.op = .store 22 x y) (hx : a.eval x = .pointer (some ⟨b, 0, none⟩)) (hy : a.eval y = v) (hg : w.heap[b]? = some (.cells #[u] t (0, 0)))
    (h : ∀ W, W.heap[b]? = some (.cells #[v] t (0, 0)) → Keeps [b] w W → K (a.put o.dst undef) W) : o.wp Tryz.prog a w K Q := by
  subst hv
  have hrun := run_put1 (P := Tryz.prog) w b 0 22 (.slice ad n c) (by kernel_rfl) rfl (by simp [World.cell?, hg]) (by simp [World.frozen?, hg])
  unfold Oper.wp execOp
  simp only [ho, hx, hy, Instr.storeAt, Instr.sureAddr, Sem.run_bind, Sem.run_pure, Result.andThen_ok, hrun]
  exact h _ (by rw [heap_setCell_same w b 0 _ t _ hg]; rfl) ((Keeps.refl [b] w).setCell _ _ (.inl (by simp)))
set_option maxHeartbeats 8000000
set_option maxRecDepth 100000
theorem r7Step_any (w : World) {N b base : Nat} {v : Value} {T : EvL} (hH : R7At N b base w v T) (hbase : base ≤ w.heap.size) (hn : T.length ≤ 900) (hL : HistOk (evsOf T)) (x : Ev) (hx : x.In) (tx rd : Value) (ht : EvAt N w tx rd x) :
    Calls Tryz.prog 12 #[.pointer (some ⟨b, 0, none⟩), .agg (evC x tx rd)] w (Step7Post N b base w v T x) := by
  have hN : N ≤ w.heap.size := Nat.le_trans hH.nb (Nat.le_of_lt (lt_of_block hH.cell))
  have HOW := Lib.hid (show ∀ q ∈ own v, q ≠ w.heap.size from fun q hq e => by have := (row_base hH.row q hq).2; omega)
  have hk0 := (Keeps.refl [] w).alloc (.cells (evC x tx rd) 42)
  have hX := heap_alloc_new w (.cells (evC x tx rd) 42)
  have hH0 := hH.new hk0
  have HMAY := Lib.hid (r7May_any _ hH0 (by omega) hL x hx tx rd (ht.new hk0 hN) (Nat.le_trans hN hk0.size))
  have HK0 := Lib.hid hk0; have HT0 := Lib.hid (ht.new hk0 hN); have HH0 := Lib.hid hH0; have HX := Lib.hid hX
  have HN := Lib.hid (Nat.le_trans hN hk0.size); have HB := Lib.hid (Nat.le_trans hbase hk0.size)
  obtain ⟨R, hR⟩ : ∃ R, R = hErr opChk mayOf (evsOf T) x := ⟨_, rfl⟩
  rw [← hR] at HMAY
  have HR := Lib.hid hR
  clear hk0 hL hH hH0 ht hR hx hX hN
  go_enter Tryz.func12, Tryz.ntmps12
  go_wp2_with (with_reducible refine wpList_load_ev (g := w.heap.size) (cells := evC x tx rd) rfl HX.out rfl ?_)
  generalize w.alloc (.cells (evC x tx rd) 42) = W at *
  have hKW := HK0.out
  generalize hBq : w.heap.size = B at *
  have HBq := Lib.hid hBq; have HKW := Lib.hid hKW
  clear hBq hKW HK0
  refine (HMAY.out).mono ?_; rintro e w1 ⟨rfl, hk1⟩
  have HK1 := Lib.hid (HKW.out.trans hk1 (FSub.refl _ _))
  have HX1 := Lib.hid (hk1.heap HX.out (by simp)); have HT1 := Lib.hid (HT0.out.new hk1 HN.out); have HH1 := Lib.hid (HH0.out.new hk1); have HB1 := Lib.hid (Nat.le_trans HB.out hk1.size)
  have HN1 := Lib.hid (Nat.le_trans HN.out hk1.size)
  clear hk1 HX HT0 HH0 HMAY HB HN HKW
  by_cases hz : R = 0
  · have hz2 : hErr opChk mayOf (evsOf T) x = 0 := by rw [← HR.out]; exact hz
    obtain ⟨a0, cp, hv0, hc, hm⟩ := HH1.out.row.shape
    subst hv0
    have hv : w1.cell? ⟨b, 0, none⟩ = some (.slice a0 T.length cp) := by simp only [World.cell?, HH1.out.cell]; rfl
    obtain ⟨v', w2, hrun, hrow, hk2, hf2⟩ := append_ev w1.drew base HB1.out (.slice a0 T.length cp) T (row_old HH1.out.row ((Keeps.refl [] w1).drew) (by simp)) (by omega) x tx rd HT1.out.t.one HT1.out.r.one
    have hk12 : Keeps (own (.slice a0 T.length cp)) w1 w2 := ((Keeps.refl [] w1).drew.more (by simp)).step hk2 (fun q hq => hq)
    have hbo : b ∉ own (.slice a0 T.length cp) := fun hq => by have := (row_base HH1.out.row b hq).1; have := HH1.out.bb; omega
    have hcell2 := hk12.heap HH1.out.cell hbo
    have HRUN := Lib.hid hrun; have HK12 := Lib.hid hk12; have HROW := Lib.hid hrow; have HF2 := Lib.hid hf2; have HC2 := Lib.hid hcell2
    have HKB := Lib.hid (((Keeps.refl [] w1).drew).alloc (.cells (evC x tx rd) 42))
    obtain ⟨a9, c9, rfl, hc9, hm9⟩ := hrow.shape
    have hs1 : w1.drew.cell? ⟨b, 0, none⟩ = some (.slice a0 T.length cp) := hv
    have s2 : w2.cell? ⟨b, 0, none⟩ = some (.slice a0 T.length cp) := by simp [World.cell?, hcell2]
    have s3 : w2.frozen? ⟨b, 0, none⟩ = false := by simp [World.frozen?, hcell2]
    have HC3 := Lib.hid (heap_setCell_same w2 b 0 _ 29 (.slice a9 (T ++ [(x, tx, rd)]).length c9) hcell2)
    have HK3 := Lib.hid ((Keeps.refl [b] w2).setCell ⟨b, 0, none⟩ (.slice a9 (T ++ [(x, tx, rd)]).length c9) (.inl (by simp)))
    have HNE := Lib.hid hbo
    subst hz
    have HZ2 := Lib.hid hz2
    have hwB := lt_of_block HX1.out
    have HNB := Lib.hid (show B ≠ b from fun e => by have h1 := HH1.out.bb; have h2 := hbase; omega)
    have HNO := Lib.hid (show B ∉ own (.slice a0 T.length cp) from fun hq => HOW.out B hq rfl)
    have HCA := Lib.hid (show (w1.drew.alloc (.cells (evC x tx rd) 42)).cell? ⟨b, 0, none⟩ = some (.slice a0 T.length cp) from HKB.out.cell (by simp only [World.cell?, HH1.out.cell]; rfl) (by simp))
    clear hrun hk12 hrow hf2 hcell2 hk2 hbo hv hz2 s2 s3 HC3 HK3
    go_wp2_with fail
    obtain ⟨S, hS⟩ : ∃ S : World → Prop, S = fun y => Keeps (b :: own (.slice a0 T.length cp)) w1 y := ⟨_, rfl⟩
    have HSE := Lib.hid hS
    have hSD : S w1.drew := by rw [hS]; exact (Keeps.refl _ _).drew
    have HS2 := Lib.hid (fun (w' : World) (h : S w') => show w'.rangeAt B 0 (evC x tx rd).toList from by rw [hS] at h; exact fun i u hi => h.cell (by have := HX1.out; simp only [World.cell?, this, Nat.zero_add]; simpa using hi) (by simp; exact ⟨HNB.out, HNO.out⟩))
    clear hS
    refine wp_region_noPanic ?_
    refine wp_region_held_drew (S := S) (by kernel_rfl) hSD (fun hHeld => ?_)
    apply wpAnyH_take (i := 0)
    · simp only [List.getElem?_toArray]; rfl
    · kernel_rfl
    · kernel_rfl
    · kernel_rfl
    · exact fun _ _ _ h => h
    · exact Or.inl ⟨by rfl, by intro w hSw; go_simp; try with_reducible rfl⟩
    · assumption
    try simp only [Act.put, List.setIfInBounds_toArray, List.set_cons_zero, List.set_cons_succ]
    apply wpAnyH_take (i := 1)
    · simp only [List.getElem?_toArray]; rfl
    · kernel_rfl
    · kernel_rfl
    · kernel_rfl
    · exact fun _ _ _ h => h
    · exact Or.inl ⟨by rfl, by intro w hSw; go_simp; try with_reducible rfl⟩
    · assumption
    try simp only [Act.put, List.setIfInBounds_toArray, List.set_cons_zero, List.set_cons_succ]
    apply wpAnyH_take (i := 2)
    · simp only [List.getElem?_toArray]; rfl
    · kernel_rfl
    · kernel_rfl
    · kernel_rfl
    · exact fun _ _ _ h => h
    · exact Or.inl ⟨by rfl, by intro w hSw; go_simp; try with_reducible rfl⟩
    · assumption
    try simp only [Act.put, List.setIfInBounds_toArray, List.set_cons_zero, List.set_cons_succ]
    apply wpAnyH_take (i := 3)
    · simp only [List.getElem?_toArray]; rfl
    · kernel_rfl
    · kernel_rfl
    · kernel_rfl
    · exact fun _ _ _ h => h
    · exact Or.inl ⟨by rfl, by intro w hSw; go_simp; try with_reducible rfl⟩
    · assumption
    try simp only [Act.put, List.setIfInBounds_toArray, List.set_cons_zero, List.set_cons_succ]
    apply wpAnyH_take (i := 5)
    · simp only [List.getElem?_toArray]; rfl
    · kernel_rfl
    · kernel_rfl
    · kernel_rfl
    · exact fun _ _ _ h => h
    · exact yields_ev_mid (by rfl) _ rfl B 0 rfl HS2.out
    · assumption
    try simp only [Act.put, List.setIfInBounds_toArray, List.set_cons_zero, List.set_cons_succ]
    apply wpAnyH_ready (rs := [4, 6])
    · kernel_rfl
    · simp
    apply AllReadyH.cons
    · simp only [List.getElem?_toArray]; rfl
    · intro K hK
      rw [if_pos (by rfl)]
      go_wp2_with fail
      refine hK.out _ _ ?_ (fun hHeld => ?_)
      · exact (by rw [HSE.out]; exact (Keeps.refl _ _).drew)
      clear hK K
      try simp only [Act.put, List.setIfInBounds_toArray, List.set_cons_zero, List.set_cons_succ]
      apply wpAnyH_ready (rs := [6])
      · kernel_rfl
      · simp
      apply AllReadyH.cons (hs := AllReadyH.nil)
      · simp only [List.getElem?_toArray]; rfl
      intro K hK
      rw [if_pos (by rfl)]
      refine wp_build_ev1 rfl rfl ?_
      refine hK.out _ _ ?_ (fun hHeld => ?_)
      · exact (by rw [HSE.out]; exact HKB.out.more (by simp))
      clear hK K
      try simp only [Act.put, List.setIfInBounds_toArray, List.set_cons_zero, List.set_cons_succ]
      apply wpAnyH_ready (rs := [7])
      · kernel_rfl
      · simp
      apply AllReadyH.cons (hs := AllReadyH.nil)
      · simp only [List.getElem?_toArray]; rfl
      intro K hK
      rw [if_pos (by rfl)]
      refine wp_append_run _ _ 22 rfl _ _ _ w2 rfl rfl HRUN.out ?_
      refine hK.out _ _ ?_ (fun hHeld => ?_)
      · exact (by rw [HSE.out]; exact HK12.out.more (fun q hq => List.mem_cons_of_mem _ hq))
      clear hK K
      try simp only [Act.put, List.setIfInBounds_toArray, List.set_cons_zero, List.set_cons_succ]
      apply wpAnyH_take (i := 8)
      · simp only [List.getElem?_toArray]; rfl
      · kernel_rfl
      · kernel_rfl
      · kernel_rfl
      · exact fun _ _ _ h => h
      · exact Or.inl ⟨by rfl, by intro w hSw; go_simp; try with_reducible rfl⟩
      · assumption
      try simp only [Act.put, List.setIfInBounds_toArray, List.set_cons_zero, List.set_cons_succ]
      apply wpAnyH_take (i := 9)
      · simp only [List.getElem?_toArray]; rfl
      · kernel_rfl
      · kernel_rfl
      · kernel_rfl
      · exact fun _ _ _ h => h
      · exact Or.inl ⟨by rfl, by intro w hSw; go_simp; try with_reducible rfl⟩
      · assumption
      try simp only [Act.put, List.setIfInBounds_toArray, List.set_cons_zero, List.set_cons_succ]
      apply wpAnyH_ready (rs := [10])
      · kernel_rfl
      · simp
      apply AllReadyH.cons (hs := AllReadyH.nil)
      · simp only [List.getElem?_toArray]; rfl
      intro K hK
      rw [if_pos (by rfl)]
      refine wp_put_slice rfl rfl rfl rfl HC2.out ?_
      intro w3 h3 k3
      have hk13 : Keeps (b :: own (.slice a0 T.length cp)) w1 w3 := (HK12.out.more (fun q hq => List.mem_cons_of_mem _ hq)).step (k3.more (by simp)) (fun q hq => hq)
      refine hK.out _ _ ?_ (fun hHeld => ?_)
      · exact (by rw [HSE.out]; exact hk13)
      clear hK K
      try simp only [Act.put, List.setIfInBounds_toArray, List.set_cons_zero, List.set_cons_succ]
      refine wpAnyH_done (by kernel_rfl) ?_ _
      refine NoPanic.normal ?_
      have HFIN := Lib.hid (show Step7Post N b base w (.slice a0 T.length cp) T x (.returned (.int .i64 0)) w3 from by
        have hk2e : Keeps (own (.slice a0 T.length cp)) w1 w2 := HK12.out
        have hNo : ∀ q ∈ own (.slice a0 T.length cp), N ≤ q := fun q hq => by have := (row_base HH1.out.row q hq).1; have := HH1.out.nb; have := HH1.out.bb; omega
        have hNb : N ≤ b := HH1.out.nb
        have hsm : Same N w1 w3 := hk13.same HN1.out (fun q hq => by rcases List.mem_cons.1 hq with rfl | hq; exact hNb; exact hNo q hq)
        refine ⟨by rw [← HR.out], _, T ++ [(x, tx, rd)], ⟨h3, row_old HROW.out k3 (fun q hq hb => ?_), fun p hp => ?_, hNb, HH1.out.bb⟩, ?_, by simp, ?_, ?_⟩
        · have h1 := (row_base HROW.out q hq).1
          have h2 := HH1.out.bb
          simp at hb
          omega
        · rcases List.mem_append.1 hp with hp | hp
          · exact (HH1.out.ok p hp).same hsm
          · simp at hp; subst hp; exact HT1.out.same hsm
        · rw [hNext_yes _ _ HZ2.out]; simp [evsOf]
        · exact (HK1.out.more (by simp)).step hk13 (fun q hq => hq)
        · exact FSub.mono HF2.out HK1.out.size)
      clear hHeld h3 k3 hk13 HS2 hSD
      go_wp2_with fail
      go_ret
      exact HFIN.out
    apply AllReadyH.cons (hs := AllReadyH.nil)
    · simp only [List.getElem?_toArray]; rfl
    · intro K hK
      rw [if_pos (by rfl)]
      refine wp_build_ev1 rfl rfl ?_
      refine hK.out _ _ ?_ (fun hHeld => ?_)
      · exact (by rw [HSE.out]; exact HKB.out.more (by simp))
      clear hK K
      try simp only [Act.put, List.setIfInBounds_toArray, List.set_cons_zero, List.set_cons_succ]
      generalize hW9 : w1.drew.alloc (.cells (evC x tx rd) 42) = W9 at *
      clear hW9
      have hs2 := HCA.out
      apply wpAnyH_ready (rs := [4])
      · kernel_rfl
      · simp
      apply AllReadyH.cons (hs := AllReadyH.nil)
      · simp only [List.getElem?_toArray]; rfl
      intro K hK
      rw [if_pos (by rfl)]
      go_wp2_with fail
      refine hK.out _ _ ?_ (fun hHeld => ?_)
      · exact (by rw [HSE.out]; exact HKB.out.more (by simp))
      clear hK K
      try simp only [Act.put, List.setIfInBounds_toArray, List.set_cons_zero, List.set_cons_succ]
      clear hs2
      apply wpAnyH_ready (rs := [7])
      · kernel_rfl
      · simp
      apply AllReadyH.cons (hs := AllReadyH.nil)
      · simp only [List.getElem?_toArray]; rfl
      intro K hK
      rw [if_pos (by rfl)]
      refine wp_append_run _ _ 22 rfl _ _ _ w2 rfl rfl HRUN.out ?_
      refine hK.out _ _ ?_ (fun hHeld => ?_)
      · exact (by rw [HSE.out]; exact HK12.out.more (fun q hq => List.mem_cons_of_mem _ hq))
      clear hK K
      try simp only [Act.put, List.setIfInBounds_toArray, List.set_cons_zero, List.set_cons_succ]
      apply wpAnyH_take (i := 8)
      · simp only [List.getElem?_toArray]; rfl
      · kernel_rfl
      · kernel_rfl
      · kernel_rfl
      · exact fun _ _ _ h => h
      · exact Or.inl ⟨by rfl, by intro w hSw; go_simp; try with_reducible rfl⟩
      · assumption
      try simp only [Act.put, List.setIfInBounds_toArray, List.set_cons_zero, List.set_cons_succ]
      apply wpAnyH_take (i := 9)
      · simp only [List.getElem?_toArray]; rfl
      · kernel_rfl
      · kernel_rfl
      · kernel_rfl
      · exact fun _ _ _ h => h
      · exact Or.inl ⟨by rfl, by intro w hSw; go_simp; try with_reducible rfl⟩
      · assumption
      try simp only [Act.put, List.setIfInBounds_toArray, List.set_cons_zero, List.set_cons_succ]
      apply wpAnyH_ready (rs := [10])
      · kernel_rfl
      · simp
      apply AllReadyH.cons (hs := AllReadyH.nil)
      · simp only [List.getElem?_toArray]; rfl
      intro K hK
      rw [if_pos (by rfl)]
      refine wp_put_slice rfl rfl rfl rfl HC2.out ?_
      intro w3 h3 k3
      have hk13 : Keeps (b :: own (.slice a0 T.length cp)) w1 w3 := (HK12.out.more (fun q hq => List.mem_cons_of_mem _ hq)).step (k3.more (by simp)) (fun q hq => hq)
      refine hK.out _ _ ?_ (fun hHeld => ?_)
      · exact (by rw [HSE.out]; exact hk13)
      clear hK K
      try simp only [Act.put, List.setIfInBounds_toArray, List.set_cons_zero, List.set_cons_succ]
      refine wpAnyH_done (by kernel_rfl) ?_ _
      refine NoPanic.normal ?_
      have HFIN := Lib.hid (show Step7Post N b base w (.slice a0 T.length cp) T x (.returned (.int .i64 0)) w3 from by
        have hk2e : Keeps (own (.slice a0 T.length cp)) w1 w2 := HK12.out
        have hNo : ∀ q ∈ own (.slice a0 T.length cp), N ≤ q := fun q hq => by have := (row_base HH1.out.row q hq).1; have := HH1.out.nb; have := HH1.out.bb; omega
        have hNb : N ≤ b := HH1.out.nb
        have hsm : Same N w1 w3 := hk13.same HN1.out (fun q hq => by rcases List.mem_cons.1 hq with rfl | hq; exact hNb; exact hNo q hq)
        refine ⟨by rw [← HR.out], _, T ++ [(x, tx, rd)], ⟨h3, row_old HROW.out k3 (fun q hq hb => ?_), fun p hp => ?_, hNb, HH1.out.bb⟩, ?_, by simp, ?_, ?_⟩
        · have h1 := (row_base HROW.out q hq).1
          have h2 := HH1.out.bb
          simp at hb
          omega
        · rcases List.mem_append.1 hp with hp | hp
          · exact (HH1.out.ok p hp).same hsm
          · simp at hp; subst hp; exact HT1.out.same hsm
        · rw [hNext_yes _ _ HZ2.out]; simp [evsOf]
        · exact (HK1.out.more (by simp)).step hk13 (fun q hq => hq)
        · exact FSub.mono HF2.out HK1.out.size)
      clear hHeld h3 k3 hk13 HS2 hSD
      go_wp2_with fail
      go_ret
      exact HFIN.out
  · have t1 : (R == 0) = false := by simpa using hz
    have HFIN := Lib.hid (show Step7Post N b base w v T x (.returned (.int .i64 R)) w1 from
      ⟨by rw [← HR.out], v, T, HH1.out, (hNext_no _ _ (by rw [← HR.out]; exact hz)).symm, by omega, HK1.out.more (by simp), FSub.refl _ _⟩)
    clear hz
    go_wp2_with fail
    go_ret
    exact HFIN.out
end Go.Proofs.YtlaccndjlfpjbaaGreatDoor
/-
  HistoryAll: its walk.
-/
namespace Go.Proofs.YtlaccndjlfpjbaaGreatDoor
open Go.RowKit Go.Maps
/-- The document's history in the law, and what it took. -/
structure DInv (N : Nat) (w0 wr : World) (b : Nat) (v : Value) (T : EvL) (L : List Ev) : Prop where
  at_ : R7At N b (b + 1) wr v T
  ev : evsOf T = L
  kp : Keeps [] w0 wr
  lo : w0.heap.size ≤ b ∧ b + 1 ≤ wr.heap.size
theorem DInv.new {N : Nat} {w0 wr w' : World} {b : Nat} {v : Value} {T : EvL} {L : List Ev} (h : DInv N w0 wr b v T L) (hk : Keeps [] wr w') : DInv N w0 w' b v T L :=
  ⟨h.at_.new hk, h.ev, h.kp.trans hk (FSub.refl _ _), h.lo.1, Nat.le_trans h.lo.2 hk.size⟩
theorem DInv.made {N : Nat} {w0 wr : World} (hN : N ≤ w0.heap.size) (hk : Keeps [] w0 wr) : DInv N w0 (wr.alloc (.cells #[.slice none 0 0] 29)) wr.heap.size (.slice none 0 0) [] [] :=
  ⟨⟨heap_alloc_new wr _, ⟨rfl, .inl ⟨rfl, rfl⟩⟩, by simp, Nat.le_trans hN hk.size, by omega⟩, rfl, hk.alloc _, hk.size, by simp⟩
theorem DInv.step {N : Nat} {w0 wr w' : World} {b : Nat} {v : Value} {T : EvL} {L : List Ev} (h : DInv N w0 wr b v T L) {x : Ev} {e : Ending} (hs : Step7Post N b (b + 1) wr v T x e w') :
    e = .returned (.int .i64 (hErr opChk mayOf L x)) ∧ ∃ v' T', DInv N w0 w' b v' T' (hNext opChk mayOf L x) ∧ T'.length ≤ T.length + 1 ∧ Keeps (b :: own v) wr w' := by
  obtain ⟨he, v', T', h1, h2, h3, h4, _⟩ := hs
  rw [h.ev] at he h2
  refine ⟨he, v', T', ⟨h1, h2, h.kp.trans h4 (fun q hq => .inr ?_), h.lo.1, Nat.le_trans h.lo.2 h4.size⟩, h3, h4⟩
  rcases List.mem_cons.1 hq with rfl | hq
  · exact h.lo.1
  · exact Nat.le_trans (Nat.le_trans h.lo.1 (Nat.le_succ b)) (row_base h.at_.row q hq).1
set_option maxHeartbeats 8000000
set_option maxRecDepth 100000
end Go.Proofs.YtlaccndjlfpjbaaGreatDoor
/-
  The law's told: the program's history tells what the document's does.
-/
namespace Go.Proofs.YtlaccndjlfpjbaaGreatDoor
open Go.RowKit Go.Maps
theorem wpList_put_cfg1 {ops : Array Oper} {rest : List Oper} {o : Oper} {a : Act} {w : World} {Q : Exit → Act → World → Prop} {x y : Operand} {b : Nat} {old : Array Value} {t : TypeId} (g : Cfg) (hgd : o.guard = none)
    (ho : o.op = .store 40 x y) (hx : a.eval x = .pointer (some ⟨b, 0, none⟩)) (hy : a.eval y = .agg (cfgC g).toArray) (hg : w.heap[b]? = some (.cells old t (0, 0))) (hs : old.size = 7)
    (h : ∀ W, W.heap[b]? = some (.cells (cfgC g).toArray t (0, 0)) → Keeps [b] w W → wpList Tryz.prog ops Q rest (a.put o.dst undef) W) : wpList Tryz.prog ops Q (o :: rest) a w :=
  wpList_plain hgd fun _ hK => wp_put_cfg1 g ho hx hy hg hs (fun W h3 h4 => hK _ _ (h W h3 h4))
/-- Nobody else has anything open. -/
theorem pend_far {L : List Ev} (hL : HistOk L) {c : Int} (hc : 16 ≤ c) : hPend L c = none := by
  cases h : hPend L c with
  | none => rfl
  | some p =>
    have h1 := (hPend_mem h).2.1
    have h2 := (good_need (pend_ok hL h).2.2).1
    omega
theorem range_cfg {w : World} {b o : Nat} {x : Ev} {tx rd : Value} (h : w.rangeAt b o (evC x tx rd).toList) : w.rangeAt b (o + 12) (cfgC x.g) := by
  intro j u hj
  have hlt : j < 7 := (List.getElem?_eq_some_iff.1 hj).1
  have h2 : (evC x tx rd).toList[12 + j]? = some u := by
    rw [← hj]
    match j, hlt with
    | 0, _ => rfl
    | 1, _ => rfl
    | 2, _ => rfl
    | 3, _ => rfl
    | 4, _ => rfl
    | 5, _ => rfl
    | 6, _ => rfl
  have h3 := h (12 + j) u h2
  rwa [← Nat.add_assoc] at h3
theorem yields_cfg_lit {ops : Array Oper} {S : World → Prop} {o : Oper} {a : Act} (g : Cfg) (hw : Region.wanted o (yielded ops a.tmps) = true) (y : Operand) (ho : o.op = .load 40 y) (b off : Nat) (hx : a.eval y = .pointer (some ⟨b, off, none⟩))
    (hS : ∀ w, S w → w.rangeAt b off (cfgC g)) : YieldsIf Tryz.prog ops S o (.agg #[.int .u8 g.m, .int .i64 g.mo, .int .i64 g.ms, .int .i64 g.mt, .bool g.p, .bool g.cu, .bool g.me]) a := yields_cfg_mid g hw y ho b off hx hS
set_option maxHeartbeats 8000000
set_option maxRecDepth 100000
theorem told7_any (w : World) {a p mb n : Nat} {L : List Ev} {O : List Nat} (hA : HAuto w a p mb n L O) {N b base : Nat} {v : Value} {T : EvL} (hH : R7At N b base w v T) (hn : T.length ≤ 1000) (hTL : evsOf T = L) (hL : HistOk L) :
    Calls Tryz.prog 13 #[.pointer (some ⟨a, 0, none⟩), .pointer (some ⟨b, 0, none⟩)] w fun e w' => e = .returned (.bool true) ∧ Keeps [] w w' := by
  obtain ⟨g, on, op, la, ap, hA, hS⟩ := hA
  have HCF := Lib.hid (hConfig_any hA)
  have HA := Lib.hid hA; have HH := Lib.hid hH; have HL := Lib.hid hL; have HS := Lib.hid hS; have HTL := Lib.hid hTL
  clear hA hH hL hS hTL
  go_enter Tryz.func13, Tryz.ntmps13
  go_wp2_with fail
  refine (HCF.out).mono ?_; rintro e w1 ⟨rfl, hk1⟩
  have HK1 := Lib.hid hk1
  have HKA := Lib.hid ((Keeps.refl [] w1).alloc (.cells #[.int .u8 0, .int .i64 0, .int .i64 0, .int .i64 0, .bool false, .bool false, .bool false] 40))
  have HNW := Lib.hid (heap_alloc_new w1 (.cells #[.int .u8 0, .int .i64 0, .int .i64 0, .int .i64 0, .bool false, .bool false, .bool false] 40))
  clear hk1 HCF
  go_wp2_with (refine wpList_put_cfg1 g rfl rfl rfl rfl HNW.out rfl ?_)
  intro W hb hkW
  have hqW : Keeps [] w1 W := HKA.out.trans hkW (fun q hq => .inr (by simp at hq; omega))
  have HKW := Lib.hid (HK1.out.trans hqW (FSub.refl _ _))
  have HB := Lib.hid hb
  clear hb hkW hqW HKA HNW HK1
  generalize w1.heap.size = C at *
  go_wp2_with fail
  have HIN := Lib.hid (show ∀ q ∈ T, q.1.In from fun q hq => HL.out.i _ (by rw [← HTL.out]; exact List.mem_map.2 ⟨q, hq, rfl⟩))
  obtain ⟨a0, cp, hv0, hc, hm⟩ := HH.out.row.shape
  subst hv0
  have HNN := Lib.hid hn
  obtain ⟨S, hS⟩ : ∃ S : World → Prop, S = fun y => Keeps [] W y := ⟨_, rfl⟩
  have HSE := Lib.hid hS
  have hsb : ∀ w', S w' → w'.cell? ⟨b, 0, none⟩ = some (.slice a0 T.length cp) := fun w' h => by
    rw [hS] at h
    exact (HKW.out.trans h (FSub.refl _ _)).cell (by simp only [World.cell?, HH.out.cell]; rfl) (by simp)
  have hSD : S W.drew := by rw [hS]; exact (Keeps.refl _ _).drew
  by_cases hT : T = []
  · have hL0 : L = [] := by rw [← HTL.out, hT]; rfl
    have hon : on = false := by rw [HS.out.on, hL0]; rfl
    have hl0 : T.length = 0 := by rw [hT]; rfl
    rw [hl0] at hsb
    rw [hon]
    clear hon hl0 hL0 hT hS
    refine wp_region_noPanic ?_
    refine wp_region_held_drew (S := S) (by kernel_rfl) hSD (fun hHeld => ?_)
    apply wpAnyH_take (i := 0)
    · simp only [List.getElem?_toArray]; rfl
    · kernel_rfl
    · kernel_rfl
    · kernel_rfl
    · exact fun _ _ _ h => h
    · exact Or.inl ⟨by rfl, by intro w hSw; go_simp; try with_reducible rfl⟩
    · assumption
    try simp only [Act.put, List.setIfInBounds_toArray, List.set_cons_zero, List.set_cons_succ]
    apply wpAnyH_take (i := 1)
    · simp only [List.getElem?_toArray]; rfl
    · kernel_rfl
    · kernel_rfl
    · kernel_rfl
    · exact fun _ _ _ h => h
    · exact Or.inl ⟨by rfl, by intro w hSw; go_simp; try with_reducible rfl⟩
    · assumption
    try simp only [Act.put, List.setIfInBounds_toArray, List.set_cons_zero, List.set_cons_succ]
    apply wpAnyH_take (i := 2)
    · simp only [List.getElem?_toArray]; rfl
    · kernel_rfl
    · kernel_rfl
    · kernel_rfl
    · exact fun _ _ _ h => h
    · exact Or.inl ⟨by rfl, by intro w hSw; go_simp; try with_reducible rfl⟩
    · assumption
    try simp only [Act.put, List.setIfInBounds_toArray, List.set_cons_zero, List.set_cons_succ]
    apply wpAnyH_take (i := 3)
    · simp only [List.getElem?_toArray]; rfl
    · kernel_rfl
    · kernel_rfl
    · kernel_rfl
    · exact fun _ _ _ h => h
    · exact Or.inl ⟨by rfl, by intro w hSw; go_simp; try with_reducible rfl⟩
    · assumption
    try simp only [Act.put, List.setIfInBounds_toArray, List.set_cons_zero, List.set_cons_succ]
    apply wpAnyH_take (i := 4)
    · simp only [List.getElem?_toArray]; rfl
    · kernel_rfl
    · kernel_rfl
    · kernel_rfl
    · exact fun _ _ _ h => h
    · exact Or.inl ⟨by rfl, by intro w hSw; have q0 := hsb w hSw; go_simp; try with_reducible rfl⟩
    · assumption
    try simp only [Act.put, List.setIfInBounds_toArray, List.set_cons_zero, List.set_cons_succ]
    apply wpAnyH_take (i := 5)
    · simp only [List.getElem?_toArray]; rfl
    · kernel_rfl
    · kernel_rfl
    · kernel_rfl
    · exact fun _ _ _ h => h
    · exact Or.inl ⟨by rfl, by intro w hSw; go_simp; try with_reducible rfl⟩
    · assumption
    try simp only [Act.put, List.setIfInBounds_toArray, List.set_cons_zero, List.set_cons_succ]
    apply wpAnyH_take (i := 6)
    · simp only [List.getElem?_toArray]; rfl
    · kernel_rfl
    · kernel_rfl
    · kernel_rfl
    · exact fun _ _ _ h => h
    · exact Or.inl ⟨by rfl, by intro w hSw; go_simp; try with_reducible rfl⟩
    · assumption
    try simp only [Act.put, List.setIfInBounds_toArray, List.set_cons_zero, List.set_cons_succ]
    apply wpAnyH_take (i := 7)
    · simp only [List.getElem?_toArray]; rfl
    · kernel_rfl
    · kernel_rfl
    · kernel_rfl
    · exact fun _ _ _ h => h
    · exact Or.inl ⟨by rfl, by intro w hSw; go_simp; try with_reducible rfl⟩
    · assumption
    try simp only [Act.put, List.setIfInBounds_toArray, List.set_cons_zero, List.set_cons_succ]
    apply wpAnyH_take (i := 8)
    · simp only [List.getElem?_toArray]; rfl
    · kernel_rfl
    · kernel_rfl
    · kernel_rfl
    · exact fun _ _ _ h => h
    · exact Or.inl ⟨by rfl, by intro w hSw; go_simp; try with_reducible rfl⟩
    · assumption
    try simp only [Act.put, List.setIfInBounds_toArray, List.set_cons_zero, List.set_cons_succ]
    apply wpAnyH_take (i := 9)
    · simp only [List.getElem?_toArray]; rfl
    · kernel_rfl
    · kernel_rfl
    · kernel_rfl
    · exact fun _ _ _ h => h
    · exact Or.inl ⟨by rfl, by intro w hSw; go_simp; try with_reducible rfl⟩
    · assumption
    try simp only [Act.put, List.setIfInBounds_toArray, List.set_cons_zero, List.set_cons_succ]
    apply wpAnyH_take (i := 10)
    · simp only [List.getElem?_toArray]; rfl
    · kernel_rfl
    · kernel_rfl
    · kernel_rfl
    · exact fun _ _ _ h => h
    · exact Or.inl ⟨by rfl, by intro w hSw; go_simp; try with_reducible rfl⟩
    · assumption
    try simp only [Act.put, List.setIfInBounds_toArray, List.set_cons_zero, List.set_cons_succ]
    apply wpAnyH_take (i := 11)
    · simp only [List.getElem?_toArray]; rfl
    · kernel_rfl
    · kernel_rfl
    · kernel_rfl
    · exact fun _ _ _ h => h
    · exact Or.inr ⟨by rfl, rfl⟩
    · assumption
    try simp only [Act.put, List.setIfInBounds_toArray, List.set_cons_zero, List.set_cons_succ]
    apply wpAnyH_take (i := 12)
    · simp only [List.getElem?_toArray]; rfl
    · kernel_rfl
    · kernel_rfl
    · kernel_rfl
    · exact fun _ _ _ h => h
    · exact Or.inr ⟨by rfl, rfl⟩
    · assumption
    try simp only [Act.put, List.setIfInBounds_toArray, List.set_cons_zero, List.set_cons_succ]
    apply wpAnyH_take (i := 13)
    · simp only [List.getElem?_toArray]; rfl
    · kernel_rfl
    · kernel_rfl
    · kernel_rfl
    · exact fun _ _ _ h => h
    · exact Or.inr ⟨by rfl, rfl⟩
    · assumption
    try simp only [Act.put, List.setIfInBounds_toArray, List.set_cons_zero, List.set_cons_succ]
    apply wpAnyH_take (i := 14)
    · simp only [List.getElem?_toArray]; rfl
    · kernel_rfl
    · kernel_rfl
    · kernel_rfl
    · exact fun _ _ _ h => h
    · exact Or.inr ⟨by rfl, rfl⟩
    · assumption
    try simp only [Act.put, List.setIfInBounds_toArray, List.set_cons_zero, List.set_cons_succ]
    apply wpAnyH_take (i := 15)
    · simp only [List.getElem?_toArray]; rfl
    · kernel_rfl
    · kernel_rfl
    · kernel_rfl
    · exact fun _ _ _ h => h
    · exact Or.inr ⟨by rfl, rfl⟩
    · assumption
    try simp only [Act.put, List.setIfInBounds_toArray, List.set_cons_zero, List.set_cons_succ]
    apply wpAnyH_take (i := 16)
    · simp only [List.getElem?_toArray]; rfl
    · kernel_rfl
    · kernel_rfl
    · kernel_rfl
    · exact fun _ _ _ h => h
    · exact Or.inr ⟨by rfl, rfl⟩
    · assumption
    try simp only [Act.put, List.setIfInBounds_toArray, List.set_cons_zero, List.set_cons_succ]
    apply wpAnyH_take (i := 17)
    · simp only [List.getElem?_toArray]; rfl
    · kernel_rfl
    · kernel_rfl
    · kernel_rfl
    · exact fun _ _ _ h => h
    · exact Or.inr ⟨by rfl, rfl⟩
    · assumption
    try simp only [Act.put, List.setIfInBounds_toArray, List.set_cons_zero, List.set_cons_succ]
    apply wpAnyH_take (i := 18)
    · simp only [List.getElem?_toArray]; rfl
    · kernel_rfl
    · kernel_rfl
    · kernel_rfl
    · exact fun _ _ _ h => h
    · exact Or.inr ⟨by rfl, rfl⟩
    · assumption
    try simp only [Act.put, List.setIfInBounds_toArray, List.set_cons_zero, List.set_cons_succ]
    apply wpAnyH_take (i := 19)
    · simp only [List.getElem?_toArray]; rfl
    · kernel_rfl
    · kernel_rfl
    · kernel_rfl
    · exact fun _ _ _ h => h
    · exact Or.inr ⟨by rfl, rfl⟩
    · assumption
    try simp only [Act.put, List.setIfInBounds_toArray, List.set_cons_zero, List.set_cons_succ]
    apply wpAnyH_take (i := 20)
    · simp only [List.getElem?_toArray]; rfl
    · kernel_rfl
    · kernel_rfl
    · kernel_rfl
    · exact fun _ _ _ h => h
    · exact Or.inl ⟨by rfl, by intro w hSw; go_simp; try with_reducible rfl⟩
    · assumption
    try simp only [Act.put, List.setIfInBounds_toArray, List.set_cons_zero, List.set_cons_succ]
    apply wpAnyH_take (i := 21)
    · simp only [List.getElem?_toArray]; rfl
    · kernel_rfl
    · kernel_rfl
    · kernel_rfl
    · exact fun _ _ _ h => h
    · exact Or.inl ⟨by rfl, by intro w hSw; go_simp; try with_reducible rfl⟩
    · assumption
    try simp only [Act.put, List.setIfInBounds_toArray, List.set_cons_zero, List.set_cons_succ]
    apply wpAnyH_take (i := 22)
    · simp only [List.getElem?_toArray]; rfl
    · kernel_rfl
    · kernel_rfl
    · kernel_rfl
    · exact fun _ _ _ h => h
    · exact Or.inl ⟨by rfl, by intro w hSw; go_simp; try with_reducible rfl⟩
    · assumption
    try simp only [Act.put, List.setIfInBounds_toArray, List.set_cons_zero, List.set_cons_succ]
    apply wpAnyH_take (i := 23)
    · simp only [List.getElem?_toArray]; rfl
    · kernel_rfl
    · kernel_rfl
    · kernel_rfl
    · exact fun _ _ _ h => h
    · exact Or.inl ⟨by rfl, by intro w hSw; go_simp; try with_reducible rfl⟩
    · assumption
    try simp only [Act.put, List.setIfInBounds_toArray, List.set_cons_zero, List.set_cons_succ]
    apply wpAnyH_take (i := 25)
    · simp only [List.getElem?_toArray]; rfl
    · kernel_rfl
    · kernel_rfl
    · kernel_rfl
    · exact fun _ _ _ h => h
    · exact Or.inl ⟨by rfl, by intro w hSw; go_simp; try with_reducible rfl⟩
    · assumption
    try simp only [Act.put, List.setIfInBounds_toArray, List.set_cons_zero, List.set_cons_succ]
    apply wpAnyH_ready (rs := [24])
    · kernel_rfl
    · simp
    apply AllReadyH.cons (hs := AllReadyH.nil)
    · simp only [List.getElem?_toArray]; rfl
    intro K hK
    rw [if_pos (by rfl)]
    go_simp
    refine (hOpen_any (HA.out.new (HKW.out.trans (Keeps.refl [] W).drew (FSub.refl _ _))) HS.out).mono ?_; rintro e W1 ⟨rfl, hw1⟩
    rw [hw1]
    clear hw1
    go_wp2_with fail
    refine hK.out _ _ ?_ (fun hHeld => ?_)
    · exact (by rw [HSE.out]; exact (Keeps.refl [] W).drew)
    clear hK K
    try simp only [Act.put, List.setIfInBounds_toArray, List.set_cons_zero, List.set_cons_succ]
    apply wpAnyH_ready (rs := [26])
    · kernel_rfl
    · simp
    apply AllReadyH.cons (hs := AllReadyH.nil)
    · simp only [List.getElem?_toArray]; rfl
    intro K hK
    rw [if_pos (by rfl)]
    go_simp
    refine (r7Open_any W.drew (HH.out.new (HKW.out.trans (Keeps.refl [] W).drew (FSub.refl _ _))) HNN.out).mono ?_; rintro e W1 ⟨rfl, hk1⟩
    rw [HTL.out]
    generalize hOpenN L = OP at *
    have hk01 : Keeps [] W W1 := (Keeps.refl [] W).drew.trans hk1 (FSub.refl _ _)
    have HK01 := Lib.hid hk01
    clear hk1
    go_wp2_with fail
    refine hK.out _ _ ?_ (fun hHeld => ?_)
    · exact (by rw [HSE.out]; exact HK01.out)
    clear hK K
    try simp only [Act.put, List.setIfInBounds_toArray, List.set_cons_zero, List.set_cons_succ]
    apply wpAnyH_take (i := 27)
    · simp only [List.getElem?_toArray]; rfl
    · kernel_rfl
    · kernel_rfl
    · kernel_rfl
    · exact fun _ _ _ h => h
    · exact Or.inl ⟨by rfl, by intro w hSw; go_simp; try with_reducible rfl⟩
    · assumption
    try simp only [Act.put, List.setIfInBounds_toArray, List.set_cons_zero, List.set_cons_succ]
    apply wpAnyH_take (i := 28)
    · simp only [List.getElem?_toArray]; rfl
    · kernel_rfl
    · kernel_rfl
    · kernel_rfl
    · exact fun _ _ _ h => h
    · exact Or.inl ⟨by rfl, by intro w hSw; go_simp; try with_reducible rfl⟩
    · assumption
    try simp only [Act.put, List.setIfInBounds_toArray, List.set_cons_zero, List.set_cons_succ]
    apply wpAnyH_take (i := 29)
    · simp only [List.getElem?_toArray]; rfl
    · kernel_rfl
    · kernel_rfl
    · kernel_rfl
    · exact fun _ _ _ h => h
    · exact Or.inl ⟨by rfl, by intro w hSw; go_simp; try with_reducible rfl⟩
    · assumption
    try simp only [Act.put, List.setIfInBounds_toArray, List.set_cons_zero, List.set_cons_succ]
    apply wpAnyH_take (i := 30)
    · simp only [List.getElem?_toArray]; rfl
    · kernel_rfl
    · kernel_rfl
    · kernel_rfl
    · exact fun _ _ _ h => h
    · exact Or.inl ⟨by rfl, by intro w hSw; go_simp; try with_reducible rfl⟩
    · assumption
    try simp only [Act.put, List.setIfInBounds_toArray, List.set_cons_zero, List.set_cons_succ]
    apply wpAnyH_take (i := 32)
    · simp only [List.getElem?_toArray]; rfl
    · kernel_rfl
    · kernel_rfl
    · kernel_rfl
    · exact fun _ _ _ h => h
    · exact Or.inl ⟨by rfl, by intro w hSw; go_simp; try with_reducible rfl⟩
    · assumption
    try simp only [Act.put, List.setIfInBounds_toArray, List.set_cons_zero, List.set_cons_succ]
    apply wpAnyH_ready (rs := [31])
    · kernel_rfl
    · simp
    apply AllReadyH.cons (hs := AllReadyH.nil)
    · simp only [List.getElem?_toArray]; rfl
    intro K hK
    rw [if_pos (by rfl)]
    go_simp
    refine (hLast_any (HA.out.new (HKW.out.trans HK01.out (FSub.refl _ _)))).mono ?_; rintro e W2 ⟨rfl, hw2⟩
    rw [hw2, HS.out.la]
    clear hw2
    go_wp2_with fail
    refine hK.out _ _ ?_ (fun hHeld => ?_)
    · exact (by rw [HSE.out]; exact HK01.out)
    clear hK K
    try simp only [Act.put, List.setIfInBounds_toArray, List.set_cons_zero, List.set_cons_succ]
    apply wpAnyH_ready (rs := [33])
    · kernel_rfl
    · simp
    apply AllReadyH.cons (hs := AllReadyH.nil)
    · simp only [List.getElem?_toArray]; rfl
    intro K hK
    rw [if_pos (by rfl)]
    go_simp
    refine (r7Last_any W1 (HH.out.new (HKW.out.trans HK01.out (FSub.refl _ _))) HNN.out HIN.out).mono ?_; rintro e W2 ⟨rfl, hw2⟩
    rw [hw2, HTL.out]
    clear hw2
    generalize hMax L.tail = LA at *
    go_wp2_with fail
    refine hK.out _ _ ?_ (fun hHeld => ?_)
    · exact (by rw [HSE.out]; exact HK01.out)
    clear hK K
    try simp only [Act.put, List.setIfInBounds_toArray, List.set_cons_zero, List.set_cons_succ]
    apply wpAnyH_take (i := 34)
    · simp only [List.getElem?_toArray]; rfl
    · kernel_rfl
    · kernel_rfl
    · kernel_rfl
    · exact fun _ _ _ h => h
    · exact Or.inl ⟨by rfl, by intro w hSw; go_simp; try with_reducible rfl⟩
    · assumption
    try simp only [Act.put, List.setIfInBounds_toArray, List.set_cons_zero, List.set_cons_succ]
    apply wpAnyH_take (i := 35)
    · simp only [List.getElem?_toArray]; rfl
    · kernel_rfl
    · kernel_rfl
    · kernel_rfl
    · exact fun _ _ _ h => h
    · exact Or.inl ⟨by rfl, by intro w hSw; go_simp; try with_reducible rfl⟩
    · assumption
    try simp only [Act.put, List.setIfInBounds_toArray, List.set_cons_zero, List.set_cons_succ]
    refine wpAnyH_done (by kernel_rfl) ?_ _
    refine NoPanic.normal ?_
    have HK1 := Lib.hid (HKW.out.trans HK01.out (FSub.refl _ _))
    clear hHeld hsb hSD hk01
    go_wp2_with fail
    have HW1 := Lib.hid (Nat.le_trans (Nat.le_trans HH.out.nb (Nat.le_of_lt (lt_of_block HH.out.cell))) HK1.out.size)
    go_loopw [4, 7, 8, 9, 10, 11] (fun q k _ _ _ _ wr => ∃ c : Nat, q = .bool false ∧ k = .int .i64 c ∧ c ≤ 18 ∧ Keeps [] W1 wr) (fun _ k _ _ _ _ _ => 18 - (intOf k).toNat)
    case atStart => exact ⟨0, rfl, rfl, by omega, Keeps.refl _ _⟩
    case round =>
      obtain ⟨c, rfl, rfl, hc18, hkw⟩ := hrel
      have HKR := Lib.hid (HK1.out.trans hkw (FSub.refl _ _))
      have HKQ := Lib.hid hkw
      clear hkw
      by_cases hlt : c < 18
      · have hw8 : IntKind.u8.wrap (c : Int) = c := by simp [IntKind.wrap, IntKind.bits, IntKind.signed]; omega
        have hi : (c : Int) < 18 := by omega
        have HQ := Lib.hid (fun (w' : World) (hk : Keeps [] wr w') => r7Pending_any w' (HH.out.new (HKR.out.trans hk (FSub.refl _ _))) HNN.out (c : Int))
        rw [HTL.out] at HQ
        by_cases h16 : c < 16
        · have hl : c < op.length := by rw [HA.out.past.len]; exact h16
          have HP := Lib.hid (hPending_any (HA.out.new HKR.out) c hl (Nat.le_trans (HS.out.len8 HL.out c hl) (by omega)))
          have hop := HS.out.op c hl
          have hr0 := (HA.out.past.evs c hl).2.2.2
          obtain ⟨PE, hPE⟩ : ∃ PE, PE = (op[c]).1 := ⟨_, rfl⟩
          rw [← hPE] at HP hop hr0
          have hx0 : ({ PE with r := [] } : Ev) = PE := by cases PE; simp only at hr0; rw [hr0]
          rw [hx0] at HP
          have HOP := Lib.hid hop
          clear hPE hr0 hx0 hl hop h16
          generalize hbz : decide (PE.k ≠ 0) = BZ at *
          have HBZ := Lib.hid hbz
          clear hbz
          go_wp2_with fail
          refine (HP.out).mono ?_; rintro e w3 ⟨tx', rfl, hat3, hk3⟩
          have x1 := hat3.t.one; have x2 : (Value.slice none 0 0).oneCell' = true := rfl
          have HAT3 := Lib.hid hat3; have HK3 := Lib.hid hk3
          have HKA := Lib.hid ((Keeps.refl [] w3).alloc (.cells zeroEv 42))
          clear hat3 hk3 HP
          go_wp2_with (first | ((with_reducible apply wpList_put_ev); exact rfl; exact rfl; (first | assumption | (refine heap_alloc_lt ?_; assumption) | (refine heap_alloc_lt (heap_alloc_lt ?_); assumption) | exact heap_alloc_at (by simp)); exact ⟨rfl, rfl⟩; (refine evC_one _ ?_ ?_ <;> first | rfl | assumption)))
          intro W4 hb4 hk4
          have hq4 : Keeps [] w3 W4 := HKA.out.trans hk4 (fun q hq => .inr (by simp at hq; omega))
          have HB4 := Lib.hid hb4; have HAT4 := Lib.hid (HAT3.out.new hq4 (Nat.le_refl _)); have HK4 := Lib.hid (HK3.out.trans hq4 (FSub.refl _ _)); have HZ4 := Lib.hid hq4.size
          clear hb4 hk4 hq4 HKA HAT3 HK3 x1 x2
          generalize w3.heap.size = C8 at *
          go_wp2_with fail
          refine (HQ.out W4 HK4.out).mono ?_; rintro e w5 ⟨y, ty, ry, rfl, hat5, hy5, hk5⟩
          have x1 := hat5.t.one; have x2 := hat5.r.one
          have HAT5 := Lib.hid hat5; have HK5 := Lib.hid hk5; have HY := Lib.hid hy5
          have HKA := Lib.hid ((Keeps.refl [] w5).alloc (.cells zeroEv 42))
          clear hat5 hy5 hk5 HQ
          go_wp2_with (first | ((with_reducible apply wpList_put_ev); exact rfl; exact rfl; (first | assumption | (refine heap_alloc_lt ?_; assumption) | (refine heap_alloc_lt (heap_alloc_lt ?_); assumption) | exact heap_alloc_at (by simp)); exact ⟨rfl, rfl⟩; (refine evC_one _ ?_ ?_ <;> first | rfl | assumption)))
          intro W6 hb6 hk6
          have hq6 : Keeps [] w5 W6 := HKA.out.trans hk6 (fun q hq => .inr (by simp at hq; omega))
          have hq46 : Keeps [] W4 W6 := HK5.out.trans hq6 (FSub.refl _ _)
          have HB6 := Lib.hid hb6; have HB48 := Lib.hid (hq46.heap HB4.out (by simp))
          have hN5 : N ≤ w5.heap.size := Nat.le_trans HW1.out (Nat.le_trans HKQ.out.size (Nat.le_trans HK4.out.size HK5.out.size))
          have HAT6 := Lib.hid (HAT5.out.new hq6 hN5)
          have HAT46 := Lib.hid (HAT4.out.new hq46 HZ4.out)
          have HK6 := Lib.hid (HKQ.out.trans (HK4.out.trans hq46 (FSub.refl _ _)) (FSub.refl _ _))
          have HZ6 := Lib.hid (Nat.le_trans HZ4.out hq46.size); have HN6 := Lib.hid (Nat.le_trans hN5 hq6.size)
          clear hb6 hk6 hq6 hq46 HKA HAT5 HK5 x1 x2 HB4 HAT4 HK4 HZ4 hN5
          generalize w5.heap.size = C10 at *
          cases hpd : hPend L (c : Int) with
          | none =>
            obtain rfl : BZ = false := by
              have := HOP.out
              rw [hpd] at this
              rw [← HBZ.out, this]; rfl
            clear hpd HBZ
            go_wp2_with fail
            go_roundw
            case rel => exact ⟨c + 1, rfl, by go_num, by omega, HK6.out⟩
            case measure => simp [intOf]; omega
          | some z =>
            have hpe : PE = z := by rw [HOP.out, hpd]; rfl
            have hyz := HY.out z hpd
            obtain rfl : BZ = true := by
              have := (pend_k (L := L) (c := (c : Int))).2 (by rw [hpd]; rfl)
              rw [hpd] at this
              rw [← HBZ.out, hpe]
              exact decide_eq_true this
            subst hyz
            subst hpe
            have HSM := Lib.hid (refSame5_any W6 PE PE tx' (.slice none 0 0) ty ry HAT46.out HAT6.out HZ6.out HN6.out)
            rw [evSame_self] at HSM
            clear hpd HBZ
            go_wp2_with (first
              | ((with_reducible refine wpList_load_evG ?_ ?_ HB48.out ?_ ?_); exact rfl; exact rfl; exact rfl)
              | ((with_reducible refine wpList_load_evG ?_ ?_ HB6.out ?_ ?_); exact rfl; exact rfl; exact rfl))
            refine (HSM.out).mono ?_; rintro e w7 ⟨rfl, hk7⟩
            have HK7 := Lib.hid (HK6.out.trans hk7 (FSub.refl _ _))
            clear hk7
            go_wp2_with fail
            go_roundw
            case rel => exact ⟨c + 1, rfl, by go_num, by omega, HK7.out⟩
            case measure => simp [intOf]; omega
        · have HP := Lib.hid (hPending_far (HA.out.new HKR.out) (c : Int) (by omega))
          have hpf := pend_far HL.out (c := (c : Int)) (by omega)
          rw [hpf] at HQ
          clear hpf h16
          go_wp2_with fail
          refine (HP.out).mono ?_; rintro e w3 ⟨rfl, hk3⟩
          have x1 : (Value.slice none 0 0).oneCell' = true := rfl
          have HK3 := Lib.hid hk3
          have HKA := Lib.hid ((Keeps.refl [] w3).alloc (.cells zeroEv 42))
          clear hk3 HP
          go_wp2_with (first | ((with_reducible apply wpList_put_ev); exact rfl; exact rfl; (first | assumption | (refine heap_alloc_lt ?_; assumption) | (refine heap_alloc_lt (heap_alloc_lt ?_); assumption) | exact heap_alloc_at (by simp)); exact ⟨rfl, rfl⟩; (refine evC_one _ ?_ ?_ <;> first | rfl | assumption)))
          intro W4 hb4 hk4
          have hq4 : Keeps [] w3 W4 := HKA.out.trans hk4 (fun q hq => .inr (by simp at hq; omega))
          have HK4 := Lib.hid (HK3.out.trans hq4 (FSub.refl _ _))
          clear hb4 hk4 hq4 HKA HK3 x1
          generalize w3.heap.size = C8 at *
          go_wp2_with fail
          refine (HQ.out W4 HK4.out).mono ?_; rintro e w5 ⟨y, ty, ry, rfl, hat5, -, hk5⟩
          have x1 := hat5.t.one; have x2 := hat5.r.one
          have HK5 := Lib.hid hk5
          have HKA := Lib.hid ((Keeps.refl [] w5).alloc (.cells zeroEv 42))
          clear hat5 hk5 HQ
          go_wp2_with (first | ((with_reducible apply wpList_put_ev); exact rfl; exact rfl; (first | assumption | (refine heap_alloc_lt ?_; assumption) | (refine heap_alloc_lt (heap_alloc_lt ?_); assumption) | exact heap_alloc_at (by simp)); exact ⟨rfl, rfl⟩; (refine evC_one _ ?_ ?_ <;> first | rfl | assumption)))
          intro W6 hb6 hk6
          have hq6 : Keeps [] w5 W6 := HKA.out.trans hk6 (fun q hq => .inr (by simp at hq; omega))
          have HK6 := Lib.hid (HKQ.out.trans (HK4.out.trans (HK5.out.trans hq6 (FSub.refl _ _)) (FSub.refl _ _)) (FSub.refl _ _))
          clear hb6 hk6 hq6 HKA HK5 x1 x2 HK4
          go_wp2_with fail
          go_roundw
          case rel => exact ⟨c + 1, rfl, by go_num, by omega, HK6.out⟩
          case measure => simp [intOf]; omega
      · obtain rfl : c = 18 := by omega
        go_wp2_with fail
        go_ret
        exact ⟨rfl, HKR.out⟩
  · have hon : on = true := by
      rw [HS.out.on, ← HTL.out]
      cases T with
      | nil => exact absurd rfl hT
      | cons q r => rfl
    have hT0 : 0 < T.length := List.length_pos_iff.2 hT
    obtain ⟨hb0, hcap, hge, hg1, hg2, -, -, hrng⟩ := HH.out.get hT
    simp at hge
    obtain ⟨rfl, rfl⟩ := hge
    have hgg : (T[0]).1.g = g := by
      rw [HS.out.g, ← HTL.out]
      cases T with
      | nil => exact absurd rfl hT
      | cons q r => rfl
    have HRG := Lib.hid (show ∀ w', S w' → w'.rangeAt hb0 12 (cfgC g) from fun w' h => by
      rw [hS] at h
      have h2 := range_cfg (hrng 0 hT0).1
      rw [hgg] at h2
      simp only [Nat.zero_mul, Nat.zero_add] at h2
      exact fun j u hj => (HKW.out.trans h (FSub.refl _ _)).cell (h2 j u hj) (by simp))
    have HRC := Lib.hid (show ∀ w', S w' → w'.rangeAt C 0 (cfgC g) from fun w' h => by
      rw [hS] at h
      exact fun j u hj => h.cell (by have := HB.out; simp only [World.cell?, this, Nat.zero_add]; simpa using hj) (by simp))
    have hTp : (0 : Int) < T.length := by omega
    rw [hon]
    clear hon hrng hgg hS
    generalize hTl : T.length = tl at *
    have HTl := Lib.hid hTl
    clear hTl
    have HNN := Lib.hid (show T.length ≤ 1000 by rw [HTl.out]; exact hn)
    refine wp_region_noPanic ?_
    refine wp_region_held_drew (S := S) (by kernel_rfl) hSD (fun hHeld => ?_)
    apply wpAnyH_take (i := 0)
    · simp only [List.getElem?_toArray]; rfl
    · kernel_rfl
    · kernel_rfl
    · kernel_rfl
    · exact fun _ _ _ h => h
    · exact Or.inl ⟨by rfl, by intro w hSw; go_simp; try with_reducible rfl⟩
    · assumption
    try simp only [Act.put, List.setIfInBounds_toArray, List.set_cons_zero, List.set_cons_succ]
    apply wpAnyH_take (i := 1)
    · simp only [List.getElem?_toArray]; rfl
    · kernel_rfl
    · kernel_rfl
    · kernel_rfl
    · exact fun _ _ _ h => h
    · exact Or.inl ⟨by rfl, by intro w hSw; go_simp; try with_reducible rfl⟩
    · assumption
    try simp only [Act.put, List.setIfInBounds_toArray, List.set_cons_zero, List.set_cons_succ]
    apply wpAnyH_take (i := 2)
    · simp only [List.getElem?_toArray]; rfl
    · kernel_rfl
    · kernel_rfl
    · kernel_rfl
    · exact fun _ _ _ h => h
    · exact Or.inl ⟨by rfl, by intro w hSw; go_simp; try with_reducible rfl⟩
    · assumption
    try simp only [Act.put, List.setIfInBounds_toArray, List.set_cons_zero, List.set_cons_succ]
    apply wpAnyH_take (i := 3)
    · simp only [List.getElem?_toArray]; rfl
    · kernel_rfl
    · kernel_rfl
    · kernel_rfl
    · exact fun _ _ _ h => h
    · exact Or.inl ⟨by rfl, by intro w hSw; go_simp; try with_reducible rfl⟩
    · assumption
    try simp only [Act.put, List.setIfInBounds_toArray, List.set_cons_zero, List.set_cons_succ]
    apply wpAnyH_take (i := 4)
    · simp only [List.getElem?_toArray]; rfl
    · kernel_rfl
    · kernel_rfl
    · kernel_rfl
    · exact fun _ _ _ h => h
    · exact Or.inl ⟨by rfl, by intro w hSw; have q0 := hsb w hSw; go_simp; try with_reducible rfl⟩
    · assumption
    try simp only [Act.put, List.setIfInBounds_toArray, List.set_cons_zero, List.set_cons_succ]
    apply wpAnyH_take (i := 5)
    · simp only [List.getElem?_toArray]; rfl
    · kernel_rfl
    · kernel_rfl
    · kernel_rfl
    · exact fun _ _ _ h => h
    · exact Or.inl ⟨by rfl, by intro w hSw; go_simp; try with_reducible rfl⟩
    · assumption
    try simp only [Act.put, List.setIfInBounds_toArray, List.set_cons_zero, List.set_cons_succ]
    apply wpAnyH_take (i := 6)
    · simp only [List.getElem?_toArray]; rfl
    · kernel_rfl
    · kernel_rfl
    · kernel_rfl
    · exact fun _ _ _ h => h
    · exact Or.inl ⟨by rfl, by intro w hSw; go_simp; try with_reducible rfl⟩
    · assumption
    try simp only [Act.put, List.setIfInBounds_toArray, List.set_cons_zero, List.set_cons_succ]
    apply wpAnyH_take (i := 7)
    · simp only [List.getElem?_toArray]; rfl
    · kernel_rfl
    · kernel_rfl
    · kernel_rfl
    · exact fun _ _ _ h => h
    · exact Or.inl ⟨by rfl, by intro w hSw; go_simp; try with_reducible rfl⟩
    · assumption
    try simp only [Act.put, List.setIfInBounds_toArray, List.set_cons_zero, List.set_cons_succ]
    apply wpAnyH_take (i := 8)
    · simp only [List.getElem?_toArray]; rfl
    · kernel_rfl
    · kernel_rfl
    · kernel_rfl
    · exact fun _ _ _ h => h
    · exact Or.inl ⟨by rfl, by intro w hSw; go_simp; try with_reducible rfl⟩
    · assumption
    try simp only [Act.put, List.setIfInBounds_toArray, List.set_cons_zero, List.set_cons_succ]
    apply wpAnyH_take (i := 9)
    · simp only [List.getElem?_toArray]; rfl
    · kernel_rfl
    · kernel_rfl
    · kernel_rfl
    · exact fun _ _ _ h => h
    · exact Or.inl ⟨by rfl, by intro w hSw; go_simp; try with_reducible rfl⟩
    · assumption
    try simp only [Act.put, List.setIfInBounds_toArray, List.set_cons_zero, List.set_cons_succ]
    apply wpAnyH_take (i := 10)
    · simp only [List.getElem?_toArray]; rfl
    · kernel_rfl
    · kernel_rfl
    · kernel_rfl
    · exact fun _ _ _ h => h
    · exact Or.inl ⟨by rfl, by intro w hSw; go_simp; try with_reducible rfl⟩
    · assumption
    try simp only [Act.put, List.setIfInBounds_toArray, List.set_cons_zero, List.set_cons_succ]
    apply wpAnyH_take (i := 11)
    · simp only [List.getElem?_toArray]; rfl
    · kernel_rfl
    · kernel_rfl
    · kernel_rfl
    · exact fun _ _ _ h => h
    · exact yields_cfg_lit g (by rfl) _ rfl C 0 rfl HRC.out
    · assumption
    try simp only [Act.put, List.setIfInBounds_toArray, List.set_cons_zero, List.set_cons_succ]
    apply wpAnyH_take (i := 12)
    · simp only [List.getElem?_toArray]; rfl
    · kernel_rfl
    · kernel_rfl
    · kernel_rfl
    · exact fun _ _ _ h => h
    · exact Or.inl ⟨by rfl, by intro w hSw; go_simp; try with_reducible rfl⟩
    · assumption
    try simp only [Act.put, List.setIfInBounds_toArray, List.set_cons_zero, List.set_cons_succ]
    apply wpAnyH_take (i := 13)
    · simp only [List.getElem?_toArray]; rfl
    · kernel_rfl
    · kernel_rfl
    · kernel_rfl
    · exact fun _ _ _ h => h
    · exact Or.inl ⟨by rfl, by intro w hSw; go_simp; try with_reducible rfl⟩
    · assumption
    try simp only [Act.put, List.setIfInBounds_toArray, List.set_cons_zero, List.set_cons_succ]
    apply wpAnyH_take (i := 14)
    · simp only [List.getElem?_toArray]; rfl
    · kernel_rfl
    · kernel_rfl
    · kernel_rfl
    · exact fun _ _ _ h => h
    · exact Or.inl ⟨by rfl, by intro w hSw; go_simp; try with_reducible rfl⟩
    · assumption
    try simp only [Act.put, List.setIfInBounds_toArray, List.set_cons_zero, List.set_cons_succ]
    apply wpAnyH_take (i := 15)
    · simp only [List.getElem?_toArray]; rfl
    · kernel_rfl
    · kernel_rfl
    · kernel_rfl
    · exact fun _ _ _ h => h
    · exact Or.inl ⟨by rfl, by intro w hSw; have q0 := hsb w hSw; go_simp; try with_reducible rfl⟩
    · assumption
    try simp only [Act.put, List.setIfInBounds_toArray, List.set_cons_zero, List.set_cons_succ]
    apply wpAnyH_take (i := 16)
    · simp only [List.getElem?_toArray]; rfl
    · kernel_rfl
    · kernel_rfl
    · kernel_rfl
    · exact fun _ _ _ h => h
    · exact Or.inl ⟨by rfl, by intro w hSw; go_simp; try with_reducible rfl⟩
    · assumption
    try simp only [Act.put, List.setIfInBounds_toArray, List.set_cons_zero, List.set_cons_succ]
    apply wpAnyH_take (i := 17)
    · simp only [List.getElem?_toArray]; rfl
    · kernel_rfl
    · kernel_rfl
    · kernel_rfl
    · exact fun _ _ _ h => h
    · exact Or.inl ⟨by rfl, by intro w hSw; go_simp; try with_reducible rfl⟩
    · assumption
    try simp only [Act.put, List.setIfInBounds_toArray, List.set_cons_zero, List.set_cons_succ]
    apply wpAnyH_take (i := 18)
    · simp only [List.getElem?_toArray]; rfl
    · kernel_rfl
    · kernel_rfl
    · kernel_rfl
    · exact fun _ _ _ h => h
    · exact yields_cfg_lit g (by rfl) _ rfl hb0 12 rfl HRG.out
    · assumption
    try simp only [Act.put, List.setIfInBounds_toArray, List.set_cons_zero, List.set_cons_succ]
    apply wpAnyH_take (i := 19)
    · simp only [List.getElem?_toArray]; rfl
    · kernel_rfl
    · kernel_rfl
    · kernel_rfl
    · exact fun _ _ _ h => h
    · exact Or.inl ⟨by rfl, by intro w hSw; go_simp; try with_reducible rfl⟩
    · assumption
    try simp only [Act.put, List.setIfInBounds_toArray, List.set_cons_zero, List.set_cons_succ]
    apply wpAnyH_take (i := 20)
    · simp only [List.getElem?_toArray]; rfl
    · kernel_rfl
    · kernel_rfl
    · kernel_rfl
    · exact fun _ _ _ h => h
    · exact Or.inl ⟨by rfl, by intro w hSw; go_simp; try with_reducible rfl⟩
    · assumption
    try simp only [Act.put, List.setIfInBounds_toArray, List.set_cons_zero, List.set_cons_succ]
    apply wpAnyH_take (i := 21)
    · simp only [List.getElem?_toArray]; rfl
    · kernel_rfl
    · kernel_rfl
    · kernel_rfl
    · exact fun _ _ _ h => h
    · exact Or.inl ⟨by rfl, by intro w hSw; go_simp; try with_reducible rfl⟩
    · assumption
    try simp only [Act.put, List.setIfInBounds_toArray, List.set_cons_zero, List.set_cons_succ]
    apply wpAnyH_take (i := 22)
    · simp only [List.getElem?_toArray]; rfl
    · kernel_rfl
    · kernel_rfl
    · kernel_rfl
    · exact fun _ _ _ h => h
    · exact Or.inl ⟨by rfl, by intro w hSw; go_simp; try with_reducible rfl⟩
    · assumption
    try simp only [Act.put, List.setIfInBounds_toArray, List.set_cons_zero, List.set_cons_succ]
    apply wpAnyH_take (i := 23)
    · simp only [List.getElem?_toArray]; rfl
    · kernel_rfl
    · kernel_rfl
    · kernel_rfl
    · exact fun _ _ _ h => h
    · exact Or.inl ⟨by rfl, by intro w hSw; go_simp; try with_reducible rfl⟩
    · assumption
    try simp only [Act.put, List.setIfInBounds_toArray, List.set_cons_zero, List.set_cons_succ]
    apply wpAnyH_take (i := 25)
    · simp only [List.getElem?_toArray]; rfl
    · kernel_rfl
    · kernel_rfl
    · kernel_rfl
    · exact fun _ _ _ h => h
    · exact Or.inl ⟨by rfl, by intro w hSw; go_simp; try with_reducible rfl⟩
    · assumption
    try simp only [Act.put, List.setIfInBounds_toArray, List.set_cons_zero, List.set_cons_succ]
    apply wpAnyH_ready (rs := [24])
    · kernel_rfl
    · simp
    apply AllReadyH.cons (hs := AllReadyH.nil)
    · simp only [List.getElem?_toArray]; rfl
    intro K hK
    rw [if_pos (by rfl)]
    go_simp
    refine (hOpen_any (HA.out.new (HKW.out.trans (Keeps.refl [] W).drew (FSub.refl _ _))) HS.out).mono ?_; rintro e W1 ⟨rfl, hw1⟩
    rw [hw1]
    clear hw1
    go_wp2_with fail
    refine hK.out _ _ ?_ (fun hHeld => ?_)
    · exact (by rw [HSE.out]; exact (Keeps.refl [] W).drew)
    clear hK K
    try simp only [Act.put, List.setIfInBounds_toArray, List.set_cons_zero, List.set_cons_succ]
    apply wpAnyH_ready (rs := [26])
    · kernel_rfl
    · simp
    apply AllReadyH.cons (hs := AllReadyH.nil)
    · simp only [List.getElem?_toArray]; rfl
    intro K hK
    rw [if_pos (by rfl)]
    go_simp
    refine (r7Open_any W.drew (HH.out.new (HKW.out.trans (Keeps.refl [] W).drew (FSub.refl _ _))) HNN.out).mono ?_; rintro e W1 ⟨rfl, hk1⟩
    rw [HTL.out]
    generalize hOpenN L = OP at *
    have hk01 : Keeps [] W W1 := (Keeps.refl [] W).drew.trans hk1 (FSub.refl _ _)
    have HK01 := Lib.hid hk01
    clear hk1
    go_wp2_with fail
    refine hK.out _ _ ?_ (fun hHeld => ?_)
    · exact (by rw [HSE.out]; exact HK01.out)
    clear hK K
    try simp only [Act.put, List.setIfInBounds_toArray, List.set_cons_zero, List.set_cons_succ]
    apply wpAnyH_take (i := 27)
    · simp only [List.getElem?_toArray]; rfl
    · kernel_rfl
    · kernel_rfl
    · kernel_rfl
    · exact fun _ _ _ h => h
    · exact Or.inl ⟨by rfl, by intro w hSw; go_simp; try with_reducible rfl⟩
    · assumption
    try simp only [Act.put, List.setIfInBounds_toArray, List.set_cons_zero, List.set_cons_succ]
    apply wpAnyH_take (i := 28)
    · simp only [List.getElem?_toArray]; rfl
    · kernel_rfl
    · kernel_rfl
    · kernel_rfl
    · exact fun _ _ _ h => h
    · exact Or.inl ⟨by rfl, by intro w hSw; go_simp; try with_reducible rfl⟩
    · assumption
    try simp only [Act.put, List.setIfInBounds_toArray, List.set_cons_zero, List.set_cons_succ]
    apply wpAnyH_take (i := 29)
    · simp only [List.getElem?_toArray]; rfl
    · kernel_rfl
    · kernel_rfl
    · kernel_rfl
    · exact fun _ _ _ h => h
    · exact Or.inl ⟨by rfl, by intro w hSw; go_simp; try with_reducible rfl⟩
    · assumption
    try simp only [Act.put, List.setIfInBounds_toArray, List.set_cons_zero, List.set_cons_succ]
    apply wpAnyH_take (i := 30)
    · simp only [List.getElem?_toArray]; rfl
    · kernel_rfl
    · kernel_rfl
    · kernel_rfl
    · exact fun _ _ _ h => h
    · exact Or.inl ⟨by rfl, by intro w hSw; go_simp; try with_reducible rfl⟩
    · assumption
    try simp only [Act.put, List.setIfInBounds_toArray, List.set_cons_zero, List.set_cons_succ]
    apply wpAnyH_take (i := 32)
    · simp only [List.getElem?_toArray]; rfl
    · kernel_rfl
    · kernel_rfl
    · kernel_rfl
    · exact fun _ _ _ h => h
    · exact Or.inl ⟨by rfl, by intro w hSw; go_simp; try with_reducible rfl⟩
    · assumption
    try simp only [Act.put, List.setIfInBounds_toArray, List.set_cons_zero, List.set_cons_succ]
    apply wpAnyH_ready (rs := [31])
    · kernel_rfl
    · simp
    apply AllReadyH.cons (hs := AllReadyH.nil)
    · simp only [List.getElem?_toArray]; rfl
    intro K hK
    rw [if_pos (by rfl)]
    go_simp
    refine (hLast_any (HA.out.new (HKW.out.trans HK01.out (FSub.refl _ _)))).mono ?_; rintro e W2 ⟨rfl, hw2⟩
    rw [hw2, HS.out.la]
    clear hw2
    go_wp2_with fail
    refine hK.out _ _ ?_ (fun hHeld => ?_)
    · exact (by rw [HSE.out]; exact HK01.out)
    clear hK K
    try simp only [Act.put, List.setIfInBounds_toArray, List.set_cons_zero, List.set_cons_succ]
    apply wpAnyH_ready (rs := [33])
    · kernel_rfl
    · simp
    apply AllReadyH.cons (hs := AllReadyH.nil)
    · simp only [List.getElem?_toArray]; rfl
    intro K hK
    rw [if_pos (by rfl)]
    go_simp
    refine (r7Last_any W1 (HH.out.new (HKW.out.trans HK01.out (FSub.refl _ _))) HNN.out HIN.out).mono ?_; rintro e W2 ⟨rfl, hw2⟩
    rw [hw2, HTL.out]
    clear hw2
    generalize hMax L.tail = LA at *
    go_wp2_with fail
    refine hK.out _ _ ?_ (fun hHeld => ?_)
    · exact (by rw [HSE.out]; exact HK01.out)
    clear hK K
    try simp only [Act.put, List.setIfInBounds_toArray, List.set_cons_zero, List.set_cons_succ]
    apply wpAnyH_take (i := 34)
    · simp only [List.getElem?_toArray]; rfl
    · kernel_rfl
    · kernel_rfl
    · kernel_rfl
    · exact fun _ _ _ h => h
    · exact Or.inl ⟨by rfl, by intro w hSw; go_simp; try with_reducible rfl⟩
    · assumption
    try simp only [Act.put, List.setIfInBounds_toArray, List.set_cons_zero, List.set_cons_succ]
    apply wpAnyH_take (i := 35)
    · simp only [List.getElem?_toArray]; rfl
    · kernel_rfl
    · kernel_rfl
    · kernel_rfl
    · exact fun _ _ _ h => h
    · exact Or.inl ⟨by rfl, by intro w hSw; go_simp; try with_reducible rfl⟩
    · assumption
    try simp only [Act.put, List.setIfInBounds_toArray, List.set_cons_zero, List.set_cons_succ]
    refine wpAnyH_done (by kernel_rfl) ?_ _
    refine NoPanic.normal ?_
    have HK1 := Lib.hid (HKW.out.trans HK01.out (FSub.refl _ _))
    clear hHeld hsb hSD hk01
    go_wp2_with fail
    have HW1 := Lib.hid (Nat.le_trans (Nat.le_trans HH.out.nb (Nat.le_of_lt (lt_of_block HH.out.cell))) HK1.out.size)
    go_loopw [4, 7, 8, 9, 10, 11] (fun q k _ _ _ _ wr => ∃ c : Nat, q = .bool false ∧ k = .int .i64 c ∧ c ≤ 18 ∧ Keeps [] W1 wr) (fun _ k _ _ _ _ _ => 18 - (intOf k).toNat)
    case atStart => exact ⟨0, rfl, rfl, by omega, Keeps.refl _ _⟩
    case round =>
      obtain ⟨c, rfl, rfl, hc18, hkw⟩ := hrel
      have HKR := Lib.hid (HK1.out.trans hkw (FSub.refl _ _))
      have HKQ := Lib.hid hkw
      clear hkw
      by_cases hlt : c < 18
      · have hw8 : IntKind.u8.wrap (c : Int) = c := by simp [IntKind.wrap, IntKind.bits, IntKind.signed]; omega
        have hi : (c : Int) < 18 := by omega
        have HQ := Lib.hid (fun (w' : World) (hk : Keeps [] wr w') => r7Pending_any w' (HH.out.new (HKR.out.trans hk (FSub.refl _ _))) HNN.out (c : Int))
        rw [HTL.out] at HQ
        by_cases h16 : c < 16
        · have hl : c < op.length := by rw [HA.out.past.len]; exact h16
          have HP := Lib.hid (hPending_any (HA.out.new HKR.out) c hl (Nat.le_trans (HS.out.len8 HL.out c hl) (by omega)))
          have hop := HS.out.op c hl
          have hr0 := (HA.out.past.evs c hl).2.2.2
          obtain ⟨PE, hPE⟩ : ∃ PE, PE = (op[c]).1 := ⟨_, rfl⟩
          rw [← hPE] at HP hop hr0
          have hx0 : ({ PE with r := [] } : Ev) = PE := by cases PE; simp only at hr0; rw [hr0]
          rw [hx0] at HP
          have HOP := Lib.hid hop
          clear hPE hr0 hx0 hl hop h16
          generalize hbz : decide (PE.k ≠ 0) = BZ at *
          have HBZ := Lib.hid hbz
          clear hbz
          go_wp2_with fail
          refine (HP.out).mono ?_; rintro e w3 ⟨tx', rfl, hat3, hk3⟩
          have x1 := hat3.t.one; have x2 : (Value.slice none 0 0).oneCell' = true := rfl
          have HAT3 := Lib.hid hat3; have HK3 := Lib.hid hk3
          have HKA := Lib.hid ((Keeps.refl [] w3).alloc (.cells zeroEv 42))
          clear hat3 hk3 HP
          go_wp2_with (first | ((with_reducible apply wpList_put_ev); exact rfl; exact rfl; (first | assumption | (refine heap_alloc_lt ?_; assumption) | (refine heap_alloc_lt (heap_alloc_lt ?_); assumption) | exact heap_alloc_at (by simp)); exact ⟨rfl, rfl⟩; (refine evC_one _ ?_ ?_ <;> first | rfl | assumption)))
          intro W4 hb4 hk4
          have hq4 : Keeps [] w3 W4 := HKA.out.trans hk4 (fun q hq => .inr (by simp at hq; omega))
          have HB4 := Lib.hid hb4; have HAT4 := Lib.hid (HAT3.out.new hq4 (Nat.le_refl _)); have HK4 := Lib.hid (HK3.out.trans hq4 (FSub.refl _ _)); have HZ4 := Lib.hid hq4.size
          clear hb4 hk4 hq4 HKA HAT3 HK3 x1 x2
          generalize w3.heap.size = C8 at *
          go_wp2_with fail
          refine (HQ.out W4 HK4.out).mono ?_; rintro e w5 ⟨y, ty, ry, rfl, hat5, hy5, hk5⟩
          have x1 := hat5.t.one; have x2 := hat5.r.one
          have HAT5 := Lib.hid hat5; have HK5 := Lib.hid hk5; have HY := Lib.hid hy5
          have HKA := Lib.hid ((Keeps.refl [] w5).alloc (.cells zeroEv 42))
          clear hat5 hy5 hk5 HQ
          go_wp2_with (first | ((with_reducible apply wpList_put_ev); exact rfl; exact rfl; (first | assumption | (refine heap_alloc_lt ?_; assumption) | (refine heap_alloc_lt (heap_alloc_lt ?_); assumption) | exact heap_alloc_at (by simp)); exact ⟨rfl, rfl⟩; (refine evC_one _ ?_ ?_ <;> first | rfl | assumption)))
          intro W6 hb6 hk6
          have hq6 : Keeps [] w5 W6 := HKA.out.trans hk6 (fun q hq => .inr (by simp at hq; omega))
          have hq46 : Keeps [] W4 W6 := HK5.out.trans hq6 (FSub.refl _ _)
          have HB6 := Lib.hid hb6; have HB48 := Lib.hid (hq46.heap HB4.out (by simp))
          have hN5 : N ≤ w5.heap.size := Nat.le_trans HW1.out (Nat.le_trans HKQ.out.size (Nat.le_trans HK4.out.size HK5.out.size))
          have HAT6 := Lib.hid (HAT5.out.new hq6 hN5)
          have HAT46 := Lib.hid (HAT4.out.new hq46 HZ4.out)
          have HK6 := Lib.hid (HKQ.out.trans (HK4.out.trans hq46 (FSub.refl _ _)) (FSub.refl _ _))
          have HZ6 := Lib.hid (Nat.le_trans HZ4.out hq46.size); have HN6 := Lib.hid (Nat.le_trans hN5 hq6.size)
          clear hb6 hk6 hq6 hq46 HKA HAT5 HK5 x1 x2 HB4 HAT4 HK4 HZ4 hN5
          generalize w5.heap.size = C10 at *
          cases hpd : hPend L (c : Int) with
          | none =>
            obtain rfl : BZ = false := by
              have := HOP.out
              rw [hpd] at this
              rw [← HBZ.out, this]; rfl
            clear hpd HBZ
            go_wp2_with fail
            go_roundw
            case rel => exact ⟨c + 1, rfl, by go_num, by omega, HK6.out⟩
            case measure => simp [intOf]; omega
          | some z =>
            have hpe : PE = z := by rw [HOP.out, hpd]; rfl
            have hyz := HY.out z hpd
            obtain rfl : BZ = true := by
              have := (pend_k (L := L) (c := (c : Int))).2 (by rw [hpd]; rfl)
              rw [hpd] at this
              rw [← HBZ.out, hpe]
              exact decide_eq_true this
            subst hyz
            subst hpe
            have HSM := Lib.hid (refSame5_any W6 PE PE tx' (.slice none 0 0) ty ry HAT46.out HAT6.out HZ6.out HN6.out)
            rw [evSame_self] at HSM
            clear hpd HBZ
            go_wp2_with (first
              | ((with_reducible refine wpList_load_evG ?_ ?_ HB48.out ?_ ?_); exact rfl; exact rfl; exact rfl)
              | ((with_reducible refine wpList_load_evG ?_ ?_ HB6.out ?_ ?_); exact rfl; exact rfl; exact rfl))
            refine (HSM.out).mono ?_; rintro e w7 ⟨rfl, hk7⟩
            have HK7 := Lib.hid (HK6.out.trans hk7 (FSub.refl _ _))
            clear hk7
            go_wp2_with fail
            go_roundw
            case rel => exact ⟨c + 1, rfl, by go_num, by omega, HK7.out⟩
            case measure => simp [intOf]; omega
        · have HP := Lib.hid (hPending_far (HA.out.new HKR.out) (c : Int) (by omega))
          have hpf := pend_far HL.out (c := (c : Int)) (by omega)
          rw [hpf] at HQ
          clear hpf h16
          go_wp2_with fail
          refine (HP.out).mono ?_; rintro e w3 ⟨rfl, hk3⟩
          have x1 : (Value.slice none 0 0).oneCell' = true := rfl
          have HK3 := Lib.hid hk3
          have HKA := Lib.hid ((Keeps.refl [] w3).alloc (.cells zeroEv 42))
          clear hk3 HP
          go_wp2_with (first | ((with_reducible apply wpList_put_ev); exact rfl; exact rfl; (first | assumption | (refine heap_alloc_lt ?_; assumption) | (refine heap_alloc_lt (heap_alloc_lt ?_); assumption) | exact heap_alloc_at (by simp)); exact ⟨rfl, rfl⟩; (refine evC_one _ ?_ ?_ <;> first | rfl | assumption)))
          intro W4 hb4 hk4
          have hq4 : Keeps [] w3 W4 := HKA.out.trans hk4 (fun q hq => .inr (by simp at hq; omega))
          have HK4 := Lib.hid (HK3.out.trans hq4 (FSub.refl _ _))
          clear hb4 hk4 hq4 HKA HK3 x1
          generalize w3.heap.size = C8 at *
          go_wp2_with fail
          refine (HQ.out W4 HK4.out).mono ?_; rintro e w5 ⟨y, ty, ry, rfl, hat5, -, hk5⟩
          have x1 := hat5.t.one; have x2 := hat5.r.one
          have HK5 := Lib.hid hk5
          have HKA := Lib.hid ((Keeps.refl [] w5).alloc (.cells zeroEv 42))
          clear hat5 hk5 HQ
          go_wp2_with (first | ((with_reducible apply wpList_put_ev); exact rfl; exact rfl; (first | assumption | (refine heap_alloc_lt ?_; assumption) | (refine heap_alloc_lt (heap_alloc_lt ?_); assumption) | exact heap_alloc_at (by simp)); exact ⟨rfl, rfl⟩; (refine evC_one _ ?_ ?_ <;> first | rfl | assumption)))
          intro W6 hb6 hk6
          have hq6 : Keeps [] w5 W6 := HKA.out.trans hk6 (fun q hq => .inr (by simp at hq; omega))
          have HK6 := Lib.hid (HKQ.out.trans (HK4.out.trans (HK5.out.trans hq6 (FSub.refl _ _)) (FSub.refl _ _)) (FSub.refl _ _))
          clear hb6 hk6 hq6 HKA HK5 x1 x2 HK4
          go_wp2_with fail
          go_roundw
          case rel => exact ⟨c + 1, rfl, by go_num, by omega, HK6.out⟩
          case measure => simp [intOf]; omega
      · obtain rfl : c = 18 := by omega
        go_wp2_with fail
        go_ret
        exact ⟨rfl, HKR.out⟩
end Go.Proofs.YtlaccndjlfpjbaaGreatDoor
/-
  HistorySteps: its walk.
-/
namespace Go.Proofs.YtlaccndjlfpjbaaGreatDoor
open Go.RowKit Go.Maps
/-- Both histories, which took the same events. -/
structure StInv (N : Nat) (w0 wr : World) (A p mb m b : Nat) (L : List Ev) (O : List Nat) (tv : Value) (T : EvL) : Prop where
  au : HAuto wr A p mb m L O
  d : DInv N w0 wr b tv T L
  ap : ∀ g, (g = b ∨ g ∈ own tv) → g ≠ A ∧ g ≠ p ∧ g ≠ mb ∧ g ∉ O
  lo : w0.heap.size ≤ A ∧ w0.heap.size ≤ p ∧ w0.heap.size ≤ mb ∧ ∀ q ∈ O, w0.heap.size ≤ q
theorem StInv.new {N : Nat} {w0 wr w' : World} {A p mb m b : Nat} {L : List Ev} {O : List Nat} {tv : Value} {T : EvL} (h : StInv N w0 wr A p mb m b L O tv T) (hk : Keeps [] wr w') : StInv N w0 w' A p mb m b L O tv T :=
  ⟨h.au.new hk, h.d.new hk, h.ap, h.lo⟩
/-- Between the two Steps. -/
structure MidInv (N : Nat) (w0 wr : World) (A p mb m b : Nat) (L L' : List Ev) (O : List Nat) (tv : Value) (T : EvL) : Prop where
  au : HAuto wr A p mb m L' O
  d : DInv N w0 wr b tv T L
  ap : ∀ g, (g = b ∨ g ∈ own tv) → g ≠ A ∧ g ≠ p ∧ g ≠ mb ∧ g ∉ O
  lo : w0.heap.size ≤ A ∧ w0.heap.size ≤ p ∧ w0.heap.size ≤ mb ∧ ∀ q ∈ O, w0.heap.size ≤ q
theorem StInv.first {N : Nat} {w0 wr w' : World} {A p mb m b : Nat} {L : List Ev} {O : List Nat} {tv : Value} {T : EvL} (h : StInv N w0 wr A p mb m b L O tv T) (hN : N ≤ w0.heap.size) {x : Ev} {e : Ending} (hs : StepPost wr A p mb m L O x e w') :
    e = .returned (.int .i64 (hErr opChk mayOf L x)) ∧ ∃ m' O', MidInv N w0 w' A p mb m' b L (hNext opChk mayOf L x) O' tv T ∧ m' ≤ m + 8 ∧ Same N wr w' := by
  obtain ⟨he, m', O', h1, h2, h3, h4⟩ := hs
  have hap := fun g hg => (h.ap g hg)
  refine ⟨he, m', O', ⟨h1, ⟨h.d.at_.other h2 (fun q hq => ?_), h.d.ev, h.d.kp.trans h2 (fun q hq => .inr ?_), h.d.lo.1, Nat.le_trans h.d.lo.2 h2.size⟩, fun g hg => ?_, h.lo.1, h.lo.2.1, h.lo.2.2.1, fun q hq => ?_⟩, h4, h2.same (Nat.le_trans hN h.d.kp.size) (fun q hq => ?_)⟩
  · have hqq : q = p ∨ q = mb := by simpa using hq
    have hlo : w0.heap.size ≤ q := by rcases hqq with rfl | rfl; exact h.lo.2.1; exact h.lo.2.2.1
    refine ⟨Nat.le_trans hN hlo, fun e => ?_, fun e => ?_⟩
    · have := h.ap q (.inl e); rcases hqq with rfl | rfl; exact this.2.1 rfl; exact this.2.2.1 rfl
    · have := h.ap q (.inr e); rcases hqq with rfl | rfl; exact this.2.1 rfl; exact this.2.2.1 rfl
  · have hqq : q = p ∨ q = mb := by simpa using hq
    rcases hqq with rfl | rfl; exact h.lo.2.1; exact h.lo.2.2.1
  · obtain ⟨a1, a2, a3, a4⟩ := h.ap g hg
    refine ⟨a1, a2, a3, fun hq => (h3 g hq).elim a4 (fun h5 => ?_)⟩
    rcases hg with rfl | hg
    · have := h.d.lo.2; omega
    · have := (row_base h.d.at_.row g hg).2; omega
  · exact (h3 q hq).elim (h.lo.2.2.2 q) (fun h5 => Nat.le_trans h.d.kp.size h5)
  · have hqq : q = p ∨ q = mb := by simpa using hq
    rcases hqq with rfl | rfl
    · exact Nat.le_trans hN h.lo.2.1
    · exact Nat.le_trans hN h.lo.2.2.1
theorem MidInv.second {N : Nat} {w0 wr w' : World} {A p mb m b : Nat} {L : List Ev} {O : List Nat} {tv : Value} {T : EvL} {x : Ev} (h : MidInv N w0 wr A p mb m b L (hNext opChk mayOf L x) O tv T) {e : Ending} (hs : Step7Post N b (b + 1) wr tv T x e w') :
    e = .returned (.int .i64 (hErr opChk mayOf L x)) ∧ ∃ tv' T', StInv N w0 w' A p mb m b (hNext opChk mayOf L x) O tv' T' ∧ T'.length ≤ T.length + 1 := by
  obtain ⟨he, tv', T', h1, h2, h3, h4, h5⟩ := hs
  rw [h.d.ev] at he h2
  have hmem : ∀ q, q ∈ b :: own tv → q = b ∨ q ∈ own tv := fun q hq => List.mem_cons.1 hq
  refine ⟨he, tv', T', ⟨h.au.keeps h4 (fun hq => (h.ap A (hmem A hq)).1 rfl) (fun hq => (h.ap p (hmem p hq)).2.1 rfl) (fun hq => (h.ap mb (hmem mb hq)).2.2.1 rfl) (fun q hq hf => (h.ap q (hmem q hf)).2.2.2 hq), ⟨h1, h2, h.d.kp.trans h4 (fun q hq => .inr ?_), h.d.lo.1, Nat.le_trans h.d.lo.2 h4.size⟩, fun g hg => ?_, h.lo⟩, h3⟩
  · rcases hmem q hq with rfl | hq
    · exact h.d.lo.1
    · exact Nat.le_trans (Nat.le_trans h.d.lo.1 (Nat.le_succ b)) (row_base h.d.at_.row q hq).1
  · rcases hg with rfl | hg
    · exact h.ap g (.inl rfl)
    · rcases h5 g hg with h6 | h6
      · exact h.ap g (.inr h6)
      · obtain ⟨l1, l2, l3⟩ := h.au.lt
        exact ⟨by omega, by omega, by omega, fun hq => by have := h.au.oz g hq; omega⟩
set_option maxHeartbeats 8000000
set_option maxRecDepth 100000
theorem HistorySteps_any (w : World) (hG : Glob4 w) (l : List Ev) (hi : ∀ x ∈ l, x.In) (v : Value) {N : Nat} (hv : Evs N w v l) (hN : N ≤ w.heap.size) :
    Calls Tryz.prog 3 #[v] w fun e w' => e = .returned (.bool true) ∧ Keeps [] w w' := by
  have HFEW := Lib.hid (few7_any w l v hv hN)
  obtain ⟨a, c, rfl, hc, hm, hrow⟩ := hv
  have HR := Lib.hid hrow; have HG := Lib.hid hG; have HL := Lib.hid hi
  have hnn : (l.length : Int) ≤ 9223372036854775807 := by omega
  clear hrow hG hi hm
  generalize hn2 : l.length = n at *
  have HN2 := Lib.hid hn2
  clear hn2
  go_enter Tryz.func3, Tryz.ntmps3
  go_wp2_with fail
  refine (HFEW.out).mono ?_; rintro e w0 ⟨B, rfl, hB, hw0⟩
  rw [hw0]
  clear hw0 HFEW
  cases B with
  | false =>
    have HAW := Lib.hid (awake7_any w HG.out)
    clear hB HR
    go_wp2_with fail
    refine (HAW.out).mono ?_; rintro e w1 ⟨rfl, hk1⟩
    go_wp2_with fail
    go_ret
    exact ⟨rfl, hk1⟩
  | true =>
    have h120 : n ≤ 120 := by have := hB rfl; rw [HN2.out] at this; exact this
    clear hB
    go_wp2_with fail
    refine (hNew_any w).mono ?_; rintro e w1 ⟨A, p, mb, rfl, hA1, hk1, b1, b2, b3⟩
    have HD0 := Lib.hid (show StInv N w (w1.alloc (.cells #[.slice none 0 0] 29)) A p mb 0 w1.heap.size (hAll opChk mayOf [] (l.take 0)) [] (.slice none 0 0) [] from by
      obtain ⟨l1, l2, l3⟩ := hA1.lt
      refine ⟨by simpa [hAll] using hA1.new ((Keeps.refl [] w1).alloc _), by simpa [hAll] using DInv.made hN hk1, fun g hg => ?_, b1, b2, b3, by simp⟩
      have hg1 : g = w1.heap.size := by rcases hg with h | h; exact h; simp [own, Value.ownBlock] at h
      exact ⟨by omega, by omega, by omega, by simp⟩)
    clear hA1 hk1 b1 b2 b3
    go_wp2_with fail
    generalize w1.heap.size = b at *
    go_loopw [2, 5, 6] (fun q i _ wr => ∃ (k m : Nat) (O : List Nat) (tv : Value) (T : EvL), q = .bool false ∧ i = .int .i64 k ∧ k ≤ n ∧ m ≤ 8 * k ∧ T.length ≤ k ∧ StInv N w wr A p mb m b (hAll opChk mayOf [] (l.take k)) O tv T) (fun _ i _ _ => n - (intOf i).toNat)
    case atStart => exact ⟨0, 0, [], _, [], rfl, rfl, by omega, by omega, by simp, HD0.out⟩
    case round =>
      clear HD0
      obtain ⟨k, m, O, tv, T, rfl, rfl, hk, hm, hT, hI⟩ := hrel
      by_cases hlt : k < n
      · have hlt2 : k < l.length := by have := HN2.out; omega
        obtain ⟨bk, o, rfl, hbk, hcell⟩ := HR.out (fun e => by rw [e] at hlt2; simp at hlt2)
        obtain ⟨tx, rd, ht, hr⟩ := hcell k hlt
        have hmem : l.getD k evZero ∈ l := getD_in evZero hlt2
        have htk := take_nextD evZero hlt2
        have hxi := HL.out _ hmem
        have hok : HistOk (hAll opChk mayOf [] (l.take k)) := hAll_ok HistOk.nil _ (fun x hx => HL.out x (List.mem_of_mem_take hx))
        have hnx : hNext opChk mayOf (hAll opChk mayOf [] (l.take k)) (l.getD k evZero) = hAll opChk mayOf [] (l.take (k + 1)) := by rw [htk, hAll_snoc]
        have hsame := hI.d.kp.same hN (by simp)
        have hr2 := rangeAt_same hr hsame hbk
        have HTX := Lib.hid (ht.same hsame)
        have HNX := Lib.hid hnx; have HI := Lib.hid hI; have HOK := Lib.hid hok; have HXI := Lib.hid hxi
        clear hcell ht hr hmem htk hok hnx hI hxi hsame
        generalize hAll opChk mayOf [] (l.take k) = L at *
        generalize l.getD k evZero = x at *
        have HR2 := Lib.hid hr2
        have HST := Lib.hid (hStep_any wr (HG.out.new HI.out.d.kp) HI.out.au HOK.out (by omega) x HXI.out tx rd HTX.out (Nat.le_trans hN HI.out.d.kp.size))
        clear hr2
        go_wp2_with ((with_reducible refine wpList_load_evM ?_ HR2.out ?_); exact rfl)
        refine (HST.out).mono ?_; intro e w2 hst
        obtain ⟨he, m', O', hmid, hm', hsm⟩ := HI.out.first hN hst
        subst he
        have HMID := Lib.hid hmid
        have HR3 := Lib.hid (rangeAt_same HR2.out hsm hbk)
        have hoT : HistOk (evsOf T) := by rw [hmid.d.ev]; exact HOK.out
        have HST2 := Lib.hid (r7Step_any w2 hmid.d.at_ hmid.d.lo.2 (by omega) hoT x HXI.out tx rd (HTX.out.same hsm))
        have HSM := Lib.hid hsm
        clear HST hst hmid HR2 HTX hsm hoT HI
        obtain ⟨E, hE⟩ : ∃ E, E = hErr opChk mayOf L x := ⟨_, rfl⟩
        rw [← hE]
        have HE := Lib.hid hE
        clear hE
        go_wp2_with ((with_reducible refine wpList_load_evM ?_ HR3.out ?_); exact rfl)
        refine (HST2.out).mono ?_; intro e w3 hst
        obtain ⟨he, tv', T', hI3, hT'⟩ := HMID.out.second hst
        rw [← HE.out] at he
        subst he
        have HI3 := Lib.hid hI3
        have te : (E != E) = false := by simp
        have HTOLD := Lib.hid (told7_any w3 hI3.au hI3.d.at_ (by omega) hI3.d.ev (HOK.out.next HXI.out))
        clear HST2 hst HMID HR3 hI3
        go_wp2_with fail
        refine (HTOLD.out).mono ?_; rintro e w4 ⟨rfl, hk4⟩
        have HI4 := Lib.hid (HI3.out.new hk4)
        rw [HNX.out] at HI4
        clear hk4 HTOLD HI3
        go_wp2_with fail
        go_roundw
        case rel => exact ⟨k + 1, m', O', tv', T', rfl, by go_num, by omega, by omega, by omega, HI4.out⟩
        case measure => simp [intOf]; omega
      · obtain rfl : k = n := by omega
        have HKP := Lib.hid hI.d.kp
        have HAW := Lib.hid (awake7_any wr (HG.out.new hI.d.kp))
        clear hI HR
        go_wp2_with fail
        refine (HAW.out).mono ?_; rintro e w4 ⟨rfl, hk4⟩
        go_wp2_with fail
        go_ret
        exact ⟨rfl, HKP.out.trans hk4 (FSub.refl _ _)⟩
end Go.Proofs.YtlaccndjlfpjbaaGreatDoor
