/-
  EventKnown's events and bytes.
-/
import Derived.Test.YtnehnbhdkhgakaaDoorG33
set_option linter.unusedSimpArgs false
set_option linter.unusedVariables false
namespace Go.Proofs.YtnehnbhdkhgakaaDoor
open Go.RowKit
def knW : Ev := { evZero with k := 2, c := 3, id := 258, o := ⟨2, 1, 0, 5, 0⟩ }
def knR : Ev := { evZero with k := 3, c := 3, id := 258, rk := 1, rv := 7 }
def knA : Ev := { evZero with k := 7 }
def knB : Ev := { evZero with k := 5, c := 1, id := 9, t := [⟨true, 2, 0⟩, ⟨false, 2, 6⟩] }
def knC : Ev := { evZero with k := 6, c := 1, id := 9, r := [[4, 5]] }
def knC0 : Ev := { evZero with k := 6, c := 1 }
theorem in_by {x : Ev} (h : decide (0 ≤ x.k ∧ x.k < 256 ∧ 0 ≤ x.c ∧ x.c < 256 ∧ 0 ≤ x.id ∧ x.id < 65536 ∧ 0 ≤ x.o.f ∧ x.o.f < 256 ∧ 0 ≤ x.o.o ∧ x.o.o < 256 ∧ 0 ≤ x.o.k ∧ x.o.k < 256 ∧ 0 ≤ x.o.a ∧ x.o.a < 65536 ∧ 0 ≤ x.o.b ∧ x.o.b < 65536 ∧ 0 ≤ x.rk ∧ x.rk < 256 ∧ 0 ≤ x.rv ∧ x.rv < 65536) = true)
    (h2 : decide (0 ≤ x.g.m ∧ x.g.m < 256 ∧ -9223372036854775808 ≤ x.g.mo ∧ x.g.mo ≤ 9223372036854775807 ∧ -9223372036854775808 ≤ x.g.ms ∧ x.g.ms ≤ 9223372036854775807 ∧ -9223372036854775808 ≤ x.g.mt ∧ x.g.mt ≤ 9223372036854775807) = true)
    (ht : (x.t.all fun m => decide (0 ≤ m.key ∧ m.key < 256 ∧ 0 ≤ m.v ∧ m.v < 65536)) = true) (hr : (x.r.all fun l => l.all fun n => decide (0 ≤ n ∧ n < 65536)) = true) : x.In := by
  have h := of_decide_eq_true h
  have h2 := of_decide_eq_true h2
  obtain ⟨a1, a2, a3, a4, a5, a6, b1, b2, b3, b4, b5, b6, b7, b8, b9, b10, a7, a8, a9, a10⟩ := h
  obtain ⟨c1, c2, c3, c4, c5, c6, c7, c8⟩ := h2
  refine ⟨a1, a2, a3, a4, a5, a6, ⟨b1, b2, b3, b4, b5, b6, b7, b8, b9, b10⟩, a7, a8, a9, a10, fun m hm => ?_, fun l hl => ?_, c1, c2, c3, c4, c5, c6, c7, c8⟩
  · have := of_decide_eq_true (List.all_eq_true.1 ht m hm)
    exact ⟨this.1, this.2.1, this.2.2.1, this.2.2.2⟩
  · intro j
    have h3 := List.all_eq_true.1 hr l hl
    by_cases hj : j < l.length
    · have := of_decide_eq_true (List.all_eq_true.1 h3 l[j] (List.getElem_mem hj))
      simpa [List.getD, hj] using this
    · rw [List.getD, List.getElem?_eq_none (by omega)]
      simp
theorem bad_by {x : Ev} (h : (evKind x.k && decide (x.c < 16) && evFits x) = false) : evGood x = false := by unfold evGood; rw [h]; rfl
theorem bad_not {x : Ev} (h : x ≠ evNeed x) : evGood x = false := by
  unfold evGood
  have : evSame x (evNeed x) = false := eqB_no h
  rw [this]; simp
theorem tk_rd {L : List UInt8} (h0 : L ≠ []) (hk : evKind ((L.getD 0 0).toNat : Int) = true) {E : Int} (hE : evRdE L ((L.getD 0 0).toNat : Int) = E) (hn : E ≠ 0) : evTkE L = E := by
  unfold evTkE
  rw [if_neg h0, if_neg (by rw [hk]; simp), if_pos (by rw [hE]; exact hn), hE]
theorem tk_wrong {L : List UInt8} (h0 : L ≠ []) (hk : evKind ((L.getD 0 0).toNat : Int) = true) (hE : evRdE L ((L.getD 0 0).toNat : Int) = 0)
    (hn : (evKind (evRdX L ((L.getD 0 0).toNat : Int)).k && decide ((evRdX L ((L.getD 0 0).toNat : Int)).c < 16) && evFits (evRdX L ((L.getD 0 0).toNat : Int)) && evPut (evRdX L ((L.getD 0 0).toNat : Int)) == nb L) = false) : evTkE L = 4 := by
  unfold evTkE
  rw [if_neg h0, if_neg (by rw [hk]; simp), if_neg (by rw [hE]; simp), if_neg]
  intro ⟨h1, h2⟩
  have h3 : (evKind (evRdX L ((L.getD 0 0).toNat : Int)).k && decide ((evRdX L ((L.getD 0 0).toNat : Int)).c < 16) && evFits (evRdX L ((L.getD 0 0).toNat : Int))) = true := by
    unfold evGood at h1
    simp only [Bool.and_eq_true] at h1 ⊢
    exact h1.1
  rw [h3, h2] at hn
  simp at hn
theorem kn_f1 : evTkE [4, 3, 1] = 5 := tk_rd (by decide) (by decide) (by decide) (by decide)
theorem kn_f2 : evTkE [4, 3, 1, 2, 0] = 4 := tk_wrong (by decide) (by decide) (by decide) (by decide)
theorem kn_f3 : evTkE [4, 16, 0, 0] = 4 := tk_wrong (by decide) (by decide) (by decide) (by decide)
theorem kn_f4 : evTkE [0] = 4 := by unfold evTkE; rw [if_neg (by simp), if_pos (by decide)]
theorem kn_f5 : evTkE [5, 1, 0, 9, 0] = 4 := tk_wrong (by decide) (by decide) (by decide) (by decide)
theorem kn_f6 : evTkE [5, 1, 0, 9, 1, 136] = 4 := tk_wrong (by decide) (by decide) (by decide) (by decide)
theorem kn_f7 : evTkE [1, 2, 13, 8, 0, 100, 0, 0, 3, 232] = 4 := tk_wrong (by decide) (by decide) (by decide) (by decide)
theorem kn_f8 : evTkE [1, 5, 0, 8, 0, 100, 0, 0, 3, 232] = 4 := tk_wrong (by decide) (by decide) (by decide) (by decide)
theorem kn_f9 : evTkE [3, 3, 1, 2, 5] = 4 := tk_rd (by decide) (by decide) (by decide) (by decide)
theorem kn_f10 : evTkE [6, 1, 0, 9, 1, 2, 0, 4] = 5 := tk_rd (by decide) (by decide) (by decide) (by decide)
theorem kn_wB : nb [2, 3, 1, 2, 2, 1, 0, 5] = evPut knW := by decide
theorem kn_rB : nb [3, 3, 1, 2, 1, 0, 7] = evPut knR := by decide
theorem kn_aB : nb [7, 0, 0, 0] = evPut knA := by decide
theorem kn_bB : nb [5, 1, 0, 9, 2, 130, 2, 0, 6] = evPut knB := by decide
theorem kn_cB : nb [6, 1, 0, 9, 1, 2, 0, 4, 0, 5] = evPut knC := by decide
theorem kn_c0B : nb [6, 1, 0, 0, 0] = evPut knC0 := by decide
theorem kn_wG : evGood knW = true := good_by (by decide) rfl
theorem kn_rG : evGood knR = true := good_by (by decide) rfl
theorem kn_aG : evGood knA = true := good_by (by decide) rfl
theorem kn_bG : evGood knB = true := good_by (by decide) rfl
theorem kn_cG : evGood knC = true := good_by (by decide) rfl
theorem kn_c0G : evGood knC0 = true := good_by (by decide) rfl
theorem kn_wI : knW.In := in_by (by decide) (by decide) (by decide) (by decide)
theorem kn_rI : knR.In := in_by (by decide) (by decide) (by decide) (by decide)
theorem kn_aI : knA.In := in_by (by decide) (by decide) (by decide) (by decide)
theorem kn_bI : knB.In := in_by (by decide) (by decide) (by decide) (by decide)
theorem kn_cI : knC.In := in_by (by decide) (by decide) (by decide) (by decide)
theorem kn_c0I : knC0.In := in_by (by decide) (by decide) (by decide) (by decide)
/-- Those that may not be. -/
def knD : Ev := { evCfg with c := 1 }
def knE : Ev := { evCfg with g := ⟨2, 33, 100, 1000, true, false, true⟩ }
def knF : Ev := { knW with rk := 3 }
def knG : Ev := { knB with t := [⟨true, 2, 1⟩] }
def knH : Ev := { knC with r := List.replicate 9 [] }
def knI : Ev := { knC with r := [List.replicate 33 0] }
def knK : Ev := { evCfg with g := ⟨2, 8, 100, 0, true, false, true⟩ }
def kn8 : Ev := { evZero with k := 8 }
def knJ : Ev := { evZero with k := 4, c := 16 }
def knO : Ev := { evZero with k := 2, o := ⟨1, 0, 1, 0, 0⟩ }
def knM : Ev := { evZero with k := 5, t := List.replicate 9 ⟨false, 0, 0⟩ }
theorem kn_dG : evGood knD = false := bad_not (fun h => absurd (congrArg Ev.c h) (by decide))
theorem kn_eG : evGood knE = false := bad_by (by decide)
theorem kn_fG : evGood knF = false := bad_not (fun h => absurd (congrArg Ev.rk h) (by decide))
theorem kn_gG : evGood knG = false := bad_by (by decide)
theorem kn_hG : evGood knH = false := bad_by (by decide)
theorem kn_iG : evGood knI = false := bad_by (by decide)
theorem kn_kG : evGood knK = false := bad_by (by decide)
theorem kn_zG : evGood evZero = false := bad_by (by decide)
theorem kn_8G : evGood kn8 = false := bad_by (by decide)
theorem kn_jG : evGood knJ = false := bad_by (by decide)
theorem kn_oG : evGood knO = false := bad_by (by decide)
theorem kn_mG : evGood knM = false := bad_by (by decide)
theorem kn_dI : knD.In := in_by (by decide) (by decide) (by decide) (by decide)
theorem kn_eI : knE.In := in_by (by decide) (by decide) (by decide) (by decide)
theorem kn_fI : knF.In := in_by (by decide) (by decide) (by decide) (by decide)
theorem kn_gI : knG.In := in_by (by decide) (by decide) (by decide) (by decide)
theorem kn_hI : knH.In := in_by (by decide) (by decide) (by decide) (by decide)
theorem kn_iI : knI.In := in_by (by decide) (by decide) (by decide) (by decide)
theorem kn_kI : knK.In := in_by (by decide) (by decide) (by decide) (by decide)
theorem kn_zI : evZero.In := in_by (by decide) (by decide) (by decide) (by decide)
theorem kn_8I : kn8.In := in_by (by decide) (by decide) (by decide) (by decide)
theorem kn_jI : knJ.In := in_by (by decide) (by decide) (by decide) (by decide)
theorem kn_oI : knO.In := in_by (by decide) (by decide) (by decide) (by decide)
theorem kn_mI : knM.In := in_by (by decide) (by decide) (by decide) (by decide)
end Go.Proofs.YtnehnbhdkhgakaaDoor
