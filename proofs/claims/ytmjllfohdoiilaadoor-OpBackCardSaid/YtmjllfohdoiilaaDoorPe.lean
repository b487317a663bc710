/-
  OpBack, walked.
-/
import Derived.Test.YtmjllfohdoiilaaDoorPd
import Derived.Test.YtmjllfohdoiilaaDoorOw
namespace Go.Proofs.YtmjllfohdoiilaaDoor
open Go.RowKit
theorem opNm_len {f : Int} (h0 : 0 ≤ f) : (opNm f).length ≤ 1000 := by
  rcases bool_two (opIs f) with is | is
  · rcases is_cases is with rfl | rfl | rfl | rfl | rfl | rfl | rfl | rfl | rfl | rfl | rfl <;> decide
  · by_cases hf : f < 12
    · have : f = 0 := by simp [opIs] at is; omega
      subst this; decide
    · rw [(op_none h0 hf).2.2.1]; simp
theorem words_small {x : Opn} (hx : x.In) : ∀ j, ((opWords x).getD j []).length ≤ 1000 := by
  obtain ⟨f0, f1, o0, o1, k0, k1, a0, a1, b0, b1⟩ := hx
  have hd : ∀ n : Int, 0 ≤ n → n < 65536 → (dec n).length ≤ 1000 := fun n n0 n1 => by
    have := dec_length_le 4 n.toNat (by omega)
    unfold dec; omega
  have hn : (opNm x.f).length ≤ 1000 := opNm_len f0
  have hall : ∀ s ∈ opWords x, s.length ≤ 1000 := by
    intro s hs
    simp only [opWords, List.mem_append, List.mem_cons, List.not_mem_nil, or_false] at hs
    rcases hs with ((hs | hs) | hs) | hs
    · rcases hs with rfl | rfl
      · exact hd _ o0 (by omega)
      · exact hn
    all_goals
      split at hs
      · simp only [List.mem_cons, List.not_mem_nil, or_false] at hs
        subst hs
        exact hd _ (by omega) (by omega)
      · simp at hs
  intro j
  by_cases hj : j < (opWords x).length
  · rw [List.getD_eq_getElem?_getD, List.getElem?_eq_getElem hj]
    exact hall _ (List.getElem_mem hj)
  · rw [List.getD_eq_getElem?_getD, List.getElem?_eq_none (by omega)]; simp
/-- The bytes of an operation, as bytes. -/
def putL (x : Opn) : List UInt8 := (opPut x).map fun n => UInt8.ofNat n.toNat
theorem putL_nb {x : Opn} (hx : x.In) : nb (putL x) = opPut x := by
  unfold nb putL
  rw [List.map_map]
  have h := put_in hx
  conv => rhs; rw [← List.map_id (opPut x)]
  apply List.map_congr_left
  intro n hn
  have := h n hn
  unfold byteNum at this
  simp only [Function.comp, id]
  rw [UInt8.toNat_ofNat']
  omega
theorem putL_len (x : Opn) : (putL x).length = opLen x.f ∧ opLen x.f ≤ 7 := by
  refine ⟨by unfold putL; rw [List.length_map, put_length], ?_⟩
  unfold opLen opAtB opAtA
  repeat' split
  all_goals omega
theorem put_str {x : Opn} (hx : x.In) : strOfNums (opPut x) = bs (putL x) := by rw [← putL_nb hx, str_nb]
theorem tk_good {x : Opn} (hx : x.In) (hg : Good x) (t : List UInt8) : tkX (nb (putL x ++ t)) = x ∧ tkRest (putL x ++ t) = t ∧ tkErr (nb (putL x ++ t)) = 0 := by
  obtain ⟨tx, te⟩ := optk_put hx hg (nb t)
  rw [← putL_nb hx, ← nb_app] at tx te
  have hf0 : (nb (putL x ++ t)).getD 0 0 = x.f := by
    have h2 : (tkOp (nb (putL x ++ t))).f = (nb (putL x ++ t)).getD 0 0 := rfl
    rw [← h2, tx]
  refine ⟨by unfold tkX; rw [te, if_pos rfl, tx], ?_, te⟩
  unfold tkRest
  rw [te, if_pos rfl, hf0, ← (putL_len x).1]
  simp
/-- What is read has these bytes. -/
theorem tk_bytes {l : List UInt8} (h : tkErr (nb l) = 0) : Good (tkX (nb l)) ∧ bs (putL (tkX (nb l))) ++ bs (tkRest l) = bs l ∧ 2 ≤ (putL (tkX (nb l))).length := by
  have hl : ∀ n ∈ nb l, byteNum n := by
    intro n hn
    simp only [nb, List.mem_map] at hn
    obtain ⟨c, _, rfl⟩ := hn
    have := c.toNat_lt
    unfold byteNum; omega
  obtain ⟨h1, h2, h3, h4⟩ := optk_take hl h
  have hX : tkX (nb l) = tkOp (nb l) := by unfold tkX; rw [if_pos h]
  have hin := tkX_in l
  rw [hX] at hin ⊢
  have e1 : putL (tkOp (nb l)) = l.take (opLen ((nb l).getD 0 0)) := by
    have h5 := putL_nb hin
    rw [h3] at h5
    have h6 : nb (l.take (opLen ((nb l).getD 0 0))) = (nb l).take (opLen ((nb l).getD 0 0)) := by simp [nb]
    rw [← h6] at h5
    have h7 := congrArg strOfNums h5
    rw [str_nb, str_nb] at h7
    exact bs_inj h7
  refine ⟨h2, ?_, ?_⟩
  · rw [e1]
    unfold tkRest
    rw [if_pos h, bs_app, List.take_append_drop]
  · rw [(putL_len _).1, h4]; exact opLen_ge _
set_option maxHeartbeats 16000000 in
set_option maxRecDepth 100000 in
theorem back4_small (w : World) (hG : Glob4 w) (f o k a b : Int) (hx : (⟨f, o, k, a, b⟩ : Opn).In) (sl : List UInt8) (hsl0 : sl.length ≤ 1000) (v : Value) (l : List (List UInt8)) (hl : Strs w.heap.size w v l) (hll : l.length ≤ 10) (hlw : ∀ j, (l.getD j []).length ≤ 1000)
    (hfew : ∀ w', Keeps [] w w' → Calls Tryd.prog 18 #[v] w' fun e w'' => e = .returned (.bool true) ∧ Keeps [] w' w'') :
    Calls Tryd.prog 5 #[.agg #[.int .u8 f, .int .u8 o, .int .u8 k, .int .u16 a, .int .u16 b], .string (bs sl), v] w fun e w' => e = .returned (.bool true) ∧ Keeps [] w w' := by
  have hsl : sl.length ≤ 1900 := by omega
  have hszS : (bs sl).size ≤ 1000 := hsl0
  have hz1 : ¬ 1000 < ((bs sl).size : Int) := by omega
  have hput := fun w hG => opPut_any w hG f o k a b hx
  obtain ⟨av, cv, rfl, hcv, hmv, hlv⟩ : ∃ av cv, v = .slice av l.length cv ∧ l.length ≤ cv ∧ cv ≤ 9223372036854775807 ∧ True := by
    obtain ⟨av, cv, h1, h2, h3, _⟩ := hl; exact ⟨av, cv, h1, h2, h3, trivial⟩
  clear hlv
  have hb0 := heap_alloc_new w (.cells #[.int .u8 f, .int .u8 o, .int .u8 k, .int .u16 a, .int .u16 b] 24)
  have hk0 := (Keeps.refl [] w).alloc (.cells #[.int .u8 f, .int .u8 o, .int .u8 k, .int .u16 a, .int .u16 b] 24)
  have hfew2 := hfew _ hk0
  have HB := Lib.hid hb0; have HK := Lib.hid hk0
  clear hb0 hk0 hfew
  rcases bool_two (opGood ⟨f, o, k, a, b⟩) with hgood | hgood
  · have good := (good_iff _).1 hgood
    have eE : opPutE ⟨f, o, k, a, b⟩ = 0 := by unfold opPutE; rw [if_pos hgood]
    rw [eE] at hput
    simp only [hgood, if_true] at hput
    rw [put_str hx] at hput
    obtain ⟨g1, g2, g3⟩ := tk_good hx good sl
    have htkx := fun w hG => Take4_any w hG (putL ⟨f, o, k, a, b⟩ ++ sl) (by rw [List.length_append, (putL_len _).1]; have := (putL_len ⟨f, o, k, a, b⟩).2; omega)
    rw [g1, g2, g3, ← bs_app] at htkx
    have hwdx := fun w hG => opWords_any w hG ⟨f, o, k, a, b⟩ hx
    have hwox : wordsOf ⟨f, o, k, a, b⟩ = opWords ⟨f, o, k, a, b⟩ := by unfold wordsOf; rw [if_pos hgood]
    rw [hwox] at hwdx
    have hpx := fun w hG v hs => Parse4_any w hG v (opWords ⟨f, o, k, a, b⟩) hs (words_small hx)
    obtain ⟨p1, p2⟩ := ops_yes hx good rfl
    rw [p1, p2] at hpx
    simp only [Opn.val] at htkx hwdx hpx
    have hpl : (bs (putL ⟨f, o, k, a, b⟩)).size ≤ 7 := by rw [bs_size, (putL_len _).1]; exact (putL_len _).2
    have n1 : ((bs sl).toList == (bs sl).toList) = true := by simp
    have n2 : ((bs sl).toList != (bs sl).toList) = false := by simp
    generalize bs (putL ⟨f, o, k, a, b⟩) = PX0 at *
    generalize opWords ⟨f, o, k, a, b⟩ = WX at *
    clear eE good g1 g2 g3 hwox p1 p2 hgood hx
    go_enter Tryd.func5, Tryd.ntmps5
    go_wp2_with fail
    refine hfew2.mono ?_; rintro e w1 ⟨rfl, hk1⟩
    have hb := hk1.heap HB.out (by simp)
    have hK := HK.out.trans hk1 (FSub.refl _ _)
    obtain ⟨c0, c1, c2, c3, c4, cl⟩ := cell5 hb
    clear HB HK hk1 hfew2
    have HB := Lib.hid hb; have HK := Lib.hid hK; clear hb hK
    go_wp2_with fail
    refine (hput _ (hG.new HK.out)).mono ?_; rintro e w2 ⟨rfl, hk2⟩
    have hb := hk2.heap HB.out (by simp)
    have hK := HK.out.trans hk2 (FSub.refl _ _)
    clear HB HK hk2 hput c0 c1 c2 c3 c4 cl
    have HB := Lib.hid hb; have HK := Lib.hid hK; clear hb hK
    go_wp2_with fail
    refine (htkx _ (hG.new HK.out)).mono ?_; rintro e w3 ⟨rfl, hk3⟩
    have hb := heap_alloc_lt (o := .cells #[.int .u8 f, .int .u8 o, .int .u8 k, .int .u16 a, .int .u16 b] 24) (hk3.heap HB.out (by simp))
    have hy := heap_alloc_new w3 (.cells #[.int .u8 f, .int .u8 o, .int .u8 k, .int .u16 a, .int .u16 b] 24)
    have hK := (HK.out.trans hk3 (FSub.refl _ _)).alloc (.cells #[.int .u8 f, .int .u8 o, .int .u8 k, .int .u16 a, .int .u16 b] 24)
    obtain ⟨c0, c1, c2, c3, c4, cl⟩ := cell5 hb
    clear HB HK hk3 htkx
    have HB := Lib.hid hb; have HK := Lib.hid hK; have HY := Lib.hid hy; clear hb hK hy
    go_wp2_with fail
    refine (hwdx _ (hG.new HK.out)).mono ?_; rintro e w4 ⟨vx, rfl, hrow, hk4, hfr⟩
    have hb := hk4.heap HB.out (by simp)
    have hy := hk4.heap HY.out (by simp)
    have hK := HK.out.trans hk4 (FSub.refl _ _)
    have hsx := Strs.row hrow
    clear HB HK HY hk4 hwdx c0 c1 c2 c3 c4 cl hrow hfr
    have hpx2 := hpx _ (hG.new hK) _ hsx
    have HB := Lib.hid hb; have HK := Lib.hid hK; have HY := Lib.hid hy; clear hb hK hy hpx hsx
    go_wp2_with fail
    refine hpx2.mono ?_; rintro e w5 ⟨rfl, hk5⟩
    have hb := heap_alloc_lt (o := .cells #[.int .u8 f, .int .u8 o, .int .u8 k, .int .u16 a, .int .u16 b] 24) (hk5.heap HB.out (by simp))
    have hy := heap_alloc_lt (o := .cells #[.int .u8 f, .int .u8 o, .int .u8 k, .int .u16 a, .int .u16 b] 24) (hk5.heap HY.out (by simp))
    have hz := heap_alloc_new w5 (.cells #[.int .u8 f, .int .u8 o, .int .u8 k, .int .u16 a, .int .u16 b] 24)
    have hK := (HK.out.trans hk5 (FSub.refl _ _)).alloc (.cells #[.int .u8 f, .int .u8 o, .int .u8 k, .int .u16 a, .int .u16 b] 24)
    obtain ⟨c0, c1, c2, c3, c4, cl⟩ := cell5 hb
    obtain ⟨y0, y1, y2, y3, y4, yl⟩ := cell5 hy
    obtain ⟨z0, z1, z2, z3, z4, zl⟩ := cell5 hz
    clear HB HK HY hk5 hpx2 hy hz
    have HB := Lib.hid hb; have HK := Lib.hid hK; clear hb hK
    go_wp2_with fail
    clear c0 c1 c2 c3 c4 cl y0 y1 y2 y3 y4 yl z0 z1 z2 z3 z4 zl n1 n2 hpl
    have htk := fun w hG => Take4_any w hG sl hsl
    have hby := fun h => tk_bytes (l := sl) h
    have hXin2 := tkX_in sl
    have hEC := Classical.em (tkErr (nb sl) = 0)
    generalize tkX (nb sl) = TX at *
    generalize tkErr (nb sl) = TE at *
    generalize hTR : bs (tkRest sl) = TR at *
    obtain ⟨tf, to, tk, ta, tb⟩ := TX
    simp only [Opn.val] at htk
    have htk2 := htk _ (hG.new HK.out)
    have HTI := Lib.hid hXin2; have HBY := Lib.hid hby
    clear htk hXin2 hby hTR
    rcases hEC with hE0 | hE0
    · subst hE0
      obtain ⟨tg, tby, tlen⟩ := HBY.out rfl
      have hput2 := fun w hG => opPut_any w hG tf to tk ta tb HTI.out
      have eE2 : opPutE ⟨tf, to, tk, ta, tb⟩ = 0 := by unfold opPutE; rw [if_pos ((good_iff _).2 tg)]
      rw [eE2] at hput2
      simp only [(good_iff _).2 tg, if_true] at hput2
      rw [put_str HTI.out] at hput2
      have hpl : (bs (putL ⟨tf, to, tk, ta, tb⟩)).size ≤ 7 := by rw [bs_size, (putL_len _).1]; exact (putL_len _).2
      have hpl2 : ¬ ((bs (putL ⟨tf, to, tk, ta, tb⟩)).size : Int) < 2 := by rw [bs_size]; omega
      have hTRs : TR.size ≤ 2000 := by
        have h1 := congrArg ByteArray.size tby
        rw [ByteArray.size_append, bs_size, bs_size] at h1
        omega
      have n1 : ((bs (putL ⟨tf, to, tk, ta, tb⟩) ++ TR).toList == (bs sl).toList) = true := by rw [tby]; simp
      generalize bs (putL ⟨tf, to, tk, ta, tb⟩) = PB at *
      clear HTI HBY eE2 tg tlen tby
      go_wp2_with fail
      refine htk2.mono ?_; rintro e t1 ⟨rfl, hk1⟩
      have hb := heap_alloc_lt (o := .cells #[.int .u8 tf, .int .u8 to, .int .u8 tk, .int .u16 ta, .int .u16 tb] 24) (hk1.heap HB.out (by simp))
      have hy := heap_alloc_new t1 (.cells #[.int .u8 tf, .int .u8 to, .int .u8 tk, .int .u16 ta, .int .u16 tb] 24)
      have hK := (HK.out.trans hk1 (FSub.refl _ _)).alloc (.cells #[.int .u8 tf, .int .u8 to, .int .u8 tk, .int .u16 ta, .int .u16 tb] 24)
      obtain ⟨y0, y1, y2, y3, y4, yl⟩ := cell5 hy
      clear HB HK htk2 hk1 hy
      have HB := Lib.hid hb; have HK := Lib.hid hK; clear hb hK
      go_wp2_with fail
      refine (hput2 _ (hG.new HK.out)).mono ?_; rintro e t2 ⟨rfl, hk2⟩
      have hb := hk2.heap HB.out (by simp)
      have hK := HK.out.trans hk2 (FSub.refl _ _)
      clear HB HK hk2 y0 y1 y2 y3 y4 yl hput2
      have HB := Lib.hid hb; have HK := Lib.hid hK; clear hb hK
      go_wp2_with fail
      clear n1 hpl hpl2 hTRs
      have hps := fun w hG hs => Parse4_any w hG (.slice av l.length cv) l hs hlw
      have hEt := opsE_two l
      have hokp := fun h => ops_ok (l := l) h
      have hXin := opsX_in l
      generalize opsX l = PX at *
      generalize opsE l = PE at *
      obtain ⟨pf, po, pk, pa, pb⟩ := PX
      simp only [Opn.val] at hps
      have hps2 := hps _ (hG.new HK.out) (hl.keeps HK.out).here
      have HPI := Lib.hid hXin; have HOK := Lib.hid hokp
      clear hps hXin hokp
      rcases hEt with rfl | rfl
      · obtain ⟨pg, pw, _⟩ := HOK.out rfl
        have hwd := fun w hG => opWords_any w hG ⟨pf, po, pk, pa, pb⟩ HPI.out
        have hwo : wordsOf ⟨pf, po, pk, pa, pb⟩ = l := by unfold wordsOf; rw [if_pos ((good_iff _).2 pg)]; exact pw
        rw [hwo] at hwd
        simp only [Opn.val] at hwd
        have hl2 : 2 ≤ l.length := by rw [← pw, words_length]; exact (opWN_le _).1
        have z2 : (2 : Int) ≤ (l.length : Int) := by omega
        clear HPI HOK hwo pg pw hlw
        refine hps2.mono ?_; rintro e u1 ⟨rfl, hk1⟩
        have hy := heap_alloc_new u1 (.cells #[.int .u8 pf, .int .u8 po, .int .u8 pk, .int .u16 pa, .int .u16 pb] 24)
        have hK := (HK.out.trans hk1 (FSub.refl _ _)).alloc (.cells #[.int .u8 pf, .int .u8 po, .int .u8 pk, .int .u16 pa, .int .u16 pb] 24)
        obtain ⟨y0, y1, y2, y3, y4, yl⟩ := cell5 hy
        clear HB HK hps2 hk1 hy
        have HK := Lib.hid hK; clear hK
        go_wp2_with fail
        refine (hwd _ (hG.new HK.out)).mono ?_; rintro e u2 ⟨vw, rfl, hrow, hk2, hfr⟩
        have hK := HK.out.trans hk2 (FSub.refl _ _)
        have hsame := same4_any u2 vw (.slice av l.length cv) l (Strs.row hrow) (hl.keeps hK)
        have HK2 := Lib.hid hK
        clear y0 y1 y2 y3 y4 yl hwd hrow hk2 hfr hK HK
        go_wp2_with fail
        refine hsame.mono ?_; rintro e u3 ⟨rfl, hk3⟩
        have hK := HK2.out.trans hk3 (FSub.refl _ _)
        clear hsame hk3 HK2
        go_wp2_with fail
        refine (works4_true _ (hG.new hK)).mono ?_; rintro e u4 ⟨rfl, hk4⟩
        replace hK := hK.trans hk4 (FSub.refl _ _)
        go_wp2_with fail
        go_ret
        exact ⟨rfl, hK⟩
      · clear HPI HOK hlw
        refine hps2.mono ?_; rintro e u1 ⟨rfl, hk1⟩
        have hK := (HK.out.trans hk1 (FSub.refl _ _)).alloc (.cells #[.int .u8 pf, .int .u8 po, .int .u8 pk, .int .u16 pa, .int .u16 pb] 24)
        clear HB HK hps2 hk1
        go_wp2_with fail
        refine (works4_true _ (hG.new hK)).mono ?_; rintro e u4 ⟨rfl, hk4⟩
        replace hK := hK.trans hk4 (FSub.refl _ _)
        go_wp2_with fail
        go_ret
        exact ⟨rfl, hK⟩
    · have hE0b : (TE == 0) = false := by simpa using hE0
      clear HBY HTI
      go_wp2_with fail
      refine htk2.mono ?_; rintro e t1 ⟨rfl, hk1⟩
      have hb := heap_alloc_lt (o := .cells #[.int .u8 tf, .int .u8 to, .int .u8 tk, .int .u16 ta, .int .u16 tb] 24) (hk1.heap HB.out (by simp))
      have hK := (HK.out.trans hk1 (FSub.refl _ _)).alloc (.cells #[.int .u8 tf, .int .u8 to, .int .u8 tk, .int .u16 ta, .int .u16 tb] 24)
      clear HB HK htk2 hk1
      have HB := Lib.hid hb; have HK := Lib.hid hK; clear hb hK
      go_wp2_with fail
      clear hE0b
      have hps := fun w hG hs => Parse4_any w hG (.slice av l.length cv) l hs hlw
      have hEt := opsE_two l
      have hokp := fun h => ops_ok (l := l) h
      have hXin := opsX_in l
      generalize opsX l = PX at *
      generalize opsE l = PE at *
      obtain ⟨pf, po, pk, pa, pb⟩ := PX
      simp only [Opn.val] at hps
      have hps2 := hps _ (hG.new HK.out) (hl.keeps HK.out).here
      have HPI := Lib.hid hXin; have HOK := Lib.hid hokp
      clear hps hXin hokp
      rcases hEt with rfl | rfl
      · obtain ⟨pg, pw, _⟩ := HOK.out rfl
        have hwd := fun w hG => opWords_any w hG ⟨pf, po, pk, pa, pb⟩ HPI.out
        have hwo : wordsOf ⟨pf, po, pk, pa, pb⟩ = l := by unfold wordsOf; rw [if_pos ((good_iff _).2 pg)]; exact pw
        rw [hwo] at hwd
        simp only [Opn.val] at hwd
        have hl2 : 2 ≤ l.length := by rw [← pw, words_length]; exact (opWN_le _).1
        have z2 : (2 : Int) ≤ (l.length : Int) := by omega
        clear HPI HOK hwo pg pw hlw
        refine hps2.mono ?_; rintro e u1 ⟨rfl, hk1⟩
        have hy := heap_alloc_new u1 (.cells #[.int .u8 pf, .int .u8 po, .int .u8 pk, .int .u16 pa, .int .u16 pb] 24)
        have hK := (HK.out.trans hk1 (FSub.refl _ _)).alloc (.cells #[.int .u8 pf, .int .u8 po, .int .u8 pk, .int .u16 pa, .int .u16 pb] 24)
        obtain ⟨y0, y1, y2, y3, y4, yl⟩ := cell5 hy
        clear HB HK hps2 hk1 hy
        have HK := Lib.hid hK; clear hK
        go_wp2_with fail
        refine (hwd _ (hG.new HK.out)).mono ?_; rintro e u2 ⟨vw, rfl, hrow, hk2, hfr⟩
        have hK := HK.out.trans hk2 (FSub.refl _ _)
        have hsame := same4_any u2 vw (.slice av l.length cv) l (Strs.row hrow) (hl.keeps hK)
        have HK2 := Lib.hid hK
        clear y0 y1 y2 y3 y4 yl hwd hrow hk2 hfr hK HK
        go_wp2_with fail
        refine hsame.mono ?_; rintro e u3 ⟨rfl, hk3⟩
        have hK := HK2.out.trans hk3 (FSub.refl _ _)
        clear hsame hk3 HK2
        go_wp2_with fail
        refine (works4_true _ (hG.new hK)).mono ?_; rintro e u4 ⟨rfl, hk4⟩
        replace hK := hK.trans hk4 (FSub.refl _ _)
        go_wp2_with fail
        go_ret
        exact ⟨rfl, hK⟩
      · clear HPI HOK hlw
        refine hps2.mono ?_; rintro e u1 ⟨rfl, hk1⟩
        have hK := (HK.out.trans hk1 (FSub.refl _ _)).alloc (.cells #[.int .u8 pf, .int .u8 po, .int .u8 pk, .int .u16 pa, .int .u16 pb] 24)
        clear HB HK hps2 hk1
        go_wp2_with fail
        refine (works4_true _ (hG.new hK)).mono ?_; rintro e u4 ⟨rfl, hk4⟩
        replace hK := hK.trans hk4 (FSub.refl _ _)
        go_wp2_with fail
        go_ret
        exact ⟨rfl, hK⟩
  · have eE : opPutE ⟨f, o, k, a, b⟩ = 4 := by unfold opPutE; rw [if_neg (by simp [hgood])]
    rw [eE] at hput
    simp only [hgood, if_false, Bool.false_eq_true] at hput
    clear eE hgood hx
    go_enter Tryd.func5, Tryd.ntmps5
    go_wp2_with fail
    refine hfew2.mono ?_; rintro e w1 ⟨rfl, hk1⟩
    have hb := hk1.heap HB.out (by simp)
    have hK := HK.out.trans hk1 (FSub.refl _ _)
    obtain ⟨c0, c1, c2, c3, c4, cl⟩ := cell5 hb
    clear HB HK hk1 hfew2
    have HB := Lib.hid hb; have HK := Lib.hid hK; clear hb hK
    go_wp2_with fail
    refine (hput _ (hG.new HK.out)).mono ?_; rintro e w2 ⟨rfl, hk2⟩
    have hb := hk2.heap HB.out (by simp)
    have hK := HK.out.trans hk2 (FSub.refl _ _)
    clear HB HK hk2 hput c0 c1 c2 c3 c4 cl
    have HB := Lib.hid hb; have HK := Lib.hid hK; clear hb hK
    go_wp2_with fail
    have htk := fun w hG => Take4_any w hG sl hsl
    have hby := fun h => tk_bytes (l := sl) h
    have hXin2 := tkX_in sl
    have hEC := Classical.em (tkErr (nb sl) = 0)
    generalize tkX (nb sl) = TX at *
    generalize tkErr (nb sl) = TE at *
    generalize hTR : bs (tkRest sl) = TR at *
    obtain ⟨tf, to, tk, ta, tb⟩ := TX
    simp only [Opn.val] at htk
    have htk2 := htk _ (hG.new HK.out)
    have HTI := Lib.hid hXin2; have HBY := Lib.hid hby
    clear htk hXin2 hby hTR
    rcases hEC with hE0 | hE0
    · subst hE0
      obtain ⟨tg, tby, tlen⟩ := HBY.out rfl
      have hput2 := fun w hG => opPut_any w hG tf to tk ta tb HTI.out
      have eE2 : opPutE ⟨tf, to, tk, ta, tb⟩ = 0 := by unfold opPutE; rw [if_pos ((good_iff _).2 tg)]
      rw [eE2] at hput2
      simp only [(good_iff _).2 tg, if_true] at hput2
      rw [put_str HTI.out] at hput2
      have hpl : (bs (putL ⟨tf, to, tk, ta, tb⟩)).size ≤ 7 := by rw [bs_size, (putL_len _).1]; exact (putL_len _).2
      have hpl2 : ¬ ((bs (putL ⟨tf, to, tk, ta, tb⟩)).size : Int) < 2 := by rw [bs_size]; omega
      have hTRs : TR.size ≤ 2000 := by
        have h1 := congrArg ByteArray.size tby
        rw [ByteArray.size_append, bs_size, bs_size] at h1
        omega
      have n1 : ((bs (putL ⟨tf, to, tk, ta, tb⟩) ++ TR).toList == (bs sl).toList) = true := by rw [tby]; simp
      generalize bs (putL ⟨tf, to, tk, ta, tb⟩) = PB at *
      clear HTI HBY eE2 tg tlen tby
      go_wp2_with fail
      refine htk2.mono ?_; rintro e t1 ⟨rfl, hk1⟩
      have hb := heap_alloc_lt (o := .cells #[.int .u8 tf, .int .u8 to, .int .u8 tk, .int .u16 ta, .int .u16 tb] 24) (hk1.heap HB.out (by simp))
      have hy := heap_alloc_new t1 (.cells #[.int .u8 tf, .int .u8 to, .int .u8 tk, .int .u16 ta, .int .u16 tb] 24)
      have hK := (HK.out.trans hk1 (FSub.refl _ _)).alloc (.cells #[.int .u8 tf, .int .u8 to, .int .u8 tk, .int .u16 ta, .int .u16 tb] 24)
      obtain ⟨y0, y1, y2, y3, y4, yl⟩ := cell5 hy
      clear HB HK htk2 hk1 hy
      have HB := Lib.hid hb; have HK := Lib.hid hK; clear hb hK
      go_wp2_with fail
      refine (hput2 _ (hG.new HK.out)).mono ?_; rintro e t2 ⟨rfl, hk2⟩
      have hb := hk2.heap HB.out (by simp)
      have hK := HK.out.trans hk2 (FSub.refl _ _)
      clear HB HK hk2 y0 y1 y2 y3 y4 yl hput2
      have HB := Lib.hid hb; have HK := Lib.hid hK; clear hb hK
      go_wp2_with fail
      clear n1 hpl hpl2 hTRs
      have hps := fun w hG hs => Parse4_any w hG (.slice av l.length cv) l hs hlw
      have hEt := opsE_two l
      have hokp := fun h => ops_ok (l := l) h
      have hXin := opsX_in l
      generalize opsX l = PX at *
      generalize opsE l = PE at *
      obtain ⟨pf, po, pk, pa, pb⟩ := PX
      simp only [Opn.val] at hps
      have hps2 := hps _ (hG.new HK.out) (hl.keeps HK.out).here
      have HPI := Lib.hid hXin; have HOK := Lib.hid hokp
      clear hps hXin hokp
      rcases hEt with rfl | rfl
      · obtain ⟨pg, pw, _⟩ := HOK.out rfl
        have hwd := fun w hG => opWords_any w hG ⟨pf, po, pk, pa, pb⟩ HPI.out
        have hwo : wordsOf ⟨pf, po, pk, pa, pb⟩ = l := by unfold wordsOf; rw [if_pos ((good_iff _).2 pg)]; exact pw
        rw [hwo] at hwd
        simp only [Opn.val] at hwd
        have hl2 : 2 ≤ l.length := by rw [← pw, words_length]; exact (opWN_le _).1
        have z2 : (2 : Int) ≤ (l.length : Int) := by omega
        clear HPI HOK hwo pg pw hlw
        refine hps2.mono ?_; rintro e u1 ⟨rfl, hk1⟩
        have hy := heap_alloc_new u1 (.cells #[.int .u8 pf, .int .u8 po, .int .u8 pk, .int .u16 pa, .int .u16 pb] 24)
        have hK := (HK.out.trans hk1 (FSub.refl _ _)).alloc (.cells #[.int .u8 pf, .int .u8 po, .int .u8 pk, .int .u16 pa, .int .u16 pb] 24)
        obtain ⟨y0, y1, y2, y3, y4, yl⟩ := cell5 hy
        clear HB HK hps2 hk1 hy
        have HK := Lib.hid hK; clear hK
        go_wp2_with fail
        refine (hwd _ (hG.new HK.out)).mono ?_; rintro e u2 ⟨vw, rfl, hrow, hk2, hfr⟩
        have hK := HK.out.trans hk2 (FSub.refl _ _)
        have hsame := same4_any u2 vw (.slice av l.length cv) l (Strs.row hrow) (hl.keeps hK)
        have HK2 := Lib.hid hK
        clear y0 y1 y2 y3 y4 yl hwd hrow hk2 hfr hK HK
        go_wp2_with fail
        refine hsame.mono ?_; rintro e u3 ⟨rfl, hk3⟩
        have hK := HK2.out.trans hk3 (FSub.refl _ _)
        clear hsame hk3 HK2
        go_wp2_with fail
        refine (works4_true _ (hG.new hK)).mono ?_; rintro e u4 ⟨rfl, hk4⟩
        replace hK := hK.trans hk4 (FSub.refl _ _)
        go_wp2_with fail
        go_ret
        exact ⟨rfl, hK⟩
      · clear HPI HOK hlw
        refine hps2.mono ?_; rintro e u1 ⟨rfl, hk1⟩
        have hK := (HK.out.trans hk1 (FSub.refl _ _)).alloc (.cells #[.int .u8 pf, .int .u8 po, .int .u8 pk, .int .u16 pa, .int .u16 pb] 24)
        clear HB HK hps2 hk1
        go_wp2_with fail
        refine (works4_true _ (hG.new hK)).mono ?_; rintro e u4 ⟨rfl, hk4⟩
        replace hK := hK.trans hk4 (FSub.refl _ _)
        go_wp2_with fail
        go_ret
        exact ⟨rfl, hK⟩
    · have hE0b : (TE == 0) = false := by simpa using hE0
      clear HBY HTI
      go_wp2_with fail
      refine htk2.mono ?_; rintro e t1 ⟨rfl, hk1⟩
      have hb := heap_alloc_lt (o := .cells #[.int .u8 tf, .int .u8 to, .int .u8 tk, .int .u16 ta, .int .u16 tb] 24) (hk1.heap HB.out (by simp))
      have hK := (HK.out.trans hk1 (FSub.refl _ _)).alloc (.cells #[.int .u8 tf, .int .u8 to, .int .u8 tk, .int .u16 ta, .int .u16 tb] 24)
      clear HB HK htk2 hk1
      have HB := Lib.hid hb; have HK := Lib.hid hK; clear hb hK
      go_wp2_with fail
      clear hE0b
      have hps := fun w hG hs => Parse4_any w hG (.slice av l.length cv) l hs hlw
      have hEt := opsE_two l
      have hokp := fun h => ops_ok (l := l) h
      have hXin := opsX_in l
      generalize opsX l = PX at *
      generalize opsE l = PE at *
      obtain ⟨pf, po, pk, pa, pb⟩ := PX
      simp only [Opn.val] at hps
      have hps2 := hps _ (hG.new HK.out) (hl.keeps HK.out).here
      have HPI := Lib.hid hXin; have HOK := Lib.hid hokp
      clear hps hXin hokp
      rcases hEt with rfl | rfl
      · obtain ⟨pg, pw, _⟩ := HOK.out rfl
        have hwd := fun w hG => opWords_any w hG ⟨pf, po, pk, pa, pb⟩ HPI.out
        have hwo : wordsOf ⟨pf, po, pk, pa, pb⟩ = l := by unfold wordsOf; rw [if_pos ((good_iff _).2 pg)]; exact pw
        rw [hwo] at hwd
        simp only [Opn.val] at hwd
        have hl2 : 2 ≤ l.length := by rw [← pw, words_length]; exact (opWN_le _).1
        have z2 : (2 : Int) ≤ (l.length : Int) := by omega
        clear HPI HOK hwo pg pw hlw
        refine hps2.mono ?_; rintro e u1 ⟨rfl, hk1⟩
        have hy := heap_alloc_new u1 (.cells #[.int .u8 pf, .int .u8 po, .int .u8 pk, .int .u16 pa, .int .u16 pb] 24)
        have hK := (HK.out.trans hk1 (FSub.refl _ _)).alloc (.cells #[.int .u8 pf, .int .u8 po, .int .u8 pk, .int .u16 pa, .int .u16 pb] 24)
        obtain ⟨y0, y1, y2, y3, y4, yl⟩ := cell5 hy
        clear HB HK hps2 hk1 hy
        have HK := Lib.hid hK; clear hK
        go_wp2_with fail
        refine (hwd _ (hG.new HK.out)).mono ?_; rintro e u2 ⟨vw, rfl, hrow, hk2, hfr⟩
        have hK := HK.out.trans hk2 (FSub.refl _ _)
        have hsame := same4_any u2 vw (.slice av l.length cv) l (Strs.row hrow) (hl.keeps hK)
        have HK2 := Lib.hid hK
        clear y0 y1 y2 y3 y4 yl hwd hrow hk2 hfr hK HK
        go_wp2_with fail
        refine hsame.mono ?_; rintro e u3 ⟨rfl, hk3⟩
        have hK := HK2.out.trans hk3 (FSub.refl _ _)
        clear hsame hk3 HK2
        go_wp2_with fail
        refine (works4_true _ (hG.new hK)).mono ?_; rintro e u4 ⟨rfl, hk4⟩
        replace hK := hK.trans hk4 (FSub.refl _ _)
        go_wp2_with fail
        go_ret
        exact ⟨rfl, hK⟩
      · clear HPI HOK hlw
        refine hps2.mono ?_; rintro e u1 ⟨rfl, hk1⟩
        have hK := (HK.out.trans hk1 (FSub.refl _ _)).alloc (.cells #[.int .u8 pf, .int .u8 po, .int .u8 pk, .int .u16 pa, .int .u16 pb] 24)
        clear HB HK hps2 hk1
        go_wp2_with fail
        refine (works4_true _ (hG.new hK)).mono ?_; rintro e u4 ⟨rfl, hk4⟩
        replace hK := hK.trans hk4 (FSub.refl _ _)
        go_wp2_with fail
        go_ret
        exact ⟨rfl, hK⟩
end Go.Proofs.YtmjllfohdoiilaaDoor
