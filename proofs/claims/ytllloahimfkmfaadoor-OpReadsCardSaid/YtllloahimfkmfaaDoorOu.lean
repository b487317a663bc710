/-
  The program's Parse.
-/
import Derived.Test.YtllloahimfkmfaaDoorOt
import Derived.Shelf.Slices.Empties2
namespace Go.Proofs.YtllloahimfkmfaaDoor
open Go.RowKit
theorem map_bs_inj {l m : List (List UInt8)} (h : l.map bs = m.map bs) : l = m := by
  induction l generalizing m with
  | nil => cases m with
    | nil => rfl
    | cons y r => simp at h
  | cons x r ih => cases m with
    | nil => simp at h
    | cons y r' =>
      simp only [List.map_cons, List.cons.injEq] at h
      rw [bs_inj h.1, ih h.2]
theorem map_bs_getD (l : List (List UInt8)) (j : Nat) (hj : j < l.length) : (l.map bs).getD j ByteArray.empty = bs (l.getD j []) := by
  simp [List.getD_eq_getElem?_getD, List.getElem?_eq_getElem hj]
theorem Equal4_any (w : World) {N N' : Nat} (v1 v2 : Value) (l1 l2 : List (List UInt8)) (h1 : Strs N w v1 l1) (h2 : Strs N' w v2 l2) :
    Calls Tryd.prog 33 #[v1, v2] w fun e w' => e = .returned (.bool (decide (l1 = l2))) ∧ Keeps [] w w' := by
  obtain ⟨a1, c1, rfl, hc1, hm1, h1⟩ := h1
  obtain ⟨a2, c2, rfl, hc2, hm2, h2⟩ := h2
  by_cases hl : l1.length = l2.length
  · by_cases hn : l1 = []
    · subst hn
      have e2 : l2 = [] := List.eq_nil_of_length_eq_zero hl.symm
      subst e2
      refine (Any.slices_Equal_string_empty Tryd.lays193 a1 a2 c1 0 c2 w (by omega)).mono ?_
      rintro e w' ⟨rfl, rfl⟩
      exact ⟨rfl, Keeps.refl _ _⟩
    · have hn2 : l2 ≠ [] := fun e => hn (List.eq_nil_of_length_eq_zero (by rw [hl, e]; rfl))
      obtain ⟨b1, o1, rfl, _, g1⟩ := h1 hn
      obtain ⟨b2, o2, rfl, _, g2⟩ := h2 hn2
      refine (Any.slices_Equal_string Tryd.lays193 b1 o1 l1.length c1 b2 o2 l2.length c2 (l1.map bs) (l2.map bs) w (by simp) (by simp) (by omega) (by omega) (fun j hj => ?_) (fun j hj => ?_)).mono ?_
      · have hj' : j < l1.length := by simpa using hj
        rw [map_bs_getD _ _ hj']; exact g1 j hj'
      · have hj' : j < l2.length := by simpa using hj
        rw [map_bs_getD _ _ hj']; exact g2 j hj'
      · rintro e w' ⟨rfl, q, rfl⟩
        refine ⟨?_, (Keeps.refl _ _).drewN q⟩
        have t1 : (l1.map bs).take l1.length = l1.map bs := List.take_of_length_le (by simp)
        have t2 : (l2.map bs).take l2.length = l2.map bs := List.take_of_length_le (by simp)
        rw [t1, t2]
        congr 2
        simp only [decide_eq_decide]
        exact ⟨map_bs_inj, fun h => by rw [h]⟩
  · refine (Any.slices_Equal_string_lens Tryd.lays193 a1 a2 l1.length c1 l2.length c2 w hl).mono ?_
    rintro e w' ⟨rfl, rfl⟩
    have : l1 ≠ l2 := fun e => hl (by rw [e])
    exact ⟨by simp [this], Keeps.refl _ _⟩
set_option maxRecDepth 100000 in
theorem results_op2 {fn : Func} {p u : Tmp} (h : fn.results = #[.cell p 27, .tmp u]) (tmps : Array Value) (w : World) (b : Nat) {x0 x1 x2 x3 x4 : Value} {t : TypeId}
    (hp : tmps.getD p undef = .pointer (some ⟨b, 0, none⟩)) (hb : w.heap[b]? = some (.cells #[x0, x1, x2, x3, x4] t (0, 0))) : (results fn tmps).run Tryd.prog w = .ok (.tuple #[.agg #[x0, x1, x2, x3, x4], tmps.getD u undef]) w := by
  have h1 : (loadVar 27 ⟨b, 0, none⟩).run Tryd.prog w = .ok (.agg #[x0, x1, x2, x3, x4]) w := run_loadVar_row w b t 27 _ _ _ hb Tryd.underlying27 rfl (by kernel_rfl)
  rw [results_cell_tmp h, hp]
  simp [asAddr, h1, Result.andThen]
theorem Opn.eta (x : Opn) : x = ⟨x.f, x.o, x.k, x.a, x.b⟩ := rfl
set_option maxHeartbeats 4000000 in
set_option maxRecDepth 100000 in
theorem Parse4_any (w : World) (hG : Glob4 w) (v : Value) (l : List (List UInt8)) (hs : Strs w.heap.size w v l) (hw : ∀ j, (l.getD j []).length ≤ 1000) :
    Calls Tryd.prog 11 #[v] w fun e w' => e = .returned (.tuple #[(opsX l).val, .int .i64 (opsE l)]) ∧ Keeps [] w w' := by
  have hg := fun (W : World) (hG : Glob4 W) (h : Strs W.heap.size W v l) => guess_any W hG v l h hw
  have hin := guess_in l
  have hX : opsX l = if opsOk l then psGuess l else opZero := rfl
  have hE : opsE l = if opsOk l then 0 else 4 := rfl
  have hok : opsOk l = (opGood (psGuess l) && decide (opWords (psGuess l) = l)) := by
    unfold opsOk
    by_cases h : opWords (psGuess l) = l <;> simp [h]
  generalize opsX l = RX at *
  generalize opsE l = RE at *
  rw [hok] at hX hE
  clear hok
  generalize psGuess l = x at *
  obtain ⟨f, o, k, a, b⟩ := x
  simp only [Opn.val] at hg
  have hv := fun w hG => valid_any w hG f o k a b hin
  have hwd := fun w hG => opWords_any w hG ⟨f, o, k, a, b⟩ hin
  simp only [Opn.val] at hwd
  have hk0 := (Keeps.refl [] w).alloc (.cells #[.int .u8 0, .int .u8 0, .int .u8 0, .int .u16 0, .int .u16 0] 27)
  have hb0 := heap_alloc_new w (.cells #[.int .u8 0, .int .u8 0, .int .u8 0, .int .u16 0, .int .u16 0] 27)
  have hread := hg _ (hG.new hk0) (hs.keeps hk0).here
  have HX := Lib.hid hX; have HE := Lib.hid hE; have HB := Lib.hid hb0; have HK := Lib.hid hk0; have HR := Lib.hid hread
  have HIN := Lib.hid hin
  clear hX hE hb0 hk0 hread hg hin hw
  go_enter Tryd.func11, Tryd.ntmps11
  go_wp2_with fail
  refine HR.out.mono ?_; rintro e w1 ⟨rfl, hk1⟩
  have hD := heap_alloc_lt (o := .cells #[.int .u8 f, .int .u8 o, .int .u8 k, .int .u16 a, .int .u16 b] 27) (hk1.heap HB.out (by simp))
  have hXb := heap_alloc_new w1 (.cells #[.int .u8 f, .int .u8 o, .int .u8 k, .int .u16 a, .int .u16 b] 27)
  have hK := (HK.out.trans hk1 (FSub.refl _ _)).alloc (.cells #[.int .u8 f, .int .u8 o, .int .u8 k, .int .u16 a, .int .u16 b] 27)
  have HD := Lib.hid hD; have HXB := Lib.hid hXb; have HK2 := Lib.hid hK
  clear hD hXb hK hk1 HB HK HR
  go_wp2_with fail
  generalize w1.alloc (.cells #[.int .u8 f, .int .u8 o, .int .u8 k, .int .u16 a, .int .u16 b] 27) = W1 at *
  generalize w1.heap.size = X at *
  refine (hv _ (hG.new HK2.out)).mono ?_; rintro e w2 ⟨rfl, hk2⟩
  have hD2 := hk2.heap HD.out (by simp)
  have hX2 := hk2.heap HXB.out (by simp)
  have hK2 := HK2.out.trans hk2 (FSub.refl _ _)
  obtain ⟨c0, c1, c2, c3, c4, cl⟩ := cell5 hX2
  have HD2 := Lib.hid hD2; have HX2 := Lib.hid hX2; have HK3 := Lib.hid hK2
  clear hD2 hX2 hK2 hk2 HD HXB HK2 hv
  cases hgood : opGood ⟨f, o, k, a, b⟩ with
  | false =>
    rw [hgood] at HX HE
    have hx9 := HX.out; have he9 := HE.out
    simp only [Bool.false_and, Bool.false_eq_true, if_false] at hx9 he9
    clear HX HE
    subst hx9 he9
    obtain ⟨y0, y1, y2, y3, y4, yl⟩ := cell5 HD2.out
    obtain ⟨d0, d1, d2, d3, d4⟩ := thaw5 HD2.out
    have hr := put5 HD2.out (.int .u8 0) (.int .u8 0) (.int .u8 0) (.int .u16 0) (.int .u16 0)
    have hkk := HK3.out.set5 (b := w.heap.size) (.inr (Nat.le_refl _)) (.int .u8 0) (.int .u8 0) (.int .u8 0) (.int .u16 0) (.int .u16 0)
    have HRR := Lib.hid hr; have HKK := Lib.hid hkk
    clear hr hkk HD2 HK3 HX2 hwd HIN
    go_wp2_with fail
    exact bodyPost_ret (results_op2 rfl _ _ _ rfl HRR.out) rfl ⟨rfl, HKK.out⟩
  | true =>
    have hwo : wordsOf ⟨f, o, k, a, b⟩ = opWords ⟨f, o, k, a, b⟩ := by unfold wordsOf; rw [if_pos hgood]
    rw [hwo] at hwd
    rw [hgood] at HX HE
    generalize opWords ⟨f, o, k, a, b⟩ = WL at *
    clear hwo hgood
    go_wp2_with fail
    refine (hwd _ (hG.new HK3.out)).mono ?_; rintro e w3 ⟨v3, rfl, hrow, hk3, hfr⟩
    have hD3 := hk3.heap HD2.out (by simp)
    have hX3 := hk3.heap HX2.out (by simp)
    have hK3 := HK3.out.trans hk3 (FSub.refl _ _)
    have hs3 := hs.keeps hK3
    have hr3 := Strs.row hrow
    have heq := Equal4_any w3 v3 v WL l hr3 hs3
    clear c0 c1 c2 c3 c4 cl hrow hk3 hfr HD2 HX2 HK3 hwd hs3 hr3
    go_wp2_with fail
    refine heq.mono ?_; rintro e w4 ⟨rfl, hk4⟩
    have hD4 := hk4.heap hD3 (by simp)
    have hX4 := hk4.heap hX3 (by simp)
    have hK4 := hK3.trans hk4 (FSub.refl _ _)
    obtain ⟨c0, c1, c2, c3, c4, cl⟩ := cell5 hX4
    obtain ⟨y0, y1, y2, y3, y4, yl⟩ := cell5 hD4
    obtain ⟨d0, d1, d2, d3, d4⟩ := thaw5 hD4
    clear hD3 hX3 hK3 hk4 heq hX4
    by_cases hq : WL = l
    · have eq2 : decide (WL = l) = true := by simp [hq]
      rw [eq2] at HX HE ⊢
      have hx9 := HX.out; have he9 := HE.out
      simp only [Bool.true_and, if_true] at hx9 he9
      clear HX HE
      subst hx9 he9
      have hr := put5 hD4 (.int .u8 f) (.int .u8 o) (.int .u8 k) (.int .u16 a) (.int .u16 b)
      have hkk := hK4.set5 (b := w.heap.size) (.inr (Nat.le_refl _)) (.int .u8 f) (.int .u8 o) (.int .u8 k) (.int .u16 a) (.int .u16 b)
      have HRR := Lib.hid hr; have HKK := Lib.hid hkk
      clear hr hkk hD4 hK4 hq eq2 HIN
      go_wp2_with fail
      exact bodyPost_ret (results_op2 rfl _ _ _ rfl HRR.out) rfl ⟨rfl, HKK.out⟩
    · have eq2 : decide (WL = l) = false := by simp [hq]
      rw [eq2] at HX HE ⊢
      have hx9 := HX.out; have he9 := HE.out
      simp only [Bool.true_and, Bool.false_eq_true, if_false] at hx9 he9
      clear HX HE
      subst hx9 he9
      have hr := put5 hD4 (.int .u8 0) (.int .u8 0) (.int .u8 0) (.int .u16 0) (.int .u16 0)
      have hkk := hK4.set5 (b := w.heap.size) (.inr (Nat.le_refl _)) (.int .u8 0) (.int .u8 0) (.int .u8 0) (.int .u16 0) (.int .u16 0)
      have HRR := Lib.hid hr; have HKK := Lib.hid hkk
      clear hr hkk hD4 hK4 hq eq2 HIN
      go_wp2_with fail
      exact bodyPost_ret (results_op2 rfl _ _ _ rfl HRR.out) rfl ⟨rfl, HKK.out⟩
end Go.Proofs.YtllloahimfkmfaaDoor
