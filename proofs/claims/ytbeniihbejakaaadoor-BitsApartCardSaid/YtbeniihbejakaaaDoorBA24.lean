/-
  The law BitsApart, over any program's sets.
-/
import Derived.Test.YtbeniihbejakaaaDoorBA00
import Derived.Test.YtbeniihbejakaaaDoorBA22
set_option linter.unusedSimpArgs false
set_option linter.unusedVariables false
namespace Go.Proofs.YtbeniihbejakaaaDoor
open Go.RowKit
set_option maxRecDepth 100000
set_option maxHeartbeats 16000000
variable {G : World → Prop}
def sameB (l S T : List Int) : Bool := l.all fun n => decide (n ∈ S) == decide (n ∈ T)
theorem sameB_snoc (l S T : List Int) (n : Int) : sameB (l ++ [n]) S T = (sameB l S T && (decide (n ∈ S) == decide (n ∈ T))) := by
  unfold sameB; rw [List.all_append]; simp
theorem sameB_all (l S T : List Int) : sameB l S T = true ↔ ∀ n, n ∈ l → (n ∈ S ↔ n ∈ T) := by
  unfold sameB
  rw [List.all_eq_true]
  constructor
  · intro h n hn
    have := h n hn
    simpa using this
  · intro h n hn
    have := h n hn
    simp [this]
theorem wp_joinQ {P : Program} {c : Code} {Q : Exit → Act → World → Prop} {a : Act} {w : World} (f : Nat → Nat → List Value → Act → Act) (F : Nat → Nat → World → Prop)
    (h : c.wp P (fun e a' w' => e = .normal ∧ ∃ qa qb us, a' = f qa qb us a ∧ F qa qb w') a w)
    (k : ∀ qa qb us w', F qa qb w' → Q .normal (f qa qb us a) w') : c.wp P Q a w :=
  Code.wp_mono (fun e a' w' ⟨he, qa, qb, us, ha, hf⟩ => by subst he; subst ha; exact k qa qb us w' hf) h
theorem ten_alloc (w : World) : Keeps [] w ((w.alloc (.cells btZA 27)).alloc (.cells btZA 27)) ∧
    ((w.alloc (.cells btZA 27)).alloc (.cells btZA 27)).heap[w.heap.size]? = some (.cells btZ.toArray 27 (0, 0)) ∧
    ((w.alloc (.cells btZA 27)).alloc (.cells btZA 27)).heap[w.heap.size + 1]? = some (.cells btZ.toArray 27 (0, 0)) := by
  have h0 := heap_alloc_new w (.cells btZA 27)
  have s0 : (w.alloc (.cells btZA 27)).heap.size = w.heap.size + 1 := World.size_alloc _ _
  have k0 : Keeps [] w (w.alloc (.cells btZA 27)) := (Keeps.refl _ _).alloc _
  generalize w.alloc (.cells btZA 27) = X at *
  have h1 := heap_alloc_new X (.cells btZA 27)
  have k1 : Keeps [] X (X.alloc (.cells btZA 27)) := (Keeps.refl _ _).alloc _
  rw [s0] at h1
  exact ⟨k0.trans k1 (FSub.refl _ _), k1.heap h0 (by simp), h1⟩
theorem BitsApart_any (R : BtProg G) (w : World) (hG : G w) {va vb : Value} {a b : List Int} (hIa : rkZ.In w.heap.size w va a) (hIb : rkZ.In w.heap.size w vb b) (h64a : ∀ n ∈ a, I64 n) (h64b : ∀ n ∈ b, I64 n) (x0 x1 : Int) (hx0 : I64 x0) (hx1 : I64 x1) :
    Calls Tryd.prog 6 #[va, vb, .agg #[.int .i64 x0, .int .i64 x1]] w fun e w' => e = .returned (.bool true) ∧ Keeps [] w w' := by
  obtain ⟨aa, ca, rfl, hca, hma, -⟩ := id hIa
  obtain ⟨ab, cb, rfl, hcb, hmb, -⟩ := id hIb
  have HGL := Lib.hid (fun w' (h : Keeps [] w w') => R.keepG hG h)
  have HBX := Lib.hid (heap_alloc_new w (.cells #[.int .i64 x0, .int .i64 x1] 53))
  have HK := Lib.hid (show Keeps [] w (w.alloc (.cells #[.int .i64 x0, .int .i64 x1] 53)) from (Keeps.refl _ _).alloc _)
  have HIA := Lib.hid hIa; have HIB := Lib.hid hIb; have H6A := Lib.hid h64a; have H6B := Lib.hid h64b; have HI0 := Lib.hid hx0; have HI1 := Lib.hid hx1
  clear hG hIa hIb h64a h64b hx0 hx1
  generalize hna : a.length = na at *
  have HNA := Lib.hid hna
  generalize hnb : b.length = nb at *
  have HNB := Lib.hid hnb
  clear hna hnb
  by_cases hl : na ≤ 200 ∧ nb ≤ 200
  case neg =>
    by_cases hl1 : na ≤ 200
    all_goals
      go_enter Tryd.func6, Tryd.ntmps6
      go_wp2_with fail
      refine (awake15_any R _ (HGL.out _ HK.out)).mono ?_
      rintro e w1 ⟨rfl, hk⟩
      have HK1 := Lib.hid (HK.out.trans hk (FSub.refl _ _))
      clear hk
      go_wp2_with fail
      go_ret
      exact ⟨rfl, HK1.out⟩
  obtain ⟨hla, hlb⟩ := hl
  go_enter Tryd.func6, Tryd.ntmps6
  go_wp2_with fail
  refine (R.of _ _ a (HGL.out _ HK.out) ((HIA.out.new HK.out (Nat.le_refl _)).more HK.out.size) (by rw [HNA.out]; omega)).mono ?_
  rintro e w1 ⟨st, rfl, hat, hk, -⟩
  replace HK := Lib.hid (HK.out.trans hk (FSub.refl _ _)); replace HBX := Lib.hid (hk.heap HBX.out (by simp))
  obtain ⟨A7, rfl, hok⟩ := R.cells hat
  have HO7 := Lib.hid hok; have H7 := Lib.hid hat
  clear hat hok hk
  go_wp2_with fail
  refine (R.of _ _ b (HGL.out _ HK.out) ((HIB.out.new HK.out (Nat.le_refl _)).more HK.out.size) (by rw [HNB.out]; omega)).mono ?_
  rintro e V ⟨st, rfl, hat, hk, -⟩
  replace HK := Lib.hid (HK.out.trans hk (FSub.refl _ _)); replace HBX := Lib.hid (hk.heap HBX.out (by simp)); replace H7 := Lib.hid (R.new H7.out hk)
  obtain ⟨A8, rfl, hok⟩ := R.cells hat
  have HO8 := Lib.hid hok; have H8 := Lib.hid hat
  clear hat hok hk
  obtain ⟨S, hS⟩ : ∃ S, S = ofB a := ⟨_, rfl⟩
  obtain ⟨T, hT⟩ : ∃ T, T = ofB b := ⟨_, rfl⟩
  rw [← hS] at H7
  rw [← hT] at H8
  have HSAME := Lib.hid (show S = T ↔ ∀ n ∈ a ++ b, (n ∈ S ↔ n ∈ T) from by rw [hS, hT]; exact ofB_same)
  have HSB := Lib.hid (show BIn S from R.in_ H7.out); have HTB := Lib.hid (show BIn T from R.in_ H8.out)
  have HSL := Lib.hid (show S.length ≤ 65536 from (R.in_ H7.out).len); have HTL := Lib.hid (show T.length ≤ 65536 from (R.in_ H8.out).len)
  clear hS hT
  obtain ⟨t1, t2, t3⟩ := ten_alloc V
  have HT1 := Lib.hid t1; have HT2 := Lib.hid t2; have HT3 := Lib.hid t3
  clear t1 t2 t3
  go_wp2_with ((with_reducible refine wpList_putBt (g := V.heap.size) (old := btZ) (A := A7) HO7.out btZ_ok ?_ ?_ HT2.out ?_); exact rfl; exact rfl)
  intro W1 hW1 hk1
  have HE1 := Lib.hid hW1; have HE2 := Lib.hid (hk1.heap HT3.out (by simp)); have HKE := Lib.hid (HT1.out.trans hk1 (fun q hq => .inr (by simp at hq; omega)))
  clear hW1 hk1 HT1 HT2 HT3
  go_wp2_with ((with_reducible refine wpList_putBt (g := V.heap.size + 1) (old := btZ) (A := A8) HO8.out btZ_ok ?_ ?_ HE2.out ?_); exact rfl; exact rfl)
  intro W2 hW2 hk2
  have hk : Keeps [] V W2 := HKE.out.trans hk2 (fun q hq => .inr (by simp at hq; omega))
  have HB7 := Lib.hid (hk2.heap HE1.out (by simp)); have HB8 := Lib.hid hW2
  replace HK := Lib.hid (HK.out.trans hk (FSub.refl _ _)); replace HBX := Lib.hid (hk.heap HBX.out (by simp)); replace H7 := Lib.hid (R.new H7.out hk); replace H8 := Lib.hid (R.new H8.out hk)
  clear hW2 hk2 hk HE1 HE2 HKE
  obtain ⟨g7, hg7⟩ : ∃ g, g = V.heap.size := ⟨_, rfl⟩
  obtain ⟨g8, hg8⟩ : ∃ g, g = V.heap.size + 1 := ⟨_, rfl⟩
  obtain ⟨gx, hgx⟩ : ∃ g, g = w.heap.size := ⟨_, rfl⟩
  rw [← hg8] at HB8 ⊢
  rw [← hg7] at HB7 ⊢
  rw [← hgx] at HBX ⊢
  clear hg7 hg8 hgx V W1
  obtain ⟨V, hV⟩ : ∃ x, x = W2 := ⟨_, rfl⟩
  subst hV
  go_wp2_with fail
  go_loopw [9, 10, 11] (fun s i _ wr => ∃ k : Nat, i = .int .i64 (k : Int) ∧ k ≤ na + nb ∧ s = .bool (sameB ((a ++ b).take k) S T) ∧ Keeps [] w wr ∧ R.At wr (.agg A7.toArray) S ∧ wr.heap[g7]? = some (.cells A7.toArray 27 (0, 0)) ∧ R.At wr (.agg A8.toArray) T ∧ wr.heap[g8]? = some (.cells A8.toArray 27 (0, 0)) ∧ wr.heap[gx]? = some (.cells #[.int .i64 x0, .int .i64 x1] 53 (0, 0))) (fun _ i _ _ => na + nb - (intOf i).toNat)
  case atStart => exact ⟨0, rfl, by omega, rfl, HK.out, H7.out, HB7.out, H8.out, HB8.out, HBX.out⟩
  case round =>
    obtain ⟨k, rfl, hk, rfl, hk0, h7, hb7, h8, hb8, hbx⟩ := hrel
    replace HK := Lib.hid hk0; replace H7 := Lib.hid h7; replace HB7 := Lib.hid hb7; replace H8 := Lib.hid h8; replace HB8 := Lib.hid hb8; replace HBX := Lib.hid hbx
    clear hk0 h7 hb7 h8 hb8 hbx V
    obtain ⟨V, hV⟩ : ∃ x, x = wr := ⟨_, rfl⟩
    subst hV
    have HSN := Lib.hid (show ∀ hk : k < (a ++ b).length, sameB ((a ++ b).take (k + 1)) S T = (sameB ((a ++ b).take k) S T && (decide ((a ++ b)[k] ∈ S) == decide ((a ++ b)[k] ∈ T))) from fun hk => by rw [takeZ hk, sameB_snoc])
    have HALL := Lib.hid (show k = (a ++ b).length → sameB ((a ++ b).take k) S T = decide (S = T) from fun e => by
      rw [e, List.take_length, Bool.eq_iff_iff, sameB_all, decide_eq_true_eq]; exact HSAME.out.symm)
    generalize sameB ((a ++ b).take k) S T = B at *
    by_cases hlt : k < na + nb
    · have hkl : k < (a ++ b).length := by rw [List.length_append, HNA.out, HNB.out]; exact hlt
      have HSN := Lib.hid (HSN.out hkl)
      have H64 := Lib.hid (show I64 (a ++ b)[k] from by
        rcases List.mem_append.1 (List.getElem_mem hkl) with h | h
        · exact H6A.out _ h
        · exact H6B.out _ h)
      have hw1 : IntKind.i64.wrap ((na : Int) + (nb : Int)) = (na : Int) + (nb : Int) := IntWalk.i64_in _ ⟨by omega, by omega⟩
      have hlt1 : (k : Int) < (na : Int) + (nb : Int) := by omega
      by_cases hka : k < na
      · have hka2 : k < a.length := by rw [HNA.out]; exact hka
        obtain ⟨bk, o, rfl, -, c1⟩ := InZ_at HIA.out hka2
        have c2 := HK.out.cell c1 (by simp)
        have hel : (a ++ b)[k] = a[k] := List.getElem_append_left hka2
        rw [hel] at HSN H64
        generalize a[k] = n at *
        clear c1 hel HALL
        go_wp2_with fail
        clear c2
        cases B with
        | true =>
          obtain ⟨S0, hS0⟩ : ∃ S0 : World → Prop, S0 = fun y => Keeps [] V y := ⟨_, rfl⟩
          have HSE := Lib.hid hS0
          have hSD : S0 V.drew := by rw [hS0]; exact (Keeps.refl _ _).drew
          have HC7 := Lib.hid (fun (w' : World) (hh : S0 w') => show w'.rangeAt g7 0 A7 from by rw [hS0] at hh; exact block_range (hh.heap HB7.out (by simp)))
          have HC8 := Lib.hid (fun (w' : World) (hh : S0 w') => show w'.rangeAt g8 0 A8 from by rw [hS0] at hh; exact block_range (hh.heap HB8.out (by simp)))
          clear hS0
          refine wp_region_noPanic ?_
          refine wp_region_held_drew (S := S0) (by kernel_rfl) hSD (fun hHeld => ?_)
          have HY := Lib.hid ((Keeps.refl [] V).drew)
          generalize V.drew = YC at *
          refine tw 0 (h := ?_)
          refine tw 1 (h := ?_)
          refine tk 2 (y := by exact skB.yields HO7.out rfl _ rfl g7 0 rfl HC7.out) (h := ?_)
          refine tw 3 (h := ?_)
          refine tk 5 (y := by exact skB.yields HO8.out rfl _ rfl g8 0 rfl HC8.out) (h := ?_)
          refine tw 6 (h := ?_)
          refine rp 4 (h := fun K hK => ?_)
          refine wp_call9 11 _ _ rfl [.agg A7.toArray, .int .i64 n] rfl Tryd.func11 (by kernel_rfl) (by kernel_rfl) ((R.has _ _ _ n (HGL.out _ (HK.out.trans HY.out (FSub.refl _ _))) (R.new H7.out HY.out) H64.out).mono ?_)
          rintro e YC ⟨rfl, hk⟩
          refine ⟨_, rfl, ?_⟩
          replace HY := Lib.hid (HY.out.trans hk (FSub.refl _ _))
          clear hk
          refine hK.out _ _ (by rw [HSE.out]; exact HY.out) (fun hHeld => ?_); clear hK K; try simp only [Act.put, lsA, lsZ, lsS]
          refine rp 7 (h := fun K hK => ?_)
          refine wp_call9 11 _ _ rfl [.agg A8.toArray, .int .i64 n] rfl Tryd.func11 (by kernel_rfl) (by kernel_rfl) ((R.has _ _ _ n (HGL.out _ (HK.out.trans HY.out (FSub.refl _ _))) (R.new H8.out HY.out) H64.out).mono ?_)
          rintro e YC ⟨rfl, hk⟩
          refine ⟨_, rfl, ?_⟩
          replace HY := Lib.hid (HY.out.trans hk (FSub.refl _ _))
          clear hk
          refine hK.out _ _ (by rw [HSE.out]; exact HY.out) (fun hHeld => ?_); clear hK K; try simp only [Act.put, lsA, lsZ, lsS]
          refine tw 8 (h := ?_)
          refine tw 9 (h := ?_)
          refine tw 10 (h := ?_)
          refine wpAnyH_done (by kernel_rfl) ?_ _
          refine NoPanic.normal ?_
          have hk := HY.out
          replace HK := Lib.hid (HK.out.trans hk (FSub.refl _ _))
          try (replace H7 := Lib.hid (R.new H7.out hk); replace HB7 := Lib.hid (hk.heap HB7.out (by simp)))
          try (replace H8 := Lib.hid (R.new H8.out hk); replace HB8 := Lib.hid (hk.heap HB8.out (by simp)))
          try replace H12 := Lib.hid (R.new H12.out hk)
          try replace HB12 := Lib.hid (hk.heap HB12.out (by simp))
          try replace H14 := Lib.hid (R.new H14.out hk)
          try replace HB14 := Lib.hid (hk.heap HB14.out (by simp))
          try replace H15 := Lib.hid (R.new H15.out hk)
          try replace HB15 := Lib.hid (hk.heap HB15.out (by simp))
          try replace H17 := Lib.hid (R.new H17.out hk)
          try replace HB17 := Lib.hid (hk.heap HB17.out (by simp))
          replace HBX := Lib.hid (hk.heap HBX.out (by simp))
          clear hk hHeld hSD HSE HY HC7 HC8
          clear V
          obtain ⟨V, hV⟩ : ∃ x, x = YC := ⟨_, rfl⟩
          subst hV
          go_wp2_with fail
          go_roundw
          case rel => exact ⟨k + 1, by go_num, by omega, by rw [HSN.out, Bool.true_and], HK.out, H7.out, HB7.out, H8.out, HB8.out, HBX.out⟩
          case measure => simp [intOf]; omega
        | false =>
          obtain ⟨S0, hS0⟩ : ∃ S0 : World → Prop, S0 = fun y => Keeps [] V y := ⟨_, rfl⟩
          have HSE := Lib.hid hS0
          have hSD : S0 V.drew := by rw [hS0]; exact (Keeps.refl _ _).drew
          have HC7 := Lib.hid (fun (w' : World) (hh : S0 w') => show w'.rangeAt g7 0 A7 from by rw [hS0] at hh; exact block_range (hh.heap HB7.out (by simp)))
          have HC8 := Lib.hid (fun (w' : World) (hh : S0 w') => show w'.rangeAt g8 0 A8 from by rw [hS0] at hh; exact block_range (hh.heap HB8.out (by simp)))
          clear hS0
          refine wp_region_noPanic ?_
          refine wp_region_held_drew (S := S0) (by kernel_rfl) hSD (fun hHeld => ?_)
          have HY := Lib.hid ((Keeps.refl [] V).drew)
          generalize V.drew = YC at *
          refine tw 0 (h := ?_)
          refine tw 1 (h := ?_)
          refine tk 2 (y := by exact Or.inr ⟨by rfl, rfl⟩) (h := ?_)
          refine tk 3 (y := by exact Or.inr ⟨by rfl, rfl⟩) (h := ?_)
          refine tk 5 (y := by exact Or.inr ⟨by rfl, rfl⟩) (h := ?_)
          refine tk 6 (y := by exact Or.inr ⟨by rfl, rfl⟩) (h := ?_)
          refine rd 4 (h := fun K hK => ?_)
          rw [if_neg (Bool.eq_false_iff.1 (by rfl))]
          refine hK.out _ _ (by rw [HSE.out]; exact HY.out) (fun hHeld => ?_); clear hK K; try simp only [Act.put, lsA, lsZ, lsS]
          refine rd 7 (h := fun K hK => ?_)
          rw [if_neg (Bool.eq_false_iff.1 (by rfl))]
          refine hK.out _ _ (by rw [HSE.out]; exact HY.out) (fun hHeld => ?_); clear hK K; try simp only [Act.put, lsA, lsZ, lsS]
          refine tk 8 (y := by exact Or.inr ⟨by rfl, rfl⟩) (h := ?_)
          refine tw 9 (h := ?_)
          refine tw 10 (h := ?_)
          refine wpAnyH_done (by kernel_rfl) ?_ _
          refine NoPanic.normal ?_
          have hk := HY.out
          replace HK := Lib.hid (HK.out.trans hk (FSub.refl _ _))
          try (replace H7 := Lib.hid (R.new H7.out hk); replace HB7 := Lib.hid (hk.heap HB7.out (by simp)))
          try (replace H8 := Lib.hid (R.new H8.out hk); replace HB8 := Lib.hid (hk.heap HB8.out (by simp)))
          try replace H12 := Lib.hid (R.new H12.out hk)
          try replace HB12 := Lib.hid (hk.heap HB12.out (by simp))
          try replace H14 := Lib.hid (R.new H14.out hk)
          try replace HB14 := Lib.hid (hk.heap HB14.out (by simp))
          try replace H15 := Lib.hid (R.new H15.out hk)
          try replace HB15 := Lib.hid (hk.heap HB15.out (by simp))
          try replace H17 := Lib.hid (R.new H17.out hk)
          try replace HB17 := Lib.hid (hk.heap HB17.out (by simp))
          replace HBX := Lib.hid (hk.heap HBX.out (by simp))
          clear hk hHeld hSD HSE HY HC7 HC8
          clear V
          obtain ⟨V, hV⟩ : ∃ x, x = YC := ⟨_, rfl⟩
          subst hV
          go_wp2_with fail
          go_roundw
          case rel => exact ⟨k + 1, by go_num, by omega, by rw [HSN.out, Bool.false_and], HK.out, H7.out, HB7.out, H8.out, HB8.out, HBX.out⟩
          case measure => simp [intOf]; omega
      · have hkb2 : k - na < b.length := by rw [HNB.out]; omega
        obtain ⟨bk, o, rfl, -, c1⟩ := InZ_at HIB.out hkb2
        have c2 := HK.out.cell c1 (by simp)
        have hel : (a ++ b)[k] = b[k - na] := by rw [List.getElem_append_right (by rw [HNA.out]; omega)]; simp only [HNA.out]
        rw [hel] at HSN H64
        obtain ⟨j, hj⟩ : ∃ j, j = k - na := ⟨_, rfl⟩
        have hj1 : (k : Int) - (na : Int) = (j : Int) := by omega
        have hjb : j < nb := by omega
        have hka1 : ¬ (k : Int) < (na : Int) := by omega
        generalize b[k - na] = n at *
        rw [← hj] at c2
        clear c1 hel HALL hj hkb2
        go_wp2_with fail
        clear c2
        cases B with
        | true =>
          obtain ⟨S0, hS0⟩ : ∃ S0 : World → Prop, S0 = fun y => Keeps [] V y := ⟨_, rfl⟩
          have HSE := Lib.hid hS0
          have hSD : S0 V.drew := by rw [hS0]; exact (Keeps.refl _ _).drew
          have HC7 := Lib.hid (fun (w' : World) (hh : S0 w') => show w'.rangeAt g7 0 A7 from by rw [hS0] at hh; exact block_range (hh.heap HB7.out (by simp)))
          have HC8 := Lib.hid (fun (w' : World) (hh : S0 w') => show w'.rangeAt g8 0 A8 from by rw [hS0] at hh; exact block_range (hh.heap HB8.out (by simp)))
          clear hS0
          refine wp_region_noPanic ?_
          refine wp_region_held_drew (S := S0) (by kernel_rfl) hSD (fun hHeld => ?_)
          have HY := Lib.hid ((Keeps.refl [] V).drew)
          generalize V.drew = YC at *
          refine tw 0 (h := ?_)
          refine tw 1 (h := ?_)
          refine tk 2 (y := by exact skB.yields HO7.out rfl _ rfl g7 0 rfl HC7.out) (h := ?_)
          refine tw 3 (h := ?_)
          refine tk 5 (y := by exact skB.yields HO8.out rfl _ rfl g8 0 rfl HC8.out) (h := ?_)
          refine tw 6 (h := ?_)
          refine rp 4 (h := fun K hK => ?_)
          refine wp_call9 11 _ _ rfl [.agg A7.toArray, .int .i64 n] rfl Tryd.func11 (by kernel_rfl) (by kernel_rfl) ((R.has _ _ _ n (HGL.out _ (HK.out.trans HY.out (FSub.refl _ _))) (R.new H7.out HY.out) H64.out).mono ?_)
          rintro e YC ⟨rfl, hk⟩
          refine ⟨_, rfl, ?_⟩
          replace HY := Lib.hid (HY.out.trans hk (FSub.refl _ _))
          clear hk
          refine hK.out _ _ (by rw [HSE.out]; exact HY.out) (fun hHeld => ?_); clear hK K; try simp only [Act.put, lsA, lsZ, lsS]
          refine rp 7 (h := fun K hK => ?_)
          refine wp_call9 11 _ _ rfl [.agg A8.toArray, .int .i64 n] rfl Tryd.func11 (by kernel_rfl) (by kernel_rfl) ((R.has _ _ _ n (HGL.out _ (HK.out.trans HY.out (FSub.refl _ _))) (R.new H8.out HY.out) H64.out).mono ?_)
          rintro e YC ⟨rfl, hk⟩
          refine ⟨_, rfl, ?_⟩
          replace HY := Lib.hid (HY.out.trans hk (FSub.refl _ _))
          clear hk
          refine hK.out _ _ (by rw [HSE.out]; exact HY.out) (fun hHeld => ?_); clear hK K; try simp only [Act.put, lsA, lsZ, lsS]
          refine tw 8 (h := ?_)
          refine tw 9 (h := ?_)
          refine tw 10 (h := ?_)
          refine wpAnyH_done (by kernel_rfl) ?_ _
          refine NoPanic.normal ?_
          have hk := HY.out
          replace HK := Lib.hid (HK.out.trans hk (FSub.refl _ _))
          try (replace H7 := Lib.hid (R.new H7.out hk); replace HB7 := Lib.hid (hk.heap HB7.out (by simp)))
          try (replace H8 := Lib.hid (R.new H8.out hk); replace HB8 := Lib.hid (hk.heap HB8.out (by simp)))
          try replace H12 := Lib.hid (R.new H12.out hk)
          try replace HB12 := Lib.hid (hk.heap HB12.out (by simp))
          try replace H14 := Lib.hid (R.new H14.out hk)
          try replace HB14 := Lib.hid (hk.heap HB14.out (by simp))
          try replace H15 := Lib.hid (R.new H15.out hk)
          try replace HB15 := Lib.hid (hk.heap HB15.out (by simp))
          try replace H17 := Lib.hid (R.new H17.out hk)
          try replace HB17 := Lib.hid (hk.heap HB17.out (by simp))
          replace HBX := Lib.hid (hk.heap HBX.out (by simp))
          clear hk hHeld hSD HSE HY HC7 HC8
          clear V
          obtain ⟨V, hV⟩ : ∃ x, x = YC := ⟨_, rfl⟩
          subst hV
          go_wp2_with fail
          go_roundw
          case rel => exact ⟨k + 1, by go_num, by omega, by rw [HSN.out, Bool.true_and], HK.out, H7.out, HB7.out, H8.out, HB8.out, HBX.out⟩
          case measure => simp [intOf]; omega
        | false =>
          obtain ⟨S0, hS0⟩ : ∃ S0 : World → Prop, S0 = fun y => Keeps [] V y := ⟨_, rfl⟩
          have HSE := Lib.hid hS0
          have hSD : S0 V.drew := by rw [hS0]; exact (Keeps.refl _ _).drew
          have HC7 := Lib.hid (fun (w' : World) (hh : S0 w') => show w'.rangeAt g7 0 A7 from by rw [hS0] at hh; exact block_range (hh.heap HB7.out (by simp)))
          have HC8 := Lib.hid (fun (w' : World) (hh : S0 w') => show w'.rangeAt g8 0 A8 from by rw [hS0] at hh; exact block_range (hh.heap HB8.out (by simp)))
          clear hS0
          refine wp_region_noPanic ?_
          refine wp_region_held_drew (S := S0) (by kernel_rfl) hSD (fun hHeld => ?_)
          have HY := Lib.hid ((Keeps.refl [] V).drew)
          generalize V.drew = YC at *
          refine tw 0 (h := ?_)
          refine tw 1 (h := ?_)
          refine tk 2 (y := by exact Or.inr ⟨by rfl, rfl⟩) (h := ?_)
          refine tk 3 (y := by exact Or.inr ⟨by rfl, rfl⟩) (h := ?_)
          refine tk 5 (y := by exact Or.inr ⟨by rfl, rfl⟩) (h := ?_)
          refine tk 6 (y := by exact Or.inr ⟨by rfl, rfl⟩) (h := ?_)
          refine rd 4 (h := fun K hK => ?_)
          rw [if_neg (Bool.eq_false_iff.1 (by rfl))]
          refine hK.out _ _ (by rw [HSE.out]; exact HY.out) (fun hHeld => ?_); clear hK K; try simp only [Act.put, lsA, lsZ, lsS]
          refine rd 7 (h := fun K hK => ?_)
          rw [if_neg (Bool.eq_false_iff.1 (by rfl))]
          refine hK.out _ _ (by rw [HSE.out]; exact HY.out) (fun hHeld => ?_); clear hK K; try simp only [Act.put, lsA, lsZ, lsS]
          refine tk 8 (y := by exact Or.inr ⟨by rfl, rfl⟩) (h := ?_)
          refine tw 9 (h := ?_)
          refine tw 10 (h := ?_)
          refine wpAnyH_done (by kernel_rfl) ?_ _
          refine NoPanic.normal ?_
          have hk := HY.out
          replace HK := Lib.hid (HK.out.trans hk (FSub.refl _ _))
          try (replace H7 := Lib.hid (R.new H7.out hk); replace HB7 := Lib.hid (hk.heap HB7.out (by simp)))
          try (replace H8 := Lib.hid (R.new H8.out hk); replace HB8 := Lib.hid (hk.heap HB8.out (by simp)))
          try replace H12 := Lib.hid (R.new H12.out hk)
          try replace HB12 := Lib.hid (hk.heap HB12.out (by simp))
          try replace H14 := Lib.hid (R.new H14.out hk)
          try replace HB14 := Lib.hid (hk.heap HB14.out (by simp))
          try replace H15 := Lib.hid (R.new H15.out hk)
          try replace HB15 := Lib.hid (hk.heap HB15.out (by simp))
          try replace H17 := Lib.hid (R.new H17.out hk)
          try replace HB17 := Lib.hid (hk.heap HB17.out (by simp))
          replace HBX := Lib.hid (hk.heap HBX.out (by simp))
          clear hk hHeld hSD HSE HY HC7 HC8
          clear V
          obtain ⟨V, hV⟩ : ∃ x, x = YC := ⟨_, rfl⟩
          subst hV
          go_wp2_with fail
          go_roundw
          case rel => exact ⟨k + 1, by go_num, by omega, by rw [HSN.out, Bool.false_and], HK.out, H7.out, HB7.out, H8.out, HB8.out, HBX.out⟩
          case measure => simp [intOf]; omega
    · have HBT := Lib.hid (HALL.out (by rw [List.length_append, HNA.out, HNB.out]; omega))
      have hlt1 : ¬ (k : Int) < (na : Int) + (nb : Int) := by omega
      have hw1 : IntKind.i64.wrap ((na : Int) + (nb : Int)) = (na : Int) + (nb : Int) := IntWalk.i64_in _ ⟨by omega, by omega⟩
      clear HALL HSN
      obtain ⟨kS, hkS⟩ : ∃ x, x = bs (keyB S) := ⟨_, rfl⟩
      obtain ⟨kT, hkT⟩ : ∃ x, x = bs (keyB T) := ⟨_, rfl⟩
      have HKS := Lib.hid (show bs (keyB S) = kS from hkS.symm); have HKT := Lib.hid (show bs (keyB T) = kT from hkT.symm)
      have hE : (kS.toList == kT.toList) = B := by
        rw [HBT.out, hkS, hkT, toL_bs, toL_bs]
        by_cases h : S = T
        · rw [h]; simp
        · rw [decide_eq_false h, beq_eq_false_iff_ne]
          exact fun e => h ((keyB_inj HSB.out HTB.out).1 e)
      clear hkS hkT
      go_wp2_with ((with_reducible refine wpList_loadBt (g := g7) HO7.out ?_ ?_ (block_range HB7.out) ?_); exact rfl; exact rfl)
      refine (R.key _ _ _ (HGL.out _ HK.out) H7.out).mono ?_; rintro e W1 ⟨rfl, hk1⟩
      have hk := hk1
      replace HK := Lib.hid (HK.out.trans hk (FSub.refl _ _))
      try (replace H7 := Lib.hid (R.new H7.out hk); replace HB7 := Lib.hid (hk.heap HB7.out (by simp)))
      try (replace H8 := Lib.hid (R.new H8.out hk); replace HB8 := Lib.hid (hk.heap HB8.out (by simp)))
      try replace H12 := Lib.hid (R.new H12.out hk)
      try replace HB12 := Lib.hid (hk.heap HB12.out (by simp))
      try replace H14 := Lib.hid (R.new H14.out hk)
      try replace HB14 := Lib.hid (hk.heap HB14.out (by simp))
      try replace H15 := Lib.hid (R.new H15.out hk)
      try replace HB15 := Lib.hid (hk.heap HB15.out (by simp))
      try replace H17 := Lib.hid (R.new H17.out hk)
      try replace HB17 := Lib.hid (hk.heap HB17.out (by simp))
      replace HBX := Lib.hid (hk.heap HBX.out (by simp))
      clear hk hk1 V
      go_wp2_with fail
      refine (R.fromKey _ (keyB S) (HGL.out _ HK.out) (by rw [keyB_len]; have := lenB_le HSB.out; omega)).mono ?_; rintro e W2 ⟨st, rfl, hat, hk, -⟩
      rw [fromB_key HSB.out] at hat
      rw [show (fromB (keyB S)).2 = 0 from by rw [fromB_key HSB.out]]
      replace HK := Lib.hid (HK.out.trans hk (FSub.refl _ _))
      try (replace H7 := Lib.hid (R.new H7.out hk); replace HB7 := Lib.hid (hk.heap HB7.out (by simp)))
      try (replace H8 := Lib.hid (R.new H8.out hk); replace HB8 := Lib.hid (hk.heap HB8.out (by simp)))
      try replace H12 := Lib.hid (R.new H12.out hk)
      try replace HB12 := Lib.hid (hk.heap HB12.out (by simp))
      try replace H14 := Lib.hid (R.new H14.out hk)
      try replace HB14 := Lib.hid (hk.heap HB14.out (by simp))
      try replace H15 := Lib.hid (R.new H15.out hk)
      try replace HB15 := Lib.hid (hk.heap HB15.out (by simp))
      try replace H17 := Lib.hid (R.new H17.out hk)
      try replace HB17 := Lib.hid (hk.heap HB17.out (by simp))
      replace HBX := Lib.hid (hk.heap HBX.out (by simp))
      obtain ⟨A12, rfl, hok⟩ := R.cells hat
      have HO12 := Lib.hid hok; have H12 := Lib.hid hat
      clear hat hok hk W1
      have HNC := Lib.hid (show (W2.alloc (.cells btZA 27)).heap[W2.heap.size]? = some (.cells btZ.toArray 27 (0, 0)) from heap_alloc_new W2 _)
      have HNK := Lib.hid (show Keeps [] W2 (W2.alloc (.cells btZA 27)) from (Keeps.refl _ _).alloc _)
      go_wp2_with ((with_reducible refine wpList_putBt (g := W2.heap.size) (old := btZ) (A := A12) HO12.out btZ_ok ?_ ?_ HNC.out ?_); exact rfl; exact rfl)
      intro V hW hk2
      have hk := HNK.out.trans' hk2 (Nat.le_refl _)
      replace HK := Lib.hid (HK.out.trans hk (FSub.refl _ _))
      try (replace H7 := Lib.hid (R.new H7.out hk); replace HB7 := Lib.hid (hk.heap HB7.out (by simp)))
      try (replace H8 := Lib.hid (R.new H8.out hk); replace HB8 := Lib.hid (hk.heap HB8.out (by simp)))
      try replace H12 := Lib.hid (R.new H12.out hk)
      try replace HB12 := Lib.hid (hk.heap HB12.out (by simp))
      try replace H14 := Lib.hid (R.new H14.out hk)
      try replace HB14 := Lib.hid (hk.heap HB14.out (by simp))
      try replace H15 := Lib.hid (R.new H15.out hk)
      try replace HB15 := Lib.hid (hk.heap HB15.out (by simp))
      try replace H17 := Lib.hid (R.new H17.out hk)
      try replace HB17 := Lib.hid (hk.heap HB17.out (by simp))
      replace HBX := Lib.hid (hk.heap HBX.out (by simp))
      have HB12 := Lib.hid hW
      clear hW hk2 HNC HNK hk
      generalize W2.heap.size = g12 at *
      have HWR := Lib.hid (withinB_refl S)
      go_wp2_with fail
      obtain ⟨S0, hS0⟩ : ∃ S0 : World → Prop, S0 = fun y => Keeps [] V y := ⟨_, rfl⟩
      have HSE := Lib.hid hS0
      have hSD : S0 V.drew := by rw [hS0]; exact (Keeps.refl _ _).drew
      have HC7 := Lib.hid (fun (w' : World) (hh : S0 w') => show w'.rangeAt g7 0 A7 from by rw [hS0] at hh; exact block_range (hh.heap HB7.out (by simp)))
      have HC8 := Lib.hid (fun (w' : World) (hh : S0 w') => show w'.rangeAt g8 0 A8 from by rw [hS0] at hh; exact block_range (hh.heap HB8.out (by simp)))
      have HC12 := Lib.hid (fun (w' : World) (hh : S0 w') => show w'.rangeAt g12 0 A12 from by rw [hS0] at hh; exact block_range (hh.heap HB12.out (by simp)))
      clear hS0
      refine wp_region_noPanic ?_
      refine wp_region_held_drew (S := S0) (by kernel_rfl) hSD (fun hHeld => ?_)
      have HY := Lib.hid ((Keeps.refl [] V).drew)
      generalize V.drew = YC at *
      refine tk 0 (y := by exact skB.yields HO7.out rfl _ rfl g7 0 rfl HC7.out) (h := ?_)
      refine tk 2 (y := by exact skB.yields HO8.out rfl _ rfl g8 0 rfl HC8.out) (h := ?_)
      refine tw 5 (h := ?_)
      refine rp 1 (h := fun K hK => ?_)
      refine wp_call9 15 _ _ rfl [.agg A7.toArray] rfl Tryd.func15 (by kernel_rfl) (by kernel_rfl) ((R.key _ _ _ (HGL.out _ (HK.out.trans HY.out (FSub.refl _ _))) (R.new H7.out HY.out)).mono ?_)
      rintro e YC ⟨rfl, hk⟩
      rw [HKS.out]
      refine ⟨_, rfl, ?_⟩
      replace HY := Lib.hid (HY.out.trans hk (FSub.refl _ _))
      clear hk
      refine hK.out _ _ (by rw [HSE.out]; exact HY.out) (fun hHeld => ?_); clear hK K; try simp only [Act.put, lsA, lsZ, lsS]
      refine rp 3 (h := fun K hK => ?_)
      refine wp_call9 15 _ _ rfl [.agg A8.toArray] rfl Tryd.func15 (by kernel_rfl) (by kernel_rfl) ((R.key _ _ _ (HGL.out _ (HK.out.trans HY.out (FSub.refl _ _))) (R.new H8.out HY.out)).mono ?_)
      rintro e YC ⟨rfl, hk⟩
      rw [HKT.out]
      refine ⟨_, rfl, ?_⟩
      replace HY := Lib.hid (HY.out.trans hk (FSub.refl _ _))
      clear hk
      refine hK.out _ _ (by rw [HSE.out]; exact HY.out) (fun hHeld => ?_); clear hK K; try simp only [Act.put, lsA, lsZ, lsS]
      refine tw 4 (h := ?_)
      refine tw 6 (h := ?_)
      refine tw 7 (h := ?_)
      refine tw 8 (h := ?_)
      refine tw 9 (h := ?_)
      refine tw 10 (h := ?_)
      refine tw 11 (h := ?_)
      refine tk 12 (y := by exact skB.yields HO12.out rfl _ rfl g12 0 rfl HC12.out) (h := ?_)
      refine tk 14 (y := by exact skB.yields HO7.out rfl _ rfl g7 0 rfl HC7.out) (h := ?_)
      refine rp 13 (h := fun K hK => ?_)
      refine wp_call9 15 _ _ rfl [.agg A12.toArray] rfl Tryd.func15 (by kernel_rfl) (by kernel_rfl) ((R.key _ _ _ (HGL.out _ (HK.out.trans HY.out (FSub.refl _ _))) (R.new H12.out HY.out)).mono ?_)
      rintro e YC ⟨rfl, hk⟩
      rw [HKS.out]
      refine ⟨_, rfl, ?_⟩
      replace HY := Lib.hid (HY.out.trans hk (FSub.refl _ _))
      clear hk
      refine hK.out _ _ (by rw [HSE.out]; exact HY.out) (fun hHeld => ?_); clear hK K; try simp only [Act.put, lsA, lsZ, lsS]
      refine rp 15 (h := fun K hK => ?_)
      refine wp_call9 15 _ _ rfl [.agg A7.toArray] rfl Tryd.func15 (by kernel_rfl) (by kernel_rfl) ((R.key _ _ _ (HGL.out _ (HK.out.trans HY.out (FSub.refl _ _))) (R.new H7.out HY.out)).mono ?_)
      rintro e YC ⟨rfl, hk⟩
      rw [HKS.out]
      refine ⟨_, rfl, ?_⟩
      replace HY := Lib.hid (HY.out.trans hk (FSub.refl _ _))
      clear hk
      refine hK.out _ _ (by rw [HSE.out]; exact HY.out) (fun hHeld => ?_); clear hK K; try simp only [Act.put, lsA, lsZ, lsS]
      refine tw 16 (h := ?_)
      refine tw 17 (h := ?_)
      refine tw 18 (h := ?_)
      refine tk 19 (y := by exact skB.yields HO7.out rfl _ rfl g7 0 rfl HC7.out) (h := ?_)
      refine tk 20 (y := by exact skB.yields HO12.out rfl _ rfl g12 0 rfl HC12.out) (h := ?_)
      refine rp 21 (h := fun K hK => ?_)
      refine wp_call9 24 _ _ rfl [.agg A7.toArray, .agg A12.toArray] rfl Tryd.func24 (by kernel_rfl) (by kernel_rfl) ((R.within _ _ _ _ _ (HGL.out _ (HK.out.trans HY.out (FSub.refl _ _))) (R.new H7.out HY.out) (R.new H12.out HY.out)).mono ?_)
      rintro e YC ⟨rfl, hk⟩
      rw [HWR.out]
      refine ⟨_, rfl, ?_⟩
      replace HY := Lib.hid (HY.out.trans hk (FSub.refl _ _))
      clear hk
      refine hK.out _ _ (by rw [HSE.out]; exact HY.out) (fun hHeld => ?_); clear hK K; try simp only [Act.put, lsA, lsZ, lsS]
      refine tw 22 (h := ?_)
      refine tw 23 (h := ?_)
      refine tw 24 (h := ?_)
      refine tk 25 (y := by exact skB.yields HO12.out rfl _ rfl g12 0 rfl HC12.out) (h := ?_)
      refine tk 26 (y := by exact skB.yields HO7.out rfl _ rfl g7 0 rfl HC7.out) (h := ?_)
      refine rp 27 (h := fun K hK => ?_)
      refine wp_call9 24 _ _ rfl [.agg A12.toArray, .agg A7.toArray] rfl Tryd.func24 (by kernel_rfl) (by kernel_rfl) ((R.within _ _ _ _ _ (HGL.out _ (HK.out.trans HY.out (FSub.refl _ _))) (R.new H12.out HY.out) (R.new H7.out HY.out)).mono ?_)
      rintro e YC ⟨rfl, hk⟩
      rw [HWR.out]
      refine ⟨_, rfl, ?_⟩
      replace HY := Lib.hid (HY.out.trans hk (FSub.refl _ _))
      clear hk
      refine hK.out _ _ (by rw [HSE.out]; exact HY.out) (fun hHeld => ?_); clear hK K; try simp only [Act.put, lsA, lsZ, lsS]
      refine tw 28 (h := ?_)
      refine tw 29 (h := ?_)
      refine wpAnyH_done (by kernel_rfl) ?_ _
      refine NoPanic.normal ?_
      have hk := HY.out
      replace HK := Lib.hid (HK.out.trans hk (FSub.refl _ _))
      try (replace H7 := Lib.hid (R.new H7.out hk); replace HB7 := Lib.hid (hk.heap HB7.out (by simp)))
      try (replace H8 := Lib.hid (R.new H8.out hk); replace HB8 := Lib.hid (hk.heap HB8.out (by simp)))
      try replace H12 := Lib.hid (R.new H12.out hk)
      try replace HB12 := Lib.hid (hk.heap HB12.out (by simp))
      try replace H14 := Lib.hid (R.new H14.out hk)
      try replace HB14 := Lib.hid (hk.heap HB14.out (by simp))
      try replace H15 := Lib.hid (R.new H15.out hk)
      try replace HB15 := Lib.hid (hk.heap HB15.out (by simp))
      try replace H17 := Lib.hid (R.new H17.out hk)
      try replace HB17 := Lib.hid (hk.heap HB17.out (by simp))
      replace HBX := Lib.hid (hk.heap HBX.out (by simp))
      clear hk hHeld hSD HSE HY HC7 HC8 HC12
      clear V
      obtain ⟨V, hV⟩ : ∃ x, x = YC := ⟨_, rfl⟩
      subst hV
      as_aux_lemma =>
      go_wp2_with fail
      have HOL7 := Lib.hid (R.old H7.out)
      have HA1 := Lib.hid (fun w' (h : Keeps [] V w') => R.with_ w' _ S x0 (HGL.out _ (HK.out.trans h (FSub.refl _ _))) (R.new H7.out h) HI0.out)
      have HA2 := Lib.hid (fun w' (h : Keeps [] V w') => R.without w' _ S x0 (HGL.out _ (HK.out.trans h (FSub.refl _ _))) (R.new H7.out h) HI0.out)
      refine wp_joinQ (fun qa qb us a => ((((((((((a.put (some 101) (us.getD 0 undef)).put (some 102) (us.getD 1 undef)).put (some 103) (us.getD 2 undef)).put (some 104) (us.getD 3 undef)).put (some 105) (us.getD 4 undef)).put (some 106) (us.getD 5 undef)).put (some 107) (us.getD 6 undef)).put (some 108) (us.getD 7 undef)).put (some 14) (.pointer (some ⟨qa, 0, none⟩))).put (some 15) (.pointer (some ⟨qb, 0, none⟩)))) (fun qa qb w' => ∃ x1 x2 : List Value, w'.heap[qa]? = some (.cells x1.toArray 27 (0, 0)) ∧ w'.heap[qb]? = some (.cells x2.toArray 27 (0, 0)) ∧ R.At w' (.agg x1.toArray) (withB S x0) ∧ R.At w' (.agg x2.toArray) (withoutB S x0) ∧ Keeps [] V w') ?_ ?_
      · skip
        as_aux_lemma =>
        obtain ⟨S0, hS0⟩ : ∃ S0 : World → Prop, S0 = fun y => Keeps [] V y := ⟨_, rfl⟩
        have HSE := Lib.hid hS0
        have hSD : S0 V.drew := by rw [hS0]; exact (Keeps.refl _ _).drew
        have HC7 := Lib.hid (fun (w' : World) (hh : S0 w') => show w'.rangeAt g7 0 A7 from by rw [hS0] at hh; exact block_range (hh.heap HB7.out (by simp)))
        have HX0 := Lib.hid (fun (w' : World) (hh : S0 w') => show w'.cell? ⟨gx, 0, none⟩ = some (.int .i64 x0) from by rw [hS0] at hh; exact cell_lit (hh.heap HBX.out (by simp)) 0 rfl)
        have HX1 := Lib.hid (fun (w' : World) (hh : S0 w') => show w'.cell? ⟨gx, 1, none⟩ = some (.int .i64 x1) from by rw [hS0] at hh; exact cell_lit (hh.heap HBX.out (by simp)) 1 rfl)
        clear hS0
        refine wp_region_noPanic ?_
        refine wp_region_held_drew (S := S0) (by kernel_rfl) hSD (fun hHeld => ?_)
        have HY := Lib.hid ((Keeps.refl [] V).drew)
        generalize V.drew = YC at *
        refine tk 0 (y := by exact skB.yields HO7.out rfl _ rfl g7 0 rfl HC7.out) (h := ?_)
        refine tw 1 (h := ?_)
        refine tk 2 (y := by exact Or.inl ⟨by rfl, by intro w hSw; have q0 := HX0.out w hSw; go_simp; try with_reducible rfl⟩) (h := ?_)
        refine tk 4 (y := by exact skB.yields HO7.out rfl _ rfl g7 0 rfl HC7.out) (h := ?_)
        refine tw 5 (h := ?_)
        refine tk 6 (y := by exact Or.inl ⟨by rfl, by intro w hSw; have q0 := HX0.out w hSw; go_simp; try with_reducible rfl⟩) (h := ?_)
        apply wpAnyH_ready (rs := [3, 8, 9])
        · kernel_rfl
        · simp
        apply AllReadyH.cons
        · simp only [List.getElem?_toArray]; rfl
        · intro K hK
          rw [if_pos (by rfl)]
          refine wp_call9 25 _ _ rfl [.agg A7.toArray, .int .i64 x0] rfl Tryd.func25 (by kernel_rfl) (by kernel_rfl) ((HA1.out _ HY.out).mono ?_)
          rintro e YC ⟨sq, rfl, hat, hk, hfo⟩
          refine ⟨_, rfl, ?_⟩
          obtain ⟨A14, rfl, -⟩ := R.cells hat
          try have HF1A := Lib.hid (show ∀ q ∈ R.foot (.agg A14.toArray), q ≠ ga from fun q hq => by
            rcases hfo q hq with h | h
            · have h1 := HOL7.out q h; have h2 := HGA.out; omega
            · have := lt_of_block HBA.out; omega)
          try have HF1B := Lib.hid (show ∀ q ∈ R.foot (.agg A14.toArray), q ≠ gb from fun q hq => by
            rcases hfo q hq with h | h
            · have h1 := HOL7.out q h; have h2 := HGB.out; omega
            · have := lt_of_block HBB.out; omega)
          try replace HBA := Lib.hid (hk.heap HBA.out (by simp))
          try replace HBB := Lib.hid (hk.heap HBB.out (by simp))
          try replace HX1 := Lib.hid (R.new HX1.out hk)
          try replace HX2 := Lib.hid (R.new HX2.out hk)
          replace HY := Lib.hid (HY.out.trans hk (FSub.refl _ _))
          have HX1 := Lib.hid hat
          clear hat hk hfo
          refine hK.out _ _ (by rw [HSE.out]; exact HY.out) (fun hHeld => ?_); clear hK K; try simp only [Act.put, lsA, lsZ, lsS]
          apply wpAnyH_ready (rs := [7, 8, 9])
          · kernel_rfl
          · simp
          apply AllReadyH.cons
          · simp only [List.getElem?_toArray]; rfl
          · intro K hK
            rw [if_pos (by rfl)]
            refine wp_call9 26 _ _ rfl [.agg A7.toArray, .int .i64 x0] rfl Tryd.func26 (by kernel_rfl) (by kernel_rfl) ((HA2.out _ HY.out).mono ?_)
            rintro e YC ⟨sq, rfl, hat, hk, hfo⟩
            refine ⟨_, rfl, ?_⟩
            obtain ⟨A15, rfl, -⟩ := R.cells hat
            try have HF2A := Lib.hid (show ∀ q ∈ R.foot (.agg A15.toArray), q ≠ ga from fun q hq => by
              rcases hfo q hq with h | h
              · have h1 := HOL7.out q h; have h2 := HGA.out; omega
              · have := lt_of_block HBA.out; omega)
            try have HF2B := Lib.hid (show ∀ q ∈ R.foot (.agg A15.toArray), q ≠ gb from fun q hq => by
              rcases hfo q hq with h | h
              · have h1 := HOL7.out q h; have h2 := HGB.out; omega
              · have := lt_of_block HBB.out; omega)
            try replace HBA := Lib.hid (hk.heap HBA.out (by simp))
            try replace HBB := Lib.hid (hk.heap HBB.out (by simp))
            try replace HX1 := Lib.hid (R.new HX1.out hk)
            try replace HX2 := Lib.hid (R.new HX2.out hk)
            replace HY := Lib.hid (HY.out.trans hk (FSub.refl _ _))
            have HX2 := Lib.hid hat
            clear hat hk hfo
            refine hK.out _ _ (by rw [HSE.out]; exact HY.out) (fun hHeld => ?_); clear hK K; try simp only [Act.put, lsA, lsZ, lsS]
            apply wpAnyH_ready (rs := [8, 9])
            · kernel_rfl
            · simp
            apply AllReadyH.cons
            · simp only [List.getElem?_toArray]; rfl
            · intro K hK
              rw [if_pos (by rfl)]
              refine wp_allocBt rfl ?_
              have hk : Keeps [] YC (YC.alloc (.cells btZ.toArray 27)) := (Keeps.refl _ _).alloc _
              have hb := heap_alloc_new YC (.cells btZ.toArray 27)
              try have HF1A := Lib.hid (show ∀ q ∈ R.foot (.agg A14.toArray), q ≠ YC.heap.size from fun q hq => Nat.ne_of_lt (R.old HX1.out q hq))
              try have HF2A := Lib.hid (show ∀ q ∈ R.foot (.agg A15.toArray), q ≠ YC.heap.size from fun q hq => Nat.ne_of_lt (R.old HX2.out q hq))
              try have HAB := Lib.hid (show YC.heap.size ≠ gb from Nat.ne_of_gt (lt_of_block HBB.out))
              have HGA := Lib.hid HY.out.size
              try replace HBA := Lib.hid (hk.heap HBA.out (by simp))
              try replace HBB := Lib.hid (hk.heap HBB.out (by simp))
              try replace HX1 := Lib.hid (R.new HX1.out hk)
              try replace HX2 := Lib.hid (R.new HX2.out hk)
              replace HY := Lib.hid (HY.out.trans hk (FSub.refl _ _))
              have HBA := Lib.hid hb
              clear hk hb
              generalize YC.heap.size = ga at *
              generalize YC.alloc (.cells btZ.toArray 27) = YC at *
              refine hK.out _ _ (by rw [HSE.out]; exact HY.out) (fun hHeld => ?_); clear hK K; try simp only [Act.put, lsA, lsZ, lsS]
              refine rp 9 (h := fun K hK => ?_)
              refine wp_allocBt rfl ?_
              have hk : Keeps [] YC (YC.alloc (.cells btZ.toArray 27)) := (Keeps.refl _ _).alloc _
              have hb := heap_alloc_new YC (.cells btZ.toArray 27)
              try have HF1B := Lib.hid (show ∀ q ∈ R.foot (.agg A14.toArray), q ≠ YC.heap.size from fun q hq => Nat.ne_of_lt (R.old HX1.out q hq))
              try have HF2B := Lib.hid (show ∀ q ∈ R.foot (.agg A15.toArray), q ≠ YC.heap.size from fun q hq => Nat.ne_of_lt (R.old HX2.out q hq))
              try have HAB := Lib.hid (show ga ≠ YC.heap.size from Nat.ne_of_lt (lt_of_block HBA.out))
              have HGB := Lib.hid HY.out.size
              try replace HBA := Lib.hid (hk.heap HBA.out (by simp))
              try replace HBB := Lib.hid (hk.heap HBB.out (by simp))
              try replace HX1 := Lib.hid (R.new HX1.out hk)
              try replace HX2 := Lib.hid (R.new HX2.out hk)
              replace HY := Lib.hid (HY.out.trans hk (FSub.refl _ _))
              have HBB := Lib.hid hb
              clear hk hb
              generalize YC.heap.size = gb at *
              generalize YC.alloc (.cells btZ.toArray 27) = YC at *
              refine hK.out _ _ (by rw [HSE.out]; exact HY.out) (fun hHeld => ?_); clear hK K; try simp only [Act.put, lsA, lsZ, lsS]
              refine rp 10 (h := fun K hK => ?_)
              refine skB.wp_put rfl (g := ga) (old := btZ) (A := A14) (btOk R HX1.out) btZ_ok rfl rfl HBA.out (fun YC hV hk => ?_)
              replace HBA := Lib.hid hV
              replace HBB := Lib.hid (hk.heap HBB.out (by have := HAB.out; simp; exact fun e => this e.symm))
              replace HX1 := Lib.hid (R.put HX1.out hk HF1A.out); replace HX2 := Lib.hid (R.put HX2.out hk HF2A.out)
              replace HY := Lib.hid (HY.out.trans hk (fun q hq => .inr (by simp at hq; have := HGA.out; omega)))
              clear hV hk
              refine hK.out _ _ (by rw [HSE.out]; exact HY.out) (fun hHeld => ?_); clear hK K; try simp only [Act.put, lsA, lsZ, lsS]
              refine rp 11 (h := fun K hK => ?_)
              refine skB.wp_put rfl (g := gb) (old := btZ) (A := A15) (btOk R HX2.out) btZ_ok rfl rfl HBB.out (fun YC hV hk => ?_)
              replace HBB := Lib.hid hV
              replace HBA := Lib.hid (hk.heap HBA.out (by have := HAB.out; simp; exact this))
              replace HX1 := Lib.hid (R.put HX1.out hk HF1B.out); replace HX2 := Lib.hid (R.put HX2.out hk HF2B.out)
              replace HY := Lib.hid (HY.out.trans hk (fun q hq => .inr (by simp at hq; have := HGB.out; omega)))
              clear hV hk
              refine hK.out _ _ (by rw [HSE.out]; exact HY.out) (fun hHeld => ?_); clear hK K; try simp only [Act.put, lsA, lsZ, lsS]
              refine wpAnyH_done (by kernel_rfl) ?_ _
              refine NoPanic.normal ?_
              exact ⟨rfl, ga, gb, [_, _, _, _, _, _, _, _], rfl, A14, A15, HBA.out, HBB.out, HX1.out, HX2.out, HY.out⟩
            apply AllReadyH.cons (hs := AllReadyH.nil)
            · simp only [List.getElem?_toArray]; rfl
            intro K hK
            rw [if_pos (by rfl)]
            refine wp_allocBt rfl ?_
            have hk : Keeps [] YC (YC.alloc (.cells btZ.toArray 27)) := (Keeps.refl _ _).alloc _
            have hb := heap_alloc_new YC (.cells btZ.toArray 27)
            try have HF1B := Lib.hid (show ∀ q ∈ R.foot (.agg A14.toArray), q ≠ YC.heap.size from fun q hq => Nat.ne_of_lt (R.old HX1.out q hq))
            try have HF2B := Lib.hid (show ∀ q ∈ R.foot (.agg A15.toArray), q ≠ YC.heap.size from fun q hq => Nat.ne_of_lt (R.old HX2.out q hq))
            try have HAB := Lib.hid (show ga ≠ YC.heap.size from Nat.ne_of_lt (lt_of_block HBA.out))
            have HGB := Lib.hid HY.out.size
            try replace HBA := Lib.hid (hk.heap HBA.out (by simp))
            try replace HBB := Lib.hid (hk.heap HBB.out (by simp))
            try replace HX1 := Lib.hid (R.new HX1.out hk)
            try replace HX2 := Lib.hid (R.new HX2.out hk)
            replace HY := Lib.hid (HY.out.trans hk (FSub.refl _ _))
            have HBB := Lib.hid hb
            clear hk hb
            generalize YC.heap.size = gb at *
            generalize YC.alloc (.cells btZ.toArray 27) = YC at *
            refine hK.out _ _ (by rw [HSE.out]; exact HY.out) (fun hHeld => ?_); clear hK K; try simp only [Act.put, lsA, lsZ, lsS]
            refine rp 8 (h := fun K hK => ?_)
            refine wp_allocBt rfl ?_
            have hk : Keeps [] YC (YC.alloc (.cells btZ.toArray 27)) := (Keeps.refl _ _).alloc _
            have hb := heap_alloc_new YC (.cells btZ.toArray 27)
            try have HF1A := Lib.hid (show ∀ q ∈ R.foot (.agg A14.toArray), q ≠ YC.heap.size from fun q hq => Nat.ne_of_lt (R.old HX1.out q hq))
            try have HF2A := Lib.hid (show ∀ q ∈ R.foot (.agg A15.toArray), q ≠ YC.heap.size from fun q hq => Nat.ne_of_lt (R.old HX2.out q hq))
            try have HAB := Lib.hid (show YC.heap.size ≠ gb from Nat.ne_of_gt (lt_of_block HBB.out))
            have HGA := Lib.hid HY.out.size
            try replace HBA := Lib.hid (hk.heap HBA.out (by simp))
            try replace HBB := Lib.hid (hk.heap HBB.out (by simp))
            try replace HX1 := Lib.hid (R.new HX1.out hk)
            try replace HX2 := Lib.hid (R.new HX2.out hk)
            replace HY := Lib.hid (HY.out.trans hk (FSub.refl _ _))
            have HBA := Lib.hid hb
            clear hk hb
            generalize YC.heap.size = ga at *
            generalize YC.alloc (.cells btZ.toArray 27) = YC at *
            refine hK.out _ _ (by rw [HSE.out]; exact HY.out) (fun hHeld => ?_); clear hK K; try simp only [Act.put, lsA, lsZ, lsS]
            refine rp 10 (h := fun K hK => ?_)
            refine skB.wp_put rfl (g := ga) (old := btZ) (A := A14) (btOk R HX1.out) btZ_ok rfl rfl HBA.out (fun YC hV hk => ?_)
            replace HBA := Lib.hid hV
            replace HBB := Lib.hid (hk.heap HBB.out (by have := HAB.out; simp; exact fun e => this e.symm))
            replace HX1 := Lib.hid (R.put HX1.out hk HF1A.out); replace HX2 := Lib.hid (R.put HX2.out hk HF2A.out)
            replace HY := Lib.hid (HY.out.trans hk (fun q hq => .inr (by simp at hq; have := HGA.out; omega)))
            clear hV hk
            refine hK.out _ _ (by rw [HSE.out]; exact HY.out) (fun hHeld => ?_); clear hK K; try simp only [Act.put, lsA, lsZ, lsS]
            refine rp 11 (h := fun K hK => ?_)
            refine skB.wp_put rfl (g := gb) (old := btZ) (A := A15) (btOk R HX2.out) btZ_ok rfl rfl HBB.out (fun YC hV hk => ?_)
            replace HBB := Lib.hid hV
            replace HBA := Lib.hid (hk.heap HBA.out (by have := HAB.out; simp; exact this))
            replace HX1 := Lib.hid (R.put HX1.out hk HF1B.out); replace HX2 := Lib.hid (R.put HX2.out hk HF2B.out)
            replace HY := Lib.hid (HY.out.trans hk (fun q hq => .inr (by simp at hq; have := HGB.out; omega)))
            clear hV hk
            refine hK.out _ _ (by rw [HSE.out]; exact HY.out) (fun hHeld => ?_); clear hK K; try simp only [Act.put, lsA, lsZ, lsS]
            refine wpAnyH_done (by kernel_rfl) ?_ _
            refine NoPanic.normal ?_
            exact ⟨rfl, ga, gb, [_, _, _, _, _, _, _, _], rfl, A14, A15, HBA.out, HBB.out, HX1.out, HX2.out, HY.out⟩
          apply AllReadyH.cons
          · simp only [List.getElem?_toArray]; rfl
          · intro K hK
            rw [if_pos (by rfl)]
            refine wp_allocBt rfl ?_
            have hk : Keeps [] YC (YC.alloc (.cells btZ.toArray 27)) := (Keeps.refl _ _).alloc _
            have hb := heap_alloc_new YC (.cells btZ.toArray 27)
            try have HF1A := Lib.hid (show ∀ q ∈ R.foot (.agg A14.toArray), q ≠ YC.heap.size from fun q hq => Nat.ne_of_lt (R.old HX1.out q hq))
            try have HF2A := Lib.hid (show ∀ q ∈ R.foot (.agg A15.toArray), q ≠ YC.heap.size from fun q hq => Nat.ne_of_lt (R.old HX2.out q hq))
            try have HAB := Lib.hid (show YC.heap.size ≠ gb from Nat.ne_of_gt (lt_of_block HBB.out))
            have HGA := Lib.hid HY.out.size
            try replace HBA := Lib.hid (hk.heap HBA.out (by simp))
            try replace HBB := Lib.hid (hk.heap HBB.out (by simp))
            try replace HX1 := Lib.hid (R.new HX1.out hk)
            try replace HX2 := Lib.hid (R.new HX2.out hk)
            replace HY := Lib.hid (HY.out.trans hk (FSub.refl _ _))
            have HBA := Lib.hid hb
            clear hk hb
            generalize YC.heap.size = ga at *
            generalize YC.alloc (.cells btZ.toArray 27) = YC at *
            refine hK.out _ _ (by rw [HSE.out]; exact HY.out) (fun hHeld => ?_); clear hK K; try simp only [Act.put, lsA, lsZ, lsS]
            apply wpAnyH_ready (rs := [7, 9])
            · kernel_rfl
            · simp
            apply AllReadyH.cons
            · simp only [List.getElem?_toArray]; rfl
            · intro K hK
              rw [if_pos (by rfl)]
              refine wp_call9 26 _ _ rfl [.agg A7.toArray, .int .i64 x0] rfl Tryd.func26 (by kernel_rfl) (by kernel_rfl) ((HA2.out _ HY.out).mono ?_)
              rintro e YC ⟨sq, rfl, hat, hk, hfo⟩
              refine ⟨_, rfl, ?_⟩
              obtain ⟨A15, rfl, -⟩ := R.cells hat
              try have HF2A := Lib.hid (show ∀ q ∈ R.foot (.agg A15.toArray), q ≠ ga from fun q hq => by
                rcases hfo q hq with h | h
                · have h1 := HOL7.out q h; have h2 := HGA.out; omega
                · have := lt_of_block HBA.out; omega)
              try have HF2B := Lib.hid (show ∀ q ∈ R.foot (.agg A15.toArray), q ≠ gb from fun q hq => by
                rcases hfo q hq with h | h
                · have h1 := HOL7.out q h; have h2 := HGB.out; omega
                · have := lt_of_block HBB.out; omega)
              try replace HBA := Lib.hid (hk.heap HBA.out (by simp))
              try replace HBB := Lib.hid (hk.heap HBB.out (by simp))
              try replace HX1 := Lib.hid (R.new HX1.out hk)
              try replace HX2 := Lib.hid (R.new HX2.out hk)
              replace HY := Lib.hid (HY.out.trans hk (FSub.refl _ _))
              have HX2 := Lib.hid hat
              clear hat hk hfo
              refine hK.out _ _ (by rw [HSE.out]; exact HY.out) (fun hHeld => ?_); clear hK K; try simp only [Act.put, lsA, lsZ, lsS]
              refine rp 9 (h := fun K hK => ?_)
              refine wp_allocBt rfl ?_
              have hk : Keeps [] YC (YC.alloc (.cells btZ.toArray 27)) := (Keeps.refl _ _).alloc _
              have hb := heap_alloc_new YC (.cells btZ.toArray 27)
              try have HF1B := Lib.hid (show ∀ q ∈ R.foot (.agg A14.toArray), q ≠ YC.heap.size from fun q hq => Nat.ne_of_lt (R.old HX1.out q hq))
              try have HF2B := Lib.hid (show ∀ q ∈ R.foot (.agg A15.toArray), q ≠ YC.heap.size from fun q hq => Nat.ne_of_lt (R.old HX2.out q hq))
              try have HAB := Lib.hid (show ga ≠ YC.heap.size from Nat.ne_of_lt (lt_of_block HBA.out))
              have HGB := Lib.hid HY.out.size
              try replace HBA := Lib.hid (hk.heap HBA.out (by simp))
              try replace HBB := Lib.hid (hk.heap HBB.out (by simp))
              try replace HX1 := Lib.hid (R.new HX1.out hk)
              try replace HX2 := Lib.hid (R.new HX2.out hk)
              replace HY := Lib.hid (HY.out.trans hk (FSub.refl _ _))
              have HBB := Lib.hid hb
              clear hk hb
              generalize YC.heap.size = gb at *
              generalize YC.alloc (.cells btZ.toArray 27) = YC at *
              refine hK.out _ _ (by rw [HSE.out]; exact HY.out) (fun hHeld => ?_); clear hK K; try simp only [Act.put, lsA, lsZ, lsS]
              refine rp 10 (h := fun K hK => ?_)
              refine skB.wp_put rfl (g := ga) (old := btZ) (A := A14) (btOk R HX1.out) btZ_ok rfl rfl HBA.out (fun YC hV hk => ?_)
              replace HBA := Lib.hid hV
              replace HBB := Lib.hid (hk.heap HBB.out (by have := HAB.out; simp; exact fun e => this e.symm))
              replace HX1 := Lib.hid (R.put HX1.out hk HF1A.out); replace HX2 := Lib.hid (R.put HX2.out hk HF2A.out)
              replace HY := Lib.hid (HY.out.trans hk (fun q hq => .inr (by simp at hq; have := HGA.out; omega)))
              clear hV hk
              refine hK.out _ _ (by rw [HSE.out]; exact HY.out) (fun hHeld => ?_); clear hK K; try simp only [Act.put, lsA, lsZ, lsS]
              refine rp 11 (h := fun K hK => ?_)
              refine skB.wp_put rfl (g := gb) (old := btZ) (A := A15) (btOk R HX2.out) btZ_ok rfl rfl HBB.out (fun YC hV hk => ?_)
              replace HBB := Lib.hid hV
              replace HBA := Lib.hid (hk.heap HBA.out (by have := HAB.out; simp; exact this))
              replace HX1 := Lib.hid (R.put HX1.out hk HF1B.out); replace HX2 := Lib.hid (R.put HX2.out hk HF2B.out)
              replace HY := Lib.hid (HY.out.trans hk (fun q hq => .inr (by simp at hq; have := HGB.out; omega)))
              clear hV hk
              refine hK.out _ _ (by rw [HSE.out]; exact HY.out) (fun hHeld => ?_); clear hK K; try simp only [Act.put, lsA, lsZ, lsS]
              refine wpAnyH_done (by kernel_rfl) ?_ _
              refine NoPanic.normal ?_
              exact ⟨rfl, ga, gb, [_, _, _, _, _, _, _, _], rfl, A14, A15, HBA.out, HBB.out, HX1.out, HX2.out, HY.out⟩
            apply AllReadyH.cons (hs := AllReadyH.nil)
            · simp only [List.getElem?_toArray]; rfl
            intro K hK
            rw [if_pos (by rfl)]
            refine wp_allocBt rfl ?_
            have hk : Keeps [] YC (YC.alloc (.cells btZ.toArray 27)) := (Keeps.refl _ _).alloc _
            have hb := heap_alloc_new YC (.cells btZ.toArray 27)
            try have HF1B := Lib.hid (show ∀ q ∈ R.foot (.agg A14.toArray), q ≠ YC.heap.size from fun q hq => Nat.ne_of_lt (R.old HX1.out q hq))
            try have HF2B := Lib.hid (show ∀ q ∈ R.foot (.agg A15.toArray), q ≠ YC.heap.size from fun q hq => Nat.ne_of_lt (R.old HX2.out q hq))
            try have HAB := Lib.hid (show ga ≠ YC.heap.size from Nat.ne_of_lt (lt_of_block HBA.out))
            have HGB := Lib.hid HY.out.size
            try replace HBA := Lib.hid (hk.heap HBA.out (by simp))
            try replace HBB := Lib.hid (hk.heap HBB.out (by simp))
            try replace HX1 := Lib.hid (R.new HX1.out hk)
            try replace HX2 := Lib.hid (R.new HX2.out hk)
            replace HY := Lib.hid (HY.out.trans hk (FSub.refl _ _))
            have HBB := Lib.hid hb
            clear hk hb
            generalize YC.heap.size = gb at *
            generalize YC.alloc (.cells btZ.toArray 27) = YC at *
            refine hK.out _ _ (by rw [HSE.out]; exact HY.out) (fun hHeld => ?_); clear hK K; try simp only [Act.put, lsA, lsZ, lsS]
            refine rp 7 (h := fun K hK => ?_)
            refine wp_call9 26 _ _ rfl [.agg A7.toArray, .int .i64 x0] rfl Tryd.func26 (by kernel_rfl) (by kernel_rfl) ((HA2.out _ HY.out).mono ?_)
            rintro e YC ⟨sq, rfl, hat, hk, hfo⟩
            refine ⟨_, rfl, ?_⟩
            obtain ⟨A15, rfl, -⟩ := R.cells hat
            try have HF2A := Lib.hid (show ∀ q ∈ R.foot (.agg A15.toArray), q ≠ ga from fun q hq => by
              rcases hfo q hq with h | h
              · have h1 := HOL7.out q h; have h2 := HGA.out; omega
              · have := lt_of_block HBA.out; omega)
            try have HF2B := Lib.hid (show ∀ q ∈ R.foot (.agg A15.toArray), q ≠ gb from fun q hq => by
              rcases hfo q hq with h | h
              · have h1 := HOL7.out q h; have h2 := HGB.out; omega
              · have := lt_of_block HBB.out; omega)
            try replace HBA := Lib.hid (hk.heap HBA.out (by simp))
            try replace HBB := Lib.hid (hk.heap HBB.out (by simp))
            try replace HX1 := Lib.hid (R.new HX1.out hk)
            try replace HX2 := Lib.hid (R.new HX2.out hk)
            replace HY := Lib.hid (HY.out.trans hk (FSub.refl _ _))
            have HX2 := Lib.hid hat
            clear hat hk hfo
            refine hK.out _ _ (by rw [HSE.out]; exact HY.out) (fun hHeld => ?_); clear hK K; try simp only [Act.put, lsA, lsZ, lsS]
            refine rp 10 (h := fun K hK => ?_)
            refine skB.wp_put rfl (g := ga) (old := btZ) (A := A14) (btOk R HX1.out) btZ_ok rfl rfl HBA.out (fun YC hV hk => ?_)
            replace HBA := Lib.hid hV
            replace HBB := Lib.hid (hk.heap HBB.out (by have := HAB.out; simp; exact fun e => this e.symm))
            replace HX1 := Lib.hid (R.put HX1.out hk HF1A.out); replace HX2 := Lib.hid (R.put HX2.out hk HF2A.out)
            replace HY := Lib.hid (HY.out.trans hk (fun q hq => .inr (by simp at hq; have := HGA.out; omega)))
            clear hV hk
            refine hK.out _ _ (by rw [HSE.out]; exact HY.out) (fun hHeld => ?_); clear hK K; try simp only [Act.put, lsA, lsZ, lsS]
            refine rp 11 (h := fun K hK => ?_)
            refine skB.wp_put rfl (g := gb) (old := btZ) (A := A15) (btOk R HX2.out) btZ_ok rfl rfl HBB.out (fun YC hV hk => ?_)
            replace HBB := Lib.hid hV
            replace HBA := Lib.hid (hk.heap HBA.out (by have := HAB.out; simp; exact this))
            replace HX1 := Lib.hid (R.put HX1.out hk HF1B.out); replace HX2 := Lib.hid (R.put HX2.out hk HF2B.out)
            replace HY := Lib.hid (HY.out.trans hk (fun q hq => .inr (by simp at hq; have := HGB.out; omega)))
            clear hV hk
            refine hK.out _ _ (by rw [HSE.out]; exact HY.out) (fun hHeld => ?_); clear hK K; try simp only [Act.put, lsA, lsZ, lsS]
            refine wpAnyH_done (by kernel_rfl) ?_ _
            refine NoPanic.normal ?_
            exact ⟨rfl, ga, gb, [_, _, _, _, _, _, _, _], rfl, A14, A15, HBA.out, HBB.out, HX1.out, HX2.out, HY.out⟩
          apply AllReadyH.cons (hs := AllReadyH.nil)
          · simp only [List.getElem?_toArray]; rfl
          intro K hK
          rw [if_pos (by rfl)]
          refine wp_allocBt rfl ?_
          have hk : Keeps [] YC (YC.alloc (.cells btZ.toArray 27)) := (Keeps.refl _ _).alloc _
          have hb := heap_alloc_new YC (.cells btZ.toArray 27)
          try have HF1B := Lib.hid (show ∀ q ∈ R.foot (.agg A14.toArray), q ≠ YC.heap.size from fun q hq => Nat.ne_of_lt (R.old HX1.out q hq))
          try have HF2B := Lib.hid (show ∀ q ∈ R.foot (.agg A15.toArray), q ≠ YC.heap.size from fun q hq => Nat.ne_of_lt (R.old HX2.out q hq))
          try have HAB := Lib.hid (show ga ≠ YC.heap.size from Nat.ne_of_lt (lt_of_block HBA.out))
          have HGB := Lib.hid HY.out.size
          try replace HBA := Lib.hid (hk.heap HBA.out (by simp))
          try replace HBB := Lib.hid (hk.heap HBB.out (by simp))
          try replace HX1 := Lib.hid (R.new HX1.out hk)
          try replace HX2 := Lib.hid (R.new HX2.out hk)
          replace HY := Lib.hid (HY.out.trans hk (FSub.refl _ _))
          have HBB := Lib.hid hb
          clear hk hb
          generalize YC.heap.size = gb at *
          generalize YC.alloc (.cells btZ.toArray 27) = YC at *
          refine hK.out _ _ (by rw [HSE.out]; exact HY.out) (fun hHeld => ?_); clear hK K; try simp only [Act.put, lsA, lsZ, lsS]
          apply wpAnyH_ready (rs := [7, 8])
          · kernel_rfl
          · simp
          apply AllReadyH.cons
          · simp only [List.getElem?_toArray]; rfl
          · intro K hK
            rw [if_pos (by rfl)]
            refine wp_call9 26 _ _ rfl [.agg A7.toArray, .int .i64 x0] rfl Tryd.func26 (by kernel_rfl) (by kernel_rfl) ((HA2.out _ HY.out).mono ?_)
            rintro e YC ⟨sq, rfl, hat, hk, hfo⟩
            refine ⟨_, rfl, ?_⟩
            obtain ⟨A15, rfl, -⟩ := R.cells hat
            try have HF2A := Lib.hid (show ∀ q ∈ R.foot (.agg A15.toArray), q ≠ ga from fun q hq => by
              rcases hfo q hq with h | h
              · have h1 := HOL7.out q h; have h2 := HGA.out; omega
              · have := lt_of_block HBA.out; omega)
            try have HF2B := Lib.hid (show ∀ q ∈ R.foot (.agg A15.toArray), q ≠ gb from fun q hq => by
              rcases hfo q hq with h | h
              · have h1 := HOL7.out q h; have h2 := HGB.out; omega
              · have := lt_of_block HBB.out; omega)
            try replace HBA := Lib.hid (hk.heap HBA.out (by simp))
            try replace HBB := Lib.hid (hk.heap HBB.out (by simp))
            try replace HX1 := Lib.hid (R.new HX1.out hk)
            try replace HX2 := Lib.hid (R.new HX2.out hk)
            replace HY := Lib.hid (HY.out.trans hk (FSub.refl _ _))
            have HX2 := Lib.hid hat
            clear hat hk hfo
            refine hK.out _ _ (by rw [HSE.out]; exact HY.out) (fun hHeld => ?_); clear hK K; try simp only [Act.put, lsA, lsZ, lsS]
            refine rp 8 (h := fun K hK => ?_)
            refine wp_allocBt rfl ?_
            have hk : Keeps [] YC (YC.alloc (.cells btZ.toArray 27)) := (Keeps.refl _ _).alloc _
            have hb := heap_alloc_new YC (.cells btZ.toArray 27)
            try have HF1A := Lib.hid (show ∀ q ∈ R.foot (.agg A14.toArray), q ≠ YC.heap.size from fun q hq => Nat.ne_of_lt (R.old HX1.out q hq))
            try have HF2A := Lib.hid (show ∀ q ∈ R.foot (.agg A15.toArray), q ≠ YC.heap.size from fun q hq => Nat.ne_of_lt (R.old HX2.out q hq))
            try have HAB := Lib.hid (show YC.heap.size ≠ gb from Nat.ne_of_gt (lt_of_block HBB.out))
            have HGA := Lib.hid HY.out.size
            try replace HBA := Lib.hid (hk.heap HBA.out (by simp))
            try replace HBB := Lib.hid (hk.heap HBB.out (by simp))
            try replace HX1 := Lib.hid (R.new HX1.out hk)
            try replace HX2 := Lib.hid (R.new HX2.out hk)
            replace HY := Lib.hid (HY.out.trans hk (FSub.refl _ _))
            have HBA := Lib.hid hb
            clear hk hb
            generalize YC.heap.size = ga at *
            generalize YC.alloc (.cells btZ.toArray 27) = YC at *
            refine hK.out _ _ (by rw [HSE.out]; exact HY.out) (fun hHeld => ?_); clear hK K; try simp only [Act.put, lsA, lsZ, lsS]
            refine rp 10 (h := fun K hK => ?_)
            refine skB.wp_put rfl (g := ga) (old := btZ) (A := A14) (btOk R HX1.out) btZ_ok rfl rfl HBA.out (fun YC hV hk => ?_)
            replace HBA := Lib.hid hV
            replace HBB := Lib.hid (hk.heap HBB.out (by have := HAB.out; simp; exact fun e => this e.symm))
            replace HX1 := Lib.hid (R.put HX1.out hk HF1A.out); replace HX2 := Lib.hid (R.put HX2.out hk HF2A.out)
            replace HY := Lib.hid (HY.out.trans hk (fun q hq => .inr (by simp at hq; have := HGA.out; omega)))
            clear hV hk
            refine hK.out _ _ (by rw [HSE.out]; exact HY.out) (fun hHeld => ?_); clear hK K; try simp only [Act.put, lsA, lsZ, lsS]
            refine rp 11 (h := fun K hK => ?_)
            refine skB.wp_put rfl (g := gb) (old := btZ) (A := A15) (btOk R HX2.out) btZ_ok rfl rfl HBB.out (fun YC hV hk => ?_)
            replace HBB := Lib.hid hV
            replace HBA := Lib.hid (hk.heap HBA.out (by have := HAB.out; simp; exact this))
            replace HX1 := Lib.hid (R.put HX1.out hk HF1B.out); replace HX2 := Lib.hid (R.put HX2.out hk HF2B.out)
            replace HY := Lib.hid (HY.out.trans hk (fun q hq => .inr (by simp at hq; have := HGB.out; omega)))
            clear hV hk
            refine hK.out _ _ (by rw [HSE.out]; exact HY.out) (fun hHeld => ?_); clear hK K; try simp only [Act.put, lsA, lsZ, lsS]
            refine wpAnyH_done (by kernel_rfl) ?_ _
            refine NoPanic.normal ?_
            exact ⟨rfl, ga, gb, [_, _, _, _, _, _, _, _], rfl, A14, A15, HBA.out, HBB.out, HX1.out, HX2.out, HY.out⟩
          apply AllReadyH.cons (hs := AllReadyH.nil)
          · simp only [List.getElem?_toArray]; rfl
          intro K hK
          rw [if_pos (by rfl)]
          refine wp_allocBt rfl ?_
          have hk : Keeps [] YC (YC.alloc (.cells btZ.toArray 27)) := (Keeps.refl _ _).alloc _
          have hb := heap_alloc_new YC (.cells btZ.toArray 27)
          try have HF1A := Lib.hid (show ∀ q ∈ R.foot (.agg A14.toArray), q ≠ YC.heap.size from fun q hq => Nat.ne_of_lt (R.old HX1.out q hq))
          try have HF2A := Lib.hid (show ∀ q ∈ R.foot (.agg A15.toArray), q ≠ YC.heap.size from fun q hq => Nat.ne_of_lt (R.old HX2.out q hq))
          try have HAB := Lib.hid (show YC.heap.size ≠ gb from Nat.ne_of_gt (lt_of_block HBB.out))
          have HGA := Lib.hid HY.out.size
          try replace HBA := Lib.hid (hk.heap HBA.out (by simp))
          try replace HBB := Lib.hid (hk.heap HBB.out (by simp))
          try replace HX1 := Lib.hid (R.new HX1.out hk)
          try replace HX2 := Lib.hid (R.new HX2.out hk)
          replace HY := Lib.hid (HY.out.trans hk (FSub.refl _ _))
          have HBA := Lib.hid hb
          clear hk hb
          generalize YC.heap.size = ga at *
          generalize YC.alloc (.cells btZ.toArray 27) = YC at *
          refine hK.out _ _ (by rw [HSE.out]; exact HY.out) (fun hHeld => ?_); clear hK K; try simp only [Act.put, lsA, lsZ, lsS]
          refine rp 7 (h := fun K hK => ?_)
          refine wp_call9 26 _ _ rfl [.agg A7.toArray, .int .i64 x0] rfl Tryd.func26 (by kernel_rfl) (by kernel_rfl) ((HA2.out _ HY.out).mono ?_)
          rintro e YC ⟨sq, rfl, hat, hk, hfo⟩
          refine ⟨_, rfl, ?_⟩
          obtain ⟨A15, rfl, -⟩ := R.cells hat
          try have HF2A := Lib.hid (show ∀ q ∈ R.foot (.agg A15.toArray), q ≠ ga from fun q hq => by
            rcases hfo q hq with h | h
            · have h1 := HOL7.out q h; have h2 := HGA.out; omega
            · have := lt_of_block HBA.out; omega)
          try have HF2B := Lib.hid (show ∀ q ∈ R.foot (.agg A15.toArray), q ≠ gb from fun q hq => by
            rcases hfo q hq with h | h
            · have h1 := HOL7.out q h; have h2 := HGB.out; omega
            · have := lt_of_block HBB.out; omega)
          try replace HBA := Lib.hid (hk.heap HBA.out (by simp))
          try replace HBB := Lib.hid (hk.heap HBB.out (by simp))
          try replace HX1 := Lib.hid (R.new HX1.out hk)
          try replace HX2 := Lib.hid (R.new HX2.out hk)
          replace HY := Lib.hid (HY.out.trans hk (FSub.refl _ _))
          have HX2 := Lib.hid hat
          clear hat hk hfo
          refine hK.out _ _ (by rw [HSE.out]; exact HY.out) (fun hHeld => ?_); clear hK K; try simp only [Act.put, lsA, lsZ, lsS]
          refine rp 10 (h := fun K hK => ?_)
          refine skB.wp_put rfl (g := ga) (old := btZ) (A := A14) (btOk R HX1.out) btZ_ok rfl rfl HBA.out (fun YC hV hk => ?_)
          replace HBA := Lib.hid hV
          replace HBB := Lib.hid (hk.heap HBB.out (by have := HAB.out; simp; exact fun e => this e.symm))
          replace HX1 := Lib.hid (R.put HX1.out hk HF1A.out); replace HX2 := Lib.hid (R.put HX2.out hk HF2A.out)
          replace HY := Lib.hid (HY.out.trans hk (fun q hq => .inr (by simp at hq; have := HGA.out; omega)))
          clear hV hk
          refine hK.out _ _ (by rw [HSE.out]; exact HY.out) (fun hHeld => ?_); clear hK K; try simp only [Act.put, lsA, lsZ, lsS]
          refine rp 11 (h := fun K hK => ?_)
          refine skB.wp_put rfl (g := gb) (old := btZ) (A := A15) (btOk R HX2.out) btZ_ok rfl rfl HBB.out (fun YC hV hk => ?_)
          replace HBB := Lib.hid hV
          replace HBA := Lib.hid (hk.heap HBA.out (by have := HAB.out; simp; exact this))
          replace HX1 := Lib.hid (R.put HX1.out hk HF1B.out); replace HX2 := Lib.hid (R.put HX2.out hk HF2B.out)
          replace HY := Lib.hid (HY.out.trans hk (fun q hq => .inr (by simp at hq; have := HGB.out; omega)))
          clear hV hk
          refine hK.out _ _ (by rw [HSE.out]; exact HY.out) (fun hHeld => ?_); clear hK K; try simp only [Act.put, lsA, lsZ, lsS]
          refine wpAnyH_done (by kernel_rfl) ?_ _
          refine NoPanic.normal ?_
          exact ⟨rfl, ga, gb, [_, _, _, _, _, _, _, _], rfl, A14, A15, HBA.out, HBB.out, HX1.out, HX2.out, HY.out⟩
        apply AllReadyH.cons
        · simp only [List.getElem?_toArray]; rfl
        · intro K hK
          rw [if_pos (by rfl)]
          refine wp_allocBt rfl ?_
          have hk : Keeps [] YC (YC.alloc (.cells btZ.toArray 27)) := (Keeps.refl _ _).alloc _
          have hb := heap_alloc_new YC (.cells btZ.toArray 27)
          try have HF1A := Lib.hid (show ∀ q ∈ R.foot (.agg A14.toArray), q ≠ YC.heap.size from fun q hq => Nat.ne_of_lt (R.old HX1.out q hq))
          try have HF2A := Lib.hid (show ∀ q ∈ R.foot (.agg A15.toArray), q ≠ YC.heap.size from fun q hq => Nat.ne_of_lt (R.old HX2.out q hq))
          try have HAB := Lib.hid (show YC.heap.size ≠ gb from Nat.ne_of_gt (lt_of_block HBB.out))
          have HGA := Lib.hid HY.out.size
          try replace HBA := Lib.hid (hk.heap HBA.out (by simp))
          try replace HBB := Lib.hid (hk.heap HBB.out (by simp))
          try replace HX1 := Lib.hid (R.new HX1.out hk)
          try replace HX2 := Lib.hid (R.new HX2.out hk)
          replace HY := Lib.hid (HY.out.trans hk (FSub.refl _ _))
          have HBA := Lib.hid hb
          clear hk hb
          generalize YC.heap.size = ga at *
          generalize YC.alloc (.cells btZ.toArray 27) = YC at *
          refine hK.out _ _ (by rw [HSE.out]; exact HY.out) (fun hHeld => ?_); clear hK K; try simp only [Act.put, lsA, lsZ, lsS]
          apply wpAnyH_ready (rs := [3, 9])
          · kernel_rfl
          · simp
          apply AllReadyH.cons
          · simp only [List.getElem?_toArray]; rfl
          · intro K hK
            rw [if_pos (by rfl)]
            refine wp_call9 25 _ _ rfl [.agg A7.toArray, .int .i64 x0] rfl Tryd.func25 (by kernel_rfl) (by kernel_rfl) ((HA1.out _ HY.out).mono ?_)
            rintro e YC ⟨sq, rfl, hat, hk, hfo⟩
            refine ⟨_, rfl, ?_⟩
            obtain ⟨A14, rfl, -⟩ := R.cells hat
            try have HF1A := Lib.hid (show ∀ q ∈ R.foot (.agg A14.toArray), q ≠ ga from fun q hq => by
              rcases hfo q hq with h | h
              · have h1 := HOL7.out q h; have h2 := HGA.out; omega
              · have := lt_of_block HBA.out; omega)
            try have HF1B := Lib.hid (show ∀ q ∈ R.foot (.agg A14.toArray), q ≠ gb from fun q hq => by
              rcases hfo q hq with h | h
              · have h1 := HOL7.out q h; have h2 := HGB.out; omega
              · have := lt_of_block HBB.out; omega)
            try replace HBA := Lib.hid (hk.heap HBA.out (by simp))
            try replace HBB := Lib.hid (hk.heap HBB.out (by simp))
            try replace HX1 := Lib.hid (R.new HX1.out hk)
            try replace HX2 := Lib.hid (R.new HX2.out hk)
            replace HY := Lib.hid (HY.out.trans hk (FSub.refl _ _))
            have HX1 := Lib.hid hat
            clear hat hk hfo
            refine hK.out _ _ (by rw [HSE.out]; exact HY.out) (fun hHeld => ?_); clear hK K; try simp only [Act.put, lsA, lsZ, lsS]
            apply wpAnyH_ready (rs := [7, 9])
            · kernel_rfl
            · simp
            apply AllReadyH.cons
            · simp only [List.getElem?_toArray]; rfl
            · intro K hK
              rw [if_pos (by rfl)]
              refine wp_call9 26 _ _ rfl [.agg A7.toArray, .int .i64 x0] rfl Tryd.func26 (by kernel_rfl) (by kernel_rfl) ((HA2.out _ HY.out).mono ?_)
              rintro e YC ⟨sq, rfl, hat, hk, hfo⟩
              refine ⟨_, rfl, ?_⟩
              obtain ⟨A15, rfl, -⟩ := R.cells hat
              try have HF2A := Lib.hid (show ∀ q ∈ R.foot (.agg A15.toArray), q ≠ ga from fun q hq => by
                rcases hfo q hq with h | h
                · have h1 := HOL7.out q h; have h2 := HGA.out; omega
                · have := lt_of_block HBA.out; omega)
              try have HF2B := Lib.hid (show ∀ q ∈ R.foot (.agg A15.toArray), q ≠ gb from fun q hq => by
                rcases hfo q hq with h | h
                · have h1 := HOL7.out q h; have h2 := HGB.out; omega
                · have := lt_of_block HBB.out; omega)
              try replace HBA := Lib.hid (hk.heap HBA.out (by simp))
              try replace HBB := Lib.hid (hk.heap HBB.out (by simp))
              try replace HX1 := Lib.hid (R.new HX1.out hk)
              try replace HX2 := Lib.hid (R.new HX2.out hk)
              replace HY := Lib.hid (HY.out.trans hk (FSub.refl _ _))
              have HX2 := Lib.hid hat
              clear hat hk hfo
              refine hK.out _ _ (by rw [HSE.out]; exact HY.out) (fun hHeld => ?_); clear hK K; try simp only [Act.put, lsA, lsZ, lsS]
              refine rp 9 (h := fun K hK => ?_)
              refine wp_allocBt rfl ?_
              have hk : Keeps [] YC (YC.alloc (.cells btZ.toArray 27)) := (Keeps.refl _ _).alloc _
              have hb := heap_alloc_new YC (.cells btZ.toArray 27)
              try have HF1B := Lib.hid (show ∀ q ∈ R.foot (.agg A14.toArray), q ≠ YC.heap.size from fun q hq => Nat.ne_of_lt (R.old HX1.out q hq))
              try have HF2B := Lib.hid (show ∀ q ∈ R.foot (.agg A15.toArray), q ≠ YC.heap.size from fun q hq => Nat.ne_of_lt (R.old HX2.out q hq))
              try have HAB := Lib.hid (show ga ≠ YC.heap.size from Nat.ne_of_lt (lt_of_block HBA.out))
              have HGB := Lib.hid HY.out.size
              try replace HBA := Lib.hid (hk.heap HBA.out (by simp))
              try replace HBB := Lib.hid (hk.heap HBB.out (by simp))
              try replace HX1 := Lib.hid (R.new HX1.out hk)
              try replace HX2 := Lib.hid (R.new HX2.out hk)
              replace HY := Lib.hid (HY.out.trans hk (FSub.refl _ _))
              have HBB := Lib.hid hb
              clear hk hb
              generalize YC.heap.size = gb at *
              generalize YC.alloc (.cells btZ.toArray 27) = YC at *
              refine hK.out _ _ (by rw [HSE.out]; exact HY.out) (fun hHeld => ?_); clear hK K; try simp only [Act.put, lsA, lsZ, lsS]
              refine rp 10 (h := fun K hK => ?_)
              refine skB.wp_put rfl (g := ga) (old := btZ) (A := A14) (btOk R HX1.out) btZ_ok rfl rfl HBA.out (fun YC hV hk => ?_)
              replace HBA := Lib.hid hV
              replace HBB := Lib.hid (hk.heap HBB.out (by have := HAB.out; simp; exact fun e => this e.symm))
              replace HX1 := Lib.hid (R.put HX1.out hk HF1A.out); replace HX2 := Lib.hid (R.put HX2.out hk HF2A.out)
              replace HY := Lib.hid (HY.out.trans hk (fun q hq => .inr (by simp at hq; have := HGA.out; omega)))
              clear hV hk
              refine hK.out _ _ (by rw [HSE.out]; exact HY.out) (fun hHeld => ?_); clear hK K; try simp only [Act.put, lsA, lsZ, lsS]
              refine rp 11 (h := fun K hK => ?_)
              refine skB.wp_put rfl (g := gb) (old := btZ) (A := A15) (btOk R HX2.out) btZ_ok rfl rfl HBB.out (fun YC hV hk => ?_)
              replace HBB := Lib.hid hV
              replace HBA := Lib.hid (hk.heap HBA.out (by have := HAB.out; simp; exact this))
              replace HX1 := Lib.hid (R.put HX1.out hk HF1B.out); replace HX2 := Lib.hid (R.put HX2.out hk HF2B.out)
              replace HY := Lib.hid (HY.out.trans hk (fun q hq => .inr (by simp at hq; have := HGB.out; omega)))
              clear hV hk
              refine hK.out _ _ (by rw [HSE.out]; exact HY.out) (fun hHeld => ?_); clear hK K; try simp only [Act.put, lsA, lsZ, lsS]
              refine wpAnyH_done (by kernel_rfl) ?_ _
              refine NoPanic.normal ?_
              exact ⟨rfl, ga, gb, [_, _, _, _, _, _, _, _], rfl, A14, A15, HBA.out, HBB.out, HX1.out, HX2.out, HY.out⟩
            apply AllReadyH.cons (hs := AllReadyH.nil)
            · simp only [List.getElem?_toArray]; rfl
            intro K hK
            rw [if_pos (by rfl)]
            refine wp_allocBt rfl ?_
            have hk : Keeps [] YC (YC.alloc (.cells btZ.toArray 27)) := (Keeps.refl _ _).alloc _
            have hb := heap_alloc_new YC (.cells btZ.toArray 27)
            try have HF1B := Lib.hid (show ∀ q ∈ R.foot (.agg A14.toArray), q ≠ YC.heap.size from fun q hq => Nat.ne_of_lt (R.old HX1.out q hq))
            try have HF2B := Lib.hid (show ∀ q ∈ R.foot (.agg A15.toArray), q ≠ YC.heap.size from fun q hq => Nat.ne_of_lt (R.old HX2.out q hq))
            try have HAB := Lib.hid (show ga ≠ YC.heap.size from Nat.ne_of_lt (lt_of_block HBA.out))
            have HGB := Lib.hid HY.out.size
            try replace HBA := Lib.hid (hk.heap HBA.out (by simp))
            try replace HBB := Lib.hid (hk.heap HBB.out (by simp))
            try replace HX1 := Lib.hid (R.new HX1.out hk)
            try replace HX2 := Lib.hid (R.new HX2.out hk)
            replace HY := Lib.hid (HY.out.trans hk (FSub.refl _ _))
            have HBB := Lib.hid hb
            clear hk hb
            generalize YC.heap.size = gb at *
            generalize YC.alloc (.cells btZ.toArray 27) = YC at *
            refine hK.out _ _ (by rw [HSE.out]; exact HY.out) (fun hHeld => ?_); clear hK K; try simp only [Act.put, lsA, lsZ, lsS]
            refine rp 7 (h := fun K hK => ?_)
            refine wp_call9 26 _ _ rfl [.agg A7.toArray, .int .i64 x0] rfl Tryd.func26 (by kernel_rfl) (by kernel_rfl) ((HA2.out _ HY.out).mono ?_)
            rintro e YC ⟨sq, rfl, hat, hk, hfo⟩
            refine ⟨_, rfl, ?_⟩
            obtain ⟨A15, rfl, -⟩ := R.cells hat
            try have HF2A := Lib.hid (show ∀ q ∈ R.foot (.agg A15.toArray), q ≠ ga from fun q hq => by
              rcases hfo q hq with h | h
              · have h1 := HOL7.out q h; have h2 := HGA.out; omega
              · have := lt_of_block HBA.out; omega)
            try have HF2B := Lib.hid (show ∀ q ∈ R.foot (.agg A15.toArray), q ≠ gb from fun q hq => by
              rcases hfo q hq with h | h
              · have h1 := HOL7.out q h; have h2 := HGB.out; omega
              · have := lt_of_block HBB.out; omega)
            try replace HBA := Lib.hid (hk.heap HBA.out (by simp))
            try replace HBB := Lib.hid (hk.heap HBB.out (by simp))
            try replace HX1 := Lib.hid (R.new HX1.out hk)
            try replace HX2 := Lib.hid (R.new HX2.out hk)
            replace HY := Lib.hid (HY.out.trans hk (FSub.refl _ _))
            have HX2 := Lib.hid hat
            clear hat hk hfo
            refine hK.out _ _ (by rw [HSE.out]; exact HY.out) (fun hHeld => ?_); clear hK K; try simp only [Act.put, lsA, lsZ, lsS]
            refine rp 10 (h := fun K hK => ?_)
            refine skB.wp_put rfl (g := ga) (old := btZ) (A := A14) (btOk R HX1.out) btZ_ok rfl rfl HBA.out (fun YC hV hk => ?_)
            replace HBA := Lib.hid hV
            replace HBB := Lib.hid (hk.heap HBB.out (by have := HAB.out; simp; exact fun e => this e.symm))
            replace HX1 := Lib.hid (R.put HX1.out hk HF1A.out); replace HX2 := Lib.hid (R.put HX2.out hk HF2A.out)
            replace HY := Lib.hid (HY.out.trans hk (fun q hq => .inr (by simp at hq; have := HGA.out; omega)))
            clear hV hk
            refine hK.out _ _ (by rw [HSE.out]; exact HY.out) (fun hHeld => ?_); clear hK K; try simp only [Act.put, lsA, lsZ, lsS]
            refine rp 11 (h := fun K hK => ?_)
            refine skB.wp_put rfl (g := gb) (old := btZ) (A := A15) (btOk R HX2.out) btZ_ok rfl rfl HBB.out (fun YC hV hk => ?_)
            replace HBB := Lib.hid hV
            replace HBA := Lib.hid (hk.heap HBA.out (by have := HAB.out; simp; exact this))
            replace HX1 := Lib.hid (R.put HX1.out hk HF1B.out); replace HX2 := Lib.hid (R.put HX2.out hk HF2B.out)
            replace HY := Lib.hid (HY.out.trans hk (fun q hq => .inr (by simp at hq; have := HGB.out; omega)))
            clear hV hk
            refine hK.out _ _ (by rw [HSE.out]; exact HY.out) (fun hHeld => ?_); clear hK K; try simp only [Act.put, lsA, lsZ, lsS]
            refine wpAnyH_done (by kernel_rfl) ?_ _
            refine NoPanic.normal ?_
            exact ⟨rfl, ga, gb, [_, _, _, _, _, _, _, _], rfl, A14, A15, HBA.out, HBB.out, HX1.out, HX2.out, HY.out⟩
          apply AllReadyH.cons (hs := AllReadyH.nil)
          · simp only [List.getElem?_toArray]; rfl
          intro K hK
          rw [if_pos (by rfl)]
          refine wp_allocBt rfl ?_
          have hk : Keeps [] YC (YC.alloc (.cells btZ.toArray 27)) := (Keeps.refl _ _).alloc _
          have hb := heap_alloc_new YC (.cells btZ.toArray 27)
          try have HF1B := Lib.hid (show ∀ q ∈ R.foot (.agg A14.toArray), q ≠ YC.heap.size from fun q hq => Nat.ne_of_lt (R.old HX1.out q hq))
          try have HF2B := Lib.hid (show ∀ q ∈ R.foot (.agg A15.toArray), q ≠ YC.heap.size from fun q hq => Nat.ne_of_lt (R.old HX2.out q hq))
          try have HAB := Lib.hid (show ga ≠ YC.heap.size from Nat.ne_of_lt (lt_of_block HBA.out))
          have HGB := Lib.hid HY.out.size
          try replace HBA := Lib.hid (hk.heap HBA.out (by simp))
          try replace HBB := Lib.hid (hk.heap HBB.out (by simp))
          try replace HX1 := Lib.hid (R.new HX1.out hk)
          try replace HX2 := Lib.hid (R.new HX2.out hk)
          replace HY := Lib.hid (HY.out.trans hk (FSub.refl _ _))
          have HBB := Lib.hid hb
          clear hk hb
          generalize YC.heap.size = gb at *
          generalize YC.alloc (.cells btZ.toArray 27) = YC at *
          refine hK.out _ _ (by rw [HSE.out]; exact HY.out) (fun hHeld => ?_); clear hK K; try simp only [Act.put, lsA, lsZ, lsS]
          refine rp 3 (h := fun K hK => ?_)
          refine wp_call9 25 _ _ rfl [.agg A7.toArray, .int .i64 x0] rfl Tryd.func25 (by kernel_rfl) (by kernel_rfl) ((HA1.out _ HY.out).mono ?_)
          rintro e YC ⟨sq, rfl, hat, hk, hfo⟩
          refine ⟨_, rfl, ?_⟩
          obtain ⟨A14, rfl, -⟩ := R.cells hat
          try have HF1A := Lib.hid (show ∀ q ∈ R.foot (.agg A14.toArray), q ≠ ga from fun q hq => by
            rcases hfo q hq with h | h
            · have h1 := HOL7.out q h; have h2 := HGA.out; omega
            · have := lt_of_block HBA.out; omega)
          try have HF1B := Lib.hid (show ∀ q ∈ R.foot (.agg A14.toArray), q ≠ gb from fun q hq => by
            rcases hfo q hq with h | h
            · have h1 := HOL7.out q h; have h2 := HGB.out; omega
            · have := lt_of_block HBB.out; omega)
          try replace HBA := Lib.hid (hk.heap HBA.out (by simp))
          try replace HBB := Lib.hid (hk.heap HBB.out (by simp))
          try replace HX1 := Lib.hid (R.new HX1.out hk)
          try replace HX2 := Lib.hid (R.new HX2.out hk)
          replace HY := Lib.hid (HY.out.trans hk (FSub.refl _ _))
          have HX1 := Lib.hid hat
          clear hat hk hfo
          refine hK.out _ _ (by rw [HSE.out]; exact HY.out) (fun hHeld => ?_); clear hK K; try simp only [Act.put, lsA, lsZ, lsS]
          refine rp 7 (h := fun K hK => ?_)
          refine wp_call9 26 _ _ rfl [.agg A7.toArray, .int .i64 x0] rfl Tryd.func26 (by kernel_rfl) (by kernel_rfl) ((HA2.out _ HY.out).mono ?_)
          rintro e YC ⟨sq, rfl, hat, hk, hfo⟩
          refine ⟨_, rfl, ?_⟩
          obtain ⟨A15, rfl, -⟩ := R.cells hat
          try have HF2A := Lib.hid (show ∀ q ∈ R.foot (.agg A15.toArray), q ≠ ga from fun q hq => by
            rcases hfo q hq with h | h
            · have h1 := HOL7.out q h; have h2 := HGA.out; omega
            · have := lt_of_block HBA.out; omega)
          try have HF2B := Lib.hid (show ∀ q ∈ R.foot (.agg A15.toArray), q ≠ gb from fun q hq => by
            rcases hfo q hq with h | h
            · have h1 := HOL7.out q h; have h2 := HGB.out; omega
            · have := lt_of_block HBB.out; omega)
          try replace HBA := Lib.hid (hk.heap HBA.out (by simp))
          try replace HBB := Lib.hid (hk.heap HBB.out (by simp))
          try replace HX1 := Lib.hid (R.new HX1.out hk)
          try replace HX2 := Lib.hid (R.new HX2.out hk)
          replace HY := Lib.hid (HY.out.trans hk (FSub.refl _ _))
          have HX2 := Lib.hid hat
          clear hat hk hfo
          refine hK.out _ _ (by rw [HSE.out]; exact HY.out) (fun hHeld => ?_); clear hK K; try simp only [Act.put, lsA, lsZ, lsS]
          refine rp 10 (h := fun K hK => ?_)
          refine skB.wp_put rfl (g := ga) (old := btZ) (A := A14) (btOk R HX1.out) btZ_ok rfl rfl HBA.out (fun YC hV hk => ?_)
          replace HBA := Lib.hid hV
          replace HBB := Lib.hid (hk.heap HBB.out (by have := HAB.out; simp; exact fun e => this e.symm))
          replace HX1 := Lib.hid (R.put HX1.out hk HF1A.out); replace HX2 := Lib.hid (R.put HX2.out hk HF2A.out)
          replace HY := Lib.hid (HY.out.trans hk (fun q hq => .inr (by simp at hq; have := HGA.out; omega)))
          clear hV hk
          refine hK.out _ _ (by rw [HSE.out]; exact HY.out) (fun hHeld => ?_); clear hK K; try simp only [Act.put, lsA, lsZ, lsS]
          refine rp 11 (h := fun K hK => ?_)
          refine skB.wp_put rfl (g := gb) (old := btZ) (A := A15) (btOk R HX2.out) btZ_ok rfl rfl HBB.out (fun YC hV hk => ?_)
          replace HBB := Lib.hid hV
          replace HBA := Lib.hid (hk.heap HBA.out (by have := HAB.out; simp; exact this))
          replace HX1 := Lib.hid (R.put HX1.out hk HF1B.out); replace HX2 := Lib.hid (R.put HX2.out hk HF2B.out)
          replace HY := Lib.hid (HY.out.trans hk (fun q hq => .inr (by simp at hq; have := HGB.out; omega)))
          clear hV hk
          refine hK.out _ _ (by rw [HSE.out]; exact HY.out) (fun hHeld => ?_); clear hK K; try simp only [Act.put, lsA, lsZ, lsS]
          refine wpAnyH_done (by kernel_rfl) ?_ _
          refine NoPanic.normal ?_
          exact ⟨rfl, ga, gb, [_, _, _, _, _, _, _, _], rfl, A14, A15, HBA.out, HBB.out, HX1.out, HX2.out, HY.out⟩
        apply AllReadyH.cons (hs := AllReadyH.nil)
        · simp only [List.getElem?_toArray]; rfl
        intro K hK
        rw [if_pos (by rfl)]
        refine wp_allocBt rfl ?_
        have hk : Keeps [] YC (YC.alloc (.cells btZ.toArray 27)) := (Keeps.refl _ _).alloc _
        have hb := heap_alloc_new YC (.cells btZ.toArray 27)
        try have HF1B := Lib.hid (show ∀ q ∈ R.foot (.agg A14.toArray), q ≠ YC.heap.size from fun q hq => Nat.ne_of_lt (R.old HX1.out q hq))
        try have HF2B := Lib.hid (show ∀ q ∈ R.foot (.agg A15.toArray), q ≠ YC.heap.size from fun q hq => Nat.ne_of_lt (R.old HX2.out q hq))
        try have HAB := Lib.hid (show ga ≠ YC.heap.size from Nat.ne_of_lt (lt_of_block HBA.out))
        have HGB := Lib.hid HY.out.size
        try replace HBA := Lib.hid (hk.heap HBA.out (by simp))
        try replace HBB := Lib.hid (hk.heap HBB.out (by simp))
        try replace HX1 := Lib.hid (R.new HX1.out hk)
        try replace HX2 := Lib.hid (R.new HX2.out hk)
        replace HY := Lib.hid (HY.out.trans hk (FSub.refl _ _))
        have HBB := Lib.hid hb
        clear hk hb
        generalize YC.heap.size = gb at *
        generalize YC.alloc (.cells btZ.toArray 27) = YC at *
        refine hK.out _ _ (by rw [HSE.out]; exact HY.out) (fun hHeld => ?_); clear hK K; try simp only [Act.put, lsA, lsZ, lsS]
        apply wpAnyH_ready (rs := [3, 8])
        · kernel_rfl
        · simp
        apply AllReadyH.cons
        · simp only [List.getElem?_toArray]; rfl
        · intro K hK
          rw [if_pos (by rfl)]
          refine wp_call9 25 _ _ rfl [.agg A7.toArray, .int .i64 x0] rfl Tryd.func25 (by kernel_rfl) (by kernel_rfl) ((HA1.out _ HY.out).mono ?_)
          rintro e YC ⟨sq, rfl, hat, hk, hfo⟩
          refine ⟨_, rfl, ?_⟩
          obtain ⟨A14, rfl, -⟩ := R.cells hat
          try have HF1A := Lib.hid (show ∀ q ∈ R.foot (.agg A14.toArray), q ≠ ga from fun q hq => by
            rcases hfo q hq with h | h
            · have h1 := HOL7.out q h; have h2 := HGA.out; omega
            · have := lt_of_block HBA.out; omega)
          try have HF1B := Lib.hid (show ∀ q ∈ R.foot (.agg A14.toArray), q ≠ gb from fun q hq => by
            rcases hfo q hq with h | h
            · have h1 := HOL7.out q h; have h2 := HGB.out; omega
            · have := lt_of_block HBB.out; omega)
          try replace HBA := Lib.hid (hk.heap HBA.out (by simp))
          try replace HBB := Lib.hid (hk.heap HBB.out (by simp))
          try replace HX1 := Lib.hid (R.new HX1.out hk)
          try replace HX2 := Lib.hid (R.new HX2.out hk)
          replace HY := Lib.hid (HY.out.trans hk (FSub.refl _ _))
          have HX1 := Lib.hid hat
          clear hat hk hfo
          refine hK.out _ _ (by rw [HSE.out]; exact HY.out) (fun hHeld => ?_); clear hK K; try simp only [Act.put, lsA, lsZ, lsS]
          apply wpAnyH_ready (rs := [7, 8])
          · kernel_rfl
          · simp
          apply AllReadyH.cons
          · simp only [List.getElem?_toArray]; rfl
          · intro K hK
            rw [if_pos (by rfl)]
            refine wp_call9 26 _ _ rfl [.agg A7.toArray, .int .i64 x0] rfl Tryd.func26 (by kernel_rfl) (by kernel_rfl) ((HA2.out _ HY.out).mono ?_)
            rintro e YC ⟨sq, rfl, hat, hk, hfo⟩
            refine ⟨_, rfl, ?_⟩
            obtain ⟨A15, rfl, -⟩ := R.cells hat
            try have HF2A := Lib.hid (show ∀ q ∈ R.foot (.agg A15.toArray), q ≠ ga from fun q hq => by
              rcases hfo q hq with h | h
              · have h1 := HOL7.out q h; have h2 := HGA.out; omega
              · have := lt_of_block HBA.out; omega)
            try have HF2B := Lib.hid (show ∀ q ∈ R.foot (.agg A15.toArray), q ≠ gb from fun q hq => by
              rcases hfo q hq with h | h
              · have h1 := HOL7.out q h; have h2 := HGB.out; omega
              · have := lt_of_block HBB.out; omega)
            try replace HBA := Lib.hid (hk.heap HBA.out (by simp))
            try replace HBB := Lib.hid (hk.heap HBB.out (by simp))
            try replace HX1 := Lib.hid (R.new HX1.out hk)
            try replace HX2 := Lib.hid (R.new HX2.out hk)
            replace HY := Lib.hid (HY.out.trans hk (FSub.refl _ _))
            have HX2 := Lib.hid hat
            clear hat hk hfo
            refine hK.out _ _ (by rw [HSE.out]; exact HY.out) (fun hHeld => ?_); clear hK K; try simp only [Act.put, lsA, lsZ, lsS]
            refine rp 8 (h := fun K hK => ?_)
            refine wp_allocBt rfl ?_
            have hk : Keeps [] YC (YC.alloc (.cells btZ.toArray 27)) := (Keeps.refl _ _).alloc _
            have hb := heap_alloc_new YC (.cells btZ.toArray 27)
            try have HF1A := Lib.hid (show ∀ q ∈ R.foot (.agg A14.toArray), q ≠ YC.heap.size from fun q hq => Nat.ne_of_lt (R.old HX1.out q hq))
            try have HF2A := Lib.hid (show ∀ q ∈ R.foot (.agg A15.toArray), q ≠ YC.heap.size from fun q hq => Nat.ne_of_lt (R.old HX2.out q hq))
            try have HAB := Lib.hid (show YC.heap.size ≠ gb from Nat.ne_of_gt (lt_of_block HBB.out))
            have HGA := Lib.hid HY.out.size
            try replace HBA := Lib.hid (hk.heap HBA.out (by simp))
            try replace HBB := Lib.hid (hk.heap HBB.out (by simp))
            try replace HX1 := Lib.hid (R.new HX1.out hk)
            try replace HX2 := Lib.hid (R.new HX2.out hk)
            replace HY := Lib.hid (HY.out.trans hk (FSub.refl _ _))
            have HBA := Lib.hid hb
            clear hk hb
            generalize YC.heap.size = ga at *
            generalize YC.alloc (.cells btZ.toArray 27) = YC at *
            refine hK.out _ _ (by rw [HSE.out]; exact HY.out) (fun hHeld => ?_); clear hK K; try simp only [Act.put, lsA, lsZ, lsS]
            refine rp 10 (h := fun K hK => ?_)
            refine skB.wp_put rfl (g := ga) (old := btZ) (A := A14) (btOk R HX1.out) btZ_ok rfl rfl HBA.out (fun YC hV hk => ?_)
            replace HBA := Lib.hid hV
            replace HBB := Lib.hid (hk.heap HBB.out (by have := HAB.out; simp; exact fun e => this e.symm))
            replace HX1 := Lib.hid (R.put HX1.out hk HF1A.out); replace HX2 := Lib.hid (R.put HX2.out hk HF2A.out)
            replace HY := Lib.hid (HY.out.trans hk (fun q hq => .inr (by simp at hq; have := HGA.out; omega)))
            clear hV hk
            refine hK.out _ _ (by rw [HSE.out]; exact HY.out) (fun hHeld => ?_); clear hK K; try simp only [Act.put, lsA, lsZ, lsS]
            refine rp 11 (h := fun K hK => ?_)
            refine skB.wp_put rfl (g := gb) (old := btZ) (A := A15) (btOk R HX2.out) btZ_ok rfl rfl HBB.out (fun YC hV hk => ?_)
            replace HBB := Lib.hid hV
            replace HBA := Lib.hid (hk.heap HBA.out (by have := HAB.out; simp; exact this))
            replace HX1 := Lib.hid (R.put HX1.out hk HF1B.out); replace HX2 := Lib.hid (R.put HX2.out hk HF2B.out)
            replace HY := Lib.hid (HY.out.trans hk (fun q hq => .inr (by simp at hq; have := HGB.out; omega)))
            clear hV hk
            refine hK.out _ _ (by rw [HSE.out]; exact HY.out) (fun hHeld => ?_); clear hK K; try simp only [Act.put, lsA, lsZ, lsS]
            refine wpAnyH_done (by kernel_rfl) ?_ _
            refine NoPanic.normal ?_
            exact ⟨rfl, ga, gb, [_, _, _, _, _, _, _, _], rfl, A14, A15, HBA.out, HBB.out, HX1.out, HX2.out, HY.out⟩
          apply AllReadyH.cons (hs := AllReadyH.nil)
          · simp only [List.getElem?_toArray]; rfl
          intro K hK
          rw [if_pos (by rfl)]
          refine wp_allocBt rfl ?_
          have hk : Keeps [] YC (YC.alloc (.cells btZ.toArray 27)) := (Keeps.refl _ _).alloc _
          have hb := heap_alloc_new YC (.cells btZ.toArray 27)
          try have HF1A := Lib.hid (show ∀ q ∈ R.foot (.agg A14.toArray), q ≠ YC.heap.size from fun q hq => Nat.ne_of_lt (R.old HX1.out q hq))
          try have HF2A := Lib.hid (show ∀ q ∈ R.foot (.agg A15.toArray), q ≠ YC.heap.size from fun q hq => Nat.ne_of_lt (R.old HX2.out q hq))
          try have HAB := Lib.hid (show YC.heap.size ≠ gb from Nat.ne_of_gt (lt_of_block HBB.out))
          have HGA := Lib.hid HY.out.size
          try replace HBA := Lib.hid (hk.heap HBA.out (by simp))
          try replace HBB := Lib.hid (hk.heap HBB.out (by simp))
          try replace HX1 := Lib.hid (R.new HX1.out hk)
          try replace HX2 := Lib.hid (R.new HX2.out hk)
          replace HY := Lib.hid (HY.out.trans hk (FSub.refl _ _))
          have HBA := Lib.hid hb
          clear hk hb
          generalize YC.heap.size = ga at *
          generalize YC.alloc (.cells btZ.toArray 27) = YC at *
          refine hK.out _ _ (by rw [HSE.out]; exact HY.out) (fun hHeld => ?_); clear hK K; try simp only [Act.put, lsA, lsZ, lsS]
          refine rp 7 (h := fun K hK => ?_)
          refine wp_call9 26 _ _ rfl [.agg A7.toArray, .int .i64 x0] rfl Tryd.func26 (by kernel_rfl) (by kernel_rfl) ((HA2.out _ HY.out).mono ?_)
          rintro e YC ⟨sq, rfl, hat, hk, hfo⟩
          refine ⟨_, rfl, ?_⟩
          obtain ⟨A15, rfl, -⟩ := R.cells hat
          try have HF2A := Lib.hid (show ∀ q ∈ R.foot (.agg A15.toArray), q ≠ ga from fun q hq => by
            rcases hfo q hq with h | h
            · have h1 := HOL7.out q h; have h2 := HGA.out; omega
            · have := lt_of_block HBA.out; omega)
          try have HF2B := Lib.hid (show ∀ q ∈ R.foot (.agg A15.toArray), q ≠ gb from fun q hq => by
            rcases hfo q hq with h | h
            · have h1 := HOL7.out q h; have h2 := HGB.out; omega
            · have := lt_of_block HBB.out; omega)
          try replace HBA := Lib.hid (hk.heap HBA.out (by simp))
          try replace HBB := Lib.hid (hk.heap HBB.out (by simp))
          try replace HX1 := Lib.hid (R.new HX1.out hk)
          try replace HX2 := Lib.hid (R.new HX2.out hk)
          replace HY := Lib.hid (HY.out.trans hk (FSub.refl _ _))
          have HX2 := Lib.hid hat
          clear hat hk hfo
          refine hK.out _ _ (by rw [HSE.out]; exact HY.out) (fun hHeld => ?_); clear hK K; try simp only [Act.put, lsA, lsZ, lsS]
          refine rp 10 (h := fun K hK => ?_)
          refine skB.wp_put rfl (g := ga) (old := btZ) (A := A14) (btOk R HX1.out) btZ_ok rfl rfl HBA.out (fun YC hV hk => ?_)
          replace HBA := Lib.hid hV
          replace HBB := Lib.hid (hk.heap HBB.out (by have := HAB.out; simp; exact fun e => this e.symm))
          replace HX1 := Lib.hid (R.put HX1.out hk HF1A.out); replace HX2 := Lib.hid (R.put HX2.out hk HF2A.out)
          replace HY := Lib.hid (HY.out.trans hk (fun q hq => .inr (by simp at hq; have := HGA.out; omega)))
          clear hV hk
          refine hK.out _ _ (by rw [HSE.out]; exact HY.out) (fun hHeld => ?_); clear hK K; try simp only [Act.put, lsA, lsZ, lsS]
          refine rp 11 (h := fun K hK => ?_)
          refine skB.wp_put rfl (g := gb) (old := btZ) (A := A15) (btOk R HX2.out) btZ_ok rfl rfl HBB.out (fun YC hV hk => ?_)
          replace HBB := Lib.hid hV
          replace HBA := Lib.hid (hk.heap HBA.out (by have := HAB.out; simp; exact this))
          replace HX1 := Lib.hid (R.put HX1.out hk HF1B.out); replace HX2 := Lib.hid (R.put HX2.out hk HF2B.out)
          replace HY := Lib.hid (HY.out.trans hk (fun q hq => .inr (by simp at hq; have := HGB.out; omega)))
          clear hV hk
          refine hK.out _ _ (by rw [HSE.out]; exact HY.out) (fun hHeld => ?_); clear hK K; try simp only [Act.put, lsA, lsZ, lsS]
          refine wpAnyH_done (by kernel_rfl) ?_ _
          refine NoPanic.normal ?_
          exact ⟨rfl, ga, gb, [_, _, _, _, _, _, _, _], rfl, A14, A15, HBA.out, HBB.out, HX1.out, HX2.out, HY.out⟩
        apply AllReadyH.cons (hs := AllReadyH.nil)
        · simp only [List.getElem?_toArray]; rfl
        intro K hK
        rw [if_pos (by rfl)]
        refine wp_allocBt rfl ?_
        have hk : Keeps [] YC (YC.alloc (.cells btZ.toArray 27)) := (Keeps.refl _ _).alloc _
        have hb := heap_alloc_new YC (.cells btZ.toArray 27)
        try have HF1A := Lib.hid (show ∀ q ∈ R.foot (.agg A14.toArray), q ≠ YC.heap.size from fun q hq => Nat.ne_of_lt (R.old HX1.out q hq))
        try have HF2A := Lib.hid (show ∀ q ∈ R.foot (.agg A15.toArray), q ≠ YC.heap.size from fun q hq => Nat.ne_of_lt (R.old HX2.out q hq))
        try have HAB := Lib.hid (show YC.heap.size ≠ gb from Nat.ne_of_gt (lt_of_block HBB.out))
        have HGA := Lib.hid HY.out.size
        try replace HBA := Lib.hid (hk.heap HBA.out (by simp))
        try replace HBB := Lib.hid (hk.heap HBB.out (by simp))
        try replace HX1 := Lib.hid (R.new HX1.out hk)
        try replace HX2 := Lib.hid (R.new HX2.out hk)
        replace HY := Lib.hid (HY.out.trans hk (FSub.refl _ _))
        have HBA := Lib.hid hb
        clear hk hb
        generalize YC.heap.size = ga at *
        generalize YC.alloc (.cells btZ.toArray 27) = YC at *
        refine hK.out _ _ (by rw [HSE.out]; exact HY.out) (fun hHeld => ?_); clear hK K; try simp only [Act.put, lsA, lsZ, lsS]
        refine rp 3 (h := fun K hK => ?_)
        refine wp_call9 25 _ _ rfl [.agg A7.toArray, .int .i64 x0] rfl Tryd.func25 (by kernel_rfl) (by kernel_rfl) ((HA1.out _ HY.out).mono ?_)
        rintro e YC ⟨sq, rfl, hat, hk, hfo⟩
        refine ⟨_, rfl, ?_⟩
        obtain ⟨A14, rfl, -⟩ := R.cells hat
        try have HF1A := Lib.hid (show ∀ q ∈ R.foot (.agg A14.toArray), q ≠ ga from fun q hq => by
          rcases hfo q hq with h | h
          · have h1 := HOL7.out q h; have h2 := HGA.out; omega
          · have := lt_of_block HBA.out; omega)
        try have HF1B := Lib.hid (show ∀ q ∈ R.foot (.agg A14.toArray), q ≠ gb from fun q hq => by
          rcases hfo q hq with h | h
          · have h1 := HOL7.out q h; have h2 := HGB.out; omega
          · have := lt_of_block HBB.out; omega)
        try replace HBA := Lib.hid (hk.heap HBA.out (by simp))
        try replace HBB := Lib.hid (hk.heap HBB.out (by simp))
        try replace HX1 := Lib.hid (R.new HX1.out hk)
        try replace HX2 := Lib.hid (R.new HX2.out hk)
        replace HY := Lib.hid (HY.out.trans hk (FSub.refl _ _))
        have HX1 := Lib.hid hat
        clear hat hk hfo
        refine hK.out _ _ (by rw [HSE.out]; exact HY.out) (fun hHeld => ?_); clear hK K; try simp only [Act.put, lsA, lsZ, lsS]
        refine rp 7 (h := fun K hK => ?_)
        refine wp_call9 26 _ _ rfl [.agg A7.toArray, .int .i64 x0] rfl Tryd.func26 (by kernel_rfl) (by kernel_rfl) ((HA2.out _ HY.out).mono ?_)
        rintro e YC ⟨sq, rfl, hat, hk, hfo⟩
        refine ⟨_, rfl, ?_⟩
        obtain ⟨A15, rfl, -⟩ := R.cells hat
        try have HF2A := Lib.hid (show ∀ q ∈ R.foot (.agg A15.toArray), q ≠ ga from fun q hq => by
          rcases hfo q hq with h | h
          · have h1 := HOL7.out q h; have h2 := HGA.out; omega
          · have := lt_of_block HBA.out; omega)
        try have HF2B := Lib.hid (show ∀ q ∈ R.foot (.agg A15.toArray), q ≠ gb from fun q hq => by
          rcases hfo q hq with h | h
          · have h1 := HOL7.out q h; have h2 := HGB.out; omega
          · have := lt_of_block HBB.out; omega)
        try replace HBA := Lib.hid (hk.heap HBA.out (by simp))
        try replace HBB := Lib.hid (hk.heap HBB.out (by simp))
        try replace HX1 := Lib.hid (R.new HX1.out hk)
        try replace HX2 := Lib.hid (R.new HX2.out hk)
        replace HY := Lib.hid (HY.out.trans hk (FSub.refl _ _))
        have HX2 := Lib.hid hat
        clear hat hk hfo
        refine hK.out _ _ (by rw [HSE.out]; exact HY.out) (fun hHeld => ?_); clear hK K; try simp only [Act.put, lsA, lsZ, lsS]
        refine rp 10 (h := fun K hK => ?_)
        refine skB.wp_put rfl (g := ga) (old := btZ) (A := A14) (btOk R HX1.out) btZ_ok rfl rfl HBA.out (fun YC hV hk => ?_)
        replace HBA := Lib.hid hV
        replace HBB := Lib.hid (hk.heap HBB.out (by have := HAB.out; simp; exact fun e => this e.symm))
        replace HX1 := Lib.hid (R.put HX1.out hk HF1A.out); replace HX2 := Lib.hid (R.put HX2.out hk HF2A.out)
        replace HY := Lib.hid (HY.out.trans hk (fun q hq => .inr (by simp at hq; have := HGA.out; omega)))
        clear hV hk
        refine hK.out _ _ (by rw [HSE.out]; exact HY.out) (fun hHeld => ?_); clear hK K; try simp only [Act.put, lsA, lsZ, lsS]
        refine rp 11 (h := fun K hK => ?_)
        refine skB.wp_put rfl (g := gb) (old := btZ) (A := A15) (btOk R HX2.out) btZ_ok rfl rfl HBB.out (fun YC hV hk => ?_)
        replace HBB := Lib.hid hV
        replace HBA := Lib.hid (hk.heap HBA.out (by have := HAB.out; simp; exact this))
        replace HX1 := Lib.hid (R.put HX1.out hk HF1B.out); replace HX2 := Lib.hid (R.put HX2.out hk HF2B.out)
        replace HY := Lib.hid (HY.out.trans hk (fun q hq => .inr (by simp at hq; have := HGB.out; omega)))
        clear hV hk
        refine hK.out _ _ (by rw [HSE.out]; exact HY.out) (fun hHeld => ?_); clear hK K; try simp only [Act.put, lsA, lsZ, lsS]
        refine wpAnyH_done (by kernel_rfl) ?_ _
        refine NoPanic.normal ?_
        exact ⟨rfl, ga, gb, [_, _, _, _, _, _, _, _], rfl, A14, A15, HBA.out, HBB.out, HX1.out, HX2.out, HY.out⟩
      rintro g14 g15 us Y2 ⟨A14, A15, hb1, hb2, h1, h2, hk⟩
      have HB14 := Lib.hid hb1; have HB15 := Lib.hid hb2; have H14 := Lib.hid h1; have H15 := Lib.hid h2; have HO14 := Lib.hid (btOk R h1); have HO15 := Lib.hid (btOk R h2)
      clear hb1 hb2 h1 h2 HA1 HA2 HOL7
      replace HK := Lib.hid (HK.out.trans hk (FSub.refl _ _))
      replace H7 := Lib.hid (R.new H7.out hk); replace HB7 := Lib.hid (hk.heap HB7.out (by simp))
      replace H8 := Lib.hid (R.new H8.out hk); replace HB8 := Lib.hid (hk.heap HB8.out (by simp))
      replace HBX := Lib.hid (hk.heap HBX.out (by simp))
      clear hk V H12 HB12 HO12
      obtain ⟨V, hV⟩ : ∃ x, x = Y2 := ⟨_, rfl⟩
      subst hV
      simp only [Act.put, lsA, lsZ, lsS]
      as_aux_lemma =>
      have HM0g := HSB.out
      obtain ⟨kL, hkL⟩ : ∃ x, x = bs (keyB (withoutB S x0)) := ⟨_, rfl⟩
      have HKL := Lib.hid (show bs (keyB (withoutB S x0)) = kL from hkL.symm)
      have HKML := Lib.hid (show bs (keyB (withoutB (withB S x0) x0)) = kL from by rw [withoutB_withB HSB.out, hkL])
      have HL0 := Lib.hid (show decide (x0 ∈ withoutB S x0) = false from decide_eq_false fun h => ((mem_withoutB S x0 x0).1 h).2 rfl)
      clear hkL HM0g
      by_cases hneg : 0 ≤ x0
      case neg =>
        have t0 : decide (0 ≤ x0) = false := decide_eq_false hneg
        have hx0n : x0 ∉ S := fun h => hneg (HSB.out.of h).1
        have HM0 := Lib.hid (show decide (x0 ∈ withB S x0) = false from decide_eq_false fun h => by
          rcases (mem_withB S x0 x0).1 h with h | h
          · exact hneg h.2.1
          · exact hx0n h)
        have HS0 := Lib.hid (show decide (x0 ∈ S) = false from decide_eq_false hx0n)
        have c0 := cell_lit HBX.out 0 (v := .int .i64 x0) rfl
        clear hneg hx0n
        go_wp2_with fail
        clear c0
        refine wp_joinQ (fun _ _ us a => ((((((((((((((((((((((((((((((((((((((((((((((((((((((((((((((((a.put (some 117) (us.getD 0 undef)).put (some 118) (us.getD 1 undef)).put (some 119) (us.getD 2 undef)).put (some 120) (us.getD 3 undef)).put (some 121) (us.getD 4 undef)).put (some 122) (us.getD 5 undef)).put (some 123) (us.getD 6 undef)).put (some 124) (us.getD 7 undef)).put (some 125) (us.getD 8 undef)).put (some 126) (us.getD 9 undef)).put (some 127) (us.getD 10 undef)).put (some 128) (us.getD 11 undef)).put (some 129) (us.getD 12 undef)).put (some 130) (us.getD 13 undef)).put (some 131) (us.getD 14 undef)).put (some 132) (us.getD 15 undef)).put (some 133) (us.getD 16 undef)).put (some 134) (us.getD 17 undef)).put (some 135) (us.getD 18 undef)).put (some 136) (us.getD 19 undef)).put (some 137) (us.getD 20 undef)).put (some 138) (us.getD 21 undef)).put (some 139) (us.getD 22 undef)).put (some 140) (us.getD 23 undef)).put (some 141) (us.getD 24 undef)).put (some 142) (us.getD 25 undef)).put (some 143) (us.getD 26 undef)).put (some 144) (us.getD 27 undef)).put (some 145) (us.getD 28 undef)).put (some 146) (us.getD 29 undef)).put (some 147) (us.getD 30 undef)).put (some 148) (us.getD 31 undef)).put (some 149) (us.getD 32 undef)).put (some 150) (us.getD 33 undef)).put (some 151) (us.getD 34 undef)).put (some 152) (us.getD 35 undef)).put (some 153) (us.getD 36 undef)).put (some 154) (us.getD 37 undef)).put (some 155) (us.getD 38 undef)).put (some 156) (us.getD 39 undef)).put (some 157) (us.getD 40 undef)).put (some 158) (us.getD 41 undef)).put (some 159) (us.getD 42 undef)).put (some 160) (us.getD 43 undef)).put (some 161) (us.getD 44 undef)).put (some 162) (us.getD 45 undef)).put (some 163) (us.getD 46 undef)).put (some 164) (us.getD 47 undef)).put (some 165) (us.getD 48 undef)).put (some 166) (us.getD 49 undef)).put (some 167) (us.getD 50 undef)).put (some 168) (us.getD 51 undef)).put (some 169) (us.getD 52 undef)).put (some 170) (us.getD 53 undef)).put (some 171) (us.getD 54 undef)).put (some 172) (us.getD 55 undef)).put (some 173) (us.getD 56 undef)).put (some 174) (us.getD 57 undef)).put (some 175) (us.getD 58 undef)).put (some 176) (us.getD 59 undef)).put (some 177) (us.getD 60 undef)).put (some 178) (us.getD 61 undef)).put (some 179) (us.getD 62 undef)).put (some 180) (.bool false))) (fun _ _ w' => Keeps [] V w') ?_ ?_
        · skip
          by_cases heq : x1 = x0
          · have t1 : (x1 != x0) = false := by rw [heq]; simp
            clear heq
            as_aux_lemma =>
            obtain ⟨S0, hS0⟩ : ∃ S0 : World → Prop, S0 = fun y => Keeps [] V y := ⟨_, rfl⟩
            have HSE := Lib.hid hS0
            have hSD : S0 V.drew := by rw [hS0]; exact (Keeps.refl _ _).drew
            have HC7 := Lib.hid (fun (w' : World) (hh : S0 w') => show w'.rangeAt g7 0 A7 from by rw [hS0] at hh; exact block_range (hh.heap HB7.out (by simp)))
            have HC14 := Lib.hid (fun (w' : World) (hh : S0 w') => show w'.rangeAt g14 0 A14 from by rw [hS0] at hh; exact block_range (hh.heap HB14.out (by simp)))
            have HC15 := Lib.hid (fun (w' : World) (hh : S0 w') => show w'.rangeAt g15 0 A15 from by rw [hS0] at hh; exact block_range (hh.heap HB15.out (by simp)))
            have HX0 := Lib.hid (fun (w' : World) (hh : S0 w') => show w'.cell? ⟨gx, 0, none⟩ = some (.int .i64 x0) from by rw [hS0] at hh; exact cell_lit (hh.heap HBX.out (by simp)) 0 rfl)
            have HX1 := Lib.hid (fun (w' : World) (hh : S0 w') => show w'.cell? ⟨gx, 1, none⟩ = some (.int .i64 x1) from by rw [hS0] at hh; exact cell_lit (hh.heap HBX.out (by simp)) 1 rfl)
            clear hS0
            refine wp_region_noPanic ?_
            refine wp_region_held_drew (S := S0) (by kernel_rfl) hSD (fun hHeld => ?_)
            have HY := Lib.hid ((Keeps.refl [] V).drew)
            generalize V.drew = YC at *
            refine tk 0 (y := by exact skB.yields HO14.out rfl _ rfl g14 0 rfl HC14.out) (h := ?_)
            refine tw 1 (h := ?_)
            refine tk 2 (y := by exact Or.inl ⟨by rfl, by intro w hSw; have q0 := HX0.out w hSw; go_simp; try with_reducible rfl⟩) (h := ?_)
            refine tw 4 (h := ?_)
            refine rp 3 (h := fun K hK => ?_)
            refine wp_call9 11 _ _ rfl [.agg A14.toArray, .int .i64 x0] rfl Tryd.func11 (by kernel_rfl) (by kernel_rfl) ((R.has _ _ _ x0 (HGL.out _ (HK.out.trans HY.out (FSub.refl _ _))) (R.new H14.out HY.out) HI0.out).mono ?_)
            rintro e YC ⟨rfl, hk⟩
            rw [HM0.out]
            refine ⟨_, rfl, ?_⟩
            replace HY := Lib.hid (HY.out.trans hk (FSub.refl _ _))
            clear hk
            refine hK.out _ _ (by rw [HSE.out]; exact HY.out) (fun hHeld => ?_); clear hK K; try simp only [Act.put, lsA, lsZ, lsS]
            refine tw 5 (h := ?_)
            refine tw 6 (h := ?_)
            refine tk 7 (y := by exact skB.yields HO15.out rfl _ rfl g15 0 rfl HC15.out) (h := ?_)
            refine tw 8 (h := ?_)
            refine tk 9 (y := by exact Or.inl ⟨by rfl, by intro w hSw; have q0 := HX0.out w hSw; go_simp; try with_reducible rfl⟩) (h := ?_)
            refine rp 10 (h := fun K hK => ?_)
            refine wp_call9 11 _ _ rfl [.agg A15.toArray, .int .i64 x0] rfl Tryd.func11 (by kernel_rfl) (by kernel_rfl) ((R.has _ _ _ x0 (HGL.out _ (HK.out.trans HY.out (FSub.refl _ _))) (R.new H15.out HY.out) HI0.out).mono ?_)
            rintro e YC ⟨rfl, hk⟩
            rw [HL0.out]
            refine ⟨_, rfl, ?_⟩
            replace HY := Lib.hid (HY.out.trans hk (FSub.refl _ _))
            clear hk
            refine hK.out _ _ (by rw [HSE.out]; exact HY.out) (fun hHeld => ?_); clear hK K; try simp only [Act.put, lsA, lsZ, lsS]
            refine tw 11 (h := ?_)
            refine tw 12 (h := ?_)
            refine tw 13 (h := ?_)
            refine tk 14 (y := by exact Or.inl ⟨by rfl, by intro w hSw; have q0 := HX1.out w hSw; go_simp; try with_reducible rfl⟩) (h := ?_)
            refine tw 15 (h := ?_)
            refine tk 16 (y := by exact Or.inl ⟨by rfl, by intro w hSw; have q0 := HX0.out w hSw; go_simp; try with_reducible rfl⟩) (h := ?_)
            refine tw 17 (h := ?_)
            refine tw 18 (h := ?_)
            refine tk 19 (y := by exact Or.inr ⟨by rfl, rfl⟩) (h := ?_)
            refine tk 20 (y := by exact Or.inr ⟨by rfl, rfl⟩) (h := ?_)
            refine tk 21 (y := by exact Or.inr ⟨by rfl, rfl⟩) (h := ?_)
            refine tk 23 (y := by exact Or.inr ⟨by rfl, rfl⟩) (h := ?_)
            refine tk 24 (y := by exact Or.inr ⟨by rfl, rfl⟩) (h := ?_)
            refine tk 25 (y := by exact Or.inr ⟨by rfl, rfl⟩) (h := ?_)
            refine rd 22 (h := fun K hK => ?_)
            rw [if_neg (Bool.eq_false_iff.1 (by rfl))]
            refine hK.out _ _ (by rw [HSE.out]; exact HY.out) (fun hHeld => ?_); clear hK K; try simp only [Act.put, lsA, lsZ, lsS]
            refine rd 26 (h := fun K hK => ?_)
            rw [if_neg (Bool.eq_false_iff.1 (by rfl))]
            refine hK.out _ _ (by rw [HSE.out]; exact HY.out) (fun hHeld => ?_); clear hK K; try simp only [Act.put, lsA, lsZ, lsS]
            refine tk 27 (y := by exact Or.inr ⟨by rfl, rfl⟩) (h := ?_)
            refine tk 28 (y := by exact Or.inr ⟨by rfl, rfl⟩) (h := ?_)
            refine tk 29 (y := by exact Or.inr ⟨by rfl, rfl⟩) (h := ?_)
            refine tk 30 (y := by exact Or.inr ⟨by rfl, rfl⟩) (h := ?_)
            refine tk 31 (y := by exact Or.inr ⟨by rfl, rfl⟩) (h := ?_)
            refine tk 33 (y := by exact Or.inr ⟨by rfl, rfl⟩) (h := ?_)
            refine tk 34 (y := by exact Or.inr ⟨by rfl, rfl⟩) (h := ?_)
            refine tk 35 (y := by exact Or.inr ⟨by rfl, rfl⟩) (h := ?_)
            refine rd 32 (h := fun K hK => ?_)
            rw [if_neg (Bool.eq_false_iff.1 (by rfl))]
            refine hK.out _ _ (by rw [HSE.out]; exact HY.out) (fun hHeld => ?_); clear hK K; try simp only [Act.put, lsA, lsZ, lsS]
            refine rd 36 (h := fun K hK => ?_)
            rw [if_neg (Bool.eq_false_iff.1 (by rfl))]
            refine hK.out _ _ (by rw [HSE.out]; exact HY.out) (fun hHeld => ?_); clear hK K; try simp only [Act.put, lsA, lsZ, lsS]
            refine tk 37 (y := by exact Or.inr ⟨by rfl, rfl⟩) (h := ?_)
            refine tk 38 (y := by exact Or.inr ⟨by rfl, rfl⟩) (h := ?_)
            refine tw 39 (h := ?_)
            refine tw 40 (h := ?_)
            refine tw 41 (h := ?_)
            refine tk 42 (y := by exact skB.yields HO14.out rfl _ rfl g14 0 rfl HC14.out) (h := ?_)
            refine tw 43 (h := ?_)
            refine tk 44 (y := by exact Or.inl ⟨by rfl, by intro w hSw; have q0 := HX0.out w hSw; go_simp; try with_reducible rfl⟩) (h := ?_)
            refine tk 47 (y := by exact skB.yields HO15.out rfl _ rfl g15 0 rfl HC15.out) (h := ?_)
            refine rp 45 (h := fun K hK => ?_)
            refine wp_call9 26 _ _ rfl [.agg A14.toArray, .int .i64 x0] rfl Tryd.func26 (by kernel_rfl) (by kernel_rfl) ((R.without _ _ _ x0 (HGL.out _ (HK.out.trans HY.out (FSub.refl _ _))) (R.new H14.out HY.out) HI0.out).mono ?_)
            rintro e YC ⟨stq, rfl, hat, hk, -⟩
            refine ⟨_, rfl, ?_⟩
            have HQ := Lib.hid hat
            clear hat
            replace HY := Lib.hid (HY.out.trans hk (FSub.refl _ _))
            clear hk
            refine hK.out _ _ (by rw [HSE.out]; exact HY.out) (fun hHeld => ?_); clear hK K; try simp only [Act.put, lsA, lsZ, lsS]
            refine rp 46 (h := fun K hK => ?_)
            refine wp_call9 15 _ _ rfl [stq] rfl Tryd.func15 (by kernel_rfl) (by kernel_rfl) ((R.key _ _ _ (HGL.out _ (HK.out.trans HY.out (FSub.refl _ _))) HQ.out).mono ?_)
            rintro e YC ⟨rfl, hk⟩
            rw [HKML.out]
            clear HQ
            refine ⟨_, rfl, ?_⟩
            replace HY := Lib.hid (HY.out.trans hk (FSub.refl _ _))
            clear hk
            refine hK.out _ _ (by rw [HSE.out]; exact HY.out) (fun hHeld => ?_); clear hK K; try simp only [Act.put, lsA, lsZ, lsS]
            refine rp 48 (h := fun K hK => ?_)
            refine wp_call9 15 _ _ rfl [.agg A15.toArray] rfl Tryd.func15 (by kernel_rfl) (by kernel_rfl) ((R.key _ _ _ (HGL.out _ (HK.out.trans HY.out (FSub.refl _ _))) (R.new H15.out HY.out)).mono ?_)
            rintro e YC ⟨rfl, hk⟩
            rw [HKL.out]
            refine ⟨_, rfl, ?_⟩
            replace HY := Lib.hid (HY.out.trans hk (FSub.refl _ _))
            clear hk
            refine hK.out _ _ (by rw [HSE.out]; exact HY.out) (fun hHeld => ?_); clear hK K; try simp only [Act.put, lsA, lsZ, lsS]
            refine tw 49 (h := ?_)
            refine tw 50 (h := ?_)
            refine tw 51 (h := ?_)
            refine tk 52 (y := by exact skB.yields HO7.out rfl _ rfl g7 0 rfl HC7.out) (h := ?_)
            refine tw 53 (h := ?_)
            refine tk 54 (y := by exact Or.inl ⟨by rfl, by intro w hSw; have q0 := HX0.out w hSw; go_simp; try with_reducible rfl⟩) (h := ?_)
            refine rp 55 (h := fun K hK => ?_)
            refine wp_call9 11 _ _ rfl [.agg A7.toArray, .int .i64 x0] rfl Tryd.func11 (by kernel_rfl) (by kernel_rfl) ((R.has _ _ _ x0 (HGL.out _ (HK.out.trans HY.out (FSub.refl _ _))) (R.new H7.out HY.out) HI0.out).mono ?_)
            rintro e YC ⟨rfl, hk⟩
            rw [HS0.out]
            refine ⟨_, rfl, ?_⟩
            replace HY := Lib.hid (HY.out.trans hk (FSub.refl _ _))
            clear hk
            refine hK.out _ _ (by rw [HSE.out]; exact HY.out) (fun hHeld => ?_); clear hK K; try simp only [Act.put, lsA, lsZ, lsS]
            refine tw 56 (h := ?_)
            refine tk 57 (y := by exact Or.inr ⟨by rfl, rfl⟩) (h := ?_)
            refine tk 59 (y := by exact Or.inr ⟨by rfl, rfl⟩) (h := ?_)
            refine rd 58 (h := fun K hK => ?_)
            rw [if_neg (Bool.eq_false_iff.1 (by rfl))]
            refine hK.out _ _ (by rw [HSE.out]; exact HY.out) (fun hHeld => ?_); clear hK K; try simp only [Act.put, lsA, lsZ, lsS]
            refine rd 60 (h := fun K hK => ?_)
            rw [if_neg (Bool.eq_false_iff.1 (by rfl))]
            refine hK.out _ _ (by rw [HSE.out]; exact HY.out) (fun hHeld => ?_); clear hK K; try simp only [Act.put, lsA, lsZ, lsS]
            refine tk 61 (y := by exact Or.inr ⟨by rfl, rfl⟩) (h := ?_)
            refine tw 62 (h := ?_)
            refine tw 63 (h := ?_)
            refine wpAnyH_done (by kernel_rfl) ?_ _
            refine NoPanic.normal ?_
            exact ⟨rfl, 0, 0, [_, _, _, _, _, _, _, _, _, _, _, _, _, _, _, _, _, _, _, _, _, _, _, _, _, _, _, _, _, _, _, _, _, _, _, _, _, _, _, _, _, _, _, _, _, _, _, _, _, _, _, _, _, _, _, _, _, _, _, _, _, _, _], rfl, HY.out⟩
          · skip
            have t1 : (x1 != x0) = true := by rw [bne_iff_ne]; exact heq
            have HM1 := Lib.hid (show decide (x1 ∈ withB S x0) = decide (x1 ∈ S) from by
              rw [decide_eq_decide, mem_withB]
              exact ⟨fun h => h.elim (fun h => absurd h.1 heq) id, .inr⟩)
            have HL1 := Lib.hid (show decide (x1 ∈ withoutB S x0) = decide (x1 ∈ S) from by
              rw [decide_eq_decide, mem_withoutB]
              exact ⟨fun h => h.1, fun h => ⟨h, heq⟩⟩)
            clear heq
            obtain ⟨b1, hb1⟩ : ∃ x, x = decide (x1 ∈ S) := ⟨_, rfl⟩
            have HS1 := Lib.hid (show decide (x1 ∈ S) = b1 from hb1.symm)
            rw [← hb1] at HM1 HL1
            clear hb1
            as_aux_lemma =>
            obtain ⟨S0, hS0⟩ : ∃ S0 : World → Prop, S0 = fun y => Keeps [] V y := ⟨_, rfl⟩
            have HSE := Lib.hid hS0
            have hSD : S0 V.drew := by rw [hS0]; exact (Keeps.refl _ _).drew
            have HC7 := Lib.hid (fun (w' : World) (hh : S0 w') => show w'.rangeAt g7 0 A7 from by rw [hS0] at hh; exact block_range (hh.heap HB7.out (by simp)))
            have HC14 := Lib.hid (fun (w' : World) (hh : S0 w') => show w'.rangeAt g14 0 A14 from by rw [hS0] at hh; exact block_range (hh.heap HB14.out (by simp)))
            have HC15 := Lib.hid (fun (w' : World) (hh : S0 w') => show w'.rangeAt g15 0 A15 from by rw [hS0] at hh; exact block_range (hh.heap HB15.out (by simp)))
            have HX0 := Lib.hid (fun (w' : World) (hh : S0 w') => show w'.cell? ⟨gx, 0, none⟩ = some (.int .i64 x0) from by rw [hS0] at hh; exact cell_lit (hh.heap HBX.out (by simp)) 0 rfl)
            have HX1 := Lib.hid (fun (w' : World) (hh : S0 w') => show w'.cell? ⟨gx, 1, none⟩ = some (.int .i64 x1) from by rw [hS0] at hh; exact cell_lit (hh.heap HBX.out (by simp)) 1 rfl)
            clear hS0
            refine wp_region_noPanic ?_
            refine wp_region_held_drew (S := S0) (by kernel_rfl) hSD (fun hHeld => ?_)
            have HY := Lib.hid ((Keeps.refl [] V).drew)
            generalize V.drew = YC at *
            refine tk 0 (y := by exact skB.yields HO14.out rfl _ rfl g14 0 rfl HC14.out) (h := ?_)
            refine tw 1 (h := ?_)
            refine tk 2 (y := by exact Or.inl ⟨by rfl, by intro w hSw; have q0 := HX0.out w hSw; go_simp; try with_reducible rfl⟩) (h := ?_)
            refine tw 4 (h := ?_)
            refine rp 3 (h := fun K hK => ?_)
            refine wp_call9 11 _ _ rfl [.agg A14.toArray, .int .i64 x0] rfl Tryd.func11 (by kernel_rfl) (by kernel_rfl) ((R.has _ _ _ x0 (HGL.out _ (HK.out.trans HY.out (FSub.refl _ _))) (R.new H14.out HY.out) HI0.out).mono ?_)
            rintro e YC ⟨rfl, hk⟩
            rw [HM0.out]
            refine ⟨_, rfl, ?_⟩
            replace HY := Lib.hid (HY.out.trans hk (FSub.refl _ _))
            clear hk
            refine hK.out _ _ (by rw [HSE.out]; exact HY.out) (fun hHeld => ?_); clear hK K; try simp only [Act.put, lsA, lsZ, lsS]
            refine tw 5 (h := ?_)
            refine tw 6 (h := ?_)
            refine tk 7 (y := by exact skB.yields HO15.out rfl _ rfl g15 0 rfl HC15.out) (h := ?_)
            refine tw 8 (h := ?_)
            refine tk 9 (y := by exact Or.inl ⟨by rfl, by intro w hSw; have q0 := HX0.out w hSw; go_simp; try with_reducible rfl⟩) (h := ?_)
            refine rp 10 (h := fun K hK => ?_)
            refine wp_call9 11 _ _ rfl [.agg A15.toArray, .int .i64 x0] rfl Tryd.func11 (by kernel_rfl) (by kernel_rfl) ((R.has _ _ _ x0 (HGL.out _ (HK.out.trans HY.out (FSub.refl _ _))) (R.new H15.out HY.out) HI0.out).mono ?_)
            rintro e YC ⟨rfl, hk⟩
            rw [HL0.out]
            refine ⟨_, rfl, ?_⟩
            replace HY := Lib.hid (HY.out.trans hk (FSub.refl _ _))
            clear hk
            refine hK.out _ _ (by rw [HSE.out]; exact HY.out) (fun hHeld => ?_); clear hK K; try simp only [Act.put, lsA, lsZ, lsS]
            refine tw 11 (h := ?_)
            refine tw 12 (h := ?_)
            refine tw 13 (h := ?_)
            refine tk 14 (y := by exact Or.inl ⟨by rfl, by intro w hSw; have q0 := HX1.out w hSw; go_simp; try with_reducible rfl⟩) (h := ?_)
            refine tw 15 (h := ?_)
            refine tk 16 (y := by exact Or.inl ⟨by rfl, by intro w hSw; have q0 := HX0.out w hSw; go_simp; try with_reducible rfl⟩) (h := ?_)
            refine tw 17 (h := ?_)
            refine tw 18 (h := ?_)
            refine tk 19 (y := by exact skB.yields HO14.out rfl _ rfl g14 0 rfl HC14.out) (h := ?_)
            refine tw 20 (h := ?_)
            refine tk 21 (y := by exact Or.inl ⟨by rfl, by intro w hSw; have q0 := HX1.out w hSw; go_simp; try with_reducible rfl⟩) (h := ?_)
            refine tk 23 (y := by exact skB.yields HO7.out rfl _ rfl g7 0 rfl HC7.out) (h := ?_)
            refine tw 24 (h := ?_)
            refine tk 25 (y := by exact Or.inl ⟨by rfl, by intro w hSw; have q0 := HX1.out w hSw; go_simp; try with_reducible rfl⟩) (h := ?_)
            refine rp 22 (h := fun K hK => ?_)
            refine wp_call9 11 _ _ rfl [.agg A14.toArray, .int .i64 x1] rfl Tryd.func11 (by kernel_rfl) (by kernel_rfl) ((R.has _ _ _ x1 (HGL.out _ (HK.out.trans HY.out (FSub.refl _ _))) (R.new H14.out HY.out) HI1.out).mono ?_)
            rintro e YC ⟨rfl, hk⟩
            rw [HM1.out]
            refine ⟨_, rfl, ?_⟩
            replace HY := Lib.hid (HY.out.trans hk (FSub.refl _ _))
            clear hk
            refine hK.out _ _ (by rw [HSE.out]; exact HY.out) (fun hHeld => ?_); clear hK K; try simp only [Act.put, lsA, lsZ, lsS]
            refine rp 26 (h := fun K hK => ?_)
            refine wp_call9 11 _ _ rfl [.agg A7.toArray, .int .i64 x1] rfl Tryd.func11 (by kernel_rfl) (by kernel_rfl) ((R.has _ _ _ x1 (HGL.out _ (HK.out.trans HY.out (FSub.refl _ _))) (R.new H7.out HY.out) HI1.out).mono ?_)
            rintro e YC ⟨rfl, hk⟩
            rw [HS1.out]
            refine ⟨_, rfl, ?_⟩
            replace HY := Lib.hid (HY.out.trans hk (FSub.refl _ _))
            clear hk
            refine hK.out _ _ (by rw [HSE.out]; exact HY.out) (fun hHeld => ?_); clear hK K; try simp only [Act.put, lsA, lsZ, lsS]
            refine tw 27 (h := ?_)
            refine tw 28 (h := ?_)
            refine tk 29 (y := by exact skB.yields HO15.out rfl _ rfl g15 0 rfl HC15.out) (h := ?_)
            refine tw 30 (h := ?_)
            refine tk 31 (y := by exact Or.inl ⟨by rfl, by intro w hSw; have q0 := HX1.out w hSw; go_simp; try with_reducible rfl⟩) (h := ?_)
            refine tk 33 (y := by exact skB.yields HO7.out rfl _ rfl g7 0 rfl HC7.out) (h := ?_)
            refine tw 34 (h := ?_)
            refine tk 35 (y := by exact Or.inl ⟨by rfl, by intro w hSw; have q0 := HX1.out w hSw; go_simp; try with_reducible rfl⟩) (h := ?_)
            refine rp 32 (h := fun K hK => ?_)
            refine wp_call9 11 _ _ rfl [.agg A15.toArray, .int .i64 x1] rfl Tryd.func11 (by kernel_rfl) (by kernel_rfl) ((R.has _ _ _ x1 (HGL.out _ (HK.out.trans HY.out (FSub.refl _ _))) (R.new H15.out HY.out) HI1.out).mono ?_)
            rintro e YC ⟨rfl, hk⟩
            rw [HL1.out]
            refine ⟨_, rfl, ?_⟩
            replace HY := Lib.hid (HY.out.trans hk (FSub.refl _ _))
            clear hk
            refine hK.out _ _ (by rw [HSE.out]; exact HY.out) (fun hHeld => ?_); clear hK K; try simp only [Act.put, lsA, lsZ, lsS]
            refine rp 36 (h := fun K hK => ?_)
            refine wp_call9 11 _ _ rfl [.agg A7.toArray, .int .i64 x1] rfl Tryd.func11 (by kernel_rfl) (by kernel_rfl) ((R.has _ _ _ x1 (HGL.out _ (HK.out.trans HY.out (FSub.refl _ _))) (R.new H7.out HY.out) HI1.out).mono ?_)
            rintro e YC ⟨rfl, hk⟩
            rw [HS1.out]
            refine ⟨_, rfl, ?_⟩
            replace HY := Lib.hid (HY.out.trans hk (FSub.refl _ _))
            clear hk
            refine hK.out _ _ (by rw [HSE.out]; exact HY.out) (fun hHeld => ?_); clear hK K; try simp only [Act.put, lsA, lsZ, lsS]
            refine tw 37 (h := ?_)
            refine tw 38 (h := ?_)
            refine tw 39 (h := ?_)
            refine tw 40 (h := ?_)
            refine tw 41 (h := ?_)
            refine tk 42 (y := by exact skB.yields HO14.out rfl _ rfl g14 0 rfl HC14.out) (h := ?_)
            refine tw 43 (h := ?_)
            refine tk 44 (y := by exact Or.inl ⟨by rfl, by intro w hSw; have q0 := HX0.out w hSw; go_simp; try with_reducible rfl⟩) (h := ?_)
            refine tk 47 (y := by exact skB.yields HO15.out rfl _ rfl g15 0 rfl HC15.out) (h := ?_)
            refine rp 45 (h := fun K hK => ?_)
            refine wp_call9 26 _ _ rfl [.agg A14.toArray, .int .i64 x0] rfl Tryd.func26 (by kernel_rfl) (by kernel_rfl) ((R.without _ _ _ x0 (HGL.out _ (HK.out.trans HY.out (FSub.refl _ _))) (R.new H14.out HY.out) HI0.out).mono ?_)
            rintro e YC ⟨stq, rfl, hat, hk, -⟩
            refine ⟨_, rfl, ?_⟩
            have HQ := Lib.hid hat
            clear hat
            replace HY := Lib.hid (HY.out.trans hk (FSub.refl _ _))
            clear hk
            refine hK.out _ _ (by rw [HSE.out]; exact HY.out) (fun hHeld => ?_); clear hK K; try simp only [Act.put, lsA, lsZ, lsS]
            refine rp 46 (h := fun K hK => ?_)
            refine wp_call9 15 _ _ rfl [stq] rfl Tryd.func15 (by kernel_rfl) (by kernel_rfl) ((R.key _ _ _ (HGL.out _ (HK.out.trans HY.out (FSub.refl _ _))) HQ.out).mono ?_)
            rintro e YC ⟨rfl, hk⟩
            rw [HKML.out]
            clear HQ
            refine ⟨_, rfl, ?_⟩
            replace HY := Lib.hid (HY.out.trans hk (FSub.refl _ _))
            clear hk
            refine hK.out _ _ (by rw [HSE.out]; exact HY.out) (fun hHeld => ?_); clear hK K; try simp only [Act.put, lsA, lsZ, lsS]
            refine rp 48 (h := fun K hK => ?_)
            refine wp_call9 15 _ _ rfl [.agg A15.toArray] rfl Tryd.func15 (by kernel_rfl) (by kernel_rfl) ((R.key _ _ _ (HGL.out _ (HK.out.trans HY.out (FSub.refl _ _))) (R.new H15.out HY.out)).mono ?_)
            rintro e YC ⟨rfl, hk⟩
            rw [HKL.out]
            refine ⟨_, rfl, ?_⟩
            replace HY := Lib.hid (HY.out.trans hk (FSub.refl _ _))
            clear hk
            refine hK.out _ _ (by rw [HSE.out]; exact HY.out) (fun hHeld => ?_); clear hK K; try simp only [Act.put, lsA, lsZ, lsS]
            refine tw 49 (h := ?_)
            refine tw 50 (h := ?_)
            refine tw 51 (h := ?_)
            refine tk 52 (y := by exact skB.yields HO7.out rfl _ rfl g7 0 rfl HC7.out) (h := ?_)
            refine tw 53 (h := ?_)
            refine tk 54 (y := by exact Or.inl ⟨by rfl, by intro w hSw; have q0 := HX0.out w hSw; go_simp; try with_reducible rfl⟩) (h := ?_)
            refine rp 55 (h := fun K hK => ?_)
            refine wp_call9 11 _ _ rfl [.agg A7.toArray, .int .i64 x0] rfl Tryd.func11 (by kernel_rfl) (by kernel_rfl) ((R.has _ _ _ x0 (HGL.out _ (HK.out.trans HY.out (FSub.refl _ _))) (R.new H7.out HY.out) HI0.out).mono ?_)
            rintro e YC ⟨rfl, hk⟩
            rw [HS0.out]
            refine ⟨_, rfl, ?_⟩
            replace HY := Lib.hid (HY.out.trans hk (FSub.refl _ _))
            clear hk
            refine hK.out _ _ (by rw [HSE.out]; exact HY.out) (fun hHeld => ?_); clear hK K; try simp only [Act.put, lsA, lsZ, lsS]
            refine tw 56 (h := ?_)
            refine tk 57 (y := by exact Or.inr ⟨by rfl, rfl⟩) (h := ?_)
            refine tk 59 (y := by exact Or.inr ⟨by rfl, rfl⟩) (h := ?_)
            refine rd 58 (h := fun K hK => ?_)
            rw [if_neg (Bool.eq_false_iff.1 (by rfl))]
            refine hK.out _ _ (by rw [HSE.out]; exact HY.out) (fun hHeld => ?_); clear hK K; try simp only [Act.put, lsA, lsZ, lsS]
            refine rd 60 (h := fun K hK => ?_)
            rw [if_neg (Bool.eq_false_iff.1 (by rfl))]
            refine hK.out _ _ (by rw [HSE.out]; exact HY.out) (fun hHeld => ?_); clear hK K; try simp only [Act.put, lsA, lsZ, lsS]
            refine tk 61 (y := by exact Or.inr ⟨by rfl, rfl⟩) (h := ?_)
            refine tw 62 (h := ?_)
            refine tw 63 (h := ?_)
            refine wpAnyH_done (by kernel_rfl) ?_ _
            refine NoPanic.normal ?_
            exact ⟨rfl, 0, 0, [_, _, _, _, _, _, _, _, _, _, _, _, _, _, _, _, _, _, _, _, _, _, _, _, _, _, _, _, _, _, _, _, _, _, _, _, _, _, _, _, _, _, _, _, _, _, _, _, _, _, _, _, _, _, _, _, _, _, _, _, _, _, _], rfl, HY.out⟩
        as_aux_lemma =>
        rintro - - us Y3 hk
        replace HK := Lib.hid (HK.out.trans hk (FSub.refl _ _))
        try (replace H7 := Lib.hid (R.new H7.out hk); replace HB7 := Lib.hid (hk.heap HB7.out (by simp)))
        try (replace H8 := Lib.hid (R.new H8.out hk); replace HB8 := Lib.hid (hk.heap HB8.out (by simp)))
        try replace H12 := Lib.hid (R.new H12.out hk)
        try replace HB12 := Lib.hid (hk.heap HB12.out (by simp))
        try replace H14 := Lib.hid (R.new H14.out hk)
        try replace HB14 := Lib.hid (hk.heap HB14.out (by simp))
        try replace H15 := Lib.hid (R.new H15.out hk)
        try replace HB15 := Lib.hid (hk.heap HB15.out (by simp))
        try replace H17 := Lib.hid (R.new H17.out hk)
        try replace HB17 := Lib.hid (hk.heap HB17.out (by simp))
        replace HBX := Lib.hid (hk.heap HBX.out (by simp))
        clear hk V
        obtain ⟨V, hV⟩ : ∃ x, x = Y3 := ⟨_, rfl⟩
        subst hV
        clear H14 H15 HB14 HB15 HO14 HO15
        simp only [Act.put, lsA, lsZ, lsS]
        go_wp2_with (first | ((with_reducible refine wpList_loadBt (g := g7) HO7.out ?_ ?_ (block_range HB7.out) ?_); exact rfl; exact rfl) | ((with_reducible refine wpList_loadBt (g := g8) HO8.out ?_ ?_ (block_range HB8.out) ?_); exact rfl; exact rfl))
        refine (R.union _ _ _ _ _ (HGL.out _ HK.out) H7.out H8.out).mono ?_; rintro e W2 ⟨st, rfl, hat, hk, -⟩
        replace HK := Lib.hid (HK.out.trans hk (FSub.refl _ _))
        try (replace H7 := Lib.hid (R.new H7.out hk); replace HB7 := Lib.hid (hk.heap HB7.out (by simp)))
        try (replace H8 := Lib.hid (R.new H8.out hk); replace HB8 := Lib.hid (hk.heap HB8.out (by simp)))
        try replace H12 := Lib.hid (R.new H12.out hk)
        try replace HB12 := Lib.hid (hk.heap HB12.out (by simp))
        try replace H14 := Lib.hid (R.new H14.out hk)
        try replace HB14 := Lib.hid (hk.heap HB14.out (by simp))
        try replace H15 := Lib.hid (R.new H15.out hk)
        try replace HB15 := Lib.hid (hk.heap HB15.out (by simp))
        try replace H17 := Lib.hid (R.new H17.out hk)
        try replace HB17 := Lib.hid (hk.heap HB17.out (by simp))
        replace HBX := Lib.hid (hk.heap HBX.out (by simp))
        obtain ⟨A17, rfl, hok⟩ := R.cells hat
        have HO17 := Lib.hid hok; have H17 := Lib.hid hat
        clear hat hok hk V
        have HNC := Lib.hid (show (W2.alloc (.cells btZA 27)).heap[W2.heap.size]? = some (.cells btZ.toArray 27 (0, 0)) from heap_alloc_new W2 _)
        have HNK := Lib.hid (show Keeps [] W2 (W2.alloc (.cells btZA 27)) from (Keeps.refl _ _).alloc _)
        go_wp2_with ((with_reducible refine wpList_putBt (g := W2.heap.size) (old := btZ) (A := A17) HO17.out btZ_ok ?_ ?_ HNC.out ?_); exact rfl; exact rfl)
        intro V hW hk2
        have hk := HNK.out.trans' hk2 (Nat.le_refl _)
        replace HK := Lib.hid (HK.out.trans hk (FSub.refl _ _))
        try (replace H7 := Lib.hid (R.new H7.out hk); replace HB7 := Lib.hid (hk.heap HB7.out (by simp)))
        try (replace H8 := Lib.hid (R.new H8.out hk); replace HB8 := Lib.hid (hk.heap HB8.out (by simp)))
        try replace H12 := Lib.hid (R.new H12.out hk)
        try replace HB12 := Lib.hid (hk.heap HB12.out (by simp))
        try replace H14 := Lib.hid (R.new H14.out hk)
        try replace HB14 := Lib.hid (hk.heap HB14.out (by simp))
        try replace H15 := Lib.hid (R.new H15.out hk)
        try replace HB15 := Lib.hid (hk.heap HB15.out (by simp))
        try replace H17 := Lib.hid (R.new H17.out hk)
        try replace HB17 := Lib.hid (hk.heap HB17.out (by simp))
        replace HBX := Lib.hid (hk.heap HBX.out (by simp))
        have HB17 := Lib.hid hW
        clear hW hk2 HNC HNK hk
        generalize W2.heap.size = g17 at *
        obtain ⟨kU, hkU⟩ : ∃ x, x = bs (keyB (unionB S T)) := ⟨_, rfl⟩
        have HKU := Lib.hid (show bs (keyB (unionB S T)) = kU from hkU.symm)
        have HKTU := Lib.hid (show bs (keyB (unionB T S)) = kU from by rw [unionB_comm HTB.out HSB.out, hkU])
        have HKUU := Lib.hid (show bs (keyB (unionB (unionB S T) T)) = kU from by rw [unionB_again HSB.out, hkU])
        have HW1 := Lib.hid (within_union1 S T); have HW2 := Lib.hid (within_union2 (s := S) HTB.out)
        obtain ⟨bW, hbW⟩ : ∃ x, x = withinB S T := ⟨_, rfl⟩
        have HW3 := Lib.hid (show withinB S T = bW from hbW.symm)
        have hUT : (kU.toList == kT.toList) = bW := by
          rw [hbW, hkU, ← HKT.out, toL_bs, toL_bs, Bool.eq_iff_iff, within_iff HSB.out HTB.out, beq_iff_eq, keyB_inj (unionB_in _ HSB.out) HTB.out]
        obtain ⟨nU, hnU⟩ : ∃ x, x = (unionB S T).length := ⟨_, rfl⟩
        obtain ⟨nS, hnS⟩ : ∃ x, x = S.length := ⟨_, rfl⟩
        obtain ⟨nT, hnT⟩ : ∃ x, x = T.length := ⟨_, rfl⟩
        have HNU := Lib.hid hnU.symm; have HNS := Lib.hid hnS.symm; have HNT := Lib.hid hnT.symm
        have hcnt : nU ≤ nS + nT := by rw [hnU, hnS, hnT]; exact unionB_len T S
        have hsw : IntKind.i64.wrap ((nS : Int) + (nT : Int)) = (nS : Int) + (nT : Int) := IntWalk.i64_in _ ⟨by omega, by have := HSL.out; have := HTL.out; omega⟩
        have hc2 : decide (nU ≤ nS + nT) = true := decide_eq_true hcnt
        have hc3 : decide ((nU : Int) ≤ (nS : Int) + (nT : Int)) = true := decide_eq_true (by omega)
        clear hkU hbW hcnt hnU hnS hnT
        go_wp2_with fail
        as_aux_lemma =>
        obtain ⟨S0, hS0⟩ : ∃ S0 : World → Prop, S0 = fun y => Keeps [] V y := ⟨_, rfl⟩
        have HSE := Lib.hid hS0
        have hSD : S0 V.drew := by rw [hS0]; exact (Keeps.refl _ _).drew
        have HC7 := Lib.hid (fun (w' : World) (hh : S0 w') => show w'.rangeAt g7 0 A7 from by rw [hS0] at hh; exact block_range (hh.heap HB7.out (by simp)))
        have HC8 := Lib.hid (fun (w' : World) (hh : S0 w') => show w'.rangeAt g8 0 A8 from by rw [hS0] at hh; exact block_range (hh.heap HB8.out (by simp)))
        have HC17 := Lib.hid (fun (w' : World) (hh : S0 w') => show w'.rangeAt g17 0 A17 from by rw [hS0] at hh; exact block_range (hh.heap HB17.out (by simp)))
        clear hS0
        refine wp_region_noPanic ?_
        refine wp_region_held_drew (S := S0) (by kernel_rfl) hSD (fun hHeld => ?_)
        have HY := Lib.hid ((Keeps.refl [] V).drew)
        generalize V.drew = YC at *
        refine tk 0 (y := by exact skB.yields HO17.out rfl _ rfl g17 0 rfl HC17.out) (h := ?_)
        refine tk 2 (y := by exact skB.yields HO8.out rfl _ rfl g8 0 rfl HC8.out) (h := ?_)
        refine tk 3 (y := by exact skB.yields HO7.out rfl _ rfl g7 0 rfl HC7.out) (h := ?_)
        refine rp 1 (h := fun K hK => ?_)
        refine wp_call9 15 _ _ rfl [.agg A17.toArray] rfl Tryd.func15 (by kernel_rfl) (by kernel_rfl) ((R.key _ _ _ (HGL.out _ (HK.out.trans HY.out (FSub.refl _ _))) (R.new H17.out HY.out)).mono ?_)
        rintro e YC ⟨rfl, hk⟩
        rw [HKU.out]
        refine ⟨_, rfl, ?_⟩
        replace HY := Lib.hid (HY.out.trans hk (FSub.refl _ _))
        clear hk
        refine hK.out _ _ (by rw [HSE.out]; exact HY.out) (fun hHeld => ?_); clear hK K; try simp only [Act.put, lsA, lsZ, lsS]
        refine rp 4 (h := fun K hK => ?_)
        refine wp_call9 27 _ _ rfl [.agg A8.toArray, .agg A7.toArray] rfl Tryd.func27 (by kernel_rfl) (by kernel_rfl) ((R.union _ _ _ _ _ (HGL.out _ (HK.out.trans HY.out (FSub.refl _ _))) (R.new H8.out HY.out) (R.new H7.out HY.out)).mono ?_)
        rintro e YC ⟨stq, rfl, hat, hk, -⟩
        refine ⟨_, rfl, ?_⟩
        have HQ := Lib.hid hat
        clear hat
        replace HY := Lib.hid (HY.out.trans hk (FSub.refl _ _))
        clear hk
        refine hK.out _ _ (by rw [HSE.out]; exact HY.out) (fun hHeld => ?_); clear hK K; try simp only [Act.put, lsA, lsZ, lsS]
        refine rp 5 (h := fun K hK => ?_)
        refine wp_call9 15 _ _ rfl [stq] rfl Tryd.func15 (by kernel_rfl) (by kernel_rfl) ((R.key _ _ _ (HGL.out _ (HK.out.trans HY.out (FSub.refl _ _))) HQ.out).mono ?_)
        rintro e YC ⟨rfl, hk⟩
        rw [HKTU.out]
        clear HQ
        refine ⟨_, rfl, ?_⟩
        replace HY := Lib.hid (HY.out.trans hk (FSub.refl _ _))
        clear hk
        refine hK.out _ _ (by rw [HSE.out]; exact HY.out) (fun hHeld => ?_); clear hK K; try simp only [Act.put, lsA, lsZ, lsS]
        refine tw 6 (h := ?_)
        refine tw 7 (h := ?_)
        refine tk 8 (y := by exact skB.yields HO17.out rfl _ rfl g17 0 rfl HC17.out) (h := ?_)
        refine tk 9 (y := by exact skB.yields HO8.out rfl _ rfl g8 0 rfl HC8.out) (h := ?_)
        refine tk 12 (y := by exact skB.yields HO17.out rfl _ rfl g17 0 rfl HC17.out) (h := ?_)
        refine rp 10 (h := fun K hK => ?_)
        refine wp_call9 27 _ _ rfl [.agg A17.toArray, .agg A8.toArray] rfl Tryd.func27 (by kernel_rfl) (by kernel_rfl) ((R.union _ _ _ _ _ (HGL.out _ (HK.out.trans HY.out (FSub.refl _ _))) (R.new H17.out HY.out) (R.new H8.out HY.out)).mono ?_)
        rintro e YC ⟨stq, rfl, hat, hk, -⟩
        refine ⟨_, rfl, ?_⟩
        have HQ := Lib.hid hat
        clear hat
        replace HY := Lib.hid (HY.out.trans hk (FSub.refl _ _))
        clear hk
        refine hK.out _ _ (by rw [HSE.out]; exact HY.out) (fun hHeld => ?_); clear hK K; try simp only [Act.put, lsA, lsZ, lsS]
        refine rp 11 (h := fun K hK => ?_)
        refine wp_call9 15 _ _ rfl [stq] rfl Tryd.func15 (by kernel_rfl) (by kernel_rfl) ((R.key _ _ _ (HGL.out _ (HK.out.trans HY.out (FSub.refl _ _))) HQ.out).mono ?_)
        rintro e YC ⟨rfl, hk⟩
        rw [HKUU.out]
        clear HQ
        refine ⟨_, rfl, ?_⟩
        replace HY := Lib.hid (HY.out.trans hk (FSub.refl _ _))
        clear hk
        refine hK.out _ _ (by rw [HSE.out]; exact HY.out) (fun hHeld => ?_); clear hK K; try simp only [Act.put, lsA, lsZ, lsS]
        refine rp 13 (h := fun K hK => ?_)
        refine wp_call9 15 _ _ rfl [.agg A17.toArray] rfl Tryd.func15 (by kernel_rfl) (by kernel_rfl) ((R.key _ _ _ (HGL.out _ (HK.out.trans HY.out (FSub.refl _ _))) (R.new H17.out HY.out)).mono ?_)
        rintro e YC ⟨rfl, hk⟩
        rw [HKU.out]
        refine ⟨_, rfl, ?_⟩
        replace HY := Lib.hid (HY.out.trans hk (FSub.refl _ _))
        clear hk
        refine hK.out _ _ (by rw [HSE.out]; exact HY.out) (fun hHeld => ?_); clear hK K; try simp only [Act.put, lsA, lsZ, lsS]
        refine tw 14 (h := ?_)
        refine tw 15 (h := ?_)
        refine tw 16 (h := ?_)
        refine tk 17 (y := by exact skB.yields HO7.out rfl _ rfl g7 0 rfl HC7.out) (h := ?_)
        refine tk 18 (y := by exact skB.yields HO17.out rfl _ rfl g17 0 rfl HC17.out) (h := ?_)
        refine rp 19 (h := fun K hK => ?_)
        refine wp_call9 24 _ _ rfl [.agg A7.toArray, .agg A17.toArray] rfl Tryd.func24 (by kernel_rfl) (by kernel_rfl) ((R.within _ _ _ _ _ (HGL.out _ (HK.out.trans HY.out (FSub.refl _ _))) (R.new H7.out HY.out) (R.new H17.out HY.out)).mono ?_)
        rintro e YC ⟨rfl, hk⟩
        rw [HW1.out]
        refine ⟨_, rfl, ?_⟩
        replace HY := Lib.hid (HY.out.trans hk (FSub.refl _ _))
        clear hk
        refine hK.out _ _ (by rw [HSE.out]; exact HY.out) (fun hHeld => ?_); clear hK K; try simp only [Act.put, lsA, lsZ, lsS]
        refine tw 20 (h := ?_)
        refine tw 21 (h := ?_)
        refine tk 22 (y := by exact skB.yields HO8.out rfl _ rfl g8 0 rfl HC8.out) (h := ?_)
        refine tk 23 (y := by exact skB.yields HO17.out rfl _ rfl g17 0 rfl HC17.out) (h := ?_)
        refine rp 24 (h := fun K hK => ?_)
        refine wp_call9 24 _ _ rfl [.agg A8.toArray, .agg A17.toArray] rfl Tryd.func24 (by kernel_rfl) (by kernel_rfl) ((R.within _ _ _ _ _ (HGL.out _ (HK.out.trans HY.out (FSub.refl _ _))) (R.new H8.out HY.out) (R.new H17.out HY.out)).mono ?_)
        rintro e YC ⟨rfl, hk⟩
        rw [HW2.out]
        refine ⟨_, rfl, ?_⟩
        replace HY := Lib.hid (HY.out.trans hk (FSub.refl _ _))
        clear hk
        refine hK.out _ _ (by rw [HSE.out]; exact HY.out) (fun hHeld => ?_); clear hK K; try simp only [Act.put, lsA, lsZ, lsS]
        refine tw 25 (h := ?_)
        refine tw 26 (h := ?_)
        refine tk 27 (y := by exact skB.yields HO7.out rfl _ rfl g7 0 rfl HC7.out) (h := ?_)
        refine tk 28 (y := by exact skB.yields HO8.out rfl _ rfl g8 0 rfl HC8.out) (h := ?_)
        refine tk 30 (y := by exact skB.yields HO17.out rfl _ rfl g17 0 rfl HC17.out) (h := ?_)
        refine tk 32 (y := by exact skB.yields HO8.out rfl _ rfl g8 0 rfl HC8.out) (h := ?_)
        refine rp 29 (h := fun K hK => ?_)
        refine wp_call9 24 _ _ rfl [.agg A7.toArray, .agg A8.toArray] rfl Tryd.func24 (by kernel_rfl) (by kernel_rfl) ((R.within _ _ _ _ _ (HGL.out _ (HK.out.trans HY.out (FSub.refl _ _))) (R.new H7.out HY.out) (R.new H8.out HY.out)).mono ?_)
        rintro e YC ⟨rfl, hk⟩
        rw [HW3.out]
        refine ⟨_, rfl, ?_⟩
        replace HY := Lib.hid (HY.out.trans hk (FSub.refl _ _))
        clear hk
        refine hK.out _ _ (by rw [HSE.out]; exact HY.out) (fun hHeld => ?_); clear hK K; try simp only [Act.put, lsA, lsZ, lsS]
        refine rp 31 (h := fun K hK => ?_)
        refine wp_call9 15 _ _ rfl [.agg A17.toArray] rfl Tryd.func15 (by kernel_rfl) (by kernel_rfl) ((R.key _ _ _ (HGL.out _ (HK.out.trans HY.out (FSub.refl _ _))) (R.new H17.out HY.out)).mono ?_)
        rintro e YC ⟨rfl, hk⟩
        rw [HKU.out]
        refine ⟨_, rfl, ?_⟩
        replace HY := Lib.hid (HY.out.trans hk (FSub.refl _ _))
        clear hk
        refine hK.out _ _ (by rw [HSE.out]; exact HY.out) (fun hHeld => ?_); clear hK K; try simp only [Act.put, lsA, lsZ, lsS]
        refine rp 33 (h := fun K hK => ?_)
        refine wp_call9 15 _ _ rfl [.agg A8.toArray] rfl Tryd.func15 (by kernel_rfl) (by kernel_rfl) ((R.key _ _ _ (HGL.out _ (HK.out.trans HY.out (FSub.refl _ _))) (R.new H8.out HY.out)).mono ?_)
        rintro e YC ⟨rfl, hk⟩
        rw [HKT.out]
        refine ⟨_, rfl, ?_⟩
        replace HY := Lib.hid (HY.out.trans hk (FSub.refl _ _))
        clear hk
        refine hK.out _ _ (by rw [HSE.out]; exact HY.out) (fun hHeld => ?_); clear hK K; try simp only [Act.put, lsA, lsZ, lsS]
        refine tw 34 (h := ?_)
        refine tw 35 (h := ?_)
        refine tw 36 (h := ?_)
        refine tw 37 (h := ?_)
        refine tk 38 (y := by exact skB.yields HO17.out rfl _ rfl g17 0 rfl HC17.out) (h := ?_)
        refine tk 40 (y := by exact skB.yields HO7.out rfl _ rfl g7 0 rfl HC7.out) (h := ?_)
        refine tk 42 (y := by exact skB.yields HO8.out rfl _ rfl g8 0 rfl HC8.out) (h := ?_)
        refine rp 39 (h := fun K hK => ?_)
        refine wp_call9 28 _ _ rfl [.agg A17.toArray] rfl Tryd.func28 (by kernel_rfl) (by kernel_rfl) ((R.count _ _ _ (HGL.out _ (HK.out.trans HY.out (FSub.refl _ _))) (R.new H17.out HY.out)).mono ?_)
        rintro e YC ⟨rfl, hk⟩
        rw [HNU.out]
        refine ⟨_, rfl, ?_⟩
        replace HY := Lib.hid (HY.out.trans hk (FSub.refl _ _))
        clear hk
        refine hK.out _ _ (by rw [HSE.out]; exact HY.out) (fun hHeld => ?_); clear hK K; try simp only [Act.put, lsA, lsZ, lsS]
        refine rp 41 (h := fun K hK => ?_)
        refine wp_call9 28 _ _ rfl [.agg A7.toArray] rfl Tryd.func28 (by kernel_rfl) (by kernel_rfl) ((R.count _ _ _ (HGL.out _ (HK.out.trans HY.out (FSub.refl _ _))) (R.new H7.out HY.out)).mono ?_)
        rintro e YC ⟨rfl, hk⟩
        rw [HNS.out]
        refine ⟨_, rfl, ?_⟩
        replace HY := Lib.hid (HY.out.trans hk (FSub.refl _ _))
        clear hk
        refine hK.out _ _ (by rw [HSE.out]; exact HY.out) (fun hHeld => ?_); clear hK K; try simp only [Act.put, lsA, lsZ, lsS]
        refine rp 43 (h := fun K hK => ?_)
        refine wp_call9 28 _ _ rfl [.agg A8.toArray] rfl Tryd.func28 (by kernel_rfl) (by kernel_rfl) ((R.count _ _ _ (HGL.out _ (HK.out.trans HY.out (FSub.refl _ _))) (R.new H8.out HY.out)).mono ?_)
        rintro e YC ⟨rfl, hk⟩
        rw [HNT.out]
        refine ⟨_, rfl, ?_⟩
        replace HY := Lib.hid (HY.out.trans hk (FSub.refl _ _))
        clear hk
        refine hK.out _ _ (by rw [HSE.out]; exact HY.out) (fun hHeld => ?_); clear hK K; try simp only [Act.put, lsA, lsZ, lsS]
        refine tw 44 (h := ?_)
        refine tw 45 (h := ?_)
        refine tw 46 (h := ?_)
        refine tw 47 (h := ?_)
        refine rp 48 (h := fun K hK => ?_)
        refine wp_call9 9 _ _ rfl [] rfl Tryd.func9 (by kernel_rfl) (by kernel_rfl) ((awake15_any R _ (HGL.out _ (HK.out.trans HY.out (FSub.refl _ _)))).mono ?_)
        rintro e YC ⟨rfl, hk⟩
        refine ⟨_, rfl, ?_⟩
        replace HY := Lib.hid (HY.out.trans hk (FSub.refl _ _))
        clear hk
        refine hK.out _ _ (by rw [HSE.out]; exact HY.out) (fun hHeld => ?_); clear hK K; try simp only [Act.put, lsA, lsZ, lsS]
        refine tw 49 (h := ?_)
        refine tw 50 (h := ?_)
        refine wpAnyH_done (by kernel_rfl) ?_ _
        refine NoPanic.normal ?_
        have hk := HY.out
        replace HK := Lib.hid (HK.out.trans hk (FSub.refl _ _))
        try (replace H7 := Lib.hid (R.new H7.out hk); replace HB7 := Lib.hid (hk.heap HB7.out (by simp)))
        try (replace H8 := Lib.hid (R.new H8.out hk); replace HB8 := Lib.hid (hk.heap HB8.out (by simp)))
        try replace H12 := Lib.hid (R.new H12.out hk)
        try replace HB12 := Lib.hid (hk.heap HB12.out (by simp))
        try replace H14 := Lib.hid (R.new H14.out hk)
        try replace HB14 := Lib.hid (hk.heap HB14.out (by simp))
        try replace H15 := Lib.hid (R.new H15.out hk)
        try replace HB15 := Lib.hid (hk.heap HB15.out (by simp))
        try replace H17 := Lib.hid (R.new H17.out hk)
        try replace HB17 := Lib.hid (hk.heap HB17.out (by simp))
        replace HBX := Lib.hid (hk.heap HBX.out (by simp))
        clear hk hHeld hSD HSE HY HC7 HC8 HC17
        clear V
        obtain ⟨V, hV⟩ : ∃ x, x = YC := ⟨_, rfl⟩
        subst hV
        go_wp2_with fail
        go_ret
        exact ⟨rfl, HK.out⟩
      · have t0 : decide (0 ≤ x0) = true := decide_eq_true hneg
        have HM0 := Lib.hid (show decide (x0 ∈ withB S x0) = decide (x0 ≤ 65535) from by
          rw [decide_eq_decide, mem_withB]
          constructor
          · rintro (h | h)
            · exact h.2.2
            · exact (HSB.out.of h).2
          · intro h; exact .inl ⟨rfl, hneg, h⟩)
        have c0 := cell_lit HBX.out 0 (v := .int .i64 x0) rfl
        clear hneg
        go_wp2_with fail
        clear c0
        refine wp_joinQ (fun _ _ us a => ((((((((((((((((((((((((((((((((((((((((((((((((((((((((((((((((a.put (some 117) (us.getD 0 undef)).put (some 118) (us.getD 1 undef)).put (some 119) (us.getD 2 undef)).put (some 120) (us.getD 3 undef)).put (some 121) (us.getD 4 undef)).put (some 122) (us.getD 5 undef)).put (some 123) (us.getD 6 undef)).put (some 124) (us.getD 7 undef)).put (some 125) (us.getD 8 undef)).put (some 126) (us.getD 9 undef)).put (some 127) (us.getD 10 undef)).put (some 128) (us.getD 11 undef)).put (some 129) (us.getD 12 undef)).put (some 130) (us.getD 13 undef)).put (some 131) (us.getD 14 undef)).put (some 132) (us.getD 15 undef)).put (some 133) (us.getD 16 undef)).put (some 134) (us.getD 17 undef)).put (some 135) (us.getD 18 undef)).put (some 136) (us.getD 19 undef)).put (some 137) (us.getD 20 undef)).put (some 138) (us.getD 21 undef)).put (some 139) (us.getD 22 undef)).put (some 140) (us.getD 23 undef)).put (some 141) (us.getD 24 undef)).put (some 142) (us.getD 25 undef)).put (some 143) (us.getD 26 undef)).put (some 144) (us.getD 27 undef)).put (some 145) (us.getD 28 undef)).put (some 146) (us.getD 29 undef)).put (some 147) (us.getD 30 undef)).put (some 148) (us.getD 31 undef)).put (some 149) (us.getD 32 undef)).put (some 150) (us.getD 33 undef)).put (some 151) (us.getD 34 undef)).put (some 152) (us.getD 35 undef)).put (some 153) (us.getD 36 undef)).put (some 154) (us.getD 37 undef)).put (some 155) (us.getD 38 undef)).put (some 156) (us.getD 39 undef)).put (some 157) (us.getD 40 undef)).put (some 158) (us.getD 41 undef)).put (some 159) (us.getD 42 undef)).put (some 160) (us.getD 43 undef)).put (some 161) (us.getD 44 undef)).put (some 162) (us.getD 45 undef)).put (some 163) (us.getD 46 undef)).put (some 164) (us.getD 47 undef)).put (some 165) (us.getD 48 undef)).put (some 166) (us.getD 49 undef)).put (some 167) (us.getD 50 undef)).put (some 168) (us.getD 51 undef)).put (some 169) (us.getD 52 undef)).put (some 170) (us.getD 53 undef)).put (some 171) (us.getD 54 undef)).put (some 172) (us.getD 55 undef)).put (some 173) (us.getD 56 undef)).put (some 174) (us.getD 57 undef)).put (some 175) (us.getD 58 undef)).put (some 176) (us.getD 59 undef)).put (some 177) (us.getD 60 undef)).put (some 178) (us.getD 61 undef)).put (some 179) (us.getD 62 undef)).put (some 180) (.bool false))) (fun _ _ w' => Keeps [] V w') ?_ ?_
        · skip
          by_cases hin : x0 ∈ S
          · have HS0 := Lib.hid (show decide (x0 ∈ S) = true from decide_eq_true hin)
            have HKM := Lib.hid (show bs (keyB (withB S x0)) = kS from by rw [withB_has HSB.out hin]; exact HKS.out)
            clear hin
            by_cases heq : x1 = x0
            · have t1 : (x1 != x0) = false := by rw [heq]; simp
              clear heq
              as_aux_lemma =>
              obtain ⟨S0, hS0⟩ : ∃ S0 : World → Prop, S0 = fun y => Keeps [] V y := ⟨_, rfl⟩
              have HSE := Lib.hid hS0
              have hSD : S0 V.drew := by rw [hS0]; exact (Keeps.refl _ _).drew
              have HC7 := Lib.hid (fun (w' : World) (hh : S0 w') => show w'.rangeAt g7 0 A7 from by rw [hS0] at hh; exact block_range (hh.heap HB7.out (by simp)))
              have HC14 := Lib.hid (fun (w' : World) (hh : S0 w') => show w'.rangeAt g14 0 A14 from by rw [hS0] at hh; exact block_range (hh.heap HB14.out (by simp)))
              have HC15 := Lib.hid (fun (w' : World) (hh : S0 w') => show w'.rangeAt g15 0 A15 from by rw [hS0] at hh; exact block_range (hh.heap HB15.out (by simp)))
              have HX0 := Lib.hid (fun (w' : World) (hh : S0 w') => show w'.cell? ⟨gx, 0, none⟩ = some (.int .i64 x0) from by rw [hS0] at hh; exact cell_lit (hh.heap HBX.out (by simp)) 0 rfl)
              have HX1 := Lib.hid (fun (w' : World) (hh : S0 w') => show w'.cell? ⟨gx, 1, none⟩ = some (.int .i64 x1) from by rw [hS0] at hh; exact cell_lit (hh.heap HBX.out (by simp)) 1 rfl)
              clear hS0
              refine wp_region_noPanic ?_
              refine wp_region_held_drew (S := S0) (by kernel_rfl) hSD (fun hHeld => ?_)
              have HY := Lib.hid ((Keeps.refl [] V).drew)
              generalize V.drew = YC at *
              refine tk 0 (y := by exact skB.yields HO14.out rfl _ rfl g14 0 rfl HC14.out) (h := ?_)
              refine tw 1 (h := ?_)
              refine tk 2 (y := by exact Or.inl ⟨by rfl, by intro w hSw; have q0 := HX0.out w hSw; go_simp; try with_reducible rfl⟩) (h := ?_)
              refine tw 4 (h := ?_)
              refine rp 3 (h := fun K hK => ?_)
              refine wp_call9 11 _ _ rfl [.agg A14.toArray, .int .i64 x0] rfl Tryd.func11 (by kernel_rfl) (by kernel_rfl) ((R.has _ _ _ x0 (HGL.out _ (HK.out.trans HY.out (FSub.refl _ _))) (R.new H14.out HY.out) HI0.out).mono ?_)
              rintro e YC ⟨rfl, hk⟩
              rw [HM0.out]
              refine ⟨_, rfl, ?_⟩
              replace HY := Lib.hid (HY.out.trans hk (FSub.refl _ _))
              clear hk
              refine hK.out _ _ (by rw [HSE.out]; exact HY.out) (fun hHeld => ?_); clear hK K; try simp only [Act.put, lsA, lsZ, lsS]
              refine tw 5 (h := ?_)
              refine tw 6 (h := ?_)
              refine tk 7 (y := by exact skB.yields HO15.out rfl _ rfl g15 0 rfl HC15.out) (h := ?_)
              refine tw 8 (h := ?_)
              refine tk 9 (y := by exact Or.inl ⟨by rfl, by intro w hSw; have q0 := HX0.out w hSw; go_simp; try with_reducible rfl⟩) (h := ?_)
              refine rp 10 (h := fun K hK => ?_)
              refine wp_call9 11 _ _ rfl [.agg A15.toArray, .int .i64 x0] rfl Tryd.func11 (by kernel_rfl) (by kernel_rfl) ((R.has _ _ _ x0 (HGL.out _ (HK.out.trans HY.out (FSub.refl _ _))) (R.new H15.out HY.out) HI0.out).mono ?_)
              rintro e YC ⟨rfl, hk⟩
              rw [HL0.out]
              refine ⟨_, rfl, ?_⟩
              replace HY := Lib.hid (HY.out.trans hk (FSub.refl _ _))
              clear hk
              refine hK.out _ _ (by rw [HSE.out]; exact HY.out) (fun hHeld => ?_); clear hK K; try simp only [Act.put, lsA, lsZ, lsS]
              refine tw 11 (h := ?_)
              refine tw 12 (h := ?_)
              refine tw 13 (h := ?_)
              refine tk 14 (y := by exact Or.inl ⟨by rfl, by intro w hSw; have q0 := HX1.out w hSw; go_simp; try with_reducible rfl⟩) (h := ?_)
              refine tw 15 (h := ?_)
              refine tk 16 (y := by exact Or.inl ⟨by rfl, by intro w hSw; have q0 := HX0.out w hSw; go_simp; try with_reducible rfl⟩) (h := ?_)
              refine tw 17 (h := ?_)
              refine tw 18 (h := ?_)
              refine tk 19 (y := by exact Or.inr ⟨by rfl, rfl⟩) (h := ?_)
              refine tk 20 (y := by exact Or.inr ⟨by rfl, rfl⟩) (h := ?_)
              refine tk 21 (y := by exact Or.inr ⟨by rfl, rfl⟩) (h := ?_)
              refine tk 23 (y := by exact Or.inr ⟨by rfl, rfl⟩) (h := ?_)
              refine tk 24 (y := by exact Or.inr ⟨by rfl, rfl⟩) (h := ?_)
              refine tk 25 (y := by exact Or.inr ⟨by rfl, rfl⟩) (h := ?_)
              refine rd 22 (h := fun K hK => ?_)
              rw [if_neg (Bool.eq_false_iff.1 (by rfl))]
              refine hK.out _ _ (by rw [HSE.out]; exact HY.out) (fun hHeld => ?_); clear hK K; try simp only [Act.put, lsA, lsZ, lsS]
              refine rd 26 (h := fun K hK => ?_)
              rw [if_neg (Bool.eq_false_iff.1 (by rfl))]
              refine hK.out _ _ (by rw [HSE.out]; exact HY.out) (fun hHeld => ?_); clear hK K; try simp only [Act.put, lsA, lsZ, lsS]
              refine tk 27 (y := by exact Or.inr ⟨by rfl, rfl⟩) (h := ?_)
              refine tk 28 (y := by exact Or.inr ⟨by rfl, rfl⟩) (h := ?_)
              refine tk 29 (y := by exact Or.inr ⟨by rfl, rfl⟩) (h := ?_)
              refine tk 30 (y := by exact Or.inr ⟨by rfl, rfl⟩) (h := ?_)
              refine tk 31 (y := by exact Or.inr ⟨by rfl, rfl⟩) (h := ?_)
              refine tk 33 (y := by exact Or.inr ⟨by rfl, rfl⟩) (h := ?_)
              refine tk 34 (y := by exact Or.inr ⟨by rfl, rfl⟩) (h := ?_)
              refine tk 35 (y := by exact Or.inr ⟨by rfl, rfl⟩) (h := ?_)
              refine rd 32 (h := fun K hK => ?_)
              rw [if_neg (Bool.eq_false_iff.1 (by rfl))]
              refine hK.out _ _ (by rw [HSE.out]; exact HY.out) (fun hHeld => ?_); clear hK K; try simp only [Act.put, lsA, lsZ, lsS]
              refine rd 36 (h := fun K hK => ?_)
              rw [if_neg (Bool.eq_false_iff.1 (by rfl))]
              refine hK.out _ _ (by rw [HSE.out]; exact HY.out) (fun hHeld => ?_); clear hK K; try simp only [Act.put, lsA, lsZ, lsS]
              refine tk 37 (y := by exact Or.inr ⟨by rfl, rfl⟩) (h := ?_)
              refine tk 38 (y := by exact Or.inr ⟨by rfl, rfl⟩) (h := ?_)
              refine tw 39 (h := ?_)
              refine tw 40 (h := ?_)
              refine tw 41 (h := ?_)
              refine tk 42 (y := by exact skB.yields HO14.out rfl _ rfl g14 0 rfl HC14.out) (h := ?_)
              refine tw 43 (h := ?_)
              refine tk 44 (y := by exact Or.inl ⟨by rfl, by intro w hSw; have q0 := HX0.out w hSw; go_simp; try with_reducible rfl⟩) (h := ?_)
              refine tk 47 (y := by exact skB.yields HO15.out rfl _ rfl g15 0 rfl HC15.out) (h := ?_)
              refine rp 45 (h := fun K hK => ?_)
              refine wp_call9 26 _ _ rfl [.agg A14.toArray, .int .i64 x0] rfl Tryd.func26 (by kernel_rfl) (by kernel_rfl) ((R.without _ _ _ x0 (HGL.out _ (HK.out.trans HY.out (FSub.refl _ _))) (R.new H14.out HY.out) HI0.out).mono ?_)
              rintro e YC ⟨stq, rfl, hat, hk, -⟩
              refine ⟨_, rfl, ?_⟩
              have HQ := Lib.hid hat
              clear hat
              replace HY := Lib.hid (HY.out.trans hk (FSub.refl _ _))
              clear hk
              refine hK.out _ _ (by rw [HSE.out]; exact HY.out) (fun hHeld => ?_); clear hK K; try simp only [Act.put, lsA, lsZ, lsS]
              refine rp 46 (h := fun K hK => ?_)
              refine wp_call9 15 _ _ rfl [stq] rfl Tryd.func15 (by kernel_rfl) (by kernel_rfl) ((R.key _ _ _ (HGL.out _ (HK.out.trans HY.out (FSub.refl _ _))) HQ.out).mono ?_)
              rintro e YC ⟨rfl, hk⟩
              rw [HKML.out]
              clear HQ
              refine ⟨_, rfl, ?_⟩
              replace HY := Lib.hid (HY.out.trans hk (FSub.refl _ _))
              clear hk
              refine hK.out _ _ (by rw [HSE.out]; exact HY.out) (fun hHeld => ?_); clear hK K; try simp only [Act.put, lsA, lsZ, lsS]
              refine rp 48 (h := fun K hK => ?_)
              refine wp_call9 15 _ _ rfl [.agg A15.toArray] rfl Tryd.func15 (by kernel_rfl) (by kernel_rfl) ((R.key _ _ _ (HGL.out _ (HK.out.trans HY.out (FSub.refl _ _))) (R.new H15.out HY.out)).mono ?_)
              rintro e YC ⟨rfl, hk⟩
              rw [HKL.out]
              refine ⟨_, rfl, ?_⟩
              replace HY := Lib.hid (HY.out.trans hk (FSub.refl _ _))
              clear hk
              refine hK.out _ _ (by rw [HSE.out]; exact HY.out) (fun hHeld => ?_); clear hK K; try simp only [Act.put, lsA, lsZ, lsS]
              refine tw 49 (h := ?_)
              refine tw 50 (h := ?_)
              refine tw 51 (h := ?_)
              refine tk 52 (y := by exact skB.yields HO7.out rfl _ rfl g7 0 rfl HC7.out) (h := ?_)
              refine tw 53 (h := ?_)
              refine tk 54 (y := by exact Or.inl ⟨by rfl, by intro w hSw; have q0 := HX0.out w hSw; go_simp; try with_reducible rfl⟩) (h := ?_)
              refine rp 55 (h := fun K hK => ?_)
              refine wp_call9 11 _ _ rfl [.agg A7.toArray, .int .i64 x0] rfl Tryd.func11 (by kernel_rfl) (by kernel_rfl) ((R.has _ _ _ x0 (HGL.out _ (HK.out.trans HY.out (FSub.refl _ _))) (R.new H7.out HY.out) HI0.out).mono ?_)
              rintro e YC ⟨rfl, hk⟩
              rw [HS0.out]
              refine ⟨_, rfl, ?_⟩
              replace HY := Lib.hid (HY.out.trans hk (FSub.refl _ _))
              clear hk
              refine hK.out _ _ (by rw [HSE.out]; exact HY.out) (fun hHeld => ?_); clear hK K; try simp only [Act.put, lsA, lsZ, lsS]
              refine tw 56 (h := ?_)
              refine tk 57 (y := by exact skB.yields HO14.out rfl _ rfl g14 0 rfl HC14.out) (h := ?_)
              refine tk 59 (y := by exact skB.yields HO7.out rfl _ rfl g7 0 rfl HC7.out) (h := ?_)
              refine rp 58 (h := fun K hK => ?_)
              refine wp_call9 15 _ _ rfl [.agg A14.toArray] rfl Tryd.func15 (by kernel_rfl) (by kernel_rfl) ((R.key _ _ _ (HGL.out _ (HK.out.trans HY.out (FSub.refl _ _))) (R.new H14.out HY.out)).mono ?_)
              rintro e YC ⟨rfl, hk⟩
              rw [HKM.out]
              refine ⟨_, rfl, ?_⟩
              replace HY := Lib.hid (HY.out.trans hk (FSub.refl _ _))
              clear hk
              refine hK.out _ _ (by rw [HSE.out]; exact HY.out) (fun hHeld => ?_); clear hK K; try simp only [Act.put, lsA, lsZ, lsS]
              refine rp 60 (h := fun K hK => ?_)
              refine wp_call9 15 _ _ rfl [.agg A7.toArray] rfl Tryd.func15 (by kernel_rfl) (by kernel_rfl) ((R.key _ _ _ (HGL.out _ (HK.out.trans HY.out (FSub.refl _ _))) (R.new H7.out HY.out)).mono ?_)
              rintro e YC ⟨rfl, hk⟩
              rw [HKS.out]
              refine ⟨_, rfl, ?_⟩
              replace HY := Lib.hid (HY.out.trans hk (FSub.refl _ _))
              clear hk
              refine hK.out _ _ (by rw [HSE.out]; exact HY.out) (fun hHeld => ?_); clear hK K; try simp only [Act.put, lsA, lsZ, lsS]
              refine tw 61 (h := ?_)
              refine tw 62 (h := ?_)
              refine tw 63 (h := ?_)
              refine wpAnyH_done (by kernel_rfl) ?_ _
              refine NoPanic.normal ?_
              exact ⟨rfl, 0, 0, [_, _, _, _, _, _, _, _, _, _, _, _, _, _, _, _, _, _, _, _, _, _, _, _, _, _, _, _, _, _, _, _, _, _, _, _, _, _, _, _, _, _, _, _, _, _, _, _, _, _, _, _, _, _, _, _, _, _, _, _, _, _, _], rfl, HY.out⟩
            · skip
              have t1 : (x1 != x0) = true := by rw [bne_iff_ne]; exact heq
              have HM1 := Lib.hid (show decide (x1 ∈ withB S x0) = decide (x1 ∈ S) from by
                rw [decide_eq_decide, mem_withB]
                exact ⟨fun h => h.elim (fun h => absurd h.1 heq) id, .inr⟩)
              have HL1 := Lib.hid (show decide (x1 ∈ withoutB S x0) = decide (x1 ∈ S) from by
                rw [decide_eq_decide, mem_withoutB]
                exact ⟨fun h => h.1, fun h => ⟨h, heq⟩⟩)
              clear heq
              obtain ⟨b1, hb1⟩ : ∃ x, x = decide (x1 ∈ S) := ⟨_, rfl⟩
              have HS1 := Lib.hid (show decide (x1 ∈ S) = b1 from hb1.symm)
              rw [← hb1] at HM1 HL1
              clear hb1
              as_aux_lemma =>
              obtain ⟨S0, hS0⟩ : ∃ S0 : World → Prop, S0 = fun y => Keeps [] V y := ⟨_, rfl⟩
              have HSE := Lib.hid hS0
              have hSD : S0 V.drew := by rw [hS0]; exact (Keeps.refl _ _).drew
              have HC7 := Lib.hid (fun (w' : World) (hh : S0 w') => show w'.rangeAt g7 0 A7 from by rw [hS0] at hh; exact block_range (hh.heap HB7.out (by simp)))
              have HC14 := Lib.hid (fun (w' : World) (hh : S0 w') => show w'.rangeAt g14 0 A14 from by rw [hS0] at hh; exact block_range (hh.heap HB14.out (by simp)))
              have HC15 := Lib.hid (fun (w' : World) (hh : S0 w') => show w'.rangeAt g15 0 A15 from by rw [hS0] at hh; exact block_range (hh.heap HB15.out (by simp)))
              have HX0 := Lib.hid (fun (w' : World) (hh : S0 w') => show w'.cell? ⟨gx, 0, none⟩ = some (.int .i64 x0) from by rw [hS0] at hh; exact cell_lit (hh.heap HBX.out (by simp)) 0 rfl)
              have HX1 := Lib.hid (fun (w' : World) (hh : S0 w') => show w'.cell? ⟨gx, 1, none⟩ = some (.int .i64 x1) from by rw [hS0] at hh; exact cell_lit (hh.heap HBX.out (by simp)) 1 rfl)
              clear hS0
              refine wp_region_noPanic ?_
              refine wp_region_held_drew (S := S0) (by kernel_rfl) hSD (fun hHeld => ?_)
              have HY := Lib.hid ((Keeps.refl [] V).drew)
              generalize V.drew = YC at *
              refine tk 0 (y := by exact skB.yields HO14.out rfl _ rfl g14 0 rfl HC14.out) (h := ?_)
              refine tw 1 (h := ?_)
              refine tk 2 (y := by exact Or.inl ⟨by rfl, by intro w hSw; have q0 := HX0.out w hSw; go_simp; try with_reducible rfl⟩) (h := ?_)
              refine tw 4 (h := ?_)
              refine rp 3 (h := fun K hK => ?_)
              refine wp_call9 11 _ _ rfl [.agg A14.toArray, .int .i64 x0] rfl Tryd.func11 (by kernel_rfl) (by kernel_rfl) ((R.has _ _ _ x0 (HGL.out _ (HK.out.trans HY.out (FSub.refl _ _))) (R.new H14.out HY.out) HI0.out).mono ?_)
              rintro e YC ⟨rfl, hk⟩
              rw [HM0.out]
              refine ⟨_, rfl, ?_⟩
              replace HY := Lib.hid (HY.out.trans hk (FSub.refl _ _))
              clear hk
              refine hK.out _ _ (by rw [HSE.out]; exact HY.out) (fun hHeld => ?_); clear hK K; try simp only [Act.put, lsA, lsZ, lsS]
              refine tw 5 (h := ?_)
              refine tw 6 (h := ?_)
              refine tk 7 (y := by exact skB.yields HO15.out rfl _ rfl g15 0 rfl HC15.out) (h := ?_)
              refine tw 8 (h := ?_)
              refine tk 9 (y := by exact Or.inl ⟨by rfl, by intro w hSw; have q0 := HX0.out w hSw; go_simp; try with_reducible rfl⟩) (h := ?_)
              refine rp 10 (h := fun K hK => ?_)
              refine wp_call9 11 _ _ rfl [.agg A15.toArray, .int .i64 x0] rfl Tryd.func11 (by kernel_rfl) (by kernel_rfl) ((R.has _ _ _ x0 (HGL.out _ (HK.out.trans HY.out (FSub.refl _ _))) (R.new H15.out HY.out) HI0.out).mono ?_)
              rintro e YC ⟨rfl, hk⟩
              rw [HL0.out]
              refine ⟨_, rfl, ?_⟩
              replace HY := Lib.hid (HY.out.trans hk (FSub.refl _ _))
              clear hk
              refine hK.out _ _ (by rw [HSE.out]; exact HY.out) (fun hHeld => ?_); clear hK K; try simp only [Act.put, lsA, lsZ, lsS]
              refine tw 11 (h := ?_)
              refine tw 12 (h := ?_)
              refine tw 13 (h := ?_)
              refine tk 14 (y := by exact Or.inl ⟨by rfl, by intro w hSw; have q0 := HX1.out w hSw; go_simp; try with_reducible rfl⟩) (h := ?_)
              refine tw 15 (h := ?_)
              refine tk 16 (y := by exact Or.inl ⟨by rfl, by intro w hSw; have q0 := HX0.out w hSw; go_simp; try with_reducible rfl⟩) (h := ?_)
              refine tw 17 (h := ?_)
              refine tw 18 (h := ?_)
              refine tk 19 (y := by exact skB.yields HO14.out rfl _ rfl g14 0 rfl HC14.out) (h := ?_)
              refine tw 20 (h := ?_)
              refine tk 21 (y := by exact Or.inl ⟨by rfl, by intro w hSw; have q0 := HX1.out w hSw; go_simp; try with_reducible rfl⟩) (h := ?_)
              refine tk 23 (y := by exact skB.yields HO7.out rfl _ rfl g7 0 rfl HC7.out) (h := ?_)
              refine tw 24 (h := ?_)
              refine tk 25 (y := by exact Or.inl ⟨by rfl, by intro w hSw; have q0 := HX1.out w hSw; go_simp; try with_reducible rfl⟩) (h := ?_)
              refine rp 22 (h := fun K hK => ?_)
              refine wp_call9 11 _ _ rfl [.agg A14.toArray, .int .i64 x1] rfl Tryd.func11 (by kernel_rfl) (by kernel_rfl) ((R.has _ _ _ x1 (HGL.out _ (HK.out.trans HY.out (FSub.refl _ _))) (R.new H14.out HY.out) HI1.out).mono ?_)
              rintro e YC ⟨rfl, hk⟩
              rw [HM1.out]
              refine ⟨_, rfl, ?_⟩
              replace HY := Lib.hid (HY.out.trans hk (FSub.refl _ _))
              clear hk
              refine hK.out _ _ (by rw [HSE.out]; exact HY.out) (fun hHeld => ?_); clear hK K; try simp only [Act.put, lsA, lsZ, lsS]
              refine rp 26 (h := fun K hK => ?_)
              refine wp_call9 11 _ _ rfl [.agg A7.toArray, .int .i64 x1] rfl Tryd.func11 (by kernel_rfl) (by kernel_rfl) ((R.has _ _ _ x1 (HGL.out _ (HK.out.trans HY.out (FSub.refl _ _))) (R.new H7.out HY.out) HI1.out).mono ?_)
              rintro e YC ⟨rfl, hk⟩
              rw [HS1.out]
              refine ⟨_, rfl, ?_⟩
              replace HY := Lib.hid (HY.out.trans hk (FSub.refl _ _))
              clear hk
              refine hK.out _ _ (by rw [HSE.out]; exact HY.out) (fun hHeld => ?_); clear hK K; try simp only [Act.put, lsA, lsZ, lsS]
              refine tw 27 (h := ?_)
              refine tw 28 (h := ?_)
              refine tk 29 (y := by exact skB.yields HO15.out rfl _ rfl g15 0 rfl HC15.out) (h := ?_)
              refine tw 30 (h := ?_)
              refine tk 31 (y := by exact Or.inl ⟨by rfl, by intro w hSw; have q0 := HX1.out w hSw; go_simp; try with_reducible rfl⟩) (h := ?_)
              refine tk 33 (y := by exact skB.yields HO7.out rfl _ rfl g7 0 rfl HC7.out) (h := ?_)
              refine tw 34 (h := ?_)
              refine tk 35 (y := by exact Or.inl ⟨by rfl, by intro w hSw; have q0 := HX1.out w hSw; go_simp; try with_reducible rfl⟩) (h := ?_)
              refine rp 32 (h := fun K hK => ?_)
              refine wp_call9 11 _ _ rfl [.agg A15.toArray, .int .i64 x1] rfl Tryd.func11 (by kernel_rfl) (by kernel_rfl) ((R.has _ _ _ x1 (HGL.out _ (HK.out.trans HY.out (FSub.refl _ _))) (R.new H15.out HY.out) HI1.out).mono ?_)
              rintro e YC ⟨rfl, hk⟩
              rw [HL1.out]
              refine ⟨_, rfl, ?_⟩
              replace HY := Lib.hid (HY.out.trans hk (FSub.refl _ _))
              clear hk
              refine hK.out _ _ (by rw [HSE.out]; exact HY.out) (fun hHeld => ?_); clear hK K; try simp only [Act.put, lsA, lsZ, lsS]
              refine rp 36 (h := fun K hK => ?_)
              refine wp_call9 11 _ _ rfl [.agg A7.toArray, .int .i64 x1] rfl Tryd.func11 (by kernel_rfl) (by kernel_rfl) ((R.has _ _ _ x1 (HGL.out _ (HK.out.trans HY.out (FSub.refl _ _))) (R.new H7.out HY.out) HI1.out).mono ?_)
              rintro e YC ⟨rfl, hk⟩
              rw [HS1.out]
              refine ⟨_, rfl, ?_⟩
              replace HY := Lib.hid (HY.out.trans hk (FSub.refl _ _))
              clear hk
              refine hK.out _ _ (by rw [HSE.out]; exact HY.out) (fun hHeld => ?_); clear hK K; try simp only [Act.put, lsA, lsZ, lsS]
              refine tw 37 (h := ?_)
              refine tw 38 (h := ?_)
              refine tw 39 (h := ?_)
              refine tw 40 (h := ?_)
              refine tw 41 (h := ?_)
              refine tk 42 (y := by exact skB.yields HO14.out rfl _ rfl g14 0 rfl HC14.out) (h := ?_)
              refine tw 43 (h := ?_)
              refine tk 44 (y := by exact Or.inl ⟨by rfl, by intro w hSw; have q0 := HX0.out w hSw; go_simp; try with_reducible rfl⟩) (h := ?_)
              refine tk 47 (y := by exact skB.yields HO15.out rfl _ rfl g15 0 rfl HC15.out) (h := ?_)
              refine rp 45 (h := fun K hK => ?_)
              refine wp_call9 26 _ _ rfl [.agg A14.toArray, .int .i64 x0] rfl Tryd.func26 (by kernel_rfl) (by kernel_rfl) ((R.without _ _ _ x0 (HGL.out _ (HK.out.trans HY.out (FSub.refl _ _))) (R.new H14.out HY.out) HI0.out).mono ?_)
              rintro e YC ⟨stq, rfl, hat, hk, -⟩
              refine ⟨_, rfl, ?_⟩
              have HQ := Lib.hid hat
              clear hat
              replace HY := Lib.hid (HY.out.trans hk (FSub.refl _ _))
              clear hk
              refine hK.out _ _ (by rw [HSE.out]; exact HY.out) (fun hHeld => ?_); clear hK K; try simp only [Act.put, lsA, lsZ, lsS]
              refine rp 46 (h := fun K hK => ?_)
              refine wp_call9 15 _ _ rfl [stq] rfl Tryd.func15 (by kernel_rfl) (by kernel_rfl) ((R.key _ _ _ (HGL.out _ (HK.out.trans HY.out (FSub.refl _ _))) HQ.out).mono ?_)
              rintro e YC ⟨rfl, hk⟩
              rw [HKML.out]
              clear HQ
              refine ⟨_, rfl, ?_⟩
              replace HY := Lib.hid (HY.out.trans hk (FSub.refl _ _))
              clear hk
              refine hK.out _ _ (by rw [HSE.out]; exact HY.out) (fun hHeld => ?_); clear hK K; try simp only [Act.put, lsA, lsZ, lsS]
              refine rp 48 (h := fun K hK => ?_)
              refine wp_call9 15 _ _ rfl [.agg A15.toArray] rfl Tryd.func15 (by kernel_rfl) (by kernel_rfl) ((R.key _ _ _ (HGL.out _ (HK.out.trans HY.out (FSub.refl _ _))) (R.new H15.out HY.out)).mono ?_)
              rintro e YC ⟨rfl, hk⟩
              rw [HKL.out]
              refine ⟨_, rfl, ?_⟩
              replace HY := Lib.hid (HY.out.trans hk (FSub.refl _ _))
              clear hk
              refine hK.out _ _ (by rw [HSE.out]; exact HY.out) (fun hHeld => ?_); clear hK K; try simp only [Act.put, lsA, lsZ, lsS]
              refine tw 49 (h := ?_)
              refine tw 50 (h := ?_)
              refine tw 51 (h := ?_)
              refine tk 52 (y := by exact skB.yields HO7.out rfl _ rfl g7 0 rfl HC7.out) (h := ?_)
              refine tw 53 (h := ?_)
              refine tk 54 (y := by exact Or.inl ⟨by rfl, by intro w hSw; have q0 := HX0.out w hSw; go_simp; try with_reducible rfl⟩) (h := ?_)
              refine rp 55 (h := fun K hK => ?_)
              refine wp_call9 11 _ _ rfl [.agg A7.toArray, .int .i64 x0] rfl Tryd.func11 (by kernel_rfl) (by kernel_rfl) ((R.has _ _ _ x0 (HGL.out _ (HK.out.trans HY.out (FSub.refl _ _))) (R.new H7.out HY.out) HI0.out).mono ?_)
              rintro e YC ⟨rfl, hk⟩
              rw [HS0.out]
              refine ⟨_, rfl, ?_⟩
              replace HY := Lib.hid (HY.out.trans hk (FSub.refl _ _))
              clear hk
              refine hK.out _ _ (by rw [HSE.out]; exact HY.out) (fun hHeld => ?_); clear hK K; try simp only [Act.put, lsA, lsZ, lsS]
              refine tw 56 (h := ?_)
              refine tk 57 (y := by exact skB.yields HO14.out rfl _ rfl g14 0 rfl HC14.out) (h := ?_)
              refine tk 59 (y := by exact skB.yields HO7.out rfl _ rfl g7 0 rfl HC7.out) (h := ?_)
              refine rp 58 (h := fun K hK => ?_)
              refine wp_call9 15 _ _ rfl [.agg A14.toArray] rfl Tryd.func15 (by kernel_rfl) (by kernel_rfl) ((R.key _ _ _ (HGL.out _ (HK.out.trans HY.out (FSub.refl _ _))) (R.new H14.out HY.out)).mono ?_)
              rintro e YC ⟨rfl, hk⟩
              rw [HKM.out]
              refine ⟨_, rfl, ?_⟩
              replace HY := Lib.hid (HY.out.trans hk (FSub.refl _ _))
              clear hk
              refine hK.out _ _ (by rw [HSE.out]; exact HY.out) (fun hHeld => ?_); clear hK K; try simp only [Act.put, lsA, lsZ, lsS]
              refine rp 60 (h := fun K hK => ?_)
              refine wp_call9 15 _ _ rfl [.agg A7.toArray] rfl Tryd.func15 (by kernel_rfl) (by kernel_rfl) ((R.key _ _ _ (HGL.out _ (HK.out.trans HY.out (FSub.refl _ _))) (R.new H7.out HY.out)).mono ?_)
              rintro e YC ⟨rfl, hk⟩
              rw [HKS.out]
              refine ⟨_, rfl, ?_⟩
              replace HY := Lib.hid (HY.out.trans hk (FSub.refl _ _))
              clear hk
              refine hK.out _ _ (by rw [HSE.out]; exact HY.out) (fun hHeld => ?_); clear hK K; try simp only [Act.put, lsA, lsZ, lsS]
              refine tw 61 (h := ?_)
              refine tw 62 (h := ?_)
              refine tw 63 (h := ?_)
              refine wpAnyH_done (by kernel_rfl) ?_ _
              refine NoPanic.normal ?_
              exact ⟨rfl, 0, 0, [_, _, _, _, _, _, _, _, _, _, _, _, _, _, _, _, _, _, _, _, _, _, _, _, _, _, _, _, _, _, _, _, _, _, _, _, _, _, _, _, _, _, _, _, _, _, _, _, _, _, _, _, _, _, _, _, _, _, _, _, _, _, _], rfl, HY.out⟩
          · have HS0 := Lib.hid (show decide (x0 ∈ S) = false from decide_eq_false hin)
            clear hin
            by_cases heq : x1 = x0
            · have t1 : (x1 != x0) = false := by rw [heq]; simp
              clear heq
              as_aux_lemma =>
              obtain ⟨S0, hS0⟩ : ∃ S0 : World → Prop, S0 = fun y => Keeps [] V y := ⟨_, rfl⟩
              have HSE := Lib.hid hS0
              have hSD : S0 V.drew := by rw [hS0]; exact (Keeps.refl _ _).drew
              have HC7 := Lib.hid (fun (w' : World) (hh : S0 w') => show w'.rangeAt g7 0 A7 from by rw [hS0] at hh; exact block_range (hh.heap HB7.out (by simp)))
              have HC14 := Lib.hid (fun (w' : World) (hh : S0 w') => show w'.rangeAt g14 0 A14 from by rw [hS0] at hh; exact block_range (hh.heap HB14.out (by simp)))
              have HC15 := Lib.hid (fun (w' : World) (hh : S0 w') => show w'.rangeAt g15 0 A15 from by rw [hS0] at hh; exact block_range (hh.heap HB15.out (by simp)))
              have HX0 := Lib.hid (fun (w' : World) (hh : S0 w') => show w'.cell? ⟨gx, 0, none⟩ = some (.int .i64 x0) from by rw [hS0] at hh; exact cell_lit (hh.heap HBX.out (by simp)) 0 rfl)
              have HX1 := Lib.hid (fun (w' : World) (hh : S0 w') => show w'.cell? ⟨gx, 1, none⟩ = some (.int .i64 x1) from by rw [hS0] at hh; exact cell_lit (hh.heap HBX.out (by simp)) 1 rfl)
              clear hS0
              refine wp_region_noPanic ?_
              refine wp_region_held_drew (S := S0) (by kernel_rfl) hSD (fun hHeld => ?_)
              have HY := Lib.hid ((Keeps.refl [] V).drew)
              generalize V.drew = YC at *
              refine tk 0 (y := by exact skB.yields HO14.out rfl _ rfl g14 0 rfl HC14.out) (h := ?_)
              refine tw 1 (h := ?_)
              refine tk 2 (y := by exact Or.inl ⟨by rfl, by intro w hSw; have q0 := HX0.out w hSw; go_simp; try with_reducible rfl⟩) (h := ?_)
              refine tw 4 (h := ?_)
              refine rp 3 (h := fun K hK => ?_)
              refine wp_call9 11 _ _ rfl [.agg A14.toArray, .int .i64 x0] rfl Tryd.func11 (by kernel_rfl) (by kernel_rfl) ((R.has _ _ _ x0 (HGL.out _ (HK.out.trans HY.out (FSub.refl _ _))) (R.new H14.out HY.out) HI0.out).mono ?_)
              rintro e YC ⟨rfl, hk⟩
              rw [HM0.out]
              refine ⟨_, rfl, ?_⟩
              replace HY := Lib.hid (HY.out.trans hk (FSub.refl _ _))
              clear hk
              refine hK.out _ _ (by rw [HSE.out]; exact HY.out) (fun hHeld => ?_); clear hK K; try simp only [Act.put, lsA, lsZ, lsS]
              refine tw 5 (h := ?_)
              refine tw 6 (h := ?_)
              refine tk 7 (y := by exact skB.yields HO15.out rfl _ rfl g15 0 rfl HC15.out) (h := ?_)
              refine tw 8 (h := ?_)
              refine tk 9 (y := by exact Or.inl ⟨by rfl, by intro w hSw; have q0 := HX0.out w hSw; go_simp; try with_reducible rfl⟩) (h := ?_)
              refine rp 10 (h := fun K hK => ?_)
              refine wp_call9 11 _ _ rfl [.agg A15.toArray, .int .i64 x0] rfl Tryd.func11 (by kernel_rfl) (by kernel_rfl) ((R.has _ _ _ x0 (HGL.out _ (HK.out.trans HY.out (FSub.refl _ _))) (R.new H15.out HY.out) HI0.out).mono ?_)
              rintro e YC ⟨rfl, hk⟩
              rw [HL0.out]
              refine ⟨_, rfl, ?_⟩
              replace HY := Lib.hid (HY.out.trans hk (FSub.refl _ _))
              clear hk
              refine hK.out _ _ (by rw [HSE.out]; exact HY.out) (fun hHeld => ?_); clear hK K; try simp only [Act.put, lsA, lsZ, lsS]
              refine tw 11 (h := ?_)
              refine tw 12 (h := ?_)
              refine tw 13 (h := ?_)
              refine tk 14 (y := by exact Or.inl ⟨by rfl, by intro w hSw; have q0 := HX1.out w hSw; go_simp; try with_reducible rfl⟩) (h := ?_)
              refine tw 15 (h := ?_)
              refine tk 16 (y := by exact Or.inl ⟨by rfl, by intro w hSw; have q0 := HX0.out w hSw; go_simp; try with_reducible rfl⟩) (h := ?_)
              refine tw 17 (h := ?_)
              refine tw 18 (h := ?_)
              refine tk 19 (y := by exact Or.inr ⟨by rfl, rfl⟩) (h := ?_)
              refine tk 20 (y := by exact Or.inr ⟨by rfl, rfl⟩) (h := ?_)
              refine tk 21 (y := by exact Or.inr ⟨by rfl, rfl⟩) (h := ?_)
              refine tk 23 (y := by exact Or.inr ⟨by rfl, rfl⟩) (h := ?_)
              refine tk 24 (y := by exact Or.inr ⟨by rfl, rfl⟩) (h := ?_)
              refine tk 25 (y := by exact Or.inr ⟨by rfl, rfl⟩) (h := ?_)
              refine rd 22 (h := fun K hK => ?_)
              rw [if_neg (Bool.eq_false_iff.1 (by rfl))]
              refine hK.out _ _ (by rw [HSE.out]; exact HY.out) (fun hHeld => ?_); clear hK K; try simp only [Act.put, lsA, lsZ, lsS]
              refine rd 26 (h := fun K hK => ?_)
              rw [if_neg (Bool.eq_false_iff.1 (by rfl))]
              refine hK.out _ _ (by rw [HSE.out]; exact HY.out) (fun hHeld => ?_); clear hK K; try simp only [Act.put, lsA, lsZ, lsS]
              refine tk 27 (y := by exact Or.inr ⟨by rfl, rfl⟩) (h := ?_)
              refine tk 28 (y := by exact Or.inr ⟨by rfl, rfl⟩) (h := ?_)
              refine tk 29 (y := by exact Or.inr ⟨by rfl, rfl⟩) (h := ?_)
              refine tk 30 (y := by exact Or.inr ⟨by rfl, rfl⟩) (h := ?_)
              refine tk 31 (y := by exact Or.inr ⟨by rfl, rfl⟩) (h := ?_)
              refine tk 33 (y := by exact Or.inr ⟨by rfl, rfl⟩) (h := ?_)
              refine tk 34 (y := by exact Or.inr ⟨by rfl, rfl⟩) (h := ?_)
              refine tk 35 (y := by exact Or.inr ⟨by rfl, rfl⟩) (h := ?_)
              refine rd 32 (h := fun K hK => ?_)
              rw [if_neg (Bool.eq_false_iff.1 (by rfl))]
              refine hK.out _ _ (by rw [HSE.out]; exact HY.out) (fun hHeld => ?_); clear hK K; try simp only [Act.put, lsA, lsZ, lsS]
              refine rd 36 (h := fun K hK => ?_)
              rw [if_neg (Bool.eq_false_iff.1 (by rfl))]
              refine hK.out _ _ (by rw [HSE.out]; exact HY.out) (fun hHeld => ?_); clear hK K; try simp only [Act.put, lsA, lsZ, lsS]
              refine tk 37 (y := by exact Or.inr ⟨by rfl, rfl⟩) (h := ?_)
              refine tk 38 (y := by exact Or.inr ⟨by rfl, rfl⟩) (h := ?_)
              refine tw 39 (h := ?_)
              refine tw 40 (h := ?_)
              refine tw 41 (h := ?_)
              refine tk 42 (y := by exact skB.yields HO14.out rfl _ rfl g14 0 rfl HC14.out) (h := ?_)
              refine tw 43 (h := ?_)
              refine tk 44 (y := by exact Or.inl ⟨by rfl, by intro w hSw; have q0 := HX0.out w hSw; go_simp; try with_reducible rfl⟩) (h := ?_)
              refine tk 47 (y := by exact skB.yields HO15.out rfl _ rfl g15 0 rfl HC15.out) (h := ?_)
              refine rp 45 (h := fun K hK => ?_)
              refine wp_call9 26 _ _ rfl [.agg A14.toArray, .int .i64 x0] rfl Tryd.func26 (by kernel_rfl) (by kernel_rfl) ((R.without _ _ _ x0 (HGL.out _ (HK.out.trans HY.out (FSub.refl _ _))) (R.new H14.out HY.out) HI0.out).mono ?_)
              rintro e YC ⟨stq, rfl, hat, hk, -⟩
              refine ⟨_, rfl, ?_⟩
              have HQ := Lib.hid hat
              clear hat
              replace HY := Lib.hid (HY.out.trans hk (FSub.refl _ _))
              clear hk
              refine hK.out _ _ (by rw [HSE.out]; exact HY.out) (fun hHeld => ?_); clear hK K; try simp only [Act.put, lsA, lsZ, lsS]
              refine rp 46 (h := fun K hK => ?_)
              refine wp_call9 15 _ _ rfl [stq] rfl Tryd.func15 (by kernel_rfl) (by kernel_rfl) ((R.key _ _ _ (HGL.out _ (HK.out.trans HY.out (FSub.refl _ _))) HQ.out).mono ?_)
              rintro e YC ⟨rfl, hk⟩
              rw [HKML.out]
              clear HQ
              refine ⟨_, rfl, ?_⟩
              replace HY := Lib.hid (HY.out.trans hk (FSub.refl _ _))
              clear hk
              refine hK.out _ _ (by rw [HSE.out]; exact HY.out) (fun hHeld => ?_); clear hK K; try simp only [Act.put, lsA, lsZ, lsS]
              refine rp 48 (h := fun K hK => ?_)
              refine wp_call9 15 _ _ rfl [.agg A15.toArray] rfl Tryd.func15 (by kernel_rfl) (by kernel_rfl) ((R.key _ _ _ (HGL.out _ (HK.out.trans HY.out (FSub.refl _ _))) (R.new H15.out HY.out)).mono ?_)
              rintro e YC ⟨rfl, hk⟩
              rw [HKL.out]
              refine ⟨_, rfl, ?_⟩
              replace HY := Lib.hid (HY.out.trans hk (FSub.refl _ _))
              clear hk
              refine hK.out _ _ (by rw [HSE.out]; exact HY.out) (fun hHeld => ?_); clear hK K; try simp only [Act.put, lsA, lsZ, lsS]
              refine tw 49 (h := ?_)
              refine tw 50 (h := ?_)
              refine tw 51 (h := ?_)
              refine tk 52 (y := by exact skB.yields HO7.out rfl _ rfl g7 0 rfl HC7.out) (h := ?_)
              refine tw 53 (h := ?_)
              refine tk 54 (y := by exact Or.inl ⟨by rfl, by intro w hSw; have q0 := HX0.out w hSw; go_simp; try with_reducible rfl⟩) (h := ?_)
              refine rp 55 (h := fun K hK => ?_)
              refine wp_call9 11 _ _ rfl [.agg A7.toArray, .int .i64 x0] rfl Tryd.func11 (by kernel_rfl) (by kernel_rfl) ((R.has _ _ _ x0 (HGL.out _ (HK.out.trans HY.out (FSub.refl _ _))) (R.new H7.out HY.out) HI0.out).mono ?_)
              rintro e YC ⟨rfl, hk⟩
              rw [HS0.out]
              refine ⟨_, rfl, ?_⟩
              replace HY := Lib.hid (HY.out.trans hk (FSub.refl _ _))
              clear hk
              refine hK.out _ _ (by rw [HSE.out]; exact HY.out) (fun hHeld => ?_); clear hK K; try simp only [Act.put, lsA, lsZ, lsS]
              refine tw 56 (h := ?_)
              refine tk 57 (y := by exact Or.inr ⟨by rfl, rfl⟩) (h := ?_)
              refine tk 59 (y := by exact Or.inr ⟨by rfl, rfl⟩) (h := ?_)
              refine rd 58 (h := fun K hK => ?_)
              rw [if_neg (Bool.eq_false_iff.1 (by rfl))]
              refine hK.out _ _ (by rw [HSE.out]; exact HY.out) (fun hHeld => ?_); clear hK K; try simp only [Act.put, lsA, lsZ, lsS]
              refine rd 60 (h := fun K hK => ?_)
              rw [if_neg (Bool.eq_false_iff.1 (by rfl))]
              refine hK.out _ _ (by rw [HSE.out]; exact HY.out) (fun hHeld => ?_); clear hK K; try simp only [Act.put, lsA, lsZ, lsS]
              refine tk 61 (y := by exact Or.inr ⟨by rfl, rfl⟩) (h := ?_)
              refine tw 62 (h := ?_)
              refine tw 63 (h := ?_)
              refine wpAnyH_done (by kernel_rfl) ?_ _
              refine NoPanic.normal ?_
              exact ⟨rfl, 0, 0, [_, _, _, _, _, _, _, _, _, _, _, _, _, _, _, _, _, _, _, _, _, _, _, _, _, _, _, _, _, _, _, _, _, _, _, _, _, _, _, _, _, _, _, _, _, _, _, _, _, _, _, _, _, _, _, _, _, _, _, _, _, _, _], rfl, HY.out⟩
            · skip
              have t1 : (x1 != x0) = true := by rw [bne_iff_ne]; exact heq
              have HM1 := Lib.hid (show decide (x1 ∈ withB S x0) = decide (x1 ∈ S) from by
                rw [decide_eq_decide, mem_withB]
                exact ⟨fun h => h.elim (fun h => absurd h.1 heq) id, .inr⟩)
              have HL1 := Lib.hid (show decide (x1 ∈ withoutB S x0) = decide (x1 ∈ S) from by
                rw [decide_eq_decide, mem_withoutB]
                exact ⟨fun h => h.1, fun h => ⟨h, heq⟩⟩)
              clear heq
              obtain ⟨b1, hb1⟩ : ∃ x, x = decide (x1 ∈ S) := ⟨_, rfl⟩
              have HS1 := Lib.hid (show decide (x1 ∈ S) = b1 from hb1.symm)
              rw [← hb1] at HM1 HL1
              clear hb1
              as_aux_lemma =>
              obtain ⟨S0, hS0⟩ : ∃ S0 : World → Prop, S0 = fun y => Keeps [] V y := ⟨_, rfl⟩
              have HSE := Lib.hid hS0
              have hSD : S0 V.drew := by rw [hS0]; exact (Keeps.refl _ _).drew
              have HC7 := Lib.hid (fun (w' : World) (hh : S0 w') => show w'.rangeAt g7 0 A7 from by rw [hS0] at hh; exact block_range (hh.heap HB7.out (by simp)))
              have HC14 := Lib.hid (fun (w' : World) (hh : S0 w') => show w'.rangeAt g14 0 A14 from by rw [hS0] at hh; exact block_range (hh.heap HB14.out (by simp)))
              have HC15 := Lib.hid (fun (w' : World) (hh : S0 w') => show w'.rangeAt g15 0 A15 from by rw [hS0] at hh; exact block_range (hh.heap HB15.out (by simp)))
              have HX0 := Lib.hid (fun (w' : World) (hh : S0 w') => show w'.cell? ⟨gx, 0, none⟩ = some (.int .i64 x0) from by rw [hS0] at hh; exact cell_lit (hh.heap HBX.out (by simp)) 0 rfl)
              have HX1 := Lib.hid (fun (w' : World) (hh : S0 w') => show w'.cell? ⟨gx, 1, none⟩ = some (.int .i64 x1) from by rw [hS0] at hh; exact cell_lit (hh.heap HBX.out (by simp)) 1 rfl)
              clear hS0
              refine wp_region_noPanic ?_
              refine wp_region_held_drew (S := S0) (by kernel_rfl) hSD (fun hHeld => ?_)
              have HY := Lib.hid ((Keeps.refl [] V).drew)
              generalize V.drew = YC at *
              refine tk 0 (y := by exact skB.yields HO14.out rfl _ rfl g14 0 rfl HC14.out) (h := ?_)
              refine tw 1 (h := ?_)
              refine tk 2 (y := by exact Or.inl ⟨by rfl, by intro w hSw; have q0 := HX0.out w hSw; go_simp; try with_reducible rfl⟩) (h := ?_)
              refine tw 4 (h := ?_)
              refine rp 3 (h := fun K hK => ?_)
              refine wp_call9 11 _ _ rfl [.agg A14.toArray, .int .i64 x0] rfl Tryd.func11 (by kernel_rfl) (by kernel_rfl) ((R.has _ _ _ x0 (HGL.out _ (HK.out.trans HY.out (FSub.refl _ _))) (R.new H14.out HY.out) HI0.out).mono ?_)
              rintro e YC ⟨rfl, hk⟩
              rw [HM0.out]
              refine ⟨_, rfl, ?_⟩
              replace HY := Lib.hid (HY.out.trans hk (FSub.refl _ _))
              clear hk
              refine hK.out _ _ (by rw [HSE.out]; exact HY.out) (fun hHeld => ?_); clear hK K; try simp only [Act.put, lsA, lsZ, lsS]
              refine tw 5 (h := ?_)
              refine tw 6 (h := ?_)
              refine tk 7 (y := by exact skB.yields HO15.out rfl _ rfl g15 0 rfl HC15.out) (h := ?_)
              refine tw 8 (h := ?_)
              refine tk 9 (y := by exact Or.inl ⟨by rfl, by intro w hSw; have q0 := HX0.out w hSw; go_simp; try with_reducible rfl⟩) (h := ?_)
              refine rp 10 (h := fun K hK => ?_)
              refine wp_call9 11 _ _ rfl [.agg A15.toArray, .int .i64 x0] rfl Tryd.func11 (by kernel_rfl) (by kernel_rfl) ((R.has _ _ _ x0 (HGL.out _ (HK.out.trans HY.out (FSub.refl _ _))) (R.new H15.out HY.out) HI0.out).mono ?_)
              rintro e YC ⟨rfl, hk⟩
              rw [HL0.out]
              refine ⟨_, rfl, ?_⟩
              replace HY := Lib.hid (HY.out.trans hk (FSub.refl _ _))
              clear hk
              refine hK.out _ _ (by rw [HSE.out]; exact HY.out) (fun hHeld => ?_); clear hK K; try simp only [Act.put, lsA, lsZ, lsS]
              refine tw 11 (h := ?_)
              refine tw 12 (h := ?_)
              refine tw 13 (h := ?_)
              refine tk 14 (y := by exact Or.inl ⟨by rfl, by intro w hSw; have q0 := HX1.out w hSw; go_simp; try with_reducible rfl⟩) (h := ?_)
              refine tw 15 (h := ?_)
              refine tk 16 (y := by exact Or.inl ⟨by rfl, by intro w hSw; have q0 := HX0.out w hSw; go_simp; try with_reducible rfl⟩) (h := ?_)
              refine tw 17 (h := ?_)
              refine tw 18 (h := ?_)
              refine tk 19 (y := by exact skB.yields HO14.out rfl _ rfl g14 0 rfl HC14.out) (h := ?_)
              refine tw 20 (h := ?_)
              refine tk 21 (y := by exact Or.inl ⟨by rfl, by intro w hSw; have q0 := HX1.out w hSw; go_simp; try with_reducible rfl⟩) (h := ?_)
              refine tk 23 (y := by exact skB.yields HO7.out rfl _ rfl g7 0 rfl HC7.out) (h := ?_)
              refine tw 24 (h := ?_)
              refine tk 25 (y := by exact Or.inl ⟨by rfl, by intro w hSw; have q0 := HX1.out w hSw; go_simp; try with_reducible rfl⟩) (h := ?_)
              refine rp 22 (h := fun K hK => ?_)
              refine wp_call9 11 _ _ rfl [.agg A14.toArray, .int .i64 x1] rfl Tryd.func11 (by kernel_rfl) (by kernel_rfl) ((R.has _ _ _ x1 (HGL.out _ (HK.out.trans HY.out (FSub.refl _ _))) (R.new H14.out HY.out) HI1.out).mono ?_)
              rintro e YC ⟨rfl, hk⟩
              rw [HM1.out]
              refine ⟨_, rfl, ?_⟩
              replace HY := Lib.hid (HY.out.trans hk (FSub.refl _ _))
              clear hk
              refine hK.out _ _ (by rw [HSE.out]; exact HY.out) (fun hHeld => ?_); clear hK K; try simp only [Act.put, lsA, lsZ, lsS]
              refine rp 26 (h := fun K hK => ?_)
              refine wp_call9 11 _ _ rfl [.agg A7.toArray, .int .i64 x1] rfl Tryd.func11 (by kernel_rfl) (by kernel_rfl) ((R.has _ _ _ x1 (HGL.out _ (HK.out.trans HY.out (FSub.refl _ _))) (R.new H7.out HY.out) HI1.out).mono ?_)
              rintro e YC ⟨rfl, hk⟩
              rw [HS1.out]
              refine ⟨_, rfl, ?_⟩
              replace HY := Lib.hid (HY.out.trans hk (FSub.refl _ _))
              clear hk
              refine hK.out _ _ (by rw [HSE.out]; exact HY.out) (fun hHeld => ?_); clear hK K; try simp only [Act.put, lsA, lsZ, lsS]
              refine tw 27 (h := ?_)
              refine tw 28 (h := ?_)
              refine tk 29 (y := by exact skB.yields HO15.out rfl _ rfl g15 0 rfl HC15.out) (h := ?_)
              refine tw 30 (h := ?_)
              refine tk 31 (y := by exact Or.inl ⟨by rfl, by intro w hSw; have q0 := HX1.out w hSw; go_simp; try with_reducible rfl⟩) (h := ?_)
              refine tk 33 (y := by exact skB.yields HO7.out rfl _ rfl g7 0 rfl HC7.out) (h := ?_)
              refine tw 34 (h := ?_)
              refine tk 35 (y := by exact Or.inl ⟨by rfl, by intro w hSw; have q0 := HX1.out w hSw; go_simp; try with_reducible rfl⟩) (h := ?_)
              refine rp 32 (h := fun K hK => ?_)
              refine wp_call9 11 _ _ rfl [.agg A15.toArray, .int .i64 x1] rfl Tryd.func11 (by kernel_rfl) (by kernel_rfl) ((R.has _ _ _ x1 (HGL.out _ (HK.out.trans HY.out (FSub.refl _ _))) (R.new H15.out HY.out) HI1.out).mono ?_)
              rintro e YC ⟨rfl, hk⟩
              rw [HL1.out]
              refine ⟨_, rfl, ?_⟩
              replace HY := Lib.hid (HY.out.trans hk (FSub.refl _ _))
              clear hk
              refine hK.out _ _ (by rw [HSE.out]; exact HY.out) (fun hHeld => ?_); clear hK K; try simp only [Act.put, lsA, lsZ, lsS]
              refine rp 36 (h := fun K hK => ?_)
              refine wp_call9 11 _ _ rfl [.agg A7.toArray, .int .i64 x1] rfl Tryd.func11 (by kernel_rfl) (by kernel_rfl) ((R.has _ _ _ x1 (HGL.out _ (HK.out.trans HY.out (FSub.refl _ _))) (R.new H7.out HY.out) HI1.out).mono ?_)
              rintro e YC ⟨rfl, hk⟩
              rw [HS1.out]
              refine ⟨_, rfl, ?_⟩
              replace HY := Lib.hid (HY.out.trans hk (FSub.refl _ _))
              clear hk
              refine hK.out _ _ (by rw [HSE.out]; exact HY.out) (fun hHeld => ?_); clear hK K; try simp only [Act.put, lsA, lsZ, lsS]
              refine tw 37 (h := ?_)
              refine tw 38 (h := ?_)
              refine tw 39 (h := ?_)
              refine tw 40 (h := ?_)
              refine tw 41 (h := ?_)
              refine tk 42 (y := by exact skB.yields HO14.out rfl _ rfl g14 0 rfl HC14.out) (h := ?_)
              refine tw 43 (h := ?_)
              refine tk 44 (y := by exact Or.inl ⟨by rfl, by intro w hSw; have q0 := HX0.out w hSw; go_simp; try with_reducible rfl⟩) (h := ?_)
              refine tk 47 (y := by exact skB.yields HO15.out rfl _ rfl g15 0 rfl HC15.out) (h := ?_)
              refine rp 45 (h := fun K hK => ?_)
              refine wp_call9 26 _ _ rfl [.agg A14.toArray, .int .i64 x0] rfl Tryd.func26 (by kernel_rfl) (by kernel_rfl) ((R.without _ _ _ x0 (HGL.out _ (HK.out.trans HY.out (FSub.refl _ _))) (R.new H14.out HY.out) HI0.out).mono ?_)
              rintro e YC ⟨stq, rfl, hat, hk, -⟩
              refine ⟨_, rfl, ?_⟩
              have HQ := Lib.hid hat
              clear hat
              replace HY := Lib.hid (HY.out.trans hk (FSub.refl _ _))
              clear hk
              refine hK.out _ _ (by rw [HSE.out]; exact HY.out) (fun hHeld => ?_); clear hK K; try simp only [Act.put, lsA, lsZ, lsS]
              refine rp 46 (h := fun K hK => ?_)
              refine wp_call9 15 _ _ rfl [stq] rfl Tryd.func15 (by kernel_rfl) (by kernel_rfl) ((R.key _ _ _ (HGL.out _ (HK.out.trans HY.out (FSub.refl _ _))) HQ.out).mono ?_)
              rintro e YC ⟨rfl, hk⟩
              rw [HKML.out]
              clear HQ
              refine ⟨_, rfl, ?_⟩
              replace HY := Lib.hid (HY.out.trans hk (FSub.refl _ _))
              clear hk
              refine hK.out _ _ (by rw [HSE.out]; exact HY.out) (fun hHeld => ?_); clear hK K; try simp only [Act.put, lsA, lsZ, lsS]
              refine rp 48 (h := fun K hK => ?_)
              refine wp_call9 15 _ _ rfl [.agg A15.toArray] rfl Tryd.func15 (by kernel_rfl) (by kernel_rfl) ((R.key _ _ _ (HGL.out _ (HK.out.trans HY.out (FSub.refl _ _))) (R.new H15.out HY.out)).mono ?_)
              rintro e YC ⟨rfl, hk⟩
              rw [HKL.out]
              refine ⟨_, rfl, ?_⟩
              replace HY := Lib.hid (HY.out.trans hk (FSub.refl _ _))
              clear hk
              refine hK.out _ _ (by rw [HSE.out]; exact HY.out) (fun hHeld => ?_); clear hK K; try simp only [Act.put, lsA, lsZ, lsS]
              refine tw 49 (h := ?_)
              refine tw 50 (h := ?_)
              refine tw 51 (h := ?_)
              refine tk 52 (y := by exact skB.yields HO7.out rfl _ rfl g7 0 rfl HC7.out) (h := ?_)
              refine tw 53 (h := ?_)
              refine tk 54 (y := by exact Or.inl ⟨by rfl, by intro w hSw; have q0 := HX0.out w hSw; go_simp; try with_reducible rfl⟩) (h := ?_)
              refine rp 55 (h := fun K hK => ?_)
              refine wp_call9 11 _ _ rfl [.agg A7.toArray, .int .i64 x0] rfl Tryd.func11 (by kernel_rfl) (by kernel_rfl) ((R.has _ _ _ x0 (HGL.out _ (HK.out.trans HY.out (FSub.refl _ _))) (R.new H7.out HY.out) HI0.out).mono ?_)
              rintro e YC ⟨rfl, hk⟩
              rw [HS0.out]
              refine ⟨_, rfl, ?_⟩
              replace HY := Lib.hid (HY.out.trans hk (FSub.refl _ _))
              clear hk
              refine hK.out _ _ (by rw [HSE.out]; exact HY.out) (fun hHeld => ?_); clear hK K; try simp only [Act.put, lsA, lsZ, lsS]
              refine tw 56 (h := ?_)
              refine tk 57 (y := by exact Or.inr ⟨by rfl, rfl⟩) (h := ?_)
              refine tk 59 (y := by exact Or.inr ⟨by rfl, rfl⟩) (h := ?_)
              refine rd 58 (h := fun K hK => ?_)
              rw [if_neg (Bool.eq_false_iff.1 (by rfl))]
              refine hK.out _ _ (by rw [HSE.out]; exact HY.out) (fun hHeld => ?_); clear hK K; try simp only [Act.put, lsA, lsZ, lsS]
              refine rd 60 (h := fun K hK => ?_)
              rw [if_neg (Bool.eq_false_iff.1 (by rfl))]
              refine hK.out _ _ (by rw [HSE.out]; exact HY.out) (fun hHeld => ?_); clear hK K; try simp only [Act.put, lsA, lsZ, lsS]
              refine tk 61 (y := by exact Or.inr ⟨by rfl, rfl⟩) (h := ?_)
              refine tw 62 (h := ?_)
              refine tw 63 (h := ?_)
              refine wpAnyH_done (by kernel_rfl) ?_ _
              refine NoPanic.normal ?_
              exact ⟨rfl, 0, 0, [_, _, _, _, _, _, _, _, _, _, _, _, _, _, _, _, _, _, _, _, _, _, _, _, _, _, _, _, _, _, _, _, _, _, _, _, _, _, _, _, _, _, _, _, _, _, _, _, _, _, _, _, _, _, _, _, _, _, _, _, _, _, _], rfl, HY.out⟩
        as_aux_lemma =>
        rintro - - us Y3 hk
        replace HK := Lib.hid (HK.out.trans hk (FSub.refl _ _))
        try (replace H7 := Lib.hid (R.new H7.out hk); replace HB7 := Lib.hid (hk.heap HB7.out (by simp)))
        try (replace H8 := Lib.hid (R.new H8.out hk); replace HB8 := Lib.hid (hk.heap HB8.out (by simp)))
        try replace H12 := Lib.hid (R.new H12.out hk)
        try replace HB12 := Lib.hid (hk.heap HB12.out (by simp))
        try replace H14 := Lib.hid (R.new H14.out hk)
        try replace HB14 := Lib.hid (hk.heap HB14.out (by simp))
        try replace H15 := Lib.hid (R.new H15.out hk)
        try replace HB15 := Lib.hid (hk.heap HB15.out (by simp))
        try replace H17 := Lib.hid (R.new H17.out hk)
        try replace HB17 := Lib.hid (hk.heap HB17.out (by simp))
        replace HBX := Lib.hid (hk.heap HBX.out (by simp))
        clear hk V
        obtain ⟨V, hV⟩ : ∃ x, x = Y3 := ⟨_, rfl⟩
        subst hV
        clear H14 H15 HB14 HB15 HO14 HO15
        simp only [Act.put, lsA, lsZ, lsS]
        go_wp2_with (first | ((with_reducible refine wpList_loadBt (g := g7) HO7.out ?_ ?_ (block_range HB7.out) ?_); exact rfl; exact rfl) | ((with_reducible refine wpList_loadBt (g := g8) HO8.out ?_ ?_ (block_range HB8.out) ?_); exact rfl; exact rfl))
        refine (R.union _ _ _ _ _ (HGL.out _ HK.out) H7.out H8.out).mono ?_; rintro e W2 ⟨st, rfl, hat, hk, -⟩
        replace HK := Lib.hid (HK.out.trans hk (FSub.refl _ _))
        try (replace H7 := Lib.hid (R.new H7.out hk); replace HB7 := Lib.hid (hk.heap HB7.out (by simp)))
        try (replace H8 := Lib.hid (R.new H8.out hk); replace HB8 := Lib.hid (hk.heap HB8.out (by simp)))
        try replace H12 := Lib.hid (R.new H12.out hk)
        try replace HB12 := Lib.hid (hk.heap HB12.out (by simp))
        try replace H14 := Lib.hid (R.new H14.out hk)
        try replace HB14 := Lib.hid (hk.heap HB14.out (by simp))
        try replace H15 := Lib.hid (R.new H15.out hk)
        try replace HB15 := Lib.hid (hk.heap HB15.out (by simp))
        try replace H17 := Lib.hid (R.new H17.out hk)
        try replace HB17 := Lib.hid (hk.heap HB17.out (by simp))
        replace HBX := Lib.hid (hk.heap HBX.out (by simp))
        obtain ⟨A17, rfl, hok⟩ := R.cells hat
        have HO17 := Lib.hid hok; have H17 := Lib.hid hat
        clear hat hok hk V
        have HNC := Lib.hid (show (W2.alloc (.cells btZA 27)).heap[W2.heap.size]? = some (.cells btZ.toArray 27 (0, 0)) from heap_alloc_new W2 _)
        have HNK := Lib.hid (show Keeps [] W2 (W2.alloc (.cells btZA 27)) from (Keeps.refl _ _).alloc _)
        go_wp2_with ((with_reducible refine wpList_putBt (g := W2.heap.size) (old := btZ) (A := A17) HO17.out btZ_ok ?_ ?_ HNC.out ?_); exact rfl; exact rfl)
        intro V hW hk2
        have hk := HNK.out.trans' hk2 (Nat.le_refl _)
        replace HK := Lib.hid (HK.out.trans hk (FSub.refl _ _))
        try (replace H7 := Lib.hid (R.new H7.out hk); replace HB7 := Lib.hid (hk.heap HB7.out (by simp)))
        try (replace H8 := Lib.hid (R.new H8.out hk); replace HB8 := Lib.hid (hk.heap HB8.out (by simp)))
        try replace H12 := Lib.hid (R.new H12.out hk)
        try replace HB12 := Lib.hid (hk.heap HB12.out (by simp))
        try replace H14 := Lib.hid (R.new H14.out hk)
        try replace HB14 := Lib.hid (hk.heap HB14.out (by simp))
        try replace H15 := Lib.hid (R.new H15.out hk)
        try replace HB15 := Lib.hid (hk.heap HB15.out (by simp))
        try replace H17 := Lib.hid (R.new H17.out hk)
        try replace HB17 := Lib.hid (hk.heap HB17.out (by simp))
        replace HBX := Lib.hid (hk.heap HBX.out (by simp))
        have HB17 := Lib.hid hW
        clear hW hk2 HNC HNK hk
        generalize W2.heap.size = g17 at *
        obtain ⟨kU, hkU⟩ : ∃ x, x = bs (keyB (unionB S T)) := ⟨_, rfl⟩
        have HKU := Lib.hid (show bs (keyB (unionB S T)) = kU from hkU.symm)
        have HKTU := Lib.hid (show bs (keyB (unionB T S)) = kU from by rw [unionB_comm HTB.out HSB.out, hkU])
        have HKUU := Lib.hid (show bs (keyB (unionB (unionB S T) T)) = kU from by rw [unionB_again HSB.out, hkU])
        have HW1 := Lib.hid (within_union1 S T); have HW2 := Lib.hid (within_union2 (s := S) HTB.out)
        obtain ⟨bW, hbW⟩ : ∃ x, x = withinB S T := ⟨_, rfl⟩
        have HW3 := Lib.hid (show withinB S T = bW from hbW.symm)
        have hUT : (kU.toList == kT.toList) = bW := by
          rw [hbW, hkU, ← HKT.out, toL_bs, toL_bs, Bool.eq_iff_iff, within_iff HSB.out HTB.out, beq_iff_eq, keyB_inj (unionB_in _ HSB.out) HTB.out]
        obtain ⟨nU, hnU⟩ : ∃ x, x = (unionB S T).length := ⟨_, rfl⟩
        obtain ⟨nS, hnS⟩ : ∃ x, x = S.length := ⟨_, rfl⟩
        obtain ⟨nT, hnT⟩ : ∃ x, x = T.length := ⟨_, rfl⟩
        have HNU := Lib.hid hnU.symm; have HNS := Lib.hid hnS.symm; have HNT := Lib.hid hnT.symm
        have hcnt : nU ≤ nS + nT := by rw [hnU, hnS, hnT]; exact unionB_len T S
        have hsw : IntKind.i64.wrap ((nS : Int) + (nT : Int)) = (nS : Int) + (nT : Int) := IntWalk.i64_in _ ⟨by omega, by have := HSL.out; have := HTL.out; omega⟩
        have hc2 : decide (nU ≤ nS + nT) = true := decide_eq_true hcnt
        have hc3 : decide ((nU : Int) ≤ (nS : Int) + (nT : Int)) = true := decide_eq_true (by omega)
        clear hkU hbW hcnt hnU hnS hnT
        go_wp2_with fail
        as_aux_lemma =>
        obtain ⟨S0, hS0⟩ : ∃ S0 : World → Prop, S0 = fun y => Keeps [] V y := ⟨_, rfl⟩
        have HSE := Lib.hid hS0
        have hSD : S0 V.drew := by rw [hS0]; exact (Keeps.refl _ _).drew
        have HC7 := Lib.hid (fun (w' : World) (hh : S0 w') => show w'.rangeAt g7 0 A7 from by rw [hS0] at hh; exact block_range (hh.heap HB7.out (by simp)))
        have HC8 := Lib.hid (fun (w' : World) (hh : S0 w') => show w'.rangeAt g8 0 A8 from by rw [hS0] at hh; exact block_range (hh.heap HB8.out (by simp)))
        have HC17 := Lib.hid (fun (w' : World) (hh : S0 w') => show w'.rangeAt g17 0 A17 from by rw [hS0] at hh; exact block_range (hh.heap HB17.out (by simp)))
        clear hS0
        refine wp_region_noPanic ?_
        refine wp_region_held_drew (S := S0) (by kernel_rfl) hSD (fun hHeld => ?_)
        have HY := Lib.hid ((Keeps.refl [] V).drew)
        generalize V.drew = YC at *
        refine tk 0 (y := by exact skB.yields HO17.out rfl _ rfl g17 0 rfl HC17.out) (h := ?_)
        refine tk 2 (y := by exact skB.yields HO8.out rfl _ rfl g8 0 rfl HC8.out) (h := ?_)
        refine tk 3 (y := by exact skB.yields HO7.out rfl _ rfl g7 0 rfl HC7.out) (h := ?_)
        refine rp 1 (h := fun K hK => ?_)
        refine wp_call9 15 _ _ rfl [.agg A17.toArray] rfl Tryd.func15 (by kernel_rfl) (by kernel_rfl) ((R.key _ _ _ (HGL.out _ (HK.out.trans HY.out (FSub.refl _ _))) (R.new H17.out HY.out)).mono ?_)
        rintro e YC ⟨rfl, hk⟩
        rw [HKU.out]
        refine ⟨_, rfl, ?_⟩
        replace HY := Lib.hid (HY.out.trans hk (FSub.refl _ _))
        clear hk
        refine hK.out _ _ (by rw [HSE.out]; exact HY.out) (fun hHeld => ?_); clear hK K; try simp only [Act.put, lsA, lsZ, lsS]
        refine rp 4 (h := fun K hK => ?_)
        refine wp_call9 27 _ _ rfl [.agg A8.toArray, .agg A7.toArray] rfl Tryd.func27 (by kernel_rfl) (by kernel_rfl) ((R.union _ _ _ _ _ (HGL.out _ (HK.out.trans HY.out (FSub.refl _ _))) (R.new H8.out HY.out) (R.new H7.out HY.out)).mono ?_)
        rintro e YC ⟨stq, rfl, hat, hk, -⟩
        refine ⟨_, rfl, ?_⟩
        have HQ := Lib.hid hat
        clear hat
        replace HY := Lib.hid (HY.out.trans hk (FSub.refl _ _))
        clear hk
        refine hK.out _ _ (by rw [HSE.out]; exact HY.out) (fun hHeld => ?_); clear hK K; try simp only [Act.put, lsA, lsZ, lsS]
        refine rp 5 (h := fun K hK => ?_)
        refine wp_call9 15 _ _ rfl [stq] rfl Tryd.func15 (by kernel_rfl) (by kernel_rfl) ((R.key _ _ _ (HGL.out _ (HK.out.trans HY.out (FSub.refl _ _))) HQ.out).mono ?_)
        rintro e YC ⟨rfl, hk⟩
        rw [HKTU.out]
        clear HQ
        refine ⟨_, rfl, ?_⟩
        replace HY := Lib.hid (HY.out.trans hk (FSub.refl _ _))
        clear hk
        refine hK.out _ _ (by rw [HSE.out]; exact HY.out) (fun hHeld => ?_); clear hK K; try simp only [Act.put, lsA, lsZ, lsS]
        refine tw 6 (h := ?_)
        refine tw 7 (h := ?_)
        refine tk 8 (y := by exact skB.yields HO17.out rfl _ rfl g17 0 rfl HC17.out) (h := ?_)
        refine tk 9 (y := by exact skB.yields HO8.out rfl _ rfl g8 0 rfl HC8.out) (h := ?_)
        refine tk 12 (y := by exact skB.yields HO17.out rfl _ rfl g17 0 rfl HC17.out) (h := ?_)
        refine rp 10 (h := fun K hK => ?_)
        refine wp_call9 27 _ _ rfl [.agg A17.toArray, .agg A8.toArray] rfl Tryd.func27 (by kernel_rfl) (by kernel_rfl) ((R.union _ _ _ _ _ (HGL.out _ (HK.out.trans HY.out (FSub.refl _ _))) (R.new H17.out HY.out) (R.new H8.out HY.out)).mono ?_)
        rintro e YC ⟨stq, rfl, hat, hk, -⟩
        refine ⟨_, rfl, ?_⟩
        have HQ := Lib.hid hat
        clear hat
        replace HY := Lib.hid (HY.out.trans hk (FSub.refl _ _))
        clear hk
        refine hK.out _ _ (by rw [HSE.out]; exact HY.out) (fun hHeld => ?_); clear hK K; try simp only [Act.put, lsA, lsZ, lsS]
        refine rp 11 (h := fun K hK => ?_)
        refine wp_call9 15 _ _ rfl [stq] rfl Tryd.func15 (by kernel_rfl) (by kernel_rfl) ((R.key _ _ _ (HGL.out _ (HK.out.trans HY.out (FSub.refl _ _))) HQ.out).mono ?_)
        rintro e YC ⟨rfl, hk⟩
        rw [HKUU.out]
        clear HQ
        refine ⟨_, rfl, ?_⟩
        replace HY := Lib.hid (HY.out.trans hk (FSub.refl _ _))
        clear hk
        refine hK.out _ _ (by rw [HSE.out]; exact HY.out) (fun hHeld => ?_); clear hK K; try simp only [Act.put, lsA, lsZ, lsS]
        refine rp 13 (h := fun K hK => ?_)
        refine wp_call9 15 _ _ rfl [.agg A17.toArray] rfl Tryd.func15 (by kernel_rfl) (by kernel_rfl) ((R.key _ _ _ (HGL.out _ (HK.out.trans HY.out (FSub.refl _ _))) (R.new H17.out HY.out)).mono ?_)
        rintro e YC ⟨rfl, hk⟩
        rw [HKU.out]
        refine ⟨_, rfl, ?_⟩
        replace HY := Lib.hid (HY.out.trans hk (FSub.refl _ _))
        clear hk
        refine hK.out _ _ (by rw [HSE.out]; exact HY.out) (fun hHeld => ?_); clear hK K; try simp only [Act.put, lsA, lsZ, lsS]
        refine tw 14 (h := ?_)
        refine tw 15 (h := ?_)
        refine tw 16 (h := ?_)
        refine tk 17 (y := by exact skB.yields HO7.out rfl _ rfl g7 0 rfl HC7.out) (h := ?_)
        refine tk 18 (y := by exact skB.yields HO17.out rfl _ rfl g17 0 rfl HC17.out) (h := ?_)
        refine rp 19 (h := fun K hK => ?_)
        refine wp_call9 24 _ _ rfl [.agg A7.toArray, .agg A17.toArray] rfl Tryd.func24 (by kernel_rfl) (by kernel_rfl) ((R.within _ _ _ _ _ (HGL.out _ (HK.out.trans HY.out (FSub.refl _ _))) (R.new H7.out HY.out) (R.new H17.out HY.out)).mono ?_)
        rintro e YC ⟨rfl, hk⟩
        rw [HW1.out]
        refine ⟨_, rfl, ?_⟩
        replace HY := Lib.hid (HY.out.trans hk (FSub.refl _ _))
        clear hk
        refine hK.out _ _ (by rw [HSE.out]; exact HY.out) (fun hHeld => ?_); clear hK K; try simp only [Act.put, lsA, lsZ, lsS]
        refine tw 20 (h := ?_)
        refine tw 21 (h := ?_)
        refine tk 22 (y := by exact skB.yields HO8.out rfl _ rfl g8 0 rfl HC8.out) (h := ?_)
        refine tk 23 (y := by exact skB.yields HO17.out rfl _ rfl g17 0 rfl HC17.out) (h := ?_)
        refine rp 24 (h := fun K hK => ?_)
        refine wp_call9 24 _ _ rfl [.agg A8.toArray, .agg A17.toArray] rfl Tryd.func24 (by kernel_rfl) (by kernel_rfl) ((R.within _ _ _ _ _ (HGL.out _ (HK.out.trans HY.out (FSub.refl _ _))) (R.new H8.out HY.out) (R.new H17.out HY.out)).mono ?_)
        rintro e YC ⟨rfl, hk⟩
        rw [HW2.out]
        refine ⟨_, rfl, ?_⟩
        replace HY := Lib.hid (HY.out.trans hk (FSub.refl _ _))
        clear hk
        refine hK.out _ _ (by rw [HSE.out]; exact HY.out) (fun hHeld => ?_); clear hK K; try simp only [Act.put, lsA, lsZ, lsS]
        refine tw 25 (h := ?_)
        refine tw 26 (h := ?_)
        refine tk 27 (y := by exact skB.yields HO7.out rfl _ rfl g7 0 rfl HC7.out) (h := ?_)
        refine tk 28 (y := by exact skB.yields HO8.out rfl _ rfl g8 0 rfl HC8.out) (h := ?_)
        refine tk 30 (y := by exact skB.yields HO17.out rfl _ rfl g17 0 rfl HC17.out) (h := ?_)
        refine tk 32 (y := by exact skB.yields HO8.out rfl _ rfl g8 0 rfl HC8.out) (h := ?_)
        refine rp 29 (h := fun K hK => ?_)
        refine wp_call9 24 _ _ rfl [.agg A7.toArray, .agg A8.toArray] rfl Tryd.func24 (by kernel_rfl) (by kernel_rfl) ((R.within _ _ _ _ _ (HGL.out _ (HK.out.trans HY.out (FSub.refl _ _))) (R.new H7.out HY.out) (R.new H8.out HY.out)).mono ?_)
        rintro e YC ⟨rfl, hk⟩
        rw [HW3.out]
        refine ⟨_, rfl, ?_⟩
        replace HY := Lib.hid (HY.out.trans hk (FSub.refl _ _))
        clear hk
        refine hK.out _ _ (by rw [HSE.out]; exact HY.out) (fun hHeld => ?_); clear hK K; try simp only [Act.put, lsA, lsZ, lsS]
        refine rp 31 (h := fun K hK => ?_)
        refine wp_call9 15 _ _ rfl [.agg A17.toArray] rfl Tryd.func15 (by kernel_rfl) (by kernel_rfl) ((R.key _ _ _ (HGL.out _ (HK.out.trans HY.out (FSub.refl _ _))) (R.new H17.out HY.out)).mono ?_)
        rintro e YC ⟨rfl, hk⟩
        rw [HKU.out]
        refine ⟨_, rfl, ?_⟩
        replace HY := Lib.hid (HY.out.trans hk (FSub.refl _ _))
        clear hk
        refine hK.out _ _ (by rw [HSE.out]; exact HY.out) (fun hHeld => ?_); clear hK K; try simp only [Act.put, lsA, lsZ, lsS]
        refine rp 33 (h := fun K hK => ?_)
        refine wp_call9 15 _ _ rfl [.agg A8.toArray] rfl Tryd.func15 (by kernel_rfl) (by kernel_rfl) ((R.key _ _ _ (HGL.out _ (HK.out.trans HY.out (FSub.refl _ _))) (R.new H8.out HY.out)).mono ?_)
        rintro e YC ⟨rfl, hk⟩
        rw [HKT.out]
        refine ⟨_, rfl, ?_⟩
        replace HY := Lib.hid (HY.out.trans hk (FSub.refl _ _))
        clear hk
        refine hK.out _ _ (by rw [HSE.out]; exact HY.out) (fun hHeld => ?_); clear hK K; try simp only [Act.put, lsA, lsZ, lsS]
        refine tw 34 (h := ?_)
        refine tw 35 (h := ?_)
        refine tw 36 (h := ?_)
        refine tw 37 (h := ?_)
        refine tk 38 (y := by exact skB.yields HO17.out rfl _ rfl g17 0 rfl HC17.out) (h := ?_)
        refine tk 40 (y := by exact skB.yields HO7.out rfl _ rfl g7 0 rfl HC7.out) (h := ?_)
        refine tk 42 (y := by exact skB.yields HO8.out rfl _ rfl g8 0 rfl HC8.out) (h := ?_)
        refine rp 39 (h := fun K hK => ?_)
        refine wp_call9 28 _ _ rfl [.agg A17.toArray] rfl Tryd.func28 (by kernel_rfl) (by kernel_rfl) ((R.count _ _ _ (HGL.out _ (HK.out.trans HY.out (FSub.refl _ _))) (R.new H17.out HY.out)).mono ?_)
        rintro e YC ⟨rfl, hk⟩
        rw [HNU.out]
        refine ⟨_, rfl, ?_⟩
        replace HY := Lib.hid (HY.out.trans hk (FSub.refl _ _))
        clear hk
        refine hK.out _ _ (by rw [HSE.out]; exact HY.out) (fun hHeld => ?_); clear hK K; try simp only [Act.put, lsA, lsZ, lsS]
        refine rp 41 (h := fun K hK => ?_)
        refine wp_call9 28 _ _ rfl [.agg A7.toArray] rfl Tryd.func28 (by kernel_rfl) (by kernel_rfl) ((R.count _ _ _ (HGL.out _ (HK.out.trans HY.out (FSub.refl _ _))) (R.new H7.out HY.out)).mono ?_)
        rintro e YC ⟨rfl, hk⟩
        rw [HNS.out]
        refine ⟨_, rfl, ?_⟩
        replace HY := Lib.hid (HY.out.trans hk (FSub.refl _ _))
        clear hk
        refine hK.out _ _ (by rw [HSE.out]; exact HY.out) (fun hHeld => ?_); clear hK K; try simp only [Act.put, lsA, lsZ, lsS]
        refine rp 43 (h := fun K hK => ?_)
        refine wp_call9 28 _ _ rfl [.agg A8.toArray] rfl Tryd.func28 (by kernel_rfl) (by kernel_rfl) ((R.count _ _ _ (HGL.out _ (HK.out.trans HY.out (FSub.refl _ _))) (R.new H8.out HY.out)).mono ?_)
        rintro e YC ⟨rfl, hk⟩
        rw [HNT.out]
        refine ⟨_, rfl, ?_⟩
        replace HY := Lib.hid (HY.out.trans hk (FSub.refl _ _))
        clear hk
        refine hK.out _ _ (by rw [HSE.out]; exact HY.out) (fun hHeld => ?_); clear hK K; try simp only [Act.put, lsA, lsZ, lsS]
        refine tw 44 (h := ?_)
        refine tw 45 (h := ?_)
        refine tw 46 (h := ?_)
        refine tw 47 (h := ?_)
        refine rp 48 (h := fun K hK => ?_)
        refine wp_call9 9 _ _ rfl [] rfl Tryd.func9 (by kernel_rfl) (by kernel_rfl) ((awake15_any R _ (HGL.out _ (HK.out.trans HY.out (FSub.refl _ _)))).mono ?_)
        rintro e YC ⟨rfl, hk⟩
        refine ⟨_, rfl, ?_⟩
        replace HY := Lib.hid (HY.out.trans hk (FSub.refl _ _))
        clear hk
        refine hK.out _ _ (by rw [HSE.out]; exact HY.out) (fun hHeld => ?_); clear hK K; try simp only [Act.put, lsA, lsZ, lsS]
        refine tw 49 (h := ?_)
        refine tw 50 (h := ?_)
        refine wpAnyH_done (by kernel_rfl) ?_ _
        refine NoPanic.normal ?_
        have hk := HY.out
        replace HK := Lib.hid (HK.out.trans hk (FSub.refl _ _))
        try (replace H7 := Lib.hid (R.new H7.out hk); replace HB7 := Lib.hid (hk.heap HB7.out (by simp)))
        try (replace H8 := Lib.hid (R.new H8.out hk); replace HB8 := Lib.hid (hk.heap HB8.out (by simp)))
        try replace H12 := Lib.hid (R.new H12.out hk)
        try replace HB12 := Lib.hid (hk.heap HB12.out (by simp))
        try replace H14 := Lib.hid (R.new H14.out hk)
        try replace HB14 := Lib.hid (hk.heap HB14.out (by simp))
        try replace H15 := Lib.hid (R.new H15.out hk)
        try replace HB15 := Lib.hid (hk.heap HB15.out (by simp))
        try replace H17 := Lib.hid (R.new H17.out hk)
        try replace HB17 := Lib.hid (hk.heap HB17.out (by simp))
        replace HBX := Lib.hid (hk.heap HBX.out (by simp))
        clear hk hHeld hSD HSE HY HC7 HC8 HC17
        clear V
        obtain ⟨V, hV⟩ : ∃ x, x = YC := ⟨_, rfl⟩
        subst hV
        go_wp2_with fail
        go_ret
        exact ⟨rfl, HK.out⟩
end Go.Proofs.YtbeniihbejakaaaDoor
