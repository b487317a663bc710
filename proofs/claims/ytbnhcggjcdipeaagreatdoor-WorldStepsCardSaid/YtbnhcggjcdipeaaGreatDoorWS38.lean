/-
  The document's world: Text.
-/
import Derived.Test.YtbnhcggjcdipeaaGreatDoorWS00
import Derived.Test.YtbnhcggjcdipeaaGreatDoorWS28
import Derived.Test.YtbnhcggjcdipeaaGreatDoorWS26
set_option linter.unusedSimpArgs false
set_option linter.unusedVariables false
namespace Go.Proofs.YtbnhcggjcdipeaaGreatDoor
open Go.RowKit
set_option maxRecDepth 100000
set_option maxHeartbeats 8000000
theorem mdT_short {S : Md} (h : S.In) {k : Nat} (hk : S.len ≤ k) : (mdT S).length ≤ 6 * k + 100 := by
  cases S with
  | rg s =>
    have := dec_len5 (v := s) h.2
    show (dec s).length ≤ _
    omega
  | qu l =>
    have h1 := spT_len (l := l.map dec) (n := 5) (fun x hx => by
      obtain ⟨v, hv, rfl⟩ := List.mem_map.1 hx
      exact dec_len5 (h v hv).2)
    rw [List.length_map] at h1
    have h2 : l.length ≤ k := hk
    have h3 : l.length * (5 + 1) ≤ k * 6 := Nat.mul_le_mul_right 6 h2
    simp only [mdT, List.length_append, List.length_cons, List.length_nil]
    omega
  | mp m =>
    have h1 := mpT_len (show KvIn m from h) (k := 8) (Nat.le_refl _)
    unfold mpT at h1
    rw [List.take_of_length_le (by rw [h.1]; exact Nat.le_refl _)] at h1
    simp only [mdT, List.length_append, List.length_cons, List.length_nil]
    omega
  | lk s =>
    have h1 : 0 ≤ s ∧ s ≤ 16 := h
    show (if s = 0 then freeT else heldT ++ dec (s - 1)).length ≤ _
    split
    · simp [freeT]
    · have := dec_len5 (v := s - 1) (by omega)
      rw [List.length_append]
      simp [heldT]
      omega
theorem wtT_len {p : Nat × Md} (h8 : p.1 < 8) (h : p.2.In) (hk : p.2.len ≤ 10000) : (wtT p).length ≤ 60110 := by
  have h1 := mdT_short h hk
  have h2 := dec_len5 (v := (p.1 : Int)) (by omega)
  show (dec (p.1 : Int) ++ 61 :: mdT p.2).length ≤ _
  rw [List.length_append, List.length_cons]
  omega
theorem r14Text_any (w : World) {W : Wd} (hW : W.In) (hu : W.upto 10000) {a : Option Addr} {n c : Nat} {L : List Mq} (h : W14 w W (.slice a n c) L) :
    Calls Tryz.prog 37 #[.agg (wdC W.m (.slice a n c)).toArray] w fun e w' => e = .returned (.string (bs (wdT W))) ∧ Keeps [] w w' := by
  obtain ⟨rfl, bk, of, rfl, -, hr0⟩ := h.at hW
  have hk0 : Keeps [] w (w.alloc (.cells #[.int .u8 W.m, .slice (some ⟨bk, of, none⟩) 8 c] 39)) := (Keeps.refl _ _).alloc _
  have h0 := heap_alloc_new w (.cells #[.int .u8 W.m, .slice (some ⟨bk, of, none⟩) 8 c] 39)
  have HOB := Lib.hid (fun w' (hk : Keeps [] w w') => r14Objects_any w' hW hu (h.new hk))
  have HG := Lib.hid (fun p (hp : p ∈ W.li) => by
    obtain ⟨y, hy, hyS, hyD⟩ := h.get hW (Wd.li_mem hW p hp).1
    exact (⟨y, hyS.trans (Wd.li_at p hp).symm, hyD, hr0 _ y hy⟩ : ∃ y : Mq, y.S = p.2 ∧ D13 w y.S y.q y.p ∧ w.rangeAt bk (of + p.1 * 5) (mqC y)))
  have HP := Lib.hid (fun p (hp : p ∈ W.li) => (⟨(Wd.li_mem hW p hp).1, (Wd.li_mem hW p hp).2.2.1, hu _ (liW_mem _ _ _ p hp).2.2.1⟩ : p.1 < 8 ∧ p.2.In ∧ p.2.len ≤ 10000))
  have HL8 := Lib.hid (show W.li.length ≤ 8 from by have := liW_len W.m 0 W.l; rw [hW.n] at this; exact this)
  have HBL := Lib.hid (fun k => show (spT ((W.li.take k).map wtT)).length ≤ 8 * 60111 from by
    have h1 := spT_len (l := (W.li.take k).map wtT) (n := 60110) (fun x hx => by
      obtain ⟨p, hp, rfl⟩ := List.mem_map.1 hx
      have h2 := HP.out p (List.mem_of_mem_take hp)
      exact wtT_len h2.1 h2.2.1 h2.2.2)
    have h2 : ((W.li.take k).map wtT).length ≤ 8 := by rw [List.length_map, List.length_take]; have := HL8.out; omega
    exact Nat.le_trans h1 (Nat.mul_le_mul_right _ h2))
  obtain ⟨R, hR⟩ : ∃ R, R = w.heap.size := ⟨_, rfl⟩
  rw [← hR] at h0
  have HRE := Lib.hid hR; have HK0 := Lib.hid hk0; have H0 := Lib.hid h0
  obtain ⟨TT, hTT⟩ : ∃ TT, TT = wdT W := ⟨_, rfl⟩
  rw [← hTT]
  unfold wdT at hTT
  have HTT := Lib.hid hTT
  clear hTT
  generalize W.li = li at *
  generalize W.m = m at *
  clear hR hk0 h0 h hW hu hr0
  have c0 := (cell_lit H0.out 0 rfl : World.cell? _ _ = some (Value.int .u8 m))
  have c1 := (cell_lit H0.out 1 rfl : World.cell? _ _ = some (Value.slice (some ⟨bk, of, none⟩) 8 c))
  unfold wdC
  go_enter Tryz.func37, Tryz.ntmps37
  go_wp2_with fail
  rw [← HRE.out]
  refine (HOB.out _ HK0.out).mono ?_; rintro e w2 ⟨v, rfl, hv, hk2⟩
  have H02 := Lib.hid (hk2.heap H0.out (by simp)); have HK2 := Lib.hid (HK0.out.trans hk2 (FSub.refl _ _))
  obtain ⟨av, cv, rfl, hcv, hmv⟩ := hv.shape
  have HV := Lib.hid hv
  clear hk2 hv H0 HK0 c0 c1 HOB
  rw [List.length_map] at *
  go_wp2_with fail
  go_loopw [3, 5] (fun s i wr => ∃ k : Nat, i = .int .i64 k ∧ k ≤ li.length ∧ s = .string (bs (spT ((li.take k).map wtT))) ∧ wr.heap[R]? = some (.cells #[.int .u8 m, .slice (some ⟨bk, of, none⟩) 8 c] 39 (0, 0)) ∧ Keeps [] w2 wr) (fun _ i _ => li.length - (intOf i).toNat)
  case atStart => exact ⟨0, rfl, by omega, rfl, H02.out, Keeps.refl _ _⟩
  case round =>
    obtain ⟨k, rfl, hk, rfl, hb0, hkw⟩ := hrel
    by_cases hlt : k < li.length
    · obtain ⟨y, hyS, hyD, hry⟩ := HG.out li[k] (List.getElem_mem hlt)
      obtain ⟨p8, pI, pl⟩ := HP.out li[k] (List.getElem_mem hlt)
      have hv := HV.out
      obtain ⟨gv, oc, e, -, -, -, hgv, hrv⟩ := hv.at (fun e => by have := congrArg List.length e; rw [List.length_map, List.length_nil] at this; omega)
      simp only [Value.slice.injEq, List.length_map, true_and] at e
      obtain ⟨rfl, rfl⟩ := e
      have hcv0 : w2.cell? ⟨gv, k, none⟩ = some (.int .i64 (li[k].1 : Int)) := by
        have h1 := hrv k (by rw [List.length_map]; exact hlt) 0 (.int .i64 (li[k].1 : Int)) (by rw [List.getElem_map]; rfl)
        rw [show k * rkN.s + 0 = k from by show k * 1 + 0 = k; omega] at h1
        exact h1
      have hnx : spT ((li.take (k + 1)).map wtT) = spT ((li.take k).map wtT) ++ (if k = 0 then [] else [32]) ++ wtT li[k] := by
        rw [List.take_add_one, List.getElem?_eq_getElem hlt, Option.toList_some, List.map_append, List.map_cons, List.map_nil, spT_snoc]
        by_cases h0 : k = 0
        · subst h0; simp
        · rw [if_neg h0, if_neg (by intro e; have := congrArg List.length e; rw [List.length_map, List.length_take, List.length_nil] at this; omega)]
      have HNX := Lib.hid hnx
      have HBK := Lib.hid (show (spT ((li.take k).map wtT)).length ≤ 480888 from HBL.out k)
      have HKW := Lib.hid hkw; have HB0 := Lib.hid hb0
      have HKA := Lib.hid (HK2.out.trans hkw (FSub.refl _ _))
      have HRY := Lib.hid hry; have HYD := Lib.hid hyD; have HOK := Lib.hid hyD.ok
      have HYI := Lib.hid (hyS ▸ pI : y.S.In); have HYL := Lib.hid (hyS ▸ pl : y.S.len ≤ 10000); have HYS := Lib.hid hyS
      have c1 := (cell_lit hb0 1 rfl : World.cell? _ _ = some (Value.slice (some ⟨bk, of, none⟩) 8 c))
      have cN := hkw.cell hcv0 (by simp)
      clear hv hcv0 hnx hkw hb0 hry hyD pI pl hyS hrv hgv
      generalize li[k] = p at *
      generalize spT ((li.take k).map wtT) = B at *
      have HP8 := Lib.hid p8
      obtain ⟨S0, hS0⟩ : ∃ S0 : World → Prop, S0 = fun y => Keeps [] wr y := ⟨_, rfl⟩
      have HSE := Lib.hid hS0
      have hSD : S0 wr.drew := by rw [hS0]; exact (Keeps.refl _ _).drew
      have HSA := Lib.hid (fun (w' : World) (hh : S0 w') => show w'.rangeAt bk (of + p.1 * 5) (mqC y) from by rw [hS0] at hh; exact fun j v hv => (HKA.out.trans hh (FSub.refl _ _)).cell (HRY.out j v hv) (by simp))
      have HC1 := Lib.hid (fun (w' : World) (hh : S0 w') => show w'.cell? ⟨R, 1, none⟩ = some (.slice (some ⟨bk, of, none⟩) 8 c) from by rw [hS0] at hh; exact hh.cell c1 (by simp))
      have HCN := Lib.hid (fun (w' : World) (hh : S0 w') => show w'.cell? ⟨gv, k, none⟩ = some (.int .i64 (p.1 : Int)) from by rw [hS0] at hh; exact hh.cell cN (by simp))
      clear hS0 c1 cN
      have HTX := Lib.hid (fun w' (h : Keeps [] wr w') => r13Text_any w' HYI.out HYL.out (HYD.out.new (HKA.out.trans h (FSub.refl _ _))))
      have HY := Lib.hid ((Keeps.refl [] wr).drew)
      obtain ⟨SD, hSDD⟩ : ∃ SD, SD = bs (dec (p.1 : Int)) := ⟨_, rfl⟩
      obtain ⟨ST, hST⟩ : ∃ ST, ST = bs (mdT y.S) := ⟨_, rfl⟩
      obtain ⟨SB, hSB⟩ : ∃ SB, SB = bs B := ⟨_, rfl⟩
      have zD : SD.size ≤ 5 := by rw [hSDD, bs_size]; exact dec_len5 (by omega)
      have zT : ST.size ≤ 60100 := by rw [hST, bs_size]; have := mdT_short HYI.out HYL.out; omega
      have zB : SB.size ≤ 480888 := by rw [hSB, bs_size]; exact HBK.out
      have HSD := Lib.hid hSDD.symm; have HST := Lib.hid hST.symm; have HSB := Lib.hid hSB
      rw [← hSB]
      clear hSDD hST hSB
      by_cases h0 : k = 0
      · have HSUM := Lib.hid (show SB ++ SD ++ ⟨#[61]⟩ ++ ST = bs (spT ((li.take (k + 1)).map wtT)) from by
          rw [HNX.out, if_pos h0, HSB.out, ← HSD.out, ← HST.out, wtT, ← HYS.out, show (⟨#[61]⟩ : ByteArray) = bs [61] from rfl, bs_cat, bs_cat, bs_cat]
          simp)
        have kp : ¬ 0 < (k : Int) := by omega
        clear h0
        have q1 : ¬ 9223372036854775807 < SB.size + SD.size := by omega
        have q2 : ¬ 9223372036854775807 < SB.size + SD.size + 1 := by omega
        have q3 : ¬ 9223372036854775807 < SB.size + SD.size + 1 + ST.size := by omega
        go_wp2_with fail
        refine wp_region_noPanic ?_
        refine wp_region_held_drew (S := S0) (by kernel_rfl) hSD (fun hHeld => ?_)
        refine tw 0 (h := ?_)
        refine tw 1 (h := ?_)
        refine tw 2 (h := ?_)
        refine tk 3 (y := by exact yields_indexN rfl _ _ rfl gv 0 li.length cv k rfl rfl hlt) (h := ?_)
        refine tk 4 (y := by exact Or.inl ⟨by rfl, by intro w hSw; have q0 := HCN.out w hSw; go_simp; try with_reducible rfl⟩) (h := ?_)
        refine tw 8 (h := ?_)
        refine tk 9 (y := by exact Or.inl ⟨by rfl, by intro w hSw; have q0 := HC1.out w hSw; go_simp; try with_reducible rfl⟩) (h := ?_)
        refine tw 10 (h := ?_)
        refine tw 11 (h := ?_)
        refine tk 12 (y := by exact yields_indexN rfl _ _ rfl gv 0 li.length cv k rfl rfl hlt) (h := ?_)
        refine tk 13 (y := by exact Or.inl ⟨by rfl, by intro w hSw; have q0 := HCN.out w hSw; go_simp; try with_reducible rfl⟩) (h := ?_)
        refine tk 14 (y := by exact yields_indexW rfl _ _ rfl bk of 8 c p.1 rfl rfl HP8.out) (h := ?_)
        refine tk 15 (y := by exact skD.yields HOK.out rfl _ rfl bk (of + p.1 * 5) rfl HSA.out) (h := ?_)
        refine rp 5 (h := fun K hK => ?_)
        refine wp_call9 59 _ _ rfl [.int .i64 (p.1 : Int)] rfl Tryz.func59 (by kernel_rfl) (by kernel_rfl) ((r13Digits_any _ (p.1 : Int) (Int.natCast_nonneg _) (by have := HP8.out; omega)).mono ?_)
        rintro e y1 ⟨rfl, hk1⟩
        refine ⟨_, rfl, ?_⟩
        rw [HSD.out]
        replace HY := Lib.hid (HY.out.trans hk1 (FSub.refl _ _))
        clear hk1
        refine hK.out _ _ (by rw [HSE.out]; exact HY.out) (fun hHeld => ?_); clear hK K; try simp only [Act.put, lsA, lsZ, lsS]
        refine tw 6 (h := ?_)
        refine tw 7 (h := ?_)
        refine rp 16 (h := fun K hK => ?_)
        refine wp_call9 60 _ _ rfl [.agg (mdC y.S y.q y.p).toArray] rfl Tryz.func60 (by kernel_rfl) (by kernel_rfl) ((HTX.out _ HY.out).mono ?_)
        rintro e y1 ⟨rfl, hk1⟩
        refine ⟨_, rfl, ?_⟩
        rw [HST.out]
        replace HY := Lib.hid (HY.out.trans hk1 (FSub.refl _ _))
        clear hk1
        refine hK.out _ _ (by rw [HSE.out]; exact HY.out) (fun hHeld => ?_); clear hK K; try simp only [Act.put, lsA, lsZ, lsS]
        refine tw 17 (h := ?_)
        refine tw 18 (h := ?_)
        refine wpAnyH_done (by kernel_rfl) ?_ _
        refine NoPanic.normal ?_
        rw [HSUM.out]
        clear hHeld hSD HSE HSA HC1 HCN HTX
        go_wp2_with fail
        go_roundw
        case rel => exact ⟨k + 1, by go_num, by omega, rfl, HY.out.heap HB0.out (by simp), HKW.out.trans HY.out (FSub.refl _ _)⟩
        case measure => simp [intOf]; omega
      · have HSUM := Lib.hid (show SB ++ ⟨#[32]⟩ ++ SD ++ ⟨#[61]⟩ ++ ST = bs (spT ((li.take (k + 1)).map wtT)) from by
          rw [HNX.out, if_neg h0, HSB.out, ← HSD.out, ← HST.out, wtT, ← HYS.out, show (⟨#[61]⟩ : ByteArray) = bs [61] from rfl, show (⟨#[32]⟩ : ByteArray) = bs [32] from rfl, bs_cat, bs_cat, bs_cat, bs_cat]
          simp)
        have kp : 0 < (k : Int) := by omega
        have q0 : ¬ 9223372036854775807 < SB.size + 1 := by omega
        have q1 : ¬ 9223372036854775807 < SB.size + 1 + SD.size := by omega
        have q2 : ¬ 9223372036854775807 < SB.size + 1 + SD.size + 1 := by omega
        have q3 : ¬ 9223372036854775807 < SB.size + 1 + SD.size + 1 + ST.size := by omega
        go_wp2_with fail
        refine wp_region_noPanic ?_
        refine wp_region_held_drew (S := S0) (by kernel_rfl) hSD (fun hHeld => ?_)
        refine tw 0 (h := ?_)
        refine tw 1 (h := ?_)
        refine tw 2 (h := ?_)
        refine tk 3 (y := by exact yields_indexN rfl _ _ rfl gv 0 li.length cv k rfl rfl hlt) (h := ?_)
        refine tk 4 (y := by exact Or.inl ⟨by rfl, by intro w hSw; have q0 := HCN.out w hSw; go_simp; try with_reducible rfl⟩) (h := ?_)
        refine tw 8 (h := ?_)
        refine tk 9 (y := by exact Or.inl ⟨by rfl, by intro w hSw; have q0 := HC1.out w hSw; go_simp; try with_reducible rfl⟩) (h := ?_)
        refine tw 10 (h := ?_)
        refine tw 11 (h := ?_)
        refine tk 12 (y := by exact yields_indexN rfl _ _ rfl gv 0 li.length cv k rfl rfl hlt) (h := ?_)
        refine tk 13 (y := by exact Or.inl ⟨by rfl, by intro w hSw; have q0 := HCN.out w hSw; go_simp; try with_reducible rfl⟩) (h := ?_)
        refine tk 14 (y := by exact yields_indexW rfl _ _ rfl bk of 8 c p.1 rfl rfl HP8.out) (h := ?_)
        refine tk 15 (y := by exact skD.yields HOK.out rfl _ rfl bk (of + p.1 * 5) rfl HSA.out) (h := ?_)
        refine rp 5 (h := fun K hK => ?_)
        refine wp_call9 59 _ _ rfl [.int .i64 (p.1 : Int)] rfl Tryz.func59 (by kernel_rfl) (by kernel_rfl) ((r13Digits_any _ (p.1 : Int) (Int.natCast_nonneg _) (by have := HP8.out; omega)).mono ?_)
        rintro e y1 ⟨rfl, hk1⟩
        refine ⟨_, rfl, ?_⟩
        rw [HSD.out]
        replace HY := Lib.hid (HY.out.trans hk1 (FSub.refl _ _))
        clear hk1
        refine hK.out _ _ (by rw [HSE.out]; exact HY.out) (fun hHeld => ?_); clear hK K; try simp only [Act.put, lsA, lsZ, lsS]
        refine tw 6 (h := ?_)
        refine tw 7 (h := ?_)
        refine rp 16 (h := fun K hK => ?_)
        refine wp_call9 60 _ _ rfl [.agg (mdC y.S y.q y.p).toArray] rfl Tryz.func60 (by kernel_rfl) (by kernel_rfl) ((HTX.out _ HY.out).mono ?_)
        rintro e y1 ⟨rfl, hk1⟩
        refine ⟨_, rfl, ?_⟩
        rw [HST.out]
        replace HY := Lib.hid (HY.out.trans hk1 (FSub.refl _ _))
        clear hk1
        refine hK.out _ _ (by rw [HSE.out]; exact HY.out) (fun hHeld => ?_); clear hK K; try simp only [Act.put, lsA, lsZ, lsS]
        refine tw 17 (h := ?_)
        refine tw 18 (h := ?_)
        refine wpAnyH_done (by kernel_rfl) ?_ _
        refine NoPanic.normal ?_
        rw [HSUM.out]
        clear hHeld hSD HSE HSA HC1 HCN HTX
        go_wp2_with fail
        go_roundw
        case rel => exact ⟨k + 1, by go_num, by omega, rfl, HY.out.heap HB0.out (by simp), HKW.out.trans HY.out (FSub.refl _ _)⟩
        case measure => simp [intOf]; omega
    · obtain rfl : k = li.length := by omega
      rw [List.take_length]
      have HK := Lib.hid (HK2.out.trans hkw (FSub.refl _ _))
      clear hb0 hkw
      obtain ⟨T, hT⟩ : ∃ T, T = spT (li.map wtT) := ⟨_, rfl⟩
      rw [← hT]
      have HT := Lib.hid hT
      clear hT
      by_cases hn : li = []
      · have HN := Lib.hid hn
        have hT0 : T = [] := by rw [HT.out, hn]; rfl
        have t1 : (bs T).toList.isEmpty = true := by rw [toL_bs, hT0]; rfl
        clear hn hT0
        go_wp2_with fail
        go_ret
        exact ⟨by rw [HTT.out, if_pos HN.out]; rfl, HK.out⟩
      · have hne : T ≠ [] := by
          rw [HT.out]
          cases li with
          | nil => exact absurd rfl hn
          | cons p l => exact spT_ne (wtT_ne p)
        have t1 : (bs T).toList.isEmpty = false := by
          rw [toL_bs]
          cases T with
          | nil => exact absurd rfl hne
          | cons => rfl
        have HN := Lib.hid hn
        clear hn hne
        go_wp2_with fail
        go_ret
        exact ⟨by rw [HTT.out, if_neg HN.out, HT.out]; rfl, HK.out⟩
end Go.Proofs.YtbnhcggjcdipeaaGreatDoor
