/-
  The document's history: why what a client has open may not end so.
-/
import Derived.BigQuiet
import Derived.Test.YtlaccndjlfpjbaaGreatDoorB19
import Derived.Test.YtlaccndjlfpjbaaGreatDoorB20
import Derived.Test.YtlaccndjlfpjbaaGreatDoorB04
set_option linter.unusedSimpArgs false
set_option linter.unusedVariables false
namespace Go.Proofs.YtlaccndjlfpjbaaGreatDoor
open Go.RowKit Go.Maps
set_option maxHeartbeats 8000000
set_option maxRecDepth 100000
/-- What a client has open was taken. -/
theorem pend_ok {L : List Ev} (h : HistOk L) {c : Int} {p : Ev} (hp : hPend L c = some p) : p.In ∧ p.t.length ≤ 8 ∧ evGood p = true := by
  have hm : p ∈ L := List.mem_of_mem_tail (hPend_mem hp).1
  exact ⟨h.i p hm, (good_mics (hist_good h.h p hm)).2, hist_good h.h p hm⟩
theorem hReads_next {l : List Mic} {k : Nat} (h : k < l.length) : hReads (l.take (k + 1)) = hReads (l.take k) + if (l.getD k micNone).rd then 1 else 0 := by
  rw [take_nextD micNone h, hReads_snoc]
theorem r7ends_any (w : World) {N b base : Nat} {v : Value} {T : EvL} (hH : R7At N b base w v T) (hn : T.length ≤ 1000) (hL : HistOk (evsOf T)) (x : Ev) (hx : x.In) {M : Nat} (tx rd : Value) (ht : EvAt M w tx rd x) (hM : M ≤ w.heap.size) :
    Calls Tryz.prog 46 #[.pointer (some ⟨b, 0, none⟩), .agg (evC x tx rd)] w fun e w' => e = .returned (.int .i64 (hEndE mayOf (evsOf T) x)) ∧ Keeps [] w w' := by
  have hx1 := ht.t.one
  obtain ⟨ar, cr, rfl, -⟩ := ht.r
  have hk0 := (Keeps.refl [] w).alloc (.cells (evC x tx (.slice ar x.r.length cr)) 42)
  have hX := heap_alloc_new w (.cells (evC x tx (.slice ar x.r.length cr)) 42)
  have e1 := ev_cell hX 1 (evC_1 x tx (.slice ar x.r.length cr))
  have HP := Lib.hid (r7Pending_any _ (hH.new hk0) hn x.c)
  have HN := Lib.hid (Nat.le_trans (Nat.le_trans hH.nb (Nat.le_of_lt (lt_of_block hH.cell))) hk0.size)
  have HX := Lib.hid hX; have HK0 := Lib.hid hk0; have HL := Lib.hid hL; have HXI := Lib.hid hx
  generalize hR : hEndE mayOf (evsOf T) x = R at *
  have HR := Lib.hid hR
  clear hX hk0 hL hH ht hR hx hx1
  go_enter Tryz.func46, Tryz.ntmps46
  go_wp2_with fail
  generalize w.alloc _ = W at *
  generalize w.heap.size = B at *
  refine (HP.out).mono ?_; rintro e w1 ⟨p, ptx, prd, rfl, hat, hpp, hk1⟩
  have HAT := Lib.hid hat; have HPP := Lib.hid hpp
  have x1 := hat.t.one; have x2 := hat.r.one
  have HX1 := Lib.hid (hk1.heap HX.out (by simp))
  have HK1 := Lib.hid (HK0.out.trans hk1 (FSub.refl _ _))
  have HKA := Lib.hid ((Keeps.refl [] w1).alloc (.cells zeroEv 42))
  have hNW := Nat.le_trans HN.out hk1.size
  clear hat hpp hk1 HP HK0 HX e1
  go_wp2_with (first | ((with_reducible apply wpList_put_ev); exact rfl; exact rfl; (first | assumption | (refine heap_alloc_lt ?_; assumption) | (refine heap_alloc_lt (heap_alloc_lt ?_); assumption) | exact heap_alloc_at (by simp)); exact ⟨rfl, rfl⟩; (refine evC_one _ ?_ ?_ <;> first | rfl | assumption)))
  intro W2 hb2 hk2
  have hq2 : Keeps [] w1 W2 := HKA.out.trans hk2 (fun q hq => .inr (by simp at hq; omega))
  have HK2 := Lib.hid (HK1.out.trans hq2 (FSub.refl _ _))
  have HX2 := Lib.hid (hq2.heap HX1.out (by simp))
  have HAT2 := Lib.hid (HAT.out.new hq2 hNW)
  clear hk2 hq2 HKA HAT HX1 HK1 x1 x2
  generalize w1.heap.size = C at *
  have c2 := ev_cell hb2 2 (evC_2 p ptx prd); have c3 := ev_cell hb2 3 (evC_3 p ptx prd); have c10 := ev_cell hb2 10 (evC_10 p ptx prd)
  have hX := HX2.out
  have e0 := ev_cell hX 0 (evC_0 x tx (.slice ar x.r.length cr)); have e2 := ev_cell hX 2 (evC_2 x tx (.slice ar x.r.length cr))
  have e8 := ev_cell hX 8 (evC_8 x tx (.slice ar x.r.length cr)); have e9 := ev_cell hX 9 (evC_9 x tx (.slice ar x.r.length cr)); have e11 := ev_cell hX 11 (evC_11 x tx (.slice ar x.r.length cr))
  have HB2 := Lib.hid hb2
  clear hX hb2
  cases hpd : hPend (evsOf T) x.c with
  | none =>
    obtain rfl : R = 7 := HR.out.symm.trans (by unfold hEndE; rw [hpd])
    clear HR hpd
    go_wp2_with fail
    go_ret
    exact ⟨rfl, HK2.out⟩
  | some y =>
    obtain rfl := HPP.out y hpd
    have HR1 := Lib.hid (show (if y.id = x.id then (if x.k = 3 then mayOf y.o.f x.rk x.rv else if x.k = 6 ∧ hReads y.t ≠ x.r.length then 10 else 0) else 7) = R by rw [← HR.out]; unfold hEndE; rw [hpd])
    obtain ⟨pin, p8, -⟩ := pend_ok HL.out hpd
    clear HR hpd HPP
    by_cases hid : y.id = x.id
    · have HR2 := Lib.hid (show (if x.k = 3 then mayOf y.o.f x.rk x.rv else if x.k = 6 ∧ hReads y.t ≠ x.r.length then 10 else 0) = R by rw [← HR1.out, if_pos hid])
      rw [hid] at c2
      have hi2 : (x.id != x.id) = false := by simp
      clear HR1 hid
      by_cases h3 : x.k = 3
      · have hr3 : mayOf y.o.f x.rk x.rv = R := by rw [← HR2.out, if_pos h3]
        rw [h3] at e0
        have hmay := r3May_any W2 y.o.f x.rk x.rv HXI.out.rk0 HXI.out.rk1
        rw [hr3] at hmay
        have HMAY := Lib.hid hmay
        clear HR2 h3 hr3 hmay pin
        go_wp2_with fail
        refine (HMAY.out).mono ?_; rintro e w5 ⟨rfl, hk5⟩
        go_wp2_with fail
        go_ret
        exact ⟨rfl, HK2.out.trans hk5 (FSub.refl _ _)⟩
      · have h3b : (x.k == 3) = false := by simpa using h3
        have HR4 := Lib.hid (show (if x.k = 6 ∧ hReads y.t ≠ x.r.length then (10 : Int) else 0) = R by rw [← HR2.out, if_neg h3])
        obtain ⟨pa, pc, rfl, hpc, hpm, hprow⟩ := HAT2.out.t
        have HROW := Lib.hid hprow
        clear HR2 h3 hprow HAT2 HB2
        generalize hn2 : y.t.length = n at *
        have HN2 := Lib.hid hn2
        clear hn2
        go_wp2_with fail
        go_loopw [7, 8] (fun z i wr => ∃ k : Nat, i = .int .i64 k ∧ k ≤ n ∧ z = .int .i64 (hReads (y.t.take k) : Nat) ∧ wr = W2) (fun _ i _ => n - (intOf i).toNat)
        case atStart => exact ⟨0, rfl, by omega, rfl, rfl⟩
        case round =>
          obtain ⟨k, rfl, hk, rfl, rfl⟩ := hrel
          by_cases hlt : k < n
          · have hkl : k < y.t.length := by have := HN2.out; omega
            obtain ⟨xb, xo, rfl, hxb, hxc⟩ := HROW.out (fun e => by rw [e] at hkl; simp at hkl)
            obtain ⟨m1, -, -⟩ := hxc k _ (getD_get micNone hkl)
            have htk := hReads_next hkl
            have hle : hReads (y.t.take k) ≤ 1000 := by
              have h1 := hReads_le (y.t.take k)
              have h2 : (y.t.take k).length ≤ y.t.length := by rw [List.length_take]; omega
              have := HN2.out
              omega
            generalize hReads (y.t.take k) = D at *
            generalize y.t.getD k micNone = m at *
            obtain ⟨m0, m2, m3⟩ := m
            simp only at m1 htk
            have HT := Lib.hid htk
            clear hxc htk
            cases m0 with
            | true =>
              go_wp2_with fail
              go_roundw
              case rel => exact ⟨k + 1, by go_num, by omega, by rw [HT.out]; go_num, trivial⟩
              case measure => simp [intOf]; omega
            | false =>
              go_wp2_with fail
              go_roundw
              case rel => exact ⟨k + 1, by go_num, by omega, by rw [HT.out]; rfl, trivial⟩
              case measure => simp [intOf]; omega
          · obtain rfl : k = n := by omega
            have hall : y.t.take y.t.length = y.t := List.take_length
            rw [HN2.out] at hall
            rw [hall]
            clear HROW hall
            by_cases h6 : x.k = 6
            · rw [h6] at e0
              by_cases hr : hReads y.t = x.r.length
              · obtain rfl : R = 0 := HR4.out.symm.trans (by rw [if_neg]; rintro ⟨_, h⟩; exact h hr)
                rw [hr]
                have tq : ((x.r.length : Int) != (x.r.length : Int)) = false := by simp
                clear HR4 hr h6
                go_wp2_with fail
                go_ret
                exact ⟨rfl, HK2.out⟩
              · obtain rfl : R = 10 := HR4.out.symm.trans (by rw [if_pos ⟨h6, hr⟩])
                have tq : ((hReads y.t : Int) != (x.r.length : Int)) = true := by simp; omega
                clear HR4 hr h6
                go_wp2_with fail
                go_ret
                exact ⟨rfl, HK2.out⟩
            · obtain rfl : R = 0 := HR4.out.symm.trans (by rw [if_neg]; rintro ⟨h, _⟩; exact h6 h)
              have t6 : (x.k == 6) = false := by simpa using h6
              clear HR4 h6
              go_wp2_with fail
              go_ret
              exact ⟨rfl, HK2.out⟩
    · obtain rfl : R = 7 := by rw [← HR1.out, if_neg hid]
      have hi2 : (y.id != x.id) = true := by simpa using hid
      clear HR1 hid pin
      go_wp2_with fail
      go_ret
      exact ⟨rfl, HK2.out⟩
end Go.Proofs.YtlaccndjlfpjbaaGreatDoor
/-
  The document's history: why a client may not open something.
-/
namespace Go.Proofs.YtlaccndjlfpjbaaGreatDoor
open Go.RowKit Go.Maps
theorem hBehind_at {t : List Mic} {i k : Nat} (hi : i < t.length) (hk : k < i) (h1 : (t.getD i micNone).rd = true) (h2 : (t.getD k micNone).rd = false) (h3 : (t.getD k micNone).key = (t.getD i micNone).key) : hBehind t = true := by
  have h : hBehind (t.take (i + 1)) = true := by
    rw [take_nextD micNone hi, hBehind_snoc]
    rw [Bool.or_eq_true]
    right
    rw [Bool.and_eq_true]
    refine ⟨h1, List.any_eq_true.2 ⟨t.getD k micNone, ?_, by rw [Bool.and_eq_true]; exact ⟨by rw [h2]; rfl, decide_eq_true h3⟩⟩⟩
    rw [List.mem_take_iff_getElem]
    exact ⟨k, by omega, by simp [List.getD, show k < t.length by omega]⟩
  exact hBehind_take h
theorem hBehind_none {t : List Mic} (h : ∀ i, i < t.length → ∀ k, k < i → ¬ ((t.getD i micNone).rd = true ∧ (t.getD k micNone).rd = false ∧ (t.getD k micNone).key = (t.getD i micNone).key)) : hBehind t = false := by
  have hall : ∀ i, i ≤ t.length → hBehind (t.take i) = false := by
    intro i
    induction i with
    | zero => intro _; rfl
    | succ j ih =>
      intro hj
      rw [take_nextD micNone (by omega), hBehind_snoc, ih (by omega)]
      rw [Bool.false_or]
      cases hr : (t.getD j micNone).rd with
      | false => rfl
      | true =>
        rw [Bool.true_and, List.any_eq_false]
        intro y hy hq
        rw [List.mem_take_iff_getElem] at hy
        obtain ⟨k, hk, rfl⟩ := hy
        have hk2 : k < t.length := by omega
        have e : t.getD k micNone = t[k] := by simp [List.getD, hk2]
        simp only [Bool.and_eq_true, Bool.not_eq_true', decide_eq_true_eq] at hq
        exact h j (by omega) k (by omega) ⟨hr, by rw [e]; exact hq.1, by rw [e]; exact hq.2⟩
  have := hall t.length (Nat.le_refl _)
  rwa [List.take_length] at this
theorem mApp_old_next {L : List Ev} {k : Nat} (hk : k < L.length) (h1 : 1 ≤ k) (m : Mic) : mApp (hOld (L.take (k + 1))) m = mApp (hOld (L.take k)) m + mApp (L.getD k evZero).t m := by
  have hne : L.take k ≠ [] := fun e => by
    have h3 : 0 < (L.take k).length := by rw [List.length_take]; omega
    rw [e] at h3; simp at h3
  unfold hOld
  rw [take_nextD evZero hk, tail_snoc hne, List.flatMap_append, mApp_app]
  simp
theorem hOld_one (L : List Ev) : hOld (L.take 1) = [] := by cases L <;> rfl
theorem mApp_le (l : List Mic) (m : Mic) : mApp l m ≤ l.length := List.length_filter_le _ _
theorem hOld_len {L : List Ev} (h : ∀ x ∈ L, x.t.length ≤ 8) : (hOld L).length ≤ 8 * L.length := by
  unfold hOld
  have h2 : ∀ x ∈ L.tail, x.t.length ≤ 8 := fun x hx => h x (List.mem_of_mem_tail hx)
  have h3 : L.tail.length ≤ L.length := by simp
  have h4 : ∀ (K : List Ev), (∀ x ∈ K, x.t.length ≤ 8) → (K.flatMap (·.t)).length ≤ 8 * K.length := by
    intro K
    induction K with
    | nil => intro _; simp
    | cons x r ih =>
      intro hK
      have := ih (fun y hy => hK y (by simp [hy]))
      have := hK x (by simp)
      simp only [List.flatMap_cons, List.length_append, List.length_cons]
      omega
  have := h4 _ h2
  omega
end Go.Proofs.YtlaccndjlfpjbaaGreatDoor
/-
  The document's history: why a client may not open something: its walk.
-/
namespace Go.Proofs.YtlaccndjlfpjbaaGreatDoor
open Go.RowKit Go.Maps
set_option maxHeartbeats 8000000
set_option maxRecDepth 100000
theorem r7opens_any (w : World) {N b base : Nat} {v : Value} {T : EvL} (hH : R7At N b base w v T) (hn : T.length ≤ 1000) (hL : HistOk (evsOf T)) (g : Ev) (hg : (evsOf T).head? = some g) (x : Ev) (hx : x.In) {M : Nat} (tx rd : Value) (ht : EvAt M w tx rd x) (hM : M ≤ w.heap.size) (hl : x.t.length ≤ 8) :
    Calls Tryz.prog 45 #[.pointer (some ⟨b, 0, none⟩), .agg (evC x tx rd)] w fun e w' => e = .returned (.int .i64 (hOpenE opChk (evsOf T) g x)) ∧ Keeps [] w w' := by
  have hin : ∀ p ∈ T, p.1.In := fun p hp => hL.i _ (by unfold evsOf; exact List.mem_map.2 ⟨p, hp, rfl⟩)
  have hk0 := (Keeps.refl [] w).alloc (.cells (evC x tx rd) 42)
  have hX := heap_alloc_new w (.cells (evC x tx rd) 42)
  have e1 := ev_cell hX 1 (evC_1 x tx rd)
  have hH0 := hH.new hk0
  have HP := Lib.hid (r7Pending_any _ hH0 hn x.c)
  have HN := Lib.hid (Nat.le_trans (Nat.le_trans hH.nb (Nat.le_of_lt (lt_of_block hH.cell))) hk0.size)
  have HX := Lib.hid hX; have HK0 := Lib.hid hk0; have HL := Lib.hid hL; have HXI := Lib.hid hx; have HT0 := Lib.hid (ht.new hk0 hM); have HM := Lib.hid (Nat.le_trans hM hk0.size)
  have HH0 := Lib.hid hH0; have HIN := Lib.hid hin; have HG := Lib.hid hg
  generalize hR : hOpenE opChk (evsOf T) g x = R at *
  have HR := Lib.hid hR
  clear hX hk0 hL hH hH0 ht hR hx hin hg hM
  go_enter Tryz.func45, Tryz.ntmps45
  go_wp2_with fail
  generalize w.alloc _ = W at *
  generalize w.heap.size = B at *
  refine (HP.out).mono ?_; rintro e w1 ⟨p, ptx, prd, rfl, hat, hpp, hk1⟩
  have x1 := hat.t.one; have x2 := hat.r.one
  have HX1 := Lib.hid (hk1.heap HX.out (by simp))
  have HK1 := Lib.hid hk1
  have HKA := Lib.hid ((Keeps.refl [] w1).alloc (.cells zeroEv 42))
  clear hat hpp hk1 HP HX e1
  go_wp2_with (first | ((with_reducible apply wpList_put_ev); exact rfl; exact rfl; (first | assumption | (refine heap_alloc_lt ?_; assumption) | (refine heap_alloc_lt (heap_alloc_lt ?_); assumption) | exact heap_alloc_at (by simp)); exact ⟨rfl, rfl⟩; (refine evC_one _ ?_ ?_ <;> first | rfl | assumption)))
  intro W2 hb2 hk2
  have hq2 : Keeps [] w1 W2 := HKA.out.trans hk2 (fun q hq => .inr (by simp at hq; omega))
  have HK2 := Lib.hid (HK1.out.trans hq2 (FSub.refl _ _))
  have HX2 := Lib.hid (hq2.heap HX1.out (by simp))
  have HKW := Lib.hid (HK0.out.trans HK2.out (FSub.refl _ _))
  have HT2 := Lib.hid (HT0.out.new HK2.out HM.out)
  have HH2 := Lib.hid (HH0.out.new HK2.out)
  have HM2 := Lib.hid (Nat.le_trans HM.out HK2.out.size)
  have HN2 := Lib.hid (Nat.le_trans HN.out HK2.out.size)
  clear hb2 hk2 hq2 HKA HX1 HK1 x1 x2 HK2 HT0 HH0 HM HN
  generalize w1.heap.size = C at *
  have hX := HX2.out
  have e0 := ev_cell hX 0 (evC_0 x tx rd); have e2 := ev_cell hX 2 (evC_2 x tx rd); have e10 := ev_cell hX 10 (evC_10 x tx rd)
  have e3 := ev_cell hX 3 (evC_3 x tx rd); have e4 := ev_cell hX 4 (evC_4 x tx rd); have e5 := ev_cell hX 5 (evC_5 x tx rd); have e6 := ev_cell hX 6 (evC_6 x tx rd); have e7 := ev_cell hX 7 (evC_7 x tx rd)
  clear hX
  cases hpd : hPend (evsOf T) x.c with
  | some y =>
    obtain rfl : R = 9 := HR.out.symm.trans (by unfold hOpenE; rw [hpd]; rfl)
    clear HR hpd
    go_wp2_with fail
    go_ret
    exact ⟨rfl, HKW.out⟩
  | none =>
    have HR1 := Lib.hid (show (if x.id ≤ hMax (evsOf T).tail then (8 : Int) else if x.k = 2 then opChk g.g.m x.o else if hBehind x.t then 10 else if hTwice (hOld (evsOf T)) x.t then 8 else 0) = R by rw [← HR.out]; unfold hOpenE; rw [hpd]; rfl)
    have hi0 := HXI.out.i0; have hi1 := HXI.out.i1
    have hw : IntKind.i64.wrap x.id = x.id := by simp [IntKind.wrap, IntKind.bits, IntKind.signed]; omega
    have HLAST := Lib.hid (fun k => r7Last_any (W2.drewN k) (HH2.out.new ((Keeps.refl [] W2).drewN k)) hn HIN.out)
    clear HR hpd
    by_cases hid : x.id ≤ hMax (evsOf T).tail
    · obtain rfl : R = 8 := HR1.out.symm.trans (by rw [if_pos hid])
      have HD := Lib.hid (show decide (x.id ≤ hMax (evsOf T).tail) = true by simp [hid])
      generalize hMax (evsOf T).tail = LA at *
      clear HR1 hid
      go_wp2_with fail
      have hd := HD.out
      go_quiet ((go_at_call 32; exact Calls.quiet_of_same (HLAST.out _)))
      clear hd
      go_wp2_with fail
      go_ret
      exact ⟨rfl, HKW.out.drewN _⟩
    · have HR2 := Lib.hid (show (if x.k = 2 then opChk g.g.m x.o else if hBehind x.t then 10 else if hTwice (hOld (evsOf T)) x.t then 8 else 0) = R by rw [← HR1.out, if_neg hid])
      have HD := Lib.hid (show decide (x.id ≤ hMax (evsOf T).tail) = false by simp [hid])
      generalize hMax (evsOf T).tail = LA at *
      clear HR1 hid
      by_cases hk : x.k = 2
      · obtain rfl : R = opChk g.g.m x.o := HR2.out.symm.trans (by rw [if_pos hk])
        rw [hk] at e0
        go_wp2_with fail
        have hd := HD.out
        go_quiet ((go_at_call 32; exact Calls.quiet_of_same (HLAST.out _)))
        clear hd HLAST HD
        go_wp2_with fail
        have hkn : Keeps [] W2 (W2.drewN nq) := (Keeps.refl _ _).drewN nq
        have HKN := Lib.hid hkn
        generalize hW3 : W2.drewN nq = W3 at *
        have HW3 := Lib.hid hW3
        replace e0 := hkn.cell e0 (by simp); replace e2 := hkn.cell e2 (by simp); replace e3 := hkn.cell e3 (by simp); replace e4 := hkn.cell e4 (by simp); replace e5 := hkn.cell e5 (by simp); replace e6 := hkn.cell e6 (by simp); replace e7 := hkn.cell e7 (by simp); replace e10 := hkn.cell e10 (by simp)
        have HH3 := Lib.hid (HH2.out.new hkn); have HT3 := Lib.hid (HT2.out.new hkn HM2.out); have HM3 := Lib.hid (Nat.le_trans HM2.out hkn.size); have HKW3 := Lib.hid (HKW.out.trans hkn (FSub.refl _ _))
        clear hkn hW3 HH2 HT2 HM2 HKW HKN HW3 HX2
        obtain ⟨ta, tc, htx, htc, htm, htrow⟩ := HT3.out.t
        subst htx
        have HTR := Lib.hid htrow
        clear htrow
        have hTne : T ≠ [] := fun e => by have := HG.out; rw [e] at this; cases this
        obtain ⟨hb0, hcap, hge, hg1, hg2, hg3, hg4, hrng⟩ := HH3.out.get hTne
        have hv : W3.cell? ⟨b, 0, none⟩ = some (.slice (some ⟨hb0, 0, none⟩) T.length hcap) := by simp only [World.cell?, HH3.out.cell, hge]; rfl
        have hT0 : 0 < T.length := List.length_pos_iff.2 hTne
        have hx0 : T[0].1 = g := by
          have h1 := HG.out
          rw [List.head?_eq_getElem?] at h1
          simpa [evsOf, List.getElem?_eq_getElem hT0] using h1
        have d12 : W3.cell? ⟨hb0, 12, none⟩ = some (.int .u8 g.g.m) := by
          have := (hrng 0 hT0).1 12 _ rfl
          rw [hx0] at this; simpa using this
        have hgi : g.In := by rw [← hx0]; exact HIN.out _ (List.getElem_mem hT0)
        have g0 := hgi.m0; have g1 := hgi.m1
        have HCK := Lib.hid (r4Check_any W3.drew g.g.m x.o.f x.o.o x.o.k x.o.a x.o.b g0 g1 HXI.out.o)
        have hTl : (0 : Int) < T.length := by omega
        clear HR2 hk hrng hx0 hgi g0 g1 hTne
        go_wp2_with fail
        go_still_tail 10, rfl
        change wpList _ _ _ _ _ W3.drew
        go_wp2_with fail
        refine (HCK.out).mono ?_; rintro e w4 ⟨rfl, hk4⟩
        go_wp2_with fail
        go_ret
        exact ⟨rfl, HKW3.out.drew.trans hk4 (FSub.refl _ _)⟩
      · have hk2 : (x.k == 2) = false := by simpa using hk
        go_wp2_with fail
        have hd := HD.out
        go_quiet ((go_at_call 32; exact Calls.quiet_of_same (HLAST.out _)))
        clear hd HLAST HD
        go_wp2_with fail
        have hkn : Keeps [] W2 (W2.drewN nq) := (Keeps.refl _ _).drewN nq
        have HKN := Lib.hid hkn
        generalize hW3 : W2.drewN nq = W3 at *
        have HW3 := Lib.hid hW3
        replace e0 := hkn.cell e0 (by simp); replace e2 := hkn.cell e2 (by simp); replace e3 := hkn.cell e3 (by simp); replace e4 := hkn.cell e4 (by simp); replace e5 := hkn.cell e5 (by simp); replace e6 := hkn.cell e6 (by simp); replace e7 := hkn.cell e7 (by simp); replace e10 := hkn.cell e10 (by simp)
        have HH3 := Lib.hid (HH2.out.new hkn); have HT3 := Lib.hid (HT2.out.new hkn HM2.out); have HM3 := Lib.hid (Nat.le_trans HM2.out hkn.size); have HKW3 := Lib.hid (HKW.out.trans hkn (FSub.refl _ _))
        clear hkn hW3 HH2 HT2 HM2 HKW HKN HW3 HX2
        obtain ⟨ta, tc, htx, htc, htm, htrow⟩ := HT3.out.t
        subst htx
        have HTR := Lib.hid htrow
        clear htrow
        have hTne : T ≠ [] := fun e => by have := HG.out; rw [e] at this; cases this
        obtain ⟨hb0, hcap, hge, hg1, hg2, hg3, hg4, hrng⟩ := HH3.out.get hTne
        have hv : W3.cell? ⟨b, 0, none⟩ = some (.slice (some ⟨hb0, 0, none⟩) T.length hcap) := by simp only [World.cell?, HH3.out.cell, hge]; rfl
        have hT0 : 0 < T.length := List.length_pos_iff.2 hTne
        have HR3 := Lib.hid (show (if hBehind x.t then (10 : Int) else if hTwice (hOld (evsOf T)) x.t then 8 else 0) = R by rw [← HR2.out, if_neg hk])
        generalize hn3 : x.t.length = n at *
        have HN3 := Lib.hid hn3
        clear hk HR2 hn3
        go_wp2_with fail
        go_loopw [4, 7, 8] (fun q i _ wr => ∃ k nd : Nat, q = .int .i64 0 ∧ i = .int .i64 k ∧ k ≤ n ∧ wr = W3.drewN nd ∧ (∀ i, i < k → ∀ j, j < i → ¬ ((x.t.getD i micNone).rd = true ∧ (x.t.getD j micNone).rd = false ∧ (x.t.getD j micNone).key = (x.t.getD i micNone).key))) (fun _ i _ _ => n - (intOf i).toNat)
        case atStart => exact ⟨0, 0, rfl, rfl, by omega, rfl, fun i hi => by omega⟩
        case round =>
          obtain ⟨k, nd, rfl, rfl, hk, rfl, hno⟩ := hrel
          have HNO := Lib.hid hno
          clear hno
          by_cases hlt : k < n
          · have hkl : k < x.t.length := by have := HN3.out; omega
            obtain ⟨xb, xo, rfl, hxb, hxc⟩ := HTR.out (fun e => by rw [e] at hkl; simp at hkl)
            obtain ⟨m1, m2, m3⟩ := hxc k _ (getD_get micNone hkl)
            have HXC := Lib.hid hxc
            clear hxc
            go_wp2_with fail
            go_loopw [4, 8] (fun q i wr => ∃ j nd : Nat, q = .int .i64 0 ∧ i = .int .i64 j ∧ j ≤ k ∧ wr = W3.drewN nd ∧ (∀ j', j' < j → ¬ ((x.t.getD k micNone).rd = true ∧ (x.t.getD j' micNone).rd = false ∧ (x.t.getD j' micNone).key = (x.t.getD k micNone).key))) (fun _ i _ => k - (intOf i).toNat)
            case atStart => exact ⟨0, nd, rfl, rfl, by omega, rfl, fun i hi => by omega⟩
            case round =>
              obtain ⟨j, nd2, rfl, rfl, hj, rfl, hno⟩ := hrel
              have HNO2 := Lib.hid hno
              clear hno
              by_cases hlt2 : j < k
              · have hjl : j < x.t.length := by omega
                obtain ⟨n1, n2, n3⟩ := HXC.out j _ (getD_get micNone hjl)
                have HNX := Lib.hid (fun (hq : ¬ ((x.t.getD k micNone).rd = true ∧ (x.t.getD j micNone).rd = false ∧ (x.t.getD j micNone).key = (x.t.getD k micNone).key)) => show (∀ j', j' < j + 1 → ¬ ((x.t.getD k micNone).rd = true ∧ (x.t.getD j' micNone).rd = false ∧ (x.t.getD j' micNone).key = (x.t.getD k micNone).key)) from fun j' hj' => (by omega : j' < j ∨ j' = j).elim (HNO2.out j') (fun e => by rw [e]; exact hq))
                have HYES := Lib.hid (fun h1 h2 h3 => hBehind_at (t := x.t) hkl hlt2 h1 h2 h3)
                obtain ⟨NXT, hNXT⟩ : ∃ P : Prop, P = (∀ j', j' < j + 1 → ¬ ((x.t.getD k micNone).rd = true ∧ (x.t.getD j' micNone).rd = false ∧ (x.t.getD j' micNone).key = (x.t.getD k micNone).key)) := ⟨_, rfl⟩
                rw [← hNXT] at HNX
                have HNXT := Lib.hid hNXT
                clear hNXT HNO2
                generalize x.t.getD k micNone = M at *
                generalize x.t.getD j micNone = Y at *
                obtain ⟨M1, M2, M3⟩ := M
                obtain ⟨Y1, Y2, Y3⟩ := Y
                simp only at m1 m2 m3 n1 n2 n3 HNX HYES
                have ways : M1 = false ∨ (M1 = true ∧ Y1 = true) ∨ (M1 = true ∧ Y1 = false ∧ (Y2 == M2) = false) ∨ (M1 = true ∧ Y1 = false ∧ Y2 = M2) := by
                  cases M1 <;> cases Y1 <;> simp
                  by_cases h : Y2 = M2
                  · exact .inr h
                  · exact .inl h
                rcases ways with rfl | ⟨rfl, rfl⟩ | ⟨rfl, rfl, t9⟩ | ⟨rfl, rfl, rfl⟩
                · have HZ := Lib.hid (HNX.out (by simp))
                  clear HNX HYES
                  go_wp2_with fail
                  go_quiet (fail)
                  go_wp2_with fail
                  go_roundw
                  case rel => exact ⟨j + 1, _, rfl, by go_num, by omega, rfl, by rw [← HNXT.out]; exact HZ.out⟩
                  case measure => simp [intOf]; omega
                · have HZ := Lib.hid (HNX.out (by simp))
                  clear HNX HYES
                  go_wp2_with fail
                  go_quiet (fail)
                  go_wp2_with fail
                  go_roundw
                  case rel => exact ⟨j + 1, _, rfl, by go_num, by omega, rfl, by rw [← HNXT.out]; exact HZ.out⟩
                  case measure => simp [intOf]; omega
                · have HZ := Lib.hid (HNX.out (by simp at t9; simp [t9]))
                  clear HNX HYES
                  go_wp2_with fail
                  go_quiet (fail)
                  go_wp2_with fail
                  go_roundw
                  case rel => exact ⟨j + 1, _, rfl, by go_num, by omega, rfl, by rw [← HNXT.out]; exact HZ.out⟩
                  case measure => simp [intOf]; omega
                · obtain rfl : R = 10 := HR3.out.symm.trans (by rw [if_pos (HYES.out rfl rfl rfl)])
                  clear HNX HYES HR3
                  go_wp2_with fail
                  go_quiet (fail)
                  go_wp2_with fail
                  go_ret
                  exact ⟨rfl, (HKW3.out.drewN _).drewN _⟩
              · obtain rfl : j = k := by omega
                have HZ := Lib.hid (show ∀ i, i < j + 1 → ∀ j', j' < i → ¬ ((x.t.getD i micNone).rd = true ∧ (x.t.getD j' micNone).rd = false ∧ (x.t.getD j' micNone).key = (x.t.getD i micNone).key) from fun i hi => (by omega : i < j ∨ i = j).elim (HNO.out i) (fun e => by rw [e]; exact HNO2.out))
                clear HNO HNO2
                go_wp2_with fail
                go_roundw
                case rel => exact ⟨j + 1, nd2, rfl, by go_num, by omega, rfl, HZ.out⟩
                case measure => simp [intOf]; omega
          · obtain rfl : k = n := by omega
            have hbh : hBehind x.t = false := hBehind_none (by rw [HN3.out]; exact HNO.out)
            have HR4 := Lib.hid (show (if hTwice (hOld (evsOf T)) x.t then (8 : Int) else 0) = R by rw [← HR3.out, hbh]; rfl)
            clear hbh HR3 HNO
            have hkn := (Keeps.refl [] W3).drewN nd
            replace e10 := hkn.cell e10 (by simp)
            have HH4 := Lib.hid (HH3.out.new hkn); have HT4 := Lib.hid (HT3.out.new hkn HM3.out); have HM4 := Lib.hid (Nat.le_trans HM3.out hkn.size); have HKW4 := Lib.hid (HKW3.out.trans hkn (FSub.refl _ _))
            clear hkn hv hrng e0 e2 e3 e4 e5 e6 e7 HTR HH3 HT3 HM3 HKW3 hT0 hge hg1 hg2 hg3 hg4
            generalize W3.drewN nd = W4 at *
            go_wp2_with fail
            go_loopw [4, 9, 10, 11] (fun q i _ _ wr => ∃ i' : Nat, q = .int .i64 0 ∧ i = .int .i64 i' ∧ i' ≤ k ∧ Keeps [] W4 wr ∧ (∀ j, j < i' → (x.t.getD j micNone).rd = true ∨ mApp (hOld (evsOf T) ++ x.t.take j) (x.t.getD j micNone) = 0)) (fun _ i _ _ _ => k - (intOf i).toNat)
            case atStart => exact ⟨0, rfl, rfl, by omega, Keeps.refl _ _, fun j hj => by omega⟩
            case round =>
              obtain ⟨i, rfl, rfl, hi, hkp, hno⟩ := hrel
              have HNO := Lib.hid hno
              have HKP := Lib.hid hkp
              have d10 := hkp.cell e10 (by simp)
              have ht5 := HT4.out.new hkp HM4.out
              have HH5 := Lib.hid (HH4.out.new hkp)
              have hM5 := Nat.le_trans HM4.out hkp.size
              have HT5 := Lib.hid ht5; have HM5 := Lib.hid hM5
              clear hno ht5 hkp hM5
              by_cases hlt : i < k
              · have hkl : i < x.t.length := by have := HN3.out; omega
                have hmi := HXI.out.t _ (getD_in micNone hkl)
                obtain ⟨ta', tc', he, _, _, hrow⟩ := HT5.out.t
                obtain ⟨xb, xo, rfl, hxb, hxc⟩ := hrow (fun e => by rw [e] at hkl; simp at hkl)
                simp at he
                obtain ⟨rfl, -, -⟩ := he
                obtain ⟨m1, m2, m3⟩ := hxc i _ (getD_get micNone hkl)
                have HAPP := Lib.hid (fun (W' : World) (hk : Keeps [] wr W') => r7appended_any W' x.t (.slice (some ⟨xb, xo, none⟩) k tc) ((HT5.out.t.same (hk.same HM5.out (by simp)))) (Nat.le_trans HM5.out hk.size) (by rw [HN3.out]; omega) (x.t.getD i micNone) i (by omega))
                have HNX := Lib.hid (fun (hq : (x.t.getD i micNone).rd = true ∨ mApp (hOld (evsOf T) ++ x.t.take i) (x.t.getD i micNone) = 0) => show (∀ j, j < i + 1 → (x.t.getD j micNone).rd = true ∨ mApp (hOld (evsOf T) ++ x.t.take j) (x.t.getD j micNone) = 0) from fun j hj => (by omega : j < i ∨ j = i).elim (HNO.out j) (fun e => by rw [e]; exact hq))
                have HYES := Lib.hid (fun (h1 : (x.t.getD i micNone).rd = false) (h2 : 0 < mApp (hOld (evsOf T) ++ x.t.take i) (x.t.getD i micNone)) => show hTwice (hOld (evsOf T)) x.t = true from (hTwice_iff _ _).2 ⟨i, hkl, by rw [← show x.t.getD i micNone = x.t[i] by simp [List.getD, hkl]]; exact ⟨h1, h2⟩⟩)
                have hm8 : mApp (x.t.take i) (x.t.getD i micNone) ≤ 8 := Nat.le_trans (mApp_le _ _) (by rw [List.length_take]; omega)
                obtain ⟨NXT, hNXT⟩ : ∃ P : Prop, P = (∀ j, j < i + 1 → (x.t.getD j micNone).rd = true ∨ mApp (hOld (evsOf T) ++ x.t.take j) (x.t.getD j micNone) = 0) := ⟨_, rfl⟩
                rw [← hNXT] at HNX
                rw [mApp_app] at HNX HYES
                have HNXT := Lib.hid hNXT
                clear hNXT HNO hxc hrow
                generalize x.t.getD i micNone = m at *
                generalize mApp (x.t.take i) m = A0 at *
                cases hr : m.rd with
                | true =>
                  rw [hr] at m1
                  have HZ := Lib.hid (HNX.out (.inl hr))
                  clear HNX HYES HAPP hr
                  go_wp2_with fail
                  go_roundw
                  case rel => exact ⟨i + 1, rfl, by go_num, by omega, HKP.out, by rw [← HNXT.out]; exact HZ.out⟩
                  case measure => simp [intOf]; omega
                | false =>
                  rw [hr] at m1
                  go_wp2_with fail
                  go_still_tail 8, rfl
                  change wpList _ _ _ _ _ wr.drew
                  go_wp2_with fail
                  have hAP := HAPP.out wr.drew ((Keeps.refl [] wr).drew)
                  rw [hr] at hAP
                  refine hAP.mono ?_; rintro e w5 ⟨rfl, hk5⟩
                  have hk5' : Keeps [] wr w5 := (Keeps.refl [] wr).drew.trans hk5 (FSub.refl _ _)
                  have HK5 := Lib.hid hk5'
                  have HH6 := Lib.hid (HH5.out.new hk5')
                  have q10 := hk5'.cell d10 (by simp)
                  have q1 := hk5'.cell m1 (by simp); have q2 := hk5'.cell m2 (by simp); have q3 := hk5'.cell m3 (by simp)
                  have HT6 := Lib.hid (HT5.out.new hk5' HM5.out)
                  obtain ⟨hb1, hcap1, hge1, hh1, hh2, -, -, -⟩ := HH6.out.get hTne
                  have hv6 : w5.cell? ⟨b, 0, none⟩ = some (.slice (some ⟨hb1, 0, none⟩) T.length hcap1) := by simp only [World.cell?, HH6.out.cell, hge1]; rfl
                  have HV := Lib.hid hge1
                  have hT1 : 1 ≤ T.length := List.length_pos_iff.2 hTne
                  clear hAP hk5 hk5' d10 m1 m2 m3 HH5 HAPP HT5 hge1
                  generalize hTl : T.length = tl at *
                  have HTL := Lib.hid hTl
                  clear hTl
                  go_wp2_with fail
                  go_loopw [10, 11] (fun z c wz => ∃ c' : Nat, c = .int .i64 c' ∧ 1 ≤ c' ∧ c' ≤ tl ∧ z = .int .i64 (A0 + mApp (hOld ((evsOf T).take c')) m : Nat) ∧ Keeps [] w5 wz) (fun _ c _ => tl - (intOf c).toNat)
                  case atStart => exact ⟨1, rfl, by omega, hT1, by rw [hOld_one]; rfl, Keeps.refl _ _⟩
                  case round =>
                    obtain ⟨c, rfl, hc1, hc2, rfl, hkz⟩ := hrel
                    have HKZ := Lib.hid hkz
                    have y10 := hkz.cell q10 (by simp); have y1 := hkz.cell q1 (by simp); have y2 := hkz.cell q2 (by simp); have y3 := hkz.cell q3 (by simp); have yv := hkz.cell hv6 (by simp)
                    have hHz := HH6.out.new hkz
                    clear q10 q1 q2 q3 hv6
                    by_cases hct : c < tl
                    · have hcT : c < T.length := by have := HTL.out; omega
                      have hcL : c < (evsOf T).length := by simpa [evsOf] using hcT
                      have hcg : (evsOf T).getD c evZero = T[c].1 := by simp [evsOf, List.getD, hcT]
                      have hnxt := mApp_old_next hcL hc1 m
                      rw [hcg] at hnxt
                      have hlen : mApp (hOld ((evsOf T).take c)) m ≤ 8000 := by
                        have h1 := mApp_le (hOld ((evsOf T).take c)) m
                        have h2 := hOld_len (L := (evsOf T).take c) (fun y hy => (good_mics (hist_good HL.out.h y (List.mem_of_mem_take hy))).2)
                        have h3 : ((evsOf T).take c).length ≤ c := by rw [List.length_take]; omega
                        omega
                      obtain ⟨hb2, hcap2, hge2, hj1, hj2, -, hj4, hrng⟩ := hHz.get hTne
                      have hgq := HV.out.symm.trans hge2
                      simp at hgq
                      obtain ⟨rfl, -, rfl⟩ := hgq
                      obtain ⟨hr1, hat⟩ := hrng c hcT
                      have z10 : wr.cell? ⟨hb1, c * 19 + 10, none⟩ = some T[c].2.1 := hr1 10 _ rfl
                      have hNz : N ≤ wr.heap.size := Nat.le_trans hHz.nb (Nat.le_of_lt (lt_of_block hHz.cell))
                      have htl8 : T[c].1.t.length ≤ 8 := (good_mics (hist_good HL.out.h _ (by rw [← hcg]; exact getD_in evZero hcL))).2
                      have HAP := Lib.hid (fun (W' : World) (hk : Keeps [] wr W') => r7appended_any W' T[c].1.t T[c].2.1 (hat.t.same (hk.same hNz (by simp))) (Nat.le_trans hNz hk.size) (by omega) m T[c].1.t.length (Nat.le_refl _))
                      obtain ⟨za, zc, hz, hzc, hzm, -⟩ := hat.t
                      have hcT2 : c < tl := hct
                      clear hrng hr1 hat hHz hcg hcL
                      generalize mApp (hOld ((evsOf T).take c)) m = A1 at *
                      rw [hz] at HAP z10
                      rw [List.take_length] at HAP
                      have hA2 : mApp T[c].1.t m ≤ 8 := Nat.le_trans (mApp_le _ _) htl8
                      generalize mApp T[c].1.t m = A2 at *
                      generalize T[c].1.t.length = zl at *
                      clear hz
                      have HNXT2 := Lib.hid hnxt
                      have hwr : IntKind.i64.wrap ((A0 : Int) + (A1 : Int) + (A2 : Int)) = (A0 : Int) + (A1 : Int) + (A2 : Int) := by simp [IntKind.wrap, IntKind.bits, IntKind.signed]; omega
                      clear hnxt
                      go_wp2_with fail
                      obtain ⟨S, hS⟩ : ∃ S : World → Prop, S = fun y => Keeps [] wr y := ⟨_, rfl⟩
                      have HSE := Lib.hid hS
                      have hsb : ∀ w', S w' → w'.cell? ⟨b, 0, none⟩ = some (.slice (some ⟨hb1, 0, none⟩) tl hcap1) := fun w' h => by rw [hS] at h; exact h.cell yv (by simp)
                      have hsz : ∀ w', S w' → w'.cell? ⟨hb1, c * 19 + 10, none⟩ = some (.slice za zl zc) := fun w' h => by rw [hS] at h; exact h.cell z10 (by simp)
                      have hst : ∀ w', S w' → w'.cell? ⟨B, 10, none⟩ = some (.slice (some ⟨xb, xo, none⟩) k tc) := fun w' h => by rw [hS] at h; exact h.cell y10 (by simp)
                      have hs1 : ∀ w', S w' → w'.cell? ⟨xb, xo + i * 3, none⟩ = some (.bool false) := fun w' h => by rw [hS] at h; exact h.cell y1 (by simp)
                      have hs2 : ∀ w', S w' → w'.cell? ⟨xb, xo + i * 3 + 1, none⟩ = some (.int .u8 m.key) := fun w' h => by rw [hS] at h; exact h.cell y2 (by simp)
                      have hs3 : ∀ w', S w' → w'.cell? ⟨xb, xo + i * 3 + 2, none⟩ = some (.int .u16 m.v) := fun w' h => by rw [hS] at h; exact h.cell y3 (by simp)
                      have hSD : S wr.drew := by rw [hS]; exact (Keeps.refl _ _).drew
                      clear hS y10 y1 y2 y3 yv z10
                      refine wp_region_noPanic ?_
                      refine wp_region_held_drew (S := S) (by kernel_rfl) hSD (fun hHeld => ?_)
                      apply wpAnyH_take (i := 0)
                      · simp only [List.getElem?_toArray]; rfl
                      · kernel_rfl
                      · kernel_rfl
                      · kernel_rfl
                      · exact fun _ _ _ h => h
                      · exact Or.inl ⟨by rfl, by intro w hSw; go_simp; try with_reducible rfl⟩
                      · assumption
                      try simp only [Act.put, List.setIfInBounds_toArray, List.set_cons_zero, List.set_cons_succ]
                      apply wpAnyH_take (i := 1)
                      · simp only [List.getElem?_toArray]; rfl
                      · kernel_rfl
                      · kernel_rfl
                      · kernel_rfl
                      · exact fun _ _ _ h => h
                      · exact Or.inl ⟨by rfl, by intro w hSw; go_simp; try with_reducible rfl⟩
                      · assumption
                      try simp only [Act.put, List.setIfInBounds_toArray, List.set_cons_zero, List.set_cons_succ]
                      apply wpAnyH_take (i := 2)
                      · simp only [List.getElem?_toArray]; rfl
                      · kernel_rfl
                      · kernel_rfl
                      · kernel_rfl
                      · exact fun _ _ _ h => h
                      · exact Or.inl ⟨by rfl, by intro w hSw; go_simp; try with_reducible rfl⟩
                      · assumption
                      try simp only [Act.put, List.setIfInBounds_toArray, List.set_cons_zero, List.set_cons_succ]
                      apply wpAnyH_take (i := 3)
                      · simp only [List.getElem?_toArray]; rfl
                      · kernel_rfl
                      · kernel_rfl
                      · kernel_rfl
                      · exact fun _ _ _ h => h
                      · exact Or.inl ⟨by rfl, by intro w hSw; go_simp; try with_reducible rfl⟩
                      · assumption
                      try simp only [Act.put, List.setIfInBounds_toArray, List.set_cons_zero, List.set_cons_succ]
                      apply wpAnyH_take (i := 4)
                      · simp only [List.getElem?_toArray]; rfl
                      · kernel_rfl
                      · kernel_rfl
                      · kernel_rfl
                      · exact fun _ _ _ h => h
                      · exact Or.inl ⟨by rfl, by intro w hSw; have q0 := hsb w hSw; go_simp; try with_reducible rfl⟩
                      · assumption
                      try simp only [Act.put, List.setIfInBounds_toArray, List.set_cons_zero, List.set_cons_succ]
                      apply wpAnyH_take (i := 5)
                      · simp only [List.getElem?_toArray]; rfl
                      · kernel_rfl
                      · kernel_rfl
                      · kernel_rfl
                      · exact fun _ _ _ h => h
                      · exact Or.inl ⟨by rfl, by intro w hSw; go_simp; try with_reducible rfl⟩
                      · assumption
                      try simp only [Act.put, List.setIfInBounds_toArray, List.set_cons_zero, List.set_cons_succ]
                      apply wpAnyH_take (i := 6)
                      · simp only [List.getElem?_toArray]; rfl
                      · kernel_rfl
                      · kernel_rfl
                      · kernel_rfl
                      · exact fun _ _ _ h => h
                      · exact Or.inl ⟨by rfl, by intro w hSw; go_simp; try with_reducible rfl⟩
                      · assumption
                      try simp only [Act.put, List.setIfInBounds_toArray, List.set_cons_zero, List.set_cons_succ]
                      apply wpAnyH_take (i := 7)
                      · simp only [List.getElem?_toArray]; rfl
                      · kernel_rfl
                      · kernel_rfl
                      · kernel_rfl
                      · exact fun _ _ _ h => h
                      · exact Or.inl ⟨by rfl, by intro w hSw; go_simp; try with_reducible rfl⟩
                      · assumption
                      try simp only [Act.put, List.setIfInBounds_toArray, List.set_cons_zero, List.set_cons_succ]
                      apply wpAnyH_take (i := 8)
                      · simp only [List.getElem?_toArray]; rfl
                      · kernel_rfl
                      · kernel_rfl
                      · kernel_rfl
                      · exact fun _ _ _ h => h
                      · exact Or.inl ⟨by rfl, by intro w hSw; have q0 := hsz w hSw; go_simp; try with_reducible rfl⟩
                      · assumption
                      try simp only [Act.put, List.setIfInBounds_toArray, List.set_cons_zero, List.set_cons_succ]
                      apply wpAnyH_take (i := 9)
                      · simp only [List.getElem?_toArray]; rfl
                      · kernel_rfl
                      · kernel_rfl
                      · kernel_rfl
                      · exact fun _ _ _ h => h
                      · exact Or.inl ⟨by rfl, by intro w hSw; go_simp; try with_reducible rfl⟩
                      · assumption
                      try simp only [Act.put, List.setIfInBounds_toArray, List.set_cons_zero, List.set_cons_succ]
                      apply wpAnyH_take (i := 10)
                      · simp only [List.getElem?_toArray]; rfl
                      · kernel_rfl
                      · kernel_rfl
                      · kernel_rfl
                      · exact fun _ _ _ h => h
                      · exact Or.inl ⟨by rfl, by intro w hSw; have q0 := hst w hSw; go_simp; try with_reducible rfl⟩
                      · assumption
                      try simp only [Act.put, List.setIfInBounds_toArray, List.set_cons_zero, List.set_cons_succ]
                      apply wpAnyH_take (i := 11)
                      · simp only [List.getElem?_toArray]; rfl
                      · kernel_rfl
                      · kernel_rfl
                      · kernel_rfl
                      · exact fun _ _ _ h => h
                      · exact Or.inl ⟨by rfl, by intro w hSw; go_simp; try with_reducible rfl⟩
                      · assumption
                      try simp only [Act.put, List.setIfInBounds_toArray, List.set_cons_zero, List.set_cons_succ]
                      apply wpAnyH_take (i := 12)
                      · simp only [List.getElem?_toArray]; rfl
                      · kernel_rfl
                      · kernel_rfl
                      · kernel_rfl
                      · exact fun _ _ _ h => h
                      · exact Or.inl ⟨by rfl, by intro w hSw; go_simp; try with_reducible rfl⟩
                      · assumption
                      try simp only [Act.put, List.setIfInBounds_toArray, List.set_cons_zero, List.set_cons_succ]
                      apply wpAnyH_take (i := 13)
                      · simp only [List.getElem?_toArray]; rfl
                      · kernel_rfl
                      · kernel_rfl
                      · kernel_rfl
                      · exact fun _ _ _ h => h
                      · exact Or.inl ⟨by rfl, by intro w hSw; have q0 := hs1 w hSw; have q1 := hs2 w hSw; have q2 := hs3 w hSw; go_simp; try with_reducible rfl⟩
                      · assumption
                      try simp only [Act.put, List.setIfInBounds_toArray, List.set_cons_zero, List.set_cons_succ]
                      apply wpAnyH_take (i := 14)
                      · simp only [List.getElem?_toArray]; rfl
                      · kernel_rfl
                      · kernel_rfl
                      · kernel_rfl
                      · exact fun _ _ _ h => h
                      · exact Or.inl ⟨by rfl, by intro w hSw; go_simp; try with_reducible rfl⟩
                      · assumption
                      try simp only [Act.put, List.setIfInBounds_toArray, List.set_cons_zero, List.set_cons_succ]
                      apply wpAnyH_take (i := 15)
                      · simp only [List.getElem?_toArray]; rfl
                      · kernel_rfl
                      · kernel_rfl
                      · kernel_rfl
                      · exact fun _ _ _ h => h
                      · exact Or.inl ⟨by rfl, by intro w hSw; go_simp; try with_reducible rfl⟩
                      · assumption
                      try simp only [Act.put, List.setIfInBounds_toArray, List.set_cons_zero, List.set_cons_succ]
                      apply wpAnyH_take (i := 16)
                      · simp only [List.getElem?_toArray]; rfl
                      · kernel_rfl
                      · kernel_rfl
                      · kernel_rfl
                      · exact fun _ _ _ h => h
                      · exact Or.inl ⟨by rfl, by intro w hSw; go_simp; try with_reducible rfl⟩
                      · assumption
                      try simp only [Act.put, List.setIfInBounds_toArray, List.set_cons_zero, List.set_cons_succ]
                      apply wpAnyH_take (i := 17)
                      · simp only [List.getElem?_toArray]; rfl
                      · kernel_rfl
                      · kernel_rfl
                      · kernel_rfl
                      · exact fun _ _ _ h => h
                      · exact Or.inl ⟨by rfl, by intro w hSw; have q0 := hsb w hSw; go_simp; try with_reducible rfl⟩
                      · assumption
                      try simp only [Act.put, List.setIfInBounds_toArray, List.set_cons_zero, List.set_cons_succ]
                      apply wpAnyH_take (i := 18)
                      · simp only [List.getElem?_toArray]; rfl
                      · kernel_rfl
                      · kernel_rfl
                      · kernel_rfl
                      · exact fun _ _ _ h => h
                      · exact Or.inl ⟨by rfl, by intro w hSw; go_simp; try with_reducible rfl⟩
                      · assumption
                      try simp only [Act.put, List.setIfInBounds_toArray, List.set_cons_zero, List.set_cons_succ]
                      apply wpAnyH_take (i := 19)
                      · simp only [List.getElem?_toArray]; rfl
                      · kernel_rfl
                      · kernel_rfl
                      · kernel_rfl
                      · exact fun _ _ _ h => h
                      · exact Or.inl ⟨by rfl, by intro w hSw; go_simp; try with_reducible rfl⟩
                      · assumption
                      try simp only [Act.put, List.setIfInBounds_toArray, List.set_cons_zero, List.set_cons_succ]
                      apply wpAnyH_take (i := 20)
                      · simp only [List.getElem?_toArray]; rfl
                      · kernel_rfl
                      · kernel_rfl
                      · kernel_rfl
                      · exact fun _ _ _ h => h
                      · exact Or.inl ⟨by rfl, by intro w hSw; go_simp; try with_reducible rfl⟩
                      · assumption
                      try simp only [Act.put, List.setIfInBounds_toArray, List.set_cons_zero, List.set_cons_succ]
                      apply wpAnyH_take (i := 21)
                      · simp only [List.getElem?_toArray]; rfl
                      · kernel_rfl
                      · kernel_rfl
                      · kernel_rfl
                      · exact fun _ _ _ h => h
                      · exact Or.inl ⟨by rfl, by intro w hSw; have q0 := hsz w hSw; go_simp; try with_reducible rfl⟩
                      · assumption
                      try simp only [Act.put, List.setIfInBounds_toArray, List.set_cons_zero, List.set_cons_succ]
                      apply wpAnyH_take (i := 22)
                      · simp only [List.getElem?_toArray]; rfl
                      · kernel_rfl
                      · kernel_rfl
                      · kernel_rfl
                      · exact fun _ _ _ h => h
                      · exact Or.inl ⟨by rfl, by intro w hSw; go_simp; try with_reducible rfl⟩
                      · assumption
                      try simp only [Act.put, List.setIfInBounds_toArray, List.set_cons_zero, List.set_cons_succ]
                      apply wpAnyH_ready (rs := [23])
                      · kernel_rfl
                      · simp
                      apply AllReadyH.cons (hs := AllReadyH.nil)
                      · simp only [List.getElem?_toArray]; rfl
                      intro K hK
                      rw [if_pos (by rfl)]
                      go_simp
                      have hAP := HAP.out wr.drew ((Keeps.refl [] wr).drew)
                      rw [hr] at hAP
                      refine hAP.mono ?_; rintro e w7 ⟨rfl, hk7⟩
                      have hk7' : Keeps [] wr w7 := (Keeps.refl [] wr).drew.trans hk7 (FSub.refl _ _)
                      have HK7 := Lib.hid (HKZ.out.trans hk7' (FSub.refl _ _))
                      go_wp2_with fail
                      refine hK.out _ _ ?_ (fun hHeld => ?_)
                      · exact (by rw [HSE.out]; exact hk7')
                      clear hK K
                      try simp only [Act.put, List.setIfInBounds_toArray, List.set_cons_zero, List.set_cons_succ]
                      clear hAP HAP hk7 hk7' hsb hsz hst hs1 hs2 hs3 hSD
                      apply wpAnyH_take (i := 24)
                      · simp only [List.getElem?_toArray]; rfl
                      · kernel_rfl
                      · kernel_rfl
                      · kernel_rfl
                      · exact fun _ _ _ h => h
                      · exact Or.inl ⟨by rfl, by intro w hSw; go_simp; try with_reducible rfl⟩
                      · assumption
                      try simp only [Act.put, List.setIfInBounds_toArray, List.set_cons_zero, List.set_cons_succ]
                      apply wpAnyH_take (i := 25)
                      · simp only [List.getElem?_toArray]; rfl
                      · kernel_rfl
                      · kernel_rfl
                      · kernel_rfl
                      · exact fun _ _ _ h => h
                      · exact Or.inl ⟨by rfl, by intro w hSw; go_simp; try with_reducible rfl⟩
                      · assumption
                      try simp only [Act.put, List.setIfInBounds_toArray, List.set_cons_zero, List.set_cons_succ]
                      refine wpAnyH_done (by kernel_rfl) ?_ _
                      refine NoPanic.normal ?_
                      go_wp2_with fail
                      go_roundw
                      case rel => exact ⟨c + 1, by go_num, by omega, by omega, by rw [HNXT2.out]; go_num, HK7.out⟩
                      case measure => simp [intOf]; omega
                    · obtain rfl : c = tl := by omega
                      have hall : (evsOf T).take c = evsOf T := by rw [List.take_of_length_le]; have := HTL.out; simp [evsOf]; omega
                      rw [hall]
                      generalize mApp (hOld (evsOf T)) m = A1 at *
                      clear hall y10 y1 y2 y3 hHz
                      by_cases hpos : 0 < A1 + A0
                      · obtain rfl : R = 8 := HR4.out.symm.trans (by rw [if_pos (HYES.out hr hpos)])
                        have hp2 : (0 : Int) < ((A0 + A1 : Nat) : Int) := by omega
                        clear HNX HYES hpos
                        generalize ((A0 + A1 : Nat) : Int) = Z at *
                        go_wp2_with fail
                        go_ret
                        exact ⟨rfl, HKW4.out.trans (HKP.out.trans (HK5.out.trans HKZ.out (FSub.refl _ _)) (FSub.refl _ _)) (FSub.refl _ _)⟩
                      · have HZ := Lib.hid (HNX.out (.inr (by omega)))
                        have hp2 : ((A0 + A1 : Nat) : Int) = 0 := by omega
                        clear HNX HYES hpos
                        rw [hp2]
                        clear hp2
                        go_wp2_with fail
                        go_roundw
                        case rel => exact ⟨i + 1, rfl, by go_num, by omega, HKP.out.trans (HK5.out.trans HKZ.out (FSub.refl _ _)) (FSub.refl _ _), by rw [← HNXT.out]; exact HZ.out⟩
                        case measure => simp [intOf]; omega
              · obtain rfl : i = k := by omega
                have ht2 : hTwice (hOld (evsOf T)) x.t = false := hTwice_false (fun j hj => by
                  have := HNO.out j (by have := HN3.out; omega)
                  rwa [show x.t.getD j micNone = x.t[j] by simp [List.getD, hj]] at this)
                obtain rfl : R = 0 := HR4.out.symm.trans (by rw [ht2]; rfl)
                clear ht2 HNO HR4
                go_wp2_with fail
                go_ret
                exact ⟨rfl, HKW4.out.trans HKP.out (FSub.refl _ _)⟩
end Go.Proofs.YtlaccndjlfpjbaaGreatDoor
