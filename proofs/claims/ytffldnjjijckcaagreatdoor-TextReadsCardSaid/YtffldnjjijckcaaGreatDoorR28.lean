/-
  The document's Same of two events that differ in their lists alone.
-/
import Derived.Test.YtffldnjjijckcaaGreatDoorR11
import Derived.Test.YtffldnjjijckcaaGreatDoorR16
set_option linter.unusedSimpArgs false
set_option linter.unusedVariables false
namespace Go.Proofs.YtffldnjjijckcaaGreatDoor
open Go.RowKit
theorem eqB_two {α β : Type} {a b : α} {c d : β} (R : Bool) (h : (eqB a b && eqB c d) = R) : (a ≠ b → R = false) ∧ (c ≠ d → R = false) ∧ (a = b → c = d → R = true) := by
  subst h
  refine ⟨fun h => by rw [eqB_no h]; rfl, fun h => by rw [eqB_no h]; simp, fun h k => by rw [(eqB_iff _ _).2 h, (eqB_iff _ _).2 k]; rfl⟩
set_option maxHeartbeats 8000000 in
set_option maxRecDepth 100000 in
theorem refSame5_lists (w : World) (a : Ev) (t' : List Mic) (r' : List (List Int)) {N N' : Nat} (tx rd tx' rd' : Value) (ha : EvAt N w tx rd a) (hbt : Mics N' w tx' t') (hbr : Lists N' w rd' r') (hN : N ≤ w.heap.size) (hN' : N' ≤ w.heap.size) (ht : a.t.length = t'.length) (hr : a.r.length = r'.length) :
    Calls Tryz.prog 12 #[.agg (evC a tx rd), .agg (evC a tx' rd')] w fun e w' => e = .returned (.bool (eqB a.t t' && eqB a.r r')) ∧ Keeps [] w w' := by
  have hk0 : Keeps [] w ((w.alloc (.cells (evC a tx rd) 32)).alloc (.cells (evC a tx' rd') 32)) := ((Keeps.refl [] w).alloc _).alloc _
  have ha2 := ha.new hk0 hN
  have hb2 := hbt.same (hk0.same hN' (by simp))
  have hb3 := hbr.same (hk0.same hN' (by simp))
  have HK0 := Lib.hid hk0
  generalize hR : (eqB a.t t' && eqB a.r r') = R at *
  obtain ⟨hr1, hr2, hr3⟩ := eqB_two R hR
  have HR1 := Lib.hid hr1; have HR2 := Lib.hid hr2; have HR3 := Lib.hid hr3
  clear ha hbt hbr hk0 hR hr1 hr2 hr3
  have E0 := evC_0 a tx rd; have F0 := evC_0 a tx' rd'
  have E1 := evC_1 a tx rd; have F1 := evC_1 a tx' rd'
  have E2 := evC_2 a tx rd; have F2 := evC_2 a tx' rd'
  have E3 := evC_3 a tx rd; have F3 := evC_3 a tx' rd'
  have E4 := evC_4 a tx rd; have F4 := evC_4 a tx' rd'
  have E5 := evC_5 a tx rd; have F5 := evC_5 a tx' rd'
  have E6 := evC_6 a tx rd; have F6 := evC_6 a tx' rd'
  have E7 := evC_7 a tx rd; have F7 := evC_7 a tx' rd'
  have E8 := evC_8 a tx rd; have F8 := evC_8 a tx' rd'
  have E9 := evC_9 a tx rd; have F9 := evC_9 a tx' rd'
  have E10 := evC_10 a tx rd; have F10 := evC_10 a tx' rd'
  have E11 := evC_11 a tx rd; have F11 := evC_11 a tx' rd'
  have E12 := evC_12 a tx rd; have F12 := evC_12 a tx' rd'
  have E13 := evC_13 a tx rd; have F13 := evC_13 a tx' rd'
  have E14 := evC_14 a tx rd; have F14 := evC_14 a tx' rd'
  have E15 := evC_15 a tx rd; have F15 := evC_15 a tx' rd'
  have E16 := evC_16 a tx rd; have F16 := evC_16 a tx' rd'
  have E17 := evC_17 a tx rd; have F17 := evC_17 a tx' rd'
  have E18 := evC_18 a tx rd; have F18 := evC_18 a tx' rd'
  obtain ⟨a1, c1, e1, hc1, hm1, hma⟩ := ha2.t
  obtain ⟨a2, c2, e2, hc2, hm2, hla⟩ := ha2.r
  obtain ⟨a3, c3, e3, hc3, hm3, hmb⟩ := hb2
  obtain ⟨a4, c4, e4, hc4, hm4, hlb⟩ := hb3
  replace E10 := E10.trans (congrArg some e1); replace E11 := E11.trans (congrArg some e2); replace F10 := F10.trans (congrArg some e3); replace F11 := F11.trans (congrArg some e4)
  clear e1 e2 e3 e4
  have HM := Lib.hid hma; have HL := Lib.hid hla; have HMB := Lib.hid hmb; have HLB := Lib.hid hlb
  clear ha2 hma hla hmb hlb
  have HTL := Lib.hid ht; have HRL := Lib.hid hr
  rw [← ht] at F10 hc3
  rw [← hr] at F11 hc4
  clear ht hr
  have hl1 : (a.t.length : Int) ≤ 9223372036854775807 := by omega
  have hl2 : (a.r.length : Int) ≤ 9223372036854775807 := by omega
  have t1 : ((a.t.length : Int) != (a.t.length : Int)) = false := by simp
  have t2 : ((a.r.length : Int) != (a.r.length : Int)) = false := by simp
  go_enter Tryz.func12, Tryz.ntmps12
  have hX : ((w.alloc (.cells (evC a tx rd) 32)).alloc (.cells (evC a tx' rd') 32)).heap[w.heap.size]? = some (.cells (evC a tx rd) 32) := heap_alloc_lt (heap_alloc_new w _)
  have hY : ((w.alloc (.cells (evC a tx rd) 32)).alloc (.cells (evC a tx' rd') 32)).heap[w.heap.size + 1]? = some (.cells (evC a tx' rd') 32) := heap_alloc_at (by simp)
  go_wp2_with fail
  have c10 := ev_cell hX 10 E10; have d10 := ev_cell hY 10 F10; have c11 := ev_cell hX 11 E11; have d11 := ev_cell hY 11 F11
  clear hX hY E0 E1 E2 E3 E4 E5 E6 E7 E8 E9 E10 E11 E12 E13 E14 E15 E16 E17 E18 F0 F1 F2 F3 F4 F5 F6 F7 F8 F9 F10 F11 F12 F13 F14 F15 F16 F17 F18
  have hw0 := HK0.out.size
  replace hN := Nat.le_trans hN hw0
  replace hN' := Nat.le_trans hN' hw0
  clear hw0
  generalize (w.alloc (.cells (evC a tx rd) 32)).alloc (.cells (evC a tx' rd') 32) = W0 at *
  generalize evC a tx rd = CA at *
  generalize evC a tx' rd' = CB at *
  generalize w.heap.size = B at *
  go_loopw [4, 5] (fun _ i wr => ∃ k q : Nat, k ≤ a.t.length ∧ i = .int .i64 k ∧ (∀ j, j < k → a.t.getD j micZero = t'.getD j micZero) ∧ wr = W0.drewN q) (fun _ i _ => a.t.length - (intOf i).toNat)
  case atStart => exact ⟨0, 0, by omega, rfl, fun j hj => by omega, rfl⟩
  case round =>
    obtain ⟨k, q, hk, rfl, hp, rfl⟩ := hrel
    have HP := Lib.hid hp; clear hp
    by_cases hlt : k < a.t.length
    · obtain ⟨b1, o1, rfl, _, g1⟩ := HM.out (fun e => by rw [e] at hlt; simp at hlt)
      obtain ⟨b2, o2, rfl, _, g2⟩ := HMB.out (fun e => by have := HTL.out; rw [e] at this; simp at this; rw [this] at hlt; simp at hlt)
      obtain ⟨d1, d2, d3⟩ := g1 k _ (getD_some micZero hlt)
      obtain ⟨d4, d5, d6⟩ := g2 k _ (getD_some micZero (by have := HTL.out; omega))
      have y1 : (k : Int) < (a.t.length : Int) := by omega
      clear g1 g2
      by_cases he : a.t.getD k micZero = t'.getD k micZero
      · rw [← he] at d4 d5 d6
        have HN := Lib.hid (prefix_next HP.out he); clear he HR1 HR2 HR3 HM HMB HL HLB HTL HRL HP
        obtain ⟨X, hX⟩ : ∃ X, X = a.t.getD k micZero := ⟨_, rfl⟩
        rw [← hX] at d1 d2 d3 d4 d5 d6
        clear hX
        obtain ⟨x1, x2, x3⟩ := X
        simp only at d1 d2 d3 d4 d5 d6
        generalize a.t.length = L at *
        go_wp2_with fail
        go_region
        go_wp2_with fail
        go_roundw
        case rel => exact ⟨k + 1, q + 1, by omega, by go_num, HN.out, rfl⟩
        case measure => simp [intOf]; omega
      · obtain rfl := HR1.out (fun e => he (by rw [e]))
        clear HR1 HR2 HR3 HM HMB HL HLB HTL HRL HP
        generalize a.t.getD k micZero = X at *
        generalize t'.getD k micZero = Y at *
        obtain ⟨x1, x2, x3⟩ := X
        obtain ⟨y1, y2, y3⟩ := Y
        simp only at d1 d2 d3 d4 d5 d6
        have ways : (x1 = true ∧ y1 = false) ∨ (x1 = false ∧ y1 = true) ∨ (x1 = y1 ∧ (x2 == y2) = false) ∨ (x1 = y1 ∧ x2 = y2 ∧ (x3 == y3) = false) := by
          cases x1 <;> cases y1 <;> simp at he ⊢ <;> omega
        clear he
        generalize a.t.length = L at *
        rcases ways with ⟨rfl, rfl⟩ | ⟨rfl, rfl⟩ | ⟨rfl, t1⟩ | ⟨rfl, rfl, t1⟩
        all_goals
          go_wp2_with fail
          go_region
          go_wp2_with fail
          go_ret
          exact ⟨rfl, HK0.out.drewN _⟩
    · obtain rfl : k = a.t.length := by omega
      have hte := ext_mics HTL.out HP.out
      replace HR3 := Lib.hid (HR3.out hte)
      clear hte HR1 HP HTL HM HMB
      go_wp2_with fail
      have HKQ := Lib.hid ((Keeps.refl [] W0).drewN q)
      generalize W0.drewN q = W1 at *
      go_loopw [4, 6] (fun _ i wr => ∃ k : Nat, k ≤ a.r.length ∧ i = .int .i64 k ∧ (∀ j, j < k → a.r.getD j [] = r'.getD j []) ∧ Keeps [] W0 wr) (fun _ i _ => a.r.length - (intOf i).toNat)
      case atStart => exact ⟨0, by omega, rfl, fun j hj => by omega, HKQ.out⟩
      case round =>
        obtain ⟨k, hk, rfl, hp, hkw⟩ := hrel
        have HP := Lib.hid hp; clear hp
        replace c11 := hkw.cell c11 (by simp)
        replace d11 := hkw.cell d11 (by simp)
        by_cases hlt : k < a.r.length
        · obtain ⟨b1, o1, rfl, _, g1⟩ := HL.out (fun e => by rw [e] at hlt; simp at hlt)
          obtain ⟨b2, o2, rfl, _, g2⟩ := HLB.out (fun e => by have := HRL.out; rw [e] at this; simp at this; rw [this] at hlt; simp at hlt)
          obtain ⟨u1, d1, n1⟩ := g1 k hlt
          obtain ⟨u2, d2, n2⟩ := g2 k (by have := HRL.out; omega)
          have HKN : ∀ n, Keeps [] W0 (wr.drewN n) := fun n => hkw.drewN n
          replace d1 := hkw.cell d1 (by simp)
          replace d2 := hkw.cell d2 (by simp)
          have hc := fun n => refSame_nums (wr.drewN n) u1 u2 _ _ (n1.same ((HKN n).same hN (by simp))) (n2.same ((HKN n).same hN' (by simp)))
          have y1 : (k : Int) < (a.r.length : Int) := by omega
          clear g1 g2 n1 n2 c10 d10
          by_cases he : a.r.getD k [] = r'.getD k []
          · have HN := Lib.hid (prefix_next HP.out he)
            rw [(eqB_iff _ _).2 he] at hc
            have HC := Lib.hid hc
            clear he HR2 HR3 HL HLB HRL HP hc HKN
            generalize a.r.length = L at *
            go_wp2_with fail
            go_quiet ((go_at_call 41; exact Calls.quiet_of (HC.out _)))
            go_wp2_with fail
            go_roundw
            case rel => exact ⟨k + 1, by omega, by go_num, HN.out, hkw.drewN _⟩
            case measure => simp [intOf]; omega
          · obtain rfl := HR2.out (fun e => he (by rw [e]))
            rw [eqB_no he] at hc
            have HC := Lib.hid hc
            clear he HR2 HR3 HL HLB HRL HP hc HKN
            generalize a.r.length = L at *
            go_wp2_with fail
            go_quiet ((go_at_call 41; exact Calls.quiet_of (HC.out _)))
            go_wp2_with fail
            go_ret
            exact ⟨rfl, (HK0.out.trans hkw (FSub.refl _ _)).drewN _⟩
        · obtain rfl : k = a.r.length := by omega
          obtain rfl := HR3.out (ext_lists HRL.out HP.out)
          clear HR2 HR3 HRL HP HL HLB
          go_wp2_with fail
          go_ret
          exact ⟨rfl, HK0.out.trans hkw (FSub.refl _ _)⟩
end Go.Proofs.YtffldnjjijckcaaGreatDoor
/-
  The document's Same of two events. (Printed by draft/gensame5.py.)
-/
namespace Go.Proofs.YtffldnjjijckcaaGreatDoor
open Go.RowKit
set_option maxHeartbeats 8000000 in
set_option maxRecDepth 100000 in
theorem refSame5_any (w : World) (a b : Ev) {N N' : Nat} (tx rd tx' rd' : Value) (ha : EvAt N w tx rd a) (hb : EvAt N' w tx' rd' b) (hN : N ≤ w.heap.size) (hN' : N' ≤ w.heap.size) :
    Calls Tryz.prog 12 #[.agg (evC a tx rd), .agg (evC b tx' rd')] w fun e w' => e = .returned (.bool (evSame a b)) ∧ Keeps [] w w' := by
  have hk0 : Keeps [] w ((w.alloc (.cells (evC a tx rd) 32)).alloc (.cells (evC b tx' rd') 32)) := ((Keeps.refl [] w).alloc _).alloc _
  have ha2 := ha.new hk0 hN
  have hb2 := hb.new hk0 hN'
  have HK0 := Lib.hid hk0; have HA := Lib.hid ha; have HB := Lib.hid hb
  generalize hR : evSame a b = R at *
  have HR := Lib.hid hR
  clear ha hb hk0 hR
  have hx10 := heap_alloc_lt (o := .cells (evC b tx' rd') 32) (heap_alloc_new w (.cells (evC a tx rd) 32))
  have hy10 := heap_alloc2_new w (.cells (evC a tx rd) 32) (.cells (evC b tx' rd') 32)
  clear hx10 hy10
  have E0 := evC_0 a tx rd; have F0 := evC_0 b tx' rd'
  have E1 := evC_1 a tx rd; have F1 := evC_1 b tx' rd'
  have E2 := evC_2 a tx rd; have F2 := evC_2 b tx' rd'
  have E3 := evC_3 a tx rd; have F3 := evC_3 b tx' rd'
  have E4 := evC_4 a tx rd; have F4 := evC_4 b tx' rd'
  have E5 := evC_5 a tx rd; have F5 := evC_5 b tx' rd'
  have E6 := evC_6 a tx rd; have F6 := evC_6 b tx' rd'
  have E7 := evC_7 a tx rd; have F7 := evC_7 b tx' rd'
  have E8 := evC_8 a tx rd; have F8 := evC_8 b tx' rd'
  have E9 := evC_9 a tx rd; have F9 := evC_9 b tx' rd'
  have E10 := evC_10 a tx rd; have F10 := evC_10 b tx' rd'
  have E11 := evC_11 a tx rd; have F11 := evC_11 b tx' rd'
  have E12 := evC_12 a tx rd; have F12 := evC_12 b tx' rd'
  have E13 := evC_13 a tx rd; have F13 := evC_13 b tx' rd'
  have E14 := evC_14 a tx rd; have F14 := evC_14 b tx' rd'
  have E15 := evC_15 a tx rd; have F15 := evC_15 b tx' rd'
  have E16 := evC_16 a tx rd; have F16 := evC_16 b tx' rd'
  have E17 := evC_17 a tx rd; have F17 := evC_17 b tx' rd'
  have E18 := evC_18 a tx rd; have F18 := evC_18 b tx' rd'
  obtain ⟨a1, c1, e1, hc1, hm1, hma⟩ := ha2.t
  obtain ⟨a2, c2, e2, hc2, hm2, hla⟩ := ha2.r
  obtain ⟨a3, c3, e3, hc3, hm3, hmb⟩ := hb2.t
  obtain ⟨a4, c4, e4, hc4, hm4, hlb⟩ := hb2.r
  replace E10 := E10.trans (congrArg some e1); replace E11 := E11.trans (congrArg some e2); replace F10 := F10.trans (congrArg some e3); replace F11 := F11.trans (congrArg some e4)
  clear e1 e2 e3 e4
  clear ha2 hb2 hma hla hmb hlb
  by_cases h0 : a.k = b.k
  · rw [← h0] at F0
    have H0 := Lib.hid h0; clear h0
    by_cases h1 : a.c = b.c
    · rw [← h1] at F1
      have H1 := Lib.hid h1; clear h1
      by_cases h2 : a.id = b.id
      · rw [← h2] at F2
        have H2 := Lib.hid h2; clear h2
        by_cases h3 : a.o.f = b.o.f
        · rw [← h3] at F3
          have H3 := Lib.hid h3; clear h3
          by_cases h4 : a.o.o = b.o.o
          · rw [← h4] at F4
            have H4 := Lib.hid h4; clear h4
            by_cases h5 : a.o.k = b.o.k
            · rw [← h5] at F5
              have H5 := Lib.hid h5; clear h5
              by_cases h6 : a.o.a = b.o.a
              · rw [← h6] at F6
                have H6 := Lib.hid h6; clear h6
                by_cases h7 : a.o.b = b.o.b
                · rw [← h7] at F7
                  have H7 := Lib.hid h7; clear h7
                  by_cases h8 : a.rk = b.rk
                  · rw [← h8] at F8
                    have H8 := Lib.hid h8; clear h8
                    by_cases h9 : a.rv = b.rv
                    · rw [← h9] at F9
                      have H9 := Lib.hid h9; clear h9
                      by_cases h12 : a.g.m = b.g.m
                      · rw [← h12] at F12
                        have H12 := Lib.hid h12; clear h12
                        by_cases h13 : a.g.mo = b.g.mo
                        · rw [← h13] at F13
                          have H13 := Lib.hid h13; clear h13
                          by_cases h14 : a.g.ms = b.g.ms
                          · rw [← h14] at F14
                            have H14 := Lib.hid h14; clear h14
                            by_cases h15 : a.g.mt = b.g.mt
                            · rw [← h15] at F15
                              have H15 := Lib.hid h15; clear h15
                              by_cases h16 : a.g.p = b.g.p
                              · rw [← h16] at F16
                                have H16 := Lib.hid h16; clear h16
                                by_cases h17 : a.g.cu = b.g.cu
                                · rw [← h17] at F17
                                  have H17 := Lib.hid h17; clear h17
                                  by_cases h18 : a.g.me = b.g.me
                                  · rw [← h18] at F18
                                    have H18 := Lib.hid h18; clear h18
                                    by_cases ht : a.t.length = b.t.length
                                    · by_cases hr : a.r.length = b.r.length
                                      · have hbe : evC b tx' rd' = evC a tx' rd' := by
                                          unfold evC
                                          rw [H0.out, H1.out, H2.out, H3.out, H4.out, H5.out, H6.out, H7.out, H8.out, H9.out, H12.out, H13.out, H14.out, H15.out, H16.out, H17.out, H18.out]
                                        have h := refSame5_lists w a b.t b.r tx rd tx' rd' HA.out HB.out.t HB.out.r hN hN' ht hr
                                        have hR2 : (eqB a.t b.t && eqB a.r b.r) = R := by
                                          rw [← HR.out]
                                          by_cases h1 : a.t = b.t
                                          · by_cases h2 : a.r = b.r
                                            · rw [(eqB_iff _ _).2 h1, (eqB_iff _ _).2 h2, (evSame_iff a b).2 (ev_ext H0.out H1.out H2.out H3.out H4.out H5.out H6.out H7.out H8.out H9.out H12.out H13.out H14.out H15.out H16.out H17.out H18.out h1 h2)]
                                              rfl
                                            · rw [eqB_no h2, show evSame a b = false from eqB_no (fun e => h2 (by rw [e]))]
                                              simp
                                          · rw [eqB_no h1, show evSame a b = false from eqB_no (fun e => h1 (by rw [e]))]
                                            rfl
                                        rw [hR2] at h
                                        rw [hbe]
                                        exact h
                                      · obtain rfl := HR.out.symm.trans (eqB_no (fun e => hr (by rw [e])))
                                        have z : ¬ (a.r.length : Int) = (b.r.length : Int) := by omega
                                        have t1 : ((a.r.length : Int) != (b.r.length : Int)) = true := bne_iff_ne.2 z
                                        clear HR HA HB hr
                                        generalize a.r.length = L1 at *
                                        generalize b.r.length = L2 at *
                                        go_enter Tryz.func12, Tryz.ntmps12
                                        go_wp2_with fail
                                        go_ret
                                        exact ⟨rfl, HK0.out⟩
                                    · obtain rfl := HR.out.symm.trans (eqB_no (fun e => ht (by rw [e])))
                                      have z : ¬ (a.t.length : Int) = (b.t.length : Int) := by omega
                                      have t1 : ((a.t.length : Int) != (b.t.length : Int)) = true := bne_iff_ne.2 z
                                      clear HR HA HB ht
                                      generalize a.t.length = L1 at *
                                      generalize b.t.length = L2 at *
                                      go_enter Tryz.func12, Tryz.ntmps12
                                      go_wp2_with fail
                                      go_ret
                                      exact ⟨rfl, HK0.out⟩
                                  · obtain rfl := HR.out.symm.trans (eqB_no (fun e => h18 (by rw [e])))
                                    have t1 : (a.g.me == b.g.me) = false := by simpa using h18
                                    have t2 : (a.g.me != b.g.me) = true := by simpa using h18
                                    clear HR HA HB h18
                                    go_enter Tryz.func12, Tryz.ntmps12
                                    go_wp2_with fail
                                    go_ret
                                    exact ⟨rfl, HK0.out⟩
                                · obtain rfl := HR.out.symm.trans (eqB_no (fun e => h17 (by rw [e])))
                                  have t1 : (a.g.cu == b.g.cu) = false := by simpa using h17
                                  have t2 : (a.g.cu != b.g.cu) = true := by simpa using h17
                                  clear HR HA HB h17
                                  go_enter Tryz.func12, Tryz.ntmps12
                                  go_wp2_with fail
                                  go_ret
                                  exact ⟨rfl, HK0.out⟩
                              · obtain rfl := HR.out.symm.trans (eqB_no (fun e => h16 (by rw [e])))
                                have t1 : (a.g.p == b.g.p) = false := by simpa using h16
                                have t2 : (a.g.p != b.g.p) = true := by simpa using h16
                                clear HR HA HB h16
                                go_enter Tryz.func12, Tryz.ntmps12
                                go_wp2_with fail
                                go_ret
                                exact ⟨rfl, HK0.out⟩
                            · obtain rfl := HR.out.symm.trans (eqB_no (fun e => h15 (by rw [e])))
                              have t1 : (a.g.mt == b.g.mt) = false := by simpa using h15
                              have t2 : (a.g.mt != b.g.mt) = true := by simpa using h15
                              clear HR HA HB h15
                              go_enter Tryz.func12, Tryz.ntmps12
                              go_wp2_with fail
                              go_ret
                              exact ⟨rfl, HK0.out⟩
                          · obtain rfl := HR.out.symm.trans (eqB_no (fun e => h14 (by rw [e])))
                            have t1 : (a.g.ms == b.g.ms) = false := by simpa using h14
                            have t2 : (a.g.ms != b.g.ms) = true := by simpa using h14
                            clear HR HA HB h14
                            go_enter Tryz.func12, Tryz.ntmps12
                            go_wp2_with fail
                            go_ret
                            exact ⟨rfl, HK0.out⟩
                        · obtain rfl := HR.out.symm.trans (eqB_no (fun e => h13 (by rw [e])))
                          have t1 : (a.g.mo == b.g.mo) = false := by simpa using h13
                          have t2 : (a.g.mo != b.g.mo) = true := by simpa using h13
                          clear HR HA HB h13
                          go_enter Tryz.func12, Tryz.ntmps12
                          go_wp2_with fail
                          go_ret
                          exact ⟨rfl, HK0.out⟩
                      · obtain rfl := HR.out.symm.trans (eqB_no (fun e => h12 (by rw [e])))
                        have t1 : (a.g.m == b.g.m) = false := by simpa using h12
                        have t2 : (a.g.m != b.g.m) = true := by simpa using h12
                        clear HR HA HB h12
                        go_enter Tryz.func12, Tryz.ntmps12
                        go_wp2_with fail
                        go_ret
                        exact ⟨rfl, HK0.out⟩
                    · obtain rfl := HR.out.symm.trans (eqB_no (fun e => h9 (by rw [e])))
                      have t1 : (a.rv == b.rv) = false := by simpa using h9
                      have t2 : (a.rv != b.rv) = true := by simpa using h9
                      clear HR HA HB h9
                      go_enter Tryz.func12, Tryz.ntmps12
                      go_wp2_with fail
                      go_ret
                      exact ⟨rfl, HK0.out⟩
                  · obtain rfl := HR.out.symm.trans (eqB_no (fun e => h8 (by rw [e])))
                    have t1 : (a.rk == b.rk) = false := by simpa using h8
                    have t2 : (a.rk != b.rk) = true := by simpa using h8
                    clear HR HA HB h8
                    go_enter Tryz.func12, Tryz.ntmps12
                    go_wp2_with fail
                    go_ret
                    exact ⟨rfl, HK0.out⟩
                · obtain rfl := HR.out.symm.trans (eqB_no (fun e => h7 (by rw [e])))
                  have t1 : (a.o.b == b.o.b) = false := by simpa using h7
                  have t2 : (a.o.b != b.o.b) = true := by simpa using h7
                  clear HR HA HB h7
                  go_enter Tryz.func12, Tryz.ntmps12
                  go_wp2_with fail
                  go_ret
                  exact ⟨rfl, HK0.out⟩
              · obtain rfl := HR.out.symm.trans (eqB_no (fun e => h6 (by rw [e])))
                have t1 : (a.o.a == b.o.a) = false := by simpa using h6
                have t2 : (a.o.a != b.o.a) = true := by simpa using h6
                clear HR HA HB h6
                go_enter Tryz.func12, Tryz.ntmps12
                go_wp2_with fail
                go_ret
                exact ⟨rfl, HK0.out⟩
            · obtain rfl := HR.out.symm.trans (eqB_no (fun e => h5 (by rw [e])))
              have t1 : (a.o.k == b.o.k) = false := by simpa using h5
              have t2 : (a.o.k != b.o.k) = true := by simpa using h5
              clear HR HA HB h5
              go_enter Tryz.func12, Tryz.ntmps12
              go_wp2_with fail
              go_ret
              exact ⟨rfl, HK0.out⟩
          · obtain rfl := HR.out.symm.trans (eqB_no (fun e => h4 (by rw [e])))
            have t1 : (a.o.o == b.o.o) = false := by simpa using h4
            have t2 : (a.o.o != b.o.o) = true := by simpa using h4
            clear HR HA HB h4
            go_enter Tryz.func12, Tryz.ntmps12
            go_wp2_with fail
            go_ret
            exact ⟨rfl, HK0.out⟩
        · obtain rfl := HR.out.symm.trans (eqB_no (fun e => h3 (by rw [e])))
          have t1 : (a.o.f == b.o.f) = false := by simpa using h3
          have t2 : (a.o.f != b.o.f) = true := by simpa using h3
          clear HR HA HB h3
          go_enter Tryz.func12, Tryz.ntmps12
          go_wp2_with fail
          go_ret
          exact ⟨rfl, HK0.out⟩
      · obtain rfl := HR.out.symm.trans (eqB_no (fun e => h2 (by rw [e])))
        have t1 : (a.id == b.id) = false := by simpa using h2
        have t2 : (a.id != b.id) = true := by simpa using h2
        clear HR HA HB h2
        go_enter Tryz.func12, Tryz.ntmps12
        go_wp2_with fail
        go_ret
        exact ⟨rfl, HK0.out⟩
    · obtain rfl := HR.out.symm.trans (eqB_no (fun e => h1 (by rw [e])))
      have t1 : (a.c == b.c) = false := by simpa using h1
      have t2 : (a.c != b.c) = true := by simpa using h1
      clear HR HA HB h1
      go_enter Tryz.func12, Tryz.ntmps12
      go_wp2_with fail
      go_ret
      exact ⟨rfl, HK0.out⟩
  · obtain rfl := HR.out.symm.trans (eqB_no (fun e => h0 (by rw [e])))
    have t1 : (a.k == b.k) = false := by simpa using h0
    have t2 : (a.k != b.k) = true := by simpa using h0
    clear HR HA HB h0
    go_enter Tryz.func12, Tryz.ntmps12
    go_wp2_with fail
    go_ret
    exact ⟨rfl, HK0.out⟩
end Go.Proofs.YtffldnjjijckcaaGreatDoor
/-
  The document's May: an info, an abort, no kind. (Printed by draft/genmay5.py.)
-/
namespace Go.Proofs.YtffldnjjijckcaaGreatDoor
open Go.RowKit
theorem wanted_dec {o : Oper} {y : Nat → Option Bool} {p : Prop} [Decidable p] (h : p) (e : Region.wanted o y = (some (decide p) == some true)) : Region.wanted o y = true := by rw [e, decide_eq_true h]; rfl
theorem good_is {x : Ev} {R F : Bool} (hR : evGood x = R) (hk : evKind x.k = true) (hF : evFits x = F) : (¬ x.c < 16 → R = false) ∧ (F = false → R = false) ∧ (x.c < 16 → F = true → R = evSame x (evNeed x)) := by
  subst hR hF
  unfold evGood
  refine ⟨fun h => ?_, fun h => ?_, fun h k => ?_⟩
  · rw [decide_eq_false h]; simp
  · rw [h]; simp
  · rw [hk, decide_eq_true h, k]; rfl
set_option maxHeartbeats 400000 in
theorem row_ev0 (k c i : Int) : (#[.int .u8 k, .int .u8 c, .int .u16 i, .int .u8 0, .int .u8 0, .int .u8 0, .int .u16 0, .int .u16 0, .int .u8 0, .int .u16 0, .slice none 0 0, .slice none 0 0, .int .u8 0, .int .i64 0, .int .i64 0, .int .i64 0, .bool false, .bool false, .bool false] : Array Value) = evC { evZero with k := k, c := c, id := i } (.slice none 0 0) (.slice none 0 0) := rfl
theorem row_ev1 (k : Int) (g : Cfg) : (#[.int .u8 k, .int .u8 0, .int .u16 0, .int .u8 0, .int .u8 0, .int .u8 0, .int .u16 0, .int .u16 0, .int .u8 0, .int .u16 0, .slice none 0 0, .slice none 0 0, .int .u8 g.m, .int .i64 g.mo, .int .i64 g.ms, .int .i64 g.mt, .bool g.p, .bool g.cu, .bool g.me] : Array Value) = evC { evZero with k := k, g := g } (.slice none 0 0) (.slice none 0 0) := rfl
set_option maxHeartbeats 8000000 in
set_option maxRecDepth 100000 in
theorem May5_4 (w : World) (x : Ev) (hx : x.In) {N : Nat} (tx rd : Value) (ht : EvAt N w tx rd x) (hN : N ≤ w.heap.size) (hk : x.k = 4) :
    Calls Tryz.prog 22 #[.agg (evC x tx rd)] w fun e w' => e = .returned (.bool (evGood x)) ∧ Keeps [] w w' := by
  have hk0 := (Keeps.refl [] w).alloc (.cells (evC x tx rd) 32)
  have hX := heap_alloc_new w (.cells (evC x tx rd) 32)
  have HT := Lib.hid ht
  have hx1 := ht.t.one
  have hx2 := ht.r.one
  have E0 := evC_0 x tx rd; have E1 := evC_1 x tx rd; have E2 := evC_2 x tx rd
  rw [hk] at E0
  generalize hR : evGood x = R at *
  obtain ⟨r1, r2, r3⟩ := good_is hR (by rw [hk]; rfl) (show evFits x = true by unfold evFits; rw [if_neg (by omega), if_neg (by omega), if_neg (by omega), if_neg (by omega), if_neg (by omega)])
  have R1 := Lib.hid r1; have R2 := Lib.hid r2; have R3 := Lib.hid r3
  clear hR r1 r2 r3 ht
  go_enter Tryz.func22, Tryz.ntmps22
  go_wp2_with ((with_reducible apply wpList_put_ev); exact rfl; exact rfl; (first | assumption | (refine heap_alloc_lt ?_; assumption) | (refine heap_alloc_lt (heap_alloc_lt ?_); assumption) | exact heap_alloc_at (by simp)); exact ⟨rfl, rfl⟩; exact rfl)
  intro W1 hb1 hk1
  rw [row_ev0] at hb1
  have hX1 := hk1.heap (heap_alloc_lt hX) (by simp)
  have hK1 : Keeps [] w W1 := (hk0.alloc _).trans hk1 (fun g hg => .inr (by simp at hg; omega))
  have c0 := ev_cell hX1 0 E0; have c1 := ev_cell hX1 1 E1
  clear E0 E1 E2 hX hk0 hk1
  have HK1 := Lib.hid hK1
  have hsz1 := hK1.size
  clear hK1
  by_cases h16 : x.c < 16
  · have r : R = evSame x { evZero with k := 4, c := x.c, id := x.id } := by
      have hn : evNeed x = { evZero with k := 4, c := x.c, id := x.id } := by unfold evNeed evWho; rw [if_neg (by omega), if_neg (by omega), if_neg (by omega), if_neg (by omega), if_neg (by omega), hk]
      rw [← hn]
      first | exact R3.out h16 rfl | exact R3.out h16 trivial
    subst r
    clear R1 R2 R3
    have d16 : decide (x.c < 16) = true := decide_eq_true h16
    go_wp2_with ((with_reducible apply wpList_load_evG); (first | exact rfl | exact wanted_dec h16 rfl); exact rfl; assumption; exact rfl)
    refine (refSame5_any W1 x { evZero with k := 4, c := x.c, id := x.id } tx rd (.slice none 0 0) (.slice none 0 0) (HT.out.new HK1.out hN) (⟨Mics.nil N _, Lists.nil N _⟩) (Nat.le_trans hN hsz1) (Nat.le_trans hN hsz1)).mono ?_; rintro z wz ⟨rfl, hkz⟩
    have HKZ := Lib.hid (HK1.out.trans hkz (FSub.refl _ _))
    clear hkz
    go_wp2_with fail
    go_ret
    exact ⟨rfl, HKZ.out⟩
  · have r : R = false := R1.out (by first | exact h16 | omega)
    subst r
    clear R1 R2 R3
    go_wp2_with fail
    go_ret
    exact ⟨rfl, HK1.out⟩
set_option maxHeartbeats 8000000 in
set_option maxRecDepth 100000 in
theorem May5_7 (w : World) (x : Ev) (hx : x.In) {N : Nat} (tx rd : Value) (ht : EvAt N w tx rd x) (hN : N ≤ w.heap.size) (hk : x.k = 7) :
    Calls Tryz.prog 22 #[.agg (evC x tx rd)] w fun e w' => e = .returned (.bool (evGood x)) ∧ Keeps [] w w' := by
  have hk0 := (Keeps.refl [] w).alloc (.cells (evC x tx rd) 32)
  have hX := heap_alloc_new w (.cells (evC x tx rd) 32)
  have HT := Lib.hid ht
  have hx1 := ht.t.one
  have hx2 := ht.r.one
  have E0 := evC_0 x tx rd; have E1 := evC_1 x tx rd; have E2 := evC_2 x tx rd
  rw [hk] at E0
  generalize hR : evGood x = R at *
  obtain ⟨r1, r2, r3⟩ := good_is hR (by rw [hk]; rfl) (show evFits x = true by unfold evFits; rw [if_neg (by omega), if_neg (by omega), if_neg (by omega), if_neg (by omega), if_neg (by omega)])
  have R1 := Lib.hid r1; have R2 := Lib.hid r2; have R3 := Lib.hid r3
  clear hR r1 r2 r3 ht
  go_enter Tryz.func22, Tryz.ntmps22
  go_wp2_with ((with_reducible apply wpList_put_ev); exact rfl; exact rfl; (first | assumption | (refine heap_alloc_lt ?_; assumption) | (refine heap_alloc_lt (heap_alloc_lt ?_); assumption) | exact heap_alloc_at (by simp)); exact ⟨rfl, rfl⟩; exact rfl)
  intro W1 hb1 hk1
  rw [row_ev0] at hb1
  have hX1 := hk1.heap (heap_alloc_lt hX) (by simp)
  have hK1 : Keeps [] w W1 := (hk0.alloc _).trans hk1 (fun g hg => .inr (by simp at hg; omega))
  have c0 := ev_cell hX1 0 E0; have c1 := ev_cell hX1 1 E1
  clear E0 E1 E2 hX hk0 hk1
  have HK1 := Lib.hid hK1
  have hsz1 := hK1.size
  clear hK1
  by_cases h16 : x.c < 16
  · have r : R = evSame x { evZero with k := 7, c := x.c, id := x.id } := by
      have hn : evNeed x = { evZero with k := 7, c := x.c, id := x.id } := by unfold evNeed evWho; rw [if_neg (by omega), if_neg (by omega), if_neg (by omega), if_neg (by omega), if_neg (by omega), hk]
      rw [← hn]
      first | exact R3.out h16 rfl | exact R3.out h16 trivial
    subst r
    clear R1 R2 R3
    have d16 : decide (x.c < 16) = true := decide_eq_true h16
    go_wp2_with ((with_reducible apply wpList_load_evG); (first | exact rfl | exact wanted_dec h16 rfl); exact rfl; assumption; exact rfl)
    refine (refSame5_any W1 x { evZero with k := 7, c := x.c, id := x.id } tx rd (.slice none 0 0) (.slice none 0 0) (HT.out.new HK1.out hN) (⟨Mics.nil N _, Lists.nil N _⟩) (Nat.le_trans hN hsz1) (Nat.le_trans hN hsz1)).mono ?_; rintro z wz ⟨rfl, hkz⟩
    have HKZ := Lib.hid (HK1.out.trans hkz (FSub.refl _ _))
    clear hkz
    go_wp2_with fail
    go_ret
    exact ⟨rfl, HKZ.out⟩
  · have r : R = false := R1.out (by first | exact h16 | omega)
    subst r
    clear R1 R2 R3
    go_wp2_with fail
    go_ret
    exact ⟨rfl, HK1.out⟩
set_option maxHeartbeats 8000000 in
set_option maxRecDepth 100000 in
theorem May5_none (w : World) (x : Ev) (hx : x.In) (tx rd : Value) (h1 : tx.oneCell' = true) (h2 : rd.oneCell' = true) (hk : evKind x.k = false) :
    Calls Tryz.prog 22 #[.agg (evC x tx rd)] w fun e w' => e = .returned (.bool (evGood x)) ∧ Keeps [] w w' := by
  have hk0 := (Keeps.refl [] w).alloc (.cells (evC x tx rd) 32)
  have hX := heap_alloc_new w (.cells (evC x tx rd) 32)
  have E0 := evC_0 x tx rd; have E1 := evC_1 x tx rd; have E2 := evC_2 x tx rd
  have hR : evGood x = false := by unfold evGood; rw [hk]; rfl
  rw [hR]
  have hn := kind_not hk
  have q1 : (x.k == 1) = false := by simp; omega
  have q2 : (x.k == 2) = false := by simp; omega
  have q3 : (x.k == 3) = false := by simp; omega
  have q4 : (x.k == 4) = false := by simp; omega
  have q5 : (x.k == 5) = false := by simp; omega
  have q6 : (x.k == 6) = false := by simp; omega
  have q7 : (x.k == 7) = false := by simp; omega
  clear hn hR hk
  generalize x.k = k at *
  go_enter Tryz.func22, Tryz.ntmps22
  go_wp2_with ((with_reducible apply wpList_put_ev); exact rfl; exact rfl; (first | assumption | (refine heap_alloc_lt ?_; assumption) | (refine heap_alloc_lt (heap_alloc_lt ?_); assumption) | exact heap_alloc_at (by simp)); exact ⟨rfl, rfl⟩; exact rfl)
  intro W1 hb1 hk1
  have hX1 := hk1.heap (heap_alloc_lt hX) (by simp)
  have hK1 : Keeps [] w W1 := (hk0.alloc _).trans hk1 (fun g hg => .inr (by simp at hg; omega))
  have c0 := ev_cell hX1 0 E0
  clear E0 E1 E2 hX hk0 hk1 hX1 hb1
  go_wp2_with fail
  go_ret
  exact ⟨rfl, hK1⟩
end Go.Proofs.YtffldnjjijckcaaGreatDoor
/-
  The document's May: an invoke, a return. (Printed by draft/genmay5.py.)
-/
namespace Go.Proofs.YtffldnjjijckcaaGreatDoor
open Go.RowKit
set_option maxHeartbeats 8000000 in
set_option maxRecDepth 100000 in
theorem May5_2 (w : World) (x : Ev) (hx : x.In) {N : Nat} (tx rd : Value) (ht : EvAt N w tx rd x) (hN : N ≤ w.heap.size) (hk : x.k = 2) :
    Calls Tryz.prog 22 #[.agg (evC x tx rd)] w fun e w' => e = .returned (.bool (evGood x)) ∧ Keeps [] w w' := by
  have hk0 := (Keeps.refl [] w).alloc (.cells (evC x tx rd) 32)
  have hX := heap_alloc_new w (.cells (evC x tx rd) 32)
  have HT := Lib.hid ht
  have hx1 := ht.t.one
  have hx2 := ht.r.one
  have E0 := evC_0 x tx rd; have E1 := evC_1 x tx rd; have E2 := evC_2 x tx rd
  rw [hk] at E0
  generalize hR : evGood x = R at *
  obtain ⟨r1, r2, r3⟩ := good_is hR (by rw [hk]; rfl) (show evFits x = opGood x.o by unfold evFits; rw [if_neg (by omega), if_pos hk])
  have R1 := Lib.hid r1; have R2 := Lib.hid r2; have R3 := Lib.hid r3
  clear hR r1 r2 r3 ht
  go_enter Tryz.func22, Tryz.ntmps22
  go_wp2_with ((with_reducible apply wpList_put_ev); exact rfl; exact rfl; (first | assumption | (refine heap_alloc_lt ?_; assumption) | (refine heap_alloc_lt (heap_alloc_lt ?_); assumption) | exact heap_alloc_at (by simp)); exact ⟨rfl, rfl⟩; exact rfl)
  intro W1 hb1 hk1
  rw [row_ev0] at hb1
  have hX1 := hk1.heap (heap_alloc_lt hX) (by simp)
  have hK1 : Keeps [] w W1 := (hk0.alloc _).trans hk1 (fun g hg => .inr (by simp at hg; omega))
  have c0 := ev_cell hX1 0 E0; have c1 := ev_cell hX1 1 E1
  have c3 := ev_cell hX1 3 (evC_3 x tx rd)
  have c4 := ev_cell hX1 4 (evC_4 x tx rd)
  have c5 := ev_cell hX1 5 (evC_5 x tx rd)
  have c6 := ev_cell hX1 6 (evC_6 x tx rd)
  have c7 := ev_cell hX1 7 (evC_7 x tx rd)
  clear E1 E2 hX hk0 hk1
  have HK1 := Lib.hid hK1
  have hsz1 := hK1.size
  clear hK1
  go_wp2_with ((with_reducible apply wpList_put_op); exact rfl; exact rfl; exact hb1)
  intro W2 hb2 hk2
  have hX2 := hk2.heap hX1 (by simp)
  have HK2 := Lib.hid (HK1.out.trans hk2 (fun g hg => .inr (by simp at hg; omega)))
  have c0 := ev_cell hX2 0 E0; have c1 := ev_cell hX2 1 (evC_1 x tx rd)
  have c3 := ev_cell hX2 3 (evC_3 x tx rd)
  have c4 := ev_cell hX2 4 (evC_4 x tx rd)
  have c5 := ev_cell hX2 5 (evC_5 x tx rd)
  have c6 := ev_cell hX2 6 (evC_6 x tx rd)
  have c7 := ev_cell hX2 7 (evC_7 x tx rd)
  have hsz2 := HK2.out.size
  clear HK1 hX1 hb1 hk2 hsz1 E0
  have hcall := fun w => May_any w x.o.f x.o.o x.o.k x.o.a x.o.b hx.o
  have HC := Lib.hid hcall
  clear hcall
  rcases bool_two (opGood x.o) with hF | hF
  · rw [hF] at HC R2 R3
    go_wp2_with fail
    refine (HC.out _).mono ?_; rintro z w3 ⟨rfl, hk3⟩
    have hX3 := hk3.heap hX2 (by simp)
    have hb3 := hk3.heap hb2 (by simp)
    have HK3 := Lib.hid (HK2.out.trans hk3 (FSub.refl _ _))
    have c1 := ev_cell hX3 1 (evC_1 x tx rd)
    have hsz3 := HK3.out.size
    clear HK2 hX2 hb2 hk3 hsz2 HC
    by_cases h16 : x.c < 16
    · have r : R = evSame x { evZero with k := 2, c := x.c, id := x.id, o := x.o } := by
        have hn : evNeed x = { evZero with k := 2, c := x.c, id := x.id, o := x.o } := by unfold evNeed evWho; rw [if_neg (by omega), if_pos hk, hk]
        rw [← hn]
        first | exact R3.out h16 rfl | exact R3.out h16 trivial
      subst r
      clear R1 R2 R3
      have d16 : decide (x.c < 16) = true := decide_eq_true h16
      go_wp2_with ((with_reducible apply wpList_load_evG); (first | exact rfl | exact wanted_dec h16 rfl); exact rfl; assumption; exact rfl)
      refine (refSame5_any w3 x { evZero with k := 2, c := x.c, id := x.id, o := x.o } tx rd (.slice none 0 0) (.slice none 0 0) (HT.out.new HK3.out hN) (⟨Mics.nil N _, Lists.nil N _⟩) (Nat.le_trans hN hsz3) (Nat.le_trans hN hsz3)).mono ?_; rintro z wz ⟨rfl, hkz⟩
      have HKZ := Lib.hid (HK3.out.trans hkz (FSub.refl _ _))
      clear hkz
      go_wp2_with fail
      go_ret
      exact ⟨rfl, HKZ.out⟩
    · have r : R = false := R1.out (by first | exact h16 | omega)
      subst r
      clear R1 R2 R3
      go_wp2_with fail
      go_ret
      exact ⟨rfl, HK3.out⟩
  · rw [hF] at HC R2 R3
    have r : R = false := by first | exact R2.out rfl | exact R2.out trivial | exact R2.out
    subst r
    go_wp2_with fail
    refine (HC.out _).mono ?_; rintro z w3 ⟨rfl, hk3⟩
    have HK3 := Lib.hid (HK2.out.trans hk3 (FSub.refl _ _))
    clear hk3 R1 R2 R3
    go_wp2_with fail
    go_ret
    exact ⟨rfl, HK3.out⟩
set_option maxHeartbeats 8000000 in
set_option maxRecDepth 100000 in
theorem May5_3 (w : World) (x : Ev) (hx : x.In) {N : Nat} (tx rd : Value) (ht : EvAt N w tx rd x) (hN : N ≤ w.heap.size) (hk : x.k = 3) :
    Calls Tryz.prog 22 #[.agg (evC x tx rd)] w fun e w' => e = .returned (.bool (evGood x)) ∧ Keeps [] w w' := by
  have hk0 := (Keeps.refl [] w).alloc (.cells (evC x tx rd) 32)
  have hX := heap_alloc_new w (.cells (evC x tx rd) 32)
  have HT := Lib.hid ht
  have hx1 := ht.t.one
  have hx2 := ht.r.one
  have E0 := evC_0 x tx rd; have E1 := evC_1 x tx rd; have E2 := evC_2 x tx rd
  rw [hk] at E0
  generalize hR : evGood x = R at *
  obtain ⟨r1, r2, r3⟩ := good_is hR (by rw [hk]; rfl) (show evFits x = rsGood x.rk x.rv by unfold evFits; rw [if_neg (by omega), if_neg (by omega), if_pos hk])
  have R1 := Lib.hid r1; have R2 := Lib.hid r2; have R3 := Lib.hid r3
  clear hR r1 r2 r3 ht
  go_enter Tryz.func22, Tryz.ntmps22
  go_wp2_with ((with_reducible apply wpList_put_ev); exact rfl; exact rfl; (first | assumption | (refine heap_alloc_lt ?_; assumption) | (refine heap_alloc_lt (heap_alloc_lt ?_); assumption) | exact heap_alloc_at (by simp)); exact ⟨rfl, rfl⟩; exact rfl)
  intro W1 hb1 hk1
  rw [row_ev0] at hb1
  have hX1 := hk1.heap (heap_alloc_lt hX) (by simp)
  have hK1 : Keeps [] w W1 := (hk0.alloc _).trans hk1 (fun g hg => .inr (by simp at hg; omega))
  have c0 := ev_cell hX1 0 E0; have c1 := ev_cell hX1 1 E1
  have c8 := ev_cell hX1 8 (evC_8 x tx rd)
  have c9 := ev_cell hX1 9 (evC_9 x tx rd)
  clear E1 E2 hX hk0 hk1
  have HK1 := Lib.hid hK1
  have hsz1 := hK1.size
  clear hK1
  go_wp2_with ((with_reducible apply wpList_put_res); exact rfl; exact rfl; exact hb1)
  intro W2 hb2 hk2
  have hX2 := hk2.heap hX1 (by simp)
  have HK2 := Lib.hid (HK1.out.trans hk2 (fun g hg => .inr (by simp at hg; omega)))
  have c0 := ev_cell hX2 0 E0; have c1 := ev_cell hX2 1 (evC_1 x tx rd)
  have c8 := ev_cell hX2 8 (evC_8 x tx rd)
  have c9 := ev_cell hX2 9 (evC_9 x tx rd)
  have hsz2 := HK2.out.size
  clear HK1 hX1 hb1 hk2 hsz1 E0
  have hcall := fun w => Good_any w x.rk x.rv hx.rk0 hx.rk1
  have HC := Lib.hid hcall
  clear hcall
  rcases bool_two (rsGood x.rk x.rv) with hF | hF
  · rw [hF] at HC R2 R3
    go_wp2_with fail
    refine (HC.out _).mono ?_; rintro z w3 ⟨rfl, hk3⟩
    have hX3 := hk3.heap hX2 (by simp)
    have hb3 := hk3.heap hb2 (by simp)
    have HK3 := Lib.hid (HK2.out.trans hk3 (FSub.refl _ _))
    have c1 := ev_cell hX3 1 (evC_1 x tx rd)
    have hsz3 := HK3.out.size
    clear HK2 hX2 hb2 hk3 hsz2 HC
    by_cases h16 : x.c < 16
    · have r : R = evSame x { evZero with k := 3, c := x.c, id := x.id, rk := x.rk, rv := x.rv } := by
        have hn : evNeed x = { evZero with k := 3, c := x.c, id := x.id, rk := x.rk, rv := x.rv } := by unfold evNeed evWho; rw [if_neg (by omega), if_neg (by omega), if_pos hk, hk]
        rw [← hn]
        first | exact R3.out h16 rfl | exact R3.out h16 trivial
      subst r
      clear R1 R2 R3
      have d16 : decide (x.c < 16) = true := decide_eq_true h16
      go_wp2_with ((with_reducible apply wpList_load_evG); (first | exact rfl | exact wanted_dec h16 rfl); exact rfl; assumption; exact rfl)
      refine (refSame5_any w3 x { evZero with k := 3, c := x.c, id := x.id, rk := x.rk, rv := x.rv } tx rd (.slice none 0 0) (.slice none 0 0) (HT.out.new HK3.out hN) (⟨Mics.nil N _, Lists.nil N _⟩) (Nat.le_trans hN hsz3) (Nat.le_trans hN hsz3)).mono ?_; rintro z wz ⟨rfl, hkz⟩
      have HKZ := Lib.hid (HK3.out.trans hkz (FSub.refl _ _))
      clear hkz
      go_wp2_with fail
      go_ret
      exact ⟨rfl, HKZ.out⟩
    · have r : R = false := R1.out (by first | exact h16 | omega)
      subst r
      clear R1 R2 R3
      go_wp2_with fail
      go_ret
      exact ⟨rfl, HK3.out⟩
  · rw [hF] at HC R2 R3
    have r : R = false := by first | exact R2.out rfl | exact R2.out trivial | exact R2.out
    subst r
    go_wp2_with fail
    refine (HC.out _).mono ?_; rintro z w3 ⟨rfl, hk3⟩
    have HK3 := Lib.hid (HK2.out.trans hk3 (FSub.refl _ _))
    clear hk3 R1 R2 R3
    go_wp2_with fail
    go_ret
    exact ⟨rfl, HK3.out⟩
end Go.Proofs.YtffldnjjijckcaaGreatDoor
/-
  The document's May: a config. (Printed by draft/genmay5.py.)
-/
namespace Go.Proofs.YtffldnjjijckcaaGreatDoor
open Go.RowKit
set_option maxHeartbeats 8000000 in
set_option maxRecDepth 100000 in
theorem May5_1 (w : World) (x : Ev) (hx : x.In) {N : Nat} (tx rd : Value) (ht : EvAt N w tx rd x) (hN : N ≤ w.heap.size) (hk : x.k = 1) :
    Calls Tryz.prog 22 #[.agg (evC x tx rd)] w fun e w' => e = .returned (.bool (evGood x)) ∧ Keeps [] w w' := by
  have hk0 := (Keeps.refl [] w).alloc (.cells (evC x tx rd) 32)
  have hX := heap_alloc_new w (.cells (evC x tx rd) 32)
  have HT := Lib.hid ht
  have hx1 := ht.t.one
  have hx2 := ht.r.one
  have E0 := evC_0 x tx rd; have E1 := evC_1 x tx rd; have E2 := evC_2 x tx rd
  rw [hk] at E0
  generalize hR : evGood x = R at *
  obtain ⟨r1, r2, r3⟩ := good_is hR (by rw [hk]; rfl) (show evFits x = cfgGood x.g by unfold evFits; rw [if_pos hk])
  have R1 := Lib.hid r1; have R2 := Lib.hid r2; have R3 := Lib.hid r3
  clear hR r1 r2 r3 ht
  go_enter Tryz.func22, Tryz.ntmps22
  go_wp2_with ((with_reducible apply wpList_put_ev); exact rfl; exact rfl; (first | assumption | (refine heap_alloc_lt ?_; assumption) | (refine heap_alloc_lt (heap_alloc_lt ?_); assumption) | exact heap_alloc_at (by simp)); exact ⟨rfl, rfl⟩; exact rfl)
  intro W1 hb1 hk1
  rw [row_ev0] at hb1
  have hX1 := hk1.heap (heap_alloc_lt hX) (by simp)
  have hK1 : Keeps [] w W1 := (hk0.alloc _).trans hk1 (fun g hg => .inr (by simp at hg; omega))
  have c0 := ev_cell hX1 0 E0; have c1 := ev_cell hX1 1 E1
  have c12 := ev_cell hX1 12 (evC_12 x tx rd)
  have c13 := ev_cell hX1 13 (evC_13 x tx rd)
  have c14 := ev_cell hX1 14 (evC_14 x tx rd)
  have c15 := ev_cell hX1 15 (evC_15 x tx rd)
  have c16 := ev_cell hX1 16 (evC_16 x tx rd)
  have c17 := ev_cell hX1 17 (evC_17 x tx rd)
  have c18 := ev_cell hX1 18 (evC_18 x tx rd)
  clear E0 E1 E2 hX hk0 hk1
  have HK1 := Lib.hid hK1
  have hsz1 := hK1.size
  clear hK1
  have G0 : w.heap.size + 1 < W1.heap.size := lt_of_block hb1
  go_wp2_with ((with_reducible apply wpList_put_ev); exact rfl; exact rfl; (first | assumption | (refine heap_alloc_lt ?_; assumption) | (refine heap_alloc_lt (heap_alloc_lt ?_); assumption) | exact heap_alloc_at (by simp)); exact ⟨rfl, rfl⟩; exact rfl)
  intro W2 hb2 hk2
  rw [row_ev1] at hb2
  have hX2 := hk2.heap (heap_alloc_lt hX1) (by simp)
  have hC2 := hk2.heap (heap_alloc_new W1 (.cells #[.int .u8 x.g.m, .int .i64 x.g.mo, .int .i64 x.g.ms, .int .i64 x.g.mt, .bool x.g.p, .bool x.g.cu, .bool x.g.me] 30)) (by simp; omega)
  have HK2 := Lib.hid ((HK1.out.alloc (.cells #[.int .u8 x.g.m, .int .i64 x.g.mo, .int .i64 x.g.ms, .int .i64 x.g.mt, .bool x.g.p, .bool x.g.cu, .bool x.g.me] 30)).trans hk2 (fun g hg => .inr (by simp at hg; omega)))
  have d0 : W2.cell? ⟨W1.heap.size, 0, none⟩ = some (.int .u8 x.g.m) := by simp [World.cell?, hC2]
  have d1 : W2.cell? ⟨W1.heap.size, 1, none⟩ = some (.int .i64 x.g.mo) := by simp [World.cell?, hC2]
  have d2 : W2.cell? ⟨W1.heap.size, 2, none⟩ = some (.int .i64 x.g.ms) := by simp [World.cell?, hC2]
  have d3 : W2.cell? ⟨W1.heap.size, 3, none⟩ = some (.int .i64 x.g.mt) := by simp [World.cell?, hC2]
  have c1 := ev_cell hX2 1 (evC_1 x tx rd)
  have hsz2 := HK2.out.size
  clear HK1 hX1 hb1 hk2 hsz1 hC2 c0 c12 c13 c14 c15 c16 c17 c18 G0
  generalize W1.heap.size = B at *
  rcases bool_two (cfgGood x.g) with hF | hF
  · rw [hF] at R2 R3
    have hg := hF
    unfold cfgGood at hg
    simp only [Bool.and_eq_true, decide_eq_true_eq] at hg
    obtain ⟨⟨⟨g1, g2, g3⟩, g4, g5⟩, g6, g7⟩ := hg
    have e1 : decide (4 < x.g.m) = false := decide_eq_false (by omega)
    have e2 : decide (x.g.mo < 1) = false := decide_eq_false (by omega)
    have e3 : decide (32 < x.g.mo) = false := decide_eq_false (by omega)
    have e4 : decide (x.g.ms < 1) = false := decide_eq_false (by omega)
    have e5 : decide (4096 < x.g.ms) = false := decide_eq_false (by omega)
    have e6 : decide (x.g.mt < 1) = false := decide_eq_false (by omega)
    have e7 : decide (1048576 < x.g.mt) = false := decide_eq_false (by omega)
    clear hF
    by_cases h16 : x.c < 16
    · have r : R = evSame x { evZero with k := 1, g := x.g } := by
        have hn : evNeed x = { evZero with k := 1, g := x.g } := by unfold evNeed evWho; rw [if_pos hk, hk]
        rw [← hn]
        first | exact R3.out h16 rfl | exact R3.out h16 trivial
      subst r
      clear R1 R2 R3
      have d16 : decide (x.c < 16) = true := decide_eq_true h16
      go_wp2_with ((with_reducible apply wpList_load_evG); (first | exact rfl | exact wanted_dec h16 rfl); exact rfl; assumption; exact rfl)
      refine (refSame5_any W2 x { evZero with k := 1, g := x.g } tx rd (.slice none 0 0) (.slice none 0 0) (HT.out.new HK2.out hN) (⟨Mics.nil N _, Lists.nil N _⟩) (Nat.le_trans hN hsz2) (Nat.le_trans hN hsz2)).mono ?_; rintro z wz ⟨rfl, hkz⟩
      have HKZ := Lib.hid (HK2.out.trans hkz (FSub.refl _ _))
      clear hkz
      go_wp2_with fail
      go_ret
      exact ⟨rfl, HKZ.out⟩
    · have r : R = false := R1.out (by first | exact h16 | omega)
      subst r
      clear R1 R2 R3
      go_wp2_with fail
      go_ret
      exact ⟨rfl, HK2.out⟩
  · rw [hF] at R2 R3
    have r : R = false := by first | exact R2.out rfl | exact R2.out trivial | exact R2.out
    subst r
    clear R1 R2 R3
    have bad : ¬ (x.g.m ≤ 4 ∧ (1 ≤ x.g.mo ∧ x.g.mo ≤ 32) ∧ (1 ≤ x.g.ms ∧ x.g.ms ≤ 4096) ∧ (1 ≤ x.g.mt ∧ x.g.mt ≤ 1048576)) := by
      intro ⟨g1, g2, g3, g4⟩
      unfold cfgGood at hF
      rw [decide_eq_true g1, decide_eq_true g2, decide_eq_true g3, decide_eq_true g4] at hF
      cases hF
    clear hF
    by_cases e1 : 4 < x.g.m
    · clear bad; go_wp2_with fail
      go_ret
      exact ⟨rfl, HK2.out⟩
    by_cases e2 : x.g.mo < 1
    · clear bad; go_wp2_with fail
      go_ret
      exact ⟨rfl, HK2.out⟩
    by_cases e3 : 32 < x.g.mo
    · clear bad; go_wp2_with fail
      go_ret
      exact ⟨rfl, HK2.out⟩
    by_cases e4 : x.g.ms < 1
    · clear bad; go_wp2_with fail
      go_ret
      exact ⟨rfl, HK2.out⟩
    by_cases e5 : 4096 < x.g.ms
    · clear bad; go_wp2_with fail
      go_ret
      exact ⟨rfl, HK2.out⟩
    by_cases e6 : x.g.mt < 1
    · clear bad; go_wp2_with fail
      go_ret
      exact ⟨rfl, HK2.out⟩
    have e7 : 1048576 < x.g.mt := by omega
    clear bad
    go_wp2_with fail
    go_ret
    exact ⟨rfl, HK2.out⟩
end Go.Proofs.YtffldnjjijckcaaGreatDoor
/-
  The document's May: micros. (Printed by draft/genmay5.py.)
-/
namespace Go.Proofs.YtffldnjjijckcaaGreatDoor
open Go.RowKit
set_option maxHeartbeats 8000000 in
set_option maxRecDepth 100000 in
theorem May5_5 (w : World) (x : Ev) (hx : x.In) {N : Nat} (tx rd : Value) (ht : EvAt N w tx rd x) (hN : N ≤ w.heap.size) (hk : x.k = 5) :
    Calls Tryz.prog 22 #[.agg (evC x tx rd)] w fun e w' => e = .returned (.bool (evGood x)) ∧ Keeps [] w w' := by
  have hk0 := (Keeps.refl [] w).alloc (.cells (evC x tx rd) 32)
  have hX := heap_alloc_new w (.cells (evC x tx rd) 32)
  have HT := Lib.hid ht
  have hx1 := ht.t.one
  have hx2 := ht.r.one
  have E0 := evC_0 x tx rd; have E1 := evC_1 x tx rd; have E2 := evC_2 x tx rd
  rw [hk] at E0
  generalize hR : evGood x = R at *
  obtain ⟨r1, r2, r3⟩ := good_is hR (by rw [hk]; rfl) (show evFits x = micsGood x.t by unfold evFits; rw [if_neg (by omega), if_neg (by omega), if_neg (by omega), if_pos hk])
  have R1 := Lib.hid r1; have R2 := Lib.hid r2; have R3 := Lib.hid r3
  clear hR r1 r2 r3 ht
  go_enter Tryz.func22, Tryz.ntmps22
  go_wp2_with ((with_reducible apply wpList_put_ev); exact rfl; exact rfl; (first | assumption | (refine heap_alloc_lt ?_; assumption) | (refine heap_alloc_lt (heap_alloc_lt ?_); assumption) | exact heap_alloc_at (by simp)); exact ⟨rfl, rfl⟩; exact rfl)
  intro W1 hb1 hk1
  rw [row_ev0] at hb1
  have hX1 := hk1.heap (heap_alloc_lt hX) (by simp)
  have hK1 : Keeps [] w W1 := (hk0.alloc _).trans hk1 (fun g hg => .inr (by simp at hg; omega))
  have c0 := ev_cell hX1 0 E0; have c1 := ev_cell hX1 1 E1
  have c10 := ev_cell hX1 10 (evC_10 x tx rd)
  clear E0 E1 E2 hX hk0 hk1
  have HK1 := Lib.hid hK1
  have hsz1 := hK1.size
  clear hK1
  go_wp2_with ((with_reducible apply wpList_put_cell (T := 27) 10 { evZero with k := 5, c := x.c, id := x.id, t := x.t } tx (.slice none 0 0)); exact rfl; exact rfl; assumption; kernel_rfl; assumption; exact rfl; exact rfl)
  intro W2 hb2 hk2
  obtain ⟨a, cc, ea, hc, hm, hh⟩ := HT.out.t
  have hX2 := hk2.heap hX1 (by simp)
  have HK2 := Lib.hid (HK1.out.trans hk2 (fun g hg => .inr (by simp at hg; omega)))
  have c1 := ev_cell hX2 1 (evC_1 x tx rd)
  have cl := (ev_cell hX2 10 (evC_10 x tx rd)).trans (congrArg some ea)
  have hsz2 := HK2.out.size
  have hls : (x.t.length : Int) ≤ 9223372036854775807 := by omega
  have HH := Lib.hid hh
  clear HK1 hX1 hb1 hk2 hsz1 c0 c10 hh ea
  by_cases hl : 1 ≤ x.t.length ∧ x.t.length ≤ 8
  · have e1 : decide ((x.t.length : Int) < 1) = false := decide_eq_false (by omega)
    have e2 : decide (8 < (x.t.length : Int)) = false := decide_eq_false (by omega)
    obtain ⟨bk, o, rfl, hbN, hcells⟩ := HH.out (fun e => by rw [e] at hl; simp at hl)
    have HC := Lib.hid hcells
    have hin := hx.t
    have HIN := Lib.hid hin
    have HG : Hid (micsGood x.t = x.t.all micGood) := Lib.hid (by unfold micsGood; rw [decide_eq_true hl]; rfl)
    clear hcells HH hin hx
    go_wp2_with fail
    go_loopw [2, 5] (fun r i wr => ∃ k : Nat, r = .bool false ∧ i = .int .i64 k ∧ k ≤ x.t.length ∧ (∀ j, j < k → micGood (x.t.getD j micNone) = true) ∧ wr = W2) (fun _ i _ => x.t.length - (intOf i).toNat)
    case atStart => exact ⟨0, rfl, rfl, by omega, fun j hj => by omega, rfl⟩
    case round =>
      obtain ⟨k, rfl, rfl, hk', hp, rfl⟩ := hrel
      have HP := Lib.hid hp; clear hp
      by_cases hlt : k < x.t.length
      · obtain ⟨d1, d2, d3⟩ := HC.out k _ (getD_get micNone hlt)
        replace d1 := HK2.out.cell d1 (by simp)
        replace d2 := HK2.out.cell d2 (by simp)
        replace d3 := HK2.out.cell d3 (by simp)
        have hmi := HIN.out _ (getD_in micNone hlt)
        have b1 := hmi.k0; have b2 := hmi.k1; have b3 := hmi.v0; have b4 := hmi.v1
        have y1 : (k : Int) < (x.t.length : Int) := by omega
        clear hmi
        rcases bool_two (micGood (x.t.getD k micNone)) with hg | hg
        · have HN := Lib.hid (prefix_all HP.out hg)
          clear R1 R2 R3 HP HC HIN HG HT
          generalize x.t.getD k micNone = M at *
          obtain ⟨m1, m2, m3⟩ := M
          simp only [micGood] at hg d1 d2 d3 b1 b2 b3 b4
          have q1 : m2 < 8 := by simp at hg; exact hg.1
          have q2 : ¬ 7 < m2 := by omega
          have q4 : decide (7 < m2) = false := decide_eq_false q2
          cases m1 with
          | false =>
            clear hg
            go_wp2_with fail
            go_roundw
            case rel => exact ⟨k + 1, rfl, by go_num, by omega, HN.out, trivial⟩
            case measure => simp [intOf]; omega
          | true =>
            have q3 : m3 = 0 := by simp at hg; exact hg.2
            subst q3
            clear hg
            go_wp2_with fail
            go_roundw
            case rel => exact ⟨k + 1, rfl, by go_num, by omega, HN.out, trivial⟩
            case measure => simp [intOf]; omega
        · have r : R = false := R2.out (by rw [HG.out]; exact all_not micNone hlt hg)
          subst r
          clear R1 R2 R3 HP HC HIN HG HT
          generalize x.t.getD k micNone = M at *
          obtain ⟨m1, m2, m3⟩ := M
          simp only [micGood] at hg d1 d2 d3 b1 b2 b3 b4
          by_cases q1 : 7 < m2
          · clear hg
            go_wp2_with fail
            go_ret
            exact ⟨rfl, HK2.out⟩
          · have q2 : m1 = true ∧ (m3 != 0) = true := by
              simp at hg ⊢
              exact hg (by omega)
            obtain ⟨rfl, q3⟩ := q2
            have q4 : decide (7 < m2) = false := decide_eq_false q1
            clear hg
            go_wp2_with fail
            go_ret
            exact ⟨rfl, HK2.out⟩
      · obtain rfl : k = x.t.length := by omega
        have hF : micsGood x.t = true := HG.out.trans (all_take micNone HP.out)
        rw [hF] at R2 R3
        clear HP HC HIN HG hF
        by_cases h16 : x.c < 16
        · have r : R = evSame x { evZero with k := 5, c := x.c, id := x.id, t := x.t } := by
            have hn : evNeed x = { evZero with k := 5, c := x.c, id := x.id, t := x.t } := by unfold evNeed evWho; rw [if_neg (by omega), if_neg (by omega), if_neg (by omega), if_pos hk, hk]
            rw [← hn]
            first | exact R3.out h16 rfl | exact R3.out h16 trivial
          subst r
          clear R1 R2 R3
          have d16 : decide (x.c < 16) = true := decide_eq_true h16
          go_wp2_with ((with_reducible apply wpList_load_evG); (first | exact rfl | exact wanted_dec h16 rfl); exact rfl; assumption; exact rfl)
          refine (refSame5_any wr x { evZero with k := 5, c := x.c, id := x.id, t := x.t } tx rd tx (.slice none 0 0) (HT.out.new HK2.out hN) (⟨(HT.out.new HK2.out hN).t, Lists.nil N _⟩) (Nat.le_trans hN hsz2) (Nat.le_trans hN hsz2)).mono ?_; rintro z wz ⟨rfl, hkz⟩
          have HKZ := Lib.hid (HK2.out.trans hkz (FSub.refl _ _))
          clear hkz
          go_wp2_with fail
          go_ret
          exact ⟨rfl, HKZ.out⟩
        · have r : R = false := R1.out (by first | exact h16 | omega)
          subst r
          clear R1 R2 R3
          go_wp2_with fail
          go_ret
          exact ⟨rfl, HK2.out⟩
  · have hF : micsGood x.t = false := by unfold micsGood; rw [decide_eq_false hl]; rfl
    have r : R = false := R2.out hF
    subst r
    clear R1 R2 R3 HH
    by_cases e1 : (x.t.length : Int) < 1
    · go_wp2_with fail
      go_ret
      exact ⟨rfl, HK2.out⟩
    · have e2 : 8 < (x.t.length : Int) := by omega
      have e3 : decide ((x.t.length : Int) < 1) = false := decide_eq_false e1
      go_wp2_with fail
      go_ret
      exact ⟨rfl, HK2.out⟩
end Go.Proofs.YtffldnjjijckcaaGreatDoor
/-
  The document's May: lists. (Printed by draft/genmay5.py.)
-/
namespace Go.Proofs.YtffldnjjijckcaaGreatDoor
open Go.RowKit
set_option maxHeartbeats 8000000 in
set_option maxRecDepth 100000 in
theorem May5_6 (w : World) (x : Ev) (hx : x.In) {N : Nat} (tx rd : Value) (ht : EvAt N w tx rd x) (hN : N ≤ w.heap.size) (hk : x.k = 6) :
    Calls Tryz.prog 22 #[.agg (evC x tx rd)] w fun e w' => e = .returned (.bool (evGood x)) ∧ Keeps [] w w' := by
  have hk0 := (Keeps.refl [] w).alloc (.cells (evC x tx rd) 32)
  have hX := heap_alloc_new w (.cells (evC x tx rd) 32)
  have HT := Lib.hid ht
  have hx1 := ht.t.one
  have hx2 := ht.r.one
  have E0 := evC_0 x tx rd; have E1 := evC_1 x tx rd; have E2 := evC_2 x tx rd
  rw [hk] at E0
  generalize hR : evGood x = R at *
  obtain ⟨r1, r2, r3⟩ := good_is hR (by rw [hk]; rfl) (show evFits x = listsGood x.r by unfold evFits; rw [if_neg (by omega), if_neg (by omega), if_neg (by omega), if_neg (by omega), if_pos hk])
  have R1 := Lib.hid r1; have R2 := Lib.hid r2; have R3 := Lib.hid r3
  clear hR r1 r2 r3 ht
  go_enter Tryz.func22, Tryz.ntmps22
  go_wp2_with ((with_reducible apply wpList_put_ev); exact rfl; exact rfl; (first | assumption | (refine heap_alloc_lt ?_; assumption) | (refine heap_alloc_lt (heap_alloc_lt ?_); assumption) | exact heap_alloc_at (by simp)); exact ⟨rfl, rfl⟩; exact rfl)
  intro W1 hb1 hk1
  rw [row_ev0] at hb1
  have hX1 := hk1.heap (heap_alloc_lt hX) (by simp)
  have hK1 : Keeps [] w W1 := (hk0.alloc _).trans hk1 (fun g hg => .inr (by simp at hg; omega))
  have c0 := ev_cell hX1 0 E0; have c1 := ev_cell hX1 1 E1
  have c11 := ev_cell hX1 11 (evC_11 x tx rd)
  clear E0 E1 E2 hX hk0 hk1
  have HK1 := Lib.hid hK1
  have hsz1 := hK1.size
  clear hK1
  go_wp2_with ((with_reducible apply wpList_put_cell (T := 28) 11 { evZero with k := 6, c := x.c, id := x.id, r := x.r } (.slice none 0 0) rd); exact rfl; exact rfl; assumption; kernel_rfl; assumption; exact rfl; exact rfl)
  intro W2 hb2 hk2
  obtain ⟨a, cc, ea, hc, hm, hh⟩ := HT.out.r
  have hX2 := hk2.heap hX1 (by simp)
  have HK2 := Lib.hid (HK1.out.trans hk2 (fun g hg => .inr (by simp at hg; omega)))
  have c1 := ev_cell hX2 1 (evC_1 x tx rd)
  have cl := (ev_cell hX2 11 (evC_11 x tx rd)).trans (congrArg some ea)
  have hsz2 := HK2.out.size
  have hls : (x.r.length : Int) ≤ 9223372036854775807 := by omega
  have HH := Lib.hid hh
  clear HK1 hX1 hb1 hk2 hsz1 c0 c11 hh ea
  by_cases hl : x.r.length ≤ 8
  · have e2 : decide (8 < (x.r.length : Int)) = false := decide_eq_false (by omega)
    have HG : Hid (listsGood x.r = x.r.all fun l => decide (l.length ≤ 32)) := Lib.hid (by unfold listsGood; rw [decide_eq_true hl]; rfl)
    go_wp2_with fail
    go_loopw [2, 6] (fun r i wr => ∃ k : Nat, r = .bool false ∧ i = .int .i64 k ∧ k ≤ x.r.length ∧ (∀ j, j < k → (fun l : List Int => decide (l.length ≤ 32)) (x.r.getD j []) = true) ∧ wr = W2) (fun _ i _ => x.r.length - (intOf i).toNat)
    case atStart => exact ⟨0, rfl, rfl, by omega, fun j hj => by omega, rfl⟩
    case round =>
      obtain ⟨k, rfl, rfl, hk', hp, rfl⟩ := hrel
      have HP := Lib.hid hp; clear hp
      by_cases hlt : k < x.r.length
      · obtain ⟨bk, o, rfl, hbN, hcells⟩ := HH.out (fun e => by rw [e] at hlt; simp at hlt)
        obtain ⟨u, d1, hnu⟩ := hcells k hlt
        obtain ⟨a3, c3, rfl, hc3, hm3, -⟩ := hnu
        replace d1 := HK2.out.cell d1 (by simp)
        have y1 : (k : Int) < (x.r.length : Int) := by omega
        clear hcells
        by_cases hg : (x.r.getD k []).length ≤ 32
        · have HN := Lib.hid (prefix_all (p := fun l : List Int => decide (l.length ≤ 32)) HP.out (decide_eq_true hg))
          have q4 : ¬ 32 < ((x.r.getD k []).length : Int) := by omega
          clear R1 R2 R3 HP HH HG HT
          generalize (x.r.getD k []).length = M at *
          go_wp2_with fail
          go_roundw
          case rel => exact ⟨k + 1, rfl, by go_num, by omega, HN.out, trivial⟩
          case measure => simp [intOf]; omega
        · have r : R = false := R2.out (by rw [HG.out]; exact all_not [] hlt (decide_eq_false hg))
          subst r
          have q4 : 32 < ((x.r.getD k []).length : Int) := by omega
          clear R1 R2 R3 HP HH HG HT
          generalize (x.r.getD k []).length = M at *
          go_wp2_with fail
          go_ret
          exact ⟨rfl, HK2.out⟩
      · obtain rfl : k = x.r.length := by omega
        have hF : listsGood x.r = true := HG.out.trans (all_take [] HP.out)
        rw [hF] at R2 R3
        clear HP HH HG hF
        by_cases h16 : x.c < 16
        · have r : R = evSame x { evZero with k := 6, c := x.c, id := x.id, r := x.r } := by
            have hn : evNeed x = { evZero with k := 6, c := x.c, id := x.id, r := x.r } := by unfold evNeed evWho; rw [if_neg (by omega), if_neg (by omega), if_neg (by omega), if_neg (by omega), if_pos hk, hk]
            rw [← hn]
            first | exact R3.out h16 rfl | exact R3.out h16 trivial
          subst r
          clear R1 R2 R3
          have d16 : decide (x.c < 16) = true := decide_eq_true h16
          go_wp2_with ((with_reducible apply wpList_load_evG); (first | exact rfl | exact wanted_dec h16 rfl); exact rfl; assumption; exact rfl)
          refine (refSame5_any wr x { evZero with k := 6, c := x.c, id := x.id, r := x.r } tx rd (.slice none 0 0) rd (HT.out.new HK2.out hN) (⟨Mics.nil N _, (HT.out.new HK2.out hN).r⟩) (Nat.le_trans hN hsz2) (Nat.le_trans hN hsz2)).mono ?_; rintro z wz ⟨rfl, hkz⟩
          have HKZ := Lib.hid (HK2.out.trans hkz (FSub.refl _ _))
          clear hkz
          go_wp2_with fail
          go_ret
          exact ⟨rfl, HKZ.out⟩
        · have r : R = false := R1.out (by first | exact h16 | omega)
          subst r
          clear R1 R2 R3
          go_wp2_with fail
          go_ret
          exact ⟨rfl, HK2.out⟩
  · have hF : listsGood x.r = false := by unfold listsGood; rw [decide_eq_false hl]; rfl
    have r : R = false := R2.out hF
    subst r
    clear R1 R2 R3 HH
    have e2 : 8 < (x.r.length : Int) := by omega
    go_wp2_with fail
    go_ret
    exact ⟨rfl, HK2.out⟩
end Go.Proofs.YtffldnjjijckcaaGreatDoor
/-
  The document's May. (Printed by draft/genmay5.py.)
-/
namespace Go.Proofs.YtffldnjjijckcaaGreatDoor
open Go.RowKit
theorem refMay5_any (w : World) (x : Ev) (hx : x.In) {N : Nat} (tx rd : Value) (ht : EvAt N w tx rd x) (hN : N ≤ w.heap.size) :
    Calls Tryz.prog 22 #[.agg (evC x tx rd)] w fun e w' => e = .returned (.bool (evGood x)) ∧ Keeps [] w w' := by
  rcases bool_two (evKind x.k) with hk | hk
  · rcases kind_cases hk with h | h | h | h | h | h | h
    · exact May5_1 w x hx tx rd ht hN h
    · exact May5_2 w x hx tx rd ht hN h
    · exact May5_3 w x hx tx rd ht hN h
    · exact May5_4 w x hx tx rd ht hN h
    · exact May5_5 w x hx tx rd ht hN h
    · exact May5_6 w x hx tx rd ht hN h
    · exact May5_7 w x hx tx rd ht hN h
  · exact May5_none w x hx tx rd ht.t.one ht.r.one hk
end Go.Proofs.YtffldnjjijckcaaGreatDoor
