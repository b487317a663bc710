/-
  When two events are the same.
-/
import Derived.Test.YtffldnjjijckcaaGreatDoorR11
set_option linter.unusedSimpArgs false
set_option linter.unusedVariables false
namespace Go.Proofs.YtffldnjjijckcaaGreatDoor
open Go.RowKit
theorem ev_ext {a b : Ev} (h0 : a.k = b.k) (h1 : a.c = b.c) (h2 : a.id = b.id) (h3 : a.o.f = b.o.f) (h4 : a.o.o = b.o.o) (h5 : a.o.k = b.o.k) (h6 : a.o.a = b.o.a) (h7 : a.o.b = b.o.b) (h8 : a.rk = b.rk) (h9 : a.rv = b.rv) (h12 : a.g.m = b.g.m) (h13 : a.g.mo = b.g.mo) (h14 : a.g.ms = b.g.ms) (h15 : a.g.mt = b.g.mt) (h16 : a.g.p = b.g.p) (h17 : a.g.cu = b.g.cu) (h18 : a.g.me = b.g.me) (ht : a.t = b.t) (hr : a.r = b.r) : a = b := by
  obtain ⟨k, c, id, ⟨f, o, kk, m, n⟩, rk, rv, t, r, ⟨g0, g1, g2, g3, g4, g5, g6⟩⟩ := a
  obtain ⟨k', c', id', ⟨f', o', kk', m', n'⟩, rk', rv', t', r', ⟨g0', g1', g2', g3', g4', g5', g6'⟩⟩ := b
  simp only at *
  simp only [*]
set_option maxHeartbeats 8000000 in
set_option maxRecDepth 100000 in
theorem Same5_any (w : World) (a b : Ev) {N N' : Nat} (tx rd tx' rd' : Value) (ha : EvAt N w tx rd a) (hb : EvAt N' w tx' rd' b) (hN : N ≤ w.heap.size) (hN' : N' ≤ w.heap.size) :
    Calls Tryz.prog 45 #[.agg (evC a tx rd), .agg (evC b tx' rd')] w fun e w' => e = .returned (.bool (evSame a b)) ∧ Keeps [] w w' := by
  have hk0 : Keeps [] w ((w.alloc (.cells (evC a tx rd) 32)).alloc (.cells (evC b tx' rd') 32)) := ((Keeps.refl [] w).alloc _).alloc _
  have ha2 := ha.new hk0 hN
  have hb2 := hb.new hk0 hN'
  have hz0 : w.heap.size ≤ ((w.alloc (.cells (evC a tx rd) 32)).alloc (.cells (evC b tx' rd') 32)).heap.size := hk0.size
  have hmc := micsEqual_any _ tx tx' _ _ ha2.t hb2.t
  have HLC := Lib.hid (fun W (hk : Keeps [] w W) => listsEqual_any W rd rd' _ _ (ha.new hk hN).r (hb.new hk hN').r (Nat.le_trans hN hk.size) (Nat.le_trans hN' hk.size))
  have HK0 := Lib.hid hk0
  clear ha hb ha2 hb2 hk0 hz0
  generalize hR : evSame a b = R at *
  have HR := Lib.hid hR; clear hR
  have E0 := evC_0 a tx rd; have F0 := evC_0 b tx' rd'
  have E1 := evC_1 a tx rd; have F1 := evC_1 b tx' rd'
  have E2 := evC_2 a tx rd; have F2 := evC_2 b tx' rd'
  have E3 := evC_3 a tx rd; have F3 := evC_3 b tx' rd'
  have E4 := evC_4 a tx rd; have F4 := evC_4 b tx' rd'
  have E5 := evC_5 a tx rd; have F5 := evC_5 b tx' rd'
  have E6 := evC_6 a tx rd; have F6 := evC_6 b tx' rd'
  have E7 := evC_7 a tx rd; have F7 := evC_7 b tx' rd'
  have E8 := evC_8 a tx rd; have F8 := evC_8 b tx' rd'
  have E9 := evC_9 a tx rd; have F9 := evC_9 b tx' rd'
  have E12 := evC_12 a tx rd; have F12 := evC_12 b tx' rd'
  have E13 := evC_13 a tx rd; have F13 := evC_13 b tx' rd'
  have E14 := evC_14 a tx rd; have F14 := evC_14 b tx' rd'
  have E15 := evC_15 a tx rd; have F15 := evC_15 b tx' rd'
  have E16 := evC_16 a tx rd; have F16 := evC_16 b tx' rd'
  have E17 := evC_17 a tx rd; have F17 := evC_17 b tx' rd'
  have E18 := evC_18 a tx rd; have F18 := evC_18 b tx' rd'
  have E10 := evC_10 a tx rd; have F10 := evC_10 b tx' rd'
  have E11 := evC_11 a tx rd; have F11 := evC_11 b tx' rd'
  by_cases h0 : a.k = b.k
  · rw [← h0] at F0
    have H0 := Lib.hid h0; clear h0
    by_cases h1 : a.c = b.c
    · rw [← h1] at F1
      have H1 := Lib.hid h1; clear h1
      by_cases h2 : a.id = b.id
      · rw [← h2] at F2
        have H2 := Lib.hid h2; clear h2
        by_cases h3 : a.o.f = b.o.f
        · rw [← h3] at F3
          have H3 := Lib.hid h3; clear h3
          by_cases h4 : a.o.o = b.o.o
          · rw [← h4] at F4
            have H4 := Lib.hid h4; clear h4
            by_cases h5 : a.o.k = b.o.k
            · rw [← h5] at F5
              have H5 := Lib.hid h5; clear h5
              by_cases h6 : a.o.a = b.o.a
              · rw [← h6] at F6
                have H6 := Lib.hid h6; clear h6
                by_cases h7 : a.o.b = b.o.b
                · rw [← h7] at F7
                  have H7 := Lib.hid h7; clear h7
                  by_cases h8 : a.rk = b.rk
                  · rw [← h8] at F8
                    have H8 := Lib.hid h8; clear h8
                    by_cases h9 : a.rv = b.rv
                    · rw [← h9] at F9
                      have H9 := Lib.hid h9; clear h9
                      by_cases h12 : a.g.m = b.g.m
                      · rw [← h12] at F12
                        have H12 := Lib.hid h12; clear h12
                        by_cases h13 : a.g.mo = b.g.mo
                        · rw [← h13] at F13
                          have H13 := Lib.hid h13; clear h13
                          by_cases h14 : a.g.ms = b.g.ms
                          · rw [← h14] at F14
                            have H14 := Lib.hid h14; clear h14
                            by_cases h15 : a.g.mt = b.g.mt
                            · rw [← h15] at F15
                              have H15 := Lib.hid h15; clear h15
                              by_cases h16 : a.g.p = b.g.p
                              · rw [← h16] at F16
                                have H16 := Lib.hid h16; clear h16
                                by_cases h17 : a.g.cu = b.g.cu
                                · rw [← h17] at F17
                                  have H17 := Lib.hid h17; clear h17
                                  by_cases h18 : a.g.me = b.g.me
                                  · rw [← h18] at F18
                                    have H18 := Lib.hid h18; clear h18
                                    rcases bool_two (eqB a.t b.t) with ht | ht
                                    · rw [ht] at hmc
                                      rcases bool_two (eqB a.r b.r) with hr | hr
                                      · have hlc := HLC.out
                                        rw [hr] at hlc
                                        obtain rfl := HR.out.symm.trans ((eqB_iff a b).2 (ev_ext H0.out H1.out H2.out H3.out H4.out H5.out H6.out H7.out H8.out H9.out H12.out H13.out H14.out H15.out H16.out H17.out H18.out ((eqB_iff _ _).1 ht) ((eqB_iff _ _).1 hr)))
                                        clear HR HLC ht hr
                                        go_enter Tryz.func45, Tryz.ntmps45
                                        go_wp2_with fail
                                        refine hmc.mono ?_; rintro e w1 ⟨rfl, hk1⟩
                                        have hK1 := HK0.out.trans hk1 (FSub.refl _ _)
                                        have hX := hk1.heap (heap_alloc_lt (heap_alloc_new w _)) (by simp)
                                        have hY := hk1.heap (heap_alloc2_new w _ _) (by simp)
                                        have c11 := ev_cell hX 11 E11; have d11 := ev_cell hY 11 F11
                                        have hlc1 := hlc _ hK1
                                        clear hX hY hk1 hmc hlc HK0
                                        go_wp2_with fail
                                        refine hlc1.mono ?_; rintro e w2 ⟨rfl, hk2⟩
                                        go_wp2_with fail
                                        go_ret
                                        exact ⟨rfl, hK1.trans hk2 (FSub.refl _ _)⟩
                                      · have hlc := HLC.out
                                        rw [hr] at hlc
                                        obtain rfl := HR.out.symm.trans (eqB_no (fun e => by rw [e, (eqB_iff _ _).2 rfl] at hr; cases hr))
                                        clear HR HLC ht hr
                                        go_enter Tryz.func45, Tryz.ntmps45
                                        go_wp2_with fail
                                        refine hmc.mono ?_; rintro e w1 ⟨rfl, hk1⟩
                                        have hK1 := HK0.out.trans hk1 (FSub.refl _ _)
                                        have hX := hk1.heap (heap_alloc_lt (heap_alloc_new w _)) (by simp)
                                        have hY := hk1.heap (heap_alloc2_new w _ _) (by simp)
                                        have c11 := ev_cell hX 11 E11; have d11 := ev_cell hY 11 F11
                                        have hlc1 := hlc _ hK1
                                        clear hX hY hk1 hmc hlc HK0
                                        go_wp2_with fail
                                        refine hlc1.mono ?_; rintro e w2 ⟨rfl, hk2⟩
                                        go_wp2_with fail
                                        go_ret
                                        exact ⟨rfl, hK1.trans hk2 (FSub.refl _ _)⟩
                                    · rw [ht] at hmc
                                      obtain rfl := HR.out.symm.trans (eqB_no (fun e => by rw [e, (eqB_iff _ _).2 rfl] at ht; cases ht))
                                      clear HR HLC ht
                                      go_enter Tryz.func45, Tryz.ntmps45
                                      go_wp2_with fail
                                      refine hmc.mono ?_; rintro e w1 ⟨rfl, hk1⟩
                                      have hK1 := HK0.out.trans hk1 (FSub.refl _ _)
                                      clear hk1 hmc HK0
                                      go_wp2_with fail
                                      go_ret
                                      exact ⟨rfl, hK1⟩
                                  · obtain rfl := HR.out.symm.trans (eqB_no (fun e => h18 (by rw [e])))
                                    have t1 : (a.g.me == b.g.me) = false := by simpa using h18
                                    clear HR HLC hmc h18
                                    go_enter Tryz.func45, Tryz.ntmps45
                                    go_wp2_with fail
                                    go_ret
                                    exact ⟨rfl, HK0.out⟩
                                · obtain rfl := HR.out.symm.trans (eqB_no (fun e => h17 (by rw [e])))
                                  have t1 : (a.g.cu == b.g.cu) = false := by simpa using h17
                                  clear HR HLC hmc h17
                                  go_enter Tryz.func45, Tryz.ntmps45
                                  go_wp2_with fail
                                  go_ret
                                  exact ⟨rfl, HK0.out⟩
                              · obtain rfl := HR.out.symm.trans (eqB_no (fun e => h16 (by rw [e])))
                                have t1 : (a.g.p == b.g.p) = false := by simpa using h16
                                clear HR HLC hmc h16
                                go_enter Tryz.func45, Tryz.ntmps45
                                go_wp2_with fail
                                go_ret
                                exact ⟨rfl, HK0.out⟩
                            · obtain rfl := HR.out.symm.trans (eqB_no (fun e => h15 (by rw [e])))
                              have t1 : (a.g.mt == b.g.mt) = false := by simpa using h15
                              clear HR HLC hmc h15
                              go_enter Tryz.func45, Tryz.ntmps45
                              go_wp2_with fail
                              go_ret
                              exact ⟨rfl, HK0.out⟩
                          · obtain rfl := HR.out.symm.trans (eqB_no (fun e => h14 (by rw [e])))
                            have t1 : (a.g.ms == b.g.ms) = false := by simpa using h14
                            clear HR HLC hmc h14
                            go_enter Tryz.func45, Tryz.ntmps45
                            go_wp2_with fail
                            go_ret
                            exact ⟨rfl, HK0.out⟩
                        · obtain rfl := HR.out.symm.trans (eqB_no (fun e => h13 (by rw [e])))
                          have t1 : (a.g.mo == b.g.mo) = false := by simpa using h13
                          clear HR HLC hmc h13
                          go_enter Tryz.func45, Tryz.ntmps45
                          go_wp2_with fail
                          go_ret
                          exact ⟨rfl, HK0.out⟩
                      · obtain rfl := HR.out.symm.trans (eqB_no (fun e => h12 (by rw [e])))
                        have t1 : (a.g.m == b.g.m) = false := by simpa using h12
                        clear HR HLC hmc h12
                        go_enter Tryz.func45, Tryz.ntmps45
                        go_wp2_with fail
                        go_ret
                        exact ⟨rfl, HK0.out⟩
                    · obtain rfl := HR.out.symm.trans (eqB_no (fun e => h9 (by rw [e])))
                      have t1 : (a.rv == b.rv) = false := by simpa using h9
                      clear HR HLC hmc h9
                      go_enter Tryz.func45, Tryz.ntmps45
                      go_wp2_with fail
                      go_ret
                      exact ⟨rfl, HK0.out⟩
                  · obtain rfl := HR.out.symm.trans (eqB_no (fun e => h8 (by rw [e])))
                    have t1 : (a.rk == b.rk) = false := by simpa using h8
                    clear HR HLC hmc h8
                    go_enter Tryz.func45, Tryz.ntmps45
                    go_wp2_with fail
                    go_ret
                    exact ⟨rfl, HK0.out⟩
                · obtain rfl := HR.out.symm.trans (eqB_no (fun e => h7 (by rw [e])))
                  have t1 : (a.o.b == b.o.b) = false := by simpa using h7
                  clear HR HLC hmc h7
                  go_enter Tryz.func45, Tryz.ntmps45
                  go_wp2_with fail
                  go_ret
                  exact ⟨rfl, HK0.out⟩
              · obtain rfl := HR.out.symm.trans (eqB_no (fun e => h6 (by rw [e])))
                have t1 : (a.o.a == b.o.a) = false := by simpa using h6
                clear HR HLC hmc h6
                go_enter Tryz.func45, Tryz.ntmps45
                go_wp2_with fail
                go_ret
                exact ⟨rfl, HK0.out⟩
            · obtain rfl := HR.out.symm.trans (eqB_no (fun e => h5 (by rw [e])))
              have t1 : (a.o.k == b.o.k) = false := by simpa using h5
              clear HR HLC hmc h5
              go_enter Tryz.func45, Tryz.ntmps45
              go_wp2_with fail
              go_ret
              exact ⟨rfl, HK0.out⟩
          · obtain rfl := HR.out.symm.trans (eqB_no (fun e => h4 (by rw [e])))
            have t1 : (a.o.o == b.o.o) = false := by simpa using h4
            clear HR HLC hmc h4
            go_enter Tryz.func45, Tryz.ntmps45
            go_wp2_with fail
            go_ret
            exact ⟨rfl, HK0.out⟩
        · obtain rfl := HR.out.symm.trans (eqB_no (fun e => h3 (by rw [e])))
          have t1 : (a.o.f == b.o.f) = false := by simpa using h3
          clear HR HLC hmc h3
          go_enter Tryz.func45, Tryz.ntmps45
          go_wp2_with fail
          go_ret
          exact ⟨rfl, HK0.out⟩
      · obtain rfl := HR.out.symm.trans (eqB_no (fun e => h2 (by rw [e])))
        have t1 : (a.id == b.id) = false := by simpa using h2
        clear HR HLC hmc h2
        go_enter Tryz.func45, Tryz.ntmps45
        go_wp2_with fail
        go_ret
        exact ⟨rfl, HK0.out⟩
    · obtain rfl := HR.out.symm.trans (eqB_no (fun e => h1 (by rw [e])))
      have t1 : (a.c == b.c) = false := by simpa using h1
      clear HR HLC hmc h1
      go_enter Tryz.func45, Tryz.ntmps45
      go_wp2_with fail
      go_ret
      exact ⟨rfl, HK0.out⟩
  · obtain rfl := HR.out.symm.trans (eqB_no (fun e => h0 (by rw [e])))
    have t1 : (a.k == b.k) = false := by simpa using h0
    clear HR HLC hmc h0
    go_enter Tryz.func45, Tryz.ntmps45
    go_wp2_with fail
    go_ret
    exact ⟨rfl, HK0.out⟩
end Go.Proofs.YtffldnjjijckcaaGreatDoor
