/-
  TableOrder: its walk.
-/
import Derived.Laws.BitsLemmas
import Derived.Test.YtjiglbjpmclncaaO13
import Derived.Test.YtjiglbjpmclncaaO12
set_option linter.unusedSimpArgs false
set_option linter.unusedVariables false
namespace Go.Proofs.Ytjiglbjpmclncaa
open Go.RowKit Go.Maps
theorem and3 (a : Int) : 0 ≤ bits .and .i64 a 3 ∧ bits .and .i64 a 3 ≤ 3 := by
  have h : (BitVec.ofInt 64 a).toNat &&& (BitVec.ofInt 64 3).toNat ≤ 3 := Nat.and_le_right
  have e : bits .and .i64 a 3 = IntKind.i64.wrap (((BitVec.ofInt 64 a).toNat &&& (BitVec.ofInt 64 3).toNat : Nat) : Int) := by
    simp only [bits, BitVec.toNat_and]; rfl
  rw [e, IntKind.wrap_i64]
  omega
theorem yields_sub {ops : Array Oper} {S : World → Prop} {o : Oper} {a : Act} (hw : Region.wanted o (yielded ops a.tmps) = true) (x y : Operand) (ho : o.op = .binOp .sub 3 x y 3) (p q r : Int) (hx : a.eval x = .int .i64 p) (hy : a.eval y = .int .i64 q) (hr : p - q = r) (h0 : 0 ≤ r) (h1 : r < 9223372036854775808) : YieldsIf Try.prog ops S o (.int .i64 r) a :=
  Or.inl ⟨hw, by
    intro w _
    unfold execOp
    simp only [ho, hx, hy]
    have hwr : IntKind.i64.wrap (p - q) = r := by rw [hr, IntKind.wrap_i64]; omega
    have hwr2 : wrap64 (p - q) = r := by rw [hr]; unfold wrap64; omega
    clear hr
    go_simp⟩
theorem yields_index {ops : Array Oper} {S : World → Prop} {o : Oper} {a : Act} (hw : Region.wanted o (yielded ops a.tmps) = true) (x y : Operand) (ho : o.op = .indexAddr 49 x y) (g n c k : Nat) (hx : a.eval x = .slice (some ⟨g, 0, none⟩) n c) (hy : a.eval y = .int .i64 k) (hk : k < n) : YieldsIf Try.prog ops S o (.pointer (some ⟨g, k * 12, none⟩)) a :=
  Or.inl ⟨hw, by
    have hk2 : (k : Int) < n := by omega
    intro w _
    unfold execOp
    simp only [ho, hx, hy]
    go_simp⟩
theorem yields_leqF {ops : Array Oper} {S : World → Prop} {o : Oper} {a : Act} (hw : Region.wanted o (yielded ops a.tmps) = true) (x y : Operand) (ho : o.op = .binOp .leq 3 x y 3) (p q : Int) (hx : a.eval x = .int .i64 p) (hy : a.eval y = .int .i64 q) (hr : q < p) : YieldsIf Try.prog ops S o (.bool false) a :=
  Or.inl ⟨hw, by
    have h2 : ¬ p ≤ q := by omega
    intro w _
    unfold execOp
    simp only [ho, hx, hy]
    go_simp
    try simp [h2]⟩
theorem bf_of {x y : Rw} {v : Bool} (w : World) (h : rwBefore x y = v) : Calls Try.prog 22 #[.agg (rwC x).toArray, .agg (rwC y).toArray] w fun e w' => e = .returned (.bool v) ∧ Keeps [] w w' := h ▸ tbBefore_any w x y
theorem range_row {w : World} {b : Nat} {T : TypeId} {r : Rw} (h : w.heap[b]? = some (.cells (rwC r).toArray T (0, 0))) : w.rangeAt b 0 (rwC r) := fun i u hi => by rw [Nat.zero_add]; exact rw_cell h i hi
theorem idx_of {z : Int} {n : Nat} (h0 : 0 ≤ z) (hn : 0 < n) : ∃ i : Nat, z.tmod n = i ∧ i < n := by
  have h1 : 0 ≤ z.tmod n := Int.tmod_nonneg _ h0
  have h2 : z.tmod n < n := Int.tmod_lt_of_pos _ (by omega)
  exact ⟨(z.tmod n).toNat, by omega, by omega⟩
theorem run_alloc_rowP (w : World) : (Instr.alloc 42 true (.tuple #[])).run Try.prog w = .ok (.pointer (some ⟨w.heap.size, 0, none⟩)) (w.alloc (.cells (rwC rwZero).toArray 42)) := by kernel_rfl
theorem wp_alloc_rowP {Q : Exit → Act → World → Prop} (o : Oper) (a : Act) (w : World) (K : Act → World → Prop) (ho : o.op = .alloc 42) (h : K (a.put o.dst (.pointer (some ⟨w.heap.size, 0, none⟩))) (w.alloc (.cells (rwC rwZero).toArray 42))) : o.wp Try.prog a w K Q := by
  unfold Oper.wp execOp
  simp only [ho, Sem.run_bind, run_alloc_rowP, Result.andThen_ok, Sem.run_pure]
  exact h
set_option maxHeartbeats 8000000
set_option maxRecDepth 100000
theorem TableOrder_any (w : World) {N : Nat} {v : Value} {L : List Ac} (hv : kAc.In N w v L) (hN : N ≤ w.heap.size) (hin : ∀ x ∈ L, x.In) (z0 z1 z2 z3 : Int) (b0 : 0 ≤ z0 ∧ z0 < 256) (b1 : 0 ≤ z1 ∧ z1 < 256) (b2 : 0 ≤ z2 ∧ z2 < 256) (b3 : 0 ≤ z3 ∧ z3 < 256) :
    Calls Try.prog 4 #[v, .agg #[.int .u8 z0, .int .u8 z1, .int .u8 z2, .int .u8 z3]] w fun e w' => e = .returned (.bool true) ∧ Keeps [] w w' := by
  have HV := Lib.hid hv; have HIN := Lib.hid hin
  obtain ⟨a0, n0, rfl, hn, hm, -⟩ := hv
  clear hin
  have HK0 := Lib.hid ((Keeps.refl [] w).alloc (.cells #[.int .u8 z0, .int .u8 z1, .int .u8 z2, .int .u8 z3] 57))
  have HB0 := Lib.hid (heap_alloc_new w (.cells #[.int .u8 z0, .int .u8 z1, .int .u8 z2, .int .u8 z3] 57))
  by_cases hlen : 60 < L.length
  · have hlen2 : (60 : Int) < L.length := by omega
    have HW := Lib.hid (works_true (w.alloc (.cells #[.int .u8 z0, .int .u8 z1, .int .u8 z2, .int .u8 z3] 57)))
    go_enter Try.func4, Try.ntmps4
    go_wp2_with fail
    generalize w.alloc _ = W0 at *
    refine (HW.out).mono ?_; rintro e w1 ⟨rfl, hk⟩
    have HK := Lib.hid (HK0.out.trans hk (FSub.refl _ _))
    clear hk HW
    go_wp2_with fail
    go_ret
    exact ⟨rfl, HK.out⟩
  · have hlen2 : (L.length : Int) ≤ 60 := by omega
    have HLEN := Lib.hid (show L.length ≤ 60 by omega)
    clear hlen
    go_enter Try.func4, Try.ntmps4
    go_wp2_with fail
    generalize w.alloc _ = W0 at *
    generalize hA4 : w.heap.size = A4 at *
    have HA4 := Lib.hid hA4
    clear hA4
    refine (tabP.new (N := 0) (w := W0) trivial (Nat.zero_le _)).mono ?_; rintro e w1 ⟨p, O, rfl, hP, hk1, hO⟩
    have HY := Lib.hid (show Way tabP.toPTab W0 w1 p O tbNew from ⟨hP, hk1, hO⟩)
    obtain ⟨b, rfl⟩ := tabP.ptr hP
    clear hP hk1 hO
    go_wp2_with fail
    go_loopw [6, 7, 8, 43, 53] (fun now i _ _ _ wr => ∃ (k : Nat) (t : Tb) (O : List Nat) (T : Int), i = .int .i64 k ∧ now = .int .i64 T ∧ k ≤ L.length ∧ 0 ≤ T ∧ T ≤ 4 * k ∧ t.L.length ≤ k ∧ TbOk t ∧ Way tabP.toPTab W0 wr (.pointer (some ⟨b, 0, none⟩)) O t) (fun _ i _ _ _ _ => L.length - (intOf i).toNat)
    case atStart => exact ⟨0, tbNew, O, 0, rfl, rfl, by omega, by omega, by omega, by simp [tbNew], TbOk.new, HY.out⟩
    case round =>
      obtain ⟨k, t, O, T, rfl, rfl, hk, hT0, hT1, htl, hok, hway⟩ := hrel
      have HD := Lib.hid hway; have HOK := Lib.hid hok
      clear hway hok
      by_cases hlt : k < L.length
      · have hlt2 : (k : Int) < L.length := by omega
        have hx := HIN.out _ (List.getElem_mem hlt)
        obtain ⟨bk, o, rfl, hbN, hrow⟩ := kAc_at HV.out k hlt
        have HRW := Lib.hid (show wr.rangeAt bk (o + k * 11) (acC L[k]) from fun i u hi => HD.out.k.cell (HK0.out.cell (hrow i u hi) (by simp)) (by simp))
        have HX := Lib.hid hx
        clear hrow hx
        generalize L[k] = x at *
        have HAZ := Lib.hid (heap_alloc_new wr (.cells (acC acZero).toArray 34))
        have HKA := Lib.hid ((Keeps.refl [] wr).alloc (.cells (acC acZero).toArray 34))
        go_wp2_with (first
          | ((with_reducible refine wpList_loadA (g := bk) (off := o + k * 11) (y := x) rfl ?_ HRW.out ?_); exact rfl)
          | ((with_reducible refine wpList_putA (old := acZero) (r := x) ?_ ?_ HAZ.out ?_); exact rfl; exact rfl))
        intro W hW hkW
        have hkV := HKA.out.trans hkW (fun q hq => .inr (by simp at hq; omega))
        have HD1 := Lib.hid (show Way tabP.toPTab W0 W (.pointer (some ⟨b, 0, none⟩)) O t from ⟨tabP.keeps HD.out.at_ hkV (by simp), HD.out.k.trans hkV (FSub.refl _ _), HD.out.o⟩)
        have HAC := Lib.hid (ac_cells hW)
        have HNB := Lib.hid (show wr.heap.size ∉ O from fun hq => by have := tabP.below HD.out.at_ _ hq; omega)
        clear hW hkW hkV HKA HAZ HRW HD hbN
        generalize wr.heap.size = B at *
        have hl1 : t.L.length ≤ 1000 := by have := HLEN.out; omega
        have hT2 : T ≤ 240 := by have := HLEN.out; omega
        have hm9 : x.k.tmod 9 = x.k % 9 := Int.tmod_eq_emod_of_nonneg HX.out.k.1
        have c0 := HAC.out 0 _ (show (acC x)[0]? = some (.int .u8 x.k) from rfl)
        have c1 := HAC.out 1 _ (show (acC x)[1]? = some (.int .u8 x.c) from rfl); have c2 := HAC.out 2 _ (show (acC x)[2]? = some (.int .u16 x.id) from rfl); have c3 := HAC.out 3 _ (show (acC x)[3]? = some (.int .u8 x.o.f) from rfl); have c4 := HAC.out 4 _ (show (acC x)[4]? = some (.int .u8 x.o.o) from rfl); have c5 := HAC.out 5 _ (show (acC x)[5]? = some (.int .u8 x.o.k) from rfl); have c6 := HAC.out 6 _ (show (acC x)[6]? = some (.int .u16 x.o.a) from rfl); have c7 := HAC.out 7 _ (show (acC x)[7]? = some (.int .u16 x.o.b) from rfl)
        have c8 := HAC.out 8 _ (show (acC x)[8]? = some (.int .u8 x.rk) from rfl); have c9 := HAC.out 9 _ (show (acC x)[9]? = some (.int .u16 x.rv) from rfl)
        by_cases h3 : x.k.tmod 9 = 3
        · have t3 : (x.k.tmod 9 == 3) = true := by simpa using h3
          have HC := Lib.hid (tabP.ret HD1.out.at_ HOK.out hl1 x.id x.rk x.rv T HX.out.id.1 HX.out.id.2 HX.out.rk.1 HX.out.rk.2 HX.out.rv.1 HX.out.rv.2 (by omega) (by omega))
          clear h3 hm9
          go_wp2_with fail
          refine (HC.out).mono ?_; rintro e w5 hp
          clear c0 c1 c2 c3 c4 c5 c6 c7 c8 c9 t3
          obtain ⟨rfl, O2, hY2, hk2, -⟩ := HD1.out.next hp
          have c10 := hk2.cell (HAC.out 10 _ (show (acC x)[10]? = some (.int .i64 x.at_) from rfl)) HNB.out
          have HY2 := Lib.hid hY2
          have HL2 := Lib.hid (show (tbEnd t x.id true x.rk x.rv T).2.L.length ≤ k + 1 by rw [tbEnd_len]; omega)
          have HK2 := Lib.hid (HOK.out.end_ (id := x.id) (at_ := T) (done := true) HX.out.rk HX.out.rv)
          clear hp HC hY2 hk2
          go_wp2_with fail
          go_roundw
          case rel =>
            have hb := and3 x.at_
            have hw : wrap64 (T + 1 + bits BinOp.and IntKind.i64 x.at_ 3) = T + 1 + bits BinOp.and IntKind.i64 x.at_ 3 := by unfold wrap64; omega
            exact ⟨k + 1, _, O2, wrap64 (T + 1 + bits BinOp.and IntKind.i64 x.at_ 3), by go_num, rfl, by omega, by rw [hw]; omega, by rw [hw]; push_cast; omega, HL2.out, HK2.out, HY2.out⟩
          case measure => simp [intOf]; omega
        · have t3 : (x.k.tmod 9 == 3) = false := by simpa using h3
          by_cases h4 : x.k.tmod 9 = 4
          · have t4 : (x.k.tmod 9 == 4) = true := by simpa using h4
            have HC := Lib.hid (tabP.ret HD1.out.at_ HOK.out hl1 x.id x.rk x.rv T HX.out.id.1 HX.out.id.2 HX.out.rk.1 HX.out.rk.2 HX.out.rv.1 HX.out.rv.2 (by omega) (by omega))
            clear h3 h4 hm9
            go_wp2_with fail
            refine (HC.out).mono ?_; rintro e w5 hp
            clear c0 c1 c2 c3 c4 c5 c6 c7 c8 c9 t3 t4
            obtain ⟨rfl, O2, hY2, hk2, -⟩ := HD1.out.next hp
            have c10 := hk2.cell (HAC.out 10 _ (show (acC x)[10]? = some (.int .i64 x.at_) from rfl)) HNB.out
            have HY2 := Lib.hid hY2
            have HL2 := Lib.hid (show (tbEnd t x.id true x.rk x.rv T).2.L.length ≤ k + 1 by rw [tbEnd_len]; omega)
            have HK2 := Lib.hid (HOK.out.end_ (id := x.id) (at_ := T) (done := true) HX.out.rk HX.out.rv)
            clear hp HC hY2 hk2
            go_wp2_with fail
            go_roundw
            case rel =>
              have hb := and3 x.at_
              have hw : wrap64 (T + 1 + bits BinOp.and IntKind.i64 x.at_ 3) = T + 1 + bits BinOp.and IntKind.i64 x.at_ 3 := by unfold wrap64; omega
              exact ⟨k + 1, _, O2, wrap64 (T + 1 + bits BinOp.and IntKind.i64 x.at_ 3), by go_num, rfl, by omega, by rw [hw]; omega, by rw [hw]; push_cast; omega, HL2.out, HK2.out, HY2.out⟩
            case measure => simp [intOf]; omega
          · have t4 : (x.k.tmod 9 == 4) = false := by simpa using h4
            by_cases h5 : x.k.tmod 9 = 5
            · have t5 : (x.k.tmod 9 == 5) = true := by simpa using h5
              have HC := Lib.hid (tabP.info HD1.out.at_ HOK.out hl1 x.id T HX.out.id.1 HX.out.id.2 (by omega) (by omega))
              clear h3 h4 h5 hm9
              go_wp2_with fail
              refine (HC.out).mono ?_; rintro e w5 hp
              clear c0 c1 c2 c3 c4 c5 c6 c7 c8 c9 t3 t4 t5
              obtain ⟨rfl, O2, hY2, hk2, -⟩ := HD1.out.next hp
              have c10 := hk2.cell (HAC.out 10 _ (show (acC x)[10]? = some (.int .i64 x.at_) from rfl)) HNB.out
              have HY2 := Lib.hid hY2
              have HL2 := Lib.hid (show (tbEnd t x.id false 0 0 T).2.L.length ≤ k + 1 by rw [tbEnd_len]; omega)
              have HK2 := Lib.hid (HOK.out.end_ (id := x.id) (at_ := T) (done := false) (rk := 0) (rv := 0) (by decide) (by decide))
              clear hp HC hY2 hk2
              go_wp2_with fail
              go_roundw
              case rel =>
                have hb := and3 x.at_
                have hw : wrap64 (T + 1 + bits BinOp.and IntKind.i64 x.at_ 3) = T + 1 + bits BinOp.and IntKind.i64 x.at_ 3 := by unfold wrap64; omega
                exact ⟨k + 1, _, O2, wrap64 (T + 1 + bits BinOp.and IntKind.i64 x.at_ 3), by go_num, rfl, by omega, by rw [hw]; omega, by rw [hw]; push_cast; omega, HL2.out, HK2.out, HY2.out⟩
              case measure => simp [intOf]; omega
            · have t5 : (x.k.tmod 9 == 5) = false := by simpa using h5
              have HC := Lib.hid (tabP.inv HD1.out.at_ HOK.out hl1 x.c x.id x.o T HX.out.c.1 HX.out.c.2 HX.out.id.1 HX.out.id.2 HX.out.o (by omega) (by omega))
              clear h3 h4 h5 hm9
              go_wp2_with fail
              refine (HC.out).mono ?_; rintro e w5 hp
              clear c0 c1 c2 c3 c4 c5 c6 c7 c8 c9 t3 t4 t5
              obtain ⟨rfl, O2, hY2, hk2, -⟩ := HD1.out.next hp
              have c10 := hk2.cell (HAC.out 10 _ (show (acC x)[10]? = some (.int .i64 x.at_) from rfl)) HNB.out
              have HY2 := Lib.hid hY2
              have HL2 := Lib.hid (show (tbInv t x.c x.id x.o T).2.L.length ≤ k + 1 from Nat.le_trans (tbInv_len t x.c x.id T x.o) (by omega))
              have HK2 := Lib.hid (HOK.out.inv (at_ := T) HX.out.c HX.out.id HX.out.o)
              clear hp HC hY2 hk2
              go_wp2_with fail
              go_roundw
              case rel =>
                have hb := and3 x.at_
                have hw : wrap64 (T + 1 + bits BinOp.and IntKind.i64 x.at_ 3) = T + 1 + bits BinOp.and IntKind.i64 x.at_ 3 := by unfold wrap64; omega
                exact ⟨k + 1, _, O2, wrap64 (T + 1 + bits BinOp.and IntKind.i64 x.at_ 3), by go_num, rfl, by omega, by rw [hw]; omega, by rw [hw]; push_cast; omega, HL2.out, HK2.out, HY2.out⟩
              case measure => simp [intOf]; omega
      · obtain rfl : k = L.length := by omega
        have hl1 : t.L.length ≤ 1000 := by omega
        have HR := Lib.hid (tabP.rows HD.out.at_ HOK.out hl1)
        clear hk hlt
        go_wp2_with fail
        refine (HR.out).mono ?_; rintro e y0 ⟨lv, rfl, hrow, hk0⟩
        have HKW := Lib.hid ((HK0.out.trans HD.out.k (FSub.refl _ _)).trans hk0 (FSub.refl _ _))
        have HB1 := Lib.hid ((HD.out.k.trans hk0 (FSub.refl _ _)).heap HB0.out (by simp))
        have HLV := Lib.hid hrow
        obtain ⟨la, lc, rfl, hlc, hlm⟩ := hrow.shape
        clear HR HD HB0 HK0 hrow hk0
        generalize hNN : t.L.length = n at *
        have HNN := Lib.hid hNN
        clear hNN
        by_cases hn0 : n = 0
        · subst hn0
          have HW := Lib.hid (works_true y0)
          go_wp2_with fail
          refine (HW.out).mono ?_; rintro e y1 ⟨rfl, hk⟩
          have HK := Lib.hid (HKW.out.trans hk (FSub.refl _ _))
          clear hk HW
          go_wp2_with fail
          go_ret
          exact ⟨rfl, HK.out⟩
        · have tn : ((n : Int) == 0) = false := by simp; omega
          have hn1 : ¬ (n : Int) = 0 := by omega
          go_wp2_with fail
          have hnp : 0 < n := by omega
          obtain ⟨i0, e0, l0⟩ := idx_of b0.1 hnp
          obtain ⟨i1, e1, l1⟩ := idx_of b1.1 hnp
          obtain ⟨i2, e2, l2⟩ := idx_of b2.1 hnp
          obtain ⟨i3, e3, l3⟩ := idx_of b3.1 hnp
          have j0 : i0 < t.L.length := by have := HNN.out; omega
          have j1 : i1 < t.L.length := by have := HNN.out; omega
          have j2 : i2 < t.L.length := by have := HNN.out; omega
          have j3 : i3 < t.L.length := by have := HNN.out; omega
          obtain ⟨g, cap, hg, -, -, -, hgl, hrow⟩ := HLV.out.at (fun e => by rw [e] at j0; simp at j0)
          simp only [Value.slice.injEq] at hg
          obtain ⟨rfl, -, rfl⟩ := hg
          have HR0 := Lib.hid (show y0.rangeAt g (i0 * 12) (rwC t.L[i0]) from hrow i0 j0)
          have HR1 := Lib.hid (show y0.rangeAt g (i1 * 12) (rwC t.L[i1]) from hrow i1 j1)
          have HR2 := Lib.hid (show y0.rangeAt g (i2 * 12) (rwC t.L[i2]) from hrow i2 j2)
          have HR3 := Lib.hid (show y0.rangeAt g (i3 * 12) (rwC t.L[i3]) from hrow i3 j3)
          have HO0 := Lib.hid (HOK.out.rows _ (List.getElem_mem j0)); have HO1 := Lib.hid (HOK.out.rows _ (List.getElem_mem j1)); have HO2 := Lib.hid (HOK.out.rows _ (List.getElem_mem j2)); have HO3 := Lib.hid (HOK.out.rows _ (List.getElem_mem j3))
          clear hrow
          generalize t.L[i0] = r0 at *
          generalize t.L[i1] = r1 at *
          generalize t.L[i2] = r2 at *
          generalize t.L[i3] = r3 at *
          obtain ⟨S, hS⟩ : ∃ S : World → Prop, S = fun z => Keeps [] y0 z := ⟨_, rfl⟩
          have HSE := Lib.hid hS
          have hSD : S y0.drew := by rw [hS]; exact (Keeps.refl _ _).drew
          have HS0 := Lib.hid (fun (w' : World) (h : S w') => show w'.rangeAt g (i0 * 12) (rwC r0) from by rw [hS] at h; exact fun q u hq => h.cell (HR0.out q u hq) (by simp))
          have HS1 := Lib.hid (fun (w' : World) (h : S w') => show w'.rangeAt g (i1 * 12) (rwC r1) from by rw [hS] at h; exact fun q u hq => h.cell (HR1.out q u hq) (by simp))
          have HS2 := Lib.hid (fun (w' : World) (h : S w') => show w'.rangeAt g (i2 * 12) (rwC r2) from by rw [hS] at h; exact fun q u hq => h.cell (HR2.out q u hq) (by simp))
          have HS3 := Lib.hid (fun (w' : World) (h : S w') => show w'.rangeAt g (i3 * 12) (rwC r3) from by rw [hS] at h; exact fun q u hq => h.cell (HR3.out q u hq) (by simp))
          have HA0 := Lib.hid (fun (w' : World) (h : S w') => show w'.cell? ⟨A4, 0, none⟩ = some (.int .u8 z0) from by rw [hS] at h; exact h.cell (cell_lit HB1.out 0 rfl) (by simp))
          have HA1 := Lib.hid (fun (w' : World) (h : S w') => show w'.cell? ⟨A4, 1, none⟩ = some (.int .u8 z1) from by rw [hS] at h; exact h.cell (cell_lit HB1.out 1 rfl) (by simp))
          have HA2 := Lib.hid (fun (w' : World) (h : S w') => show w'.cell? ⟨A4, 2, none⟩ = some (.int .u8 z2) from by rw [hS] at h; exact h.cell (cell_lit HB1.out 2 rfl) (by simp))
          have HA3 := Lib.hid (fun (w' : World) (h : S w') => show w'.cell? ⟨A4, 3, none⟩ = some (.int .u8 z3) from by rw [hS] at h; exact h.cell (cell_lit HB1.out 3 rfl) (by simp))
          have k0 : (0 : Int) ≤ i0 ∧ (i0 : Int) < n := by omega
          have k1 : (0 : Int) ≤ i1 ∧ (i1 : Int) < n := by omega
          have k2 : (0 : Int) ≤ i2 ∧ (i2 : Int) < n := by omega
          have k3 : (0 : Int) ≤ i3 ∧ (i3 : Int) < n := by omega
          have f0 : IntKind.i64.wrap z0 = z0 := by rw [IntKind.wrap_i64]; omega
          have f1 : IntKind.i64.wrap z1 = z1 := by rw [IntKind.wrap_i64]; omega
          have f2 : IntKind.i64.wrap z2 = z2 := by rw [IntKind.wrap_i64]; omega
          have f3 : IntKind.i64.wrap z3 = z3 := by rw [IntKind.wrap_i64]; omega
          clear hS j0 j1 j2 j3
          refine wp_region_noPanic ?_
          refine wp_region_held_drew (S := S) (by kernel_rfl) hSD (fun hHeld => ?_)
          apply wpAnyH_take (i := 0)
          · simp only [List.getElem?_toArray]; rfl
          · kernel_rfl
          · kernel_rfl
          · kernel_rfl
          · exact fun _ _ _ h => h
          · exact Or.inl ⟨by rfl, by intro w hSw; go_simp; try with_reducible rfl⟩
          · assumption
          try simp only [Act.put, List.setIfInBounds_toArray, List.set_cons_zero, List.set_cons_succ]
          apply wpAnyH_take (i := 1)
          · simp only [List.getElem?_toArray]; rfl
          · kernel_rfl
          · kernel_rfl
          · kernel_rfl
          · exact fun _ _ _ h => h
          · exact Or.inl ⟨by rfl, by intro w hSw; go_simp; try with_reducible rfl⟩
          · assumption
          try simp only [Act.put, List.setIfInBounds_toArray, List.set_cons_zero, List.set_cons_succ]
          apply wpAnyH_take (i := 2)
          · simp only [List.getElem?_toArray]; rfl
          · kernel_rfl
          · kernel_rfl
          · kernel_rfl
          · exact fun _ _ _ h => h
          · exact Or.inl ⟨by rfl, by intro w hSw; have q0 := HA0.out w hSw; go_simp; try with_reducible rfl⟩
          · assumption
          try simp only [Act.put, List.setIfInBounds_toArray, List.set_cons_zero, List.set_cons_succ]
          apply wpAnyH_take (i := 3)
          · simp only [List.getElem?_toArray]; rfl
          · kernel_rfl
          · kernel_rfl
          · kernel_rfl
          · exact fun _ _ _ h => h
          · exact Or.inl ⟨by rfl, by intro w hSw; go_simp; try with_reducible rfl⟩
          · assumption
          try simp only [Act.put, List.setIfInBounds_toArray, List.set_cons_zero, List.set_cons_succ]
          apply wpAnyH_take (i := 4)
          · simp only [List.getElem?_toArray]; rfl
          · kernel_rfl
          · kernel_rfl
          · kernel_rfl
          · exact fun _ _ _ h => h
          · exact Or.inl ⟨by rfl, by intro w hSw; go_simp; try with_reducible rfl⟩
          · assumption
          try simp only [Act.put, List.setIfInBounds_toArray, List.set_cons_zero, List.set_cons_succ]
          apply wpAnyH_take (i := 5)
          · simp only [List.getElem?_toArray]; rfl
          · kernel_rfl
          · kernel_rfl
          · kernel_rfl
          · exact fun _ _ _ h => h
          · exact Or.inl ⟨by rfl, by intro w hSw; go_simp; try with_reducible rfl⟩
          · assumption
          try simp only [Act.put, List.setIfInBounds_toArray, List.set_cons_zero, List.set_cons_succ]
          apply wpAnyH_take (i := 6)
          · simp only [List.getElem?_toArray]; rfl
          · kernel_rfl
          · kernel_rfl
          · kernel_rfl
          · exact fun _ _ _ h => h
          · exact Or.inl ⟨by rfl, by intro w hSw; go_simp; try with_reducible rfl⟩
          · assumption
          try simp only [Act.put, List.setIfInBounds_toArray, List.set_cons_zero, List.set_cons_succ]
          apply wpAnyH_take (i := 7)
          · simp only [List.getElem?_toArray]; rfl
          · kernel_rfl
          · kernel_rfl
          · kernel_rfl
          · exact fun _ _ _ h => h
          · exact yields_rowP r0 (by rfl) _ rfl g (i0 * 12) rfl HS0.out
          · assumption
          try simp only [Act.put, List.setIfInBounds_toArray, List.set_cons_zero, List.set_cons_succ]
          apply wpAnyH_take (i := 8)
          · simp only [List.getElem?_toArray]; rfl
          · kernel_rfl
          · kernel_rfl
          · kernel_rfl
          · exact fun _ _ _ h => h
          · exact Or.inl ⟨by rfl, by intro w hSw; go_simp; try with_reducible rfl⟩
          · assumption
          try simp only [Act.put, List.setIfInBounds_toArray, List.set_cons_zero, List.set_cons_succ]
          apply wpAnyH_take (i := 9)
          · simp only [List.getElem?_toArray]; rfl
          · kernel_rfl
          · kernel_rfl
          · kernel_rfl
          · exact fun _ _ _ h => h
          · exact Or.inl ⟨by rfl, by intro w hSw; go_simp; try with_reducible rfl⟩
          · assumption
          try simp only [Act.put, List.setIfInBounds_toArray, List.set_cons_zero, List.set_cons_succ]
          apply wpAnyH_take (i := 10)
          · simp only [List.getElem?_toArray]; rfl
          · kernel_rfl
          · kernel_rfl
          · kernel_rfl
          · exact fun _ _ _ h => h
          · exact Or.inl ⟨by rfl, by intro w hSw; have q0 := HA1.out w hSw; go_simp; try with_reducible rfl⟩
          · assumption
          try simp only [Act.put, List.setIfInBounds_toArray, List.set_cons_zero, List.set_cons_succ]
          apply wpAnyH_take (i := 11)
          · simp only [List.getElem?_toArray]; rfl
          · kernel_rfl
          · kernel_rfl
          · kernel_rfl
          · exact fun _ _ _ h => h
          · exact Or.inl ⟨by rfl, by intro w hSw; go_simp; try with_reducible rfl⟩
          · assumption
          try simp only [Act.put, List.setIfInBounds_toArray, List.set_cons_zero, List.set_cons_succ]
          apply wpAnyH_take (i := 12)
          · simp only [List.getElem?_toArray]; rfl
          · kernel_rfl
          · kernel_rfl
          · kernel_rfl
          · exact fun _ _ _ h => h
          · exact Or.inl ⟨by rfl, by intro w hSw; go_simp; try with_reducible rfl⟩
          · assumption
          try simp only [Act.put, List.setIfInBounds_toArray, List.set_cons_zero, List.set_cons_succ]
          apply wpAnyH_take (i := 13)
          · simp only [List.getElem?_toArray]; rfl
          · kernel_rfl
          · kernel_rfl
          · kernel_rfl
          · exact fun _ _ _ h => h
          · exact Or.inl ⟨by rfl, by intro w hSw; go_simp; try with_reducible rfl⟩
          · assumption
          try simp only [Act.put, List.setIfInBounds_toArray, List.set_cons_zero, List.set_cons_succ]
          apply wpAnyH_take (i := 14)
          · simp only [List.getElem?_toArray]; rfl
          · kernel_rfl
          · kernel_rfl
          · kernel_rfl
          · exact fun _ _ _ h => h
          · exact Or.inl ⟨by rfl, by intro w hSw; go_simp; try with_reducible rfl⟩
          · assumption
          try simp only [Act.put, List.setIfInBounds_toArray, List.set_cons_zero, List.set_cons_succ]
          apply wpAnyH_take (i := 15)
          · simp only [List.getElem?_toArray]; rfl
          · kernel_rfl
          · kernel_rfl
          · kernel_rfl
          · exact fun _ _ _ h => h
          · exact yields_rowP r1 (by rfl) _ rfl g (i1 * 12) rfl HS1.out
          · assumption
          try simp only [Act.put, List.setIfInBounds_toArray, List.set_cons_zero, List.set_cons_succ]
          apply wpAnyH_take (i := 16)
          · simp only [List.getElem?_toArray]; rfl
          · kernel_rfl
          · kernel_rfl
          · kernel_rfl
          · exact fun _ _ _ h => h
          · exact Or.inl ⟨by rfl, by intro w hSw; go_simp; try with_reducible rfl⟩
          · assumption
          try simp only [Act.put, List.setIfInBounds_toArray, List.set_cons_zero, List.set_cons_succ]
          apply wpAnyH_take (i := 17)
          · simp only [List.getElem?_toArray]; rfl
          · kernel_rfl
          · kernel_rfl
          · kernel_rfl
          · exact fun _ _ _ h => h
          · exact Or.inl ⟨by rfl, by intro w hSw; go_simp; try with_reducible rfl⟩
          · assumption
          try simp only [Act.put, List.setIfInBounds_toArray, List.set_cons_zero, List.set_cons_succ]
          apply wpAnyH_take (i := 18)
          · simp only [List.getElem?_toArray]; rfl
          · kernel_rfl
          · kernel_rfl
          · kernel_rfl
          · exact fun _ _ _ h => h
          · exact Or.inl ⟨by rfl, by intro w hSw; have q0 := HA2.out w hSw; go_simp; try with_reducible rfl⟩
          · assumption
          try simp only [Act.put, List.setIfInBounds_toArray, List.set_cons_zero, List.set_cons_succ]
          apply wpAnyH_take (i := 19)
          · simp only [List.getElem?_toArray]; rfl
          · kernel_rfl
          · kernel_rfl
          · kernel_rfl
          · exact fun _ _ _ h => h
          · exact Or.inl ⟨by rfl, by intro w hSw; go_simp; try with_reducible rfl⟩
          · assumption
          try simp only [Act.put, List.setIfInBounds_toArray, List.set_cons_zero, List.set_cons_succ]
          apply wpAnyH_take (i := 20)
          · simp only [List.getElem?_toArray]; rfl
          · kernel_rfl
          · kernel_rfl
          · kernel_rfl
          · exact fun _ _ _ h => h
          · exact Or.inl ⟨by rfl, by intro w hSw; go_simp; try with_reducible rfl⟩
          · assumption
          try simp only [Act.put, List.setIfInBounds_toArray, List.set_cons_zero, List.set_cons_succ]
          apply wpAnyH_take (i := 21)
          · simp only [List.getElem?_toArray]; rfl
          · kernel_rfl
          · kernel_rfl
          · kernel_rfl
          · exact fun _ _ _ h => h
          · exact Or.inl ⟨by rfl, by intro w hSw; go_simp; try with_reducible rfl⟩
          · assumption
          try simp only [Act.put, List.setIfInBounds_toArray, List.set_cons_zero, List.set_cons_succ]
          apply wpAnyH_take (i := 22)
          · simp only [List.getElem?_toArray]; rfl
          · kernel_rfl
          · kernel_rfl
          · kernel_rfl
          · exact fun _ _ _ h => h
          · exact Or.inl ⟨by rfl, by intro w hSw; go_simp; try with_reducible rfl⟩
          · assumption
          try simp only [Act.put, List.setIfInBounds_toArray, List.set_cons_zero, List.set_cons_succ]
          apply wpAnyH_take (i := 23)
          · simp only [List.getElem?_toArray]; rfl
          · kernel_rfl
          · kernel_rfl
          · kernel_rfl
          · exact fun _ _ _ h => h
          · exact yields_rowP r2 (by rfl) _ rfl g (i2 * 12) rfl HS2.out
          · assumption
          try simp only [Act.put, List.setIfInBounds_toArray, List.set_cons_zero, List.set_cons_succ]
          apply wpAnyH_take (i := 24)
          · simp only [List.getElem?_toArray]; rfl
          · kernel_rfl
          · kernel_rfl
          · kernel_rfl
          · exact fun _ _ _ h => h
          · exact Or.inl ⟨by rfl, by intro w hSw; go_simp; try with_reducible rfl⟩
          · assumption
          try simp only [Act.put, List.setIfInBounds_toArray, List.set_cons_zero, List.set_cons_succ]
          apply wpAnyH_take (i := 25)
          · simp only [List.getElem?_toArray]; rfl
          · kernel_rfl
          · kernel_rfl
          · kernel_rfl
          · exact fun _ _ _ h => h
          · exact Or.inl ⟨by rfl, by intro w hSw; go_simp; try with_reducible rfl⟩
          · assumption
          try simp only [Act.put, List.setIfInBounds_toArray, List.set_cons_zero, List.set_cons_succ]
          apply wpAnyH_take (i := 26)
          · simp only [List.getElem?_toArray]; rfl
          · kernel_rfl
          · kernel_rfl
          · kernel_rfl
          · exact fun _ _ _ h => h
          · exact Or.inl ⟨by rfl, by intro w hSw; have q0 := HA3.out w hSw; go_simp; try with_reducible rfl⟩
          · assumption
          try simp only [Act.put, List.setIfInBounds_toArray, List.set_cons_zero, List.set_cons_succ]
          apply wpAnyH_take (i := 27)
          · simp only [List.getElem?_toArray]; rfl
          · kernel_rfl
          · kernel_rfl
          · kernel_rfl
          · exact fun _ _ _ h => h
          · exact Or.inl ⟨by rfl, by intro w hSw; go_simp; try with_reducible rfl⟩
          · assumption
          try simp only [Act.put, List.setIfInBounds_toArray, List.set_cons_zero, List.set_cons_succ]
          apply wpAnyH_take (i := 28)
          · simp only [List.getElem?_toArray]; rfl
          · kernel_rfl
          · kernel_rfl
          · kernel_rfl
          · exact fun _ _ _ h => h
          · exact Or.inl ⟨by rfl, by intro w hSw; go_simp; try with_reducible rfl⟩
          · assumption
          try simp only [Act.put, List.setIfInBounds_toArray, List.set_cons_zero, List.set_cons_succ]
          apply wpAnyH_take (i := 29)
          · simp only [List.getElem?_toArray]; rfl
          · kernel_rfl
          · kernel_rfl
          · kernel_rfl
          · exact fun _ _ _ h => h
          · exact Or.inl ⟨by rfl, by intro w hSw; go_simp; try with_reducible rfl⟩
          · assumption
          try simp only [Act.put, List.setIfInBounds_toArray, List.set_cons_zero, List.set_cons_succ]
          apply wpAnyH_take (i := 30)
          · simp only [List.getElem?_toArray]; rfl
          · kernel_rfl
          · kernel_rfl
          · kernel_rfl
          · exact fun _ _ _ h => h
          · exact Or.inl ⟨by rfl, by intro w hSw; go_simp; try with_reducible rfl⟩
          · assumption
          try simp only [Act.put, List.setIfInBounds_toArray, List.set_cons_zero, List.set_cons_succ]
          apply wpAnyH_take (i := 31)
          · simp only [List.getElem?_toArray]; rfl
          · kernel_rfl
          · kernel_rfl
          · kernel_rfl
          · exact fun _ _ _ h => h
          · exact yields_rowP r3 (by rfl) _ rfl g (i3 * 12) rfl HS3.out
          · assumption
          try simp only [Act.put, List.setIfInBounds_toArray, List.set_cons_zero, List.set_cons_succ]
          clear HS0 HS1 HS2 HS3 HA0 HA1 HA2 HA3 f0 f1 f2 f3 e0 e1 e2 e3 k0 k1 k2 k3 l0 l1 l2 l3
          refine wpAnyH_alloc4 42 (rwC rwZero).toArray wp_alloc_rowP (fun w' h => by rw [HSE.out] at h ⊢; exact h.alloc _) 4 32 33 34 35 11 12 13 14 _ _ _ (by kernel_rfl) (by decide) (by decide) ⟨_, rfl, rfl, rfl, rfl⟩ ⟨_, rfl, rfl, rfl, rfl⟩ ⟨_, rfl, rfl, rfl, rfl⟩ ⟨_, rfl, rfl, rfl, rfl⟩ hHeld ?_
          intro q0 q1 q2 q3 W4 hSW hkW a0' a1' a2' a3' hqq
          try simp only [Act.put, List.setIfInBounds_toArray, List.set_cons_zero, List.set_cons_succ]
          have HX4 := Lib.hid (show Keeps [] y0 W4 from by rw [HSE.out] at hSW; exact hSW)
          have HQ := Lib.hid hqq
          have HG0 := Lib.hid a0'; have HG1 := Lib.hid a1'; have HG2 := Lib.hid a2'; have HG3 := Lib.hid a3'
          clear a0' a1' a2' a3' hqq hkW hHeld
          have hHeld := hSW
          clear hSW
          apply wpAnyH_ready (rs := [36])
          · kernel_rfl
          · simp
          apply AllReadyH.cons (hs := AllReadyH.nil)
          · simp only [List.getElem?_toArray]; rfl
          intro K hK
          rw [if_pos (by rfl)]
          refine wp_putP (g := q0) (old := rwZero) (r := r0) rfl rfl rfl HG0.out.2 ?_
          intro W5 h5 k5
          have HX5 := Lib.hid (HX4.out.trans k5 (fun q hq => .inr (by simp at hq; have := HG0.out.1; rw [hq]; exact this)))
          have HE0 := Lib.hid h5
          have HGb := Lib.hid (k5.heap HG1.out.2 (by simp; have := HQ.out; omega)); have HGc := Lib.hid (k5.heap HG2.out.2 (by simp; have := HQ.out; omega)); have HGd := Lib.hid (k5.heap HG3.out.2 (by simp; have := HQ.out; omega))
          clear h5 k5
          refine hK.out _ _ ?_ (fun hHeld => ?_)
          · exact (by rw [HSE.out]; exact HX5.out)
          clear hK K
          try simp only [Act.put, List.setIfInBounds_toArray, List.set_cons_zero, List.set_cons_succ]
          apply wpAnyH_ready (rs := [37])
          · kernel_rfl
          · simp
          apply AllReadyH.cons (hs := AllReadyH.nil)
          · simp only [List.getElem?_toArray]; rfl
          intro K hK
          rw [if_pos (by rfl)]
          refine wp_putP (g := q1) (old := rwZero) (r := r1) rfl rfl rfl HGb.out ?_
          intro W6 h6 k6
          have HX6 := Lib.hid (HX5.out.trans k6 (fun q hq => .inr (by simp at hq; have := HG1.out.1; rw [hq]; exact this)))
          have HE1 := Lib.hid h6
          have HE0b := Lib.hid (k6.heap HE0.out (by simp; have := HQ.out; omega)); have HGcc := Lib.hid (k6.heap HGc.out (by simp; have := HQ.out; omega)); have HGdd := Lib.hid (k6.heap HGd.out (by simp; have := HQ.out; omega))
          clear h6 k6
          refine hK.out _ _ ?_ (fun hHeld => ?_)
          · exact (by rw [HSE.out]; exact HX6.out)
          clear hK K
          try simp only [Act.put, List.setIfInBounds_toArray, List.set_cons_zero, List.set_cons_succ]
          apply wpAnyH_ready (rs := [38])
          · kernel_rfl
          · simp
          apply AllReadyH.cons (hs := AllReadyH.nil)
          · simp only [List.getElem?_toArray]; rfl
          intro K hK
          rw [if_pos (by rfl)]
          refine wp_putP (g := q2) (old := rwZero) (r := r2) rfl rfl rfl HGcc.out ?_
          intro W7 h7 k7
          have HX7 := Lib.hid (HX6.out.trans k7 (fun q hq => .inr (by simp at hq; have := HG2.out.1; rw [hq]; exact this)))
          have HE2 := Lib.hid h7
          have HE0c := Lib.hid (k7.heap HE0b.out (by simp; have := HQ.out; omega)); have HE1c := Lib.hid (k7.heap HE1.out (by simp; have := HQ.out; omega)); have HGddd := Lib.hid (k7.heap HGdd.out (by simp; have := HQ.out; omega))
          clear h7 k7
          refine hK.out _ _ ?_ (fun hHeld => ?_)
          · exact (by rw [HSE.out]; exact HX7.out)
          clear hK K
          try simp only [Act.put, List.setIfInBounds_toArray, List.set_cons_zero, List.set_cons_succ]
          apply wpAnyH_ready (rs := [39])
          · kernel_rfl
          · simp
          apply AllReadyH.cons (hs := AllReadyH.nil)
          · simp only [List.getElem?_toArray]; rfl
          intro K hK
          rw [if_pos (by rfl)]
          refine wp_putP (g := q3) (old := rwZero) (r := r3) rfl rfl rfl HGddd.out ?_
          intro W8 h8 k8
          have HX8 := Lib.hid (HX7.out.trans k8 (fun q hq => .inr (by simp at hq; have := HG3.out.1; rw [hq]; exact this)))
          have HE3 := Lib.hid h8
          have HEA := Lib.hid (k8.heap HE0c.out (by simp; have := HQ.out; omega)); have HEB := Lib.hid (k8.heap HE1c.out (by simp; have := HQ.out; omega)); have HEC := Lib.hid (k8.heap HE2.out (by simp; have := HQ.out; omega))
          clear h8 k8
          refine hK.out _ _ ?_ (fun hHeld => ?_)
          · exact (by rw [HSE.out]; exact HX8.out)
          clear hK K
          try simp only [Act.put, List.setIfInBounds_toArray, List.set_cons_zero, List.set_cons_succ]
          refine wpAnyH_done (by kernel_rfl) ?_ _
          refine NoPanic.normal ?_
          have HE := Lib.hid (fun (w' : World) (h : Keeps [] W8 w') => show w'.rangeAt q0 0 (rwC r0) ∧ w'.rangeAt q1 0 (rwC r1) ∧ w'.rangeAt q2 0 (rwC r2) ∧ w'.rangeAt q3 0 (rwC r3) from
            ⟨range_row (h.heap HEA.out (by simp)), range_row (h.heap HEB.out (by simp)), range_row (h.heap HEC.out (by simp)), range_row (h.heap HE3.out (by simp))⟩)
          have HLV8 := Lib.hid (HLV.out.keeps HX8.out (by simp))
          have HKW8 := Lib.hid (HKW.out.trans HX8.out (FSub.refl _ _))
          clear hHeld hSD HSE HX4 HX5 HX6 HX7 HX8 HE0 HE1 HE2 HE0b HE1c HE0c HG0 HG1 HG2 HG3 HGb HGc HGd HGcc HGdd HGddd HQ HEA HEB HEC HE3 HKW HLV HB1 HR0 HR1 HR2 HR3 HA4
          obtain ⟨cw, hcw⟩ : ∃ cw, cw = W8 := ⟨_, rfl⟩
          have HKX := Lib.hid (show Keeps [] W8 cw from by rw [hcw]; exact Keeps.refl _ _)
          rw [← hcw]
          clear hcw
          have baa := rwBefore_self HO0.out
          cases bab : rwBefore r0 r1 with
          | false =>
            have HBF := Lib.hid (bf_of cw baa)
            have HT := Lib.hid (HE.out cw HKX.out)
            go_wp2_with (first
              | ((with_reducible refine wpList_loadP (g := q0) (off := 0) (y := r0) ?_ ?_ HT.out.1 ?_); exact rfl; exact rfl)
              | ((with_reducible refine wpList_loadP (g := q1) (off := 0) (y := r1) ?_ ?_ HT.out.2.1 ?_); exact rfl; exact rfl)
              | ((with_reducible refine wpList_loadP (g := q2) (off := 0) (y := r2) ?_ ?_ HT.out.2.2.1 ?_); exact rfl; exact rfl)
              | ((with_reducible refine wpList_loadP (g := q3) (off := 0) (y := r3) ?_ ?_ HT.out.2.2.2 ?_); exact rfl; exact rfl))
            refine (HBF.out).mono ?_
            clear HBF HT
            rintro e cw ⟨rfl, hk⟩
            have HKX := Lib.hid (HKX.out.trans hk (FSub.refl _ _))
            clear hk
            have HBF := Lib.hid (bf_of cw bab)
            have HT := Lib.hid (HE.out cw HKX.out)
            go_wp2_with (first
              | ((with_reducible refine wpList_loadP (g := q0) (off := 0) (y := r0) ?_ ?_ HT.out.1 ?_); exact rfl; exact rfl)
              | ((with_reducible refine wpList_loadP (g := q1) (off := 0) (y := r1) ?_ ?_ HT.out.2.1 ?_); exact rfl; exact rfl)
              | ((with_reducible refine wpList_loadP (g := q2) (off := 0) (y := r2) ?_ ?_ HT.out.2.2.1 ?_); exact rfl; exact rfl)
              | ((with_reducible refine wpList_loadP (g := q3) (off := 0) (y := r3) ?_ ?_ HT.out.2.2.2 ?_); exact rfl; exact rfl))
            refine (HBF.out).mono ?_
            clear HBF HT
            rintro e cw ⟨rfl, hk⟩
            have HKX := Lib.hid (HKX.out.trans hk (FSub.refl _ _))
            clear hk
            have HBF := Lib.hid (bf_of cw bab)
            have HT := Lib.hid (HE.out cw HKX.out)
            go_wp2_with (first
              | ((with_reducible refine wpList_loadP (g := q0) (off := 0) (y := r0) ?_ ?_ HT.out.1 ?_); exact rfl; exact rfl)
              | ((with_reducible refine wpList_loadP (g := q1) (off := 0) (y := r1) ?_ ?_ HT.out.2.1 ?_); exact rfl; exact rfl)
              | ((with_reducible refine wpList_loadP (g := q2) (off := 0) (y := r2) ?_ ?_ HT.out.2.2.1 ?_); exact rfl; exact rfl)
              | ((with_reducible refine wpList_loadP (g := q3) (off := 0) (y := r3) ?_ ?_ HT.out.2.2.2 ?_); exact rfl; exact rfl))
            refine (HBF.out).mono ?_
            clear HBF HT
            rintro e cw ⟨rfl, hk⟩
            have HKX := Lib.hid (HKX.out.trans hk (FSub.refl _ _))
            clear hk
            have HBF := Lib.hid (bf_of cw bab)
            have HT := Lib.hid (HE.out cw HKX.out)
            go_wp2_with (first
              | ((with_reducible refine wpList_loadP (g := q0) (off := 0) (y := r0) ?_ ?_ HT.out.1 ?_); exact rfl; exact rfl)
              | ((with_reducible refine wpList_loadP (g := q1) (off := 0) (y := r1) ?_ ?_ HT.out.2.1 ?_); exact rfl; exact rfl)
              | ((with_reducible refine wpList_loadP (g := q2) (off := 0) (y := r2) ?_ ?_ HT.out.2.2.1 ?_); exact rfl; exact rfl)
              | ((with_reducible refine wpList_loadP (g := q3) (off := 0) (y := r3) ?_ ?_ HT.out.2.2.2 ?_); exact rfl; exact rfl))
            refine (HBF.out).mono ?_
            clear HBF HT
            rintro e cw ⟨rfl, hk⟩
            have HKX := Lib.hid (HKX.out.trans hk (FSub.refl _ _))
            clear hk
            go_wp2_with fail
            go_loopw [15] (fun i wr => ∃ j : Nat, i = .int .i64 ((j : Int) + 1) ∧ j + 1 ≤ n ∧ Keeps [] W8 wr) (fun i _ => n - (intOf i).toNat)
            case atStart => exact ⟨0, rfl, by omega, HKX.out⟩
            case round =>
              obtain ⟨j, rfl, hj, hkj⟩ := hrel
              have HKJ := Lib.hid hkj
              clear hkj
              by_cases hjl : j + 1 < n
              · have hjl2 : (j : Int) + 1 < n := by omega
                have hjl3 : (j : Int) < n := by omega
                have hjl4 : (0 : Int) ≤ (j : Int) + 1 ∧ (j : Int) + 1 < n := by omega
                have l1 : j < t.L.length := by have := HNN.out; omega
                have l2 : j + 1 < t.L.length := by have := HNN.out; omega
                obtain ⟨g', cap, hg, -, -, -, -, hrow⟩ := HLV8.out.at (fun e => by rw [e] at l1; simp at l1)
                simp only [Value.slice.injEq, Option.some.injEq, Addr.mk.injEq, and_true] at hg
                obtain ⟨rfl, -, rfl⟩ := hg
                have HX := Lib.hid (show W8.rangeAt g (j * 12) (rwC t.L[j]) from hrow j l1)
                have HYR := Lib.hid (show W8.rangeAt g ((j + 1) * 12) (rwC t.L[j + 1]) from hrow (j + 1) l2)
                have hs1 := HOK.out.sorted l2 (Nat.lt_succ_self j)
                have hs2 := (HOK.out.rows _ (List.getElem_mem l2)).lt HOK.out.hi
                clear hrow
                generalize t.L[j] = rx at *
                generalize t.L[j + 1] = ry at *
                have hs3 : ¬ ry.fr ≤ rx.fr := by omega
                have hs4 : ¬ ry.to ≤ ry.fr := by omega
                clear l1 l2 hs1 hs2
                go_wp2_with fail
                obtain ⟨S3, hS⟩ : ∃ S3 : World → Prop, S3 = fun z => Keeps [] wr z := ⟨_, rfl⟩
                have HSE3 := Lib.hid hS
                have hSD : S3 wr.drew := by rw [hS]; exact (Keeps.refl _ _).drew
                have HS1 := Lib.hid (fun (w' : World) (h : S3 w') => show w'.cell? ⟨g, j * 12 + 10, none⟩ = some (.int .i64 rx.fr) from by rw [hS] at h; exact (HKJ.out.trans h (FSub.refl _ _)).cell (HX.out 10 _ rfl) (by simp))
                have HS2 := Lib.hid (fun (w' : World) (h : S3 w') => show w'.cell? ⟨g, (j + 1) * 12 + 10, none⟩ = some (.int .i64 ry.fr) from by rw [hS] at h; exact (HKJ.out.trans h (FSub.refl _ _)).cell (HYR.out 10 _ rfl) (by simp))
                have HS3 := Lib.hid (fun (w' : World) (h : S3 w') => show w'.cell? ⟨g, (j + 1) * 12 + 11, none⟩ = some (.int .i64 ry.to) from by rw [hS] at h; exact (HKJ.out.trans h (FSub.refl _ _)).cell (HYR.out 11 _ rfl) (by simp))
                clear hS
                refine wp_region_noPanic ?_
                refine wp_region_held_drew (S := S3) (by kernel_rfl) hSD (fun hHeld => ?_)
                apply wpAnyH_take (i := 0)
                · simp only [List.getElem?_toArray]; rfl
                · kernel_rfl
                · kernel_rfl
                · kernel_rfl
                · exact fun _ _ _ h => h
                · exact Or.inl ⟨by rfl, by intro w hSw; go_simp; try with_reducible rfl⟩
                · assumption
                try simp only [Act.put, List.setIfInBounds_toArray, List.set_cons_zero, List.set_cons_succ]
                apply wpAnyH_take (i := 1)
                · simp only [List.getElem?_toArray]; rfl
                · kernel_rfl
                · kernel_rfl
                · kernel_rfl
                · exact fun _ _ _ h => h
                · exact Or.inl ⟨by rfl, by intro w hSw; go_simp; try with_reducible rfl⟩
                · assumption
                try simp only [Act.put, List.setIfInBounds_toArray, List.set_cons_zero, List.set_cons_succ]
                apply wpAnyH_take (i := 2)
                · simp only [List.getElem?_toArray]; rfl
                · kernel_rfl
                · kernel_rfl
                · kernel_rfl
                · exact fun _ _ _ h => h
                · exact Or.inl ⟨by rfl, by intro w hSw; go_simp; try with_reducible rfl⟩
                · assumption
                try simp only [Act.put, List.setIfInBounds_toArray, List.set_cons_zero, List.set_cons_succ]
                apply wpAnyH_take (i := 3)
                · simp only [List.getElem?_toArray]; rfl
                · kernel_rfl
                · kernel_rfl
                · kernel_rfl
                · exact fun _ _ _ h => h
                · exact Or.inl ⟨by rfl, by intro w hSw; go_simp; try with_reducible rfl⟩
                · assumption
                try simp only [Act.put, List.setIfInBounds_toArray, List.set_cons_zero, List.set_cons_succ]
                apply wpAnyH_take (i := 4)
                · simp only [List.getElem?_toArray]; rfl
                · kernel_rfl
                · kernel_rfl
                · kernel_rfl
                · exact fun _ _ _ h => h
                · exact Or.inl ⟨by rfl, by intro w hSw; have q0 := HS2.out w hSw; go_simp; try with_reducible rfl⟩
                · assumption
                try simp only [Act.put, List.setIfInBounds_toArray, List.set_cons_zero, List.set_cons_succ]
                apply wpAnyH_take (i := 5)
                · simp only [List.getElem?_toArray]; rfl
                · kernel_rfl
                · kernel_rfl
                · kernel_rfl
                · exact fun _ _ _ h => h
                · exact Or.inl ⟨by rfl, by intro w hSw; go_simp; try with_reducible rfl⟩
                · assumption
                try simp only [Act.put, List.setIfInBounds_toArray, List.set_cons_zero, List.set_cons_succ]
                apply wpAnyH_take (i := 6)
                · simp only [List.getElem?_toArray]; rfl
                · kernel_rfl
                · kernel_rfl
                · kernel_rfl
                · exact fun _ _ _ h => h
                · exact Or.inl ⟨by rfl, by intro w hSw; go_simp; try with_reducible rfl⟩
                · assumption
                try simp only [Act.put, List.setIfInBounds_toArray, List.set_cons_zero, List.set_cons_succ]
                apply wpAnyH_take (i := 7)
                · simp only [List.getElem?_toArray]; rfl
                · kernel_rfl
                · kernel_rfl
                · kernel_rfl
                · exact fun _ _ _ h => h
                · exact yields_sub (by rfl) _ _ rfl ((j : Int) + 1) 1 (j : Int) rfl rfl (by omega) (by omega) (by omega)
                · assumption
                try simp only [Act.put, List.setIfInBounds_toArray, List.set_cons_zero, List.set_cons_succ]
                apply wpAnyH_take (i := 8)
                · simp only [List.getElem?_toArray]; rfl
                · kernel_rfl
                · kernel_rfl
                · kernel_rfl
                · exact fun _ _ _ h => h
                · exact yields_index (by rfl) _ _ rfl g n lc j rfl rfl (by omega)
                · assumption
                try simp only [Act.put, List.setIfInBounds_toArray, List.set_cons_zero, List.set_cons_succ]
                apply wpAnyH_take (i := 9)
                · simp only [List.getElem?_toArray]; rfl
                · kernel_rfl
                · kernel_rfl
                · kernel_rfl
                · exact fun _ _ _ h => h
                · exact Or.inl ⟨by rfl, by intro w hSw; go_simp; try with_reducible rfl⟩
                · assumption
                try simp only [Act.put, List.setIfInBounds_toArray, List.set_cons_zero, List.set_cons_succ]
                apply wpAnyH_take (i := 10)
                · simp only [List.getElem?_toArray]; rfl
                · kernel_rfl
                · kernel_rfl
                · kernel_rfl
                · exact fun _ _ _ h => h
                · exact Or.inl ⟨by rfl, by intro w hSw; have q0 := HS1.out w hSw; go_simp; try with_reducible rfl⟩
                · assumption
                try simp only [Act.put, List.setIfInBounds_toArray, List.set_cons_zero, List.set_cons_succ]
                apply wpAnyH_take (i := 11)
                · simp only [List.getElem?_toArray]; rfl
                · kernel_rfl
                · kernel_rfl
                · kernel_rfl
                · exact fun _ _ _ h => h
                · exact yields_leqF (by rfl) _ _ rfl ry.fr rx.fr rfl rfl (by omega)
                · assumption
                try simp only [Act.put, List.setIfInBounds_toArray, List.set_cons_zero, List.set_cons_succ]
                apply wpAnyH_take (i := 12)
                · simp only [List.getElem?_toArray]; rfl
                · kernel_rfl
                · kernel_rfl
                · kernel_rfl
                · exact fun _ _ _ h => h
                · exact Or.inl ⟨by rfl, by intro w hSw; go_simp; try with_reducible rfl⟩
                · assumption
                try simp only [Act.put, List.setIfInBounds_toArray, List.set_cons_zero, List.set_cons_succ]
                apply wpAnyH_take (i := 13)
                · simp only [List.getElem?_toArray]; rfl
                · kernel_rfl
                · kernel_rfl
                · kernel_rfl
                · exact fun _ _ _ h => h
                · exact Or.inl ⟨by rfl, by intro w hSw; go_simp; try with_reducible rfl⟩
                · assumption
                try simp only [Act.put, List.setIfInBounds_toArray, List.set_cons_zero, List.set_cons_succ]
                apply wpAnyH_take (i := 14)
                · simp only [List.getElem?_toArray]; rfl
                · kernel_rfl
                · kernel_rfl
                · kernel_rfl
                · exact fun _ _ _ h => h
                · exact Or.inl ⟨by rfl, by intro w hSw; go_simp; try with_reducible rfl⟩
                · assumption
                try simp only [Act.put, List.setIfInBounds_toArray, List.set_cons_zero, List.set_cons_succ]
                apply wpAnyH_take (i := 15)
                · simp only [List.getElem?_toArray]; rfl
                · kernel_rfl
                · kernel_rfl
                · kernel_rfl
                · exact fun _ _ _ h => h
                · exact Or.inl ⟨by rfl, by intro w hSw; go_simp; try with_reducible rfl⟩
                · assumption
                try simp only [Act.put, List.setIfInBounds_toArray, List.set_cons_zero, List.set_cons_succ]
                apply wpAnyH_take (i := 16)
                · simp only [List.getElem?_toArray]; rfl
                · kernel_rfl
                · kernel_rfl
                · kernel_rfl
                · exact fun _ _ _ h => h
                · exact Or.inl ⟨by rfl, by intro w hSw; go_simp; try with_reducible rfl⟩
                · assumption
                try simp only [Act.put, List.setIfInBounds_toArray, List.set_cons_zero, List.set_cons_succ]
                apply wpAnyH_take (i := 17)
                · simp only [List.getElem?_toArray]; rfl
                · kernel_rfl
                · kernel_rfl
                · kernel_rfl
                · exact fun _ _ _ h => h
                · exact Or.inl ⟨by rfl, by intro w hSw; have q0 := HS3.out w hSw; go_simp; try with_reducible rfl⟩
                · assumption
                try simp only [Act.put, List.setIfInBounds_toArray, List.set_cons_zero, List.set_cons_succ]
                apply wpAnyH_take (i := 18)
                · simp only [List.getElem?_toArray]; rfl
                · kernel_rfl
                · kernel_rfl
                · kernel_rfl
                · exact fun _ _ _ h => h
                · exact Or.inl ⟨by rfl, by intro w hSw; go_simp; try with_reducible rfl⟩
                · assumption
                try simp only [Act.put, List.setIfInBounds_toArray, List.set_cons_zero, List.set_cons_succ]
                apply wpAnyH_take (i := 19)
                · simp only [List.getElem?_toArray]; rfl
                · kernel_rfl
                · kernel_rfl
                · kernel_rfl
                · exact fun _ _ _ h => h
                · exact Or.inl ⟨by rfl, by intro w hSw; go_simp; try with_reducible rfl⟩
                · assumption
                try simp only [Act.put, List.setIfInBounds_toArray, List.set_cons_zero, List.set_cons_succ]
                apply wpAnyH_take (i := 20)
                · simp only [List.getElem?_toArray]; rfl
                · kernel_rfl
                · kernel_rfl
                · kernel_rfl
                · exact fun _ _ _ h => h
                · exact Or.inl ⟨by rfl, by intro w hSw; go_simp; try with_reducible rfl⟩
                · assumption
                try simp only [Act.put, List.setIfInBounds_toArray, List.set_cons_zero, List.set_cons_succ]
                apply wpAnyH_take (i := 21)
                · simp only [List.getElem?_toArray]; rfl
                · kernel_rfl
                · kernel_rfl
                · kernel_rfl
                · exact fun _ _ _ h => h
                · exact Or.inl ⟨by rfl, by intro w hSw; go_simp; try with_reducible rfl⟩
                · assumption
                try simp only [Act.put, List.setIfInBounds_toArray, List.set_cons_zero, List.set_cons_succ]
                apply wpAnyH_take (i := 22)
                · simp only [List.getElem?_toArray]; rfl
                · kernel_rfl
                · kernel_rfl
                · kernel_rfl
                · exact fun _ _ _ h => h
                · exact Or.inl ⟨by rfl, by intro w hSw; have q0 := HS2.out w hSw; go_simp; try with_reducible rfl⟩
                · assumption
                try simp only [Act.put, List.setIfInBounds_toArray, List.set_cons_zero, List.set_cons_succ]
                apply wpAnyH_take (i := 23)
                · simp only [List.getElem?_toArray]; rfl
                · kernel_rfl
                · kernel_rfl
                · kernel_rfl
                · exact fun _ _ _ h => h
                · exact yields_leqF (by rfl) _ _ rfl ry.to ry.fr rfl rfl (by omega)
                · assumption
                try simp only [Act.put, List.setIfInBounds_toArray, List.set_cons_zero, List.set_cons_succ]
                apply wpAnyH_take (i := 24)
                · simp only [List.getElem?_toArray]; rfl
                · kernel_rfl
                · kernel_rfl
                · kernel_rfl
                · exact fun _ _ _ h => h
                · exact Or.inl ⟨by rfl, by intro w hSw; go_simp; try with_reducible rfl⟩
                · assumption
                try simp only [Act.put, List.setIfInBounds_toArray, List.set_cons_zero, List.set_cons_succ]
                refine wpAnyH_done (by kernel_rfl) ?_ _
                refine NoPanic.normal ?_
                have HFIN := Lib.hid (show Keeps [] W8 wr.drew from HKJ.out.drew)
                clear hHeld hSD HS1 HS2 HS3 HSE3 HX HYR HKJ
                go_wp2_with fail
                go_roundw
                case rel => exact ⟨j + 1, by go_num, by omega, HFIN.out⟩
                case measure => simp [intOf]; omega
              · obtain rfl : n = j + 1 := by omega
                clear hjl hj
                have HKX := Lib.hid (show Keeps [] W8 wr from HKJ.out)
                have HT := Lib.hid (HE.out wr HKX.out)
                have c9 : wr.cell? ⟨q0, 9, none⟩ = some (.int .u8 r0.st) := by have := HT.out.1 9 _ (show (rwC r0)[9]? = some (.int .u8 r0.st) from rfl); simpa using this
                clear HKJ HT
                obtain ⟨cw, hcw⟩ : ∃ cw, cw = wr := ⟨_, rfl⟩
                subst hcw
                by_cases hst : r0.st = 1
                · rw [hst] at c9
                  have HW := Lib.hid (works_true cw)
                  go_wp2_with fail
                  refine (HW.out).mono ?_; rintro e z9 ⟨rfl, hk⟩
                  have HK9 := Lib.hid ((HKW8.out.trans HKX.out (FSub.refl _ _)).trans hk (FSub.refl _ _))
                  clear hk HW
                  go_wp2_with fail
                  go_ret
                  exact ⟨rfl, HK9.out⟩
                · have tst : (r0.st == 1) = false := by simpa using hst
                  have HBF := Lib.hid (bf_of cw bab)
                  have HT := Lib.hid (HE.out cw HKX.out)
                  go_wp2_with (first
                    | ((with_reducible refine wpList_loadP (g := q0) (off := 0) (y := r0) ?_ ?_ HT.out.1 ?_); exact rfl; exact rfl)
                    | ((with_reducible refine wpList_loadP (g := q1) (off := 0) (y := r1) ?_ ?_ HT.out.2.1 ?_); exact rfl; exact rfl)
                    | ((with_reducible refine wpList_loadP (g := q2) (off := 0) (y := r2) ?_ ?_ HT.out.2.2.1 ?_); exact rfl; exact rfl)
                    | ((with_reducible refine wpList_loadP (g := q3) (off := 0) (y := r3) ?_ ?_ HT.out.2.2.2 ?_); exact rfl; exact rfl))
                  refine (HBF.out).mono ?_
                  clear HBF HT
                  rintro e cw ⟨rfl, hk⟩
                  have HKX := Lib.hid (HKX.out.trans hk (FSub.refl _ _))
                  clear hk
                  clear c9
                  have HW := Lib.hid (works_true cw)
                  go_wp2_with fail
                  refine (HW.out).mono ?_; rintro e z9 ⟨rfl, hk⟩
                  have HK9 := Lib.hid ((HKW8.out.trans HKX.out (FSub.refl _ _)).trans hk (FSub.refl _ _))
                  clear hk HW
                  go_wp2_with fail
                  go_ret
                  exact ⟨rfl, HK9.out⟩
          | true =>
            have bba := rwBefore_not HO0.out HO1.out bab
            cases bbc : rwBefore r1 r2 with
            | false =>
              have HBF := Lib.hid (bf_of cw baa)
              have HT := Lib.hid (HE.out cw HKX.out)
              go_wp2_with (first
                | ((with_reducible refine wpList_loadP (g := q0) (off := 0) (y := r0) ?_ ?_ HT.out.1 ?_); exact rfl; exact rfl)
                | ((with_reducible refine wpList_loadP (g := q1) (off := 0) (y := r1) ?_ ?_ HT.out.2.1 ?_); exact rfl; exact rfl)
                | ((with_reducible refine wpList_loadP (g := q2) (off := 0) (y := r2) ?_ ?_ HT.out.2.2.1 ?_); exact rfl; exact rfl)
                | ((with_reducible refine wpList_loadP (g := q3) (off := 0) (y := r3) ?_ ?_ HT.out.2.2.2 ?_); exact rfl; exact rfl))
              refine (HBF.out).mono ?_
              clear HBF HT
              rintro e cw ⟨rfl, hk⟩
              have HKX := Lib.hid (HKX.out.trans hk (FSub.refl _ _))
              clear hk
              have HBF := Lib.hid (bf_of cw bab)
              have HT := Lib.hid (HE.out cw HKX.out)
              go_wp2_with (first
                | ((with_reducible refine wpList_loadP (g := q0) (off := 0) (y := r0) ?_ ?_ HT.out.1 ?_); exact rfl; exact rfl)
                | ((with_reducible refine wpList_loadP (g := q1) (off := 0) (y := r1) ?_ ?_ HT.out.2.1 ?_); exact rfl; exact rfl)
                | ((with_reducible refine wpList_loadP (g := q2) (off := 0) (y := r2) ?_ ?_ HT.out.2.2.1 ?_); exact rfl; exact rfl)
                | ((with_reducible refine wpList_loadP (g := q3) (off := 0) (y := r3) ?_ ?_ HT.out.2.2.2 ?_); exact rfl; exact rfl))
              refine (HBF.out).mono ?_
              clear HBF HT
              rintro e cw ⟨rfl, hk⟩
              have HKX := Lib.hid (HKX.out.trans hk (FSub.refl _ _))
              clear hk
              have HBF := Lib.hid (bf_of cw bbc)
              have HT := Lib.hid (HE.out cw HKX.out)
              go_wp2_with (first
                | ((with_reducible refine wpList_loadP (g := q0) (off := 0) (y := r0) ?_ ?_ HT.out.1 ?_); exact rfl; exact rfl)
                | ((with_reducible refine wpList_loadP (g := q1) (off := 0) (y := r1) ?_ ?_ HT.out.2.1 ?_); exact rfl; exact rfl)
                | ((with_reducible refine wpList_loadP (g := q2) (off := 0) (y := r2) ?_ ?_ HT.out.2.2.1 ?_); exact rfl; exact rfl)
                | ((with_reducible refine wpList_loadP (g := q3) (off := 0) (y := r3) ?_ ?_ HT.out.2.2.2 ?_); exact rfl; exact rfl))
              refine (HBF.out).mono ?_
              clear HBF HT
              rintro e cw ⟨rfl, hk⟩
              have HKX := Lib.hid (HKX.out.trans hk (FSub.refl _ _))
              clear hk
              have HBF := Lib.hid (bf_of cw bab)
              have HT := Lib.hid (HE.out cw HKX.out)
              go_wp2_with (first
                | ((with_reducible refine wpList_loadP (g := q0) (off := 0) (y := r0) ?_ ?_ HT.out.1 ?_); exact rfl; exact rfl)
                | ((with_reducible refine wpList_loadP (g := q1) (off := 0) (y := r1) ?_ ?_ HT.out.2.1 ?_); exact rfl; exact rfl)
                | ((with_reducible refine wpList_loadP (g := q2) (off := 0) (y := r2) ?_ ?_ HT.out.2.2.1 ?_); exact rfl; exact rfl)
                | ((with_reducible refine wpList_loadP (g := q3) (off := 0) (y := r3) ?_ ?_ HT.out.2.2.2 ?_); exact rfl; exact rfl))
              refine (HBF.out).mono ?_
              clear HBF HT
              rintro e cw ⟨rfl, hk⟩
              have HKX := Lib.hid (HKX.out.trans hk (FSub.refl _ _))
              clear hk
              have HBF := Lib.hid (bf_of cw bba)
              have HT := Lib.hid (HE.out cw HKX.out)
              go_wp2_with (first
                | ((with_reducible refine wpList_loadP (g := q0) (off := 0) (y := r0) ?_ ?_ HT.out.1 ?_); exact rfl; exact rfl)
                | ((with_reducible refine wpList_loadP (g := q1) (off := 0) (y := r1) ?_ ?_ HT.out.2.1 ?_); exact rfl; exact rfl)
                | ((with_reducible refine wpList_loadP (g := q2) (off := 0) (y := r2) ?_ ?_ HT.out.2.2.1 ?_); exact rfl; exact rfl)
                | ((with_reducible refine wpList_loadP (g := q3) (off := 0) (y := r3) ?_ ?_ HT.out.2.2.2 ?_); exact rfl; exact rfl))
              refine (HBF.out).mono ?_
              clear HBF HT
              rintro e cw ⟨rfl, hk⟩
              have HKX := Lib.hid (HKX.out.trans hk (FSub.refl _ _))
              clear hk
              cases bcd : rwBefore r2 r3 with
              | false =>
                have HBF := Lib.hid (bf_of cw bab)
                have HT := Lib.hid (HE.out cw HKX.out)
                go_wp2_with (first
                  | ((with_reducible refine wpList_loadP (g := q0) (off := 0) (y := r0) ?_ ?_ HT.out.1 ?_); exact rfl; exact rfl)
                  | ((with_reducible refine wpList_loadP (g := q1) (off := 0) (y := r1) ?_ ?_ HT.out.2.1 ?_); exact rfl; exact rfl)
                  | ((with_reducible refine wpList_loadP (g := q2) (off := 0) (y := r2) ?_ ?_ HT.out.2.2.1 ?_); exact rfl; exact rfl)
                  | ((with_reducible refine wpList_loadP (g := q3) (off := 0) (y := r3) ?_ ?_ HT.out.2.2.2 ?_); exact rfl; exact rfl))
                refine (HBF.out).mono ?_
                clear HBF HT
                rintro e cw ⟨rfl, hk⟩
                have HKX := Lib.hid (HKX.out.trans hk (FSub.refl _ _))
                clear hk
                have HBF := Lib.hid (bf_of cw bcd)
                have HT := Lib.hid (HE.out cw HKX.out)
                go_wp2_with (first
                  | ((with_reducible refine wpList_loadP (g := q0) (off := 0) (y := r0) ?_ ?_ HT.out.1 ?_); exact rfl; exact rfl)
                  | ((with_reducible refine wpList_loadP (g := q1) (off := 0) (y := r1) ?_ ?_ HT.out.2.1 ?_); exact rfl; exact rfl)
                  | ((with_reducible refine wpList_loadP (g := q2) (off := 0) (y := r2) ?_ ?_ HT.out.2.2.1 ?_); exact rfl; exact rfl)
                  | ((with_reducible refine wpList_loadP (g := q3) (off := 0) (y := r3) ?_ ?_ HT.out.2.2.2 ?_); exact rfl; exact rfl))
                refine (HBF.out).mono ?_
                clear HBF HT
                rintro e cw ⟨rfl, hk⟩
                have HKX := Lib.hid (HKX.out.trans hk (FSub.refl _ _))
                clear hk
                go_wp2_with fail
                go_loopw [15] (fun i wr => ∃ j : Nat, i = .int .i64 ((j : Int) + 1) ∧ j + 1 ≤ n ∧ Keeps [] W8 wr) (fun i _ => n - (intOf i).toNat)
                case atStart => exact ⟨0, rfl, by omega, HKX.out⟩
                case round =>
                  obtain ⟨j, rfl, hj, hkj⟩ := hrel
                  have HKJ := Lib.hid hkj
                  clear hkj
                  by_cases hjl : j + 1 < n
                  · have hjl2 : (j : Int) + 1 < n := by omega
                    have hjl3 : (j : Int) < n := by omega
                    have hjl4 : (0 : Int) ≤ (j : Int) + 1 ∧ (j : Int) + 1 < n := by omega
                    have l1 : j < t.L.length := by have := HNN.out; omega
                    have l2 : j + 1 < t.L.length := by have := HNN.out; omega
                    obtain ⟨g', cap, hg, -, -, -, -, hrow⟩ := HLV8.out.at (fun e => by rw [e] at l1; simp at l1)
                    simp only [Value.slice.injEq, Option.some.injEq, Addr.mk.injEq, and_true] at hg
                    obtain ⟨rfl, -, rfl⟩ := hg
                    have HX := Lib.hid (show W8.rangeAt g (j * 12) (rwC t.L[j]) from hrow j l1)
                    have HYR := Lib.hid (show W8.rangeAt g ((j + 1) * 12) (rwC t.L[j + 1]) from hrow (j + 1) l2)
                    have hs1 := HOK.out.sorted l2 (Nat.lt_succ_self j)
                    have hs2 := (HOK.out.rows _ (List.getElem_mem l2)).lt HOK.out.hi
                    clear hrow
                    generalize t.L[j] = rx at *
                    generalize t.L[j + 1] = ry at *
                    have hs3 : ¬ ry.fr ≤ rx.fr := by omega
                    have hs4 : ¬ ry.to ≤ ry.fr := by omega
                    clear l1 l2 hs1 hs2
                    go_wp2_with fail
                    obtain ⟨S3, hS⟩ : ∃ S3 : World → Prop, S3 = fun z => Keeps [] wr z := ⟨_, rfl⟩
                    have HSE3 := Lib.hid hS
                    have hSD : S3 wr.drew := by rw [hS]; exact (Keeps.refl _ _).drew
                    have HS1 := Lib.hid (fun (w' : World) (h : S3 w') => show w'.cell? ⟨g, j * 12 + 10, none⟩ = some (.int .i64 rx.fr) from by rw [hS] at h; exact (HKJ.out.trans h (FSub.refl _ _)).cell (HX.out 10 _ rfl) (by simp))
                    have HS2 := Lib.hid (fun (w' : World) (h : S3 w') => show w'.cell? ⟨g, (j + 1) * 12 + 10, none⟩ = some (.int .i64 ry.fr) from by rw [hS] at h; exact (HKJ.out.trans h (FSub.refl _ _)).cell (HYR.out 10 _ rfl) (by simp))
                    have HS3 := Lib.hid (fun (w' : World) (h : S3 w') => show w'.cell? ⟨g, (j + 1) * 12 + 11, none⟩ = some (.int .i64 ry.to) from by rw [hS] at h; exact (HKJ.out.trans h (FSub.refl _ _)).cell (HYR.out 11 _ rfl) (by simp))
                    clear hS
                    refine wp_region_noPanic ?_
                    refine wp_region_held_drew (S := S3) (by kernel_rfl) hSD (fun hHeld => ?_)
                    apply wpAnyH_take (i := 0)
                    · simp only [List.getElem?_toArray]; rfl
                    · kernel_rfl
                    · kernel_rfl
                    · kernel_rfl
                    · exact fun _ _ _ h => h
                    · exact Or.inl ⟨by rfl, by intro w hSw; go_simp; try with_reducible rfl⟩
                    · assumption
                    try simp only [Act.put, List.setIfInBounds_toArray, List.set_cons_zero, List.set_cons_succ]
                    apply wpAnyH_take (i := 1)
                    · simp only [List.getElem?_toArray]; rfl
                    · kernel_rfl
                    · kernel_rfl
                    · kernel_rfl
                    · exact fun _ _ _ h => h
                    · exact Or.inl ⟨by rfl, by intro w hSw; go_simp; try with_reducible rfl⟩
                    · assumption
                    try simp only [Act.put, List.setIfInBounds_toArray, List.set_cons_zero, List.set_cons_succ]
                    apply wpAnyH_take (i := 2)
                    · simp only [List.getElem?_toArray]; rfl
                    · kernel_rfl
                    · kernel_rfl
                    · kernel_rfl
                    · exact fun _ _ _ h => h
                    · exact Or.inl ⟨by rfl, by intro w hSw; go_simp; try with_reducible rfl⟩
                    · assumption
                    try simp only [Act.put, List.setIfInBounds_toArray, List.set_cons_zero, List.set_cons_succ]
                    apply wpAnyH_take (i := 3)
                    · simp only [List.getElem?_toArray]; rfl
                    · kernel_rfl
                    · kernel_rfl
                    · kernel_rfl
                    · exact fun _ _ _ h => h
                    · exact Or.inl ⟨by rfl, by intro w hSw; go_simp; try with_reducible rfl⟩
                    · assumption
                    try simp only [Act.put, List.setIfInBounds_toArray, List.set_cons_zero, List.set_cons_succ]
                    apply wpAnyH_take (i := 4)
                    · simp only [List.getElem?_toArray]; rfl
                    · kernel_rfl
                    · kernel_rfl
                    · kernel_rfl
                    · exact fun _ _ _ h => h
                    · exact Or.inl ⟨by rfl, by intro w hSw; have q0 := HS2.out w hSw; go_simp; try with_reducible rfl⟩
                    · assumption
                    try simp only [Act.put, List.setIfInBounds_toArray, List.set_cons_zero, List.set_cons_succ]
                    apply wpAnyH_take (i := 5)
                    · simp only [List.getElem?_toArray]; rfl
                    · kernel_rfl
                    · kernel_rfl
                    · kernel_rfl
                    · exact fun _ _ _ h => h
                    · exact Or.inl ⟨by rfl, by intro w hSw; go_simp; try with_reducible rfl⟩
                    · assumption
                    try simp only [Act.put, List.setIfInBounds_toArray, List.set_cons_zero, List.set_cons_succ]
                    apply wpAnyH_take (i := 6)
                    · simp only [List.getElem?_toArray]; rfl
                    · kernel_rfl
                    · kernel_rfl
                    · kernel_rfl
                    · exact fun _ _ _ h => h
                    · exact Or.inl ⟨by rfl, by intro w hSw; go_simp; try with_reducible rfl⟩
                    · assumption
                    try simp only [Act.put, List.setIfInBounds_toArray, List.set_cons_zero, List.set_cons_succ]
                    apply wpAnyH_take (i := 7)
                    · simp only [List.getElem?_toArray]; rfl
                    · kernel_rfl
                    · kernel_rfl
                    · kernel_rfl
                    · exact fun _ _ _ h => h
                    · exact yields_sub (by rfl) _ _ rfl ((j : Int) + 1) 1 (j : Int) rfl rfl (by omega) (by omega) (by omega)
                    · assumption
                    try simp only [Act.put, List.setIfInBounds_toArray, List.set_cons_zero, List.set_cons_succ]
                    apply wpAnyH_take (i := 8)
                    · simp only [List.getElem?_toArray]; rfl
                    · kernel_rfl
                    · kernel_rfl
                    · kernel_rfl
                    · exact fun _ _ _ h => h
                    · exact yields_index (by rfl) _ _ rfl g n lc j rfl rfl (by omega)
                    · assumption
                    try simp only [Act.put, List.setIfInBounds_toArray, List.set_cons_zero, List.set_cons_succ]
                    apply wpAnyH_take (i := 9)
                    · simp only [List.getElem?_toArray]; rfl
                    · kernel_rfl
                    · kernel_rfl
                    · kernel_rfl
                    · exact fun _ _ _ h => h
                    · exact Or.inl ⟨by rfl, by intro w hSw; go_simp; try with_reducible rfl⟩
                    · assumption
                    try simp only [Act.put, List.setIfInBounds_toArray, List.set_cons_zero, List.set_cons_succ]
                    apply wpAnyH_take (i := 10)
                    · simp only [List.getElem?_toArray]; rfl
                    · kernel_rfl
                    · kernel_rfl
                    · kernel_rfl
                    · exact fun _ _ _ h => h
                    · exact Or.inl ⟨by rfl, by intro w hSw; have q0 := HS1.out w hSw; go_simp; try with_reducible rfl⟩
                    · assumption
                    try simp only [Act.put, List.setIfInBounds_toArray, List.set_cons_zero, List.set_cons_succ]
                    apply wpAnyH_take (i := 11)
                    · simp only [List.getElem?_toArray]; rfl
                    · kernel_rfl
                    · kernel_rfl
                    · kernel_rfl
                    · exact fun _ _ _ h => h
                    · exact yields_leqF (by rfl) _ _ rfl ry.fr rx.fr rfl rfl (by omega)
                    · assumption
                    try simp only [Act.put, List.setIfInBounds_toArray, List.set_cons_zero, List.set_cons_succ]
                    apply wpAnyH_take (i := 12)
                    · simp only [List.getElem?_toArray]; rfl
                    · kernel_rfl
                    · kernel_rfl
                    · kernel_rfl
                    · exact fun _ _ _ h => h
                    · exact Or.inl ⟨by rfl, by intro w hSw; go_simp; try with_reducible rfl⟩
                    · assumption
                    try simp only [Act.put, List.setIfInBounds_toArray, List.set_cons_zero, List.set_cons_succ]
                    apply wpAnyH_take (i := 13)
                    · simp only [List.getElem?_toArray]; rfl
                    · kernel_rfl
                    · kernel_rfl
                    · kernel_rfl
                    · exact fun _ _ _ h => h
                    · exact Or.inl ⟨by rfl, by intro w hSw; go_simp; try with_reducible rfl⟩
                    · assumption
                    try simp only [Act.put, List.setIfInBounds_toArray, List.set_cons_zero, List.set_cons_succ]
                    apply wpAnyH_take (i := 14)
                    · simp only [List.getElem?_toArray]; rfl
                    · kernel_rfl
                    · kernel_rfl
                    · kernel_rfl
                    · exact fun _ _ _ h => h
                    · exact Or.inl ⟨by rfl, by intro w hSw; go_simp; try with_reducible rfl⟩
                    · assumption
                    try simp only [Act.put, List.setIfInBounds_toArray, List.set_cons_zero, List.set_cons_succ]
                    apply wpAnyH_take (i := 15)
                    · simp only [List.getElem?_toArray]; rfl
                    · kernel_rfl
                    · kernel_rfl
                    · kernel_rfl
                    · exact fun _ _ _ h => h
                    · exact Or.inl ⟨by rfl, by intro w hSw; go_simp; try with_reducible rfl⟩
                    · assumption
                    try simp only [Act.put, List.setIfInBounds_toArray, List.set_cons_zero, List.set_cons_succ]
                    apply wpAnyH_take (i := 16)
                    · simp only [List.getElem?_toArray]; rfl
                    · kernel_rfl
                    · kernel_rfl
                    · kernel_rfl
                    · exact fun _ _ _ h => h
                    · exact Or.inl ⟨by rfl, by intro w hSw; go_simp; try with_reducible rfl⟩
                    · assumption
                    try simp only [Act.put, List.setIfInBounds_toArray, List.set_cons_zero, List.set_cons_succ]
                    apply wpAnyH_take (i := 17)
                    · simp only [List.getElem?_toArray]; rfl
                    · kernel_rfl
                    · kernel_rfl
                    · kernel_rfl
                    · exact fun _ _ _ h => h
                    · exact Or.inl ⟨by rfl, by intro w hSw; have q0 := HS3.out w hSw; go_simp; try with_reducible rfl⟩
                    · assumption
                    try simp only [Act.put, List.setIfInBounds_toArray, List.set_cons_zero, List.set_cons_succ]
                    apply wpAnyH_take (i := 18)
                    · simp only [List.getElem?_toArray]; rfl
                    · kernel_rfl
                    · kernel_rfl
                    · kernel_rfl
                    · exact fun _ _ _ h => h
                    · exact Or.inl ⟨by rfl, by intro w hSw; go_simp; try with_reducible rfl⟩
                    · assumption
                    try simp only [Act.put, List.setIfInBounds_toArray, List.set_cons_zero, List.set_cons_succ]
                    apply wpAnyH_take (i := 19)
                    · simp only [List.getElem?_toArray]; rfl
                    · kernel_rfl
                    · kernel_rfl
                    · kernel_rfl
                    · exact fun _ _ _ h => h
                    · exact Or.inl ⟨by rfl, by intro w hSw; go_simp; try with_reducible rfl⟩
                    · assumption
                    try simp only [Act.put, List.setIfInBounds_toArray, List.set_cons_zero, List.set_cons_succ]
                    apply wpAnyH_take (i := 20)
                    · simp only [List.getElem?_toArray]; rfl
                    · kernel_rfl
                    · kernel_rfl
                    · kernel_rfl
                    · exact fun _ _ _ h => h
                    · exact Or.inl ⟨by rfl, by intro w hSw; go_simp; try with_reducible rfl⟩
                    · assumption
                    try simp only [Act.put, List.setIfInBounds_toArray, List.set_cons_zero, List.set_cons_succ]
                    apply wpAnyH_take (i := 21)
                    · simp only [List.getElem?_toArray]; rfl
                    · kernel_rfl
                    · kernel_rfl
                    · kernel_rfl
                    · exact fun _ _ _ h => h
                    · exact Or.inl ⟨by rfl, by intro w hSw; go_simp; try with_reducible rfl⟩
                    · assumption
                    try simp only [Act.put, List.setIfInBounds_toArray, List.set_cons_zero, List.set_cons_succ]
                    apply wpAnyH_take (i := 22)
                    · simp only [List.getElem?_toArray]; rfl
                    · kernel_rfl
                    · kernel_rfl
                    · kernel_rfl
                    · exact fun _ _ _ h => h
                    · exact Or.inl ⟨by rfl, by intro w hSw; have q0 := HS2.out w hSw; go_simp; try with_reducible rfl⟩
                    · assumption
                    try simp only [Act.put, List.setIfInBounds_toArray, List.set_cons_zero, List.set_cons_succ]
                    apply wpAnyH_take (i := 23)
                    · simp only [List.getElem?_toArray]; rfl
                    · kernel_rfl
                    · kernel_rfl
                    · kernel_rfl
                    · exact fun _ _ _ h => h
                    · exact yields_leqF (by rfl) _ _ rfl ry.to ry.fr rfl rfl (by omega)
                    · assumption
                    try simp only [Act.put, List.setIfInBounds_toArray, List.set_cons_zero, List.set_cons_succ]
                    apply wpAnyH_take (i := 24)
                    · simp only [List.getElem?_toArray]; rfl
                    · kernel_rfl
                    · kernel_rfl
                    · kernel_rfl
                    · exact fun _ _ _ h => h
                    · exact Or.inl ⟨by rfl, by intro w hSw; go_simp; try with_reducible rfl⟩
                    · assumption
                    try simp only [Act.put, List.setIfInBounds_toArray, List.set_cons_zero, List.set_cons_succ]
                    refine wpAnyH_done (by kernel_rfl) ?_ _
                    refine NoPanic.normal ?_
                    have HFIN := Lib.hid (show Keeps [] W8 wr.drew from HKJ.out.drew)
                    clear hHeld hSD HS1 HS2 HS3 HSE3 HX HYR HKJ
                    go_wp2_with fail
                    go_roundw
                    case rel => exact ⟨j + 1, by go_num, by omega, HFIN.out⟩
                    case measure => simp [intOf]; omega
                  · obtain rfl : n = j + 1 := by omega
                    clear hjl hj
                    have HKX := Lib.hid (show Keeps [] W8 wr from HKJ.out)
                    have HT := Lib.hid (HE.out wr HKX.out)
                    have c9 : wr.cell? ⟨q0, 9, none⟩ = some (.int .u8 r0.st) := by have := HT.out.1 9 _ (show (rwC r0)[9]? = some (.int .u8 r0.st) from rfl); simpa using this
                    clear HKJ HT
                    obtain ⟨cw, hcw⟩ : ∃ cw, cw = wr := ⟨_, rfl⟩
                    subst hcw
                    have hst := (rwBefore_iff.1 bab).1
                    rw [hst] at c9
                    have HW := Lib.hid (works_true cw)
                    go_wp2_with fail
                    refine (HW.out).mono ?_; rintro e z9 ⟨rfl, hk⟩
                    have HK9 := Lib.hid ((HKW8.out.trans HKX.out (FSub.refl _ _)).trans hk (FSub.refl _ _))
                    clear hk HW
                    go_wp2_with fail
                    go_ret
                    exact ⟨rfl, HK9.out⟩
              | true =>
                cases bad : rwBefore r0 r3 with
                | true =>
                  have HBF := Lib.hid (bf_of cw bab)
                  have HT := Lib.hid (HE.out cw HKX.out)
                  go_wp2_with (first
                    | ((with_reducible refine wpList_loadP (g := q0) (off := 0) (y := r0) ?_ ?_ HT.out.1 ?_); exact rfl; exact rfl)
                    | ((with_reducible refine wpList_loadP (g := q1) (off := 0) (y := r1) ?_ ?_ HT.out.2.1 ?_); exact rfl; exact rfl)
                    | ((with_reducible refine wpList_loadP (g := q2) (off := 0) (y := r2) ?_ ?_ HT.out.2.2.1 ?_); exact rfl; exact rfl)
                    | ((with_reducible refine wpList_loadP (g := q3) (off := 0) (y := r3) ?_ ?_ HT.out.2.2.2 ?_); exact rfl; exact rfl))
                  refine (HBF.out).mono ?_
                  clear HBF HT
                  rintro e cw ⟨rfl, hk⟩
                  have HKX := Lib.hid (HKX.out.trans hk (FSub.refl _ _))
                  clear hk
                  have HBF := Lib.hid (bf_of cw bcd)
                  have HT := Lib.hid (HE.out cw HKX.out)
                  go_wp2_with (first
                    | ((with_reducible refine wpList_loadP (g := q0) (off := 0) (y := r0) ?_ ?_ HT.out.1 ?_); exact rfl; exact rfl)
                    | ((with_reducible refine wpList_loadP (g := q1) (off := 0) (y := r1) ?_ ?_ HT.out.2.1 ?_); exact rfl; exact rfl)
                    | ((with_reducible refine wpList_loadP (g := q2) (off := 0) (y := r2) ?_ ?_ HT.out.2.2.1 ?_); exact rfl; exact rfl)
                    | ((with_reducible refine wpList_loadP (g := q3) (off := 0) (y := r3) ?_ ?_ HT.out.2.2.2 ?_); exact rfl; exact rfl))
                  refine (HBF.out).mono ?_
                  clear HBF HT
                  rintro e cw ⟨rfl, hk⟩
                  have HKX := Lib.hid (HKX.out.trans hk (FSub.refl _ _))
                  clear hk
                  have HBF := Lib.hid (bf_of cw bad)
                  have HT := Lib.hid (HE.out cw HKX.out)
                  go_wp2_with (first
                    | ((with_reducible refine wpList_loadP (g := q0) (off := 0) (y := r0) ?_ ?_ HT.out.1 ?_); exact rfl; exact rfl)
                    | ((with_reducible refine wpList_loadP (g := q1) (off := 0) (y := r1) ?_ ?_ HT.out.2.1 ?_); exact rfl; exact rfl)
                    | ((with_reducible refine wpList_loadP (g := q2) (off := 0) (y := r2) ?_ ?_ HT.out.2.2.1 ?_); exact rfl; exact rfl)
                    | ((with_reducible refine wpList_loadP (g := q3) (off := 0) (y := r3) ?_ ?_ HT.out.2.2.2 ?_); exact rfl; exact rfl))
                  refine (HBF.out).mono ?_
                  clear HBF HT
                  rintro e cw ⟨rfl, hk⟩
                  have HKX := Lib.hid (HKX.out.trans hk (FSub.refl _ _))
                  clear hk
                  go_wp2_with fail
                  go_loopw [15] (fun i wr => ∃ j : Nat, i = .int .i64 ((j : Int) + 1) ∧ j + 1 ≤ n ∧ Keeps [] W8 wr) (fun i _ => n - (intOf i).toNat)
                  case atStart => exact ⟨0, rfl, by omega, HKX.out⟩
                  case round =>
                    obtain ⟨j, rfl, hj, hkj⟩ := hrel
                    have HKJ := Lib.hid hkj
                    clear hkj
                    by_cases hjl : j + 1 < n
                    · have hjl2 : (j : Int) + 1 < n := by omega
                      have hjl3 : (j : Int) < n := by omega
                      have hjl4 : (0 : Int) ≤ (j : Int) + 1 ∧ (j : Int) + 1 < n := by omega
                      have l1 : j < t.L.length := by have := HNN.out; omega
                      have l2 : j + 1 < t.L.length := by have := HNN.out; omega
                      obtain ⟨g', cap, hg, -, -, -, -, hrow⟩ := HLV8.out.at (fun e => by rw [e] at l1; simp at l1)
                      simp only [Value.slice.injEq, Option.some.injEq, Addr.mk.injEq, and_true] at hg
                      obtain ⟨rfl, -, rfl⟩ := hg
                      have HX := Lib.hid (show W8.rangeAt g (j * 12) (rwC t.L[j]) from hrow j l1)
                      have HYR := Lib.hid (show W8.rangeAt g ((j + 1) * 12) (rwC t.L[j + 1]) from hrow (j + 1) l2)
                      have hs1 := HOK.out.sorted l2 (Nat.lt_succ_self j)
                      have hs2 := (HOK.out.rows _ (List.getElem_mem l2)).lt HOK.out.hi
                      clear hrow
                      generalize t.L[j] = rx at *
                      generalize t.L[j + 1] = ry at *
                      have hs3 : ¬ ry.fr ≤ rx.fr := by omega
                      have hs4 : ¬ ry.to ≤ ry.fr := by omega
                      clear l1 l2 hs1 hs2
                      go_wp2_with fail
                      obtain ⟨S3, hS⟩ : ∃ S3 : World → Prop, S3 = fun z => Keeps [] wr z := ⟨_, rfl⟩
                      have HSE3 := Lib.hid hS
                      have hSD : S3 wr.drew := by rw [hS]; exact (Keeps.refl _ _).drew
                      have HS1 := Lib.hid (fun (w' : World) (h : S3 w') => show w'.cell? ⟨g, j * 12 + 10, none⟩ = some (.int .i64 rx.fr) from by rw [hS] at h; exact (HKJ.out.trans h (FSub.refl _ _)).cell (HX.out 10 _ rfl) (by simp))
                      have HS2 := Lib.hid (fun (w' : World) (h : S3 w') => show w'.cell? ⟨g, (j + 1) * 12 + 10, none⟩ = some (.int .i64 ry.fr) from by rw [hS] at h; exact (HKJ.out.trans h (FSub.refl _ _)).cell (HYR.out 10 _ rfl) (by simp))
                      have HS3 := Lib.hid (fun (w' : World) (h : S3 w') => show w'.cell? ⟨g, (j + 1) * 12 + 11, none⟩ = some (.int .i64 ry.to) from by rw [hS] at h; exact (HKJ.out.trans h (FSub.refl _ _)).cell (HYR.out 11 _ rfl) (by simp))
                      clear hS
                      refine wp_region_noPanic ?_
                      refine wp_region_held_drew (S := S3) (by kernel_rfl) hSD (fun hHeld => ?_)
                      apply wpAnyH_take (i := 0)
                      · simp only [List.getElem?_toArray]; rfl
                      · kernel_rfl
                      · kernel_rfl
                      · kernel_rfl
                      · exact fun _ _ _ h => h
                      · exact Or.inl ⟨by rfl, by intro w hSw; go_simp; try with_reducible rfl⟩
                      · assumption
                      try simp only [Act.put, List.setIfInBounds_toArray, List.set_cons_zero, List.set_cons_succ]
                      apply wpAnyH_take (i := 1)
                      · simp only [List.getElem?_toArray]; rfl
                      · kernel_rfl
                      · kernel_rfl
                      · kernel_rfl
                      · exact fun _ _ _ h => h
                      · exact Or.inl ⟨by rfl, by intro w hSw; go_simp; try with_reducible rfl⟩
                      · assumption
                      try simp only [Act.put, List.setIfInBounds_toArray, List.set_cons_zero, List.set_cons_succ]
                      apply wpAnyH_take (i := 2)
                      · simp only [List.getElem?_toArray]; rfl
                      · kernel_rfl
                      · kernel_rfl
                      · kernel_rfl
                      · exact fun _ _ _ h => h
                      · exact Or.inl ⟨by rfl, by intro w hSw; go_simp; try with_reducible rfl⟩
                      · assumption
                      try simp only [Act.put, List.setIfInBounds_toArray, List.set_cons_zero, List.set_cons_succ]
                      apply wpAnyH_take (i := 3)
                      · simp only [List.getElem?_toArray]; rfl
                      · kernel_rfl
                      · kernel_rfl
                      · kernel_rfl
                      · exact fun _ _ _ h => h
                      · exact Or.inl ⟨by rfl, by intro w hSw; go_simp; try with_reducible rfl⟩
                      · assumption
                      try simp only [Act.put, List.setIfInBounds_toArray, List.set_cons_zero, List.set_cons_succ]
                      apply wpAnyH_take (i := 4)
                      · simp only [List.getElem?_toArray]; rfl
                      · kernel_rfl
                      · kernel_rfl
                      · kernel_rfl
                      · exact fun _ _ _ h => h
                      · exact Or.inl ⟨by rfl, by intro w hSw; have q0 := HS2.out w hSw; go_simp; try with_reducible rfl⟩
                      · assumption
                      try simp only [Act.put, List.setIfInBounds_toArray, List.set_cons_zero, List.set_cons_succ]
                      apply wpAnyH_take (i := 5)
                      · simp only [List.getElem?_toArray]; rfl
                      · kernel_rfl
                      · kernel_rfl
                      · kernel_rfl
                      · exact fun _ _ _ h => h
                      · exact Or.inl ⟨by rfl, by intro w hSw; go_simp; try with_reducible rfl⟩
                      · assumption
                      try simp only [Act.put, List.setIfInBounds_toArray, List.set_cons_zero, List.set_cons_succ]
                      apply wpAnyH_take (i := 6)
                      · simp only [List.getElem?_toArray]; rfl
                      · kernel_rfl
                      · kernel_rfl
                      · kernel_rfl
                      · exact fun _ _ _ h => h
                      · exact Or.inl ⟨by rfl, by intro w hSw; go_simp; try with_reducible rfl⟩
                      · assumption
                      try simp only [Act.put, List.setIfInBounds_toArray, List.set_cons_zero, List.set_cons_succ]
                      apply wpAnyH_take (i := 7)
                      · simp only [List.getElem?_toArray]; rfl
                      · kernel_rfl
                      · kernel_rfl
                      · kernel_rfl
                      · exact fun _ _ _ h => h
                      · exact yields_sub (by rfl) _ _ rfl ((j : Int) + 1) 1 (j : Int) rfl rfl (by omega) (by omega) (by omega)
                      · assumption
                      try simp only [Act.put, List.setIfInBounds_toArray, List.set_cons_zero, List.set_cons_succ]
                      apply wpAnyH_take (i := 8)
                      · simp only [List.getElem?_toArray]; rfl
                      · kernel_rfl
                      · kernel_rfl
                      · kernel_rfl
                      · exact fun _ _ _ h => h
                      · exact yields_index (by rfl) _ _ rfl g n lc j rfl rfl (by omega)
                      · assumption
                      try simp only [Act.put, List.setIfInBounds_toArray, List.set_cons_zero, List.set_cons_succ]
                      apply wpAnyH_take (i := 9)
                      · simp only [List.getElem?_toArray]; rfl
                      · kernel_rfl
                      · kernel_rfl
                      · kernel_rfl
                      · exact fun _ _ _ h => h
                      · exact Or.inl ⟨by rfl, by intro w hSw; go_simp; try with_reducible rfl⟩
                      · assumption
                      try simp only [Act.put, List.setIfInBounds_toArray, List.set_cons_zero, List.set_cons_succ]
                      apply wpAnyH_take (i := 10)
                      · simp only [List.getElem?_toArray]; rfl
                      · kernel_rfl
                      · kernel_rfl
                      · kernel_rfl
                      · exact fun _ _ _ h => h
                      · exact Or.inl ⟨by rfl, by intro w hSw; have q0 := HS1.out w hSw; go_simp; try with_reducible rfl⟩
                      · assumption
                      try simp only [Act.put, List.setIfInBounds_toArray, List.set_cons_zero, List.set_cons_succ]
                      apply wpAnyH_take (i := 11)
                      · simp only [List.getElem?_toArray]; rfl
                      · kernel_rfl
                      · kernel_rfl
                      · kernel_rfl
                      · exact fun _ _ _ h => h
                      · exact yields_leqF (by rfl) _ _ rfl ry.fr rx.fr rfl rfl (by omega)
                      · assumption
                      try simp only [Act.put, List.setIfInBounds_toArray, List.set_cons_zero, List.set_cons_succ]
                      apply wpAnyH_take (i := 12)
                      · simp only [List.getElem?_toArray]; rfl
                      · kernel_rfl
                      · kernel_rfl
                      · kernel_rfl
                      · exact fun _ _ _ h => h
                      · exact Or.inl ⟨by rfl, by intro w hSw; go_simp; try with_reducible rfl⟩
                      · assumption
                      try simp only [Act.put, List.setIfInBounds_toArray, List.set_cons_zero, List.set_cons_succ]
                      apply wpAnyH_take (i := 13)
                      · simp only [List.getElem?_toArray]; rfl
                      · kernel_rfl
                      · kernel_rfl
                      · kernel_rfl
                      · exact fun _ _ _ h => h
                      · exact Or.inl ⟨by rfl, by intro w hSw; go_simp; try with_reducible rfl⟩
                      · assumption
                      try simp only [Act.put, List.setIfInBounds_toArray, List.set_cons_zero, List.set_cons_succ]
                      apply wpAnyH_take (i := 14)
                      · simp only [List.getElem?_toArray]; rfl
                      · kernel_rfl
                      · kernel_rfl
                      · kernel_rfl
                      · exact fun _ _ _ h => h
                      · exact Or.inl ⟨by rfl, by intro w hSw; go_simp; try with_reducible rfl⟩
                      · assumption
                      try simp only [Act.put, List.setIfInBounds_toArray, List.set_cons_zero, List.set_cons_succ]
                      apply wpAnyH_take (i := 15)
                      · simp only [List.getElem?_toArray]; rfl
                      · kernel_rfl
                      · kernel_rfl
                      · kernel_rfl
                      · exact fun _ _ _ h => h
                      · exact Or.inl ⟨by rfl, by intro w hSw; go_simp; try with_reducible rfl⟩
                      · assumption
                      try simp only [Act.put, List.setIfInBounds_toArray, List.set_cons_zero, List.set_cons_succ]
                      apply wpAnyH_take (i := 16)
                      · simp only [List.getElem?_toArray]; rfl
                      · kernel_rfl
                      · kernel_rfl
                      · kernel_rfl
                      · exact fun _ _ _ h => h
                      · exact Or.inl ⟨by rfl, by intro w hSw; go_simp; try with_reducible rfl⟩
                      · assumption
                      try simp only [Act.put, List.setIfInBounds_toArray, List.set_cons_zero, List.set_cons_succ]
                      apply wpAnyH_take (i := 17)
                      · simp only [List.getElem?_toArray]; rfl
                      · kernel_rfl
                      · kernel_rfl
                      · kernel_rfl
                      · exact fun _ _ _ h => h
                      · exact Or.inl ⟨by rfl, by intro w hSw; have q0 := HS3.out w hSw; go_simp; try with_reducible rfl⟩
                      · assumption
                      try simp only [Act.put, List.setIfInBounds_toArray, List.set_cons_zero, List.set_cons_succ]
                      apply wpAnyH_take (i := 18)
                      · simp only [List.getElem?_toArray]; rfl
                      · kernel_rfl
                      · kernel_rfl
                      · kernel_rfl
                      · exact fun _ _ _ h => h
                      · exact Or.inl ⟨by rfl, by intro w hSw; go_simp; try with_reducible rfl⟩
                      · assumption
                      try simp only [Act.put, List.setIfInBounds_toArray, List.set_cons_zero, List.set_cons_succ]
                      apply wpAnyH_take (i := 19)
                      · simp only [List.getElem?_toArray]; rfl
                      · kernel_rfl
                      · kernel_rfl
                      · kernel_rfl
                      · exact fun _ _ _ h => h
                      · exact Or.inl ⟨by rfl, by intro w hSw; go_simp; try with_reducible rfl⟩
                      · assumption
                      try simp only [Act.put, List.setIfInBounds_toArray, List.set_cons_zero, List.set_cons_succ]
                      apply wpAnyH_take (i := 20)
                      · simp only [List.getElem?_toArray]; rfl
                      · kernel_rfl
                      · kernel_rfl
                      · kernel_rfl
                      · exact fun _ _ _ h => h
                      · exact Or.inl ⟨by rfl, by intro w hSw; go_simp; try with_reducible rfl⟩
                      · assumption
                      try simp only [Act.put, List.setIfInBounds_toArray, List.set_cons_zero, List.set_cons_succ]
                      apply wpAnyH_take (i := 21)
                      · simp only [List.getElem?_toArray]; rfl
                      · kernel_rfl
                      · kernel_rfl
                      · kernel_rfl
                      · exact fun _ _ _ h => h
                      · exact Or.inl ⟨by rfl, by intro w hSw; go_simp; try with_reducible rfl⟩
                      · assumption
                      try simp only [Act.put, List.setIfInBounds_toArray, List.set_cons_zero, List.set_cons_succ]
                      apply wpAnyH_take (i := 22)
                      · simp only [List.getElem?_toArray]; rfl
                      · kernel_rfl
                      · kernel_rfl
                      · kernel_rfl
                      · exact fun _ _ _ h => h
                      · exact Or.inl ⟨by rfl, by intro w hSw; have q0 := HS2.out w hSw; go_simp; try with_reducible rfl⟩
                      · assumption
                      try simp only [Act.put, List.setIfInBounds_toArray, List.set_cons_zero, List.set_cons_succ]
                      apply wpAnyH_take (i := 23)
                      · simp only [List.getElem?_toArray]; rfl
                      · kernel_rfl
                      · kernel_rfl
                      · kernel_rfl
                      · exact fun _ _ _ h => h
                      · exact yields_leqF (by rfl) _ _ rfl ry.to ry.fr rfl rfl (by omega)
                      · assumption
                      try simp only [Act.put, List.setIfInBounds_toArray, List.set_cons_zero, List.set_cons_succ]
                      apply wpAnyH_take (i := 24)
                      · simp only [List.getElem?_toArray]; rfl
                      · kernel_rfl
                      · kernel_rfl
                      · kernel_rfl
                      · exact fun _ _ _ h => h
                      · exact Or.inl ⟨by rfl, by intro w hSw; go_simp; try with_reducible rfl⟩
                      · assumption
                      try simp only [Act.put, List.setIfInBounds_toArray, List.set_cons_zero, List.set_cons_succ]
                      refine wpAnyH_done (by kernel_rfl) ?_ _
                      refine NoPanic.normal ?_
                      have HFIN := Lib.hid (show Keeps [] W8 wr.drew from HKJ.out.drew)
                      clear hHeld hSD HS1 HS2 HS3 HSE3 HX HYR HKJ
                      go_wp2_with fail
                      go_roundw
                      case rel => exact ⟨j + 1, by go_num, by omega, HFIN.out⟩
                      case measure => simp [intOf]; omega
                    · obtain rfl : n = j + 1 := by omega
                      clear hjl hj
                      have HKX := Lib.hid (show Keeps [] W8 wr from HKJ.out)
                      have HT := Lib.hid (HE.out wr HKX.out)
                      have c9 : wr.cell? ⟨q0, 9, none⟩ = some (.int .u8 r0.st) := by have := HT.out.1 9 _ (show (rwC r0)[9]? = some (.int .u8 r0.st) from rfl); simpa using this
                      clear HKJ HT
                      obtain ⟨cw, hcw⟩ : ∃ cw, cw = wr := ⟨_, rfl⟩
                      subst hcw
                      have hst := (rwBefore_iff.1 bab).1
                      rw [hst] at c9
                      have HW := Lib.hid (works_true cw)
                      go_wp2_with fail
                      refine (HW.out).mono ?_; rintro e z9 ⟨rfl, hk⟩
                      have HK9 := Lib.hid ((HKW8.out.trans HKX.out (FSub.refl _ _)).trans hk (FSub.refl _ _))
                      clear hk HW
                      go_wp2_with fail
                      go_ret
                      exact ⟨rfl, HK9.out⟩
                | false =>
                  have bcb : rwBefore r2 r1 = true := by
                    rcases rwBefore_two bab bcd with h | h
                    · rw [bad] at h; cases h
                    · exact h
                  have HBF := Lib.hid (bf_of cw bab)
                  have HT := Lib.hid (HE.out cw HKX.out)
                  go_wp2_with (first
                    | ((with_reducible refine wpList_loadP (g := q0) (off := 0) (y := r0) ?_ ?_ HT.out.1 ?_); exact rfl; exact rfl)
                    | ((with_reducible refine wpList_loadP (g := q1) (off := 0) (y := r1) ?_ ?_ HT.out.2.1 ?_); exact rfl; exact rfl)
                    | ((with_reducible refine wpList_loadP (g := q2) (off := 0) (y := r2) ?_ ?_ HT.out.2.2.1 ?_); exact rfl; exact rfl)
                    | ((with_reducible refine wpList_loadP (g := q3) (off := 0) (y := r3) ?_ ?_ HT.out.2.2.2 ?_); exact rfl; exact rfl))
                  refine (HBF.out).mono ?_
                  clear HBF HT
                  rintro e cw ⟨rfl, hk⟩
                  have HKX := Lib.hid (HKX.out.trans hk (FSub.refl _ _))
                  clear hk
                  have HBF := Lib.hid (bf_of cw bcd)
                  have HT := Lib.hid (HE.out cw HKX.out)
                  go_wp2_with (first
                    | ((with_reducible refine wpList_loadP (g := q0) (off := 0) (y := r0) ?_ ?_ HT.out.1 ?_); exact rfl; exact rfl)
                    | ((with_reducible refine wpList_loadP (g := q1) (off := 0) (y := r1) ?_ ?_ HT.out.2.1 ?_); exact rfl; exact rfl)
                    | ((with_reducible refine wpList_loadP (g := q2) (off := 0) (y := r2) ?_ ?_ HT.out.2.2.1 ?_); exact rfl; exact rfl)
                    | ((with_reducible refine wpList_loadP (g := q3) (off := 0) (y := r3) ?_ ?_ HT.out.2.2.2 ?_); exact rfl; exact rfl))
                  refine (HBF.out).mono ?_
                  clear HBF HT
                  rintro e cw ⟨rfl, hk⟩
                  have HKX := Lib.hid (HKX.out.trans hk (FSub.refl _ _))
                  clear hk
                  have HBF := Lib.hid (bf_of cw bad)
                  have HT := Lib.hid (HE.out cw HKX.out)
                  go_wp2_with (first
                    | ((with_reducible refine wpList_loadP (g := q0) (off := 0) (y := r0) ?_ ?_ HT.out.1 ?_); exact rfl; exact rfl)
                    | ((with_reducible refine wpList_loadP (g := q1) (off := 0) (y := r1) ?_ ?_ HT.out.2.1 ?_); exact rfl; exact rfl)
                    | ((with_reducible refine wpList_loadP (g := q2) (off := 0) (y := r2) ?_ ?_ HT.out.2.2.1 ?_); exact rfl; exact rfl)
                    | ((with_reducible refine wpList_loadP (g := q3) (off := 0) (y := r3) ?_ ?_ HT.out.2.2.2 ?_); exact rfl; exact rfl))
                  refine (HBF.out).mono ?_
                  clear HBF HT
                  rintro e cw ⟨rfl, hk⟩
                  have HKX := Lib.hid (HKX.out.trans hk (FSub.refl _ _))
                  clear hk
                  have HBF := Lib.hid (bf_of cw bcb)
                  have HT := Lib.hid (HE.out cw HKX.out)
                  go_wp2_with (first
                    | ((with_reducible refine wpList_loadP (g := q0) (off := 0) (y := r0) ?_ ?_ HT.out.1 ?_); exact rfl; exact rfl)
                    | ((with_reducible refine wpList_loadP (g := q1) (off := 0) (y := r1) ?_ ?_ HT.out.2.1 ?_); exact rfl; exact rfl)
                    | ((with_reducible refine wpList_loadP (g := q2) (off := 0) (y := r2) ?_ ?_ HT.out.2.2.1 ?_); exact rfl; exact rfl)
                    | ((with_reducible refine wpList_loadP (g := q3) (off := 0) (y := r3) ?_ ?_ HT.out.2.2.2 ?_); exact rfl; exact rfl))
                  refine (HBF.out).mono ?_
                  clear HBF HT
                  rintro e cw ⟨rfl, hk⟩
                  have HKX := Lib.hid (HKX.out.trans hk (FSub.refl _ _))
                  clear hk
                  go_wp2_with fail
                  go_loopw [15] (fun i wr => ∃ j : Nat, i = .int .i64 ((j : Int) + 1) ∧ j + 1 ≤ n ∧ Keeps [] W8 wr) (fun i _ => n - (intOf i).toNat)
                  case atStart => exact ⟨0, rfl, by omega, HKX.out⟩
                  case round =>
                    obtain ⟨j, rfl, hj, hkj⟩ := hrel
                    have HKJ := Lib.hid hkj
                    clear hkj
                    by_cases hjl : j + 1 < n
                    · have hjl2 : (j : Int) + 1 < n := by omega
                      have hjl3 : (j : Int) < n := by omega
                      have hjl4 : (0 : Int) ≤ (j : Int) + 1 ∧ (j : Int) + 1 < n := by omega
                      have l1 : j < t.L.length := by have := HNN.out; omega
                      have l2 : j + 1 < t.L.length := by have := HNN.out; omega
                      obtain ⟨g', cap, hg, -, -, -, -, hrow⟩ := HLV8.out.at (fun e => by rw [e] at l1; simp at l1)
                      simp only [Value.slice.injEq, Option.some.injEq, Addr.mk.injEq, and_true] at hg
                      obtain ⟨rfl, -, rfl⟩ := hg
                      have HX := Lib.hid (show W8.rangeAt g (j * 12) (rwC t.L[j]) from hrow j l1)
                      have HYR := Lib.hid (show W8.rangeAt g ((j + 1) * 12) (rwC t.L[j + 1]) from hrow (j + 1) l2)
                      have hs1 := HOK.out.sorted l2 (Nat.lt_succ_self j)
                      have hs2 := (HOK.out.rows _ (List.getElem_mem l2)).lt HOK.out.hi
                      clear hrow
                      generalize t.L[j] = rx at *
                      generalize t.L[j + 1] = ry at *
                      have hs3 : ¬ ry.fr ≤ rx.fr := by omega
                      have hs4 : ¬ ry.to ≤ ry.fr := by omega
                      clear l1 l2 hs1 hs2
                      go_wp2_with fail
                      obtain ⟨S3, hS⟩ : ∃ S3 : World → Prop, S3 = fun z => Keeps [] wr z := ⟨_, rfl⟩
                      have HSE3 := Lib.hid hS
                      have hSD : S3 wr.drew := by rw [hS]; exact (Keeps.refl _ _).drew
                      have HS1 := Lib.hid (fun (w' : World) (h : S3 w') => show w'.cell? ⟨g, j * 12 + 10, none⟩ = some (.int .i64 rx.fr) from by rw [hS] at h; exact (HKJ.out.trans h (FSub.refl _ _)).cell (HX.out 10 _ rfl) (by simp))
                      have HS2 := Lib.hid (fun (w' : World) (h : S3 w') => show w'.cell? ⟨g, (j + 1) * 12 + 10, none⟩ = some (.int .i64 ry.fr) from by rw [hS] at h; exact (HKJ.out.trans h (FSub.refl _ _)).cell (HYR.out 10 _ rfl) (by simp))
                      have HS3 := Lib.hid (fun (w' : World) (h : S3 w') => show w'.cell? ⟨g, (j + 1) * 12 + 11, none⟩ = some (.int .i64 ry.to) from by rw [hS] at h; exact (HKJ.out.trans h (FSub.refl _ _)).cell (HYR.out 11 _ rfl) (by simp))
                      clear hS
                      refine wp_region_noPanic ?_
                      refine wp_region_held_drew (S := S3) (by kernel_rfl) hSD (fun hHeld => ?_)
                      apply wpAnyH_take (i := 0)
                      · simp only [List.getElem?_toArray]; rfl
                      · kernel_rfl
                      · kernel_rfl
                      · kernel_rfl
                      · exact fun _ _ _ h => h
                      · exact Or.inl ⟨by rfl, by intro w hSw; go_simp; try with_reducible rfl⟩
                      · assumption
                      try simp only [Act.put, List.setIfInBounds_toArray, List.set_cons_zero, List.set_cons_succ]
                      apply wpAnyH_take (i := 1)
                      · simp only [List.getElem?_toArray]; rfl
                      · kernel_rfl
                      · kernel_rfl
                      · kernel_rfl
                      · exact fun _ _ _ h => h
                      · exact Or.inl ⟨by rfl, by intro w hSw; go_simp; try with_reducible rfl⟩
                      · assumption
                      try simp only [Act.put, List.setIfInBounds_toArray, List.set_cons_zero, List.set_cons_succ]
                      apply wpAnyH_take (i := 2)
                      · simp only [List.getElem?_toArray]; rfl
                      · kernel_rfl
                      · kernel_rfl
                      · kernel_rfl
                      · exact fun _ _ _ h => h
                      · exact Or.inl ⟨by rfl, by intro w hSw; go_simp; try with_reducible rfl⟩
                      · assumption
                      try simp only [Act.put, List.setIfInBounds_toArray, List.set_cons_zero, List.set_cons_succ]
                      apply wpAnyH_take (i := 3)
                      · simp only [List.getElem?_toArray]; rfl
                      · kernel_rfl
                      · kernel_rfl
                      · kernel_rfl
                      · exact fun _ _ _ h => h
                      · exact Or.inl ⟨by rfl, by intro w hSw; go_simp; try with_reducible rfl⟩
                      · assumption
                      try simp only [Act.put, List.setIfInBounds_toArray, List.set_cons_zero, List.set_cons_succ]
                      apply wpAnyH_take (i := 4)
                      · simp only [List.getElem?_toArray]; rfl
                      · kernel_rfl
                      · kernel_rfl
                      · kernel_rfl
                      · exact fun _ _ _ h => h
                      · exact Or.inl ⟨by rfl, by intro w hSw; have q0 := HS2.out w hSw; go_simp; try with_reducible rfl⟩
                      · assumption
                      try simp only [Act.put, List.setIfInBounds_toArray, List.set_cons_zero, List.set_cons_succ]
                      apply wpAnyH_take (i := 5)
                      · simp only [List.getElem?_toArray]; rfl
                      · kernel_rfl
                      · kernel_rfl
                      · kernel_rfl
                      · exact fun _ _ _ h => h
                      · exact Or.inl ⟨by rfl, by intro w hSw; go_simp; try with_reducible rfl⟩
                      · assumption
                      try simp only [Act.put, List.setIfInBounds_toArray, List.set_cons_zero, List.set_cons_succ]
                      apply wpAnyH_take (i := 6)
                      · simp only [List.getElem?_toArray]; rfl
                      · kernel_rfl
                      · kernel_rfl
                      · kernel_rfl
                      · exact fun _ _ _ h => h
                      · exact Or.inl ⟨by rfl, by intro w hSw; go_simp; try with_reducible rfl⟩
                      · assumption
                      try simp only [Act.put, List.setIfInBounds_toArray, List.set_cons_zero, List.set_cons_succ]
                      apply wpAnyH_take (i := 7)
                      · simp only [List.getElem?_toArray]; rfl
                      · kernel_rfl
                      · kernel_rfl
                      · kernel_rfl
                      · exact fun _ _ _ h => h
                      · exact yields_sub (by rfl) _ _ rfl ((j : Int) + 1) 1 (j : Int) rfl rfl (by omega) (by omega) (by omega)
                      · assumption
                      try simp only [Act.put, List.setIfInBounds_toArray, List.set_cons_zero, List.set_cons_succ]
                      apply wpAnyH_take (i := 8)
                      · simp only [List.getElem?_toArray]; rfl
                      · kernel_rfl
                      · kernel_rfl
                      · kernel_rfl
                      · exact fun _ _ _ h => h
                      · exact yields_index (by rfl) _ _ rfl g n lc j rfl rfl (by omega)
                      · assumption
                      try simp only [Act.put, List.setIfInBounds_toArray, List.set_cons_zero, List.set_cons_succ]
                      apply wpAnyH_take (i := 9)
                      · simp only [List.getElem?_toArray]; rfl
                      · kernel_rfl
                      · kernel_rfl
                      · kernel_rfl
                      · exact fun _ _ _ h => h
                      · exact Or.inl ⟨by rfl, by intro w hSw; go_simp; try with_reducible rfl⟩
                      · assumption
                      try simp only [Act.put, List.setIfInBounds_toArray, List.set_cons_zero, List.set_cons_succ]
                      apply wpAnyH_take (i := 10)
                      · simp only [List.getElem?_toArray]; rfl
                      · kernel_rfl
                      · kernel_rfl
                      · kernel_rfl
                      · exact fun _ _ _ h => h
                      · exact Or.inl ⟨by rfl, by intro w hSw; have q0 := HS1.out w hSw; go_simp; try with_reducible rfl⟩
                      · assumption
                      try simp only [Act.put, List.setIfInBounds_toArray, List.set_cons_zero, List.set_cons_succ]
                      apply wpAnyH_take (i := 11)
                      · simp only [List.getElem?_toArray]; rfl
                      · kernel_rfl
                      · kernel_rfl
                      · kernel_rfl
                      · exact fun _ _ _ h => h
                      · exact yields_leqF (by rfl) _ _ rfl ry.fr rx.fr rfl rfl (by omega)
                      · assumption
                      try simp only [Act.put, List.setIfInBounds_toArray, List.set_cons_zero, List.set_cons_succ]
                      apply wpAnyH_take (i := 12)
                      · simp only [List.getElem?_toArray]; rfl
                      · kernel_rfl
                      · kernel_rfl
                      · kernel_rfl
                      · exact fun _ _ _ h => h
                      · exact Or.inl ⟨by rfl, by intro w hSw; go_simp; try with_reducible rfl⟩
                      · assumption
                      try simp only [Act.put, List.setIfInBounds_toArray, List.set_cons_zero, List.set_cons_succ]
                      apply wpAnyH_take (i := 13)
                      · simp only [List.getElem?_toArray]; rfl
                      · kernel_rfl
                      · kernel_rfl
                      · kernel_rfl
                      · exact fun _ _ _ h => h
                      · exact Or.inl ⟨by rfl, by intro w hSw; go_simp; try with_reducible rfl⟩
                      · assumption
                      try simp only [Act.put, List.setIfInBounds_toArray, List.set_cons_zero, List.set_cons_succ]
                      apply wpAnyH_take (i := 14)
                      · simp only [List.getElem?_toArray]; rfl
                      · kernel_rfl
                      · kernel_rfl
                      · kernel_rfl
                      · exact fun _ _ _ h => h
                      · exact Or.inl ⟨by rfl, by intro w hSw; go_simp; try with_reducible rfl⟩
                      · assumption
                      try simp only [Act.put, List.setIfInBounds_toArray, List.set_cons_zero, List.set_cons_succ]
                      apply wpAnyH_take (i := 15)
                      · simp only [List.getElem?_toArray]; rfl
                      · kernel_rfl
                      · kernel_rfl
                      · kernel_rfl
                      · exact fun _ _ _ h => h
                      · exact Or.inl ⟨by rfl, by intro w hSw; go_simp; try with_reducible rfl⟩
                      · assumption
                      try simp only [Act.put, List.setIfInBounds_toArray, List.set_cons_zero, List.set_cons_succ]
                      apply wpAnyH_take (i := 16)
                      · simp only [List.getElem?_toArray]; rfl
                      · kernel_rfl
                      · kernel_rfl
                      · kernel_rfl
                      · exact fun _ _ _ h => h
                      · exact Or.inl ⟨by rfl, by intro w hSw; go_simp; try with_reducible rfl⟩
                      · assumption
                      try simp only [Act.put, List.setIfInBounds_toArray, List.set_cons_zero, List.set_cons_succ]
                      apply wpAnyH_take (i := 17)
                      · simp only [List.getElem?_toArray]; rfl
                      · kernel_rfl
                      · kernel_rfl
                      · kernel_rfl
                      · exact fun _ _ _ h => h
                      · exact Or.inl ⟨by rfl, by intro w hSw; have q0 := HS3.out w hSw; go_simp; try with_reducible rfl⟩
                      · assumption
                      try simp only [Act.put, List.setIfInBounds_toArray, List.set_cons_zero, List.set_cons_succ]
                      apply wpAnyH_take (i := 18)
                      · simp only [List.getElem?_toArray]; rfl
                      · kernel_rfl
                      · kernel_rfl
                      · kernel_rfl
                      · exact fun _ _ _ h => h
                      · exact Or.inl ⟨by rfl, by intro w hSw; go_simp; try with_reducible rfl⟩
                      · assumption
                      try simp only [Act.put, List.setIfInBounds_toArray, List.set_cons_zero, List.set_cons_succ]
                      apply wpAnyH_take (i := 19)
                      · simp only [List.getElem?_toArray]; rfl
                      · kernel_rfl
                      · kernel_rfl
                      · kernel_rfl
                      · exact fun _ _ _ h => h
                      · exact Or.inl ⟨by rfl, by intro w hSw; go_simp; try with_reducible rfl⟩
                      · assumption
                      try simp only [Act.put, List.setIfInBounds_toArray, List.set_cons_zero, List.set_cons_succ]
                      apply wpAnyH_take (i := 20)
                      · simp only [List.getElem?_toArray]; rfl
                      · kernel_rfl
                      · kernel_rfl
                      · kernel_rfl
                      · exact fun _ _ _ h => h
                      · exact Or.inl ⟨by rfl, by intro w hSw; go_simp; try with_reducible rfl⟩
                      · assumption
                      try simp only [Act.put, List.setIfInBounds_toArray, List.set_cons_zero, List.set_cons_succ]
                      apply wpAnyH_take (i := 21)
                      · simp only [List.getElem?_toArray]; rfl
                      · kernel_rfl
                      · kernel_rfl
                      · kernel_rfl
                      · exact fun _ _ _ h => h
                      · exact Or.inl ⟨by rfl, by intro w hSw; go_simp; try with_reducible rfl⟩
                      · assumption
                      try simp only [Act.put, List.setIfInBounds_toArray, List.set_cons_zero, List.set_cons_succ]
                      apply wpAnyH_take (i := 22)
                      · simp only [List.getElem?_toArray]; rfl
                      · kernel_rfl
                      · kernel_rfl
                      · kernel_rfl
                      · exact fun _ _ _ h => h
                      · exact Or.inl ⟨by rfl, by intro w hSw; have q0 := HS2.out w hSw; go_simp; try with_reducible rfl⟩
                      · assumption
                      try simp only [Act.put, List.setIfInBounds_toArray, List.set_cons_zero, List.set_cons_succ]
                      apply wpAnyH_take (i := 23)
                      · simp only [List.getElem?_toArray]; rfl
                      · kernel_rfl
                      · kernel_rfl
                      · kernel_rfl
                      · exact fun _ _ _ h => h
                      · exact yields_leqF (by rfl) _ _ rfl ry.to ry.fr rfl rfl (by omega)
                      · assumption
                      try simp only [Act.put, List.setIfInBounds_toArray, List.set_cons_zero, List.set_cons_succ]
                      apply wpAnyH_take (i := 24)
                      · simp only [List.getElem?_toArray]; rfl
                      · kernel_rfl
                      · kernel_rfl
                      · kernel_rfl
                      · exact fun _ _ _ h => h
                      · exact Or.inl ⟨by rfl, by intro w hSw; go_simp; try with_reducible rfl⟩
                      · assumption
                      try simp only [Act.put, List.setIfInBounds_toArray, List.set_cons_zero, List.set_cons_succ]
                      refine wpAnyH_done (by kernel_rfl) ?_ _
                      refine NoPanic.normal ?_
                      have HFIN := Lib.hid (show Keeps [] W8 wr.drew from HKJ.out.drew)
                      clear hHeld hSD HS1 HS2 HS3 HSE3 HX HYR HKJ
                      go_wp2_with fail
                      go_roundw
                      case rel => exact ⟨j + 1, by go_num, by omega, HFIN.out⟩
                      case measure => simp [intOf]; omega
                    · obtain rfl : n = j + 1 := by omega
                      clear hjl hj
                      have HKX := Lib.hid (show Keeps [] W8 wr from HKJ.out)
                      have HT := Lib.hid (HE.out wr HKX.out)
                      have c9 : wr.cell? ⟨q0, 9, none⟩ = some (.int .u8 r0.st) := by have := HT.out.1 9 _ (show (rwC r0)[9]? = some (.int .u8 r0.st) from rfl); simpa using this
                      clear HKJ HT
                      obtain ⟨cw, hcw⟩ : ∃ cw, cw = wr := ⟨_, rfl⟩
                      subst hcw
                      have hst := (rwBefore_iff.1 bab).1
                      rw [hst] at c9
                      have HW := Lib.hid (works_true cw)
                      go_wp2_with fail
                      refine (HW.out).mono ?_; rintro e z9 ⟨rfl, hk⟩
                      have HK9 := Lib.hid ((HKW8.out.trans HKX.out (FSub.refl _ _)).trans hk (FSub.refl _ _))
                      clear hk HW
                      go_wp2_with fail
                      go_ret
                      exact ⟨rfl, HK9.out⟩
            | true =>
              have bac := rwBefore_trans HO1.out bab bbc
              have HBF := Lib.hid (bf_of cw baa)
              have HT := Lib.hid (HE.out cw HKX.out)
              go_wp2_with (first
                | ((with_reducible refine wpList_loadP (g := q0) (off := 0) (y := r0) ?_ ?_ HT.out.1 ?_); exact rfl; exact rfl)
                | ((with_reducible refine wpList_loadP (g := q1) (off := 0) (y := r1) ?_ ?_ HT.out.2.1 ?_); exact rfl; exact rfl)
                | ((with_reducible refine wpList_loadP (g := q2) (off := 0) (y := r2) ?_ ?_ HT.out.2.2.1 ?_); exact rfl; exact rfl)
                | ((with_reducible refine wpList_loadP (g := q3) (off := 0) (y := r3) ?_ ?_ HT.out.2.2.2 ?_); exact rfl; exact rfl))
              refine (HBF.out).mono ?_
              clear HBF HT
              rintro e cw ⟨rfl, hk⟩
              have HKX := Lib.hid (HKX.out.trans hk (FSub.refl _ _))
              clear hk
              have HBF := Lib.hid (bf_of cw bab)
              have HT := Lib.hid (HE.out cw HKX.out)
              go_wp2_with (first
                | ((with_reducible refine wpList_loadP (g := q0) (off := 0) (y := r0) ?_ ?_ HT.out.1 ?_); exact rfl; exact rfl)
                | ((with_reducible refine wpList_loadP (g := q1) (off := 0) (y := r1) ?_ ?_ HT.out.2.1 ?_); exact rfl; exact rfl)
                | ((with_reducible refine wpList_loadP (g := q2) (off := 0) (y := r2) ?_ ?_ HT.out.2.2.1 ?_); exact rfl; exact rfl)
                | ((with_reducible refine wpList_loadP (g := q3) (off := 0) (y := r3) ?_ ?_ HT.out.2.2.2 ?_); exact rfl; exact rfl))
              refine (HBF.out).mono ?_
              clear HBF HT
              rintro e cw ⟨rfl, hk⟩
              have HKX := Lib.hid (HKX.out.trans hk (FSub.refl _ _))
              clear hk
              have HBF := Lib.hid (bf_of cw bbc)
              have HT := Lib.hid (HE.out cw HKX.out)
              go_wp2_with (first
                | ((with_reducible refine wpList_loadP (g := q0) (off := 0) (y := r0) ?_ ?_ HT.out.1 ?_); exact rfl; exact rfl)
                | ((with_reducible refine wpList_loadP (g := q1) (off := 0) (y := r1) ?_ ?_ HT.out.2.1 ?_); exact rfl; exact rfl)
                | ((with_reducible refine wpList_loadP (g := q2) (off := 0) (y := r2) ?_ ?_ HT.out.2.2.1 ?_); exact rfl; exact rfl)
                | ((with_reducible refine wpList_loadP (g := q3) (off := 0) (y := r3) ?_ ?_ HT.out.2.2.2 ?_); exact rfl; exact rfl))
              refine (HBF.out).mono ?_
              clear HBF HT
              rintro e cw ⟨rfl, hk⟩
              have HKX := Lib.hid (HKX.out.trans hk (FSub.refl _ _))
              clear hk
              have HBF := Lib.hid (bf_of cw bac)
              have HT := Lib.hid (HE.out cw HKX.out)
              go_wp2_with (first
                | ((with_reducible refine wpList_loadP (g := q0) (off := 0) (y := r0) ?_ ?_ HT.out.1 ?_); exact rfl; exact rfl)
                | ((with_reducible refine wpList_loadP (g := q1) (off := 0) (y := r1) ?_ ?_ HT.out.2.1 ?_); exact rfl; exact rfl)
                | ((with_reducible refine wpList_loadP (g := q2) (off := 0) (y := r2) ?_ ?_ HT.out.2.2.1 ?_); exact rfl; exact rfl)
                | ((with_reducible refine wpList_loadP (g := q3) (off := 0) (y := r3) ?_ ?_ HT.out.2.2.2 ?_); exact rfl; exact rfl))
              refine (HBF.out).mono ?_
              clear HBF HT
              rintro e cw ⟨rfl, hk⟩
              have HKX := Lib.hid (HKX.out.trans hk (FSub.refl _ _))
              clear hk
              have HBF := Lib.hid (bf_of cw bab)
              have HT := Lib.hid (HE.out cw HKX.out)
              go_wp2_with (first
                | ((with_reducible refine wpList_loadP (g := q0) (off := 0) (y := r0) ?_ ?_ HT.out.1 ?_); exact rfl; exact rfl)
                | ((with_reducible refine wpList_loadP (g := q1) (off := 0) (y := r1) ?_ ?_ HT.out.2.1 ?_); exact rfl; exact rfl)
                | ((with_reducible refine wpList_loadP (g := q2) (off := 0) (y := r2) ?_ ?_ HT.out.2.2.1 ?_); exact rfl; exact rfl)
                | ((with_reducible refine wpList_loadP (g := q3) (off := 0) (y := r3) ?_ ?_ HT.out.2.2.2 ?_); exact rfl; exact rfl))
              refine (HBF.out).mono ?_
              clear HBF HT
              rintro e cw ⟨rfl, hk⟩
              have HKX := Lib.hid (HKX.out.trans hk (FSub.refl _ _))
              clear hk
              have HBF := Lib.hid (bf_of cw bba)
              have HT := Lib.hid (HE.out cw HKX.out)
              go_wp2_with (first
                | ((with_reducible refine wpList_loadP (g := q0) (off := 0) (y := r0) ?_ ?_ HT.out.1 ?_); exact rfl; exact rfl)
                | ((with_reducible refine wpList_loadP (g := q1) (off := 0) (y := r1) ?_ ?_ HT.out.2.1 ?_); exact rfl; exact rfl)
                | ((with_reducible refine wpList_loadP (g := q2) (off := 0) (y := r2) ?_ ?_ HT.out.2.2.1 ?_); exact rfl; exact rfl)
                | ((with_reducible refine wpList_loadP (g := q3) (off := 0) (y := r3) ?_ ?_ HT.out.2.2.2 ?_); exact rfl; exact rfl))
              refine (HBF.out).mono ?_
              clear HBF HT
              rintro e cw ⟨rfl, hk⟩
              have HKX := Lib.hid (HKX.out.trans hk (FSub.refl _ _))
              clear hk
              cases bcd : rwBefore r2 r3 with
              | false =>
                have HBF := Lib.hid (bf_of cw bab)
                have HT := Lib.hid (HE.out cw HKX.out)
                go_wp2_with (first
                  | ((with_reducible refine wpList_loadP (g := q0) (off := 0) (y := r0) ?_ ?_ HT.out.1 ?_); exact rfl; exact rfl)
                  | ((with_reducible refine wpList_loadP (g := q1) (off := 0) (y := r1) ?_ ?_ HT.out.2.1 ?_); exact rfl; exact rfl)
                  | ((with_reducible refine wpList_loadP (g := q2) (off := 0) (y := r2) ?_ ?_ HT.out.2.2.1 ?_); exact rfl; exact rfl)
                  | ((with_reducible refine wpList_loadP (g := q3) (off := 0) (y := r3) ?_ ?_ HT.out.2.2.2 ?_); exact rfl; exact rfl))
                refine (HBF.out).mono ?_
                clear HBF HT
                rintro e cw ⟨rfl, hk⟩
                have HKX := Lib.hid (HKX.out.trans hk (FSub.refl _ _))
                clear hk
                have HBF := Lib.hid (bf_of cw bcd)
                have HT := Lib.hid (HE.out cw HKX.out)
                go_wp2_with (first
                  | ((with_reducible refine wpList_loadP (g := q0) (off := 0) (y := r0) ?_ ?_ HT.out.1 ?_); exact rfl; exact rfl)
                  | ((with_reducible refine wpList_loadP (g := q1) (off := 0) (y := r1) ?_ ?_ HT.out.2.1 ?_); exact rfl; exact rfl)
                  | ((with_reducible refine wpList_loadP (g := q2) (off := 0) (y := r2) ?_ ?_ HT.out.2.2.1 ?_); exact rfl; exact rfl)
                  | ((with_reducible refine wpList_loadP (g := q3) (off := 0) (y := r3) ?_ ?_ HT.out.2.2.2 ?_); exact rfl; exact rfl))
                refine (HBF.out).mono ?_
                clear HBF HT
                rintro e cw ⟨rfl, hk⟩
                have HKX := Lib.hid (HKX.out.trans hk (FSub.refl _ _))
                clear hk
                go_wp2_with fail
                go_loopw [15] (fun i wr => ∃ j : Nat, i = .int .i64 ((j : Int) + 1) ∧ j + 1 ≤ n ∧ Keeps [] W8 wr) (fun i _ => n - (intOf i).toNat)
                case atStart => exact ⟨0, rfl, by omega, HKX.out⟩
                case round =>
                  obtain ⟨j, rfl, hj, hkj⟩ := hrel
                  have HKJ := Lib.hid hkj
                  clear hkj
                  by_cases hjl : j + 1 < n
                  · have hjl2 : (j : Int) + 1 < n := by omega
                    have hjl3 : (j : Int) < n := by omega
                    have hjl4 : (0 : Int) ≤ (j : Int) + 1 ∧ (j : Int) + 1 < n := by omega
                    have l1 : j < t.L.length := by have := HNN.out; omega
                    have l2 : j + 1 < t.L.length := by have := HNN.out; omega
                    obtain ⟨g', cap, hg, -, -, -, -, hrow⟩ := HLV8.out.at (fun e => by rw [e] at l1; simp at l1)
                    simp only [Value.slice.injEq, Option.some.injEq, Addr.mk.injEq, and_true] at hg
                    obtain ⟨rfl, -, rfl⟩ := hg
                    have HX := Lib.hid (show W8.rangeAt g (j * 12) (rwC t.L[j]) from hrow j l1)
                    have HYR := Lib.hid (show W8.rangeAt g ((j + 1) * 12) (rwC t.L[j + 1]) from hrow (j + 1) l2)
                    have hs1 := HOK.out.sorted l2 (Nat.lt_succ_self j)
                    have hs2 := (HOK.out.rows _ (List.getElem_mem l2)).lt HOK.out.hi
                    clear hrow
                    generalize t.L[j] = rx at *
                    generalize t.L[j + 1] = ry at *
                    have hs3 : ¬ ry.fr ≤ rx.fr := by omega
                    have hs4 : ¬ ry.to ≤ ry.fr := by omega
                    clear l1 l2 hs1 hs2
                    go_wp2_with fail
                    obtain ⟨S3, hS⟩ : ∃ S3 : World → Prop, S3 = fun z => Keeps [] wr z := ⟨_, rfl⟩
                    have HSE3 := Lib.hid hS
                    have hSD : S3 wr.drew := by rw [hS]; exact (Keeps.refl _ _).drew
                    have HS1 := Lib.hid (fun (w' : World) (h : S3 w') => show w'.cell? ⟨g, j * 12 + 10, none⟩ = some (.int .i64 rx.fr) from by rw [hS] at h; exact (HKJ.out.trans h (FSub.refl _ _)).cell (HX.out 10 _ rfl) (by simp))
                    have HS2 := Lib.hid (fun (w' : World) (h : S3 w') => show w'.cell? ⟨g, (j + 1) * 12 + 10, none⟩ = some (.int .i64 ry.fr) from by rw [hS] at h; exact (HKJ.out.trans h (FSub.refl _ _)).cell (HYR.out 10 _ rfl) (by simp))
                    have HS3 := Lib.hid (fun (w' : World) (h : S3 w') => show w'.cell? ⟨g, (j + 1) * 12 + 11, none⟩ = some (.int .i64 ry.to) from by rw [hS] at h; exact (HKJ.out.trans h (FSub.refl _ _)).cell (HYR.out 11 _ rfl) (by simp))
                    clear hS
                    refine wp_region_noPanic ?_
                    refine wp_region_held_drew (S := S3) (by kernel_rfl) hSD (fun hHeld => ?_)
                    apply wpAnyH_take (i := 0)
                    · simp only [List.getElem?_toArray]; rfl
                    · kernel_rfl
                    · kernel_rfl
                    · kernel_rfl
                    · exact fun _ _ _ h => h
                    · exact Or.inl ⟨by rfl, by intro w hSw; go_simp; try with_reducible rfl⟩
                    · assumption
                    try simp only [Act.put, List.setIfInBounds_toArray, List.set_cons_zero, List.set_cons_succ]
                    apply wpAnyH_take (i := 1)
                    · simp only [List.getElem?_toArray]; rfl
                    · kernel_rfl
                    · kernel_rfl
                    · kernel_rfl
                    · exact fun _ _ _ h => h
                    · exact Or.inl ⟨by rfl, by intro w hSw; go_simp; try with_reducible rfl⟩
                    · assumption
                    try simp only [Act.put, List.setIfInBounds_toArray, List.set_cons_zero, List.set_cons_succ]
                    apply wpAnyH_take (i := 2)
                    · simp only [List.getElem?_toArray]; rfl
                    · kernel_rfl
                    · kernel_rfl
                    · kernel_rfl
                    · exact fun _ _ _ h => h
                    · exact Or.inl ⟨by rfl, by intro w hSw; go_simp; try with_reducible rfl⟩
                    · assumption
                    try simp only [Act.put, List.setIfInBounds_toArray, List.set_cons_zero, List.set_cons_succ]
                    apply wpAnyH_take (i := 3)
                    · simp only [List.getElem?_toArray]; rfl
                    · kernel_rfl
                    · kernel_rfl
                    · kernel_rfl
                    · exact fun _ _ _ h => h
                    · exact Or.inl ⟨by rfl, by intro w hSw; go_simp; try with_reducible rfl⟩
                    · assumption
                    try simp only [Act.put, List.setIfInBounds_toArray, List.set_cons_zero, List.set_cons_succ]
                    apply wpAnyH_take (i := 4)
                    · simp only [List.getElem?_toArray]; rfl
                    · kernel_rfl
                    · kernel_rfl
                    · kernel_rfl
                    · exact fun _ _ _ h => h
                    · exact Or.inl ⟨by rfl, by intro w hSw; have q0 := HS2.out w hSw; go_simp; try with_reducible rfl⟩
                    · assumption
                    try simp only [Act.put, List.setIfInBounds_toArray, List.set_cons_zero, List.set_cons_succ]
                    apply wpAnyH_take (i := 5)
                    · simp only [List.getElem?_toArray]; rfl
                    · kernel_rfl
                    · kernel_rfl
                    · kernel_rfl
                    · exact fun _ _ _ h => h
                    · exact Or.inl ⟨by rfl, by intro w hSw; go_simp; try with_reducible rfl⟩
                    · assumption
                    try simp only [Act.put, List.setIfInBounds_toArray, List.set_cons_zero, List.set_cons_succ]
                    apply wpAnyH_take (i := 6)
                    · simp only [List.getElem?_toArray]; rfl
                    · kernel_rfl
                    · kernel_rfl
                    · kernel_rfl
                    · exact fun _ _ _ h => h
                    · exact Or.inl ⟨by rfl, by intro w hSw; go_simp; try with_reducible rfl⟩
                    · assumption
                    try simp only [Act.put, List.setIfInBounds_toArray, List.set_cons_zero, List.set_cons_succ]
                    apply wpAnyH_take (i := 7)
                    · simp only [List.getElem?_toArray]; rfl
                    · kernel_rfl
                    · kernel_rfl
                    · kernel_rfl
                    · exact fun _ _ _ h => h
                    · exact yields_sub (by rfl) _ _ rfl ((j : Int) + 1) 1 (j : Int) rfl rfl (by omega) (by omega) (by omega)
                    · assumption
                    try simp only [Act.put, List.setIfInBounds_toArray, List.set_cons_zero, List.set_cons_succ]
                    apply wpAnyH_take (i := 8)
                    · simp only [List.getElem?_toArray]; rfl
                    · kernel_rfl
                    · kernel_rfl
                    · kernel_rfl
                    · exact fun _ _ _ h => h
                    · exact yields_index (by rfl) _ _ rfl g n lc j rfl rfl (by omega)
                    · assumption
                    try simp only [Act.put, List.setIfInBounds_toArray, List.set_cons_zero, List.set_cons_succ]
                    apply wpAnyH_take (i := 9)
                    · simp only [List.getElem?_toArray]; rfl
                    · kernel_rfl
                    · kernel_rfl
                    · kernel_rfl
                    · exact fun _ _ _ h => h
                    · exact Or.inl ⟨by rfl, by intro w hSw; go_simp; try with_reducible rfl⟩
                    · assumption
                    try simp only [Act.put, List.setIfInBounds_toArray, List.set_cons_zero, List.set_cons_succ]
                    apply wpAnyH_take (i := 10)
                    · simp only [List.getElem?_toArray]; rfl
                    · kernel_rfl
                    · kernel_rfl
                    · kernel_rfl
                    · exact fun _ _ _ h => h
                    · exact Or.inl ⟨by rfl, by intro w hSw; have q0 := HS1.out w hSw; go_simp; try with_reducible rfl⟩
                    · assumption
                    try simp only [Act.put, List.setIfInBounds_toArray, List.set_cons_zero, List.set_cons_succ]
                    apply wpAnyH_take (i := 11)
                    · simp only [List.getElem?_toArray]; rfl
                    · kernel_rfl
                    · kernel_rfl
                    · kernel_rfl
                    · exact fun _ _ _ h => h
                    · exact yields_leqF (by rfl) _ _ rfl ry.fr rx.fr rfl rfl (by omega)
                    · assumption
                    try simp only [Act.put, List.setIfInBounds_toArray, List.set_cons_zero, List.set_cons_succ]
                    apply wpAnyH_take (i := 12)
                    · simp only [List.getElem?_toArray]; rfl
                    · kernel_rfl
                    · kernel_rfl
                    · kernel_rfl
                    · exact fun _ _ _ h => h
                    · exact Or.inl ⟨by rfl, by intro w hSw; go_simp; try with_reducible rfl⟩
                    · assumption
                    try simp only [Act.put, List.setIfInBounds_toArray, List.set_cons_zero, List.set_cons_succ]
                    apply wpAnyH_take (i := 13)
                    · simp only [List.getElem?_toArray]; rfl
                    · kernel_rfl
                    · kernel_rfl
                    · kernel_rfl
                    · exact fun _ _ _ h => h
                    · exact Or.inl ⟨by rfl, by intro w hSw; go_simp; try with_reducible rfl⟩
                    · assumption
                    try simp only [Act.put, List.setIfInBounds_toArray, List.set_cons_zero, List.set_cons_succ]
                    apply wpAnyH_take (i := 14)
                    · simp only [List.getElem?_toArray]; rfl
                    · kernel_rfl
                    · kernel_rfl
                    · kernel_rfl
                    · exact fun _ _ _ h => h
                    · exact Or.inl ⟨by rfl, by intro w hSw; go_simp; try with_reducible rfl⟩
                    · assumption
                    try simp only [Act.put, List.setIfInBounds_toArray, List.set_cons_zero, List.set_cons_succ]
                    apply wpAnyH_take (i := 15)
                    · simp only [List.getElem?_toArray]; rfl
                    · kernel_rfl
                    · kernel_rfl
                    · kernel_rfl
                    · exact fun _ _ _ h => h
                    · exact Or.inl ⟨by rfl, by intro w hSw; go_simp; try with_reducible rfl⟩
                    · assumption
                    try simp only [Act.put, List.setIfInBounds_toArray, List.set_cons_zero, List.set_cons_succ]
                    apply wpAnyH_take (i := 16)
                    · simp only [List.getElem?_toArray]; rfl
                    · kernel_rfl
                    · kernel_rfl
                    · kernel_rfl
                    · exact fun _ _ _ h => h
                    · exact Or.inl ⟨by rfl, by intro w hSw; go_simp; try with_reducible rfl⟩
                    · assumption
                    try simp only [Act.put, List.setIfInBounds_toArray, List.set_cons_zero, List.set_cons_succ]
                    apply wpAnyH_take (i := 17)
                    · simp only [List.getElem?_toArray]; rfl
                    · kernel_rfl
                    · kernel_rfl
                    · kernel_rfl
                    · exact fun _ _ _ h => h
                    · exact Or.inl ⟨by rfl, by intro w hSw; have q0 := HS3.out w hSw; go_simp; try with_reducible rfl⟩
                    · assumption
                    try simp only [Act.put, List.setIfInBounds_toArray, List.set_cons_zero, List.set_cons_succ]
                    apply wpAnyH_take (i := 18)
                    · simp only [List.getElem?_toArray]; rfl
                    · kernel_rfl
                    · kernel_rfl
                    · kernel_rfl
                    · exact fun _ _ _ h => h
                    · exact Or.inl ⟨by rfl, by intro w hSw; go_simp; try with_reducible rfl⟩
                    · assumption
                    try simp only [Act.put, List.setIfInBounds_toArray, List.set_cons_zero, List.set_cons_succ]
                    apply wpAnyH_take (i := 19)
                    · simp only [List.getElem?_toArray]; rfl
                    · kernel_rfl
                    · kernel_rfl
                    · kernel_rfl
                    · exact fun _ _ _ h => h
                    · exact Or.inl ⟨by rfl, by intro w hSw; go_simp; try with_reducible rfl⟩
                    · assumption
                    try simp only [Act.put, List.setIfInBounds_toArray, List.set_cons_zero, List.set_cons_succ]
                    apply wpAnyH_take (i := 20)
                    · simp only [List.getElem?_toArray]; rfl
                    · kernel_rfl
                    · kernel_rfl
                    · kernel_rfl
                    · exact fun _ _ _ h => h
                    · exact Or.inl ⟨by rfl, by intro w hSw; go_simp; try with_reducible rfl⟩
                    · assumption
                    try simp only [Act.put, List.setIfInBounds_toArray, List.set_cons_zero, List.set_cons_succ]
                    apply wpAnyH_take (i := 21)
                    · simp only [List.getElem?_toArray]; rfl
                    · kernel_rfl
                    · kernel_rfl
                    · kernel_rfl
                    · exact fun _ _ _ h => h
                    · exact Or.inl ⟨by rfl, by intro w hSw; go_simp; try with_reducible rfl⟩
                    · assumption
                    try simp only [Act.put, List.setIfInBounds_toArray, List.set_cons_zero, List.set_cons_succ]
                    apply wpAnyH_take (i := 22)
                    · simp only [List.getElem?_toArray]; rfl
                    · kernel_rfl
                    · kernel_rfl
                    · kernel_rfl
                    · exact fun _ _ _ h => h
                    · exact Or.inl ⟨by rfl, by intro w hSw; have q0 := HS2.out w hSw; go_simp; try with_reducible rfl⟩
                    · assumption
                    try simp only [Act.put, List.setIfInBounds_toArray, List.set_cons_zero, List.set_cons_succ]
                    apply wpAnyH_take (i := 23)
                    · simp only [List.getElem?_toArray]; rfl
                    · kernel_rfl
                    · kernel_rfl
                    · kernel_rfl
                    · exact fun _ _ _ h => h
                    · exact yields_leqF (by rfl) _ _ rfl ry.to ry.fr rfl rfl (by omega)
                    · assumption
                    try simp only [Act.put, List.setIfInBounds_toArray, List.set_cons_zero, List.set_cons_succ]
                    apply wpAnyH_take (i := 24)
                    · simp only [List.getElem?_toArray]; rfl
                    · kernel_rfl
                    · kernel_rfl
                    · kernel_rfl
                    · exact fun _ _ _ h => h
                    · exact Or.inl ⟨by rfl, by intro w hSw; go_simp; try with_reducible rfl⟩
                    · assumption
                    try simp only [Act.put, List.setIfInBounds_toArray, List.set_cons_zero, List.set_cons_succ]
                    refine wpAnyH_done (by kernel_rfl) ?_ _
                    refine NoPanic.normal ?_
                    have HFIN := Lib.hid (show Keeps [] W8 wr.drew from HKJ.out.drew)
                    clear hHeld hSD HS1 HS2 HS3 HSE3 HX HYR HKJ
                    go_wp2_with fail
                    go_roundw
                    case rel => exact ⟨j + 1, by go_num, by omega, HFIN.out⟩
                    case measure => simp [intOf]; omega
                  · obtain rfl : n = j + 1 := by omega
                    clear hjl hj
                    have HKX := Lib.hid (show Keeps [] W8 wr from HKJ.out)
                    have HT := Lib.hid (HE.out wr HKX.out)
                    have c9 : wr.cell? ⟨q0, 9, none⟩ = some (.int .u8 r0.st) := by have := HT.out.1 9 _ (show (rwC r0)[9]? = some (.int .u8 r0.st) from rfl); simpa using this
                    clear HKJ HT
                    obtain ⟨cw, hcw⟩ : ∃ cw, cw = wr := ⟨_, rfl⟩
                    subst hcw
                    have hst := (rwBefore_iff.1 bab).1
                    rw [hst] at c9
                    have HW := Lib.hid (works_true cw)
                    go_wp2_with fail
                    refine (HW.out).mono ?_; rintro e z9 ⟨rfl, hk⟩
                    have HK9 := Lib.hid ((HKW8.out.trans HKX.out (FSub.refl _ _)).trans hk (FSub.refl _ _))
                    clear hk HW
                    go_wp2_with fail
                    go_ret
                    exact ⟨rfl, HK9.out⟩
              | true =>
                cases bad : rwBefore r0 r3 with
                | true =>
                  have HBF := Lib.hid (bf_of cw bab)
                  have HT := Lib.hid (HE.out cw HKX.out)
                  go_wp2_with (first
                    | ((with_reducible refine wpList_loadP (g := q0) (off := 0) (y := r0) ?_ ?_ HT.out.1 ?_); exact rfl; exact rfl)
                    | ((with_reducible refine wpList_loadP (g := q1) (off := 0) (y := r1) ?_ ?_ HT.out.2.1 ?_); exact rfl; exact rfl)
                    | ((with_reducible refine wpList_loadP (g := q2) (off := 0) (y := r2) ?_ ?_ HT.out.2.2.1 ?_); exact rfl; exact rfl)
                    | ((with_reducible refine wpList_loadP (g := q3) (off := 0) (y := r3) ?_ ?_ HT.out.2.2.2 ?_); exact rfl; exact rfl))
                  refine (HBF.out).mono ?_
                  clear HBF HT
                  rintro e cw ⟨rfl, hk⟩
                  have HKX := Lib.hid (HKX.out.trans hk (FSub.refl _ _))
                  clear hk
                  have HBF := Lib.hid (bf_of cw bcd)
                  have HT := Lib.hid (HE.out cw HKX.out)
                  go_wp2_with (first
                    | ((with_reducible refine wpList_loadP (g := q0) (off := 0) (y := r0) ?_ ?_ HT.out.1 ?_); exact rfl; exact rfl)
                    | ((with_reducible refine wpList_loadP (g := q1) (off := 0) (y := r1) ?_ ?_ HT.out.2.1 ?_); exact rfl; exact rfl)
                    | ((with_reducible refine wpList_loadP (g := q2) (off := 0) (y := r2) ?_ ?_ HT.out.2.2.1 ?_); exact rfl; exact rfl)
                    | ((with_reducible refine wpList_loadP (g := q3) (off := 0) (y := r3) ?_ ?_ HT.out.2.2.2 ?_); exact rfl; exact rfl))
                  refine (HBF.out).mono ?_
                  clear HBF HT
                  rintro e cw ⟨rfl, hk⟩
                  have HKX := Lib.hid (HKX.out.trans hk (FSub.refl _ _))
                  clear hk
                  have HBF := Lib.hid (bf_of cw bad)
                  have HT := Lib.hid (HE.out cw HKX.out)
                  go_wp2_with (first
                    | ((with_reducible refine wpList_loadP (g := q0) (off := 0) (y := r0) ?_ ?_ HT.out.1 ?_); exact rfl; exact rfl)
                    | ((with_reducible refine wpList_loadP (g := q1) (off := 0) (y := r1) ?_ ?_ HT.out.2.1 ?_); exact rfl; exact rfl)
                    | ((with_reducible refine wpList_loadP (g := q2) (off := 0) (y := r2) ?_ ?_ HT.out.2.2.1 ?_); exact rfl; exact rfl)
                    | ((with_reducible refine wpList_loadP (g := q3) (off := 0) (y := r3) ?_ ?_ HT.out.2.2.2 ?_); exact rfl; exact rfl))
                  refine (HBF.out).mono ?_
                  clear HBF HT
                  rintro e cw ⟨rfl, hk⟩
                  have HKX := Lib.hid (HKX.out.trans hk (FSub.refl _ _))
                  clear hk
                  go_wp2_with fail
                  go_loopw [15] (fun i wr => ∃ j : Nat, i = .int .i64 ((j : Int) + 1) ∧ j + 1 ≤ n ∧ Keeps [] W8 wr) (fun i _ => n - (intOf i).toNat)
                  case atStart => exact ⟨0, rfl, by omega, HKX.out⟩
                  case round =>
                    obtain ⟨j, rfl, hj, hkj⟩ := hrel
                    have HKJ := Lib.hid hkj
                    clear hkj
                    by_cases hjl : j + 1 < n
                    · have hjl2 : (j : Int) + 1 < n := by omega
                      have hjl3 : (j : Int) < n := by omega
                      have hjl4 : (0 : Int) ≤ (j : Int) + 1 ∧ (j : Int) + 1 < n := by omega
                      have l1 : j < t.L.length := by have := HNN.out; omega
                      have l2 : j + 1 < t.L.length := by have := HNN.out; omega
                      obtain ⟨g', cap, hg, -, -, -, -, hrow⟩ := HLV8.out.at (fun e => by rw [e] at l1; simp at l1)
                      simp only [Value.slice.injEq, Option.some.injEq, Addr.mk.injEq, and_true] at hg
                      obtain ⟨rfl, -, rfl⟩ := hg
                      have HX := Lib.hid (show W8.rangeAt g (j * 12) (rwC t.L[j]) from hrow j l1)
                      have HYR := Lib.hid (show W8.rangeAt g ((j + 1) * 12) (rwC t.L[j + 1]) from hrow (j + 1) l2)
                      have hs1 := HOK.out.sorted l2 (Nat.lt_succ_self j)
                      have hs2 := (HOK.out.rows _ (List.getElem_mem l2)).lt HOK.out.hi
                      clear hrow
                      generalize t.L[j] = rx at *
                      generalize t.L[j + 1] = ry at *
                      have hs3 : ¬ ry.fr ≤ rx.fr := by omega
                      have hs4 : ¬ ry.to ≤ ry.fr := by omega
                      clear l1 l2 hs1 hs2
                      go_wp2_with fail
                      obtain ⟨S3, hS⟩ : ∃ S3 : World → Prop, S3 = fun z => Keeps [] wr z := ⟨_, rfl⟩
                      have HSE3 := Lib.hid hS
                      have hSD : S3 wr.drew := by rw [hS]; exact (Keeps.refl _ _).drew
                      have HS1 := Lib.hid (fun (w' : World) (h : S3 w') => show w'.cell? ⟨g, j * 12 + 10, none⟩ = some (.int .i64 rx.fr) from by rw [hS] at h; exact (HKJ.out.trans h (FSub.refl _ _)).cell (HX.out 10 _ rfl) (by simp))
                      have HS2 := Lib.hid (fun (w' : World) (h : S3 w') => show w'.cell? ⟨g, (j + 1) * 12 + 10, none⟩ = some (.int .i64 ry.fr) from by rw [hS] at h; exact (HKJ.out.trans h (FSub.refl _ _)).cell (HYR.out 10 _ rfl) (by simp))
                      have HS3 := Lib.hid (fun (w' : World) (h : S3 w') => show w'.cell? ⟨g, (j + 1) * 12 + 11, none⟩ = some (.int .i64 ry.to) from by rw [hS] at h; exact (HKJ.out.trans h (FSub.refl _ _)).cell (HYR.out 11 _ rfl) (by simp))
                      clear hS
                      refine wp_region_noPanic ?_
                      refine wp_region_held_drew (S := S3) (by kernel_rfl) hSD (fun hHeld => ?_)
                      apply wpAnyH_take (i := 0)
                      · simp only [List.getElem?_toArray]; rfl
                      · kernel_rfl
                      · kernel_rfl
                      · kernel_rfl
                      · exact fun _ _ _ h => h
                      · exact Or.inl ⟨by rfl, by intro w hSw; go_simp; try with_reducible rfl⟩
                      · assumption
                      try simp only [Act.put, List.setIfInBounds_toArray, List.set_cons_zero, List.set_cons_succ]
                      apply wpAnyH_take (i := 1)
                      · simp only [List.getElem?_toArray]; rfl
                      · kernel_rfl
                      · kernel_rfl
                      · kernel_rfl
                      · exact fun _ _ _ h => h
                      · exact Or.inl ⟨by rfl, by intro w hSw; go_simp; try with_reducible rfl⟩
                      · assumption
                      try simp only [Act.put, List.setIfInBounds_toArray, List.set_cons_zero, List.set_cons_succ]
                      apply wpAnyH_take (i := 2)
                      · simp only [List.getElem?_toArray]; rfl
                      · kernel_rfl
                      · kernel_rfl
                      · kernel_rfl
                      · exact fun _ _ _ h => h
                      · exact Or.inl ⟨by rfl, by intro w hSw; go_simp; try with_reducible rfl⟩
                      · assumption
                      try simp only [Act.put, List.setIfInBounds_toArray, List.set_cons_zero, List.set_cons_succ]
                      apply wpAnyH_take (i := 3)
                      · simp only [List.getElem?_toArray]; rfl
                      · kernel_rfl
                      · kernel_rfl
                      · kernel_rfl
                      · exact fun _ _ _ h => h
                      · exact Or.inl ⟨by rfl, by intro w hSw; go_simp; try with_reducible rfl⟩
                      · assumption
                      try simp only [Act.put, List.setIfInBounds_toArray, List.set_cons_zero, List.set_cons_succ]
                      apply wpAnyH_take (i := 4)
                      · simp only [List.getElem?_toArray]; rfl
                      · kernel_rfl
                      · kernel_rfl
                      · kernel_rfl
                      · exact fun _ _ _ h => h
                      · exact Or.inl ⟨by rfl, by intro w hSw; have q0 := HS2.out w hSw; go_simp; try with_reducible rfl⟩
                      · assumption
                      try simp only [Act.put, List.setIfInBounds_toArray, List.set_cons_zero, List.set_cons_succ]
                      apply wpAnyH_take (i := 5)
                      · simp only [List.getElem?_toArray]; rfl
                      · kernel_rfl
                      · kernel_rfl
                      · kernel_rfl
                      · exact fun _ _ _ h => h
                      · exact Or.inl ⟨by rfl, by intro w hSw; go_simp; try with_reducible rfl⟩
                      · assumption
                      try simp only [Act.put, List.setIfInBounds_toArray, List.set_cons_zero, List.set_cons_succ]
                      apply wpAnyH_take (i := 6)
                      · simp only [List.getElem?_toArray]; rfl
                      · kernel_rfl
                      · kernel_rfl
                      · kernel_rfl
                      · exact fun _ _ _ h => h
                      · exact Or.inl ⟨by rfl, by intro w hSw; go_simp; try with_reducible rfl⟩
                      · assumption
                      try simp only [Act.put, List.setIfInBounds_toArray, List.set_cons_zero, List.set_cons_succ]
                      apply wpAnyH_take (i := 7)
                      · simp only [List.getElem?_toArray]; rfl
                      · kernel_rfl
                      · kernel_rfl
                      · kernel_rfl
                      · exact fun _ _ _ h => h
                      · exact yields_sub (by rfl) _ _ rfl ((j : Int) + 1) 1 (j : Int) rfl rfl (by omega) (by omega) (by omega)
                      · assumption
                      try simp only [Act.put, List.setIfInBounds_toArray, List.set_cons_zero, List.set_cons_succ]
                      apply wpAnyH_take (i := 8)
                      · simp only [List.getElem?_toArray]; rfl
                      · kernel_rfl
                      · kernel_rfl
                      · kernel_rfl
                      · exact fun _ _ _ h => h
                      · exact yields_index (by rfl) _ _ rfl g n lc j rfl rfl (by omega)
                      · assumption
                      try simp only [Act.put, List.setIfInBounds_toArray, List.set_cons_zero, List.set_cons_succ]
                      apply wpAnyH_take (i := 9)
                      · simp only [List.getElem?_toArray]; rfl
                      · kernel_rfl
                      · kernel_rfl
                      · kernel_rfl
                      · exact fun _ _ _ h => h
                      · exact Or.inl ⟨by rfl, by intro w hSw; go_simp; try with_reducible rfl⟩
                      · assumption
                      try simp only [Act.put, List.setIfInBounds_toArray, List.set_cons_zero, List.set_cons_succ]
                      apply wpAnyH_take (i := 10)
                      · simp only [List.getElem?_toArray]; rfl
                      · kernel_rfl
                      · kernel_rfl
                      · kernel_rfl
                      · exact fun _ _ _ h => h
                      · exact Or.inl ⟨by rfl, by intro w hSw; have q0 := HS1.out w hSw; go_simp; try with_reducible rfl⟩
                      · assumption
                      try simp only [Act.put, List.setIfInBounds_toArray, List.set_cons_zero, List.set_cons_succ]
                      apply wpAnyH_take (i := 11)
                      · simp only [List.getElem?_toArray]; rfl
                      · kernel_rfl
                      · kernel_rfl
                      · kernel_rfl
                      · exact fun _ _ _ h => h
                      · exact yields_leqF (by rfl) _ _ rfl ry.fr rx.fr rfl rfl (by omega)
                      · assumption
                      try simp only [Act.put, List.setIfInBounds_toArray, List.set_cons_zero, List.set_cons_succ]
                      apply wpAnyH_take (i := 12)
                      · simp only [List.getElem?_toArray]; rfl
                      · kernel_rfl
                      · kernel_rfl
                      · kernel_rfl
                      · exact fun _ _ _ h => h
                      · exact Or.inl ⟨by rfl, by intro w hSw; go_simp; try with_reducible rfl⟩
                      · assumption
                      try simp only [Act.put, List.setIfInBounds_toArray, List.set_cons_zero, List.set_cons_succ]
                      apply wpAnyH_take (i := 13)
                      · simp only [List.getElem?_toArray]; rfl
                      · kernel_rfl
                      · kernel_rfl
                      · kernel_rfl
                      · exact fun _ _ _ h => h
                      · exact Or.inl ⟨by rfl, by intro w hSw; go_simp; try with_reducible rfl⟩
                      · assumption
                      try simp only [Act.put, List.setIfInBounds_toArray, List.set_cons_zero, List.set_cons_succ]
                      apply wpAnyH_take (i := 14)
                      · simp only [List.getElem?_toArray]; rfl
                      · kernel_rfl
                      · kernel_rfl
                      · kernel_rfl
                      · exact fun _ _ _ h => h
                      · exact Or.inl ⟨by rfl, by intro w hSw; go_simp; try with_reducible rfl⟩
                      · assumption
                      try simp only [Act.put, List.setIfInBounds_toArray, List.set_cons_zero, List.set_cons_succ]
                      apply wpAnyH_take (i := 15)
                      · simp only [List.getElem?_toArray]; rfl
                      · kernel_rfl
                      · kernel_rfl
                      · kernel_rfl
                      · exact fun _ _ _ h => h
                      · exact Or.inl ⟨by rfl, by intro w hSw; go_simp; try with_reducible rfl⟩
                      · assumption
                      try simp only [Act.put, List.setIfInBounds_toArray, List.set_cons_zero, List.set_cons_succ]
                      apply wpAnyH_take (i := 16)
                      · simp only [List.getElem?_toArray]; rfl
                      · kernel_rfl
                      · kernel_rfl
                      · kernel_rfl
                      · exact fun _ _ _ h => h
                      · exact Or.inl ⟨by rfl, by intro w hSw; go_simp; try with_reducible rfl⟩
                      · assumption
                      try simp only [Act.put, List.setIfInBounds_toArray, List.set_cons_zero, List.set_cons_succ]
                      apply wpAnyH_take (i := 17)
                      · simp only [List.getElem?_toArray]; rfl
                      · kernel_rfl
                      · kernel_rfl
                      · kernel_rfl
                      · exact fun _ _ _ h => h
                      · exact Or.inl ⟨by rfl, by intro w hSw; have q0 := HS3.out w hSw; go_simp; try with_reducible rfl⟩
                      · assumption
                      try simp only [Act.put, List.setIfInBounds_toArray, List.set_cons_zero, List.set_cons_succ]
                      apply wpAnyH_take (i := 18)
                      · simp only [List.getElem?_toArray]; rfl
                      · kernel_rfl
                      · kernel_rfl
                      · kernel_rfl
                      · exact fun _ _ _ h => h
                      · exact Or.inl ⟨by rfl, by intro w hSw; go_simp; try with_reducible rfl⟩
                      · assumption
                      try simp only [Act.put, List.setIfInBounds_toArray, List.set_cons_zero, List.set_cons_succ]
                      apply wpAnyH_take (i := 19)
                      · simp only [List.getElem?_toArray]; rfl
                      · kernel_rfl
                      · kernel_rfl
                      · kernel_rfl
                      · exact fun _ _ _ h => h
                      · exact Or.inl ⟨by rfl, by intro w hSw; go_simp; try with_reducible rfl⟩
                      · assumption
                      try simp only [Act.put, List.setIfInBounds_toArray, List.set_cons_zero, List.set_cons_succ]
                      apply wpAnyH_take (i := 20)
                      · simp only [List.getElem?_toArray]; rfl
                      · kernel_rfl
                      · kernel_rfl
                      · kernel_rfl
                      · exact fun _ _ _ h => h
                      · exact Or.inl ⟨by rfl, by intro w hSw; go_simp; try with_reducible rfl⟩
                      · assumption
                      try simp only [Act.put, List.setIfInBounds_toArray, List.set_cons_zero, List.set_cons_succ]
                      apply wpAnyH_take (i := 21)
                      · simp only [List.getElem?_toArray]; rfl
                      · kernel_rfl
                      · kernel_rfl
                      · kernel_rfl
                      · exact fun _ _ _ h => h
                      · exact Or.inl ⟨by rfl, by intro w hSw; go_simp; try with_reducible rfl⟩
                      · assumption
                      try simp only [Act.put, List.setIfInBounds_toArray, List.set_cons_zero, List.set_cons_succ]
                      apply wpAnyH_take (i := 22)
                      · simp only [List.getElem?_toArray]; rfl
                      · kernel_rfl
                      · kernel_rfl
                      · kernel_rfl
                      · exact fun _ _ _ h => h
                      · exact Or.inl ⟨by rfl, by intro w hSw; have q0 := HS2.out w hSw; go_simp; try with_reducible rfl⟩
                      · assumption
                      try simp only [Act.put, List.setIfInBounds_toArray, List.set_cons_zero, List.set_cons_succ]
                      apply wpAnyH_take (i := 23)
                      · simp only [List.getElem?_toArray]; rfl
                      · kernel_rfl
                      · kernel_rfl
                      · kernel_rfl
                      · exact fun _ _ _ h => h
                      · exact yields_leqF (by rfl) _ _ rfl ry.to ry.fr rfl rfl (by omega)
                      · assumption
                      try simp only [Act.put, List.setIfInBounds_toArray, List.set_cons_zero, List.set_cons_succ]
                      apply wpAnyH_take (i := 24)
                      · simp only [List.getElem?_toArray]; rfl
                      · kernel_rfl
                      · kernel_rfl
                      · kernel_rfl
                      · exact fun _ _ _ h => h
                      · exact Or.inl ⟨by rfl, by intro w hSw; go_simp; try with_reducible rfl⟩
                      · assumption
                      try simp only [Act.put, List.setIfInBounds_toArray, List.set_cons_zero, List.set_cons_succ]
                      refine wpAnyH_done (by kernel_rfl) ?_ _
                      refine NoPanic.normal ?_
                      have HFIN := Lib.hid (show Keeps [] W8 wr.drew from HKJ.out.drew)
                      clear hHeld hSD HS1 HS2 HS3 HSE3 HX HYR HKJ
                      go_wp2_with fail
                      go_roundw
                      case rel => exact ⟨j + 1, by go_num, by omega, HFIN.out⟩
                      case measure => simp [intOf]; omega
                    · obtain rfl : n = j + 1 := by omega
                      clear hjl hj
                      have HKX := Lib.hid (show Keeps [] W8 wr from HKJ.out)
                      have HT := Lib.hid (HE.out wr HKX.out)
                      have c9 : wr.cell? ⟨q0, 9, none⟩ = some (.int .u8 r0.st) := by have := HT.out.1 9 _ (show (rwC r0)[9]? = some (.int .u8 r0.st) from rfl); simpa using this
                      clear HKJ HT
                      obtain ⟨cw, hcw⟩ : ∃ cw, cw = wr := ⟨_, rfl⟩
                      subst hcw
                      have hst := (rwBefore_iff.1 bab).1
                      rw [hst] at c9
                      have HW := Lib.hid (works_true cw)
                      go_wp2_with fail
                      refine (HW.out).mono ?_; rintro e z9 ⟨rfl, hk⟩
                      have HK9 := Lib.hid ((HKW8.out.trans HKX.out (FSub.refl _ _)).trans hk (FSub.refl _ _))
                      clear hk HW
                      go_wp2_with fail
                      go_ret
                      exact ⟨rfl, HK9.out⟩
                | false =>
                  have bcb : rwBefore r2 r1 = true := by
                    rcases rwBefore_two bab bcd with h | h
                    · rw [bad] at h; cases h
                    · exact h
                  have HBF := Lib.hid (bf_of cw bab)
                  have HT := Lib.hid (HE.out cw HKX.out)
                  go_wp2_with (first
                    | ((with_reducible refine wpList_loadP (g := q0) (off := 0) (y := r0) ?_ ?_ HT.out.1 ?_); exact rfl; exact rfl)
                    | ((with_reducible refine wpList_loadP (g := q1) (off := 0) (y := r1) ?_ ?_ HT.out.2.1 ?_); exact rfl; exact rfl)
                    | ((with_reducible refine wpList_loadP (g := q2) (off := 0) (y := r2) ?_ ?_ HT.out.2.2.1 ?_); exact rfl; exact rfl)
                    | ((with_reducible refine wpList_loadP (g := q3) (off := 0) (y := r3) ?_ ?_ HT.out.2.2.2 ?_); exact rfl; exact rfl))
                  refine (HBF.out).mono ?_
                  clear HBF HT
                  rintro e cw ⟨rfl, hk⟩
                  have HKX := Lib.hid (HKX.out.trans hk (FSub.refl _ _))
                  clear hk
                  have HBF := Lib.hid (bf_of cw bcd)
                  have HT := Lib.hid (HE.out cw HKX.out)
                  go_wp2_with (first
                    | ((with_reducible refine wpList_loadP (g := q0) (off := 0) (y := r0) ?_ ?_ HT.out.1 ?_); exact rfl; exact rfl)
                    | ((with_reducible refine wpList_loadP (g := q1) (off := 0) (y := r1) ?_ ?_ HT.out.2.1 ?_); exact rfl; exact rfl)
                    | ((with_reducible refine wpList_loadP (g := q2) (off := 0) (y := r2) ?_ ?_ HT.out.2.2.1 ?_); exact rfl; exact rfl)
                    | ((with_reducible refine wpList_loadP (g := q3) (off := 0) (y := r3) ?_ ?_ HT.out.2.2.2 ?_); exact rfl; exact rfl))
                  refine (HBF.out).mono ?_
                  clear HBF HT
                  rintro e cw ⟨rfl, hk⟩
                  have HKX := Lib.hid (HKX.out.trans hk (FSub.refl _ _))
                  clear hk
                  have HBF := Lib.hid (bf_of cw bad)
                  have HT := Lib.hid (HE.out cw HKX.out)
                  go_wp2_with (first
                    | ((with_reducible refine wpList_loadP (g := q0) (off := 0) (y := r0) ?_ ?_ HT.out.1 ?_); exact rfl; exact rfl)
                    | ((with_reducible refine wpList_loadP (g := q1) (off := 0) (y := r1) ?_ ?_ HT.out.2.1 ?_); exact rfl; exact rfl)
                    | ((with_reducible refine wpList_loadP (g := q2) (off := 0) (y := r2) ?_ ?_ HT.out.2.2.1 ?_); exact rfl; exact rfl)
                    | ((with_reducible refine wpList_loadP (g := q3) (off := 0) (y := r3) ?_ ?_ HT.out.2.2.2 ?_); exact rfl; exact rfl))
                  refine (HBF.out).mono ?_
                  clear HBF HT
                  rintro e cw ⟨rfl, hk⟩
                  have HKX := Lib.hid (HKX.out.trans hk (FSub.refl _ _))
                  clear hk
                  have HBF := Lib.hid (bf_of cw bcb)
                  have HT := Lib.hid (HE.out cw HKX.out)
                  go_wp2_with (first
                    | ((with_reducible refine wpList_loadP (g := q0) (off := 0) (y := r0) ?_ ?_ HT.out.1 ?_); exact rfl; exact rfl)
                    | ((with_reducible refine wpList_loadP (g := q1) (off := 0) (y := r1) ?_ ?_ HT.out.2.1 ?_); exact rfl; exact rfl)
                    | ((with_reducible refine wpList_loadP (g := q2) (off := 0) (y := r2) ?_ ?_ HT.out.2.2.1 ?_); exact rfl; exact rfl)
                    | ((with_reducible refine wpList_loadP (g := q3) (off := 0) (y := r3) ?_ ?_ HT.out.2.2.2 ?_); exact rfl; exact rfl))
                  refine (HBF.out).mono ?_
                  clear HBF HT
                  rintro e cw ⟨rfl, hk⟩
                  have HKX := Lib.hid (HKX.out.trans hk (FSub.refl _ _))
                  clear hk
                  go_wp2_with fail
                  go_loopw [15] (fun i wr => ∃ j : Nat, i = .int .i64 ((j : Int) + 1) ∧ j + 1 ≤ n ∧ Keeps [] W8 wr) (fun i _ => n - (intOf i).toNat)
                  case atStart => exact ⟨0, rfl, by omega, HKX.out⟩
                  case round =>
                    obtain ⟨j, rfl, hj, hkj⟩ := hrel
                    have HKJ := Lib.hid hkj
                    clear hkj
                    by_cases hjl : j + 1 < n
                    · have hjl2 : (j : Int) + 1 < n := by omega
                      have hjl3 : (j : Int) < n := by omega
                      have hjl4 : (0 : Int) ≤ (j : Int) + 1 ∧ (j : Int) + 1 < n := by omega
                      have l1 : j < t.L.length := by have := HNN.out; omega
                      have l2 : j + 1 < t.L.length := by have := HNN.out; omega
                      obtain ⟨g', cap, hg, -, -, -, -, hrow⟩ := HLV8.out.at (fun e => by rw [e] at l1; simp at l1)
                      simp only [Value.slice.injEq, Option.some.injEq, Addr.mk.injEq, and_true] at hg
                      obtain ⟨rfl, -, rfl⟩ := hg
                      have HX := Lib.hid (show W8.rangeAt g (j * 12) (rwC t.L[j]) from hrow j l1)
                      have HYR := Lib.hid (show W8.rangeAt g ((j + 1) * 12) (rwC t.L[j + 1]) from hrow (j + 1) l2)
                      have hs1 := HOK.out.sorted l2 (Nat.lt_succ_self j)
                      have hs2 := (HOK.out.rows _ (List.getElem_mem l2)).lt HOK.out.hi
                      clear hrow
                      generalize t.L[j] = rx at *
                      generalize t.L[j + 1] = ry at *
                      have hs3 : ¬ ry.fr ≤ rx.fr := by omega
                      have hs4 : ¬ ry.to ≤ ry.fr := by omega
                      clear l1 l2 hs1 hs2
                      go_wp2_with fail
                      obtain ⟨S3, hS⟩ : ∃ S3 : World → Prop, S3 = fun z => Keeps [] wr z := ⟨_, rfl⟩
                      have HSE3 := Lib.hid hS
                      have hSD : S3 wr.drew := by rw [hS]; exact (Keeps.refl _ _).drew
                      have HS1 := Lib.hid (fun (w' : World) (h : S3 w') => show w'.cell? ⟨g, j * 12 + 10, none⟩ = some (.int .i64 rx.fr) from by rw [hS] at h; exact (HKJ.out.trans h (FSub.refl _ _)).cell (HX.out 10 _ rfl) (by simp))
                      have HS2 := Lib.hid (fun (w' : World) (h : S3 w') => show w'.cell? ⟨g, (j + 1) * 12 + 10, none⟩ = some (.int .i64 ry.fr) from by rw [hS] at h; exact (HKJ.out.trans h (FSub.refl _ _)).cell (HYR.out 10 _ rfl) (by simp))
                      have HS3 := Lib.hid (fun (w' : World) (h : S3 w') => show w'.cell? ⟨g, (j + 1) * 12 + 11, none⟩ = some (.int .i64 ry.to) from by rw [hS] at h; exact (HKJ.out.trans h (FSub.refl _ _)).cell (HYR.out 11 _ rfl) (by simp))
                      clear hS
                      refine wp_region_noPanic ?_
                      refine wp_region_held_drew (S := S3) (by kernel_rfl) hSD (fun hHeld => ?_)
                      apply wpAnyH_take (i := 0)
                      · simp only [List.getElem?_toArray]; rfl
                      · kernel_rfl
                      · kernel_rfl
                      · kernel_rfl
                      · exact fun _ _ _ h => h
                      · exact Or.inl ⟨by rfl, by intro w hSw; go_simp; try with_reducible rfl⟩
                      · assumption
                      try simp only [Act.put, List.setIfInBounds_toArray, List.set_cons_zero, List.set_cons_succ]
                      apply wpAnyH_take (i := 1)
                      · simp only [List.getElem?_toArray]; rfl
                      · kernel_rfl
                      · kernel_rfl
                      · kernel_rfl
                      · exact fun _ _ _ h => h
                      · exact Or.inl ⟨by rfl, by intro w hSw; go_simp; try with_reducible rfl⟩
                      · assumption
                      try simp only [Act.put, List.setIfInBounds_toArray, List.set_cons_zero, List.set_cons_succ]
                      apply wpAnyH_take (i := 2)
                      · simp only [List.getElem?_toArray]; rfl
                      · kernel_rfl
                      · kernel_rfl
                      · kernel_rfl
                      · exact fun _ _ _ h => h
                      · exact Or.inl ⟨by rfl, by intro w hSw; go_simp; try with_reducible rfl⟩
                      · assumption
                      try simp only [Act.put, List.setIfInBounds_toArray, List.set_cons_zero, List.set_cons_succ]
                      apply wpAnyH_take (i := 3)
                      · simp only [List.getElem?_toArray]; rfl
                      · kernel_rfl
                      · kernel_rfl
                      · kernel_rfl
                      · exact fun _ _ _ h => h
                      · exact Or.inl ⟨by rfl, by intro w hSw; go_simp; try with_reducible rfl⟩
                      · assumption
                      try simp only [Act.put, List.setIfInBounds_toArray, List.set_cons_zero, List.set_cons_succ]
                      apply wpAnyH_take (i := 4)
                      · simp only [List.getElem?_toArray]; rfl
                      · kernel_rfl
                      · kernel_rfl
                      · kernel_rfl
                      · exact fun _ _ _ h => h
                      · exact Or.inl ⟨by rfl, by intro w hSw; have q0 := HS2.out w hSw; go_simp; try with_reducible rfl⟩
                      · assumption
                      try simp only [Act.put, List.setIfInBounds_toArray, List.set_cons_zero, List.set_cons_succ]
                      apply wpAnyH_take (i := 5)
                      · simp only [List.getElem?_toArray]; rfl
                      · kernel_rfl
                      · kernel_rfl
                      · kernel_rfl
                      · exact fun _ _ _ h => h
                      · exact Or.inl ⟨by rfl, by intro w hSw; go_simp; try with_reducible rfl⟩
                      · assumption
                      try simp only [Act.put, List.setIfInBounds_toArray, List.set_cons_zero, List.set_cons_succ]
                      apply wpAnyH_take (i := 6)
                      · simp only [List.getElem?_toArray]; rfl
                      · kernel_rfl
                      · kernel_rfl
                      · kernel_rfl
                      · exact fun _ _ _ h => h
                      · exact Or.inl ⟨by rfl, by intro w hSw; go_simp; try with_reducible rfl⟩
                      · assumption
                      try simp only [Act.put, List.setIfInBounds_toArray, List.set_cons_zero, List.set_cons_succ]
                      apply wpAnyH_take (i := 7)
                      · simp only [List.getElem?_toArray]; rfl
                      · kernel_rfl
                      · kernel_rfl
                      · kernel_rfl
                      · exact fun _ _ _ h => h
                      · exact yields_sub (by rfl) _ _ rfl ((j : Int) + 1) 1 (j : Int) rfl rfl (by omega) (by omega) (by omega)
                      · assumption
                      try simp only [Act.put, List.setIfInBounds_toArray, List.set_cons_zero, List.set_cons_succ]
                      apply wpAnyH_take (i := 8)
                      · simp only [List.getElem?_toArray]; rfl
                      · kernel_rfl
                      · kernel_rfl
                      · kernel_rfl
                      · exact fun _ _ _ h => h
                      · exact yields_index (by rfl) _ _ rfl g n lc j rfl rfl (by omega)
                      · assumption
                      try simp only [Act.put, List.setIfInBounds_toArray, List.set_cons_zero, List.set_cons_succ]
                      apply wpAnyH_take (i := 9)
                      · simp only [List.getElem?_toArray]; rfl
                      · kernel_rfl
                      · kernel_rfl
                      · kernel_rfl
                      · exact fun _ _ _ h => h
                      · exact Or.inl ⟨by rfl, by intro w hSw; go_simp; try with_reducible rfl⟩
                      · assumption
                      try simp only [Act.put, List.setIfInBounds_toArray, List.set_cons_zero, List.set_cons_succ]
                      apply wpAnyH_take (i := 10)
                      · simp only [List.getElem?_toArray]; rfl
                      · kernel_rfl
                      · kernel_rfl
                      · kernel_rfl
                      · exact fun _ _ _ h => h
                      · exact Or.inl ⟨by rfl, by intro w hSw; have q0 := HS1.out w hSw; go_simp; try with_reducible rfl⟩
                      · assumption
                      try simp only [Act.put, List.setIfInBounds_toArray, List.set_cons_zero, List.set_cons_succ]
                      apply wpAnyH_take (i := 11)
                      · simp only [List.getElem?_toArray]; rfl
                      · kernel_rfl
                      · kernel_rfl
                      · kernel_rfl
                      · exact fun _ _ _ h => h
                      · exact yields_leqF (by rfl) _ _ rfl ry.fr rx.fr rfl rfl (by omega)
                      · assumption
                      try simp only [Act.put, List.setIfInBounds_toArray, List.set_cons_zero, List.set_cons_succ]
                      apply wpAnyH_take (i := 12)
                      · simp only [List.getElem?_toArray]; rfl
                      · kernel_rfl
                      · kernel_rfl
                      · kernel_rfl
                      · exact fun _ _ _ h => h
                      · exact Or.inl ⟨by rfl, by intro w hSw; go_simp; try with_reducible rfl⟩
                      · assumption
                      try simp only [Act.put, List.setIfInBounds_toArray, List.set_cons_zero, List.set_cons_succ]
                      apply wpAnyH_take (i := 13)
                      · simp only [List.getElem?_toArray]; rfl
                      · kernel_rfl
                      · kernel_rfl
                      · kernel_rfl
                      · exact fun _ _ _ h => h
                      · exact Or.inl ⟨by rfl, by intro w hSw; go_simp; try with_reducible rfl⟩
                      · assumption
                      try simp only [Act.put, List.setIfInBounds_toArray, List.set_cons_zero, List.set_cons_succ]
                      apply wpAnyH_take (i := 14)
                      · simp only [List.getElem?_toArray]; rfl
                      · kernel_rfl
                      · kernel_rfl
                      · kernel_rfl
                      · exact fun _ _ _ h => h
                      · exact Or.inl ⟨by rfl, by intro w hSw; go_simp; try with_reducible rfl⟩
                      · assumption
                      try simp only [Act.put, List.setIfInBounds_toArray, List.set_cons_zero, List.set_cons_succ]
                      apply wpAnyH_take (i := 15)
                      · simp only [List.getElem?_toArray]; rfl
                      · kernel_rfl
                      · kernel_rfl
                      · kernel_rfl
                      · exact fun _ _ _ h => h
                      · exact Or.inl ⟨by rfl, by intro w hSw; go_simp; try with_reducible rfl⟩
                      · assumption
                      try simp only [Act.put, List.setIfInBounds_toArray, List.set_cons_zero, List.set_cons_succ]
                      apply wpAnyH_take (i := 16)
                      · simp only [List.getElem?_toArray]; rfl
                      · kernel_rfl
                      · kernel_rfl
                      · kernel_rfl
                      · exact fun _ _ _ h => h
                      · exact Or.inl ⟨by rfl, by intro w hSw; go_simp; try with_reducible rfl⟩
                      · assumption
                      try simp only [Act.put, List.setIfInBounds_toArray, List.set_cons_zero, List.set_cons_succ]
                      apply wpAnyH_take (i := 17)
                      · simp only [List.getElem?_toArray]; rfl
                      · kernel_rfl
                      · kernel_rfl
                      · kernel_rfl
                      · exact fun _ _ _ h => h
                      · exact Or.inl ⟨by rfl, by intro w hSw; have q0 := HS3.out w hSw; go_simp; try with_reducible rfl⟩
                      · assumption
                      try simp only [Act.put, List.setIfInBounds_toArray, List.set_cons_zero, List.set_cons_succ]
                      apply wpAnyH_take (i := 18)
                      · simp only [List.getElem?_toArray]; rfl
                      · kernel_rfl
                      · kernel_rfl
                      · kernel_rfl
                      · exact fun _ _ _ h => h
                      · exact Or.inl ⟨by rfl, by intro w hSw; go_simp; try with_reducible rfl⟩
                      · assumption
                      try simp only [Act.put, List.setIfInBounds_toArray, List.set_cons_zero, List.set_cons_succ]
                      apply wpAnyH_take (i := 19)
                      · simp only [List.getElem?_toArray]; rfl
                      · kernel_rfl
                      · kernel_rfl
                      · kernel_rfl
                      · exact fun _ _ _ h => h
                      · exact Or.inl ⟨by rfl, by intro w hSw; go_simp; try with_reducible rfl⟩
                      · assumption
                      try simp only [Act.put, List.setIfInBounds_toArray, List.set_cons_zero, List.set_cons_succ]
                      apply wpAnyH_take (i := 20)
                      · simp only [List.getElem?_toArray]; rfl
                      · kernel_rfl
                      · kernel_rfl
                      · kernel_rfl
                      · exact fun _ _ _ h => h
                      · exact Or.inl ⟨by rfl, by intro w hSw; go_simp; try with_reducible rfl⟩
                      · assumption
                      try simp only [Act.put, List.setIfInBounds_toArray, List.set_cons_zero, List.set_cons_succ]
                      apply wpAnyH_take (i := 21)
                      · simp only [List.getElem?_toArray]; rfl
                      · kernel_rfl
                      · kernel_rfl
                      · kernel_rfl
                      · exact fun _ _ _ h => h
                      · exact Or.inl ⟨by rfl, by intro w hSw; go_simp; try with_reducible rfl⟩
                      · assumption
                      try simp only [Act.put, List.setIfInBounds_toArray, List.set_cons_zero, List.set_cons_succ]
                      apply wpAnyH_take (i := 22)
                      · simp only [List.getElem?_toArray]; rfl
                      · kernel_rfl
                      · kernel_rfl
                      · kernel_rfl
                      · exact fun _ _ _ h => h
                      · exact Or.inl ⟨by rfl, by intro w hSw; have q0 := HS2.out w hSw; go_simp; try with_reducible rfl⟩
                      · assumption
                      try simp only [Act.put, List.setIfInBounds_toArray, List.set_cons_zero, List.set_cons_succ]
                      apply wpAnyH_take (i := 23)
                      · simp only [List.getElem?_toArray]; rfl
                      · kernel_rfl
                      · kernel_rfl
                      · kernel_rfl
                      · exact fun _ _ _ h => h
                      · exact yields_leqF (by rfl) _ _ rfl ry.to ry.fr rfl rfl (by omega)
                      · assumption
                      try simp only [Act.put, List.setIfInBounds_toArray, List.set_cons_zero, List.set_cons_succ]
                      apply wpAnyH_take (i := 24)
                      · simp only [List.getElem?_toArray]; rfl
                      · kernel_rfl
                      · kernel_rfl
                      · kernel_rfl
                      · exact fun _ _ _ h => h
                      · exact Or.inl ⟨by rfl, by intro w hSw; go_simp; try with_reducible rfl⟩
                      · assumption
                      try simp only [Act.put, List.setIfInBounds_toArray, List.set_cons_zero, List.set_cons_succ]
                      refine wpAnyH_done (by kernel_rfl) ?_ _
                      refine NoPanic.normal ?_
                      have HFIN := Lib.hid (show Keeps [] W8 wr.drew from HKJ.out.drew)
                      clear hHeld hSD HS1 HS2 HS3 HSE3 HX HYR HKJ
                      go_wp2_with fail
                      go_roundw
                      case rel => exact ⟨j + 1, by go_num, by omega, HFIN.out⟩
                      case measure => simp [intOf]; omega
                    · obtain rfl : n = j + 1 := by omega
                      clear hjl hj
                      have HKX := Lib.hid (show Keeps [] W8 wr from HKJ.out)
                      have HT := Lib.hid (HE.out wr HKX.out)
                      have c9 : wr.cell? ⟨q0, 9, none⟩ = some (.int .u8 r0.st) := by have := HT.out.1 9 _ (show (rwC r0)[9]? = some (.int .u8 r0.st) from rfl); simpa using this
                      clear HKJ HT
                      obtain ⟨cw, hcw⟩ : ∃ cw, cw = wr := ⟨_, rfl⟩
                      subst hcw
                      have hst := (rwBefore_iff.1 bab).1
                      rw [hst] at c9
                      have HW := Lib.hid (works_true cw)
                      go_wp2_with fail
                      refine (HW.out).mono ?_; rintro e z9 ⟨rfl, hk⟩
                      have HK9 := Lib.hid ((HKW8.out.trans HKX.out (FSub.refl _ _)).trans hk (FSub.refl _ _))
                      clear hk HW
                      go_wp2_with fail
                      go_ret
                      exact ⟨rfl, HK9.out⟩
end Go.Proofs.Ytjiglbjpmclncaa
