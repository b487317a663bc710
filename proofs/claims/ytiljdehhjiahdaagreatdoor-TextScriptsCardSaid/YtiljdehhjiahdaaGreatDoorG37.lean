/-
  The program's Take.
-/
import Derived.Test.YtiljdehhjiahdaaGreatDoorG23
set_option linter.unusedSimpArgs false
set_option linter.unusedVariables false
namespace Go.Proofs.YtiljdehhjiahdaaGreatDoor
open Go.RowKit
theorem results_cell_tmp2 {fn : Func} {p u v : Tmp} {ty : TypeId} (h : fn.results = #[.cell p ty, .tmp u, .tmp v]) (tmps : Array Value) (P : Program) (w : World) :
    (results fn tmps).run P w =
      ((asAddr (tmps.getD p undef)).run P w).andThen fun a w₁ => ((loadVar ty a).run P w₁).andThen fun x w₂ => .ok (.tuple #[x, tmps.getD u undef, tmps.getD v undef]) w₂ := by
  simp only [results, h]
  simp [Sem.run_bind, Result.andThen]
set_option maxRecDepth 100000 in
theorem results_op3 {fn : Func} {p u v : Tmp} (h : fn.results = #[.cell p 24, .tmp u, .tmp v]) (tmps : Array Value) (w : World) (b : Nat) {x0 x1 x2 x3 x4 : Value} {t : TypeId}
    (hp : tmps.getD p undef = .pointer (some ⟨b, 0, none⟩)) (hb : w.heap[b]? = some (.cells #[x0, x1, x2, x3, x4] t (0, 0))) : (results fn tmps).run Tryz.prog w = .ok (.tuple #[.agg #[x0, x1, x2, x3, x4], tmps.getD u undef, tmps.getD v undef]) w := by
  have h1 : (loadVar 24 ⟨b, 0, none⟩).run Tryz.prog w = .ok (.agg #[x0, x1, x2, x3, x4]) w := run_loadVar_row w b t 24 _ _ _ hb Tryz.underlying24 rfl (by kernel_rfl)
  rw [results_cell_tmp2 h, hp]
  simp [asAddr, h1, Result.andThen]
theorem set5_0 {w : World} {b : Nat} {x0 x1 x2 x3 x4 : Value} {t : TypeId} (h : w.heap[b]? = some (.cells #[x0, x1, x2, x3, x4] t (0, 0))) (y : Value) : (w.setCell ⟨b, 0, none⟩ y).heap[b]? = some (.cells #[y, x1, x2, x3, x4] t (0, 0)) := by
  rw [heap_setCell_same _ b 0 _ t y h]; rfl
theorem set5_1 {w : World} {b : Nat} {x0 x1 x2 x3 x4 : Value} {t : TypeId} (h : w.heap[b]? = some (.cells #[x0, x1, x2, x3, x4] t (0, 0))) (y : Value) : (w.setCell ⟨b, 1, none⟩ y).heap[b]? = some (.cells #[x0, y, x2, x3, x4] t (0, 0)) := by
  rw [heap_setCell_same _ b 1 _ t y h]; rfl
theorem set5_2 {w : World} {b : Nat} {x0 x1 x2 x3 x4 : Value} {t : TypeId} (h : w.heap[b]? = some (.cells #[x0, x1, x2, x3, x4] t (0, 0))) (y : Value) : (w.setCell ⟨b, 2, none⟩ y).heap[b]? = some (.cells #[x0, x1, y, x3, x4] t (0, 0)) := by
  rw [heap_setCell_same _ b 2 _ t y h]; rfl
theorem set5_3 {w : World} {b : Nat} {x0 x1 x2 x3 x4 : Value} {t : TypeId} (h : w.heap[b]? = some (.cells #[x0, x1, x2, x3, x4] t (0, 0))) (y : Value) : (w.setCell ⟨b, 3, none⟩ y).heap[b]? = some (.cells #[x0, x1, x2, y, x4] t (0, 0)) := by
  rw [heap_setCell_same _ b 3 _ t y h]; rfl
theorem set5_4 {w : World} {b : Nat} {x0 x1 x2 x3 x4 : Value} {t : TypeId} (h : w.heap[b]? = some (.cells #[x0, x1, x2, x3, x4] t (0, 0))) (y : Value) : (w.setCell ⟨b, 4, none⟩ y).heap[b]? = some (.cells #[x0, x1, x2, x3, y] t (0, 0)) := by
  rw [heap_setCell_same _ b 4 _ t y h]; rfl
theorem heap_set_other {w : World} {a b i : Nat} {o : Obj} (h : w.heap[b]? = some o) (hne : a ≠ b) (y : Value) : (w.setCell ⟨a, i, none⟩ y).heap[b]? = some o :=
  ((Keeps.refl [a] w).setCell ⟨a, i, none⟩ y (.inl (by simp))).heap h (by simp; omega)
/-- The operation under way, what is unread, the row: three blocks. -/
structure TAt (W : World) (D U Q : Nat) (qc : Array Value) (x0 x1 x2 x3 x4 : Value) (S : ByteArray) (t : Bool) : Prop where
  xb : W.heap[D]? = some (.cells #[x0, x1, x2, x3, x4] 24 (0, 0))
  ub : W.heap[U]? = some (.cells #[.string S, .bool t] 175 (0, 0))
  qb : W.heap[Q]? = some (.cells qc 124 (0, 0))
theorem TAt.read {W W' : World} {D U Q : Nat} {qc : Array Value} {x0 x1 x2 x3 x4 : Value} {S S' : ByteArray} {t t' : Bool} (h : TAt W D U Q qc x0 x1 x2 x3 x4 S t) (hd : D ≠ U) (hq : U ≠ Q)
    (hu : W'.heap[U]? = some (.cells #[.string S', .bool t'] 175 (0, 0))) (hk : Keeps [U] W W') : TAt W' D U Q qc x0 x1 x2 x3 x4 S' t' :=
  ⟨hk.heap h.xb (by simpa using hd), hu, hk.heap h.qb (by simp; omega)⟩
theorem TAt.keep {W W' : World} {D U Q : Nat} {qc : Array Value} {x0 x1 x2 x3 x4 : Value} {S : ByteArray} {t : Bool} (h : TAt W D U Q qc x0 x1 x2 x3 x4 S t) (hk : Keeps [] W W') : TAt W' D U Q qc x0 x1 x2 x3 x4 S t :=
  ⟨hk.heap h.xb (by simp), hk.heap h.ub (by simp), hk.heap h.qb (by simp)⟩
theorem TAt.put0 {W : World} {D U Q : Nat} {qc : Array Value} {x0 x1 x2 x3 x4 : Value} {S : ByteArray} {t : Bool} (h : TAt W D U Q qc x0 x1 x2 x3 x4 S t) (hd : D ≠ U) (hq : D ≠ Q) (y : Value) : TAt (W.setCell ⟨D, 0, none⟩ y) D U Q qc y x1 x2 x3 x4 S t :=
  ⟨set5_0 h.xb y, heap_set_other h.ub hd y, heap_set_other h.qb hq y⟩
theorem TAt.put1 {W : World} {D U Q : Nat} {qc : Array Value} {x0 x1 x2 x3 x4 : Value} {S : ByteArray} {t : Bool} (h : TAt W D U Q qc x0 x1 x2 x3 x4 S t) (hd : D ≠ U) (hq : D ≠ Q) (y : Value) : TAt (W.setCell ⟨D, 1, none⟩ y) D U Q qc x0 y x2 x3 x4 S t :=
  ⟨set5_1 h.xb y, heap_set_other h.ub hd y, heap_set_other h.qb hq y⟩
theorem TAt.put2 {W : World} {D U Q : Nat} {qc : Array Value} {x0 x1 x2 x3 x4 : Value} {S : ByteArray} {t : Bool} (h : TAt W D U Q qc x0 x1 x2 x3 x4 S t) (hd : D ≠ U) (hq : D ≠ Q) (y : Value) : TAt (W.setCell ⟨D, 2, none⟩ y) D U Q qc x0 x1 y x3 x4 S t :=
  ⟨set5_2 h.xb y, heap_set_other h.ub hd y, heap_set_other h.qb hq y⟩
theorem TAt.put3 {W : World} {D U Q : Nat} {qc : Array Value} {x0 x1 x2 x3 x4 : Value} {S : ByteArray} {t : Bool} (h : TAt W D U Q qc x0 x1 x2 x3 x4 S t) (hd : D ≠ U) (hq : D ≠ Q) (y : Value) : TAt (W.setCell ⟨D, 3, none⟩ y) D U Q qc x0 x1 x2 y x4 S t :=
  ⟨set5_3 h.xb y, heap_set_other h.ub hd y, heap_set_other h.qb hq y⟩
theorem TAt.put4 {W : World} {D U Q : Nat} {qc : Array Value} {x0 x1 x2 x3 x4 : Value} {S : ByteArray} {t : Bool} (h : TAt W D U Q qc x0 x1 x2 x3 x4 S t) (hd : D ≠ U) (hq : D ≠ Q) (y : Value) : TAt (W.setCell ⟨D, 4, none⟩ y) D U Q qc x0 x1 x2 x3 y S t :=
  ⟨set5_4 h.xb y, heap_set_other h.ub hd y, heap_set_other h.qb hq y⟩
theorem Keeps.readU {w W W' : World} {U : Nat} (h : Keeps [] w W) (hu : w.heap.size ≤ U) (hk : Keeps [U] W W') : Keeps [] w W' := h.trans hk fun g hg => .inr (by simp at hg; omega)
/-- A read of a number: its value, what is left, whether it is torn. -/
def Reads8 (S : ByteArray) (t : Bool) (v : Int) (S' : ByteArray) (t' : Bool) : Prop := ∀ (W : World) (U : Nat), W.heap[U]? = some (.cells #[.string S, .bool t] 175 (0, 0)) →
  Calls Tryz.prog 146 #[.pointer (some ⟨U, 0, none⟩)] W fun e W' => e = .returned (.int .u8 v) ∧ W'.heap[U]? = some (.cells #[.string S', .bool t'] 175 (0, 0)) ∧ Keeps [U] W W'
def Reads16 (S : ByteArray) (t : Bool) (v : Int) (S' : ByteArray) (t' : Bool) : Prop := ∀ (W : World) (U : Nat), W.heap[U]? = some (.cells #[.string S, .bool t] 175 (0, 0)) →
  Calls Tryz.prog 147 #[.pointer (some ⟨U, 0, none⟩)] W fun e W' => e = .returned (.int .u16 v) ∧ W'.heap[U]? = some (.cells #[.string S', .bool t'] 175 (0, 0)) ∧ Keeps [U] W W'
set_option maxHeartbeats 8000000 in
set_option maxRecDepth 100000 in
theorem take_000 (w : World) (hG : Glob4 w) (CS S0 S1 : ByteArray) (CC o : Int) (t1 : Bool) (hN0 : Reads8 CS false CC S0 false)  (hN1 : Reads8 S0 false o S1 t1)
    (c0 : 0 ≤ CC) (c1 : CC < 256) (is : opIs CC = true) (hK : opK CC = false) (hA : opA CC = false) (hB : opB CC = false) (hin : (⟨CC, o, 0, 0, 0⟩ : Opn).In)
    (R5 : Opn) (RL : ByteArray) (E : Int) (h1 : t1 = true → R5 = opZero ∧ RL = ⟨#[]⟩ ∧ E = 5) (h2 : t1 = false → opGood ⟨CC, o, 0, 0, 0⟩ = true → R5 = ⟨CC, o, 0, 0, 0⟩ ∧ RL = S1 ∧ E = 0) (h3 : t1 = false → opGood ⟨CC, o, 0, 0, 0⟩ = false → R5 = opZero ∧ RL = ⟨#[]⟩ ∧ E = 4) :
    Calls Tryz.prog 122 #[.string CS] w fun e w' => e = .returned (.tuple #[R5.val, .string RL, .int .i64 E]) ∧ Keeps [] w w' := by
  have hv := fun w hG => valid_any w hG CC o 0 0 0 hin
  have hf := fun w hG => find_any w hG CC c0 c1
  rw [is, hK, hA, hB] at hf
  obtain ⟨_, _, o0, o1, k0, k1, a0, a1, b0, b1⟩ := hin
  simp only at o0 o1 k0 k1 a0 a1 b0 b1
  have hX0 := heap_alloc_lt (o := .cells #[.string CS, .bool false] 175) (heap_alloc_new w (.cells #[.int .u8 0, .int .u8 0, .int .u8 0, .int .u16 0, .int .u16 0] 24))
  have hU0 := heap_alloc_new (w.alloc (.cells #[.int .u8 0, .int .u8 0, .int .u8 0, .int .u16 0, .int .u16 0] 24)) (.cells #[.string CS, .bool false] 175)
  have es : (w.alloc (.cells #[.int .u8 0, .int .u8 0, .int .u8 0, .int .u16 0, .int .u16 0] 24)).heap.size = w.heap.size + 1 := by simp
  rw [es] at hU0
  have hread := hN0 _ (w.heap.size + 1) hU0
  have hk0 := ((Keeps.refl [] w).alloc (.cells #[.int .u8 0, .int .u8 0, .int .u8 0, .int .u16 0, .int .u16 0] 24)).alloc (.cells #[.string CS, .bool false] 175)
  generalize opM CC = M at *
  generalize bs (opNm CC) = NM at *
  generalize opGood ⟨CC, o, 0, 0, 0⟩ = G at *
  have HX := Lib.hid hX0; have HU := Lib.hid hU0; have HK := Lib.hid hk0; have HR := Lib.hid hread
  have H1 := Lib.hid h1; have H2 := Lib.hid h2; have H3 := Lib.hid h3
  clear hX0 hU0 hk0 hread hK hA hB is es hN0 h1 h2 h3
  go_enter Tryz.func122, Tryz.ntmps122
  go_wp2_with fail
  refine HR.out.mono ?_; rintro e w1 ⟨rfl, hu1, hk1⟩
  have hb1 := hk1.heap HX.out (by simp)
  have hK1 := HK.out.readU (by omega) hk1
  have hu2 := heap_set_other (i := 0) hu1 (a := w.heap.size) (by omega) (.int .u8 CC)
  have hb2 := set5_0 hb1 (.int .u8 CC)
  have hK2 := hK1.setCell ⟨w.heap.size, 0, none⟩ (.int .u8 CC) (.inr (Nat.le_refl _))
  obtain ⟨c0, c1, c2, c3, c4, cl⟩ := cell5 hb1
  obtain ⟨d0, d1, d2, d3, d4⟩ := thaw5 hb1
  obtain ⟨u0, u1, ul⟩ := cell2 hu2
  obtain ⟨y0, y1, y2, y3, y4, yl⟩ := cell5 hb2
  have HU2 := Lib.hid hu2; have HB2 := Lib.hid hb2; have HK2 := Lib.hid hK2
  clear hu1 hk1 hb1 hK1 hu2 hb2 hK2 HR HX HU HK
  go_wp2_with fail
  clear c0 c1 c2 c3 c4 d0 d1 d2 d3 d4 u0 u1 y0 y1 y2 y3 y4
  generalize w1.setCell ⟨w.heap.size, 0, none⟩ (.int .u8 CC) = W2 at *
  refine (hf _ (hG.new HK2.out)).mono ?_; rintro e w3 ⟨rfl, hk3⟩
  have hb3 := hk3.heap HB2.out (by simp)
  have hu3 := hk3.heap HU2.out (by simp)
  have hK3 := HK2.out.trans hk3 (FSub.refl _ _)
  have hT0 : TAt (w3.alloc (.cells #[.int .u8 M, .string NM, .bool false, .bool false, .bool false] 124)) w.heap.size (w.heap.size + 1) w3.heap.size #[.int .u8 M, .string NM, .bool false, .bool false, .bool false] (.int .u8 CC) (.int .u8 0) (.int .u8 0) (.int .u16 0) (.int .u16 0) S0 false :=
    ⟨heap_alloc_lt hb3, heap_alloc_lt hu3, heap_alloc_new w3 _⟩
  have hDQ : w.heap.size ≠ w3.heap.size := by have := lt_of_block hb3; omega
  have hUQ : w.heap.size + 1 ≠ w3.heap.size := by have := lt_of_block hu3; omega
  have hDU : w.heap.size ≠ w.heap.size + 1 := by omega
  have hD : w.heap.size ≤ w.heap.size := Nat.le_refl _
  have hUU : w.heap.size ≤ w.heap.size + 1 := by omega
  have hK4 := hK3.alloc (.cells #[.int .u8 M, .string NM, .bool false, .bool false, .bool false] 124)
  clear hk3 hb3 hu3 hK3 HB2 HU2 HK2 hf
  have HT0 := Lib.hid hT0; have HK4 := Lib.hid hK4
  clear hT0 hK4
  go_wp2_with fail
  generalize w3.alloc (.cells #[.int .u8 M, .string NM, .bool false, .bool false, .bool false] 124) = W4 at *
  generalize w3.heap.size = Q at *
  generalize w.heap.size + 1 = U at *
  refine (hN1 _ _ HT0.out.ub).mono ?_; rintro e w5 ⟨rfl, hur, hkr⟩
  have hR0 := HT0.out.read hDU hUQ hur hkr
  have hKr0 := HK4.out.readU hUU hkr
  have hT1 := hR0.put1 hDU hDQ (.int .u8 o)
  have hK5 := hKr0.setCell ⟨w.heap.size, 1, none⟩ (.int .u8 o) (.inr hD)
  obtain ⟨c0, c1, c2, c3, c4, cl⟩ := cell5 hR0.xb
  obtain ⟨d0, d1, d2, d3, d4⟩ := thaw5 hR0.xb
  obtain ⟨q0, q1, q2, q3, q4, ql⟩ := cell5 hT1.qb
  obtain ⟨u0, u1, ul⟩ := cell2 hT1.ub
  obtain ⟨y0, y1, y2, y3, y4, yl⟩ := cell5 hT1.xb
  have HT1 := Lib.hid hT1; have HK5 := Lib.hid hK5
  clear hur hkr hR0 hKr0 hT1 hK5 HT0 HK4
  have hth := thaw5 HT1.out.xb
  cases t1 with
  | true =>
    obtain ⟨rfl, rfl, rfl⟩ := H1.out rfl
    obtain ⟨g0, g1, g2, g3, g4⟩ := hth
    have hr := put5 HT1.out.xb (.int .u8 0) (.int .u8 0) (.int .u8 0) (.int .u16 0) (.int .u16 0)
    have hkk := HK5.out.set5 (b := w.heap.size) (.inr hD) (.int .u8 0) (.int .u8 0) (.int .u8 0) (.int .u16 0) (.int .u16 0)
    have HR := Lib.hid hr; have HKK := Lib.hid hkk
    clear hr hkk HT1 HK5 hv
    go_wp2_with fail
    try simp only [Exit.inBlock, Exit.then]
    exact bodyPost_ret (results_op3 rfl _ _ _ rfl HR.out) rfl ⟨rfl, HKK.out⟩
  | false =>
    have J2 := H2.out rfl; have J3 := H3.out rfl
    clear hth H1 H2 H3 hN1
    go_wp2_with fail
    clear c0 c1 c2 c3 c4 cl d0 d1 d2 d3 d4 q0 q1 q2 q3 q4 ql u0 u1 ul y0 y1 y2 y3 y4 yl
    generalize w5.setCell ⟨w.heap.size, 1, none⟩ (.int .u8 o) = WV at *
    refine (hv _ (hG.new HK5.out)).mono ?_; rintro e w8 ⟨rfl, hk8⟩
    have hT := HT1.out.keep hk8
    have hK := HK5.out.trans hk8 (FSub.refl _ _)
    clear HT1 HK5 hk8 hv
    obtain ⟨c0, c1, c2, c3, c4, cl⟩ := cell5 hT.xb
    obtain ⟨d0, d1, d2, d3, d4⟩ := thaw5 hT.xb
    obtain ⟨u0, u1, ul⟩ := cell2 hT.ub
    cases G with
    | true =>
      obtain ⟨rfl, rfl, rfl⟩ := J2 rfl
      have hr := put5 hT.xb (.int .u8 CC) (.int .u8 o) (.int .u8 0) (.int .u16 0) (.int .u16 0)
      have hkk := hK.set5 (b := w.heap.size) (.inr hD) (.int .u8 CC) (.int .u8 o) (.int .u8 0) (.int .u16 0) (.int .u16 0)
      have HR := Lib.hid hr; have HKK := Lib.hid hkk
      clear hr hkk hT hK
      go_wp2_with fail
      go_region
      go_wp2_with fail
      try simp only [Exit.inBlock, Exit.then]
      exact bodyPost_ret (results_op3 rfl _ _ _ rfl (heap_drew HR.out)) rfl ⟨rfl, HKK.out.drew⟩
    | false =>
      obtain ⟨rfl, rfl, rfl⟩ := J3 rfl
      have hr := put5 hT.xb (.int .u8 0) (.int .u8 0) (.int .u8 0) (.int .u16 0) (.int .u16 0)
      have hkk := hK.set5 (b := w.heap.size) (.inr hD) (.int .u8 0) (.int .u8 0) (.int .u8 0) (.int .u16 0) (.int .u16 0)
      have HR := Lib.hid hr; have HKK := Lib.hid hkk
      clear hr hkk hT hK
      go_wp2_with fail
      try simp only [Exit.inBlock, Exit.then]
      exact bodyPost_ret (results_op3 rfl _ _ _ rfl HR.out) rfl ⟨rfl, HKK.out⟩
set_option maxHeartbeats 8000000 in
set_option maxRecDepth 100000 in
theorem take_010 (w : World) (hG : Glob4 w) (CS S0 S1 S2 : ByteArray) (CC o a : Int) (t1 t2 : Bool) (hN0 : Reads8 CS false CC S0 false)  (hN1 : Reads8 S0 false o S1 t1) (hN2 : Reads16 S1 t1 a S2 t2)
    (c0 : 0 ≤ CC) (c1 : CC < 256) (is : opIs CC = true) (hK : opK CC = false) (hA : opA CC = true) (hB : opB CC = false) (hin : (⟨CC, o, 0, a, 0⟩ : Opn).In)
    (R5 : Opn) (RL : ByteArray) (E : Int) (h1 : t2 = true → R5 = opZero ∧ RL = ⟨#[]⟩ ∧ E = 5) (h2 : t2 = false → opGood ⟨CC, o, 0, a, 0⟩ = true → R5 = ⟨CC, o, 0, a, 0⟩ ∧ RL = S2 ∧ E = 0) (h3 : t2 = false → opGood ⟨CC, o, 0, a, 0⟩ = false → R5 = opZero ∧ RL = ⟨#[]⟩ ∧ E = 4) :
    Calls Tryz.prog 122 #[.string CS] w fun e w' => e = .returned (.tuple #[R5.val, .string RL, .int .i64 E]) ∧ Keeps [] w w' := by
  have hv := fun w hG => valid_any w hG CC o 0 a 0 hin
  have hf := fun w hG => find_any w hG CC c0 c1
  rw [is, hK, hA, hB] at hf
  obtain ⟨_, _, o0, o1, k0, k1, a0, a1, b0, b1⟩ := hin
  simp only at o0 o1 k0 k1 a0 a1 b0 b1
  have hX0 := heap_alloc_lt (o := .cells #[.string CS, .bool false] 175) (heap_alloc_new w (.cells #[.int .u8 0, .int .u8 0, .int .u8 0, .int .u16 0, .int .u16 0] 24))
  have hU0 := heap_alloc_new (w.alloc (.cells #[.int .u8 0, .int .u8 0, .int .u8 0, .int .u16 0, .int .u16 0] 24)) (.cells #[.string CS, .bool false] 175)
  have es : (w.alloc (.cells #[.int .u8 0, .int .u8 0, .int .u8 0, .int .u16 0, .int .u16 0] 24)).heap.size = w.heap.size + 1 := by simp
  rw [es] at hU0
  have hread := hN0 _ (w.heap.size + 1) hU0
  have hk0 := ((Keeps.refl [] w).alloc (.cells #[.int .u8 0, .int .u8 0, .int .u8 0, .int .u16 0, .int .u16 0] 24)).alloc (.cells #[.string CS, .bool false] 175)
  generalize opM CC = M at *
  generalize bs (opNm CC) = NM at *
  generalize opGood ⟨CC, o, 0, a, 0⟩ = G at *
  have HX := Lib.hid hX0; have HU := Lib.hid hU0; have HK := Lib.hid hk0; have HR := Lib.hid hread
  have H1 := Lib.hid h1; have H2 := Lib.hid h2; have H3 := Lib.hid h3
  clear hX0 hU0 hk0 hread hK hA hB is es hN0 h1 h2 h3
  go_enter Tryz.func122, Tryz.ntmps122
  go_wp2_with fail
  refine HR.out.mono ?_; rintro e w1 ⟨rfl, hu1, hk1⟩
  have hb1 := hk1.heap HX.out (by simp)
  have hK1 := HK.out.readU (by omega) hk1
  have hu2 := heap_set_other (i := 0) hu1 (a := w.heap.size) (by omega) (.int .u8 CC)
  have hb2 := set5_0 hb1 (.int .u8 CC)
  have hK2 := hK1.setCell ⟨w.heap.size, 0, none⟩ (.int .u8 CC) (.inr (Nat.le_refl _))
  obtain ⟨c0, c1, c2, c3, c4, cl⟩ := cell5 hb1
  obtain ⟨d0, d1, d2, d3, d4⟩ := thaw5 hb1
  obtain ⟨u0, u1, ul⟩ := cell2 hu2
  obtain ⟨y0, y1, y2, y3, y4, yl⟩ := cell5 hb2
  have HU2 := Lib.hid hu2; have HB2 := Lib.hid hb2; have HK2 := Lib.hid hK2
  clear hu1 hk1 hb1 hK1 hu2 hb2 hK2 HR HX HU HK
  go_wp2_with fail
  clear c0 c1 c2 c3 c4 d0 d1 d2 d3 d4 u0 u1 y0 y1 y2 y3 y4
  generalize w1.setCell ⟨w.heap.size, 0, none⟩ (.int .u8 CC) = W2 at *
  refine (hf _ (hG.new HK2.out)).mono ?_; rintro e w3 ⟨rfl, hk3⟩
  have hb3 := hk3.heap HB2.out (by simp)
  have hu3 := hk3.heap HU2.out (by simp)
  have hK3 := HK2.out.trans hk3 (FSub.refl _ _)
  have hT0 : TAt (w3.alloc (.cells #[.int .u8 M, .string NM, .bool false, .bool true, .bool false] 124)) w.heap.size (w.heap.size + 1) w3.heap.size #[.int .u8 M, .string NM, .bool false, .bool true, .bool false] (.int .u8 CC) (.int .u8 0) (.int .u8 0) (.int .u16 0) (.int .u16 0) S0 false :=
    ⟨heap_alloc_lt hb3, heap_alloc_lt hu3, heap_alloc_new w3 _⟩
  have hDQ : w.heap.size ≠ w3.heap.size := by have := lt_of_block hb3; omega
  have hUQ : w.heap.size + 1 ≠ w3.heap.size := by have := lt_of_block hu3; omega
  have hDU : w.heap.size ≠ w.heap.size + 1 := by omega
  have hD : w.heap.size ≤ w.heap.size := Nat.le_refl _
  have hUU : w.heap.size ≤ w.heap.size + 1 := by omega
  have hK4 := hK3.alloc (.cells #[.int .u8 M, .string NM, .bool false, .bool true, .bool false] 124)
  clear hk3 hb3 hu3 hK3 HB2 HU2 HK2 hf
  have HT0 := Lib.hid hT0; have HK4 := Lib.hid hK4
  clear hT0 hK4
  go_wp2_with fail
  generalize w3.alloc (.cells #[.int .u8 M, .string NM, .bool false, .bool true, .bool false] 124) = W4 at *
  generalize w3.heap.size = Q at *
  generalize w.heap.size + 1 = U at *
  refine (hN1 _ _ HT0.out.ub).mono ?_; rintro e w5 ⟨rfl, hur, hkr⟩
  have hR0 := HT0.out.read hDU hUQ hur hkr
  have hKr0 := HK4.out.readU hUU hkr
  have hT1 := hR0.put1 hDU hDQ (.int .u8 o)
  have hK5 := hKr0.setCell ⟨w.heap.size, 1, none⟩ (.int .u8 o) (.inr hD)
  obtain ⟨c0, c1, c2, c3, c4, cl⟩ := cell5 hR0.xb
  obtain ⟨d0, d1, d2, d3, d4⟩ := thaw5 hR0.xb
  obtain ⟨q0, q1, q2, q3, q4, ql⟩ := cell5 hT1.qb
  obtain ⟨u0, u1, ul⟩ := cell2 hT1.ub
  obtain ⟨y0, y1, y2, y3, y4, yl⟩ := cell5 hT1.xb
  have HT1 := Lib.hid hT1; have HK5 := Lib.hid hK5
  clear hur hkr hR0 hKr0 hT1 hK5 HT0 HK4
  go_wp2_with fail
  clear c0 c1 c2 c3 c4 cl d0 d1 d2 d3 d4 q0 q1 q2 q3 q4 ql u0 u1 ul y0 y1 y2 y3 y4 yl
  generalize w5.setCell ⟨w.heap.size, 1, none⟩ (.int .u8 o) = W5 at *
  refine (hN2 _ _ HT1.out.ub).mono ?_; rintro e w6 ⟨rfl, hur, hkr⟩
  have hR1 := HT1.out.read hDU hUQ hur hkr
  have hKr1 := HK5.out.readU hUU hkr
  have hT2 := hR1.put3 hDU hDQ (.int .u16 a)
  have hK6 := hKr1.setCell ⟨w.heap.size, 3, none⟩ (.int .u16 a) (.inr hD)
  obtain ⟨c0, c1, c2, c3, c4, cl⟩ := cell5 hR1.xb
  obtain ⟨d0, d1, d2, d3, d4⟩ := thaw5 hR1.xb
  obtain ⟨q0, q1, q2, q3, q4, ql⟩ := cell5 hT2.qb
  obtain ⟨u0, u1, ul⟩ := cell2 hT2.ub
  obtain ⟨y0, y1, y2, y3, y4, yl⟩ := cell5 hT2.xb
  have HT2 := Lib.hid hT2; have HK6 := Lib.hid hK6
  clear hur hkr hR1 hKr1 hT2 hK6 HT1 HK5
  have hth := thaw5 HT2.out.xb
  cases t2 with
  | true =>
    obtain ⟨rfl, rfl, rfl⟩ := H1.out rfl
    obtain ⟨g0, g1, g2, g3, g4⟩ := hth
    have hr := put5 HT2.out.xb (.int .u8 0) (.int .u8 0) (.int .u8 0) (.int .u16 0) (.int .u16 0)
    have hkk := HK6.out.set5 (b := w.heap.size) (.inr hD) (.int .u8 0) (.int .u8 0) (.int .u8 0) (.int .u16 0) (.int .u16 0)
    have HR := Lib.hid hr; have HKK := Lib.hid hkk
    clear hr hkk HT2 HK6 hv
    go_wp2_with fail
    try simp only [Exit.inBlock, Exit.then]
    exact bodyPost_ret (results_op3 rfl _ _ _ rfl HR.out) rfl ⟨rfl, HKK.out⟩
  | false =>
    have J2 := H2.out rfl; have J3 := H3.out rfl
    clear hth H1 H2 H3 hN2
    go_wp2_with fail
    clear c0 c1 c2 c3 c4 cl d0 d1 d2 d3 d4 q0 q1 q2 q3 q4 ql u0 u1 ul y0 y1 y2 y3 y4 yl
    generalize w6.setCell ⟨w.heap.size, 3, none⟩ (.int .u16 a) = WV at *
    refine (hv _ (hG.new HK6.out)).mono ?_; rintro e w8 ⟨rfl, hk8⟩
    have hT := HT2.out.keep hk8
    have hK := HK6.out.trans hk8 (FSub.refl _ _)
    clear HT2 HK6 hk8 hv
    obtain ⟨c0, c1, c2, c3, c4, cl⟩ := cell5 hT.xb
    obtain ⟨d0, d1, d2, d3, d4⟩ := thaw5 hT.xb
    obtain ⟨u0, u1, ul⟩ := cell2 hT.ub
    cases G with
    | true =>
      obtain ⟨rfl, rfl, rfl⟩ := J2 rfl
      have hr := put5 hT.xb (.int .u8 CC) (.int .u8 o) (.int .u8 0) (.int .u16 a) (.int .u16 0)
      have hkk := hK.set5 (b := w.heap.size) (.inr hD) (.int .u8 CC) (.int .u8 o) (.int .u8 0) (.int .u16 a) (.int .u16 0)
      have HR := Lib.hid hr; have HKK := Lib.hid hkk
      clear hr hkk hT hK
      go_wp2_with fail
      go_region
      go_wp2_with fail
      try simp only [Exit.inBlock, Exit.then]
      exact bodyPost_ret (results_op3 rfl _ _ _ rfl (heap_drew HR.out)) rfl ⟨rfl, HKK.out.drew⟩
    | false =>
      obtain ⟨rfl, rfl, rfl⟩ := J3 rfl
      have hr := put5 hT.xb (.int .u8 0) (.int .u8 0) (.int .u8 0) (.int .u16 0) (.int .u16 0)
      have hkk := hK.set5 (b := w.heap.size) (.inr hD) (.int .u8 0) (.int .u8 0) (.int .u8 0) (.int .u16 0) (.int .u16 0)
      have HR := Lib.hid hr; have HKK := Lib.hid hkk
      clear hr hkk hT hK
      go_wp2_with fail
      try simp only [Exit.inBlock, Exit.then]
      exact bodyPost_ret (results_op3 rfl _ _ _ rfl HR.out) rfl ⟨rfl, HKK.out⟩
set_option maxHeartbeats 8000000 in
set_option maxRecDepth 100000 in
theorem take_011 (w : World) (hG : Glob4 w) (CS S0 S1 S2 S3 : ByteArray) (CC o a b : Int) (t1 t2 t3 : Bool) (hN0 : Reads8 CS false CC S0 false)  (hN1 : Reads8 S0 false o S1 t1) (hN2 : Reads16 S1 t1 a S2 t2) (hN3 : Reads16 S2 t2 b S3 t3)
    (c0 : 0 ≤ CC) (c1 : CC < 256) (is : opIs CC = true) (hK : opK CC = false) (hA : opA CC = true) (hB : opB CC = true) (hin : (⟨CC, o, 0, a, b⟩ : Opn).In)
    (R5 : Opn) (RL : ByteArray) (E : Int) (h1 : t3 = true → R5 = opZero ∧ RL = ⟨#[]⟩ ∧ E = 5) (h2 : t3 = false → opGood ⟨CC, o, 0, a, b⟩ = true → R5 = ⟨CC, o, 0, a, b⟩ ∧ RL = S3 ∧ E = 0) (h3 : t3 = false → opGood ⟨CC, o, 0, a, b⟩ = false → R5 = opZero ∧ RL = ⟨#[]⟩ ∧ E = 4) :
    Calls Tryz.prog 122 #[.string CS] w fun e w' => e = .returned (.tuple #[R5.val, .string RL, .int .i64 E]) ∧ Keeps [] w w' := by
  have hv := fun w hG => valid_any w hG CC o 0 a b hin
  have hf := fun w hG => find_any w hG CC c0 c1
  rw [is, hK, hA, hB] at hf
  obtain ⟨_, _, o0, o1, k0, k1, a0, a1, b0, b1⟩ := hin
  simp only at o0 o1 k0 k1 a0 a1 b0 b1
  have hX0 := heap_alloc_lt (o := .cells #[.string CS, .bool false] 175) (heap_alloc_new w (.cells #[.int .u8 0, .int .u8 0, .int .u8 0, .int .u16 0, .int .u16 0] 24))
  have hU0 := heap_alloc_new (w.alloc (.cells #[.int .u8 0, .int .u8 0, .int .u8 0, .int .u16 0, .int .u16 0] 24)) (.cells #[.string CS, .bool false] 175)
  have es : (w.alloc (.cells #[.int .u8 0, .int .u8 0, .int .u8 0, .int .u16 0, .int .u16 0] 24)).heap.size = w.heap.size + 1 := by simp
  rw [es] at hU0
  have hread := hN0 _ (w.heap.size + 1) hU0
  have hk0 := ((Keeps.refl [] w).alloc (.cells #[.int .u8 0, .int .u8 0, .int .u8 0, .int .u16 0, .int .u16 0] 24)).alloc (.cells #[.string CS, .bool false] 175)
  generalize opM CC = M at *
  generalize bs (opNm CC) = NM at *
  generalize opGood ⟨CC, o, 0, a, b⟩ = G at *
  have HX := Lib.hid hX0; have HU := Lib.hid hU0; have HK := Lib.hid hk0; have HR := Lib.hid hread
  have H1 := Lib.hid h1; have H2 := Lib.hid h2; have H3 := Lib.hid h3
  clear hX0 hU0 hk0 hread hK hA hB is es hN0 h1 h2 h3
  go_enter Tryz.func122, Tryz.ntmps122
  go_wp2_with fail
  refine HR.out.mono ?_; rintro e w1 ⟨rfl, hu1, hk1⟩
  have hb1 := hk1.heap HX.out (by simp)
  have hK1 := HK.out.readU (by omega) hk1
  have hu2 := heap_set_other (i := 0) hu1 (a := w.heap.size) (by omega) (.int .u8 CC)
  have hb2 := set5_0 hb1 (.int .u8 CC)
  have hK2 := hK1.setCell ⟨w.heap.size, 0, none⟩ (.int .u8 CC) (.inr (Nat.le_refl _))
  obtain ⟨c0, c1, c2, c3, c4, cl⟩ := cell5 hb1
  obtain ⟨d0, d1, d2, d3, d4⟩ := thaw5 hb1
  obtain ⟨u0, u1, ul⟩ := cell2 hu2
  obtain ⟨y0, y1, y2, y3, y4, yl⟩ := cell5 hb2
  have HU2 := Lib.hid hu2; have HB2 := Lib.hid hb2; have HK2 := Lib.hid hK2
  clear hu1 hk1 hb1 hK1 hu2 hb2 hK2 HR HX HU HK
  go_wp2_with fail
  clear c0 c1 c2 c3 c4 d0 d1 d2 d3 d4 u0 u1 y0 y1 y2 y3 y4
  generalize w1.setCell ⟨w.heap.size, 0, none⟩ (.int .u8 CC) = W2 at *
  refine (hf _ (hG.new HK2.out)).mono ?_; rintro e w3 ⟨rfl, hk3⟩
  have hb3 := hk3.heap HB2.out (by simp)
  have hu3 := hk3.heap HU2.out (by simp)
  have hK3 := HK2.out.trans hk3 (FSub.refl _ _)
  have hT0 : TAt (w3.alloc (.cells #[.int .u8 M, .string NM, .bool false, .bool true, .bool true] 124)) w.heap.size (w.heap.size + 1) w3.heap.size #[.int .u8 M, .string NM, .bool false, .bool true, .bool true] (.int .u8 CC) (.int .u8 0) (.int .u8 0) (.int .u16 0) (.int .u16 0) S0 false :=
    ⟨heap_alloc_lt hb3, heap_alloc_lt hu3, heap_alloc_new w3 _⟩
  have hDQ : w.heap.size ≠ w3.heap.size := by have := lt_of_block hb3; omega
  have hUQ : w.heap.size + 1 ≠ w3.heap.size := by have := lt_of_block hu3; omega
  have hDU : w.heap.size ≠ w.heap.size + 1 := by omega
  have hD : w.heap.size ≤ w.heap.size := Nat.le_refl _
  have hUU : w.heap.size ≤ w.heap.size + 1 := by omega
  have hK4 := hK3.alloc (.cells #[.int .u8 M, .string NM, .bool false, .bool true, .bool true] 124)
  clear hk3 hb3 hu3 hK3 HB2 HU2 HK2 hf
  have HT0 := Lib.hid hT0; have HK4 := Lib.hid hK4
  clear hT0 hK4
  go_wp2_with fail
  generalize w3.alloc (.cells #[.int .u8 M, .string NM, .bool false, .bool true, .bool true] 124) = W4 at *
  generalize w3.heap.size = Q at *
  generalize w.heap.size + 1 = U at *
  refine (hN1 _ _ HT0.out.ub).mono ?_; rintro e w5 ⟨rfl, hur, hkr⟩
  have hR0 := HT0.out.read hDU hUQ hur hkr
  have hKr0 := HK4.out.readU hUU hkr
  have hT1 := hR0.put1 hDU hDQ (.int .u8 o)
  have hK5 := hKr0.setCell ⟨w.heap.size, 1, none⟩ (.int .u8 o) (.inr hD)
  obtain ⟨c0, c1, c2, c3, c4, cl⟩ := cell5 hR0.xb
  obtain ⟨d0, d1, d2, d3, d4⟩ := thaw5 hR0.xb
  obtain ⟨q0, q1, q2, q3, q4, ql⟩ := cell5 hT1.qb
  obtain ⟨u0, u1, ul⟩ := cell2 hT1.ub
  obtain ⟨y0, y1, y2, y3, y4, yl⟩ := cell5 hT1.xb
  have HT1 := Lib.hid hT1; have HK5 := Lib.hid hK5
  clear hur hkr hR0 hKr0 hT1 hK5 HT0 HK4
  go_wp2_with fail
  clear c0 c1 c2 c3 c4 cl d0 d1 d2 d3 d4 q0 q1 q2 q3 q4 ql u0 u1 ul y0 y1 y2 y3 y4 yl
  generalize w5.setCell ⟨w.heap.size, 1, none⟩ (.int .u8 o) = W5 at *
  refine (hN2 _ _ HT1.out.ub).mono ?_; rintro e w6 ⟨rfl, hur, hkr⟩
  have hR1 := HT1.out.read hDU hUQ hur hkr
  have hKr1 := HK5.out.readU hUU hkr
  have hT2 := hR1.put3 hDU hDQ (.int .u16 a)
  have hK6 := hKr1.setCell ⟨w.heap.size, 3, none⟩ (.int .u16 a) (.inr hD)
  obtain ⟨c0, c1, c2, c3, c4, cl⟩ := cell5 hR1.xb
  obtain ⟨d0, d1, d2, d3, d4⟩ := thaw5 hR1.xb
  obtain ⟨q0, q1, q2, q3, q4, ql⟩ := cell5 hT2.qb
  obtain ⟨u0, u1, ul⟩ := cell2 hT2.ub
  obtain ⟨y0, y1, y2, y3, y4, yl⟩ := cell5 hT2.xb
  have HT2 := Lib.hid hT2; have HK6 := Lib.hid hK6
  clear hur hkr hR1 hKr1 hT2 hK6 HT1 HK5
  go_wp2_with fail
  clear c0 c1 c2 c3 c4 cl d0 d1 d2 d3 d4 q0 q1 q2 q3 q4 ql u0 u1 ul y0 y1 y2 y3 y4 yl
  generalize w6.setCell ⟨w.heap.size, 3, none⟩ (.int .u16 a) = W6 at *
  refine (hN3 _ _ HT2.out.ub).mono ?_; rintro e w7 ⟨rfl, hur, hkr⟩
  have hR2 := HT2.out.read hDU hUQ hur hkr
  have hKr2 := HK6.out.readU hUU hkr
  have hT3 := hR2.put4 hDU hDQ (.int .u16 b)
  have hK7 := hKr2.setCell ⟨w.heap.size, 4, none⟩ (.int .u16 b) (.inr hD)
  obtain ⟨c0, c1, c2, c3, c4, cl⟩ := cell5 hR2.xb
  obtain ⟨d0, d1, d2, d3, d4⟩ := thaw5 hR2.xb
  obtain ⟨q0, q1, q2, q3, q4, ql⟩ := cell5 hT3.qb
  obtain ⟨u0, u1, ul⟩ := cell2 hT3.ub
  obtain ⟨y0, y1, y2, y3, y4, yl⟩ := cell5 hT3.xb
  have HT3 := Lib.hid hT3; have HK7 := Lib.hid hK7
  clear hur hkr hR2 hKr2 hT3 hK7 HT2 HK6
  have hth := thaw5 HT3.out.xb
  cases t3 with
  | true =>
    obtain ⟨rfl, rfl, rfl⟩ := H1.out rfl
    obtain ⟨g0, g1, g2, g3, g4⟩ := hth
    have hr := put5 HT3.out.xb (.int .u8 0) (.int .u8 0) (.int .u8 0) (.int .u16 0) (.int .u16 0)
    have hkk := HK7.out.set5 (b := w.heap.size) (.inr hD) (.int .u8 0) (.int .u8 0) (.int .u8 0) (.int .u16 0) (.int .u16 0)
    have HR := Lib.hid hr; have HKK := Lib.hid hkk
    clear hr hkk HT3 HK7 hv
    go_wp2_with fail
    try simp only [Exit.inBlock, Exit.then]
    exact bodyPost_ret (results_op3 rfl _ _ _ rfl HR.out) rfl ⟨rfl, HKK.out⟩
  | false =>
    have J2 := H2.out rfl; have J3 := H3.out rfl
    clear hth H1 H2 H3 hN3
    go_wp2_with fail
    clear c0 c1 c2 c3 c4 cl d0 d1 d2 d3 d4 q0 q1 q2 q3 q4 ql u0 u1 ul y0 y1 y2 y3 y4 yl
    generalize w7.setCell ⟨w.heap.size, 4, none⟩ (.int .u16 b) = WV at *
    refine (hv _ (hG.new HK7.out)).mono ?_; rintro e w8 ⟨rfl, hk8⟩
    have hT := HT3.out.keep hk8
    have hK := HK7.out.trans hk8 (FSub.refl _ _)
    clear HT3 HK7 hk8 hv
    obtain ⟨c0, c1, c2, c3, c4, cl⟩ := cell5 hT.xb
    obtain ⟨d0, d1, d2, d3, d4⟩ := thaw5 hT.xb
    obtain ⟨u0, u1, ul⟩ := cell2 hT.ub
    cases G with
    | true =>
      obtain ⟨rfl, rfl, rfl⟩ := J2 rfl
      have hr := put5 hT.xb (.int .u8 CC) (.int .u8 o) (.int .u8 0) (.int .u16 a) (.int .u16 b)
      have hkk := hK.set5 (b := w.heap.size) (.inr hD) (.int .u8 CC) (.int .u8 o) (.int .u8 0) (.int .u16 a) (.int .u16 b)
      have HR := Lib.hid hr; have HKK := Lib.hid hkk
      clear hr hkk hT hK
      go_wp2_with fail
      go_region
      go_wp2_with fail
      try simp only [Exit.inBlock, Exit.then]
      exact bodyPost_ret (results_op3 rfl _ _ _ rfl (heap_drew HR.out)) rfl ⟨rfl, HKK.out.drew⟩
    | false =>
      obtain ⟨rfl, rfl, rfl⟩ := J3 rfl
      have hr := put5 hT.xb (.int .u8 0) (.int .u8 0) (.int .u8 0) (.int .u16 0) (.int .u16 0)
      have hkk := hK.set5 (b := w.heap.size) (.inr hD) (.int .u8 0) (.int .u8 0) (.int .u8 0) (.int .u16 0) (.int .u16 0)
      have HR := Lib.hid hr; have HKK := Lib.hid hkk
      clear hr hkk hT hK
      go_wp2_with fail
      try simp only [Exit.inBlock, Exit.then]
      exact bodyPost_ret (results_op3 rfl _ _ _ rfl HR.out) rfl ⟨rfl, HKK.out⟩
set_option maxHeartbeats 8000000 in
set_option maxRecDepth 100000 in
theorem take_100 (w : World) (hG : Glob4 w) (CS S0 S1 S2 : ByteArray) (CC o k : Int) (t1 t2 : Bool) (hN0 : Reads8 CS false CC S0 false)  (hN1 : Reads8 S0 false o S1 t1) (hN2 : Reads8 S1 t1 k S2 t2)
    (c0 : 0 ≤ CC) (c1 : CC < 256) (is : opIs CC = true) (hK : opK CC = true) (hA : opA CC = false) (hB : opB CC = false) (hin : (⟨CC, o, k, 0, 0⟩ : Opn).In)
    (R5 : Opn) (RL : ByteArray) (E : Int) (h1 : t2 = true → R5 = opZero ∧ RL = ⟨#[]⟩ ∧ E = 5) (h2 : t2 = false → opGood ⟨CC, o, k, 0, 0⟩ = true → R5 = ⟨CC, o, k, 0, 0⟩ ∧ RL = S2 ∧ E = 0) (h3 : t2 = false → opGood ⟨CC, o, k, 0, 0⟩ = false → R5 = opZero ∧ RL = ⟨#[]⟩ ∧ E = 4) :
    Calls Tryz.prog 122 #[.string CS] w fun e w' => e = .returned (.tuple #[R5.val, .string RL, .int .i64 E]) ∧ Keeps [] w w' := by
  have hv := fun w hG => valid_any w hG CC o k 0 0 hin
  have hf := fun w hG => find_any w hG CC c0 c1
  rw [is, hK, hA, hB] at hf
  obtain ⟨_, _, o0, o1, k0, k1, a0, a1, b0, b1⟩ := hin
  simp only at o0 o1 k0 k1 a0 a1 b0 b1
  have hX0 := heap_alloc_lt (o := .cells #[.string CS, .bool false] 175) (heap_alloc_new w (.cells #[.int .u8 0, .int .u8 0, .int .u8 0, .int .u16 0, .int .u16 0] 24))
  have hU0 := heap_alloc_new (w.alloc (.cells #[.int .u8 0, .int .u8 0, .int .u8 0, .int .u16 0, .int .u16 0] 24)) (.cells #[.string CS, .bool false] 175)
  have es : (w.alloc (.cells #[.int .u8 0, .int .u8 0, .int .u8 0, .int .u16 0, .int .u16 0] 24)).heap.size = w.heap.size + 1 := by simp
  rw [es] at hU0
  have hread := hN0 _ (w.heap.size + 1) hU0
  have hk0 := ((Keeps.refl [] w).alloc (.cells #[.int .u8 0, .int .u8 0, .int .u8 0, .int .u16 0, .int .u16 0] 24)).alloc (.cells #[.string CS, .bool false] 175)
  generalize opM CC = M at *
  generalize bs (opNm CC) = NM at *
  generalize opGood ⟨CC, o, k, 0, 0⟩ = G at *
  have HX := Lib.hid hX0; have HU := Lib.hid hU0; have HK := Lib.hid hk0; have HR := Lib.hid hread
  have H1 := Lib.hid h1; have H2 := Lib.hid h2; have H3 := Lib.hid h3
  clear hX0 hU0 hk0 hread hK hA hB is es hN0 h1 h2 h3
  go_enter Tryz.func122, Tryz.ntmps122
  go_wp2_with fail
  refine HR.out.mono ?_; rintro e w1 ⟨rfl, hu1, hk1⟩
  have hb1 := hk1.heap HX.out (by simp)
  have hK1 := HK.out.readU (by omega) hk1
  have hu2 := heap_set_other (i := 0) hu1 (a := w.heap.size) (by omega) (.int .u8 CC)
  have hb2 := set5_0 hb1 (.int .u8 CC)
  have hK2 := hK1.setCell ⟨w.heap.size, 0, none⟩ (.int .u8 CC) (.inr (Nat.le_refl _))
  obtain ⟨c0, c1, c2, c3, c4, cl⟩ := cell5 hb1
  obtain ⟨d0, d1, d2, d3, d4⟩ := thaw5 hb1
  obtain ⟨u0, u1, ul⟩ := cell2 hu2
  obtain ⟨y0, y1, y2, y3, y4, yl⟩ := cell5 hb2
  have HU2 := Lib.hid hu2; have HB2 := Lib.hid hb2; have HK2 := Lib.hid hK2
  clear hu1 hk1 hb1 hK1 hu2 hb2 hK2 HR HX HU HK
  go_wp2_with fail
  clear c0 c1 c2 c3 c4 d0 d1 d2 d3 d4 u0 u1 y0 y1 y2 y3 y4
  generalize w1.setCell ⟨w.heap.size, 0, none⟩ (.int .u8 CC) = W2 at *
  refine (hf _ (hG.new HK2.out)).mono ?_; rintro e w3 ⟨rfl, hk3⟩
  have hb3 := hk3.heap HB2.out (by simp)
  have hu3 := hk3.heap HU2.out (by simp)
  have hK3 := HK2.out.trans hk3 (FSub.refl _ _)
  have hT0 : TAt (w3.alloc (.cells #[.int .u8 M, .string NM, .bool true, .bool false, .bool false] 124)) w.heap.size (w.heap.size + 1) w3.heap.size #[.int .u8 M, .string NM, .bool true, .bool false, .bool false] (.int .u8 CC) (.int .u8 0) (.int .u8 0) (.int .u16 0) (.int .u16 0) S0 false :=
    ⟨heap_alloc_lt hb3, heap_alloc_lt hu3, heap_alloc_new w3 _⟩
  have hDQ : w.heap.size ≠ w3.heap.size := by have := lt_of_block hb3; omega
  have hUQ : w.heap.size + 1 ≠ w3.heap.size := by have := lt_of_block hu3; omega
  have hDU : w.heap.size ≠ w.heap.size + 1 := by omega
  have hD : w.heap.size ≤ w.heap.size := Nat.le_refl _
  have hUU : w.heap.size ≤ w.heap.size + 1 := by omega
  have hK4 := hK3.alloc (.cells #[.int .u8 M, .string NM, .bool true, .bool false, .bool false] 124)
  clear hk3 hb3 hu3 hK3 HB2 HU2 HK2 hf
  have HT0 := Lib.hid hT0; have HK4 := Lib.hid hK4
  clear hT0 hK4
  go_wp2_with fail
  generalize w3.alloc (.cells #[.int .u8 M, .string NM, .bool true, .bool false, .bool false] 124) = W4 at *
  generalize w3.heap.size = Q at *
  generalize w.heap.size + 1 = U at *
  refine (hN1 _ _ HT0.out.ub).mono ?_; rintro e w5 ⟨rfl, hur, hkr⟩
  have hR0 := HT0.out.read hDU hUQ hur hkr
  have hKr0 := HK4.out.readU hUU hkr
  have hT1 := hR0.put1 hDU hDQ (.int .u8 o)
  have hK5 := hKr0.setCell ⟨w.heap.size, 1, none⟩ (.int .u8 o) (.inr hD)
  obtain ⟨c0, c1, c2, c3, c4, cl⟩ := cell5 hR0.xb
  obtain ⟨d0, d1, d2, d3, d4⟩ := thaw5 hR0.xb
  obtain ⟨q0, q1, q2, q3, q4, ql⟩ := cell5 hT1.qb
  obtain ⟨u0, u1, ul⟩ := cell2 hT1.ub
  obtain ⟨y0, y1, y2, y3, y4, yl⟩ := cell5 hT1.xb
  have HT1 := Lib.hid hT1; have HK5 := Lib.hid hK5
  clear hur hkr hR0 hKr0 hT1 hK5 HT0 HK4
  go_wp2_with fail
  clear c0 c1 c2 c3 c4 cl d0 d1 d2 d3 d4 q0 q1 q2 q3 q4 ql u0 u1 ul y0 y1 y2 y3 y4 yl
  generalize w5.setCell ⟨w.heap.size, 1, none⟩ (.int .u8 o) = W5 at *
  refine (hN2 _ _ HT1.out.ub).mono ?_; rintro e w6 ⟨rfl, hur, hkr⟩
  have hR1 := HT1.out.read hDU hUQ hur hkr
  have hKr1 := HK5.out.readU hUU hkr
  have hT2 := hR1.put2 hDU hDQ (.int .u8 k)
  have hK6 := hKr1.setCell ⟨w.heap.size, 2, none⟩ (.int .u8 k) (.inr hD)
  obtain ⟨c0, c1, c2, c3, c4, cl⟩ := cell5 hR1.xb
  obtain ⟨d0, d1, d2, d3, d4⟩ := thaw5 hR1.xb
  obtain ⟨q0, q1, q2, q3, q4, ql⟩ := cell5 hT2.qb
  obtain ⟨u0, u1, ul⟩ := cell2 hT2.ub
  obtain ⟨y0, y1, y2, y3, y4, yl⟩ := cell5 hT2.xb
  have HT2 := Lib.hid hT2; have HK6 := Lib.hid hK6
  clear hur hkr hR1 hKr1 hT2 hK6 HT1 HK5
  have hth := thaw5 HT2.out.xb
  cases t2 with
  | true =>
    obtain ⟨rfl, rfl, rfl⟩ := H1.out rfl
    obtain ⟨g0, g1, g2, g3, g4⟩ := hth
    have hr := put5 HT2.out.xb (.int .u8 0) (.int .u8 0) (.int .u8 0) (.int .u16 0) (.int .u16 0)
    have hkk := HK6.out.set5 (b := w.heap.size) (.inr hD) (.int .u8 0) (.int .u8 0) (.int .u8 0) (.int .u16 0) (.int .u16 0)
    have HR := Lib.hid hr; have HKK := Lib.hid hkk
    clear hr hkk HT2 HK6 hv
    go_wp2_with fail
    try simp only [Exit.inBlock, Exit.then]
    exact bodyPost_ret (results_op3 rfl _ _ _ rfl HR.out) rfl ⟨rfl, HKK.out⟩
  | false =>
    have J2 := H2.out rfl; have J3 := H3.out rfl
    clear hth H1 H2 H3 hN2
    go_wp2_with fail
    clear c0 c1 c2 c3 c4 cl d0 d1 d2 d3 d4 q0 q1 q2 q3 q4 ql u0 u1 ul y0 y1 y2 y3 y4 yl
    generalize w6.setCell ⟨w.heap.size, 2, none⟩ (.int .u8 k) = WV at *
    refine (hv _ (hG.new HK6.out)).mono ?_; rintro e w8 ⟨rfl, hk8⟩
    have hT := HT2.out.keep hk8
    have hK := HK6.out.trans hk8 (FSub.refl _ _)
    clear HT2 HK6 hk8 hv
    obtain ⟨c0, c1, c2, c3, c4, cl⟩ := cell5 hT.xb
    obtain ⟨d0, d1, d2, d3, d4⟩ := thaw5 hT.xb
    obtain ⟨u0, u1, ul⟩ := cell2 hT.ub
    cases G with
    | true =>
      obtain ⟨rfl, rfl, rfl⟩ := J2 rfl
      have hr := put5 hT.xb (.int .u8 CC) (.int .u8 o) (.int .u8 k) (.int .u16 0) (.int .u16 0)
      have hkk := hK.set5 (b := w.heap.size) (.inr hD) (.int .u8 CC) (.int .u8 o) (.int .u8 k) (.int .u16 0) (.int .u16 0)
      have HR := Lib.hid hr; have HKK := Lib.hid hkk
      clear hr hkk hT hK
      go_wp2_with fail
      go_region
      go_wp2_with fail
      try simp only [Exit.inBlock, Exit.then]
      exact bodyPost_ret (results_op3 rfl _ _ _ rfl (heap_drew HR.out)) rfl ⟨rfl, HKK.out.drew⟩
    | false =>
      obtain ⟨rfl, rfl, rfl⟩ := J3 rfl
      have hr := put5 hT.xb (.int .u8 0) (.int .u8 0) (.int .u8 0) (.int .u16 0) (.int .u16 0)
      have hkk := hK.set5 (b := w.heap.size) (.inr hD) (.int .u8 0) (.int .u8 0) (.int .u8 0) (.int .u16 0) (.int .u16 0)
      have HR := Lib.hid hr; have HKK := Lib.hid hkk
      clear hr hkk hT hK
      go_wp2_with fail
      try simp only [Exit.inBlock, Exit.then]
      exact bodyPost_ret (results_op3 rfl _ _ _ rfl HR.out) rfl ⟨rfl, HKK.out⟩
set_option maxHeartbeats 8000000 in
set_option maxRecDepth 100000 in
theorem take_110 (w : World) (hG : Glob4 w) (CS S0 S1 S2 S3 : ByteArray) (CC o k a : Int) (t1 t2 t3 : Bool) (hN0 : Reads8 CS false CC S0 false)  (hN1 : Reads8 S0 false o S1 t1) (hN2 : Reads8 S1 t1 k S2 t2) (hN3 : Reads16 S2 t2 a S3 t3)
    (c0 : 0 ≤ CC) (c1 : CC < 256) (is : opIs CC = true) (hK : opK CC = true) (hA : opA CC = true) (hB : opB CC = false) (hin : (⟨CC, o, k, a, 0⟩ : Opn).In)
    (R5 : Opn) (RL : ByteArray) (E : Int) (h1 : t3 = true → R5 = opZero ∧ RL = ⟨#[]⟩ ∧ E = 5) (h2 : t3 = false → opGood ⟨CC, o, k, a, 0⟩ = true → R5 = ⟨CC, o, k, a, 0⟩ ∧ RL = S3 ∧ E = 0) (h3 : t3 = false → opGood ⟨CC, o, k, a, 0⟩ = false → R5 = opZero ∧ RL = ⟨#[]⟩ ∧ E = 4) :
    Calls Tryz.prog 122 #[.string CS] w fun e w' => e = .returned (.tuple #[R5.val, .string RL, .int .i64 E]) ∧ Keeps [] w w' := by
  have hv := fun w hG => valid_any w hG CC o k a 0 hin
  have hf := fun w hG => find_any w hG CC c0 c1
  rw [is, hK, hA, hB] at hf
  obtain ⟨_, _, o0, o1, k0, k1, a0, a1, b0, b1⟩ := hin
  simp only at o0 o1 k0 k1 a0 a1 b0 b1
  have hX0 := heap_alloc_lt (o := .cells #[.string CS, .bool false] 175) (heap_alloc_new w (.cells #[.int .u8 0, .int .u8 0, .int .u8 0, .int .u16 0, .int .u16 0] 24))
  have hU0 := heap_alloc_new (w.alloc (.cells #[.int .u8 0, .int .u8 0, .int .u8 0, .int .u16 0, .int .u16 0] 24)) (.cells #[.string CS, .bool false] 175)
  have es : (w.alloc (.cells #[.int .u8 0, .int .u8 0, .int .u8 0, .int .u16 0, .int .u16 0] 24)).heap.size = w.heap.size + 1 := by simp
  rw [es] at hU0
  have hread := hN0 _ (w.heap.size + 1) hU0
  have hk0 := ((Keeps.refl [] w).alloc (.cells #[.int .u8 0, .int .u8 0, .int .u8 0, .int .u16 0, .int .u16 0] 24)).alloc (.cells #[.string CS, .bool false] 175)
  generalize opM CC = M at *
  generalize bs (opNm CC) = NM at *
  generalize opGood ⟨CC, o, k, a, 0⟩ = G at *
  have HX := Lib.hid hX0; have HU := Lib.hid hU0; have HK := Lib.hid hk0; have HR := Lib.hid hread
  have H1 := Lib.hid h1; have H2 := Lib.hid h2; have H3 := Lib.hid h3
  clear hX0 hU0 hk0 hread hK hA hB is es hN0 h1 h2 h3
  go_enter Tryz.func122, Tryz.ntmps122
  go_wp2_with fail
  refine HR.out.mono ?_; rintro e w1 ⟨rfl, hu1, hk1⟩
  have hb1 := hk1.heap HX.out (by simp)
  have hK1 := HK.out.readU (by omega) hk1
  have hu2 := heap_set_other (i := 0) hu1 (a := w.heap.size) (by omega) (.int .u8 CC)
  have hb2 := set5_0 hb1 (.int .u8 CC)
  have hK2 := hK1.setCell ⟨w.heap.size, 0, none⟩ (.int .u8 CC) (.inr (Nat.le_refl _))
  obtain ⟨c0, c1, c2, c3, c4, cl⟩ := cell5 hb1
  obtain ⟨d0, d1, d2, d3, d4⟩ := thaw5 hb1
  obtain ⟨u0, u1, ul⟩ := cell2 hu2
  obtain ⟨y0, y1, y2, y3, y4, yl⟩ := cell5 hb2
  have HU2 := Lib.hid hu2; have HB2 := Lib.hid hb2; have HK2 := Lib.hid hK2
  clear hu1 hk1 hb1 hK1 hu2 hb2 hK2 HR HX HU HK
  go_wp2_with fail
  clear c0 c1 c2 c3 c4 d0 d1 d2 d3 d4 u0 u1 y0 y1 y2 y3 y4
  generalize w1.setCell ⟨w.heap.size, 0, none⟩ (.int .u8 CC) = W2 at *
  refine (hf _ (hG.new HK2.out)).mono ?_; rintro e w3 ⟨rfl, hk3⟩
  have hb3 := hk3.heap HB2.out (by simp)
  have hu3 := hk3.heap HU2.out (by simp)
  have hK3 := HK2.out.trans hk3 (FSub.refl _ _)
  have hT0 : TAt (w3.alloc (.cells #[.int .u8 M, .string NM, .bool true, .bool true, .bool false] 124)) w.heap.size (w.heap.size + 1) w3.heap.size #[.int .u8 M, .string NM, .bool true, .bool true, .bool false] (.int .u8 CC) (.int .u8 0) (.int .u8 0) (.int .u16 0) (.int .u16 0) S0 false :=
    ⟨heap_alloc_lt hb3, heap_alloc_lt hu3, heap_alloc_new w3 _⟩
  have hDQ : w.heap.size ≠ w3.heap.size := by have := lt_of_block hb3; omega
  have hUQ : w.heap.size + 1 ≠ w3.heap.size := by have := lt_of_block hu3; omega
  have hDU : w.heap.size ≠ w.heap.size + 1 := by omega
  have hD : w.heap.size ≤ w.heap.size := Nat.le_refl _
  have hUU : w.heap.size ≤ w.heap.size + 1 := by omega
  have hK4 := hK3.alloc (.cells #[.int .u8 M, .string NM, .bool true, .bool true, .bool false] 124)
  clear hk3 hb3 hu3 hK3 HB2 HU2 HK2 hf
  have HT0 := Lib.hid hT0; have HK4 := Lib.hid hK4
  clear hT0 hK4
  go_wp2_with fail
  generalize w3.alloc (.cells #[.int .u8 M, .string NM, .bool true, .bool true, .bool false] 124) = W4 at *
  generalize w3.heap.size = Q at *
  generalize w.heap.size + 1 = U at *
  refine (hN1 _ _ HT0.out.ub).mono ?_; rintro e w5 ⟨rfl, hur, hkr⟩
  have hR0 := HT0.out.read hDU hUQ hur hkr
  have hKr0 := HK4.out.readU hUU hkr
  have hT1 := hR0.put1 hDU hDQ (.int .u8 o)
  have hK5 := hKr0.setCell ⟨w.heap.size, 1, none⟩ (.int .u8 o) (.inr hD)
  obtain ⟨c0, c1, c2, c3, c4, cl⟩ := cell5 hR0.xb
  obtain ⟨d0, d1, d2, d3, d4⟩ := thaw5 hR0.xb
  obtain ⟨q0, q1, q2, q3, q4, ql⟩ := cell5 hT1.qb
  obtain ⟨u0, u1, ul⟩ := cell2 hT1.ub
  obtain ⟨y0, y1, y2, y3, y4, yl⟩ := cell5 hT1.xb
  have HT1 := Lib.hid hT1; have HK5 := Lib.hid hK5
  clear hur hkr hR0 hKr0 hT1 hK5 HT0 HK4
  go_wp2_with fail
  clear c0 c1 c2 c3 c4 cl d0 d1 d2 d3 d4 q0 q1 q2 q3 q4 ql u0 u1 ul y0 y1 y2 y3 y4 yl
  generalize w5.setCell ⟨w.heap.size, 1, none⟩ (.int .u8 o) = W5 at *
  refine (hN2 _ _ HT1.out.ub).mono ?_; rintro e w6 ⟨rfl, hur, hkr⟩
  have hR1 := HT1.out.read hDU hUQ hur hkr
  have hKr1 := HK5.out.readU hUU hkr
  have hT2 := hR1.put2 hDU hDQ (.int .u8 k)
  have hK6 := hKr1.setCell ⟨w.heap.size, 2, none⟩ (.int .u8 k) (.inr hD)
  obtain ⟨c0, c1, c2, c3, c4, cl⟩ := cell5 hR1.xb
  obtain ⟨d0, d1, d2, d3, d4⟩ := thaw5 hR1.xb
  obtain ⟨q0, q1, q2, q3, q4, ql⟩ := cell5 hT2.qb
  obtain ⟨u0, u1, ul⟩ := cell2 hT2.ub
  obtain ⟨y0, y1, y2, y3, y4, yl⟩ := cell5 hT2.xb
  have HT2 := Lib.hid hT2; have HK6 := Lib.hid hK6
  clear hur hkr hR1 hKr1 hT2 hK6 HT1 HK5
  go_wp2_with fail
  clear c0 c1 c2 c3 c4 cl d0 d1 d2 d3 d4 q0 q1 q2 q3 q4 ql u0 u1 ul y0 y1 y2 y3 y4 yl
  generalize w6.setCell ⟨w.heap.size, 2, none⟩ (.int .u8 k) = W6 at *
  refine (hN3 _ _ HT2.out.ub).mono ?_; rintro e w7 ⟨rfl, hur, hkr⟩
  have hR2 := HT2.out.read hDU hUQ hur hkr
  have hKr2 := HK6.out.readU hUU hkr
  have hT3 := hR2.put3 hDU hDQ (.int .u16 a)
  have hK7 := hKr2.setCell ⟨w.heap.size, 3, none⟩ (.int .u16 a) (.inr hD)
  obtain ⟨c0, c1, c2, c3, c4, cl⟩ := cell5 hR2.xb
  obtain ⟨d0, d1, d2, d3, d4⟩ := thaw5 hR2.xb
  obtain ⟨q0, q1, q2, q3, q4, ql⟩ := cell5 hT3.qb
  obtain ⟨u0, u1, ul⟩ := cell2 hT3.ub
  obtain ⟨y0, y1, y2, y3, y4, yl⟩ := cell5 hT3.xb
  have HT3 := Lib.hid hT3; have HK7 := Lib.hid hK7
  clear hur hkr hR2 hKr2 hT3 hK7 HT2 HK6
  have hth := thaw5 HT3.out.xb
  cases t3 with
  | true =>
    obtain ⟨rfl, rfl, rfl⟩ := H1.out rfl
    obtain ⟨g0, g1, g2, g3, g4⟩ := hth
    have hr := put5 HT3.out.xb (.int .u8 0) (.int .u8 0) (.int .u8 0) (.int .u16 0) (.int .u16 0)
    have hkk := HK7.out.set5 (b := w.heap.size) (.inr hD) (.int .u8 0) (.int .u8 0) (.int .u8 0) (.int .u16 0) (.int .u16 0)
    have HR := Lib.hid hr; have HKK := Lib.hid hkk
    clear hr hkk HT3 HK7 hv
    go_wp2_with fail
    try simp only [Exit.inBlock, Exit.then]
    exact bodyPost_ret (results_op3 rfl _ _ _ rfl HR.out) rfl ⟨rfl, HKK.out⟩
  | false =>
    have J2 := H2.out rfl; have J3 := H3.out rfl
    clear hth H1 H2 H3 hN3
    go_wp2_with fail
    clear c0 c1 c2 c3 c4 cl d0 d1 d2 d3 d4 q0 q1 q2 q3 q4 ql u0 u1 ul y0 y1 y2 y3 y4 yl
    generalize w7.setCell ⟨w.heap.size, 3, none⟩ (.int .u16 a) = WV at *
    refine (hv _ (hG.new HK7.out)).mono ?_; rintro e w8 ⟨rfl, hk8⟩
    have hT := HT3.out.keep hk8
    have hK := HK7.out.trans hk8 (FSub.refl _ _)
    clear HT3 HK7 hk8 hv
    obtain ⟨c0, c1, c2, c3, c4, cl⟩ := cell5 hT.xb
    obtain ⟨d0, d1, d2, d3, d4⟩ := thaw5 hT.xb
    obtain ⟨u0, u1, ul⟩ := cell2 hT.ub
    cases G with
    | true =>
      obtain ⟨rfl, rfl, rfl⟩ := J2 rfl
      have hr := put5 hT.xb (.int .u8 CC) (.int .u8 o) (.int .u8 k) (.int .u16 a) (.int .u16 0)
      have hkk := hK.set5 (b := w.heap.size) (.inr hD) (.int .u8 CC) (.int .u8 o) (.int .u8 k) (.int .u16 a) (.int .u16 0)
      have HR := Lib.hid hr; have HKK := Lib.hid hkk
      clear hr hkk hT hK
      go_wp2_with fail
      go_region
      go_wp2_with fail
      try simp only [Exit.inBlock, Exit.then]
      exact bodyPost_ret (results_op3 rfl _ _ _ rfl (heap_drew HR.out)) rfl ⟨rfl, HKK.out.drew⟩
    | false =>
      obtain ⟨rfl, rfl, rfl⟩ := J3 rfl
      have hr := put5 hT.xb (.int .u8 0) (.int .u8 0) (.int .u8 0) (.int .u16 0) (.int .u16 0)
      have hkk := hK.set5 (b := w.heap.size) (.inr hD) (.int .u8 0) (.int .u8 0) (.int .u8 0) (.int .u16 0) (.int .u16 0)
      have HR := Lib.hid hr; have HKK := Lib.hid hkk
      clear hr hkk hT hK
      go_wp2_with fail
      try simp only [Exit.inBlock, Exit.then]
      exact bodyPost_ret (results_op3 rfl _ _ _ rfl HR.out) rfl ⟨rfl, HKK.out⟩
set_option maxHeartbeats 8000000 in
set_option maxRecDepth 100000 in
theorem take_111 (w : World) (hG : Glob4 w) (CS S0 S1 S2 S3 S4 : ByteArray) (CC o k a b : Int) (t1 t2 t3 t4 : Bool) (hN0 : Reads8 CS false CC S0 false)  (hN1 : Reads8 S0 false o S1 t1) (hN2 : Reads8 S1 t1 k S2 t2) (hN3 : Reads16 S2 t2 a S3 t3) (hN4 : Reads16 S3 t3 b S4 t4)
    (c0 : 0 ≤ CC) (c1 : CC < 256) (is : opIs CC = true) (hK : opK CC = true) (hA : opA CC = true) (hB : opB CC = true) (hin : (⟨CC, o, k, a, b⟩ : Opn).In)
    (R5 : Opn) (RL : ByteArray) (E : Int) (h1 : t4 = true → R5 = opZero ∧ RL = ⟨#[]⟩ ∧ E = 5) (h2 : t4 = false → opGood ⟨CC, o, k, a, b⟩ = true → R5 = ⟨CC, o, k, a, b⟩ ∧ RL = S4 ∧ E = 0) (h3 : t4 = false → opGood ⟨CC, o, k, a, b⟩ = false → R5 = opZero ∧ RL = ⟨#[]⟩ ∧ E = 4) :
    Calls Tryz.prog 122 #[.string CS] w fun e w' => e = .returned (.tuple #[R5.val, .string RL, .int .i64 E]) ∧ Keeps [] w w' := by
  have hv := fun w hG => valid_any w hG CC o k a b hin
  have hf := fun w hG => find_any w hG CC c0 c1
  rw [is, hK, hA, hB] at hf
  obtain ⟨_, _, o0, o1, k0, k1, a0, a1, b0, b1⟩ := hin
  simp only at o0 o1 k0 k1 a0 a1 b0 b1
  have hX0 := heap_alloc_lt (o := .cells #[.string CS, .bool false] 175) (heap_alloc_new w (.cells #[.int .u8 0, .int .u8 0, .int .u8 0, .int .u16 0, .int .u16 0] 24))
  have hU0 := heap_alloc_new (w.alloc (.cells #[.int .u8 0, .int .u8 0, .int .u8 0, .int .u16 0, .int .u16 0] 24)) (.cells #[.string CS, .bool false] 175)
  have es : (w.alloc (.cells #[.int .u8 0, .int .u8 0, .int .u8 0, .int .u16 0, .int .u16 0] 24)).heap.size = w.heap.size + 1 := by simp
  rw [es] at hU0
  have hread := hN0 _ (w.heap.size + 1) hU0
  have hk0 := ((Keeps.refl [] w).alloc (.cells #[.int .u8 0, .int .u8 0, .int .u8 0, .int .u16 0, .int .u16 0] 24)).alloc (.cells #[.string CS, .bool false] 175)
  generalize opM CC = M at *
  generalize bs (opNm CC) = NM at *
  generalize opGood ⟨CC, o, k, a, b⟩ = G at *
  have HX := Lib.hid hX0; have HU := Lib.hid hU0; have HK := Lib.hid hk0; have HR := Lib.hid hread
  have H1 := Lib.hid h1; have H2 := Lib.hid h2; have H3 := Lib.hid h3
  clear hX0 hU0 hk0 hread hK hA hB is es hN0 h1 h2 h3
  go_enter Tryz.func122, Tryz.ntmps122
  go_wp2_with fail
  refine HR.out.mono ?_; rintro e w1 ⟨rfl, hu1, hk1⟩
  have hb1 := hk1.heap HX.out (by simp)
  have hK1 := HK.out.readU (by omega) hk1
  have hu2 := heap_set_other (i := 0) hu1 (a := w.heap.size) (by omega) (.int .u8 CC)
  have hb2 := set5_0 hb1 (.int .u8 CC)
  have hK2 := hK1.setCell ⟨w.heap.size, 0, none⟩ (.int .u8 CC) (.inr (Nat.le_refl _))
  obtain ⟨c0, c1, c2, c3, c4, cl⟩ := cell5 hb1
  obtain ⟨d0, d1, d2, d3, d4⟩ := thaw5 hb1
  obtain ⟨u0, u1, ul⟩ := cell2 hu2
  obtain ⟨y0, y1, y2, y3, y4, yl⟩ := cell5 hb2
  have HU2 := Lib.hid hu2; have HB2 := Lib.hid hb2; have HK2 := Lib.hid hK2
  clear hu1 hk1 hb1 hK1 hu2 hb2 hK2 HR HX HU HK
  go_wp2_with fail
  clear c0 c1 c2 c3 c4 d0 d1 d2 d3 d4 u0 u1 y0 y1 y2 y3 y4
  generalize w1.setCell ⟨w.heap.size, 0, none⟩ (.int .u8 CC) = W2 at *
  refine (hf _ (hG.new HK2.out)).mono ?_; rintro e w3 ⟨rfl, hk3⟩
  have hb3 := hk3.heap HB2.out (by simp)
  have hu3 := hk3.heap HU2.out (by simp)
  have hK3 := HK2.out.trans hk3 (FSub.refl _ _)
  have hT0 : TAt (w3.alloc (.cells #[.int .u8 M, .string NM, .bool true, .bool true, .bool true] 124)) w.heap.size (w.heap.size + 1) w3.heap.size #[.int .u8 M, .string NM, .bool true, .bool true, .bool true] (.int .u8 CC) (.int .u8 0) (.int .u8 0) (.int .u16 0) (.int .u16 0) S0 false :=
    ⟨heap_alloc_lt hb3, heap_alloc_lt hu3, heap_alloc_new w3 _⟩
  have hDQ : w.heap.size ≠ w3.heap.size := by have := lt_of_block hb3; omega
  have hUQ : w.heap.size + 1 ≠ w3.heap.size := by have := lt_of_block hu3; omega
  have hDU : w.heap.size ≠ w.heap.size + 1 := by omega
  have hD : w.heap.size ≤ w.heap.size := Nat.le_refl _
  have hUU : w.heap.size ≤ w.heap.size + 1 := by omega
  have hK4 := hK3.alloc (.cells #[.int .u8 M, .string NM, .bool true, .bool true, .bool true] 124)
  clear hk3 hb3 hu3 hK3 HB2 HU2 HK2 hf
  have HT0 := Lib.hid hT0; have HK4 := Lib.hid hK4
  clear hT0 hK4
  go_wp2_with fail
  generalize w3.alloc (.cells #[.int .u8 M, .string NM, .bool true, .bool true, .bool true] 124) = W4 at *
  generalize w3.heap.size = Q at *
  generalize w.heap.size + 1 = U at *
  refine (hN1 _ _ HT0.out.ub).mono ?_; rintro e w5 ⟨rfl, hur, hkr⟩
  have hR0 := HT0.out.read hDU hUQ hur hkr
  have hKr0 := HK4.out.readU hUU hkr
  have hT1 := hR0.put1 hDU hDQ (.int .u8 o)
  have hK5 := hKr0.setCell ⟨w.heap.size, 1, none⟩ (.int .u8 o) (.inr hD)
  obtain ⟨c0, c1, c2, c3, c4, cl⟩ := cell5 hR0.xb
  obtain ⟨d0, d1, d2, d3, d4⟩ := thaw5 hR0.xb
  obtain ⟨q0, q1, q2, q3, q4, ql⟩ := cell5 hT1.qb
  obtain ⟨u0, u1, ul⟩ := cell2 hT1.ub
  obtain ⟨y0, y1, y2, y3, y4, yl⟩ := cell5 hT1.xb
  have HT1 := Lib.hid hT1; have HK5 := Lib.hid hK5
  clear hur hkr hR0 hKr0 hT1 hK5 HT0 HK4
  go_wp2_with fail
  clear c0 c1 c2 c3 c4 cl d0 d1 d2 d3 d4 q0 q1 q2 q3 q4 ql u0 u1 ul y0 y1 y2 y3 y4 yl
  generalize w5.setCell ⟨w.heap.size, 1, none⟩ (.int .u8 o) = W5 at *
  refine (hN2 _ _ HT1.out.ub).mono ?_; rintro e w6 ⟨rfl, hur, hkr⟩
  have hR1 := HT1.out.read hDU hUQ hur hkr
  have hKr1 := HK5.out.readU hUU hkr
  have hT2 := hR1.put2 hDU hDQ (.int .u8 k)
  have hK6 := hKr1.setCell ⟨w.heap.size, 2, none⟩ (.int .u8 k) (.inr hD)
  obtain ⟨c0, c1, c2, c3, c4, cl⟩ := cell5 hR1.xb
  obtain ⟨d0, d1, d2, d3, d4⟩ := thaw5 hR1.xb
  obtain ⟨q0, q1, q2, q3, q4, ql⟩ := cell5 hT2.qb
  obtain ⟨u0, u1, ul⟩ := cell2 hT2.ub
  obtain ⟨y0, y1, y2, y3, y4, yl⟩ := cell5 hT2.xb
  have HT2 := Lib.hid hT2; have HK6 := Lib.hid hK6
  clear hur hkr hR1 hKr1 hT2 hK6 HT1 HK5
  go_wp2_with fail
  clear c0 c1 c2 c3 c4 cl d0 d1 d2 d3 d4 q0 q1 q2 q3 q4 ql u0 u1 ul y0 y1 y2 y3 y4 yl
  generalize w6.setCell ⟨w.heap.size, 2, none⟩ (.int .u8 k) = W6 at *
  refine (hN3 _ _ HT2.out.ub).mono ?_; rintro e w7 ⟨rfl, hur, hkr⟩
  have hR2 := HT2.out.read hDU hUQ hur hkr
  have hKr2 := HK6.out.readU hUU hkr
  have hT3 := hR2.put3 hDU hDQ (.int .u16 a)
  have hK7 := hKr2.setCell ⟨w.heap.size, 3, none⟩ (.int .u16 a) (.inr hD)
  obtain ⟨c0, c1, c2, c3, c4, cl⟩ := cell5 hR2.xb
  obtain ⟨d0, d1, d2, d3, d4⟩ := thaw5 hR2.xb
  obtain ⟨q0, q1, q2, q3, q4, ql⟩ := cell5 hT3.qb
  obtain ⟨u0, u1, ul⟩ := cell2 hT3.ub
  obtain ⟨y0, y1, y2, y3, y4, yl⟩ := cell5 hT3.xb
  have HT3 := Lib.hid hT3; have HK7 := Lib.hid hK7
  clear hur hkr hR2 hKr2 hT3 hK7 HT2 HK6
  go_wp2_with fail
  clear c0 c1 c2 c3 c4 cl d0 d1 d2 d3 d4 q0 q1 q2 q3 q4 ql u0 u1 ul y0 y1 y2 y3 y4 yl
  generalize w7.setCell ⟨w.heap.size, 3, none⟩ (.int .u16 a) = W7 at *
  refine (hN4 _ _ HT3.out.ub).mono ?_; rintro e w8 ⟨rfl, hur, hkr⟩
  have hR3 := HT3.out.read hDU hUQ hur hkr
  have hKr3 := HK7.out.readU hUU hkr
  have hT4 := hR3.put4 hDU hDQ (.int .u16 b)
  have hK8 := hKr3.setCell ⟨w.heap.size, 4, none⟩ (.int .u16 b) (.inr hD)
  obtain ⟨c0, c1, c2, c3, c4, cl⟩ := cell5 hR3.xb
  obtain ⟨d0, d1, d2, d3, d4⟩ := thaw5 hR3.xb
  obtain ⟨q0, q1, q2, q3, q4, ql⟩ := cell5 hT4.qb
  obtain ⟨u0, u1, ul⟩ := cell2 hT4.ub
  obtain ⟨y0, y1, y2, y3, y4, yl⟩ := cell5 hT4.xb
  have HT4 := Lib.hid hT4; have HK8 := Lib.hid hK8
  clear hur hkr hR3 hKr3 hT4 hK8 HT3 HK7
  have hth := thaw5 HT4.out.xb
  cases t4 with
  | true =>
    obtain ⟨rfl, rfl, rfl⟩ := H1.out rfl
    obtain ⟨g0, g1, g2, g3, g4⟩ := hth
    have hr := put5 HT4.out.xb (.int .u8 0) (.int .u8 0) (.int .u8 0) (.int .u16 0) (.int .u16 0)
    have hkk := HK8.out.set5 (b := w.heap.size) (.inr hD) (.int .u8 0) (.int .u8 0) (.int .u8 0) (.int .u16 0) (.int .u16 0)
    have HR := Lib.hid hr; have HKK := Lib.hid hkk
    clear hr hkk HT4 HK8 hv
    go_wp2_with fail
    try simp only [Exit.inBlock, Exit.then]
    exact bodyPost_ret (results_op3 rfl _ _ _ rfl HR.out) rfl ⟨rfl, HKK.out⟩
  | false =>
    have J2 := H2.out rfl; have J3 := H3.out rfl
    clear hth H1 H2 H3 hN4
    go_wp2_with fail
    clear c0 c1 c2 c3 c4 cl d0 d1 d2 d3 d4 q0 q1 q2 q3 q4 ql u0 u1 ul y0 y1 y2 y3 y4 yl
    generalize w8.setCell ⟨w.heap.size, 4, none⟩ (.int .u16 b) = WV at *
    refine (hv _ (hG.new HK8.out)).mono ?_; rintro e w8 ⟨rfl, hk8⟩
    have hT := HT4.out.keep hk8
    have hK := HK8.out.trans hk8 (FSub.refl _ _)
    clear HT4 HK8 hk8 hv
    obtain ⟨c0, c1, c2, c3, c4, cl⟩ := cell5 hT.xb
    obtain ⟨d0, d1, d2, d3, d4⟩ := thaw5 hT.xb
    obtain ⟨u0, u1, ul⟩ := cell2 hT.ub
    cases G with
    | true =>
      obtain ⟨rfl, rfl, rfl⟩ := J2 rfl
      have hr := put5 hT.xb (.int .u8 CC) (.int .u8 o) (.int .u8 k) (.int .u16 a) (.int .u16 b)
      have hkk := hK.set5 (b := w.heap.size) (.inr hD) (.int .u8 CC) (.int .u8 o) (.int .u8 k) (.int .u16 a) (.int .u16 b)
      have HR := Lib.hid hr; have HKK := Lib.hid hkk
      clear hr hkk hT hK
      go_wp2_with fail
      go_region
      go_wp2_with fail
      try simp only [Exit.inBlock, Exit.then]
      exact bodyPost_ret (results_op3 rfl _ _ _ rfl (heap_drew HR.out)) rfl ⟨rfl, HKK.out.drew⟩
    | false =>
      obtain ⟨rfl, rfl, rfl⟩ := J3 rfl
      have hr := put5 hT.xb (.int .u8 0) (.int .u8 0) (.int .u8 0) (.int .u16 0) (.int .u16 0)
      have hkk := hK.set5 (b := w.heap.size) (.inr hD) (.int .u8 0) (.int .u8 0) (.int .u8 0) (.int .u16 0) (.int .u16 0)
      have HR := Lib.hid hr; have HKK := Lib.hid hkk
      clear hr hkk hT hK
      go_wp2_with fail
      try simp only [Exit.inBlock, Exit.then]
      exact bodyPost_ret (results_op3 rfl _ _ _ rfl HR.out) rfl ⟨rfl, HKK.out⟩
theorem reads8_of (l : List UInt8) (t : Bool) (hl : l.length ≤ 3000) : Reads8 (bs l) t (v8 l) (bs (l.drop 1)) (t || l.isEmpty) := fun W U h => opNext8_any W U l t hl h
theorem reads16_of (l : List UInt8) (t : Bool) (hl : l.length ≤ 3000) : Reads16 (bs l) t (v16 l) (bs (r16 l)) (t || decide (l.length < 2)) := fun W U h => opNext16_any W U l t hl h
theorem r16_len (l : List UInt8) : (r16 l).length ≤ l.length := by
  unfold r16; split <;> simp
set_option maxHeartbeats 4000000 in
set_option maxRecDepth 100000 in
theorem take_none (w : World) : Calls Tryz.prog 122 #[.string ⟨#[]⟩] w fun e w' => e = .returned (.tuple #[opZero.val, .string ⟨#[]⟩, .int .i64 5]) ∧ Keeps [] w w' := by
  have hX0 := heap_alloc_lt (o := .cells #[.string ⟨#[]⟩, .bool false] 175) (heap_alloc_new w (.cells #[.int .u8 0, .int .u8 0, .int .u8 0, .int .u16 0, .int .u16 0] 24))
  have hU0 := heap_alloc_new (w.alloc (.cells #[.int .u8 0, .int .u8 0, .int .u8 0, .int .u16 0, .int .u16 0] 24)) (.cells #[.string ⟨#[]⟩, .bool false] 175)
  have es : (w.alloc (.cells #[.int .u8 0, .int .u8 0, .int .u8 0, .int .u16 0, .int .u16 0] 24)).heap.size = w.heap.size + 1 := by simp
  rw [es] at hU0
  have hread := reads8_of [] false (by simp) _ (w.heap.size + 1) hU0
  have hk0 := ((Keeps.refl [] w).alloc (.cells #[.int .u8 0, .int .u8 0, .int .u8 0, .int .u16 0, .int .u16 0] 24)).alloc (.cells #[.string ⟨#[]⟩, .bool false] 175)
  have HX := Lib.hid hX0; have HK := Lib.hid hk0; have HR := Lib.hid hread
  clear hX0 hU0 hk0 hread es
  go_enter Tryz.func122, Tryz.ntmps122
  go_wp2_with fail
  refine HR.out.mono ?_; rintro e w1 ⟨rfl, hu1, hk1⟩
  have hb1 := hk1.heap HX.out (by simp)
  have hK1 := HK.out.readU (by omega) hk1
  have hu2 := heap_set_other (i := 0) hu1 (a := w.heap.size) (by omega) (.int .u8 0)
  have hb2 := set5_0 hb1 (.int .u8 0)
  have hK2 := hK1.setCell ⟨w.heap.size, 0, none⟩ (.int .u8 0) (.inr (Nat.le_refl _))
  obtain ⟨c0, c1, c2, c3, c4, cl⟩ := cell5 hb1
  obtain ⟨d0, d1, d2, d3, d4⟩ := thaw5 hb1
  obtain ⟨u0, u1, ul⟩ := cell2 hu2
  have hr := put5 hb2 (.int .u8 0) (.int .u8 0) (.int .u8 0) (.int .u16 0) (.int .u16 0)
  have hkk := hK2.set5 (b := w.heap.size) (.inr (Nat.le_refl _)) (.int .u8 0) (.int .u8 0) (.int .u8 0) (.int .u16 0) (.int .u16 0)
  obtain ⟨g0, g1, g2, g3, g4⟩ := thaw5 hb2
  obtain ⟨y0, y1, y2, y3, y4, yl⟩ := cell5 hb2
  have HRR := Lib.hid hr; have HKK := Lib.hid hkk
  have e0 : v8 [] = 0 := rfl
  clear hu1 hk1 hb1 hK1 hu2 hb2 hK2 HR HX HK hr hkk
  go_wp2_with fail
  try simp only [Exit.inBlock, Exit.then]
  exact bodyPost_ret (results_op3 rfl _ _ _ rfl HRR.out) rfl ⟨rfl, HKK.out⟩
set_option maxHeartbeats 4000000 in
set_option maxRecDepth 100000 in
theorem take_no (w : World) (hG : Glob4 w) (CS S0 : ByteArray) (CC : Int) (hN0 : Reads8 CS false CC S0 false) (c0 : 0 ≤ CC) (c1 : CC < 256) (is : opIs CC = false) :
    Calls Tryz.prog 122 #[.string CS] w fun e w' => e = .returned (.tuple #[opZero.val, .string ⟨#[]⟩, .int .i64 4]) ∧ Keeps [] w w' := by
  have hf := fun w hG => find_any w hG CC c0 c1
  rw [is] at hf
  have hX0 := heap_alloc_lt (o := .cells #[.string CS, .bool false] 175) (heap_alloc_new w (.cells #[.int .u8 0, .int .u8 0, .int .u8 0, .int .u16 0, .int .u16 0] 24))
  have hU0 := heap_alloc_new (w.alloc (.cells #[.int .u8 0, .int .u8 0, .int .u8 0, .int .u16 0, .int .u16 0] 24)) (.cells #[.string CS, .bool false] 175)
  have es : (w.alloc (.cells #[.int .u8 0, .int .u8 0, .int .u8 0, .int .u16 0, .int .u16 0] 24)).heap.size = w.heap.size + 1 := by simp
  rw [es] at hU0
  have hread := hN0 _ (w.heap.size + 1) hU0
  have hk0 := ((Keeps.refl [] w).alloc (.cells #[.int .u8 0, .int .u8 0, .int .u8 0, .int .u16 0, .int .u16 0] 24)).alloc (.cells #[.string CS, .bool false] 175)
  generalize opM CC = M at *
  generalize bs (opNm CC) = NM at *
  generalize opK CC = K at *
  generalize opA CC = A at *
  generalize opB CC = BB at *
  have HX := Lib.hid hX0; have HK := Lib.hid hk0; have HR := Lib.hid hread
  clear hX0 hU0 hk0 hread is es hN0
  go_enter Tryz.func122, Tryz.ntmps122
  go_wp2_with fail
  refine HR.out.mono ?_; rintro e w1 ⟨rfl, hu1, hk1⟩
  have hb1 := hk1.heap HX.out (by simp)
  have hK1 := HK.out.readU (by omega) hk1
  have hu2 := heap_set_other (i := 0) hu1 (a := w.heap.size) (by omega) (.int .u8 CC)
  have hb2 := set5_0 hb1 (.int .u8 CC)
  have hK2 := hK1.setCell ⟨w.heap.size, 0, none⟩ (.int .u8 CC) (.inr (Nat.le_refl _))
  obtain ⟨c0, c1, c2, c3, c4, cl⟩ := cell5 hb1
  obtain ⟨d0, d1, d2, d3, d4⟩ := thaw5 hb1
  obtain ⟨u0, u1, ul⟩ := cell2 hu2
  obtain ⟨y0, y1, y2, y3, y4, yl⟩ := cell5 hb2
  have HB2 := Lib.hid hb2; have HK2 := Lib.hid hK2
  clear hu1 hk1 hb1 hK1 hu2 hb2 hK2 HR HX HK
  go_wp2_with fail
  clear c0 c1 c2 c3 c4 d0 d1 d2 d3 d4 u0 u1 y0 y1 y2 y3 y4
  generalize w1.setCell ⟨w.heap.size, 0, none⟩ (.int .u8 CC) = W2 at *
  refine (hf _ (hG.new HK2.out)).mono ?_; rintro e w3 ⟨rfl, hk3⟩
  have hb3 := heap_alloc_lt (o := .cells #[.int .u8 M, .string NM, .bool K, .bool A, .bool BB] 124) (hk3.heap HB2.out (by simp))
  have hK3 := (HK2.out.trans hk3 (FSub.refl _ _)).alloc (.cells #[.int .u8 M, .string NM, .bool K, .bool A, .bool BB] 124)
  obtain ⟨c0, c1, c2, c3, c4, cl⟩ := cell5 hb3
  obtain ⟨d0, d1, d2, d3, d4⟩ := thaw5 hb3
  have hr := put5 hb3 (.int .u8 0) (.int .u8 0) (.int .u8 0) (.int .u16 0) (.int .u16 0)
  have hkk := hK3.set5 (b := w.heap.size) (.inr (Nat.le_refl _)) (.int .u8 0) (.int .u8 0) (.int .u8 0) (.int .u16 0) (.int .u16 0)
  have HRR := Lib.hid hr; have HKK := Lib.hid hkk
  clear hr hkk hb3 hK3 hk3 HB2 HK2 hf
  go_wp2_with fail
  try simp only [Exit.inBlock, Exit.then]
  exact bodyPost_ret (results_op3 rfl _ _ _ rfl HRR.out) rfl ⟨rfl, HKK.out⟩
end Go.Proofs.YtiljdehhjiahdaaGreatDoor
