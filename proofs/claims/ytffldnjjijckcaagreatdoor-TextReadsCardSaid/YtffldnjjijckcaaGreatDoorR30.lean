/-
  The program's guess.
-/
import Derived.Shelf.Slices.Empties2
import Derived.Deep.QuietTactic
import Derived.BigQuiet
import Derived.Test.YtffldnjjijckcaaGreatDoorR13
import Derived.Test.YtffldnjjijckcaaGreatDoorR05
import Derived.Test.YtffldnjjijckcaaGreatDoorR18
set_option linter.unusedSimpArgs false
set_option linter.unusedVariables false
namespace Go.Proofs.YtffldnjjijckcaaGreatDoor
open Go.RowKit
/-- A word that is taken: what it is read as. -/
def Sp8 (l l' : List (List UInt8)) (n : Int) : Prop := ∀ (N : Nat) (w : World) (v : Value), Glob4 w → Strs N w v l → Calls Tryz.prog 153 #[v] w fun e w' => ∃ v', e = .returned (.tuple #[.int .u8 n, v']) ∧ Strs N w' v' l' ∧ Keeps [] w w'
def Sp16 (l l' : List (List UInt8)) (n : Int) : Prop := ∀ (N : Nat) (w : World) (v : Value), Glob4 w → Strs N w v l → Calls Tryz.prog 155 #[v] w fun e w' => ∃ v', e = .returned (.tuple #[.int .u16 n, v']) ∧ Strs N w' v' l' ∧ Keeps [] w w'
def SpN (l l' : List (List UInt8)) (n : Int) : Prop := ∀ (N : Nat) (w : World) (v : Value), Glob4 w → Strs N w v l → Calls Tryz.prog 154 #[v] w fun e w' => ∃ v', e = .returned (.tuple #[.int .u8 n, v']) ∧ Strs N w' v' l' ∧ Keeps [] w w'
theorem sp8_of (l : List (List UInt8)) (hs : (l.getD 0 []).length ≤ 1000000) : Sp8 l (l.drop 1) (puOf (l.getD 0 []) % 256) := fun _ w v hG h => spelled8_any w hG v l h hs
theorem sp16_of (l : List (List UInt8)) (hs : (l.getD 0 []).length ≤ 1000000) : Sp16 l (l.drop 1) (puOf (l.getD 0 [])) := fun _ w v hG h => spelled16_any w hG v l h hs
theorem spN_of (l : List (List UInt8)) : SpN l (l.drop 1) (opNamed (l.getD 0 [])) := fun _ w v hG h => named_any w hG v l h
set_option maxRecDepth 100000 in
theorem results_op1 {fn : Func} {p : Tmp} (h : fn.results = #[.cell p 24]) (tmps : Array Value) (w : World) (b : Nat) {x0 x1 x2 x3 x4 : Value} {t : TypeId}
    (hp : tmps.getD p undef = .pointer (some ⟨b, 0, none⟩)) (hb : w.heap[b]? = some (.cells #[x0, x1, x2, x3, x4] t (0, 0))) : (results fn tmps).run Tryz.prog w = .ok (.agg #[x0, x1, x2, x3, x4]) w :=
  results_cell_row h tmps w b t _ _ _ hp hb Tryz.underlying24 rfl (by kernel_rfl)
/-- The operation under way, and the row: two blocks. -/
structure GAt (W : World) (D Q : Nat) (qc : Array Value) (x0 x1 x2 x3 x4 : Value) : Prop where
  xb : W.heap[D]? = some (.cells #[x0, x1, x2, x3, x4] 24 (0, 0))
  qb : W.heap[Q]? = some (.cells qc 144 (0, 0))
theorem GAt.keep {W W' : World} {D Q : Nat} {qc : Array Value} {x0 x1 x2 x3 x4 : Value} (h : GAt W D Q qc x0 x1 x2 x3 x4) (hk : Keeps [] W W') : GAt W' D Q qc x0 x1 x2 x3 x4 :=
  ⟨hk.heap h.xb (by simp), hk.heap h.qb (by simp)⟩
theorem GAt.put1 {W : World} {D Q : Nat} {qc : Array Value} {x0 x1 x2 x3 x4 : Value} (h : GAt W D Q qc x0 x1 x2 x3 x4) (hq : D ≠ Q) (y : Value) : GAt (W.setCell ⟨D, 1, none⟩ y) D Q qc x0 y x2 x3 x4 :=
  ⟨set5_1 h.xb y, heap_set_other h.qb hq y⟩
theorem GAt.put2 {W : World} {D Q : Nat} {qc : Array Value} {x0 x1 x2 x3 x4 : Value} (h : GAt W D Q qc x0 x1 x2 x3 x4) (hq : D ≠ Q) (y : Value) : GAt (W.setCell ⟨D, 2, none⟩ y) D Q qc x0 x1 y x3 x4 :=
  ⟨set5_2 h.xb y, heap_set_other h.qb hq y⟩
theorem GAt.put3 {W : World} {D Q : Nat} {qc : Array Value} {x0 x1 x2 x3 x4 : Value} (h : GAt W D Q qc x0 x1 x2 x3 x4) (hq : D ≠ Q) (y : Value) : GAt (W.setCell ⟨D, 3, none⟩ y) D Q qc x0 x1 x2 y x4 :=
  ⟨set5_3 h.xb y, heap_set_other h.qb hq y⟩
theorem GAt.put4 {W : World} {D Q : Nat} {qc : Array Value} {x0 x1 x2 x3 x4 : Value} (h : GAt W D Q qc x0 x1 x2 x3 x4) (hq : D ≠ Q) (y : Value) : GAt (W.setCell ⟨D, 4, none⟩ y) D Q qc x0 x1 x2 x3 y :=
  ⟨set5_4 h.xb y, heap_set_other h.qb hq y⟩
set_option maxHeartbeats 8000000 in
set_option maxRecDepth 100000 in
theorem guess_000 (w : World) (hG : Glob4 w) (v : Value) (l0 l1 l2 : List (List UInt8)) (f o  : Int) (hs : Strs w.heap.size w v l0) (hN1 : Sp8 l0 l1 o) (hN2 : SpN l1 l2 f)
    (f0 : 0 ≤ f) (f1 : f < 256) (_o0 : 0 ≤ o) (_o1 : o < 256) (hK : opK f = false) (hA : opA f = false) (hB : opB f = false) :
    Calls Tryz.prog 119 #[v] w fun e w' => e = .returned (.agg #[.int .u8 f, .int .u8 o, .int .u8 0, .int .u16 0, .int .u16 0]) ∧ Keeps [] w w' := by
  have hf := fun w hG => find_any w hG f f0 f1
  rw [hK, hA, hB] at hf
  generalize opM f = M at *
  generalize bs (opNm f) = NM at *
  generalize opIs f = IS at *
  have hX0 := heap_alloc_new w (.cells #[.int .u8 0, .int .u8 0, .int .u8 0, .int .u16 0, .int .u16 0] 24)
  have hk0 := (Keeps.refl [] w).alloc (.cells #[.int .u8 0, .int .u8 0, .int .u8 0, .int .u16 0, .int .u16 0] 24)
  have hs0 := hs.keeps hk0
  have hread := hN1 _ _ _ (hG.new hk0) hs0
  have HX := Lib.hid hX0; have HK := Lib.hid hk0; have HR := Lib.hid hread
  clear hX0 hk0 hread hs0 hs hK hA hB hN1
  go_enter Tryz.func119, Tryz.ntmps119
  go_wp2_with fail
  refine HR.out.mono ?_; rintro e w1 ⟨v1, rfl, hs1, hk1⟩
  have hb1 := hk1.heap HX.out (by simp)
  have hK1 := HK.out.trans hk1 (FSub.refl _ _)
  have hs2 := hs1.set w.heap.size 1 (Nat.le_refl _) (.int .u8 o)
  have hb2 := set5_1 hb1 (.int .u8 o)
  have hK2 := hK1.setCell ⟨w.heap.size, 1, none⟩ (.int .u8 o) (.inr (Nat.le_refl _))
  obtain ⟨c0, c1, c2, c3, c4, cl⟩ := cell5 hb1
  obtain ⟨d0, d1, d2, d3, d4⟩ := thaw5 hb1
  have HB2 := Lib.hid hb2; have HK2 := Lib.hid hK2; have HS2 := Lib.hid hs2
  clear hk1 hb1 hK1 hb2 hK2 HR HX HK hs1 hs2
  go_wp2_with fail
  clear c0 c1 c2 c3 c4 cl d0 d1 d2 d3 d4
  generalize w1.setCell ⟨w.heap.size, 1, none⟩ (.int .u8 o) = W2 at *
  refine (hN2 _ _ _ (hG.new HK2.out) HS2.out).mono ?_; rintro e w3 ⟨v3, rfl, hs3, hk3⟩
  have hb3 := hk3.heap HB2.out (by simp)
  have hK3 := HK2.out.trans hk3 (FSub.refl _ _)
  have hs4 := hs3.set w.heap.size 0 (Nat.le_refl _) (.int .u8 f)
  have hb4 := set5_0 hb3 (.int .u8 f)
  have hK4 := hK3.setCell ⟨w.heap.size, 0, none⟩ (.int .u8 f) (.inr (Nat.le_refl _))
  obtain ⟨c0, c1, c2, c3, c4, cl⟩ := cell5 hb3
  obtain ⟨d0, d1, d2, d3, d4⟩ := thaw5 hb3
  obtain ⟨y0, y1, y2, y3, y4, yl⟩ := cell5 hb4
  have HB4 := Lib.hid hb4; have HK4 := Lib.hid hK4; have HS4 := Lib.hid hs4
  clear hk3 hb3 hK3 hb4 hK4 HB2 HK2 HS2 hs3 hs4 hN2
  go_wp2_with fail
  clear c0 c1 c2 c3 c4 cl d0 d1 d2 d3 d4 y0 y1 y2 y3 y4 yl
  generalize w3.setCell ⟨w.heap.size, 0, none⟩ (.int .u8 f) = W4 at *
  refine (hf _ (hG.new HK4.out)).mono ?_; rintro e w5 ⟨rfl, hk5⟩
  have hT0 : GAt (w5.alloc (.cells #[.int .u8 M, .string NM, .bool false, .bool false, .bool false] 144)) w.heap.size w5.heap.size #[.int .u8 M, .string NM, .bool false, .bool false, .bool false] (.int .u8 f) (.int .u8 o) (.int .u8 0) (.int .u16 0) (.int .u16 0) :=
    ⟨heap_alloc_lt (hk5.heap HB4.out (by simp)), heap_alloc_new w5 _⟩
  have hDQ : w.heap.size ≠ w5.heap.size := by have := lt_of_block (hk5.heap HB4.out (by simp)); omega
  have hK5 := (HK4.out.trans hk5 (FSub.refl _ _)).alloc (.cells #[.int .u8 M, .string NM, .bool false, .bool false, .bool false] 144)
  have hs5 := (HS4.out.keeps hk5).keeps ((Keeps.refl [] w5).alloc (.cells #[.int .u8 M, .string NM, .bool false, .bool false, .bool false] 144))
  obtain ⟨q0, q1, q2, q3, q4, ql⟩ := cell5 hT0.qb
  obtain ⟨y0, y1, y2, y3, y4, yl⟩ := cell5 hT0.xb
  have HT0 := Lib.hid hT0; have HK5 := Lib.hid hK5; have HS5 := Lib.hid hs5
  clear hk5 HB4 HK4 HS4 hf hT0 hK5 hs5
  have hD : w.heap.size ≤ w.heap.size := Nat.le_refl _
  have hth := thaw5 HT0.out.xb
  obtain ⟨d0, d1, d2, d3, d4⟩ := hth
  have hr := put5 HT0.out.xb (.int .u8 f) (.int .u8 o) (.int .u8 0) (.int .u16 0) (.int .u16 0)
  have hkk := HK5.out.set5 (b := w.heap.size) (.inr hD) (.int .u8 f) (.int .u8 o) (.int .u8 0) (.int .u16 0) (.int .u16 0)
  have HRR := Lib.hid hr; have HKK := Lib.hid hkk
  clear hr hkk HT0 HK5 HS5
  go_wp2_with fail
  try simp only [Exit.inBlock, Exit.then]
  exact bodyPost_ret (results_op1 rfl _ _ _ rfl HRR.out) rfl ⟨rfl, HKK.out⟩
set_option maxHeartbeats 8000000 in
set_option maxRecDepth 100000 in
theorem guess_010 (w : World) (hG : Glob4 w) (v : Value) (l0 l1 l2 l3 : List (List UInt8)) (f o a : Int) (hs : Strs w.heap.size w v l0) (hN1 : Sp8 l0 l1 o) (hN2 : SpN l1 l2 f) (hN3 : Sp16 l2 l3 a)
    (f0 : 0 ≤ f) (f1 : f < 256) (_o0 : 0 ≤ o) (_o1 : o < 256) (hK : opK f = false) (hA : opA f = true) (hB : opB f = false) :
    Calls Tryz.prog 119 #[v] w fun e w' => e = .returned (.agg #[.int .u8 f, .int .u8 o, .int .u8 0, .int .u16 a, .int .u16 0]) ∧ Keeps [] w w' := by
  have hf := fun w hG => find_any w hG f f0 f1
  rw [hK, hA, hB] at hf
  generalize opM f = M at *
  generalize bs (opNm f) = NM at *
  generalize opIs f = IS at *
  have hX0 := heap_alloc_new w (.cells #[.int .u8 0, .int .u8 0, .int .u8 0, .int .u16 0, .int .u16 0] 24)
  have hk0 := (Keeps.refl [] w).alloc (.cells #[.int .u8 0, .int .u8 0, .int .u8 0, .int .u16 0, .int .u16 0] 24)
  have hs0 := hs.keeps hk0
  have hread := hN1 _ _ _ (hG.new hk0) hs0
  have HX := Lib.hid hX0; have HK := Lib.hid hk0; have HR := Lib.hid hread
  clear hX0 hk0 hread hs0 hs hK hA hB hN1
  go_enter Tryz.func119, Tryz.ntmps119
  go_wp2_with fail
  refine HR.out.mono ?_; rintro e w1 ⟨v1, rfl, hs1, hk1⟩
  have hb1 := hk1.heap HX.out (by simp)
  have hK1 := HK.out.trans hk1 (FSub.refl _ _)
  have hs2 := hs1.set w.heap.size 1 (Nat.le_refl _) (.int .u8 o)
  have hb2 := set5_1 hb1 (.int .u8 o)
  have hK2 := hK1.setCell ⟨w.heap.size, 1, none⟩ (.int .u8 o) (.inr (Nat.le_refl _))
  obtain ⟨c0, c1, c2, c3, c4, cl⟩ := cell5 hb1
  obtain ⟨d0, d1, d2, d3, d4⟩ := thaw5 hb1
  have HB2 := Lib.hid hb2; have HK2 := Lib.hid hK2; have HS2 := Lib.hid hs2
  clear hk1 hb1 hK1 hb2 hK2 HR HX HK hs1 hs2
  go_wp2_with fail
  clear c0 c1 c2 c3 c4 cl d0 d1 d2 d3 d4
  generalize w1.setCell ⟨w.heap.size, 1, none⟩ (.int .u8 o) = W2 at *
  refine (hN2 _ _ _ (hG.new HK2.out) HS2.out).mono ?_; rintro e w3 ⟨v3, rfl, hs3, hk3⟩
  have hb3 := hk3.heap HB2.out (by simp)
  have hK3 := HK2.out.trans hk3 (FSub.refl _ _)
  have hs4 := hs3.set w.heap.size 0 (Nat.le_refl _) (.int .u8 f)
  have hb4 := set5_0 hb3 (.int .u8 f)
  have hK4 := hK3.setCell ⟨w.heap.size, 0, none⟩ (.int .u8 f) (.inr (Nat.le_refl _))
  obtain ⟨c0, c1, c2, c3, c4, cl⟩ := cell5 hb3
  obtain ⟨d0, d1, d2, d3, d4⟩ := thaw5 hb3
  obtain ⟨y0, y1, y2, y3, y4, yl⟩ := cell5 hb4
  have HB4 := Lib.hid hb4; have HK4 := Lib.hid hK4; have HS4 := Lib.hid hs4
  clear hk3 hb3 hK3 hb4 hK4 HB2 HK2 HS2 hs3 hs4 hN2
  go_wp2_with fail
  clear c0 c1 c2 c3 c4 cl d0 d1 d2 d3 d4 y0 y1 y2 y3 y4 yl
  generalize w3.setCell ⟨w.heap.size, 0, none⟩ (.int .u8 f) = W4 at *
  refine (hf _ (hG.new HK4.out)).mono ?_; rintro e w5 ⟨rfl, hk5⟩
  have hT0 : GAt (w5.alloc (.cells #[.int .u8 M, .string NM, .bool false, .bool true, .bool false] 144)) w.heap.size w5.heap.size #[.int .u8 M, .string NM, .bool false, .bool true, .bool false] (.int .u8 f) (.int .u8 o) (.int .u8 0) (.int .u16 0) (.int .u16 0) :=
    ⟨heap_alloc_lt (hk5.heap HB4.out (by simp)), heap_alloc_new w5 _⟩
  have hDQ : w.heap.size ≠ w5.heap.size := by have := lt_of_block (hk5.heap HB4.out (by simp)); omega
  have hK5 := (HK4.out.trans hk5 (FSub.refl _ _)).alloc (.cells #[.int .u8 M, .string NM, .bool false, .bool true, .bool false] 144)
  have hs5 := (HS4.out.keeps hk5).keeps ((Keeps.refl [] w5).alloc (.cells #[.int .u8 M, .string NM, .bool false, .bool true, .bool false] 144))
  obtain ⟨q0, q1, q2, q3, q4, ql⟩ := cell5 hT0.qb
  obtain ⟨y0, y1, y2, y3, y4, yl⟩ := cell5 hT0.xb
  have HT0 := Lib.hid hT0; have HK5 := Lib.hid hK5; have HS5 := Lib.hid hs5
  clear hk5 HB4 HK4 HS4 hf hT0 hK5 hs5
  have hD : w.heap.size ≤ w.heap.size := Nat.le_refl _
  go_wp2_with fail
  clear q0 q1 q2 q3 q4 ql y0 y1 y2 y3 y4 yl
  generalize w5.alloc (.cells #[.int .u8 M, .string NM, .bool false, .bool true, .bool false] 144) = W5 at *
  generalize w5.heap.size = Q at *
  refine (hN3 _ _ _ (hG.new HK5.out) HS5.out).mono ?_; rintro e w6 ⟨v6, rfl, hs6, hk6⟩
  have hR := HT0.out.keep hk6
  have hKr := HK5.out.trans hk6 (FSub.refl _ _)
  have hT := hR.put3 hDQ (.int .u16 a)
  have hK6 := hKr.setCell ⟨w.heap.size, 3, none⟩ (.int .u16 a) (.inr hD)
  have hs7 := hs6.set w.heap.size 3 (Nat.le_refl _) (.int .u16 a)
  obtain ⟨c0, c1, c2, c3, c4, cl⟩ := cell5 hR.xb
  obtain ⟨d0, d1, d2, d3, d4⟩ := thaw5 hR.xb
  obtain ⟨q0, q1, q2, q3, q4, ql⟩ := cell5 hT.qb
  obtain ⟨y0, y1, y2, y3, y4, yl⟩ := cell5 hT.xb
  clear HT0 HK5 HS5
  have HT0 := Lib.hid hT; have HK5 := Lib.hid hK6; have HS5 := Lib.hid hs7
  clear hR hKr hT hK6 hs6 hs7 hk6 hN3
  obtain ⟨g0, g1, g2, g3, g4⟩ := thaw5 HT0.out.xb
  have hr := put5 HT0.out.xb (.int .u8 f) (.int .u8 o) (.int .u8 0) (.int .u16 a) (.int .u16 0)
  have hkk := HK5.out.set5 (b := w.heap.size) (.inr hD) (.int .u8 f) (.int .u8 o) (.int .u8 0) (.int .u16 a) (.int .u16 0)
  have HRR := Lib.hid hr; have HKK := Lib.hid hkk
  clear hr hkk HT0 HK5 HS5
  go_wp2_with fail
  try simp only [Exit.inBlock, Exit.then]
  exact bodyPost_ret (results_op1 rfl _ _ _ rfl HRR.out) rfl ⟨rfl, HKK.out⟩
set_option maxHeartbeats 8000000 in
set_option maxRecDepth 100000 in
theorem guess_011 (w : World) (hG : Glob4 w) (v : Value) (l0 l1 l2 l3 l4 : List (List UInt8)) (f o a b : Int) (hs : Strs w.heap.size w v l0) (hN1 : Sp8 l0 l1 o) (hN2 : SpN l1 l2 f) (hN3 : Sp16 l2 l3 a) (hN4 : Sp16 l3 l4 b)
    (f0 : 0 ≤ f) (f1 : f < 256) (_o0 : 0 ≤ o) (_o1 : o < 256) (hK : opK f = false) (hA : opA f = true) (hB : opB f = true) :
    Calls Tryz.prog 119 #[v] w fun e w' => e = .returned (.agg #[.int .u8 f, .int .u8 o, .int .u8 0, .int .u16 a, .int .u16 b]) ∧ Keeps [] w w' := by
  have hf := fun w hG => find_any w hG f f0 f1
  rw [hK, hA, hB] at hf
  generalize opM f = M at *
  generalize bs (opNm f) = NM at *
  generalize opIs f = IS at *
  have hX0 := heap_alloc_new w (.cells #[.int .u8 0, .int .u8 0, .int .u8 0, .int .u16 0, .int .u16 0] 24)
  have hk0 := (Keeps.refl [] w).alloc (.cells #[.int .u8 0, .int .u8 0, .int .u8 0, .int .u16 0, .int .u16 0] 24)
  have hs0 := hs.keeps hk0
  have hread := hN1 _ _ _ (hG.new hk0) hs0
  have HX := Lib.hid hX0; have HK := Lib.hid hk0; have HR := Lib.hid hread
  clear hX0 hk0 hread hs0 hs hK hA hB hN1
  go_enter Tryz.func119, Tryz.ntmps119
  go_wp2_with fail
  refine HR.out.mono ?_; rintro e w1 ⟨v1, rfl, hs1, hk1⟩
  have hb1 := hk1.heap HX.out (by simp)
  have hK1 := HK.out.trans hk1 (FSub.refl _ _)
  have hs2 := hs1.set w.heap.size 1 (Nat.le_refl _) (.int .u8 o)
  have hb2 := set5_1 hb1 (.int .u8 o)
  have hK2 := hK1.setCell ⟨w.heap.size, 1, none⟩ (.int .u8 o) (.inr (Nat.le_refl _))
  obtain ⟨c0, c1, c2, c3, c4, cl⟩ := cell5 hb1
  obtain ⟨d0, d1, d2, d3, d4⟩ := thaw5 hb1
  have HB2 := Lib.hid hb2; have HK2 := Lib.hid hK2; have HS2 := Lib.hid hs2
  clear hk1 hb1 hK1 hb2 hK2 HR HX HK hs1 hs2
  go_wp2_with fail
  clear c0 c1 c2 c3 c4 cl d0 d1 d2 d3 d4
  generalize w1.setCell ⟨w.heap.size, 1, none⟩ (.int .u8 o) = W2 at *
  refine (hN2 _ _ _ (hG.new HK2.out) HS2.out).mono ?_; rintro e w3 ⟨v3, rfl, hs3, hk3⟩
  have hb3 := hk3.heap HB2.out (by simp)
  have hK3 := HK2.out.trans hk3 (FSub.refl _ _)
  have hs4 := hs3.set w.heap.size 0 (Nat.le_refl _) (.int .u8 f)
  have hb4 := set5_0 hb3 (.int .u8 f)
  have hK4 := hK3.setCell ⟨w.heap.size, 0, none⟩ (.int .u8 f) (.inr (Nat.le_refl _))
  obtain ⟨c0, c1, c2, c3, c4, cl⟩ := cell5 hb3
  obtain ⟨d0, d1, d2, d3, d4⟩ := thaw5 hb3
  obtain ⟨y0, y1, y2, y3, y4, yl⟩ := cell5 hb4
  have HB4 := Lib.hid hb4; have HK4 := Lib.hid hK4; have HS4 := Lib.hid hs4
  clear hk3 hb3 hK3 hb4 hK4 HB2 HK2 HS2 hs3 hs4 hN2
  go_wp2_with fail
  clear c0 c1 c2 c3 c4 cl d0 d1 d2 d3 d4 y0 y1 y2 y3 y4 yl
  generalize w3.setCell ⟨w.heap.size, 0, none⟩ (.int .u8 f) = W4 at *
  refine (hf _ (hG.new HK4.out)).mono ?_; rintro e w5 ⟨rfl, hk5⟩
  have hT0 : GAt (w5.alloc (.cells #[.int .u8 M, .string NM, .bool false, .bool true, .bool true] 144)) w.heap.size w5.heap.size #[.int .u8 M, .string NM, .bool false, .bool true, .bool true] (.int .u8 f) (.int .u8 o) (.int .u8 0) (.int .u16 0) (.int .u16 0) :=
    ⟨heap_alloc_lt (hk5.heap HB4.out (by simp)), heap_alloc_new w5 _⟩
  have hDQ : w.heap.size ≠ w5.heap.size := by have := lt_of_block (hk5.heap HB4.out (by simp)); omega
  have hK5 := (HK4.out.trans hk5 (FSub.refl _ _)).alloc (.cells #[.int .u8 M, .string NM, .bool false, .bool true, .bool true] 144)
  have hs5 := (HS4.out.keeps hk5).keeps ((Keeps.refl [] w5).alloc (.cells #[.int .u8 M, .string NM, .bool false, .bool true, .bool true] 144))
  obtain ⟨q0, q1, q2, q3, q4, ql⟩ := cell5 hT0.qb
  obtain ⟨y0, y1, y2, y3, y4, yl⟩ := cell5 hT0.xb
  have HT0 := Lib.hid hT0; have HK5 := Lib.hid hK5; have HS5 := Lib.hid hs5
  clear hk5 HB4 HK4 HS4 hf hT0 hK5 hs5
  have hD : w.heap.size ≤ w.heap.size := Nat.le_refl _
  go_wp2_with fail
  clear q0 q1 q2 q3 q4 ql y0 y1 y2 y3 y4 yl
  generalize w5.alloc (.cells #[.int .u8 M, .string NM, .bool false, .bool true, .bool true] 144) = W5 at *
  generalize w5.heap.size = Q at *
  refine (hN3 _ _ _ (hG.new HK5.out) HS5.out).mono ?_; rintro e w6 ⟨v6, rfl, hs6, hk6⟩
  have hR := HT0.out.keep hk6
  have hKr := HK5.out.trans hk6 (FSub.refl _ _)
  have hT := hR.put3 hDQ (.int .u16 a)
  have hK6 := hKr.setCell ⟨w.heap.size, 3, none⟩ (.int .u16 a) (.inr hD)
  have hs7 := hs6.set w.heap.size 3 (Nat.le_refl _) (.int .u16 a)
  obtain ⟨c0, c1, c2, c3, c4, cl⟩ := cell5 hR.xb
  obtain ⟨d0, d1, d2, d3, d4⟩ := thaw5 hR.xb
  obtain ⟨q0, q1, q2, q3, q4, ql⟩ := cell5 hT.qb
  obtain ⟨y0, y1, y2, y3, y4, yl⟩ := cell5 hT.xb
  clear HT0 HK5 HS5
  have HT0 := Lib.hid hT; have HK5 := Lib.hid hK6; have HS5 := Lib.hid hs7
  clear hR hKr hT hK6 hs6 hs7 hk6 hN3
  go_wp2_with fail
  clear c0 c1 c2 c3 c4 cl d0 d1 d2 d3 d4 q0 q1 q2 q3 q4 ql y0 y1 y2 y3 y4 yl
  generalize w6.setCell ⟨w.heap.size, 3, none⟩ (.int .u16 a) = W6 at *
  refine (hN4 _ _ _ (hG.new HK5.out) HS5.out).mono ?_; rintro e w7 ⟨v7, rfl, hs6, hk6⟩
  have hR := HT0.out.keep hk6
  have hKr := HK5.out.trans hk6 (FSub.refl _ _)
  have hT := hR.put4 hDQ (.int .u16 b)
  have hK6 := hKr.setCell ⟨w.heap.size, 4, none⟩ (.int .u16 b) (.inr hD)
  have hs7 := hs6.set w.heap.size 4 (Nat.le_refl _) (.int .u16 b)
  obtain ⟨c0, c1, c2, c3, c4, cl⟩ := cell5 hR.xb
  obtain ⟨d0, d1, d2, d3, d4⟩ := thaw5 hR.xb
  obtain ⟨q0, q1, q2, q3, q4, ql⟩ := cell5 hT.qb
  obtain ⟨y0, y1, y2, y3, y4, yl⟩ := cell5 hT.xb
  clear HT0 HK5 HS5
  have HT0 := Lib.hid hT; have HK5 := Lib.hid hK6; have HS5 := Lib.hid hs7
  clear hR hKr hT hK6 hs6 hs7 hk6 hN4
  obtain ⟨g0, g1, g2, g3, g4⟩ := thaw5 HT0.out.xb
  have hr := put5 HT0.out.xb (.int .u8 f) (.int .u8 o) (.int .u8 0) (.int .u16 a) (.int .u16 b)
  have hkk := HK5.out.set5 (b := w.heap.size) (.inr hD) (.int .u8 f) (.int .u8 o) (.int .u8 0) (.int .u16 a) (.int .u16 b)
  have HRR := Lib.hid hr; have HKK := Lib.hid hkk
  clear hr hkk HT0 HK5 HS5
  go_wp2_with fail
  try simp only [Exit.inBlock, Exit.then]
  exact bodyPost_ret (results_op1 rfl _ _ _ rfl HRR.out) rfl ⟨rfl, HKK.out⟩
set_option maxHeartbeats 8000000 in
set_option maxRecDepth 100000 in
theorem guess_100 (w : World) (hG : Glob4 w) (v : Value) (l0 l1 l2 l3 : List (List UInt8)) (f o k : Int) (hs : Strs w.heap.size w v l0) (hN1 : Sp8 l0 l1 o) (hN2 : SpN l1 l2 f) (hN3 : Sp8 l2 l3 k)
    (f0 : 0 ≤ f) (f1 : f < 256) (_o0 : 0 ≤ o) (_o1 : o < 256) (hK : opK f = true) (hA : opA f = false) (hB : opB f = false) :
    Calls Tryz.prog 119 #[v] w fun e w' => e = .returned (.agg #[.int .u8 f, .int .u8 o, .int .u8 k, .int .u16 0, .int .u16 0]) ∧ Keeps [] w w' := by
  have hf := fun w hG => find_any w hG f f0 f1
  rw [hK, hA, hB] at hf
  generalize opM f = M at *
  generalize bs (opNm f) = NM at *
  generalize opIs f = IS at *
  have hX0 := heap_alloc_new w (.cells #[.int .u8 0, .int .u8 0, .int .u8 0, .int .u16 0, .int .u16 0] 24)
  have hk0 := (Keeps.refl [] w).alloc (.cells #[.int .u8 0, .int .u8 0, .int .u8 0, .int .u16 0, .int .u16 0] 24)
  have hs0 := hs.keeps hk0
  have hread := hN1 _ _ _ (hG.new hk0) hs0
  have HX := Lib.hid hX0; have HK := Lib.hid hk0; have HR := Lib.hid hread
  clear hX0 hk0 hread hs0 hs hK hA hB hN1
  go_enter Tryz.func119, Tryz.ntmps119
  go_wp2_with fail
  refine HR.out.mono ?_; rintro e w1 ⟨v1, rfl, hs1, hk1⟩
  have hb1 := hk1.heap HX.out (by simp)
  have hK1 := HK.out.trans hk1 (FSub.refl _ _)
  have hs2 := hs1.set w.heap.size 1 (Nat.le_refl _) (.int .u8 o)
  have hb2 := set5_1 hb1 (.int .u8 o)
  have hK2 := hK1.setCell ⟨w.heap.size, 1, none⟩ (.int .u8 o) (.inr (Nat.le_refl _))
  obtain ⟨c0, c1, c2, c3, c4, cl⟩ := cell5 hb1
  obtain ⟨d0, d1, d2, d3, d4⟩ := thaw5 hb1
  have HB2 := Lib.hid hb2; have HK2 := Lib.hid hK2; have HS2 := Lib.hid hs2
  clear hk1 hb1 hK1 hb2 hK2 HR HX HK hs1 hs2
  go_wp2_with fail
  clear c0 c1 c2 c3 c4 cl d0 d1 d2 d3 d4
  generalize w1.setCell ⟨w.heap.size, 1, none⟩ (.int .u8 o) = W2 at *
  refine (hN2 _ _ _ (hG.new HK2.out) HS2.out).mono ?_; rintro e w3 ⟨v3, rfl, hs3, hk3⟩
  have hb3 := hk3.heap HB2.out (by simp)
  have hK3 := HK2.out.trans hk3 (FSub.refl _ _)
  have hs4 := hs3.set w.heap.size 0 (Nat.le_refl _) (.int .u8 f)
  have hb4 := set5_0 hb3 (.int .u8 f)
  have hK4 := hK3.setCell ⟨w.heap.size, 0, none⟩ (.int .u8 f) (.inr (Nat.le_refl _))
  obtain ⟨c0, c1, c2, c3, c4, cl⟩ := cell5 hb3
  obtain ⟨d0, d1, d2, d3, d4⟩ := thaw5 hb3
  obtain ⟨y0, y1, y2, y3, y4, yl⟩ := cell5 hb4
  have HB4 := Lib.hid hb4; have HK4 := Lib.hid hK4; have HS4 := Lib.hid hs4
  clear hk3 hb3 hK3 hb4 hK4 HB2 HK2 HS2 hs3 hs4 hN2
  go_wp2_with fail
  clear c0 c1 c2 c3 c4 cl d0 d1 d2 d3 d4 y0 y1 y2 y3 y4 yl
  generalize w3.setCell ⟨w.heap.size, 0, none⟩ (.int .u8 f) = W4 at *
  refine (hf _ (hG.new HK4.out)).mono ?_; rintro e w5 ⟨rfl, hk5⟩
  have hT0 : GAt (w5.alloc (.cells #[.int .u8 M, .string NM, .bool true, .bool false, .bool false] 144)) w.heap.size w5.heap.size #[.int .u8 M, .string NM, .bool true, .bool false, .bool false] (.int .u8 f) (.int .u8 o) (.int .u8 0) (.int .u16 0) (.int .u16 0) :=
    ⟨heap_alloc_lt (hk5.heap HB4.out (by simp)), heap_alloc_new w5 _⟩
  have hDQ : w.heap.size ≠ w5.heap.size := by have := lt_of_block (hk5.heap HB4.out (by simp)); omega
  have hK5 := (HK4.out.trans hk5 (FSub.refl _ _)).alloc (.cells #[.int .u8 M, .string NM, .bool true, .bool false, .bool false] 144)
  have hs5 := (HS4.out.keeps hk5).keeps ((Keeps.refl [] w5).alloc (.cells #[.int .u8 M, .string NM, .bool true, .bool false, .bool false] 144))
  obtain ⟨q0, q1, q2, q3, q4, ql⟩ := cell5 hT0.qb
  obtain ⟨y0, y1, y2, y3, y4, yl⟩ := cell5 hT0.xb
  have HT0 := Lib.hid hT0; have HK5 := Lib.hid hK5; have HS5 := Lib.hid hs5
  clear hk5 HB4 HK4 HS4 hf hT0 hK5 hs5
  have hD : w.heap.size ≤ w.heap.size := Nat.le_refl _
  go_wp2_with fail
  clear q0 q1 q2 q3 q4 ql y0 y1 y2 y3 y4 yl
  generalize w5.alloc (.cells #[.int .u8 M, .string NM, .bool true, .bool false, .bool false] 144) = W5 at *
  generalize w5.heap.size = Q at *
  refine (hN3 _ _ _ (hG.new HK5.out) HS5.out).mono ?_; rintro e w6 ⟨v6, rfl, hs6, hk6⟩
  have hR := HT0.out.keep hk6
  have hKr := HK5.out.trans hk6 (FSub.refl _ _)
  have hT := hR.put2 hDQ (.int .u8 k)
  have hK6 := hKr.setCell ⟨w.heap.size, 2, none⟩ (.int .u8 k) (.inr hD)
  have hs7 := hs6.set w.heap.size 2 (Nat.le_refl _) (.int .u8 k)
  obtain ⟨c0, c1, c2, c3, c4, cl⟩ := cell5 hR.xb
  obtain ⟨d0, d1, d2, d3, d4⟩ := thaw5 hR.xb
  obtain ⟨q0, q1, q2, q3, q4, ql⟩ := cell5 hT.qb
  obtain ⟨y0, y1, y2, y3, y4, yl⟩ := cell5 hT.xb
  clear HT0 HK5 HS5
  have HT0 := Lib.hid hT; have HK5 := Lib.hid hK6; have HS5 := Lib.hid hs7
  clear hR hKr hT hK6 hs6 hs7 hk6 hN3
  obtain ⟨g0, g1, g2, g3, g4⟩ := thaw5 HT0.out.xb
  have hr := put5 HT0.out.xb (.int .u8 f) (.int .u8 o) (.int .u8 k) (.int .u16 0) (.int .u16 0)
  have hkk := HK5.out.set5 (b := w.heap.size) (.inr hD) (.int .u8 f) (.int .u8 o) (.int .u8 k) (.int .u16 0) (.int .u16 0)
  have HRR := Lib.hid hr; have HKK := Lib.hid hkk
  clear hr hkk HT0 HK5 HS5
  go_wp2_with fail
  try simp only [Exit.inBlock, Exit.then]
  exact bodyPost_ret (results_op1 rfl _ _ _ rfl HRR.out) rfl ⟨rfl, HKK.out⟩
set_option maxHeartbeats 8000000 in
set_option maxRecDepth 100000 in
theorem guess_110 (w : World) (hG : Glob4 w) (v : Value) (l0 l1 l2 l3 l4 : List (List UInt8)) (f o k a : Int) (hs : Strs w.heap.size w v l0) (hN1 : Sp8 l0 l1 o) (hN2 : SpN l1 l2 f) (hN3 : Sp8 l2 l3 k) (hN4 : Sp16 l3 l4 a)
    (f0 : 0 ≤ f) (f1 : f < 256) (_o0 : 0 ≤ o) (_o1 : o < 256) (hK : opK f = true) (hA : opA f = true) (hB : opB f = false) :
    Calls Tryz.prog 119 #[v] w fun e w' => e = .returned (.agg #[.int .u8 f, .int .u8 o, .int .u8 k, .int .u16 a, .int .u16 0]) ∧ Keeps [] w w' := by
  have hf := fun w hG => find_any w hG f f0 f1
  rw [hK, hA, hB] at hf
  generalize opM f = M at *
  generalize bs (opNm f) = NM at *
  generalize opIs f = IS at *
  have hX0 := heap_alloc_new w (.cells #[.int .u8 0, .int .u8 0, .int .u8 0, .int .u16 0, .int .u16 0] 24)
  have hk0 := (Keeps.refl [] w).alloc (.cells #[.int .u8 0, .int .u8 0, .int .u8 0, .int .u16 0, .int .u16 0] 24)
  have hs0 := hs.keeps hk0
  have hread := hN1 _ _ _ (hG.new hk0) hs0
  have HX := Lib.hid hX0; have HK := Lib.hid hk0; have HR := Lib.hid hread
  clear hX0 hk0 hread hs0 hs hK hA hB hN1
  go_enter Tryz.func119, Tryz.ntmps119
  go_wp2_with fail
  refine HR.out.mono ?_; rintro e w1 ⟨v1, rfl, hs1, hk1⟩
  have hb1 := hk1.heap HX.out (by simp)
  have hK1 := HK.out.trans hk1 (FSub.refl _ _)
  have hs2 := hs1.set w.heap.size 1 (Nat.le_refl _) (.int .u8 o)
  have hb2 := set5_1 hb1 (.int .u8 o)
  have hK2 := hK1.setCell ⟨w.heap.size, 1, none⟩ (.int .u8 o) (.inr (Nat.le_refl _))
  obtain ⟨c0, c1, c2, c3, c4, cl⟩ := cell5 hb1
  obtain ⟨d0, d1, d2, d3, d4⟩ := thaw5 hb1
  have HB2 := Lib.hid hb2; have HK2 := Lib.hid hK2; have HS2 := Lib.hid hs2
  clear hk1 hb1 hK1 hb2 hK2 HR HX HK hs1 hs2
  go_wp2_with fail
  clear c0 c1 c2 c3 c4 cl d0 d1 d2 d3 d4
  generalize w1.setCell ⟨w.heap.size, 1, none⟩ (.int .u8 o) = W2 at *
  refine (hN2 _ _ _ (hG.new HK2.out) HS2.out).mono ?_; rintro e w3 ⟨v3, rfl, hs3, hk3⟩
  have hb3 := hk3.heap HB2.out (by simp)
  have hK3 := HK2.out.trans hk3 (FSub.refl _ _)
  have hs4 := hs3.set w.heap.size 0 (Nat.le_refl _) (.int .u8 f)
  have hb4 := set5_0 hb3 (.int .u8 f)
  have hK4 := hK3.setCell ⟨w.heap.size, 0, none⟩ (.int .u8 f) (.inr (Nat.le_refl _))
  obtain ⟨c0, c1, c2, c3, c4, cl⟩ := cell5 hb3
  obtain ⟨d0, d1, d2, d3, d4⟩ := thaw5 hb3
  obtain ⟨y0, y1, y2, y3, y4, yl⟩ := cell5 hb4
  have HB4 := Lib.hid hb4; have HK4 := Lib.hid hK4; have HS4 := Lib.hid hs4
  clear hk3 hb3 hK3 hb4 hK4 HB2 HK2 HS2 hs3 hs4 hN2
  go_wp2_with fail
  clear c0 c1 c2 c3 c4 cl d0 d1 d2 d3 d4 y0 y1 y2 y3 y4 yl
  generalize w3.setCell ⟨w.heap.size, 0, none⟩ (.int .u8 f) = W4 at *
  refine (hf _ (hG.new HK4.out)).mono ?_; rintro e w5 ⟨rfl, hk5⟩
  have hT0 : GAt (w5.alloc (.cells #[.int .u8 M, .string NM, .bool true, .bool true, .bool false] 144)) w.heap.size w5.heap.size #[.int .u8 M, .string NM, .bool true, .bool true, .bool false] (.int .u8 f) (.int .u8 o) (.int .u8 0) (.int .u16 0) (.int .u16 0) :=
    ⟨heap_alloc_lt (hk5.heap HB4.out (by simp)), heap_alloc_new w5 _⟩
  have hDQ : w.heap.size ≠ w5.heap.size := by have := lt_of_block (hk5.heap HB4.out (by simp)); omega
  have hK5 := (HK4.out.trans hk5 (FSub.refl _ _)).alloc (.cells #[.int .u8 M, .string NM, .bool true, .bool true, .bool false] 144)
  have hs5 := (HS4.out.keeps hk5).keeps ((Keeps.refl [] w5).alloc (.cells #[.int .u8 M, .string NM, .bool true, .bool true, .bool false] 144))
  obtain ⟨q0, q1, q2, q3, q4, ql⟩ := cell5 hT0.qb
  obtain ⟨y0, y1, y2, y3, y4, yl⟩ := cell5 hT0.xb
  have HT0 := Lib.hid hT0; have HK5 := Lib.hid hK5; have HS5 := Lib.hid hs5
  clear hk5 HB4 HK4 HS4 hf hT0 hK5 hs5
  have hD : w.heap.size ≤ w.heap.size := Nat.le_refl _
  go_wp2_with fail
  clear q0 q1 q2 q3 q4 ql y0 y1 y2 y3 y4 yl
  generalize w5.alloc (.cells #[.int .u8 M, .string NM, .bool true, .bool true, .bool false] 144) = W5 at *
  generalize w5.heap.size = Q at *
  refine (hN3 _ _ _ (hG.new HK5.out) HS5.out).mono ?_; rintro e w6 ⟨v6, rfl, hs6, hk6⟩
  have hR := HT0.out.keep hk6
  have hKr := HK5.out.trans hk6 (FSub.refl _ _)
  have hT := hR.put2 hDQ (.int .u8 k)
  have hK6 := hKr.setCell ⟨w.heap.size, 2, none⟩ (.int .u8 k) (.inr hD)
  have hs7 := hs6.set w.heap.size 2 (Nat.le_refl _) (.int .u8 k)
  obtain ⟨c0, c1, c2, c3, c4, cl⟩ := cell5 hR.xb
  obtain ⟨d0, d1, d2, d3, d4⟩ := thaw5 hR.xb
  obtain ⟨q0, q1, q2, q3, q4, ql⟩ := cell5 hT.qb
  obtain ⟨y0, y1, y2, y3, y4, yl⟩ := cell5 hT.xb
  clear HT0 HK5 HS5
  have HT0 := Lib.hid hT; have HK5 := Lib.hid hK6; have HS5 := Lib.hid hs7
  clear hR hKr hT hK6 hs6 hs7 hk6 hN3
  go_wp2_with fail
  clear c0 c1 c2 c3 c4 cl d0 d1 d2 d3 d4 q0 q1 q2 q3 q4 ql y0 y1 y2 y3 y4 yl
  generalize w6.setCell ⟨w.heap.size, 2, none⟩ (.int .u8 k) = W6 at *
  refine (hN4 _ _ _ (hG.new HK5.out) HS5.out).mono ?_; rintro e w7 ⟨v7, rfl, hs6, hk6⟩
  have hR := HT0.out.keep hk6
  have hKr := HK5.out.trans hk6 (FSub.refl _ _)
  have hT := hR.put3 hDQ (.int .u16 a)
  have hK6 := hKr.setCell ⟨w.heap.size, 3, none⟩ (.int .u16 a) (.inr hD)
  have hs7 := hs6.set w.heap.size 3 (Nat.le_refl _) (.int .u16 a)
  obtain ⟨c0, c1, c2, c3, c4, cl⟩ := cell5 hR.xb
  obtain ⟨d0, d1, d2, d3, d4⟩ := thaw5 hR.xb
  obtain ⟨q0, q1, q2, q3, q4, ql⟩ := cell5 hT.qb
  obtain ⟨y0, y1, y2, y3, y4, yl⟩ := cell5 hT.xb
  clear HT0 HK5 HS5
  have HT0 := Lib.hid hT; have HK5 := Lib.hid hK6; have HS5 := Lib.hid hs7
  clear hR hKr hT hK6 hs6 hs7 hk6 hN4
  obtain ⟨g0, g1, g2, g3, g4⟩ := thaw5 HT0.out.xb
  have hr := put5 HT0.out.xb (.int .u8 f) (.int .u8 o) (.int .u8 k) (.int .u16 a) (.int .u16 0)
  have hkk := HK5.out.set5 (b := w.heap.size) (.inr hD) (.int .u8 f) (.int .u8 o) (.int .u8 k) (.int .u16 a) (.int .u16 0)
  have HRR := Lib.hid hr; have HKK := Lib.hid hkk
  clear hr hkk HT0 HK5 HS5
  go_wp2_with fail
  try simp only [Exit.inBlock, Exit.then]
  exact bodyPost_ret (results_op1 rfl _ _ _ rfl HRR.out) rfl ⟨rfl, HKK.out⟩
set_option maxHeartbeats 8000000 in
set_option maxRecDepth 100000 in
theorem guess_111 (w : World) (hG : Glob4 w) (v : Value) (l0 l1 l2 l3 l4 l5 : List (List UInt8)) (f o k a b : Int) (hs : Strs w.heap.size w v l0) (hN1 : Sp8 l0 l1 o) (hN2 : SpN l1 l2 f) (hN3 : Sp8 l2 l3 k) (hN4 : Sp16 l3 l4 a) (hN5 : Sp16 l4 l5 b)
    (f0 : 0 ≤ f) (f1 : f < 256) (_o0 : 0 ≤ o) (_o1 : o < 256) (hK : opK f = true) (hA : opA f = true) (hB : opB f = true) :
    Calls Tryz.prog 119 #[v] w fun e w' => e = .returned (.agg #[.int .u8 f, .int .u8 o, .int .u8 k, .int .u16 a, .int .u16 b]) ∧ Keeps [] w w' := by
  have hf := fun w hG => find_any w hG f f0 f1
  rw [hK, hA, hB] at hf
  generalize opM f = M at *
  generalize bs (opNm f) = NM at *
  generalize opIs f = IS at *
  have hX0 := heap_alloc_new w (.cells #[.int .u8 0, .int .u8 0, .int .u8 0, .int .u16 0, .int .u16 0] 24)
  have hk0 := (Keeps.refl [] w).alloc (.cells #[.int .u8 0, .int .u8 0, .int .u8 0, .int .u16 0, .int .u16 0] 24)
  have hs0 := hs.keeps hk0
  have hread := hN1 _ _ _ (hG.new hk0) hs0
  have HX := Lib.hid hX0; have HK := Lib.hid hk0; have HR := Lib.hid hread
  clear hX0 hk0 hread hs0 hs hK hA hB hN1
  go_enter Tryz.func119, Tryz.ntmps119
  go_wp2_with fail
  refine HR.out.mono ?_; rintro e w1 ⟨v1, rfl, hs1, hk1⟩
  have hb1 := hk1.heap HX.out (by simp)
  have hK1 := HK.out.trans hk1 (FSub.refl _ _)
  have hs2 := hs1.set w.heap.size 1 (Nat.le_refl _) (.int .u8 o)
  have hb2 := set5_1 hb1 (.int .u8 o)
  have hK2 := hK1.setCell ⟨w.heap.size, 1, none⟩ (.int .u8 o) (.inr (Nat.le_refl _))
  obtain ⟨c0, c1, c2, c3, c4, cl⟩ := cell5 hb1
  obtain ⟨d0, d1, d2, d3, d4⟩ := thaw5 hb1
  have HB2 := Lib.hid hb2; have HK2 := Lib.hid hK2; have HS2 := Lib.hid hs2
  clear hk1 hb1 hK1 hb2 hK2 HR HX HK hs1 hs2
  go_wp2_with fail
  clear c0 c1 c2 c3 c4 cl d0 d1 d2 d3 d4
  generalize w1.setCell ⟨w.heap.size, 1, none⟩ (.int .u8 o) = W2 at *
  refine (hN2 _ _ _ (hG.new HK2.out) HS2.out).mono ?_; rintro e w3 ⟨v3, rfl, hs3, hk3⟩
  have hb3 := hk3.heap HB2.out (by simp)
  have hK3 := HK2.out.trans hk3 (FSub.refl _ _)
  have hs4 := hs3.set w.heap.size 0 (Nat.le_refl _) (.int .u8 f)
  have hb4 := set5_0 hb3 (.int .u8 f)
  have hK4 := hK3.setCell ⟨w.heap.size, 0, none⟩ (.int .u8 f) (.inr (Nat.le_refl _))
  obtain ⟨c0, c1, c2, c3, c4, cl⟩ := cell5 hb3
  obtain ⟨d0, d1, d2, d3, d4⟩ := thaw5 hb3
  obtain ⟨y0, y1, y2, y3, y4, yl⟩ := cell5 hb4
  have HB4 := Lib.hid hb4; have HK4 := Lib.hid hK4; have HS4 := Lib.hid hs4
  clear hk3 hb3 hK3 hb4 hK4 HB2 HK2 HS2 hs3 hs4 hN2
  go_wp2_with fail
  clear c0 c1 c2 c3 c4 cl d0 d1 d2 d3 d4 y0 y1 y2 y3 y4 yl
  generalize w3.setCell ⟨w.heap.size, 0, none⟩ (.int .u8 f) = W4 at *
  refine (hf _ (hG.new HK4.out)).mono ?_; rintro e w5 ⟨rfl, hk5⟩
  have hT0 : GAt (w5.alloc (.cells #[.int .u8 M, .string NM, .bool true, .bool true, .bool true] 144)) w.heap.size w5.heap.size #[.int .u8 M, .string NM, .bool true, .bool true, .bool true] (.int .u8 f) (.int .u8 o) (.int .u8 0) (.int .u16 0) (.int .u16 0) :=
    ⟨heap_alloc_lt (hk5.heap HB4.out (by simp)), heap_alloc_new w5 _⟩
  have hDQ : w.heap.size ≠ w5.heap.size := by have := lt_of_block (hk5.heap HB4.out (by simp)); omega
  have hK5 := (HK4.out.trans hk5 (FSub.refl _ _)).alloc (.cells #[.int .u8 M, .string NM, .bool true, .bool true, .bool true] 144)
  have hs5 := (HS4.out.keeps hk5).keeps ((Keeps.refl [] w5).alloc (.cells #[.int .u8 M, .string NM, .bool true, .bool true, .bool true] 144))
  obtain ⟨q0, q1, q2, q3, q4, ql⟩ := cell5 hT0.qb
  obtain ⟨y0, y1, y2, y3, y4, yl⟩ := cell5 hT0.xb
  have HT0 := Lib.hid hT0; have HK5 := Lib.hid hK5; have HS5 := Lib.hid hs5
  clear hk5 HB4 HK4 HS4 hf hT0 hK5 hs5
  have hD : w.heap.size ≤ w.heap.size := Nat.le_refl _
  go_wp2_with fail
  clear q0 q1 q2 q3 q4 ql y0 y1 y2 y3 y4 yl
  generalize w5.alloc (.cells #[.int .u8 M, .string NM, .bool true, .bool true, .bool true] 144) = W5 at *
  generalize w5.heap.size = Q at *
  refine (hN3 _ _ _ (hG.new HK5.out) HS5.out).mono ?_; rintro e w6 ⟨v6, rfl, hs6, hk6⟩
  have hR := HT0.out.keep hk6
  have hKr := HK5.out.trans hk6 (FSub.refl _ _)
  have hT := hR.put2 hDQ (.int .u8 k)
  have hK6 := hKr.setCell ⟨w.heap.size, 2, none⟩ (.int .u8 k) (.inr hD)
  have hs7 := hs6.set w.heap.size 2 (Nat.le_refl _) (.int .u8 k)
  obtain ⟨c0, c1, c2, c3, c4, cl⟩ := cell5 hR.xb
  obtain ⟨d0, d1, d2, d3, d4⟩ := thaw5 hR.xb
  obtain ⟨q0, q1, q2, q3, q4, ql⟩ := cell5 hT.qb
  obtain ⟨y0, y1, y2, y3, y4, yl⟩ := cell5 hT.xb
  clear HT0 HK5 HS5
  have HT0 := Lib.hid hT; have HK5 := Lib.hid hK6; have HS5 := Lib.hid hs7
  clear hR hKr hT hK6 hs6 hs7 hk6 hN3
  go_wp2_with fail
  clear c0 c1 c2 c3 c4 cl d0 d1 d2 d3 d4 q0 q1 q2 q3 q4 ql y0 y1 y2 y3 y4 yl
  generalize w6.setCell ⟨w.heap.size, 2, none⟩ (.int .u8 k) = W6 at *
  refine (hN4 _ _ _ (hG.new HK5.out) HS5.out).mono ?_; rintro e w7 ⟨v7, rfl, hs6, hk6⟩
  have hR := HT0.out.keep hk6
  have hKr := HK5.out.trans hk6 (FSub.refl _ _)
  have hT := hR.put3 hDQ (.int .u16 a)
  have hK6 := hKr.setCell ⟨w.heap.size, 3, none⟩ (.int .u16 a) (.inr hD)
  have hs7 := hs6.set w.heap.size 3 (Nat.le_refl _) (.int .u16 a)
  obtain ⟨c0, c1, c2, c3, c4, cl⟩ := cell5 hR.xb
  obtain ⟨d0, d1, d2, d3, d4⟩ := thaw5 hR.xb
  obtain ⟨q0, q1, q2, q3, q4, ql⟩ := cell5 hT.qb
  obtain ⟨y0, y1, y2, y3, y4, yl⟩ := cell5 hT.xb
  clear HT0 HK5 HS5
  have HT0 := Lib.hid hT; have HK5 := Lib.hid hK6; have HS5 := Lib.hid hs7
  clear hR hKr hT hK6 hs6 hs7 hk6 hN4
  go_wp2_with fail
  clear c0 c1 c2 c3 c4 cl d0 d1 d2 d3 d4 q0 q1 q2 q3 q4 ql y0 y1 y2 y3 y4 yl
  generalize w7.setCell ⟨w.heap.size, 3, none⟩ (.int .u16 a) = W7 at *
  refine (hN5 _ _ _ (hG.new HK5.out) HS5.out).mono ?_; rintro e w8 ⟨v8, rfl, hs6, hk6⟩
  have hR := HT0.out.keep hk6
  have hKr := HK5.out.trans hk6 (FSub.refl _ _)
  have hT := hR.put4 hDQ (.int .u16 b)
  have hK6 := hKr.setCell ⟨w.heap.size, 4, none⟩ (.int .u16 b) (.inr hD)
  have hs7 := hs6.set w.heap.size 4 (Nat.le_refl _) (.int .u16 b)
  obtain ⟨c0, c1, c2, c3, c4, cl⟩ := cell5 hR.xb
  obtain ⟨d0, d1, d2, d3, d4⟩ := thaw5 hR.xb
  obtain ⟨q0, q1, q2, q3, q4, ql⟩ := cell5 hT.qb
  obtain ⟨y0, y1, y2, y3, y4, yl⟩ := cell5 hT.xb
  clear HT0 HK5 HS5
  have HT0 := Lib.hid hT; have HK5 := Lib.hid hK6; have HS5 := Lib.hid hs7
  clear hR hKr hT hK6 hs6 hs7 hk6 hN5
  obtain ⟨g0, g1, g2, g3, g4⟩ := thaw5 HT0.out.xb
  have hr := put5 HT0.out.xb (.int .u8 f) (.int .u8 o) (.int .u8 k) (.int .u16 a) (.int .u16 b)
  have hkk := HK5.out.set5 (b := w.heap.size) (.inr hD) (.int .u8 f) (.int .u8 o) (.int .u8 k) (.int .u16 a) (.int .u16 b)
  have HRR := Lib.hid hr; have HKK := Lib.hid hkk
  clear hr hkk HT0 HK5 HS5
  go_wp2_with fail
  try simp only [Exit.inBlock, Exit.then]
  exact bodyPost_ret (results_op1 rfl _ _ _ rfl HRR.out) rfl ⟨rfl, HKK.out⟩
theorem words_drop (l : List (List UInt8)) (n i : Nat) : (l.drop n).getD i [] = l.getD (n + i) [] := by simp [List.getD_eq_getElem?_getD, List.getElem?_drop]
theorem named_ways (W : List UInt8) : (opK (opNamed W) = false ∧ opA (opNamed W) = false ∧ opB (opNamed W) = false) ∨ (opK (opNamed W) = false ∧ opA (opNamed W) = true ∧ opB (opNamed W) = false) ∨ (opK (opNamed W) = false ∧ opA (opNamed W) = true ∧ opB (opNamed W) = true) ∨ (opK (opNamed W) = true ∧ opA (opNamed W) = false ∧ opB (opNamed W) = false) ∨ (opK (opNamed W) = true ∧ opA (opNamed W) = true ∧ opB (opNamed W) = false) ∨ (opK (opNamed W) = true ∧ opA (opNamed W) = true ∧ opB (opNamed W) = true) := by
  have hb := named_bounds W
  by_cases h0 : opNamed W = 0
  · rw [h0]; exact .inl (by decide)
  · exact need_ways (by simp [opIs]; omega)
theorem guess_any (w : World) (hG : Glob4 w) (v : Value) (l : List (List UInt8)) (hs : Strs w.heap.size w v l) (hw : ∀ j, (l.getD j []).length ≤ 1000000) :
    Calls Tryz.prog 119 #[v] w fun e w' => e = .returned (psGuess l).val ∧ Keeps [] w w' := by
  have hb := named_bounds (l.getD 1 [])
  have p0 := puOf_bounds (l.getD 0 [])
  have d1 : (l.drop 1).getD 0 [] = l.getD 1 [] := words_drop l 1 0
  have d2 : ((l.drop 1).drop 1).getD 0 [] = l.getD 2 [] := by rw [List.drop_drop]; exact words_drop l 2 0
  have d3 : (((l.drop 1).drop 1).drop 1).getD 0 [] = l.getD 3 [] := by rw [List.drop_drop, List.drop_drop]; exact words_drop l 3 0
  have d4 : ((((l.drop 1).drop 1).drop 1).drop 1).getD 0 [] = l.getD 4 [] := by rw [List.drop_drop, List.drop_drop, List.drop_drop]; exact words_drop l 4 0
  have n1 := sp8_of l (hw 0)
  have n2 := spN_of (l.drop 1)
  rw [d1] at n2
  have m2 := sp8_of ((l.drop 1).drop 1) (by rw [d2]; exact hw 2)
  have s2 := sp16_of ((l.drop 1).drop 1) (by rw [d2]; exact hw 2)
  have s3 := sp16_of (((l.drop 1).drop 1).drop 1) (by rw [d3]; exact hw 3)
  have s4 := sp16_of ((((l.drop 1).drop 1).drop 1).drop 1) (by rw [d4]; exact hw 4)
  rw [d2] at m2 s2
  rw [d3] at s3
  rw [d4] at s4
  rcases named_ways (l.getD 1 []) with ⟨hK, hA, hB⟩ | ⟨hK, hA, hB⟩ | ⟨hK, hA, hB⟩ | ⟨hK, hA, hB⟩ | ⟨hK, hA, hB⟩ | ⟨hK, hA, hB⟩
  · have e : (psGuess l).val = .agg #[.int .u8 (opNamed (l.getD 1 [])), .int .u8 (puOf (l.getD 0 []) % 256), .int .u8 0, .int .u16 0, .int .u16 0] := by
      simp only [psGuess, Opn.val, opWA, opWB, hK, hA, hB, if_false, Bool.false_eq_true]
    rw [e]
    exact guess_000 w hG v _ _ _ _ _  hs n1 n2  (by omega) (by omega) (by omega) (by omega) hK hA hB
  · have e : (psGuess l).val = .agg #[.int .u8 (opNamed (l.getD 1 [])), .int .u8 (puOf (l.getD 0 []) % 256), .int .u8 0, .int .u16 (puOf (l.getD 2 [])), .int .u16 0] := by
      simp only [psGuess, Opn.val, opWA, opWB, hK, hA, hB, if_true, if_false, Bool.false_eq_true]
    rw [e]
    exact guess_010 w hG v _ _ _ _ _ _ _ hs n1 n2 s2 (by omega) (by omega) (by omega) (by omega) hK hA hB
  · have e : (psGuess l).val = .agg #[.int .u8 (opNamed (l.getD 1 [])), .int .u8 (puOf (l.getD 0 []) % 256), .int .u8 0, .int .u16 (puOf (l.getD 2 [])), .int .u16 (puOf (l.getD 3 []))] := by
      simp only [psGuess, Opn.val, opWA, opWB, hK, hA, hB, if_true, if_false, Bool.false_eq_true]
    rw [e]
    exact guess_011 w hG v _ _ _ _ _ _ _ _ _ hs n1 n2 s2 s3 (by omega) (by omega) (by omega) (by omega) hK hA hB
  · have e : (psGuess l).val = .agg #[.int .u8 (opNamed (l.getD 1 [])), .int .u8 (puOf (l.getD 0 []) % 256), .int .u8 (puOf (l.getD 2 []) % 256), .int .u16 0, .int .u16 0] := by
      simp only [psGuess, Opn.val, opWA, opWB, hK, hA, hB, if_true, if_false, Bool.false_eq_true]
    rw [e]
    exact guess_100 w hG v _ _ _ _ _ _ _ hs n1 n2 m2 (by omega) (by omega) (by omega) (by omega) hK hA hB
  · have e : (psGuess l).val = .agg #[.int .u8 (opNamed (l.getD 1 [])), .int .u8 (puOf (l.getD 0 []) % 256), .int .u8 (puOf (l.getD 2 []) % 256), .int .u16 (puOf (l.getD 3 [])), .int .u16 0] := by
      simp only [psGuess, Opn.val, opWA, opWB, hK, hA, hB, if_true, if_false, Bool.false_eq_true]
    rw [e]
    exact guess_110 w hG v _ _ _ _ _ _ _ _ _ hs n1 n2 m2 s3 (by omega) (by omega) (by omega) (by omega) hK hA hB
  · have e : (psGuess l).val = .agg #[.int .u8 (opNamed (l.getD 1 [])), .int .u8 (puOf (l.getD 0 []) % 256), .int .u8 (puOf (l.getD 2 []) % 256), .int .u16 (puOf (l.getD 3 [])), .int .u16 (puOf (l.getD 4 []))] := by
      simp only [psGuess, Opn.val, opWA, opWB, hK, hA, hB, if_true]
    rw [e]
    exact guess_111 w hG v _ _ _ _ _ _ _ _ _ _ _ hs n1 n2 m2 s3 s4 (by omega) (by omega) (by omega) (by omega) hK hA hB
end Go.Proofs.YtffldnjjijckcaaGreatDoor
/-
  The program's Parse.
-/
namespace Go.Proofs.YtffldnjjijckcaaGreatDoor
open Go.RowKit
theorem map_bs_inj {l m : List (List UInt8)} (h : l.map bs = m.map bs) : l = m := by
  induction l generalizing m with
  | nil => cases m with
    | nil => rfl
    | cons y r => simp at h
  | cons x r ih => cases m with
    | nil => simp at h
    | cons y r' =>
      simp only [List.map_cons, List.cons.injEq] at h
      rw [bs_inj h.1, ih h.2]
theorem map_bs_getD (l : List (List UInt8)) (j : Nat) (hj : j < l.length) : (l.map bs).getD j ByteArray.empty = bs (l.getD j []) := by
  simp [List.getD_eq_getElem?_getD, List.getElem?_eq_getElem hj]
theorem Equal4_any (w : World) {N N' : Nat} (v1 v2 : Value) (l1 l2 : List (List UInt8)) (h1 : Strs N w v1 l1) (h2 : Strs N' w v2 l2) :
    Calls Tryz.prog 120 #[v1, v2] w fun e w' => e = .returned (.bool (decide (l1 = l2))) ∧ Keeps [] w w' := by
  obtain ⟨a1, c1, rfl, hc1, hm1, h1⟩ := h1
  obtain ⟨a2, c2, rfl, hc2, hm2, h2⟩ := h2
  by_cases hl : l1.length = l2.length
  · by_cases hn : l1 = []
    · subst hn
      have e2 : l2 = [] := List.eq_nil_of_length_eq_zero hl.symm
      subst e2
      refine (Any.slices_Equal_string_empty Tryz.lays193 a1 a2 c1 0 c2 w (by omega)).mono ?_
      rintro e w' ⟨rfl, rfl⟩
      exact ⟨rfl, Keeps.refl _ _⟩
    · have hn2 : l2 ≠ [] := fun e => hn (List.eq_nil_of_length_eq_zero (by rw [hl, e]; rfl))
      obtain ⟨b1, o1, rfl, _, g1⟩ := h1 hn
      obtain ⟨b2, o2, rfl, _, g2⟩ := h2 hn2
      refine (Any.slices_Equal_string Tryz.lays193 b1 o1 l1.length c1 b2 o2 l2.length c2 (l1.map bs) (l2.map bs) w (by simp) (by simp) (by omega) (by omega) (fun j hj => ?_) (fun j hj => ?_)).mono ?_
      · have hj' : j < l1.length := by simpa using hj
        rw [map_bs_getD _ _ hj']; exact g1 j hj'
      · have hj' : j < l2.length := by simpa using hj
        rw [map_bs_getD _ _ hj']; exact g2 j hj'
      · rintro e w' ⟨rfl, q, rfl⟩
        refine ⟨?_, (Keeps.refl _ _).drewN q⟩
        have t1 : (l1.map bs).take l1.length = l1.map bs := List.take_of_length_le (by simp)
        have t2 : (l2.map bs).take l2.length = l2.map bs := List.take_of_length_le (by simp)
        rw [t1, t2]
        congr 2
        simp only [decide_eq_decide]
        exact ⟨map_bs_inj, fun h => by rw [h]⟩
  · refine (Any.slices_Equal_string_lens Tryz.lays193 a1 a2 l1.length c1 l2.length c2 w hl).mono ?_
    rintro e w' ⟨rfl, rfl⟩
    have : l1 ≠ l2 := fun e => hl (by rw [e])
    exact ⟨by simp [this], Keeps.refl _ _⟩
set_option maxRecDepth 100000 in
theorem results_op2 {fn : Func} {p u : Tmp} (h : fn.results = #[.cell p 24, .tmp u]) (tmps : Array Value) (w : World) (b : Nat) {x0 x1 x2 x3 x4 : Value} {t : TypeId}
    (hp : tmps.getD p undef = .pointer (some ⟨b, 0, none⟩)) (hb : w.heap[b]? = some (.cells #[x0, x1, x2, x3, x4] t (0, 0))) : (results fn tmps).run Tryz.prog w = .ok (.tuple #[.agg #[x0, x1, x2, x3, x4], tmps.getD u undef]) w := by
  have h1 : (loadVar 24 ⟨b, 0, none⟩).run Tryz.prog w = .ok (.agg #[x0, x1, x2, x3, x4]) w := run_loadVar_row w b t 24 _ _ _ hb Tryz.underlying24 rfl (by kernel_rfl)
  rw [results_cell_tmp h, hp]
  simp [asAddr, h1, Result.andThen]
set_option maxHeartbeats 4000000 in
set_option maxRecDepth 100000 in
theorem Parse4_any (w : World) (hG : Glob4 w) (v : Value) (l : List (List UInt8)) (hs : Strs w.heap.size w v l) (hw : ∀ j, (l.getD j []).length ≤ 1000000) :
    Calls Tryz.prog 80 #[v] w fun e w' => e = .returned (.tuple #[(opsX l).val, .int .i64 (opsE l)]) ∧ Keeps [] w w' := by
  have hg := fun (W : World) (hG : Glob4 W) (h : Strs W.heap.size W v l) => guess_any W hG v l h hw
  have hin := guess_in l
  have hX : opsX l = if opsOk l then psGuess l else opZero := rfl
  have hE : opsE l = if opsOk l then 0 else 4 := rfl
  have hok : opsOk l = (opGood (psGuess l) && decide (opWords (psGuess l) = l)) := by
    unfold opsOk
    by_cases h : opWords (psGuess l) = l <;> simp [h]
  generalize opsX l = RX at *
  generalize opsE l = RE at *
  rw [hok] at hX hE
  clear hok
  generalize psGuess l = x at *
  obtain ⟨f, o, k, a, b⟩ := x
  simp only [Opn.val] at hg
  have hv := fun w hG => valid_any w hG f o k a b hin
  have hwd := fun w hG => opWords_any w hG ⟨f, o, k, a, b⟩ hin
  simp only [Opn.val] at hwd
  have hk0 := (Keeps.refl [] w).alloc (.cells #[.int .u8 0, .int .u8 0, .int .u8 0, .int .u16 0, .int .u16 0] 24)
  have hb0 := heap_alloc_new w (.cells #[.int .u8 0, .int .u8 0, .int .u8 0, .int .u16 0, .int .u16 0] 24)
  have hread := hg _ (hG.new hk0) (hs.keeps hk0).here
  have HX := Lib.hid hX; have HE := Lib.hid hE; have HB := Lib.hid hb0; have HK := Lib.hid hk0; have HR := Lib.hid hread
  have HIN := Lib.hid hin
  clear hX hE hb0 hk0 hread hg hin hw
  go_enter Tryz.func80, Tryz.ntmps80
  go_wp2_with fail
  refine HR.out.mono ?_; rintro e w1 ⟨rfl, hk1⟩
  have hD := heap_alloc_lt (o := .cells #[.int .u8 f, .int .u8 o, .int .u8 k, .int .u16 a, .int .u16 b] 24) (hk1.heap HB.out (by simp))
  have hXb := heap_alloc_new w1 (.cells #[.int .u8 f, .int .u8 o, .int .u8 k, .int .u16 a, .int .u16 b] 24)
  have hK := (HK.out.trans hk1 (FSub.refl _ _)).alloc (.cells #[.int .u8 f, .int .u8 o, .int .u8 k, .int .u16 a, .int .u16 b] 24)
  have HD := Lib.hid hD; have HXB := Lib.hid hXb; have HK2 := Lib.hid hK
  clear hD hXb hK hk1 HB HK HR
  go_wp2_with fail
  generalize w1.alloc (.cells #[.int .u8 f, .int .u8 o, .int .u8 k, .int .u16 a, .int .u16 b] 24) = W1 at *
  generalize w1.heap.size = X at *
  refine (hv _ (hG.new HK2.out)).mono ?_; rintro e w2 ⟨rfl, hk2⟩
  have hD2 := hk2.heap HD.out (by simp)
  have hX2 := hk2.heap HXB.out (by simp)
  have hK2 := HK2.out.trans hk2 (FSub.refl _ _)
  obtain ⟨c0, c1, c2, c3, c4, cl⟩ := cell5 hX2
  have HD2 := Lib.hid hD2; have HX2 := Lib.hid hX2; have HK3 := Lib.hid hK2
  clear hD2 hX2 hK2 hk2 HD HXB HK2 hv
  cases hgood : opGood ⟨f, o, k, a, b⟩ with
  | false =>
    rw [hgood] at HX HE
    have hx9 := HX.out; have he9 := HE.out
    simp only [Bool.false_and, Bool.false_eq_true, if_false] at hx9 he9
    clear HX HE
    subst hx9 he9
    obtain ⟨y0, y1, y2, y3, y4, yl⟩ := cell5 HD2.out
    obtain ⟨d0, d1, d2, d3, d4⟩ := thaw5 HD2.out
    have hr := put5 HD2.out (.int .u8 0) (.int .u8 0) (.int .u8 0) (.int .u16 0) (.int .u16 0)
    have hkk := HK3.out.set5 (b := w.heap.size) (.inr (Nat.le_refl _)) (.int .u8 0) (.int .u8 0) (.int .u8 0) (.int .u16 0) (.int .u16 0)
    have HRR := Lib.hid hr; have HKK := Lib.hid hkk
    clear hr hkk HD2 HK3 HX2 hwd HIN
    go_wp2_with fail
    exact bodyPost_ret (results_op2 rfl _ _ _ rfl HRR.out) rfl ⟨rfl, HKK.out⟩
  | true =>
    have hwo : wordsOf ⟨f, o, k, a, b⟩ = opWords ⟨f, o, k, a, b⟩ := by unfold wordsOf; rw [if_pos hgood]
    rw [hwo] at hwd
    rw [hgood] at HX HE
    generalize opWords ⟨f, o, k, a, b⟩ = WL at *
    clear hwo hgood
    go_wp2_with fail
    refine (hwd _ (hG.new HK3.out)).mono ?_; rintro e w3 ⟨v3, rfl, hrow, hk3, hfr⟩
    have hD3 := hk3.heap HD2.out (by simp)
    have hX3 := hk3.heap HX2.out (by simp)
    have hK3 := HK3.out.trans hk3 (FSub.refl _ _)
    have hs3 := hs.keeps hK3
    have hr3 := Strs.row hrow
    have heq := Equal4_any w3 v3 v WL l hr3 hs3
    clear c0 c1 c2 c3 c4 cl hrow hk3 hfr HD2 HX2 HK3 hwd hs3 hr3
    go_wp2_with fail
    refine heq.mono ?_; rintro e w4 ⟨rfl, hk4⟩
    have hD4 := hk4.heap hD3 (by simp)
    have hX4 := hk4.heap hX3 (by simp)
    have hK4 := hK3.trans hk4 (FSub.refl _ _)
    obtain ⟨c0, c1, c2, c3, c4, cl⟩ := cell5 hX4
    obtain ⟨y0, y1, y2, y3, y4, yl⟩ := cell5 hD4
    obtain ⟨d0, d1, d2, d3, d4⟩ := thaw5 hD4
    clear hD3 hX3 hK3 hk4 heq hX4
    by_cases hq : WL = l
    · have eq2 : decide (WL = l) = true := by simp [hq]
      rw [eq2] at HX HE ⊢
      have hx9 := HX.out; have he9 := HE.out
      simp only [Bool.true_and, if_true] at hx9 he9
      clear HX HE
      subst hx9 he9
      have hr := put5 hD4 (.int .u8 f) (.int .u8 o) (.int .u8 k) (.int .u16 a) (.int .u16 b)
      have hkk := hK4.set5 (b := w.heap.size) (.inr (Nat.le_refl _)) (.int .u8 f) (.int .u8 o) (.int .u8 k) (.int .u16 a) (.int .u16 b)
      have HRR := Lib.hid hr; have HKK := Lib.hid hkk
      clear hr hkk hD4 hK4 hq eq2 HIN
      go_wp2_with fail
      exact bodyPost_ret (results_op2 rfl _ _ _ rfl HRR.out) rfl ⟨rfl, HKK.out⟩
    · have eq2 : decide (WL = l) = false := by simp [hq]
      rw [eq2] at HX HE ⊢
      have hx9 := HX.out; have he9 := HE.out
      simp only [Bool.true_and, Bool.false_eq_true, if_false] at hx9 he9
      clear HX HE
      subst hx9 he9
      have hr := put5 hD4 (.int .u8 0) (.int .u8 0) (.int .u8 0) (.int .u16 0) (.int .u16 0)
      have hkk := hK4.set5 (b := w.heap.size) (.inr (Nat.le_refl _)) (.int .u8 0) (.int .u8 0) (.int .u8 0) (.int .u16 0) (.int .u16 0)
      have HRR := Lib.hid hr; have HKK := Lib.hid hkk
      clear hr hkk hD4 hK4 hq eq2 HIN
      go_wp2_with fail
      exact bodyPost_ret (results_op2 rfl _ _ _ rfl HRR.out) rfl ⟨rfl, HKK.out⟩
end Go.Proofs.YtffldnjjijckcaaGreatDoor
/-
  The document's Parse: what its loops keep.
-/
namespace Go.Proofs.YtffldnjjijckcaaGreatDoor
open Go.RowKit
/-- No operation below f has the second word as its name. -/
def NoneBelow (l : List (List UInt8)) (f : Nat) : Prop := ∀ g : Nat, 1 ≤ g → g < f → ¬ (2 ≤ l.length ∧ l.getD 1 [] = opNm g)
theorem NoneBelow.all {l : List (List UInt8)} (h : NoneBelow l 12) : opsX l = opZero ∧ opsE l = 4 := by
  apply said_none
  intro f hs
  have hf : 1 ≤ f ∧ f ≤ 11 := by simpa [opIs] using hs.is
  have h2 := opWN_le f
  have e : ((f.toNat : Nat) : Int) = f := by omega
  exact h f.toNat (by omega) (by omega) ⟨by have := hs.len; omega, by rw [e]; exact hs.nm⟩
theorem NoneBelow.next {l : List (List UInt8)} {f : Nat} (h : NoneBelow l f) (hn : ¬ (2 ≤ l.length ∧ l.getD 1 [] = opNm f)) : NoneBelow l (f + 1) := by
  intro g h1 h2
  rcases (by omega : g < f ∨ g = f) with h3 | rfl
  · exact h g h1 h3
  · exact hn
/-- The number of the j-th word, the name not counted. -/
def numAt (l : List (List UInt8)) (j : Nat) : Int := wordNum (l.getD (if j = 0 then 0 else j + 1) [])
def numCnt (i : Nat) : Nat := if i = 0 then 0 else if i = 1 then 1 else i - 1
def numL (l : List (List UInt8)) (c : Nat) : List Int := (List.range c).map (numAt l)
theorem numL_len (l : List (List UInt8)) (c : Nat) : (numL l c).length = c := by simp [numL]
theorem numL_step (l : List (List UInt8)) (i : Nat) (h : i ≠ 1) : numL l (numCnt (i + 1)) = numL l (numCnt i) ++ [wordNum (l.getD i [])] ∧ numCnt (i + 1) = numCnt i + 1 := by
  have e : numCnt (i + 1) = numCnt i + 1 := by unfold numCnt; split <;> split <;> (try split) <;> omega
  have e2 : numAt l (numCnt i) = wordNum (l.getD i []) := by
    rcases (by omega : i = 0 ∨ 2 ≤ i) with rfl | h2
    · rfl
    · have hc : numCnt i = i - 1 := by unfold numCnt; rw [if_neg (by omega), if_neg h]
      rw [hc]; unfold numAt; rw [if_neg (by omega)]
      congr 2; omega
  refine ⟨?_, e⟩
  rw [e, numL, List.range_succ, List.map_append, ← e2]
  rfl
theorem numL_one (l : List (List UInt8)) : numL l (numCnt 2) = numL l (numCnt 1) := rfl
/-- What an operation with these flags needs, the name not counted: after k of three looks. -/
def needAt (K A B : Bool) (k : Nat) : Int := 1 + (if 0 < k ∧ K = true then 1 else 0) + (if 1 < k ∧ A = true then 1 else 0) + (if 2 < k ∧ B = true then 1 else 0)
theorem needAt_b (K A B : Bool) (k : Nat) : 1 ≤ needAt K A B k ∧ needAt K A B k ≤ 4 := by
  unfold needAt
  repeat' split
  all_goals omega
theorem needAt_wn (f : Int) : (opWN f : Int) = needAt (opK f) (opA f) (opB f) 3 + 1 := by
  unfold opWN opWB opWA needAt
  rcases bool_two (opK f) with h1 | h1 <;> rcases bool_two (opA f) with h2 | h2 <;> rcases bool_two (opB f) with h3 | h3 <;> simp [h1, h2, h3]
theorem none_said {l : List (List UInt8)} {f : Int} (hn : l.getD 1 [] = opNm f) (hf : opIs f = true) (h : ¬ Said l f) : opsX l = opZero ∧ opsE l = 4 := by
  apply said_none
  intro g hs
  have e1 := named_of hs.is hs.nm.symm
  have e2 := named_of hf hn.symm
  rw [e1] at e2
  subst e2
  exact h hs
def GoodTo (l : List (List UInt8)) (K : Bool) (k : Nat) : Prop := ∀ j, j < k → 0 ≤ numAt l j ∧ (j = 0 → numAt l j ≤ 7) ∧ (j = 1 → K = true → numAt l j ≤ 7)
theorem GoodTo.next {l : List (List UInt8)} {K : Bool} {k : Nat} (h : GoodTo l K k) (h0 : 0 ≤ numAt l k) (h1 : k = 0 → numAt l k ≤ 7) (h2 : k = 1 → K = true → numAt l k ≤ 7) : GoodTo l K (k + 1) := by
  intro j hj
  rcases (by omega : j < k ∨ j = k) with h3 | rfl
  · exact h j h3
  · exact ⟨h0, h1, h2⟩
theorem said_of {l : List (List UInt8)} {f : Int} {K : Bool} (his : opIs f = true) (hn : l.getD 1 [] = opNm f) (hl : l.length = opWN f) (hK : opK f = K) (h : GoodTo l K (l.length - 1)) : Said l f := by
  have h2 := opWN_le f
  have g0 := h 0 (by omega)
  refine ⟨his, hn, hl, fun i hi h1 => ?_, ?_, fun hk => ?_⟩
  · rcases (by omega : i = 0 ∨ 2 ≤ i) with rfl | h3
    · exact g0.1
    · have := (h (i - 1) (by omega)).1
      unfold numAt at this
      rw [if_neg (by omega)] at this
      have e : i - 1 + 1 = i := by omega
      rw [e] at this; exact this
  · have : wordNum (l.getD 0 []) ≤ 7 := g0.2.1 rfl
    omega
  · have hb : 3 ≤ opWN f := by unfold opWN opWB opWA; rw [if_pos hk]; omega
    have : wordNum (l.getD 2 []) ≤ 7 := (h 1 (by omega)).2.2 rfl (by rw [← hK]; exact hk)
    omega
theorem row_ints {w : World} {v : Value} {n : Nat} {xs : List Int} (h : w.ownsRow 0 3 1 v n (xs.map (.int .i64))) (hn : 0 < n) (hx : xs.length = n) :
    ∃ g cap, v = .slice (some ⟨g, 0, none⟩) n cap ∧ n ≤ cap ∧ cap ≤ 9223372036854775807 ∧ ∀ j, j < n → w.cell? ⟨g, j, none⟩ = some (.int .i64 (xs.getD j 0)) := by
  rcases h.2 with ⟨_, h0⟩ | ⟨g, cap, cur, rfl, _, hh, hc, hm, _⟩
  · omega
  · refine ⟨g, cap, rfl, hc, by unfold maxLen at hm; omega, fun j hj => ?_⟩
    have := h.cells (g := g) rfl j (.int .i64 (xs.getD j 0)) (by simp [List.getD, List.getElem?_eq_getElem (show j < xs.length by omega)])
    have ha : ((⟨g, 0, none⟩ : Addr).add j) = ⟨g, j, none⟩ := by unfold Addr.add; split <;> simp_all
    rw [ha] at this
    exact this
theorem numL_getD (l : List (List UInt8)) (c j : Nat) (h : j < c) : (numL l c).getD j 0 = numAt l j := by simp [numL, List.getD, h]
theorem numAt_b (l : List (List UInt8)) (j : Nat) : -1 ≤ numAt l j ∧ numAt l j ≤ 65535 := wordNum_bounds _
theorem row_none (w : World) (e : TypeId) : w.ownsRow 0 e 1 (.slice none 0 0) 0 [] := ⟨rfl, .inl ⟨rfl, rfl⟩⟩
theorem Tryz.infoI : (Tryz.prog.info? 3).map (fun i => (i.zero, i.size, i.bytes)) = some (some (.int .i64 0), 1, 8) := by kernel_rfl
end Go.Proofs.YtffldnjjijckcaaGreatDoor
