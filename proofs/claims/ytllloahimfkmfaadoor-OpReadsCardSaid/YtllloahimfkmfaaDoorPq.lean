/-
  OpReads, walked.
-/
import Derived.Test.YtllloahimfkmfaaDoorPl
import Derived.Test.YtllloahimfkmfaaDoorPm
import Derived.Test.YtllloahimfkmfaaDoorPf
import Derived.Test.YtllloahimfkmfaaDoorOq
namespace Go.Proofs.YtllloahimfkmfaaDoor
open Go.RowKit
open Go.Deep
/-- The document's Parse, of any words. -/
theorem r4Parse_any (w : World) (v : Value) (l : List (List UInt8)) (hs : Strs w.heap.size w v l) (hw : ∀ j, (l.getD j []).length ≤ 1000) (hlen : l.length ≤ 1000) :
    Calls Tryd.prog 12 #[v] w fun e w' => e = .returned (.tuple #[(opsX l).val, .int .i64 (opsE l)]) ∧ Keeps [] w w' := by
  by_cases h : ∃ f, Said l f
  · obtain ⟨f, hf⟩ := h
    have h1 : 1 ≤ f ∧ f ≤ 11 := by simpa [opIs] using hf.is
    obtain ⟨F, rfl⟩ := Int.eq_ofNat_of_zero_le (show 0 ≤ f by omega)
    obtain ⟨e1, e2⟩ := said_ops hf
    rw [e1, e2]
    exact r4Parse_said w v l F hf hs hw hlen
  · exact r4Parse_no w v l (fun f hf => h ⟨f, hf⟩) hs hw hlen
/-- An append whose run is known. -/
theorem wpList_append_run {P : Program} {w : World} {ops : Array Oper} {rest : List Oper} {o : Oper} {a : Act} {Q : Exit → Act → World → Prop} (hgd : o.guard = none) (s x : Operand) (t : TypeId)
    (ho : o.op = .call { callee := .builtin .append, args := #[s, x], argTypes := #[t, t] }) (vs vx v' : Value) (w' : World) (hs : a.eval s = vs) (hx : a.eval x = vx)
    (hr : (Builtin.append_ #[t, t] o.type #[vs, vx]).run P w = .ok v' w') (h : wpList P ops Q rest (a.put o.dst v') w') : wpList P ops Q (o :: rest) a w :=
  wpList_plain hgd fun K hK => by
    unfold Oper.wp execOp
    simp only [ho, resolve, invoke, builtin, Sem.run_bind, Sem.run_pure, Result.andThen_ok, List.map_toArray, List.map_cons, List.map_nil, hs, hx, hr]
    exact hK _ _ h
/-- A copy of words, by an append to nil. -/
theorem copy_words (w : World) (a : Option Addr) (n c : Nat) (l : List (List UInt8)) (h : Strs w.heap.size w (.slice a n c) l) (hz : a = none → n = 0 ∧ c = 0) (hlen : l.length ≤ 1000) :
    ∃ v' w', (Builtin.append_ #[22, 22] 22 #[.slice none 0 0, .slice a n c]).run Tryd.prog w = .ok v' w' ∧ Strs w'.heap.size w' v' l ∧ Keeps [] w w' := by
  obtain ⟨i0, hi, hz0, hz1, hz2⟩ := info_parts Tryd.infoS
  obtain ⟨a', c', hv, _, _, h'⟩ := h
  obtain ⟨rfl, rfl, rfl⟩ : a = a' ∧ n = l.length ∧ c = c' := by simpa using hv
  cases a with
  | none =>
    obtain ⟨h0, rfl⟩ := hz rfl
    have hl : l = [] := List.eq_nil_of_length_eq_zero h0
    subst hl
    exact ⟨_, _, run_append_owned_none (P := Tryd.prog) (w := w) 0 22 22 9 i0 1 Tryd.underlying22 hi (.slice none 0 0) 0 [] ⟨rfl, .inl ⟨rfl, rfl⟩⟩, Strs.nil _ _, Keeps.refl _ _⟩
  | some x =>
    obtain ⟨v', w', hr, ho, hk, _, _⟩ := run_append_sharp (P := Tryd.prog) w 22 22 9 i0 (.string ⟨#[]⟩) 16 Tryd.underlying22 hi hz0 hz1 hz2 rfl (.slice none 0 0) 0 [] ⟨rfl, .inl ⟨rfl, rfl⟩⟩
      x l.length c (l.map fun s => .string (bs s)) (by simp) (fun j u hj => by
        by_cases hl : l = []
        · subst hl; simp at hj
        · obtain ⟨bk, o, hx, _, hc⟩ := h' hl
          obtain rfl : x = ⟨bk, o, none⟩ := by simpa using hx
          have hj2 : j < l.length := by
            have := (List.getElem?_eq_some_iff.1 hj).1
            simpa using this
          rw [add_at, hc j hj2]
          simp only [List.getElem?_map, List.getElem?_eq_getElem hj2, Option.map_some] at hj
          rw [← hj, List.getD, List.getElem?_eq_getElem hj2]; rfl) (fun u hu => by simp at hu; obtain ⟨s, _, rfl⟩ := hu; rfl) (by unfold maxLen; omega) (by omega)
    refine ⟨v', w', hr, Strs.row ?_, hk⟩
    simpa using ho
set_option maxHeartbeats 8000000 in
set_option maxRecDepth 100000 in
theorem reads4_small (w : World) (hG : Glob4 w) (sl : List UInt8) (hsl : sl.length ≤ 1000) (a : Option Addr) (n c : Nat) (l : List (List UInt8)) (hl : Strs w.heap.size w (.slice a n c) l) (hz : a = none → n = 0 ∧ c = 0) (hl10 : l.length ≤ 10)
    (hlw : ∀ j, (l.getD j []).length ≤ 1000) (hfew : ∀ w', Keeps [] w w' → Calls Tryd.prog 7 #[.slice a n c] w' fun e w'' => e = .returned (.bool true) ∧ Keeps [] w' w'') :
    Calls Tryd.prog 3 #[.string (bs sl), .slice a n c] w fun e w' => e = .returned (.bool true) ∧ Keeps [] w w' := by
  have htk := fun w hG => Take4_any w hG sl (by omega)
  have hrk := fun w => r4Take_any w sl (by omega)
  have hps := fun w hG v hs => Parse4_any w hG v l hs hlw
  have hrp := fun w hs => r4Parse_any w (.slice a n c) l hs hlw (by omega)
  have z1 : ¬ 1000 < ((bs sl).size : Int) := by rw [bs_size]; omega
  generalize tkX (nb sl) = TX at *
  generalize tkErr (nb sl) = TE at *
  generalize bs (tkRest sl) = TR at *
  obtain ⟨tf, to, tk, ta, tb⟩ := TX
  simp only [Opn.val] at htk hrk
  generalize bs sl = SL at *
  generalize opsX l = PX at *
  generalize opsE l = PE at *
  obtain ⟨pf, po, pk, pa, pb⟩ := PX
  simp only [Opn.val] at hps hrp
  have hcp := fun w' (hk : Keeps [] w w') => copy_words w' a n c l (hl.keeps hk).here hz (by omega)
  have hf0 := hfew w (Keeps.refl _ _)
  clear hz hsl hlw hl10 hfew
  go_enter Tryd.func3, Tryd.ntmps3
  go_wp2_with fail
  refine hf0.mono ?_; rintro e w1 ⟨rfl, hk1⟩
  have HK := Lib.hid hk1; clear hk1 hf0 z1
  go_wp2_with fail
  refine (htk _ (hG.new HK.out)).mono ?_; rintro e w2 ⟨rfl, hk2⟩
  have hx := heap_alloc_new w2 (.cells #[.int .u8 tf, .int .u8 to, .int .u8 tk, .int .u16 ta, .int .u16 tb] 27)
  have hk := (HK.out.trans hk2 (FSub.refl _ _)).alloc (.cells #[.int .u8 tf, .int .u8 to, .int .u8 tk, .int .u16 ta, .int .u16 tb] 27)
  have HX := Lib.hid hx; have HK2 := Lib.hid hk; clear hx hk hk2 HK htk
  go_wp2_with fail
  generalize w2.alloc (.cells #[.int .u8 tf, .int .u8 to, .int .u8 tk, .int .u16 ta, .int .u16 tb] 27) = W2 at *
  refine (hrk _).mono ?_; rintro e w3 ⟨rfl, hk3⟩
  have hx := heap_alloc_lt (o := .cells #[.int .u8 tf, .int .u8 to, .int .u8 tk, .int .u16 ta, .int .u16 tb] 27) (hk3.heap HX.out (by simp))
  have hy := heap_alloc_new w3 (.cells #[.int .u8 tf, .int .u8 to, .int .u8 tk, .int .u16 ta, .int .u16 tb] 27)
  have hk := (HK2.out.trans hk3 (FSub.refl _ _)).alloc (.cells #[.int .u8 tf, .int .u8 to, .int .u8 tk, .int .u16 ta, .int .u16 tb] 27)
  have HX3 := Lib.hid hx; have HY := Lib.hid hy; have HK3 := Lib.hid hk; clear hx hy hk hk3 HX HK2 hrk
  obtain ⟨v4, w4, hr4, hs4, hk4⟩ := hcp _ HK3.out
  have HR4 := Lib.hid hr4; have HS4 := Lib.hid hs4
  have hx := hk4.heap HX3.out (by simp); have hy := hk4.heap HY.out (by simp)
  have hk := HK3.out.trans hk4 (FSub.refl _ _)
  have HX := Lib.hid hx; have HY4 := Lib.hid hy; have HK := Lib.hid hk
  clear hx hy hk hk4 HX3 HY HK3 hr4 hs4 hcp
  go_wp2_with (at_builtin; refine wpList_append_run rfl _ _ 22 rfl _ _ _ _ rfl rfl HR4.out ?_)
  clear HR4
  refine (hps _ (hG.new HK.out) _ HS4.out).mono ?_; rintro e w5 ⟨rfl, hk5⟩
  have hx := heap_alloc_lt (o := .cells #[.int .u8 pf, .int .u8 po, .int .u8 pk, .int .u16 pa, .int .u16 pb] 27) (hk5.heap HX.out (by simp))
  have hy := heap_alloc_lt (o := .cells #[.int .u8 pf, .int .u8 po, .int .u8 pk, .int .u16 pa, .int .u16 pb] 27) (hk5.heap HY4.out (by simp))
  have hp := heap_alloc_new w5 (.cells #[.int .u8 pf, .int .u8 po, .int .u8 pk, .int .u16 pa, .int .u16 pb] 27)
  have hs := HS4.out.keeps (hk5.alloc (.cells #[.int .u8 pf, .int .u8 po, .int .u8 pk, .int .u16 pa, .int .u16 pb] 27))
  have hk := (HK.out.trans hk5 (FSub.refl _ _)).alloc (.cells #[.int .u8 pf, .int .u8 po, .int .u8 pk, .int .u16 pa, .int .u16 pb] 27)
  have HX5 := Lib.hid hx; have HY5 := Lib.hid hy; have HP5 := Lib.hid hp; have HS5 := Lib.hid hs; have HK5 := Lib.hid hk
  clear hx hy hp hs hk hk5 HX HY4 HS4 HK hps
  go_wp2_with fail
  generalize w5.alloc (.cells #[.int .u8 pf, .int .u8 po, .int .u8 pk, .int .u16 pa, .int .u16 pb] 27) = W5 at *
  refine (hrp _ (hl.keeps HK5.out).here).mono ?_; rintro e w6 ⟨rfl, hk6⟩
  have hx := heap_alloc_lt (o := .cells #[.int .u8 pf, .int .u8 po, .int .u8 pk, .int .u16 pa, .int .u16 pb] 27) (hk6.heap HX5.out (by simp))
  have hy := heap_alloc_lt (o := .cells #[.int .u8 pf, .int .u8 po, .int .u8 pk, .int .u16 pa, .int .u16 pb] 27) (hk6.heap HY5.out (by simp))
  have hp := heap_alloc_lt (o := .cells #[.int .u8 pf, .int .u8 po, .int .u8 pk, .int .u16 pa, .int .u16 pb] 27) (hk6.heap HP5.out (by simp))
  have hq := heap_alloc_new w6 (.cells #[.int .u8 pf, .int .u8 po, .int .u8 pk, .int .u16 pa, .int .u16 pb] 27)
  have hs := HS5.out.keeps (hk6.alloc (.cells #[.int .u8 pf, .int .u8 po, .int .u8 pk, .int .u16 pa, .int .u16 pb] 27))
  have hk := (HK5.out.trans hk6 (FSub.refl _ _)).alloc (.cells #[.int .u8 pf, .int .u8 po, .int .u8 pk, .int .u16 pa, .int .u16 pb] 27)
  have hsm := same4_any _ v4 (.slice a n c) l hs (hl.keeps hk)
  have HK6 := Lib.hid hk
  obtain ⟨x0, x1, x2, x3, x4, xl⟩ := cell5 hx
  obtain ⟨y0, y1, y2, y3, y4, yl⟩ := cell5 hy
  obtain ⟨p0, p1, p2, p3, p4, pl⟩ := cell5 hp
  obtain ⟨q0, q1, q2, q3, q4, ql⟩ := cell5 hq
  clear hx hy hp hq hs hk hk6 HX5 HY5 HP5 HS5 HK5 hrp
  go_wp2_with fail
  generalize w6.alloc (.cells #[.int .u8 pf, .int .u8 po, .int .u8 pk, .int .u16 pa, .int .u16 pb] 27) = W6 at *
  clear x0 x1 x2 x3 x4 xl y0 y1 y2 y3 y4 yl p0 p1 p2 p3 p4 pl q0 q1 q2 q3 q4 ql
  refine hsm.mono ?_; rintro e u3 ⟨rfl, hk3⟩
  have hK := HK6.out.trans hk3 (FSub.refl _ _)
  clear hsm hk3 HK6
  go_wp2_with fail
  refine (works4_true _ (hG.new hK)).mono ?_; rintro e u4 ⟨rfl, hk4⟩
  replace hK := hK.trans hk4 (FSub.refl _ _)
  go_wp2_with fail
  go_ret
  exact ⟨rfl, hK⟩
set_option maxHeartbeats 8000000 in
set_option maxRecDepth 100000 in
/-- OpReads, whatever the input. -/
theorem reads4_true (w : World) (hG : Glob4 w) (s : ByteArray) (hs : s.size ≤ maxLen) (a : Option Addr) (n c : Nat) (hz : a = none → n = 0 ∧ c = 0) (l : List (List UInt8)) (hl : Strs w.heap.size w (.slice a n c) l) (hm : ∀ j, j < l.length → (bs (l.getD j [])).size ≤ 9223372036854775807) :
    Calls Tryd.prog 3 #[.string s, .slice a n c] w fun e w' => e = .returned (.bool true) ∧ Keeps [] w w' := by
  unfold maxLen at hs
  by_cases hsz : s.size ≤ 1000
  · have hfew := fun w' (hk : Keeps [] w w') => few4_any w' (.slice a n c) l (hl.keeps hk) hm
    rcases bool_two (fewOf l) with hF | hF
    · obtain ⟨f1, f2⟩ := few_all hF
      rw [hF] at hfew
      have h := reads4_small w hG s.data.toList (by simpa using hsz) a n c l hl hz f1 f2 hfew
      rw [bs_of] at h
      exact h
    · rw [hF] at hfew
      have hfew2 := hfew _ (Keeps.refl _ _)
      have z1 : ¬ 1000 < (s.size : Int) := by omega
      clear hfew hF hl hm hz
      go_enter Tryd.func3, Tryd.ntmps3
      go_wp2_with fail
      refine hfew2.mono ?_; rintro e w1 ⟨rfl, hk1⟩
      go_wp2_with fail
      refine (works4_true _ (hG.new hk1)).mono ?_; rintro e w2 ⟨rfl, hk2⟩
      replace hk2 := hk1.trans hk2 (FSub.refl _ _)
      go_wp2_with fail
      go_ret
      exact ⟨rfl, hk2⟩
  · have z1 : 1000 < (s.size : Int) := by omega
    clear hl hm hz
    go_enter Tryd.func3, Tryd.ntmps3
    go_wp2_with fail
    refine (works4_true _ hG).mono ?_; rintro e w1 ⟨rfl, hk1⟩
    go_wp2_with fail
    go_ret
    exact ⟨rfl, hk1⟩
/-- A slice of words that can be read as data, nil among them. -/
theorem nil_words {H : Type} {enc : TypeId × Value → H} {w : World} {a : Option Addr} {len cap : Nat} {d : DataW H} {p : List MemPlace}
    (h : DataW.Trod enc Tryd.prog w 0 (fun _ => true) true 22 (.slice a len cap) d p) : a = none → len = 0 ∧ cap = 0 := by
  rintro rfl
  obtain ⟨fuel, hf⟩ := h
  simp only [Value.cells] at hf
  rcases open_strs Tryd.underlying22 Tryd.underlying9 (by kernel_rfl) hf with ⟨h0, _⟩ | ⟨x, l, c, m, Sx, hcs, _⟩
  · simpa using h0
  · simp at hcs
end Go.Proofs.YtllloahimfkmfaaDoor
