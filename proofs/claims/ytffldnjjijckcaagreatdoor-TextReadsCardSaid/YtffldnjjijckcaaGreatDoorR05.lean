/-
  What the package-level variables hold; the row of an operation's number, of the program and of the document.
-/
import Derived.Laws.ResultCell
import Derived.Test.YtffldnjjijckcaaGreatDoorR02
import Derived.Test.YtffldnjjijckcaaGreatDoorR03
import Derived.Test.YtffldnjjijckcaaGreatDoorR04
set_option linter.unusedSimpArgs false
set_option linter.unusedVariables false
namespace Go.Proofs.YtffldnjjijckcaaGreatDoor
open Go.RowKit
def kindCells : Array Value := #[
  .int .u8 0, .string ⟨#[]⟩, .bool false, .bool false, .bool false,
  .int .u8 0, .string ⟨#[114, 101, 97, 100]⟩, .bool false, .bool false, .bool false,
  .int .u8 0, .string ⟨#[119, 114, 105, 116, 101]⟩, .bool false, .bool true, .bool false,
  .int .u8 0, .string ⟨#[99, 97, 115]⟩, .bool false, .bool true, .bool true,
  .int .u8 1, .string ⟨#[101, 110, 113]⟩, .bool false, .bool true, .bool false,
  .int .u8 1, .string ⟨#[100, 101, 113]⟩, .bool false, .bool false, .bool false,
  .int .u8 2, .string ⟨#[103, 101, 116]⟩, .bool true, .bool false, .bool false,
  .int .u8 2, .string ⟨#[112, 117, 116]⟩, .bool true, .bool true, .bool false,
  .int .u8 2, .string ⟨#[100, 101, 108]⟩, .bool true, .bool false, .bool false,
  .int .u8 2, .string ⟨#[115, 119, 97, 112]⟩, .bool true, .bool true, .bool true,
  .int .u8 3, .string ⟨#[97, 99, 113, 117, 105, 114, 101]⟩, .bool false, .bool false, .bool false,
  .int .u8 3, .string ⟨#[114, 101, 108, 101, 97, 115, 101]⟩, .bool false, .bool false, .bool false]
theorem glob4_pow10 : Tryz.prog.globalNamed "internal/strconv.uint64pow10" = some 6 := by kernel_rfl
theorem glob4_syn : Tryz.prog.globalNamed "strconv.ErrSyntax" = some 7 := by kernel_rfl
theorem glob4_ran : Tryz.prog.globalNamed "strconv.ErrRange" = some 8 := by kernel_rfl
/-- The package-level variables hold what start-up lays. -/
structure Glob4 (w : World) : Prop where
  kinds : ∃ t fr, w.heap[1]? = some (.cells kindCells t fr)
  tab : Lib.TabIs Tryz.prog w "internal/strconv.uint64pow10" .u64 Lib.pow10Tab
  syn : ∃ tp p, w.var? Tryz.prog "strconv.ErrSyntax" = some #[.iface tp p]
  ran : ∃ tp p, w.var? Tryz.prog "strconv.ErrRange" = some #[.iface tp p]
  ml : ∃ m, w.cell? ⟨3, 0, none⟩ = some (.int .i64 m)
theorem Glob4.new {w w' : World} (h : Glob4 w) (hk : Keeps [] w w') : Glob4 w' := by
  obtain ⟨⟨t, fr, hw⟩, ht, ⟨t1, p1, h1⟩, ⟨t2, p2, h2⟩, ⟨m, hm⟩⟩ := h
  exact ⟨⟨t, fr, hk.heap hw (by simp)⟩, var_keeps glob4_pow10 ht hk (by simp), ⟨t1, p1, var_keeps glob4_syn h1 hk (by simp)⟩, ⟨t2, p2, var_keeps glob4_ran h2 hk (by simp)⟩, ⟨m, hk.cell hm (by simp)⟩⟩
theorem Glob4.kind {w : World} (h : Glob4 w) (i : Nat) (v : Value) (hv : kindCells[i]? = some v) : w.cell? ⟨1, i, none⟩ = some v := by
  obtain ⟨t, fr, hw⟩ := h.kinds
  simp [World.cell?, hw, hv]
/-- A row of the table, by its number. -/
theorem Glob4.row {w : World} (h : Glob4 w) (f : Nat) (hf : f < 12) : w.cell? ⟨1, f * 5, none⟩ = some (.int .u8 (opM f)) ∧ w.cell? ⟨1, f * 5 + 1, none⟩ = some (.string (bs (opNm f))) ∧
    w.cell? ⟨1, f * 5 + 2, none⟩ = some (.bool (opK f)) ∧ w.cell? ⟨1, f * 5 + 3, none⟩ = some (.bool (opA f)) ∧ w.cell? ⟨1, f * 5 + 4, none⟩ = some (.bool (opB f)) := by
  rcases (by omega : f = 0 ∨ f = 1 ∨ f = 2 ∨ f = 3 ∨ f = 4 ∨ f = 5 ∨ f = 6 ∨ f = 7 ∨ f = 8 ∨ f = 9 ∨ f = 10 ∨ f = 11) with rfl | rfl | rfl | rfl | rfl | rfl | rfl | rfl | rfl | rfl | rfl | rfl
  all_goals exact ⟨h.kind _ _ rfl, h.kind _ _ rfl, h.kind _ _ rfl, h.kind _ _ rfl, h.kind _ _ rfl⟩
theorem op_none {f : Int} (_h0 : 0 ≤ f) (h : ¬ f < 12) : opIs f = false ∧ opM f = 0 ∧ opNm f = [] ∧ opK f = false ∧ opA f = false ∧ opB f = false := by
  have e : opIs f = false := by simp [opIs]; omega
  refine ⟨e, ?_, ?_, by simp [opK]; omega, by simp [opA]; omega, by simp [opB]; omega⟩
  · unfold opM; rw [if_neg (by omega), if_neg (by omega), if_neg (by omega)]
  · unfold opNm; rw [if_neg (by omega), if_neg (by omega), if_neg (by omega), if_neg (by omega), if_neg (by omega), if_neg (by omega), if_neg (by omega), if_neg (by omega), if_neg (by omega), if_neg (by omega), if_neg (by omega)]
theorem nm_empty {f : Int} (h0 : 0 ≤ f) (h : f < 12) : (opNm f != []) = opIs f := by
  rcases (by omega : f = 0 ∨ f = 1 ∨ f = 2 ∨ f = 3 ∨ f = 4 ∨ f = 5 ∨ f = 6 ∨ f = 7 ∨ f = 8 ∨ f = 9 ∨ f = 10 ∨ f = 11) with rfl | rfl | rfl | rfl | rfl | rfl | rfl | rfl | rfl | rfl | rfl | rfl <;> decide
set_option maxRecDepth 100000 in
theorem results_kind2 {fn : Func} {p u : Tmp} (h : fn.results = #[.cell p 144, .tmp u]) (tmps : Array Value) (w : World) (b : Nat) {x0 x1 x2 x3 x4 : Value} {t : TypeId}
    (hp : tmps.getD p undef = .pointer (some ⟨b, 0, none⟩)) (hb : w.heap[b]? = some (.cells #[x0, x1, x2, x3, x4] t (0, 0))) : (results fn tmps).run Tryz.prog w = .ok (.tuple #[.agg #[x0, x1, x2, x3, x4], tmps.getD u undef]) w := by
  have h1 : (loadVar 144 ⟨b, 0, none⟩).run Tryz.prog w = .ok (.agg #[x0, x1, x2, x3, x4]) w := run_loadVar_row w b t 144 _ _ _ hb Tryz.underlying144 rfl (by kernel_rfl)
  rw [results_cell_tmp h, hp]
  simp [asAddr, h1, Result.andThen]
set_option maxHeartbeats 1000000 in
theorem find_any (w : World) (hG : Glob4 w) (f : Int) (h0 : 0 ≤ f) (h1 : f < 256) : Calls Tryz.prog 152 #[.int .u8 f] w fun e w' =>
    e = .returned (.tuple #[.agg #[.int .u8 (opM f), .string (bs (opNm f)), .bool (opK f), .bool (opA f), .bool (opB f)], .bool (opIs f)]) ∧ Keeps [] w w' := by
  by_cases hf : f < 12
  · obtain ⟨f, rfl⟩ := Int.eq_ofNat_of_zero_le h0
    have hnm : (!(bs (opNm f)).toList.isEmpty) = opIs f := by rw [toL_bs, ← nm_empty h0 hf]; cases opNm f <;> rfl
    have h12 : ¬ (12 : Int) ≤ f := by omega
    have hrow := fun (w : World) (hG : Glob4 w) => hG.row f (by omega)
    rw [← hnm]
    clear hnm
    generalize opM f = M at *
    generalize opNm f = NM at *
    generalize opK f = K at *
    generalize opA f = A at *
    generalize opB f = BB at *
    go_enter Tryz.func152, Tryz.ntmps152
    go_wp2_with fail
    have hk := (Keeps.refl [] w).alloc (.cells #[.int .u8 0, .string ⟨#[]⟩, .bool false, .bool false, .bool false] 144)
    have hb := heap_alloc_new w (.cells #[.int .u8 0, .string ⟨#[]⟩, .bool false, .bool false, .bool false] 144)
    obtain ⟨c0, c1, c2, c3, c4⟩ := hrow _ (hG.new hk)
    have hz : 1 < w.heap.size := by obtain ⟨t, fr, h⟩ := hG.kinds; exact lt_of_block h
    generalize w.alloc (.cells #[.int .u8 0, .string ⟨#[]⟩, .bool false, .bool false, .bool false] 144) = w1 at *
    obtain ⟨d0, d1, d2, d3, d4, dl⟩ := cell5 hb
    obtain ⟨e0, e1, e2, e3, e4⟩ := thaw5 hb
    have hr := put5 hb (.int .u8 M) (.string (bs NM)) (.bool K) (.bool A) (.bool BB)
    have hk2 := hk.set5 (b := w.heap.size) (.inr (Nat.le_refl _)) (.int .u8 M) (.string (bs NM)) (.bool K) (.bool A) (.bool BB)
    have HR := Lib.hid hr; have HK := Lib.hid hk2; clear hr hk2 hb hk hrow
    generalize w.heap.size = B at *
    go_region
    go_wp2_with fail
    try simp only [Exit.inBlock, Exit.then]
    exact bodyPost_ret (results_kind2 rfl _ _ _ rfl (heap_drew HR.out)) rfl ⟨rfl, HK.out.drew⟩
  · obtain ⟨h2, h3, h4, h5, h6, h7⟩ := op_none h0 hf
    rw [h2, h3, h4, h5, h6, h7]
    have h12 : (12 : Int) ≤ f := by omega
    have hb := heap_alloc_new w (.cells #[.int .u8 0, .string ⟨#[]⟩, .bool false, .bool false, .bool false] 144)
    have hk := (Keeps.refl [] w).alloc (.cells #[.int .u8 0, .string ⟨#[]⟩, .bool false, .bool false, .bool false] 144)
    go_enter Tryz.func152, Tryz.ntmps152
    go_wp2_with fail
    try simp only [Exit.inBlock, Exit.then]
    exact bodyPost_ret (results_kind2 rfl _ _ _ rfl hb) rfl ⟨rfl, hk⟩
end Go.Proofs.YtffldnjjijckcaaGreatDoor
/-
  The row of an operation's number, of the document.
-/
namespace Go.Proofs.YtffldnjjijckcaaGreatDoor
open Go.RowKit
set_option maxRecDepth 100000 in
theorem results_row42 {fn : Func} {p u : Tmp} (h : fn.results = #[.cell p 116, .tmp u]) (tmps : Array Value) (w : World) (b : Nat) {x0 x1 x2 x3 x4 : Value} {t : TypeId}
    (hp : tmps.getD p undef = .pointer (some ⟨b, 0, none⟩)) (hb : w.heap[b]? = some (.cells #[x0, x1, x2, x3, x4] t (0, 0))) : (results fn tmps).run Tryz.prog w = .ok (.tuple #[.agg #[x0, x1, x2, x3, x4], tmps.getD u undef]) w := by
  have h1 : (loadVar 116 ⟨b, 0, none⟩).run Tryz.prog w = .ok (.agg #[x0, x1, x2, x3, x4]) w := run_loadVar_row w b t 116 _ _ _ hb Tryz.underlying116 rfl (by kernel_rfl)
  rw [results_cell_tmp h, hp]
  simp [asAddr, h1, Result.andThen]
set_option maxHeartbeats 4000000 in
theorem Of_any (w : World) (f : Int) (h0 : 0 ≤ f) (h1 : f < 256) : Calls Tryz.prog 62 #[.int .u8 f] w fun e w' =>
    e = .returned (.tuple #[.agg #[.int .i64 (opM f), .string (bs (opNm f)), .bool (opK f), .bool (opA f), .bool (opB f)], .bool (opIs f)]) ∧ Keeps [] w w' := by
  by_cases hf : opIs f = true
  · rcases is_cases hf with rfl | rfl | rfl | rfl | rfl | rfl | rfl | rfl | rfl | rfl | rfl
    all_goals
      go_enter Tryz.func62, Tryz.ntmps62
      go_wp2_with fail
      exact bodyPost_ret (results_row42 rfl _ _ _ rfl (heap_alloc_new w _)) rfl ⟨rfl, (Keeps.refl _ _).alloc _⟩
  · have hf2 : opIs f = false := by simpa using hf
    have hfz : f = 0 ∨ ¬ f < 12 := by simp [opIs] at hf2; omega
    have h2 : opM f = 0 ∧ opNm f = [] ∧ opK f = false ∧ opA f = false ∧ opB f = false := by
      rcases hfz with rfl | h
      · exact ⟨rfl, rfl, rfl, rfl, rfl⟩
      · exact (op_none h0 h).2
    obtain ⟨e1, e2, e3, e4, e5⟩ := h2
    rw [hf2, e1, e2, e3, e4, e5]
    have q1 : (f == 1) = false := by simp; omega
    have q2 : (f == 2) = false := by simp; omega
    have q3 : (f == 3) = false := by simp; omega
    have q4 : (f == 4) = false := by simp; omega
    have q5 : (f == 5) = false := by simp; omega
    have q6 : (f == 6) = false := by simp; omega
    have q7 : (f == 7) = false := by simp; omega
    have q8 : (f == 8) = false := by simp; omega
    have q9 : (f == 9) = false := by simp; omega
    have q10 : (f == 10) = false := by simp; omega
    have q11 : (f == 11) = false := by simp; omega
    go_enter Tryz.func62, Tryz.ntmps62
    go_wp2_with fail
    exact bodyPost_ret (results_row42 rfl _ _ _ rfl (heap_alloc_new w _)) rfl ⟨rfl, (Keeps.refl _ _).alloc _⟩
end Go.Proofs.YtffldnjjijckcaaGreatDoor
/-
  Is an operation valid? The program's and the document's answer.
-/
namespace Go.Proofs.YtffldnjjijckcaaGreatDoor
open Go.RowKit
/-- The ways in which an operation is, or is not, valid. -/
theorem good_ways (f o k a b : Int) (P : Prop)
    (h1 : opIs f = false → opGood ⟨f, o, k, a, b⟩ = false → P)
    (h2 : opIs f = true → ¬ o < 8 → opGood ⟨f, o, k, a, b⟩ = false → P)
    (h3 : opIs f = true → o < 8 → ¬ k < 8 → opGood ⟨f, o, k, a, b⟩ = false → P)
    (h4 : opIs f = true → o < 8 → k < 8 → opK f = false → (k == 0) = false → opGood ⟨f, o, k, a, b⟩ = false → P)
    (h5 : opIs f = true → o < 8 → k < 8 → (opK f = true ∨ (opK f = false ∧ (k == 0) = true)) → opA f = false → (a == 0) = false → opGood ⟨f, o, k, a, b⟩ = false → P)
    (h6 : opIs f = true → o < 8 → k < 8 → (opK f = true ∨ (opK f = false ∧ (k == 0) = true)) → (opA f = true ∨ (opA f = false ∧ (a == 0) = true)) → opB f = false → (b == 0) = false → opGood ⟨f, o, k, a, b⟩ = false → P)
    (h7 : opIs f = true → o < 8 → k < 8 → (opK f = true ∨ (opK f = false ∧ (k == 0) = true)) → (opA f = true ∨ (opA f = false ∧ (a == 0) = true)) → (opB f = true ∨ (opB f = false ∧ (b == 0) = true)) → opGood ⟨f, o, k, a, b⟩ = true → P) : P := by
  rcases bool_two (opIs f) with i1 | i1
  · by_cases i2 : o < 8
    · by_cases i3 : k < 8
      · have part : ∀ (K : Bool) (x : Int), (K = true ∨ (K = false ∧ (x == 0) = true)) ∨ (K = false ∧ (x == 0) = false) := fun K x => by
          rcases bool_two K with h | h <;> rcases bool_two (x == 0) with h' | h' <;> simp [h, h']
        rcases part (opK f) k with i4 | ⟨i4, i4'⟩
        · rcases part (opA f) a with i5 | ⟨i5, i5'⟩
          · rcases part (opB f) b with i6 | ⟨i6, i6'⟩
            · refine h7 i1 i2 i3 i4 i5 i6 ?_
              rw [good_iff]
              refine ⟨i1, i2, i3, ?_, ?_, ?_⟩
              · rcases i4 with h | ⟨_, h⟩; exact .inl h; exact .inr (by simpa using h)
              · rcases i5 with h | ⟨_, h⟩; exact .inl h; exact .inr (by simpa using h)
              · rcases i6 with h | ⟨_, h⟩; exact .inl h; exact .inr (by simpa using h)
            · exact h6 i1 i2 i3 i4 i5 i6 i6' (by simp [opGood, i6]; intros; simpa using i6')
          · exact h5 i1 i2 i3 i4 i5 i5' (by simp [opGood, i5]; intros; simp at i5'; omega)
        · exact h4 i1 i2 i3 i4 i4' (by simp [opGood, i4]; intros; simp at i4'; omega)
      · exact h3 i1 i2 i3 (by simp [opGood]; intros; omega)
    · exact h2 i1 i2 (by simp [opGood]; intros; omega)
  · exact h1 i1 (by simp [opGood, i1])
set_option maxHeartbeats 4000000 in
theorem valid_any (w : World) (hG : Glob4 w) (f o k a b : Int) (hx : (⟨f, o, k, a, b⟩ : Opn).In) : Calls Tryz.prog 118 #[.agg #[.int .u8 f, .int .u8 o, .int .u8 k, .int .u16 a, .int .u16 b]] w fun e w' =>
    e = .returned (.bool (opGood ⟨f, o, k, a, b⟩)) ∧ Keeps [] w w' := by
  obtain ⟨f0, f1, o0, o1, k0, k1, a0, a1, b0, b1⟩ := hx
  simp only at f0 f1 o0 o1 k0 k1 a0 a1 b0 b1
  have hc := fun w hG => find_any w hG f f0 f1
  have key : ∀ (G : Bool), opGood ⟨f, o, k, a, b⟩ = G → Calls Tryz.prog 118 #[.agg #[.int .u8 f, .int .u8 o, .int .u8 k, .int .u16 a, .int .u16 b]] w fun e w' =>
    e = .returned (.bool G) ∧ Keeps [] w w' := by
    intro G hg
    have hk0 := (Keeps.refl [] w).alloc (.cells #[.int .u8 f, .int .u8 o, .int .u8 k, .int .u16 a, .int .u16 b] 24)
    apply good_ways f o k a b
    · intro i1 hg2
      obtain rfl := hg.symm.trans hg2
      rw [i1] at hc
      clear hg hg2
      go_enter Tryz.func118, Tryz.ntmps118
      go_wp2_with fail
      refine (hc _ (hG.new hk0)).mono ?_; rintro e w1 ⟨rfl, hk1⟩
      have hb := boxed5 hk1
      replace hk1 := hk0.trans hk1 (FSub.refl _ _)
      obtain ⟨c0, c1, c2, c3, c4, cl⟩ := cell5 hb
      clear hb
      go_wp2_with fail
      go_ret
      exact ⟨rfl, hk1.alloc _⟩
    · intro i1 i2 hg2
      obtain rfl := hg.symm.trans hg2
      rw [i1] at hc
      clear hg hg2
      go_enter Tryz.func118, Tryz.ntmps118
      go_wp2_with fail
      refine (hc _ (hG.new hk0)).mono ?_; rintro e w1 ⟨rfl, hk1⟩
      have hb := boxed5 hk1
      replace hk1 := hk0.trans hk1 (FSub.refl _ _)
      obtain ⟨c0, c1, c2, c3, c4, cl⟩ := cell5 hb
      clear hb
      go_wp2_with fail
      go_ret
      exact ⟨rfl, hk1.alloc _⟩
    · intro i1 i2 i3 hg2
      obtain rfl := hg.symm.trans hg2
      rw [i1] at hc
      clear hg hg2
      go_enter Tryz.func118, Tryz.ntmps118
      go_wp2_with fail
      refine (hc _ (hG.new hk0)).mono ?_; rintro e w1 ⟨rfl, hk1⟩
      have hb := boxed5 hk1
      replace hk1 := hk0.trans hk1 (FSub.refl _ _)
      obtain ⟨c0, c1, c2, c3, c4, cl⟩ := cell5 hb
      clear hb
      go_wp2_with fail
      go_ret
      exact ⟨rfl, hk1.alloc _⟩
    · intro i1 i2 i3 i4 i4' hg2
      obtain rfl := hg.symm.trans hg2
      rw [i1, i4] at hc
      clear hg hg2
      go_enter Tryz.func118, Tryz.ntmps118
      go_wp2_with fail
      refine (hc _ (hG.new hk0)).mono ?_; rintro e w1 ⟨rfl, hk1⟩
      have hb := boxed5 hk1
      replace hk1 := hk0.trans hk1 (FSub.refl _ _)
      obtain ⟨c0, c1, c2, c3, c4, cl⟩ := cell5 hb
      clear hb
      go_wp2_with fail
      go_ret
      exact ⟨rfl, hk1.alloc _⟩
    · intro i1 i2 i3 i4 i5 i5' hg2
      obtain rfl := hg.symm.trans hg2
      clear hg hg2
      rcases i4 with i4 | ⟨i4, i4'⟩ <;> rw [i1, i4, i5] at hc
      all_goals
        go_enter Tryz.func118, Tryz.ntmps118
        go_wp2_with fail
        refine (hc _ (hG.new hk0)).mono ?_; rintro e w1 ⟨rfl, hk1⟩
        have hb := boxed5 hk1
        replace hk1 := hk0.trans hk1 (FSub.refl _ _)
        obtain ⟨c0, c1, c2, c3, c4, cl⟩ := cell5 hb
        clear hb
        go_wp2_with fail
        go_ret
        exact ⟨rfl, hk1.alloc _⟩
    · intro i1 i2 i3 i4 i5 i6 i6' hg2
      obtain rfl := hg.symm.trans hg2
      clear hg hg2
      rcases i4 with i4 | ⟨i4, i4'⟩ <;> rcases i5 with i5 | ⟨i5, i5'⟩ <;> rw [i1, i4, i5, i6] at hc
      all_goals
        go_enter Tryz.func118, Tryz.ntmps118
        go_wp2_with fail
        refine (hc _ (hG.new hk0)).mono ?_; rintro e w1 ⟨rfl, hk1⟩
        have hb := boxed5 hk1
        replace hk1 := hk0.trans hk1 (FSub.refl _ _)
        obtain ⟨c0, c1, c2, c3, c4, cl⟩ := cell5 hb
        clear hb
        go_wp2_with fail
        go_ret
        exact ⟨rfl, hk1.alloc _⟩
    · intro i1 i2 i3 i4 i5 i6 hg2
      obtain rfl := hg.symm.trans hg2
      clear hg hg2
      rcases i4 with i4 | ⟨i4, i4'⟩ <;> rcases i5 with i5 | ⟨i5, i5'⟩ <;> rcases i6 with i6 | ⟨i6, i6'⟩ <;> rw [i1, i4, i5, i6] at hc
      all_goals
        go_enter Tryz.func118, Tryz.ntmps118
        go_wp2_with fail
        refine (hc _ (hG.new hk0)).mono ?_; rintro e w1 ⟨rfl, hk1⟩
        have hb := boxed5 hk1
        replace hk1 := hk0.trans hk1 (FSub.refl _ _)
        obtain ⟨c0, c1, c2, c3, c4, cl⟩ := cell5 hb
        clear hb
        go_wp2_with fail
        go_ret
        exact ⟨rfl, hk1.alloc _⟩
  exact key _ rfl
set_option maxHeartbeats 4000000 in
theorem May_any (w : World) (f o k a b : Int) (hx : (⟨f, o, k, a, b⟩ : Opn).In) : Calls Tryz.prog 60 #[.agg #[.int .u8 f, .int .u8 o, .int .u8 k, .int .u16 a, .int .u16 b]] w fun e w' =>
    e = .returned (.bool (opGood ⟨f, o, k, a, b⟩)) ∧ Keeps [] w w' := by
  obtain ⟨f0, f1, o0, o1, k0, k1, a0, a1, b0, b1⟩ := hx
  simp only at f0 f1 o0 o1 k0 k1 a0 a1 b0 b1
  have hc := fun w => Of_any w f f0 f1
  have key : ∀ (G : Bool), opGood ⟨f, o, k, a, b⟩ = G → Calls Tryz.prog 60 #[.agg #[.int .u8 f, .int .u8 o, .int .u8 k, .int .u16 a, .int .u16 b]] w fun e w' =>
    e = .returned (.bool G) ∧ Keeps [] w w' := by
    intro G hg
    have hk0 := (Keeps.refl [] w).alloc (.cells #[.int .u8 f, .int .u8 o, .int .u8 k, .int .u16 a, .int .u16 b] 24)
    apply good_ways f o k a b
    · intro i1 hg2
      obtain rfl := hg.symm.trans hg2
      rw [i1] at hc
      clear hg hg2
      go_enter Tryz.func60, Tryz.ntmps60
      go_wp2_with fail
      refine (hc _).mono ?_; rintro e w1 ⟨rfl, hk1⟩
      have hb := boxed5 hk1
      replace hk1 := hk0.trans hk1 (FSub.refl _ _)
      obtain ⟨c0, c1, c2, c3, c4, cl⟩ := cell5 hb
      clear hb
      go_wp2_with fail
      go_ret
      exact ⟨rfl, hk1.alloc _⟩
    · intro i1 i2 hg2
      obtain rfl := hg.symm.trans hg2
      rw [i1] at hc
      clear hg hg2
      have j2 : ¬ o ≤ 7 := by omega
      go_enter Tryz.func60, Tryz.ntmps60
      go_wp2_with fail
      refine (hc _).mono ?_; rintro e w1 ⟨rfl, hk1⟩
      have hb := boxed5 hk1
      replace hk1 := hk0.trans hk1 (FSub.refl _ _)
      obtain ⟨c0, c1, c2, c3, c4, cl⟩ := cell5 hb
      clear hb
      go_wp2_with fail
      go_ret
      exact ⟨rfl, hk1.alloc _⟩
    · intro i1 i2 i3 hg2
      obtain rfl := hg.symm.trans hg2
      rw [i1] at hc
      clear hg hg2
      have j2 : o ≤ 7 := by omega
      have j3 : ¬ k ≤ 7 := by omega
      go_enter Tryz.func60, Tryz.ntmps60
      go_wp2_with fail
      refine (hc _).mono ?_; rintro e w1 ⟨rfl, hk1⟩
      have hb := boxed5 hk1
      replace hk1 := hk0.trans hk1 (FSub.refl _ _)
      obtain ⟨c0, c1, c2, c3, c4, cl⟩ := cell5 hb
      clear hb
      go_wp2_with fail
      go_ret
      exact ⟨rfl, hk1.alloc _⟩
    · intro i1 i2 i3 i4 i4' hg2
      obtain rfl := hg.symm.trans hg2
      rw [i1, i4] at hc
      clear hg hg2
      have j2 : o ≤ 7 := by omega
      have j3 : k ≤ 7 := by omega
      go_enter Tryz.func60, Tryz.ntmps60
      go_wp2_with fail
      refine (hc _).mono ?_; rintro e w1 ⟨rfl, hk1⟩
      have hb := boxed5 hk1
      replace hk1 := hk0.trans hk1 (FSub.refl _ _)
      obtain ⟨c0, c1, c2, c3, c4, cl⟩ := cell5 hb
      clear hb
      go_wp2_with fail
      go_ret
      exact ⟨rfl, hk1.alloc _⟩
    · intro i1 i2 i3 i4 i5 i5' hg2
      obtain rfl := hg.symm.trans hg2
      clear hg hg2
      have j2 : o ≤ 7 := by omega
      have j3 : k ≤ 7 := by omega
      rcases i4 with i4 | ⟨i4, i4'⟩ <;> rw [i1, i4, i5] at hc
      all_goals
        go_enter Tryz.func60, Tryz.ntmps60
        go_wp2_with fail
        refine (hc _).mono ?_; rintro e w1 ⟨rfl, hk1⟩
        have hb := boxed5 hk1
        replace hk1 := hk0.trans hk1 (FSub.refl _ _)
        obtain ⟨c0, c1, c2, c3, c4, cl⟩ := cell5 hb
        clear hb
        go_wp2_with fail
        go_ret
        exact ⟨rfl, hk1.alloc _⟩
    · intro i1 i2 i3 i4 i5 i6 i6' hg2
      obtain rfl := hg.symm.trans hg2
      clear hg hg2
      have j2 : o ≤ 7 := by omega
      have j3 : k ≤ 7 := by omega
      rcases i4 with i4 | ⟨i4, i4'⟩ <;> rcases i5 with i5 | ⟨i5, i5'⟩ <;> rw [i1, i4, i5, i6] at hc
      all_goals
        go_enter Tryz.func60, Tryz.ntmps60
        go_wp2_with fail
        refine (hc _).mono ?_; rintro e w1 ⟨rfl, hk1⟩
        have hb := boxed5 hk1
        replace hk1 := hk0.trans hk1 (FSub.refl _ _)
        obtain ⟨c0, c1, c2, c3, c4, cl⟩ := cell5 hb
        clear hb
        go_wp2_with fail
        go_ret
        exact ⟨rfl, hk1.alloc _⟩
    · intro i1 i2 i3 i4 i5 i6 hg2
      obtain rfl := hg.symm.trans hg2
      clear hg hg2
      have j2 : o ≤ 7 := by omega
      have j3 : k ≤ 7 := by omega
      rcases i4 with i4 | ⟨i4, i4'⟩ <;> rcases i5 with i5 | ⟨i5, i5'⟩ <;> rcases i6 with i6 | ⟨i6, i6'⟩ <;> rw [i1, i4, i5, i6] at hc
      all_goals
        go_enter Tryz.func60, Tryz.ntmps60
        go_wp2_with fail
        refine (hc _).mono ?_; rintro e w1 ⟨rfl, hk1⟩
        have hb := boxed5 hk1
        replace hk1 := hk0.trans hk1 (FSub.refl _ _)
        obtain ⟨c0, c1, c2, c3, c4, cl⟩ := cell5 hb
        clear hb
        go_wp2_with fail
        go_ret
        exact ⟨rfl, hk1.alloc _⟩
  exact key _ rfl
end Go.Proofs.YtffldnjjijckcaaGreatDoor
/-
  The program's Put.
-/
namespace Go.Proofs.YtffldnjjijckcaaGreatDoor
open Go.RowKit
set_option maxHeartbeats 4000000 in
set_option maxRecDepth 100000 in
theorem opPut_000 (w : World) (hG : Glob4 w) (f : Nat) (hf : f < 12) (o k a b : Int) (hx : (⟨f, o, k, a, b⟩ : Opn).In) (hg : opGood ⟨f, o, k, a, b⟩ = true) (hK : opK f = false) (hA : opA f = false) (hB : opB f = false) :
    Calls Tryz.prog 140 #[.agg #[.int .u8 f, .int .u8 o, .int .u8 k, .int .u16 a, .int .u16 b]] w fun e w' =>
    e = .returned (.tuple #[.string (strOfNums ([(f : Int), o])), .int .i64 0]) ∧ Keeps [] w w' := by
  have hv := fun w hG => valid_any w hG f o k a b hx
  rw [hg] at hv
  have hrow := fun (w : World) (hG : Glob4 w) => hG.row f hf
  rw [hK, hA, hB] at hrow
  obtain ⟨f0, f1, o0, o1, k0, k1, a0, a1, b0, b1⟩ := hx
  simp only at f0 f1 o0 o1 k0 k1 a0 a1 b0 b1
  clear hK hA hB hg
  generalize opM f = M at *
  generalize bs (opNm f) = NM at *
  obtain ⟨i0, hi, hz0, hz1, hz2⟩ := info_parts Tryz.info8
  have hk0 := (Keeps.refl [] w).alloc (.cells #[.int .u8 f, .int .u8 o, .int .u8 k, .int .u16 a, .int .u16 b] 24)
  generalize hS : strOfNums ([(f : Int), o]) = S at *
  have HS := Lib.hid hS; clear hS
  go_enter Tryz.func140, Tryz.ntmps140
  go_wp2_with fail
  refine (hv _ (hG.new hk0)).mono ?_; rintro e w1 ⟨rfl, hk1⟩
  have hb := boxed5 hk1
  replace hk1 := hk0.trans hk1 (FSub.refl _ _)
  obtain ⟨c0, c1, c2, c3, c4, cl⟩ := cell5 hb
  obtain ⟨r0, r1, r2, r3, r4⟩ := hrow _ (hG.new hk1)
  have HP := Lib.hid (PAt.begin2 (e := 5) (qb := .cells #[.int .u8 M, .string NM, .bool false, .bool false, .bool false] 144) hb hk1 (.int .u8 f) (.int .u8 o))
  clear hrow hv hk0 hb hk1
  have hcv := row_text (xs := [(f : Int), o]) HP.out.row
  rw [HS.out] at hcv
  go_wp2_with fail
  go_ret2
  exact ⟨rfl, HP.out.keeps⟩
set_option maxHeartbeats 4000000 in
set_option maxRecDepth 100000 in
theorem opPut_010 (w : World) (hG : Glob4 w) (f : Nat) (hf : f < 12) (o k a b : Int) (hx : (⟨f, o, k, a, b⟩ : Opn).In) (hg : opGood ⟨f, o, k, a, b⟩ = true) (hK : opK f = false) (hA : opA f = true) (hB : opB f = false) :
    Calls Tryz.prog 140 #[.agg #[.int .u8 f, .int .u8 o, .int .u8 k, .int .u16 a, .int .u16 b]] w fun e w' =>
    e = .returned (.tuple #[.string (strOfNums ([(f : Int), o] ++ [a / 256, a % 256])), .int .i64 0]) ∧ Keeps [] w w' := by
  have hv := fun w hG => valid_any w hG f o k a b hx
  rw [hg] at hv
  have hrow := fun (w : World) (hG : Glob4 w) => hG.row f hf
  rw [hK, hA, hB] at hrow
  obtain ⟨f0, f1, o0, o1, k0, k1, a0, a1, b0, b1⟩ := hx
  simp only at f0 f1 o0 o1 k0 k1 a0 a1 b0 b1
  clear hK hA hB hg
  generalize opM f = M at *
  generalize bs (opNm f) = NM at *
  obtain ⟨i0, hi, hz0, hz1, hz2⟩ := info_parts Tryz.info8
  have hk0 := (Keeps.refl [] w).alloc (.cells #[.int .u8 f, .int .u8 o, .int .u8 k, .int .u16 a, .int .u16 b] 24)
  generalize hS : strOfNums ([(f : Int), o] ++ [a / 256, a % 256]) = S at *
  have HS := Lib.hid hS; clear hS
  go_enter Tryz.func140, Tryz.ntmps140
  go_wp2_with fail
  refine (hv _ (hG.new hk0)).mono ?_; rintro e w1 ⟨rfl, hk1⟩
  have hb := boxed5 hk1
  replace hk1 := hk0.trans hk1 (FSub.refl _ _)
  obtain ⟨c0, c1, c2, c3, c4, cl⟩ := cell5 hb
  obtain ⟨r0, r1, r2, r3, r4⟩ := hrow _ (hG.new hk1)
  have HP := Lib.hid (PAt.begin2 (e := 5) (qb := .cells #[.int .u8 M, .string NM, .bool false, .bool true, .bool false] 144) hb hk1 (.int .u8 f) (.int .u8 o))
  clear hrow hv hk0 hb hk1
  go_wp2_with (at_builtin; refine wpList_append_sharp _ rfl _ _ 96 rfl 5 i0 (.int .u8 0) 1 Tryz.underlying96 hi hz0 hz1 hz2 rfl _ 2 [.int .u8 f, .int .u8 o] rfl (HP.out.row.alloc _) ⟨_, 0, none⟩ 2 2 [.int .u8 (a / 256), .int .u8 (a % 256)] rfl rfl ?c1 ?c2 ?c3 ?c4 ?_)
  case c1 => exact two_at (by simp) _ _ _
  case c2 => intro u hu; simp at hu; first | (subst hu; rfl) | (rcases hu with rfl | rfl <;> rfl)
  case c3 => unfold maxLen; omega
  case c4 => omega
  intro v1 w2 ho1 hq1 hs1 hn1
  replace HP := Lib.hid (HP.out.step2 hq1 ho1 hs1 (by simp))
  clear ho1 hq1 hs1 hn1
  obtain ⟨c0, c1, c2, c3, c4, cl⟩ := cell5 HP.out.xb
  obtain ⟨q0, q1, q2, q3, q4, ql⟩ := cell5 HP.out.qb
  have hcv := row_text (xs := [(f : Int), o] ++ [a / 256, a % 256]) HP.out.row
  rw [HS.out] at hcv
  go_wp2_with fail
  go_ret2
  exact ⟨rfl, HP.out.keeps⟩
set_option maxHeartbeats 4000000 in
set_option maxRecDepth 100000 in
theorem opPut_011 (w : World) (hG : Glob4 w) (f : Nat) (hf : f < 12) (o k a b : Int) (hx : (⟨f, o, k, a, b⟩ : Opn).In) (hg : opGood ⟨f, o, k, a, b⟩ = true) (hK : opK f = false) (hA : opA f = true) (hB : opB f = true) :
    Calls Tryz.prog 140 #[.agg #[.int .u8 f, .int .u8 o, .int .u8 k, .int .u16 a, .int .u16 b]] w fun e w' =>
    e = .returned (.tuple #[.string (strOfNums ([(f : Int), o] ++ [a / 256, a % 256] ++ [b / 256, b % 256])), .int .i64 0]) ∧ Keeps [] w w' := by
  have hv := fun w hG => valid_any w hG f o k a b hx
  rw [hg] at hv
  have hrow := fun (w : World) (hG : Glob4 w) => hG.row f hf
  rw [hK, hA, hB] at hrow
  obtain ⟨f0, f1, o0, o1, k0, k1, a0, a1, b0, b1⟩ := hx
  simp only at f0 f1 o0 o1 k0 k1 a0 a1 b0 b1
  clear hK hA hB hg
  generalize opM f = M at *
  generalize bs (opNm f) = NM at *
  obtain ⟨i0, hi, hz0, hz1, hz2⟩ := info_parts Tryz.info8
  have hk0 := (Keeps.refl [] w).alloc (.cells #[.int .u8 f, .int .u8 o, .int .u8 k, .int .u16 a, .int .u16 b] 24)
  generalize hS : strOfNums ([(f : Int), o] ++ [a / 256, a % 256] ++ [b / 256, b % 256]) = S at *
  have HS := Lib.hid hS; clear hS
  go_enter Tryz.func140, Tryz.ntmps140
  go_wp2_with fail
  refine (hv _ (hG.new hk0)).mono ?_; rintro e w1 ⟨rfl, hk1⟩
  have hb := boxed5 hk1
  replace hk1 := hk0.trans hk1 (FSub.refl _ _)
  obtain ⟨c0, c1, c2, c3, c4, cl⟩ := cell5 hb
  obtain ⟨r0, r1, r2, r3, r4⟩ := hrow _ (hG.new hk1)
  have HP := Lib.hid (PAt.begin2 (e := 5) (qb := .cells #[.int .u8 M, .string NM, .bool false, .bool true, .bool true] 144) hb hk1 (.int .u8 f) (.int .u8 o))
  clear hrow hv hk0 hb hk1
  go_wp2_with (at_builtin; refine wpList_append_sharp _ rfl _ _ 96 rfl 5 i0 (.int .u8 0) 1 Tryz.underlying96 hi hz0 hz1 hz2 rfl _ 2 [.int .u8 f, .int .u8 o] rfl (HP.out.row.alloc _) ⟨_, 0, none⟩ 2 2 [.int .u8 (a / 256), .int .u8 (a % 256)] rfl rfl ?c1 ?c2 ?c3 ?c4 ?_)
  case c1 => exact two_at (by simp) _ _ _
  case c2 => intro u hu; simp at hu; first | (subst hu; rfl) | (rcases hu with rfl | rfl <;> rfl)
  case c3 => unfold maxLen; omega
  case c4 => omega
  intro v1 w2 ho1 hq1 hs1 hn1
  replace HP := Lib.hid (HP.out.step2 hq1 ho1 hs1 (by simp))
  clear ho1 hq1 hs1 hn1
  obtain ⟨c0, c1, c2, c3, c4, cl⟩ := cell5 HP.out.xb
  obtain ⟨q0, q1, q2, q3, q4, ql⟩ := cell5 HP.out.qb
  go_wp2_with (at_builtin; refine wpList_append_sharp _ rfl _ _ 96 rfl 5 i0 (.int .u8 0) 1 Tryz.underlying96 hi hz0 hz1 hz2 rfl _ 4 [.int .u8 f, .int .u8 o, .int .u8 (a / 256), .int .u8 (a % 256)] rfl (HP.out.row.alloc _) ⟨_, 0, none⟩ 2 2 [.int .u8 (b / 256), .int .u8 (b % 256)] rfl rfl ?c1 ?c2 ?c3 ?c4 ?_)
  case c1 => exact two_at (by simp) _ _ _
  case c2 => intro u hu; simp at hu; first | (subst hu; rfl) | (rcases hu with rfl | rfl <;> rfl)
  case c3 => unfold maxLen; omega
  case c4 => omega
  intro v2 w3 ho2 hq2 hs2 hn2
  replace HP := Lib.hid (HP.out.step2 hq2 ho2 hs2 (by simp))
  clear ho2 hq2 hs2 hn2
  obtain ⟨c0, c1, c2, c3, c4, cl⟩ := cell5 HP.out.xb
  obtain ⟨q0, q1, q2, q3, q4, ql⟩ := cell5 HP.out.qb
  have hcv := row_text (xs := [(f : Int), o] ++ [a / 256, a % 256] ++ [b / 256, b % 256]) HP.out.row
  rw [HS.out] at hcv
  go_wp2_with fail
  go_ret2
  exact ⟨rfl, HP.out.keeps⟩
set_option maxHeartbeats 4000000 in
set_option maxRecDepth 100000 in
theorem opPut_100 (w : World) (hG : Glob4 w) (f : Nat) (hf : f < 12) (o k a b : Int) (hx : (⟨f, o, k, a, b⟩ : Opn).In) (hg : opGood ⟨f, o, k, a, b⟩ = true) (hK : opK f = true) (hA : opA f = false) (hB : opB f = false) :
    Calls Tryz.prog 140 #[.agg #[.int .u8 f, .int .u8 o, .int .u8 k, .int .u16 a, .int .u16 b]] w fun e w' =>
    e = .returned (.tuple #[.string (strOfNums ([(f : Int), o] ++ [k])), .int .i64 0]) ∧ Keeps [] w w' := by
  have hv := fun w hG => valid_any w hG f o k a b hx
  rw [hg] at hv
  have hrow := fun (w : World) (hG : Glob4 w) => hG.row f hf
  rw [hK, hA, hB] at hrow
  obtain ⟨f0, f1, o0, o1, k0, k1, a0, a1, b0, b1⟩ := hx
  simp only at f0 f1 o0 o1 k0 k1 a0 a1 b0 b1
  clear hK hA hB hg
  generalize opM f = M at *
  generalize bs (opNm f) = NM at *
  obtain ⟨i0, hi, hz0, hz1, hz2⟩ := info_parts Tryz.info8
  have hk0 := (Keeps.refl [] w).alloc (.cells #[.int .u8 f, .int .u8 o, .int .u8 k, .int .u16 a, .int .u16 b] 24)
  generalize hS : strOfNums ([(f : Int), o] ++ [k]) = S at *
  have HS := Lib.hid hS; clear hS
  go_enter Tryz.func140, Tryz.ntmps140
  go_wp2_with fail
  refine (hv _ (hG.new hk0)).mono ?_; rintro e w1 ⟨rfl, hk1⟩
  have hb := boxed5 hk1
  replace hk1 := hk0.trans hk1 (FSub.refl _ _)
  obtain ⟨c0, c1, c2, c3, c4, cl⟩ := cell5 hb
  obtain ⟨r0, r1, r2, r3, r4⟩ := hrow _ (hG.new hk1)
  have HP := Lib.hid (PAt.begin2 (e := 5) (qb := .cells #[.int .u8 M, .string NM, .bool true, .bool false, .bool false] 144) hb hk1 (.int .u8 f) (.int .u8 o))
  clear hrow hv hk0 hb hk1
  go_wp2_with (at_builtin; refine wpList_append_sharp _ rfl _ _ 96 rfl 5 i0 (.int .u8 0) 1 Tryz.underlying96 hi hz0 hz1 hz2 rfl _ 2 [.int .u8 f, .int .u8 o] rfl (HP.out.row.alloc _) ⟨_, 0, none⟩ 1 1 [.int .u8 k] rfl rfl ?c1 ?c2 ?c3 ?c4 ?_)
  case c1 => exact one_at (by simp) _ _
  case c2 => intro u hu; simp at hu; first | (subst hu; rfl) | (rcases hu with rfl | rfl <;> rfl)
  case c3 => unfold maxLen; omega
  case c4 => omega
  intro v1 w2 ho1 hq1 hs1 hn1
  replace HP := Lib.hid (HP.out.step2 hq1 ho1 hs1 (by simp))
  clear ho1 hq1 hs1 hn1
  obtain ⟨c0, c1, c2, c3, c4, cl⟩ := cell5 HP.out.xb
  obtain ⟨q0, q1, q2, q3, q4, ql⟩ := cell5 HP.out.qb
  have hcv := row_text (xs := [(f : Int), o] ++ [k]) HP.out.row
  rw [HS.out] at hcv
  go_wp2_with fail
  go_ret2
  exact ⟨rfl, HP.out.keeps⟩
set_option maxHeartbeats 4000000 in
set_option maxRecDepth 100000 in
theorem opPut_110 (w : World) (hG : Glob4 w) (f : Nat) (hf : f < 12) (o k a b : Int) (hx : (⟨f, o, k, a, b⟩ : Opn).In) (hg : opGood ⟨f, o, k, a, b⟩ = true) (hK : opK f = true) (hA : opA f = true) (hB : opB f = false) :
    Calls Tryz.prog 140 #[.agg #[.int .u8 f, .int .u8 o, .int .u8 k, .int .u16 a, .int .u16 b]] w fun e w' =>
    e = .returned (.tuple #[.string (strOfNums ([(f : Int), o] ++ [k] ++ [a / 256, a % 256])), .int .i64 0]) ∧ Keeps [] w w' := by
  have hv := fun w hG => valid_any w hG f o k a b hx
  rw [hg] at hv
  have hrow := fun (w : World) (hG : Glob4 w) => hG.row f hf
  rw [hK, hA, hB] at hrow
  obtain ⟨f0, f1, o0, o1, k0, k1, a0, a1, b0, b1⟩ := hx
  simp only at f0 f1 o0 o1 k0 k1 a0 a1 b0 b1
  clear hK hA hB hg
  generalize opM f = M at *
  generalize bs (opNm f) = NM at *
  obtain ⟨i0, hi, hz0, hz1, hz2⟩ := info_parts Tryz.info8
  have hk0 := (Keeps.refl [] w).alloc (.cells #[.int .u8 f, .int .u8 o, .int .u8 k, .int .u16 a, .int .u16 b] 24)
  generalize hS : strOfNums ([(f : Int), o] ++ [k] ++ [a / 256, a % 256]) = S at *
  have HS := Lib.hid hS; clear hS
  go_enter Tryz.func140, Tryz.ntmps140
  go_wp2_with fail
  refine (hv _ (hG.new hk0)).mono ?_; rintro e w1 ⟨rfl, hk1⟩
  have hb := boxed5 hk1
  replace hk1 := hk0.trans hk1 (FSub.refl _ _)
  obtain ⟨c0, c1, c2, c3, c4, cl⟩ := cell5 hb
  obtain ⟨r0, r1, r2, r3, r4⟩ := hrow _ (hG.new hk1)
  have HP := Lib.hid (PAt.begin2 (e := 5) (qb := .cells #[.int .u8 M, .string NM, .bool true, .bool true, .bool false] 144) hb hk1 (.int .u8 f) (.int .u8 o))
  clear hrow hv hk0 hb hk1
  go_wp2_with (at_builtin; refine wpList_append_sharp _ rfl _ _ 96 rfl 5 i0 (.int .u8 0) 1 Tryz.underlying96 hi hz0 hz1 hz2 rfl _ 2 [.int .u8 f, .int .u8 o] rfl (HP.out.row.alloc _) ⟨_, 0, none⟩ 1 1 [.int .u8 k] rfl rfl ?c1 ?c2 ?c3 ?c4 ?_)
  case c1 => exact one_at (by simp) _ _
  case c2 => intro u hu; simp at hu; first | (subst hu; rfl) | (rcases hu with rfl | rfl <;> rfl)
  case c3 => unfold maxLen; omega
  case c4 => omega
  intro v1 w2 ho1 hq1 hs1 hn1
  replace HP := Lib.hid (HP.out.step2 hq1 ho1 hs1 (by simp))
  clear ho1 hq1 hs1 hn1
  obtain ⟨c0, c1, c2, c3, c4, cl⟩ := cell5 HP.out.xb
  obtain ⟨q0, q1, q2, q3, q4, ql⟩ := cell5 HP.out.qb
  go_wp2_with (at_builtin; refine wpList_append_sharp _ rfl _ _ 96 rfl 5 i0 (.int .u8 0) 1 Tryz.underlying96 hi hz0 hz1 hz2 rfl _ 3 [.int .u8 f, .int .u8 o, .int .u8 k] rfl (HP.out.row.alloc _) ⟨_, 0, none⟩ 2 2 [.int .u8 (a / 256), .int .u8 (a % 256)] rfl rfl ?c1 ?c2 ?c3 ?c4 ?_)
  case c1 => exact two_at (by simp) _ _ _
  case c2 => intro u hu; simp at hu; first | (subst hu; rfl) | (rcases hu with rfl | rfl <;> rfl)
  case c3 => unfold maxLen; omega
  case c4 => omega
  intro v2 w3 ho2 hq2 hs2 hn2
  replace HP := Lib.hid (HP.out.step2 hq2 ho2 hs2 (by simp))
  clear ho2 hq2 hs2 hn2
  obtain ⟨c0, c1, c2, c3, c4, cl⟩ := cell5 HP.out.xb
  obtain ⟨q0, q1, q2, q3, q4, ql⟩ := cell5 HP.out.qb
  have hcv := row_text (xs := [(f : Int), o] ++ [k] ++ [a / 256, a % 256]) HP.out.row
  rw [HS.out] at hcv
  go_wp2_with fail
  go_ret2
  exact ⟨rfl, HP.out.keeps⟩
set_option maxHeartbeats 4000000 in
set_option maxRecDepth 100000 in
theorem opPut_111 (w : World) (hG : Glob4 w) (f : Nat) (hf : f < 12) (o k a b : Int) (hx : (⟨f, o, k, a, b⟩ : Opn).In) (hg : opGood ⟨f, o, k, a, b⟩ = true) (hK : opK f = true) (hA : opA f = true) (hB : opB f = true) :
    Calls Tryz.prog 140 #[.agg #[.int .u8 f, .int .u8 o, .int .u8 k, .int .u16 a, .int .u16 b]] w fun e w' =>
    e = .returned (.tuple #[.string (strOfNums ([(f : Int), o] ++ [k] ++ [a / 256, a % 256] ++ [b / 256, b % 256])), .int .i64 0]) ∧ Keeps [] w w' := by
  have hv := fun w hG => valid_any w hG f o k a b hx
  rw [hg] at hv
  have hrow := fun (w : World) (hG : Glob4 w) => hG.row f hf
  rw [hK, hA, hB] at hrow
  obtain ⟨f0, f1, o0, o1, k0, k1, a0, a1, b0, b1⟩ := hx
  simp only at f0 f1 o0 o1 k0 k1 a0 a1 b0 b1
  clear hK hA hB hg
  generalize opM f = M at *
  generalize bs (opNm f) = NM at *
  obtain ⟨i0, hi, hz0, hz1, hz2⟩ := info_parts Tryz.info8
  have hk0 := (Keeps.refl [] w).alloc (.cells #[.int .u8 f, .int .u8 o, .int .u8 k, .int .u16 a, .int .u16 b] 24)
  generalize hS : strOfNums ([(f : Int), o] ++ [k] ++ [a / 256, a % 256] ++ [b / 256, b % 256]) = S at *
  have HS := Lib.hid hS; clear hS
  go_enter Tryz.func140, Tryz.ntmps140
  go_wp2_with fail
  refine (hv _ (hG.new hk0)).mono ?_; rintro e w1 ⟨rfl, hk1⟩
  have hb := boxed5 hk1
  replace hk1 := hk0.trans hk1 (FSub.refl _ _)
  obtain ⟨c0, c1, c2, c3, c4, cl⟩ := cell5 hb
  obtain ⟨r0, r1, r2, r3, r4⟩ := hrow _ (hG.new hk1)
  have HP := Lib.hid (PAt.begin2 (e := 5) (qb := .cells #[.int .u8 M, .string NM, .bool true, .bool true, .bool true] 144) hb hk1 (.int .u8 f) (.int .u8 o))
  clear hrow hv hk0 hb hk1
  go_wp2_with (at_builtin; refine wpList_append_sharp _ rfl _ _ 96 rfl 5 i0 (.int .u8 0) 1 Tryz.underlying96 hi hz0 hz1 hz2 rfl _ 2 [.int .u8 f, .int .u8 o] rfl (HP.out.row.alloc _) ⟨_, 0, none⟩ 1 1 [.int .u8 k] rfl rfl ?c1 ?c2 ?c3 ?c4 ?_)
  case c1 => exact one_at (by simp) _ _
  case c2 => intro u hu; simp at hu; first | (subst hu; rfl) | (rcases hu with rfl | rfl <;> rfl)
  case c3 => unfold maxLen; omega
  case c4 => omega
  intro v1 w2 ho1 hq1 hs1 hn1
  replace HP := Lib.hid (HP.out.step2 hq1 ho1 hs1 (by simp))
  clear ho1 hq1 hs1 hn1
  obtain ⟨c0, c1, c2, c3, c4, cl⟩ := cell5 HP.out.xb
  obtain ⟨q0, q1, q2, q3, q4, ql⟩ := cell5 HP.out.qb
  go_wp2_with (at_builtin; refine wpList_append_sharp _ rfl _ _ 96 rfl 5 i0 (.int .u8 0) 1 Tryz.underlying96 hi hz0 hz1 hz2 rfl _ 3 [.int .u8 f, .int .u8 o, .int .u8 k] rfl (HP.out.row.alloc _) ⟨_, 0, none⟩ 2 2 [.int .u8 (a / 256), .int .u8 (a % 256)] rfl rfl ?c1 ?c2 ?c3 ?c4 ?_)
  case c1 => exact two_at (by simp) _ _ _
  case c2 => intro u hu; simp at hu; first | (subst hu; rfl) | (rcases hu with rfl | rfl <;> rfl)
  case c3 => unfold maxLen; omega
  case c4 => omega
  intro v2 w3 ho2 hq2 hs2 hn2
  replace HP := Lib.hid (HP.out.step2 hq2 ho2 hs2 (by simp))
  clear ho2 hq2 hs2 hn2
  obtain ⟨c0, c1, c2, c3, c4, cl⟩ := cell5 HP.out.xb
  obtain ⟨q0, q1, q2, q3, q4, ql⟩ := cell5 HP.out.qb
  go_wp2_with (at_builtin; refine wpList_append_sharp _ rfl _ _ 96 rfl 5 i0 (.int .u8 0) 1 Tryz.underlying96 hi hz0 hz1 hz2 rfl _ 5 [.int .u8 f, .int .u8 o, .int .u8 k, .int .u8 (a / 256), .int .u8 (a % 256)] rfl (HP.out.row.alloc _) ⟨_, 0, none⟩ 2 2 [.int .u8 (b / 256), .int .u8 (b % 256)] rfl rfl ?c1 ?c2 ?c3 ?c4 ?_)
  case c1 => exact two_at (by simp) _ _ _
  case c2 => intro u hu; simp at hu; first | (subst hu; rfl) | (rcases hu with rfl | rfl <;> rfl)
  case c3 => unfold maxLen; omega
  case c4 => omega
  intro v3 w4 ho3 hq3 hs3 hn3
  replace HP := Lib.hid (HP.out.step2 hq3 ho3 hs3 (by simp))
  clear ho3 hq3 hs3 hn3
  obtain ⟨c0, c1, c2, c3, c4, cl⟩ := cell5 HP.out.xb
  obtain ⟨q0, q1, q2, q3, q4, ql⟩ := cell5 HP.out.qb
  have hcv := row_text (xs := [(f : Int), o] ++ [k] ++ [a / 256, a % 256] ++ [b / 256, b % 256]) HP.out.row
  rw [HS.out] at hcv
  go_wp2_with fail
  go_ret2
  exact ⟨rfl, HP.out.keeps⟩
theorem opPut_good (w : World) (hG : Glob4 w) (f : Nat) (o k a b : Int) (hx : (⟨f, o, k, a, b⟩ : Opn).In) (hg : opGood ⟨f, o, k, a, b⟩ = true) :
    Calls Tryz.prog 140 #[.agg #[.int .u8 f, .int .u8 o, .int .u8 k, .int .u16 a, .int .u16 b]] w fun e w' =>
    e = .returned (.tuple #[.string (strOfNums (opPut ⟨f, o, k, a, b⟩)), .int .i64 0]) ∧ Keeps [] w w' := by
  have is := ((good_iff _).1 hg).is
  have hf : f < 12 := by simp [opIs] at is; omega
  have ways : (opK f = false ∧ opA f = false ∧ opB f = false) ∨ (opK f = false ∧ opA f = true ∧ opB f = false) ∨ (opK f = false ∧ opA f = true ∧ opB f = true) ∨ (opK f = true ∧ opA f = false ∧ opB f = false) ∨ (opK f = true ∧ opA f = true ∧ opB f = false) ∨ (opK f = true ∧ opA f = true ∧ opB f = true) := by
    have is2 : 1 ≤ f := by simp [opIs] at is; omega
    rcases (by omega : f = 1 ∨ f = 2 ∨ f = 3 ∨ f = 4 ∨ f = 5 ∨ f = 6 ∨ f = 7 ∨ f = 8 ∨ f = 9 ∨ f = 10 ∨ f = 11) with rfl | rfl | rfl | rfl | rfl | rfl | rfl | rfl | rfl | rfl | rfl <;> decide
  rcases ways with ⟨hK, hA, hB⟩ | ⟨hK, hA, hB⟩ | ⟨hK, hA, hB⟩ | ⟨hK, hA, hB⟩ | ⟨hK, hA, hB⟩ | ⟨hK, hA, hB⟩
  · have h := opPut_000 w hG f hf o k a b hx hg hK hA hB
    have e : opPut ⟨f, o, k, a, b⟩ = [(f : Int), o] := by simp only [opPut, hK, hA, hB]; rfl
    rw [e]; exact h
  · have h := opPut_010 w hG f hf o k a b hx hg hK hA hB
    have e : opPut ⟨f, o, k, a, b⟩ = [(f : Int), o] ++ [a / 256, a % 256] := by simp only [opPut, hK, hA, hB]; rfl
    rw [e]; exact h
  · have h := opPut_011 w hG f hf o k a b hx hg hK hA hB
    have e : opPut ⟨f, o, k, a, b⟩ = [(f : Int), o] ++ [a / 256, a % 256] ++ [b / 256, b % 256] := by simp only [opPut, hK, hA, hB]; rfl
    rw [e]; exact h
  · have h := opPut_100 w hG f hf o k a b hx hg hK hA hB
    have e : opPut ⟨f, o, k, a, b⟩ = [(f : Int), o] ++ [k] := by simp only [opPut, hK, hA, hB]; rfl
    rw [e]; exact h
  · have h := opPut_110 w hG f hf o k a b hx hg hK hA hB
    have e : opPut ⟨f, o, k, a, b⟩ = [(f : Int), o] ++ [k] ++ [a / 256, a % 256] := by simp only [opPut, hK, hA, hB]; rfl
    rw [e]; exact h
  · have h := opPut_111 w hG f hf o k a b hx hg hK hA hB
    have e : opPut ⟨f, o, k, a, b⟩ = [(f : Int), o] ++ [k] ++ [a / 256, a % 256] ++ [b / 256, b % 256] := by simp only [opPut, hK, hA, hB]; rfl
    rw [e]; exact h
theorem opPut_bad (w : World) (hG : Glob4 w) (f o k a b : Int) (hx : (⟨f, o, k, a, b⟩ : Opn).In) (hg : opGood ⟨f, o, k, a, b⟩ = false) :
    Calls Tryz.prog 140 #[.agg #[.int .u8 f, .int .u8 o, .int .u8 k, .int .u16 a, .int .u16 b]] w fun e w' =>
    e = .returned (.tuple #[.string ⟨#[]⟩, .int .i64 4]) ∧ Keeps [] w w' := by
  have hv := fun w hG => valid_any w hG f o k a b hx
  rw [hg] at hv
  have hk0 := (Keeps.refl [] w).alloc (.cells #[.int .u8 f, .int .u8 o, .int .u8 k, .int .u16 a, .int .u16 b] 24)
  go_enter Tryz.func140, Tryz.ntmps140
  go_wp2_with fail
  refine (hv _ (hG.new hk0)).mono ?_; rintro e w1 ⟨rfl, hk1⟩
  go_wp2_with fail
  go_ret2
  exact ⟨rfl, hk0.trans hk1 (FSub.refl _ _)⟩
def opPutE (x : Opn) : Int := if opGood x then 0 else 4
theorem opPut_any (w : World) (hG : Glob4 w) (f o k a b : Int) (hx : (⟨f, o, k, a, b⟩ : Opn).In) :
    Calls Tryz.prog 140 #[.agg #[.int .u8 f, .int .u8 o, .int .u8 k, .int .u16 a, .int .u16 b]] w fun e w' =>
    e = .returned (.tuple #[.string (if opGood ⟨f, o, k, a, b⟩ then strOfNums (opPut ⟨f, o, k, a, b⟩) else ⟨#[]⟩), .int .i64 (opPutE ⟨f, o, k, a, b⟩)]) ∧ Keeps [] w w' := by
  rcases bool_two (opGood ⟨f, o, k, a, b⟩) with hg | hg
  · obtain ⟨f, rfl⟩ := Int.eq_ofNat_of_zero_le hx.f0
    have h := opPut_good w hG f o k a b hx hg
    simp only [opPutE, hg, if_true]; exact h
  · have h := opPut_bad w hG f o k a b hx hg
    simp only [opPutE, hg, if_false, Bool.false_eq_true]; exact h
end Go.Proofs.YtffldnjjijckcaaGreatDoor
/-
  The document's Number.
-/
namespace Go.Proofs.YtffldnjjijckcaaGreatDoor
open Go.RowKit
/-- What the first bytes spell. -/
structure NumAt (l : List UInt8) (k n : Nat) : Prop where
  high : k ≤ l.length
  digs : ∀ c ∈ l.take k, isDig c
  num : n = spells 0 (l.take k)
theorem spells_lt5 : ∀ (l : List UInt8) (acc m : Nat), (∀ c ∈ l, isDig c) → acc < m → spells acc l < m * 10 ^ l.length
  | [], acc, m, _, h => by simpa [spells] using h
  | c :: r, acc, m, hd, h => by
    have hc := hd c (by simp)
    unfold isDig at hc
    have := spells_lt5 r (10 * acc + (c.toNat - 48)) (m * 10) (fun d hd' => hd d (by simp [hd'])) (by omega)
    rw [List.length_cons, Nat.pow_succ, Nat.mul_comm (10 ^ r.length) 10, ← Nat.mul_assoc]
    exact this
theorem NumAt.lt {l : List UInt8} {k n : Nat} (h : NumAt l k n) (hl : l.length ≤ 5) : n < 100000 := by
  have := spells_lt5 _ 0 1 h.digs (by omega)
  rw [← h.num] at this
  have h2 : (l.take k).length ≤ 5 := by simp; omega
  have h3 : (10 : Nat) ^ (l.take k).length ≤ 10 ^ 5 := Nat.pow_le_pow_right (by omega) h2
  omega
theorem NumAt.step {l : List UInt8} {k n : Nat} (h : NumAt l k n) (hk : k < l.length) (hc : isDig (l.getD k 0)) : NumAt l (k + 1) (10 * n + ((l.getD k 0).toNat - 48)) := by
  have e : l.take (k + 1) = l.take k ++ [l.getD k 0] := by
    rw [List.take_succ_eq_append_getElem hk]
    simp [List.getD, hk]
  refine ⟨by omega, ?_, ?_⟩
  · rw [e]
    intro c hc2
    rcases List.mem_append.1 hc2 with h1 | h1
    · exact h.digs c h1
    · simp only [List.mem_singleton] at h1; subst h1; exact hc
  · rw [e, spells_snoc, h.num]
theorem wordNum_no {l : List UInt8} (h : numOk l ≠ true) : wordNum l = -1 := by unfold wordNum; rw [if_neg h]
theorem numOk_parts {l : List UInt8} (h : numOk l = true) : 1 ≤ l.length ∧ l.length ≤ 5 ∧ (l.getD 0 0 ≠ 48 ∨ l.length = 1) ∧ (∀ c ∈ l, isDig c) ∧ spells 0 l ≤ 65535 := by
  simp only [numOk, Bool.and_eq_true, Bool.or_eq_true, decide_eq_true_eq, bne_iff_ne, ne_eq, beq_iff_eq, List.all_eq_true] at h
  obtain ⟨⟨⟨⟨h1, h2⟩, h3⟩, h4⟩, h5⟩ := h
  exact ⟨h1, h2, h3, fun c hc => h4 c hc, h5⟩
theorem wordNum_all {l : List UInt8} {n : Nat} (h : NumAt l l.length n) (h1 : 1 ≤ l.length) (h5 : l.length ≤ 5) (hz : l.getD 0 0 ≠ 48 ∨ l.length = 1) : wordNum l = if n ≤ 65535 then (n : Int) else -1 := by
  have e := h.num
  have d := h.digs
  rw [List.take_length] at e d
  subst e
  by_cases hn : spells 0 l ≤ 65535
  · have ok : numOk l = true := by
      simp only [numOk, Bool.and_eq_true, Bool.or_eq_true, decide_eq_true_eq, bne_iff_ne, ne_eq, beq_iff_eq, List.all_eq_true]
      exact ⟨⟨⟨⟨h1, h5⟩, hz⟩, fun c hc => d c hc⟩, hn⟩
    unfold wordNum; rw [if_pos ok, if_pos hn]
  · rw [if_neg hn]
    exact wordNum_no fun ok => hn (numOk_parts ok).2.2.2.2
set_option maxHeartbeats 4000000 in
set_option maxRecDepth 100000 in
theorem r4Number_any (w : World) (l : List UInt8) (hl : (bs l).size ≤ 9223372036854775807) :
    Calls Tryz.prog 68 #[.string (bs l)] w fun e w' => e = .returned (.int .i64 (wordNum l)) ∧ w' = w := by
  have hsz : (bs l).size = l.length := bs_size l
  have hby : ∀ (k : Nat) (h : k < (bs l).size), (((bs l)[k]'h).toNat : Int) = ((l.getD k 0).toNat : Int) := fun k h => by
    have e : (bs l)[k]'h = l.getD k 0 := by rw [byte_getD]; rfl
    rw [e]
  generalize bs l = S at *
  generalize hwn : wordNum l = WN at *
  have HW := Lib.hid hwn; clear hwn
  by_cases h1 : l.length < 1
  · obtain rfl := HW.out.symm.trans (wordNum_no fun ok => by have := (numOk_parts ok).1; omega)
    have z1 : (S.size : Int) < 1 := by omega
    clear hby HW
    go_enter Tryz.func68, Tryz.ntmps68
    go_wp2_with fail
    go_ret
    exact ⟨rfl, rfl⟩
  by_cases h5 : 5 < l.length
  · obtain rfl := HW.out.symm.trans (wordNum_no fun ok => by have := (numOk_parts ok).2.1; omega)
    have z1 : ¬ (S.size : Int) < 1 := by omega
    have z2 : 5 < (S.size : Int) := by omega
    clear hby HW
    go_enter Tryz.func68, Tryz.ntmps68
    go_wp2_with fail
    go_ret
    exact ⟨rfl, rfl⟩
  have z1 : ¬ (S.size : Int) < 1 := by omega
  have z2 : ¬ 5 < (S.size : Int) := by omega
  have k0 : 0 < S.size := by omega
  have hb0 := hby 0 k0
  have HB := Lib.hid hby; clear hby
  by_cases hz : l.getD 0 0 = 48 ∧ 1 < l.length
  · obtain rfl := HW.out.symm.trans (wordNum_no fun ok => by rcases (numOk_parts ok).2.2.1 with h | h; exact h hz.1; omega)
    have z3 : 1 < (S.size : Int) := by omega
    rw [hz.1] at hb0
    have z4 : ((S[0]'k0).toNat : Int) = 48 := hb0
    clear HB HW hb0
    go_enter Tryz.func68, Tryz.ntmps68
    go_wp2_with fail
    go_ret
    exact ⟨rfl, rfl⟩
  have hz2 : l.getD 0 0 ≠ 48 ∨ l.length = 1 := by
    by_cases h : l.getD 0 0 = 48
    · exact .inr (by have : ¬ 1 < l.length := fun h' => hz ⟨h, h'⟩; omega)
    · exact .inl h
  have HZ := Lib.hid hz2
  have main : (l.getD 0 0 = 48 → ¬ 1 < (S.size : Int)) := fun h h' => hz ⟨h, by omega⟩
  clear hz
  rcases hz2 with hz3 | hz3
  · have z4 : ¬ ((l.getD 0 0).toNat : Int) = 48 := fun h => hz3 (UInt8.toNat_inj.1 (show (l.getD 0 0).toNat = (48 : UInt8).toNat from Int.ofNat.inj h))
    generalize (l.getD 0 0).toNat = C0 at hb0 z4
    clear main hz3
    go_enter Tryz.func68, Tryz.ntmps68
    go_wp2_with fail
    go_loopw [2, 3, 4] (fun r n i wr => ∃ (c k : Nat), r = .int .i64 0 ∧ n = .int .i64 c ∧ i = .int .i64 k ∧ NumAt l k c ∧ wr = w) (fun _ _ i _ => l.length - (intOf i).toNat)
    case atStart => exact ⟨0, 0, rfl, rfl, rfl, ⟨by omega, by simp, by simp [spells]⟩, rfl⟩
    case round =>
      obtain ⟨c, k, rfl, rfl, rfl, hd, rfl⟩ := hrel
      have hn := hd.lt (by omega)
      clear hb0 z4
      by_cases hkl : k < l.length
      · have hks : k < S.size := by omega
        have hbyte := HB.out k hks
        clear HB
        by_cases hdig : isDig (l.getD k 0)
        · have hst := hd.step hkl hdig
          unfold isDig at hdig
          generalize hC : (l.getD k 0).toNat = C at *
          clear hC
          have y1 : ¬ (C : Int) < 48 := by omega
          have y2 : ¬ 57 < (C : Int) := by omega
          go_wp2_with fail
          go_roundw
          case rel => exact ⟨10 * c + (C - 48), k + 1, by congr 1, by congr 1; omega, by go_num, hst, by trivial⟩
          case measure => simp [intOf]; omega
        · obtain rfl := HW.out.symm.trans (wordNum_no fun ok => hdig ((numOk_parts ok).2.2.2.1 _ (by rw [List.getD_eq_getElem?_getD, List.getElem?_eq_getElem hkl]; exact List.getElem_mem hkl)))
          unfold isDig at hdig
          generalize hC : (l.getD k 0).toNat = C at *
          clear hC HW
          by_cases y1 : (C : Int) < 48
          · go_wp2_with fail
            go_ret
            exact ⟨rfl, rfl⟩
          · have y2 : 57 < (C : Int) := by omega
            go_wp2_with fail
            go_ret
            exact ⟨rfl, rfl⟩
      · obtain rfl : k = l.length := by have := hd.high; omega
        have y0 : ¬ (l.length : Int) < (S.size : Int) := by omega
        have e := wordNum_all hd (by omega) (by omega) HZ.out
        by_cases hbig : 65535 < c
        · rw [if_neg (by omega)] at e
          obtain rfl := HW.out.symm.trans e
          have y1 : 65535 < (c : Int) := by omega
          clear e HW HB
          go_wp2_with fail
          go_ret
          exact ⟨rfl, rfl⟩
        · rw [if_pos (by omega)] at e
          obtain rfl := HW.out.symm.trans e
          have y1 : ¬ 65535 < (c : Int) := by omega
          clear e HW HB
          go_wp2_with fail
          go_ret
          exact ⟨rfl, rfl⟩
  · have z4 : ¬ 1 < (S.size : Int) := by omega
    clear main
    generalize (l.getD 0 0).toNat = C0 at hb0
    by_cases z5 : (C0 : Int) = 48
    · go_enter Tryz.func68, Tryz.ntmps68
      go_wp2_with fail
      go_loopw [2, 3, 4] (fun r n i wr => ∃ (c k : Nat), r = .int .i64 0 ∧ n = .int .i64 c ∧ i = .int .i64 k ∧ NumAt l k c ∧ wr = w) (fun _ _ i _ => l.length - (intOf i).toNat)
      case atStart => exact ⟨0, 0, rfl, rfl, rfl, ⟨by omega, by simp, by simp [spells]⟩, rfl⟩
      case round =>
        obtain ⟨c, k, rfl, rfl, rfl, hd, rfl⟩ := hrel
        have hn := hd.lt (by omega)
        clear hb0 z4
        by_cases hkl : k < l.length
        · have hks : k < S.size := by omega
          have hbyte := HB.out k hks
          clear HB
          by_cases hdig : isDig (l.getD k 0)
          · have hst := hd.step hkl hdig
            unfold isDig at hdig
            generalize hC : (l.getD k 0).toNat = C at *
            clear hC
            have y1 : ¬ (C : Int) < 48 := by omega
            have y2 : ¬ 57 < (C : Int) := by omega
            go_wp2_with fail
            go_roundw
            case rel => exact ⟨10 * c + (C - 48), k + 1, by congr 1, by congr 1; omega, by go_num, hst, by trivial⟩
            case measure => simp [intOf]; omega
          · obtain rfl := HW.out.symm.trans (wordNum_no fun ok => hdig ((numOk_parts ok).2.2.2.1 _ (by rw [List.getD_eq_getElem?_getD, List.getElem?_eq_getElem hkl]; exact List.getElem_mem hkl)))
            unfold isDig at hdig
            generalize hC : (l.getD k 0).toNat = C at *
            clear hC HW
            by_cases y1 : (C : Int) < 48
            · go_wp2_with fail
              go_ret
              exact ⟨rfl, rfl⟩
            · have y2 : 57 < (C : Int) := by omega
              go_wp2_with fail
              go_ret
              exact ⟨rfl, rfl⟩
        · obtain rfl : k = l.length := by have := hd.high; omega
          have y0 : ¬ (l.length : Int) < (S.size : Int) := by omega
          have e := wordNum_all hd (by omega) (by omega) HZ.out
          by_cases hbig : 65535 < c
          · rw [if_neg (by omega)] at e
            obtain rfl := HW.out.symm.trans e
            have y1 : 65535 < (c : Int) := by omega
            clear e HW HB
            go_wp2_with fail
            go_ret
            exact ⟨rfl, rfl⟩
          · rw [if_pos (by omega)] at e
            obtain rfl := HW.out.symm.trans e
            have y1 : ¬ 65535 < (c : Int) := by omega
            clear e HW HB
            go_wp2_with fail
            go_ret
            exact ⟨rfl, rfl⟩
    · go_enter Tryz.func68, Tryz.ntmps68
      go_wp2_with fail
      go_loopw [2, 3, 4] (fun r n i wr => ∃ (c k : Nat), r = .int .i64 0 ∧ n = .int .i64 c ∧ i = .int .i64 k ∧ NumAt l k c ∧ wr = w) (fun _ _ i _ => l.length - (intOf i).toNat)
      case atStart => exact ⟨0, 0, rfl, rfl, rfl, ⟨by omega, by simp, by simp [spells]⟩, rfl⟩
      case round =>
        obtain ⟨c, k, rfl, rfl, rfl, hd, rfl⟩ := hrel
        have hn := hd.lt (by omega)
        clear hb0 z4
        by_cases hkl : k < l.length
        · have hks : k < S.size := by omega
          have hbyte := HB.out k hks
          clear HB
          by_cases hdig : isDig (l.getD k 0)
          · have hst := hd.step hkl hdig
            unfold isDig at hdig
            generalize hC : (l.getD k 0).toNat = C at *
            clear hC
            have y1 : ¬ (C : Int) < 48 := by omega
            have y2 : ¬ 57 < (C : Int) := by omega
            go_wp2_with fail
            go_roundw
            case rel => exact ⟨10 * c + (C - 48), k + 1, by congr 1, by congr 1; omega, by go_num, hst, by trivial⟩
            case measure => simp [intOf]; omega
          · obtain rfl := HW.out.symm.trans (wordNum_no fun ok => hdig ((numOk_parts ok).2.2.2.1 _ (by rw [List.getD_eq_getElem?_getD, List.getElem?_eq_getElem hkl]; exact List.getElem_mem hkl)))
            unfold isDig at hdig
            generalize hC : (l.getD k 0).toNat = C at *
            clear hC HW
            by_cases y1 : (C : Int) < 48
            · go_wp2_with fail
              go_ret
              exact ⟨rfl, rfl⟩
            · have y2 : 57 < (C : Int) := by omega
              go_wp2_with fail
              go_ret
              exact ⟨rfl, rfl⟩
        · obtain rfl : k = l.length := by have := hd.high; omega
          have y0 : ¬ (l.length : Int) < (S.size : Int) := by omega
          have e := wordNum_all hd (by omega) (by omega) HZ.out
          by_cases hbig : 65535 < c
          · rw [if_neg (by omega)] at e
            obtain rfl := HW.out.symm.trans e
            have y1 : 65535 < (c : Int) := by omega
            clear e HW HB
            go_wp2_with fail
            go_ret
            exact ⟨rfl, rfl⟩
          · rw [if_pos (by omega)] at e
            obtain rfl := HW.out.symm.trans e
            have y1 : ¬ 65535 < (c : Int) := by omega
            clear e HW HB
            go_wp2_with fail
            go_ret
            exact ⟨rfl, rfl⟩
end Go.Proofs.YtffldnjjijckcaaGreatDoor
/-
  The program's reads of numbers.
-/
namespace Go.Proofs.YtffldnjjijckcaaGreatDoor
open Go.RowKit
def v8 (l : List UInt8) : Int := ((l.getD 0 0).toNat : Int)
end Go.Proofs.YtffldnjjijckcaaGreatDoor
/-
  The program's Take.
-/
namespace Go.Proofs.YtffldnjjijckcaaGreatDoor
open Go.RowKit
theorem set5_0 {w : World} {b : Nat} {x0 x1 x2 x3 x4 : Value} {t : TypeId} (h : w.heap[b]? = some (.cells #[x0, x1, x2, x3, x4] t (0, 0))) (y : Value) : (w.setCell ⟨b, 0, none⟩ y).heap[b]? = some (.cells #[y, x1, x2, x3, x4] t (0, 0)) := by
  rw [heap_setCell_same _ b 0 _ t y h]; rfl
theorem set5_1 {w : World} {b : Nat} {x0 x1 x2 x3 x4 : Value} {t : TypeId} (h : w.heap[b]? = some (.cells #[x0, x1, x2, x3, x4] t (0, 0))) (y : Value) : (w.setCell ⟨b, 1, none⟩ y).heap[b]? = some (.cells #[x0, y, x2, x3, x4] t (0, 0)) := by
  rw [heap_setCell_same _ b 1 _ t y h]; rfl
theorem set5_2 {w : World} {b : Nat} {x0 x1 x2 x3 x4 : Value} {t : TypeId} (h : w.heap[b]? = some (.cells #[x0, x1, x2, x3, x4] t (0, 0))) (y : Value) : (w.setCell ⟨b, 2, none⟩ y).heap[b]? = some (.cells #[x0, x1, y, x3, x4] t (0, 0)) := by
  rw [heap_setCell_same _ b 2 _ t y h]; rfl
theorem set5_3 {w : World} {b : Nat} {x0 x1 x2 x3 x4 : Value} {t : TypeId} (h : w.heap[b]? = some (.cells #[x0, x1, x2, x3, x4] t (0, 0))) (y : Value) : (w.setCell ⟨b, 3, none⟩ y).heap[b]? = some (.cells #[x0, x1, x2, y, x4] t (0, 0)) := by
  rw [heap_setCell_same _ b 3 _ t y h]; rfl
theorem set5_4 {w : World} {b : Nat} {x0 x1 x2 x3 x4 : Value} {t : TypeId} (h : w.heap[b]? = some (.cells #[x0, x1, x2, x3, x4] t (0, 0))) (y : Value) : (w.setCell ⟨b, 4, none⟩ y).heap[b]? = some (.cells #[x0, x1, x2, x3, y] t (0, 0)) := by
  rw [heap_setCell_same _ b 4 _ t y h]; rfl
theorem heap_set_other {w : World} {a b i : Nat} {o : Obj} (h : w.heap[b]? = some o) (hne : a ≠ b) (y : Value) : (w.setCell ⟨a, i, none⟩ y).heap[b]? = some o :=
  ((Keeps.refl [a] w).setCell ⟨a, i, none⟩ y (.inl (by simp))).heap h (by simp; omega)
/-- The operation under way, what is unread, the row: three blocks. -/
structure TAt (W : World) (D U Q : Nat) (qc : Array Value) (x0 x1 x2 x3 x4 : Value) (S : ByteArray) (t : Bool) : Prop where
  xb : W.heap[D]? = some (.cells #[x0, x1, x2, x3, x4] 24 (0, 0))
  ub : W.heap[U]? = some (.cells #[.string S, .bool t] 199 (0, 0))
  qb : W.heap[Q]? = some (.cells qc 144 (0, 0))
theorem TAt.read {W W' : World} {D U Q : Nat} {qc : Array Value} {x0 x1 x2 x3 x4 : Value} {S S' : ByteArray} {t t' : Bool} (h : TAt W D U Q qc x0 x1 x2 x3 x4 S t) (hd : D ≠ U) (hq : U ≠ Q)
    (hu : W'.heap[U]? = some (.cells #[.string S', .bool t'] 199 (0, 0))) (hk : Keeps [U] W W') : TAt W' D U Q qc x0 x1 x2 x3 x4 S' t' :=
  ⟨hk.heap h.xb (by simpa using hd), hu, hk.heap h.qb (by simp; omega)⟩
theorem TAt.keep {W W' : World} {D U Q : Nat} {qc : Array Value} {x0 x1 x2 x3 x4 : Value} {S : ByteArray} {t : Bool} (h : TAt W D U Q qc x0 x1 x2 x3 x4 S t) (hk : Keeps [] W W') : TAt W' D U Q qc x0 x1 x2 x3 x4 S t :=
  ⟨hk.heap h.xb (by simp), hk.heap h.ub (by simp), hk.heap h.qb (by simp)⟩
theorem TAt.put1 {W : World} {D U Q : Nat} {qc : Array Value} {x0 x1 x2 x3 x4 : Value} {S : ByteArray} {t : Bool} (h : TAt W D U Q qc x0 x1 x2 x3 x4 S t) (hd : D ≠ U) (hq : D ≠ Q) (y : Value) : TAt (W.setCell ⟨D, 1, none⟩ y) D U Q qc x0 y x2 x3 x4 S t :=
  ⟨set5_1 h.xb y, heap_set_other h.ub hd y, heap_set_other h.qb hq y⟩
theorem TAt.put2 {W : World} {D U Q : Nat} {qc : Array Value} {x0 x1 x2 x3 x4 : Value} {S : ByteArray} {t : Bool} (h : TAt W D U Q qc x0 x1 x2 x3 x4 S t) (hd : D ≠ U) (hq : D ≠ Q) (y : Value) : TAt (W.setCell ⟨D, 2, none⟩ y) D U Q qc x0 x1 y x3 x4 S t :=
  ⟨set5_2 h.xb y, heap_set_other h.ub hd y, heap_set_other h.qb hq y⟩
theorem TAt.put3 {W : World} {D U Q : Nat} {qc : Array Value} {x0 x1 x2 x3 x4 : Value} {S : ByteArray} {t : Bool} (h : TAt W D U Q qc x0 x1 x2 x3 x4 S t) (hd : D ≠ U) (hq : D ≠ Q) (y : Value) : TAt (W.setCell ⟨D, 3, none⟩ y) D U Q qc x0 x1 x2 y x4 S t :=
  ⟨set5_3 h.xb y, heap_set_other h.ub hd y, heap_set_other h.qb hq y⟩
theorem TAt.put4 {W : World} {D U Q : Nat} {qc : Array Value} {x0 x1 x2 x3 x4 : Value} {S : ByteArray} {t : Bool} (h : TAt W D U Q qc x0 x1 x2 x3 x4 S t) (hd : D ≠ U) (hq : D ≠ Q) (y : Value) : TAt (W.setCell ⟨D, 4, none⟩ y) D U Q qc x0 x1 x2 x3 y S t :=
  ⟨set5_4 h.xb y, heap_set_other h.ub hd y, heap_set_other h.qb hq y⟩
end Go.Proofs.YtffldnjjijckcaaGreatDoor
