/-
  What the package-level variables hold; the row of an operation's number, of the program and of the document.
-/
import Derived.Shelf.Lay
import Derived.Shelf.LaySoft
import Derived.Test.YtlaccndjlfpjbaaGreatDoorProg
import Derived.Laws.ResultCell
import Derived.Test.YtlaccndjlfpjbaaGreatDoorD02
import Derived.Test.YtlaccndjlfpjbaaGreatDoorD03
set_option linter.unusedSimpArgs false
set_option linter.unusedVariables false
namespace Go.Proofs.YtlaccndjlfpjbaaGreatDoor
open Go.RowKit
def kindCells : Array Value := #[
  .int .u8 0, .string ⟨#[]⟩, .bool false, .bool false, .bool false,
  .int .u8 0, .string ⟨#[114, 101, 97, 100]⟩, .bool false, .bool false, .bool false,
  .int .u8 0, .string ⟨#[119, 114, 105, 116, 101]⟩, .bool false, .bool true, .bool false,
  .int .u8 0, .string ⟨#[99, 97, 115]⟩, .bool false, .bool true, .bool true,
  .int .u8 1, .string ⟨#[101, 110, 113]⟩, .bool false, .bool true, .bool false,
  .int .u8 1, .string ⟨#[100, 101, 113]⟩, .bool false, .bool false, .bool false,
  .int .u8 2, .string ⟨#[103, 101, 116]⟩, .bool true, .bool false, .bool false,
  .int .u8 2, .string ⟨#[112, 117, 116]⟩, .bool true, .bool true, .bool false,
  .int .u8 2, .string ⟨#[100, 101, 108]⟩, .bool true, .bool false, .bool false,
  .int .u8 2, .string ⟨#[115, 119, 97, 112]⟩, .bool true, .bool true, .bool true,
  .int .u8 3, .string ⟨#[97, 99, 113, 117, 105, 114, 101]⟩, .bool false, .bool false, .bool false,
  .int .u8 3, .string ⟨#[114, 101, 108, 101, 97, 115, 101]⟩, .bool false, .bool false, .bool false]
/-- The package-level variable holds what start-up lays: of a seat where no text is read. -/
structure Glob4 (w : World) : Prop where
  kinds : ∃ t fr, w.heap[0]? = some (.cells kindCells t fr)
theorem Glob4.new {w w' : World} (h : Glob4 w) (hk : Keeps [] w w') : Glob4 w' := by
  obtain ⟨t, fr, hw⟩ := h.kinds
  exact ⟨⟨t, fr, hk.heap hw (by simp)⟩⟩
theorem Glob4.kind {w : World} (h : Glob4 w) (i : Nat) (v : Value) (hv : kindCells[i]? = some v) : w.cell? ⟨0, i, none⟩ = some v := by
  obtain ⟨t, fr, hw⟩ := h.kinds
  simp [World.cell?, hw, hv]
/-- A row of the table, by its number. -/
theorem Glob4.row {w : World} (h : Glob4 w) (f : Nat) (hf : f < 12) : w.cell? ⟨0, f * 5, none⟩ = some (.int .u8 (opM f)) ∧ w.cell? ⟨0, f * 5 + 1, none⟩ = some (.string (bs (opNm f))) ∧
    w.cell? ⟨0, f * 5 + 2, none⟩ = some (.bool (opK f)) ∧ w.cell? ⟨0, f * 5 + 3, none⟩ = some (.bool (opA f)) ∧ w.cell? ⟨0, f * 5 + 4, none⟩ = some (.bool (opB f)) := by
  rcases (by omega : f = 0 ∨ f = 1 ∨ f = 2 ∨ f = 3 ∨ f = 4 ∨ f = 5 ∨ f = 6 ∨ f = 7 ∨ f = 8 ∨ f = 9 ∨ f = 10 ∨ f = 11) with rfl | rfl | rfl | rfl | rfl | rfl | rfl | rfl | rfl | rfl | rfl | rfl
  all_goals exact ⟨h.kind _ _ rfl, h.kind _ _ rfl, h.kind _ _ rfl, h.kind _ _ rfl, h.kind _ _ rfl⟩
theorem op_none {f : Int} (_h0 : 0 ≤ f) (h : ¬ f < 12) : opIs f = false ∧ opM f = 0 ∧ opNm f = [] ∧ opK f = false ∧ opA f = false ∧ opB f = false := by
  have e : opIs f = false := by simp [opIs]; omega
  refine ⟨e, ?_, ?_, by simp [opK]; omega, by simp [opA]; omega, by simp [opB]; omega⟩
  · unfold opM; rw [if_neg (by omega), if_neg (by omega), if_neg (by omega)]
  · unfold opNm; rw [if_neg (by omega), if_neg (by omega), if_neg (by omega), if_neg (by omega), if_neg (by omega), if_neg (by omega), if_neg (by omega), if_neg (by omega), if_neg (by omega), if_neg (by omega), if_neg (by omega)]
theorem nm_empty {f : Int} (h0 : 0 ≤ f) (h : f < 12) : (opNm f != []) = opIs f := by
  rcases (by omega : f = 0 ∨ f = 1 ∨ f = 2 ∨ f = 3 ∨ f = 4 ∨ f = 5 ∨ f = 6 ∨ f = 7 ∨ f = 8 ∨ f = 9 ∨ f = 10 ∨ f = 11) with rfl | rfl | rfl | rfl | rfl | rfl | rfl | rfl | rfl | rfl | rfl | rfl <;> decide
set_option maxRecDepth 100000 in
theorem results_kind2 {fn : Func} {p u : Tmp} (h : fn.results = #[.cell p 103, .tmp u]) (tmps : Array Value) (w : World) (b : Nat) {x0 x1 x2 x3 x4 : Value} {t : TypeId}
    (hp : tmps.getD p undef = .pointer (some ⟨b, 0, none⟩)) (hb : w.heap[b]? = some (.cells #[x0, x1, x2, x3, x4] t (0, 0))) : (results fn tmps).run Tryz.prog w = .ok (.tuple #[.agg #[x0, x1, x2, x3, x4], tmps.getD u undef]) w := by
  have h1 : (loadVar 103 ⟨b, 0, none⟩).run Tryz.prog w = .ok (.agg #[x0, x1, x2, x3, x4]) w := run_loadVar_row w b t 103 _ _ _ hb Tryz.underlying103 rfl (by kernel_rfl)
  rw [results_cell_tmp h, hp]
  simp [asAddr, h1, Result.andThen]
set_option maxHeartbeats 1000000 in
theorem find_any (w : World) (hG : Glob4 w) (f : Int) (h0 : 0 ≤ f) (h1 : f < 256) : Calls Tryz.prog 96 #[.int .u8 f] w fun e w' =>
    e = .returned (.tuple #[.agg #[.int .u8 (opM f), .string (bs (opNm f)), .bool (opK f), .bool (opA f), .bool (opB f)], .bool (opIs f)]) ∧ Keeps [] w w' := by
  by_cases hf : f < 12
  · obtain ⟨f, rfl⟩ := Int.eq_ofNat_of_zero_le h0
    have hnm : (!(bs (opNm f)).toList.isEmpty) = opIs f := by rw [toL_bs, ← nm_empty h0 hf]; cases opNm f <;> rfl
    have h12 : ¬ (12 : Int) ≤ f := by omega
    have hrow := fun (w : World) (hG : Glob4 w) => hG.row f (by omega)
    rw [← hnm]
    clear hnm
    generalize opM f = M at *
    generalize opNm f = NM at *
    generalize opK f = K at *
    generalize opA f = A at *
    generalize opB f = BB at *
    go_enter Tryz.func96, Tryz.ntmps96
    go_wp2_with fail
    have hk := (Keeps.refl [] w).alloc (.cells #[.int .u8 0, .string ⟨#[]⟩, .bool false, .bool false, .bool false] 103)
    have hb := heap_alloc_new w (.cells #[.int .u8 0, .string ⟨#[]⟩, .bool false, .bool false, .bool false] 103)
    obtain ⟨c0, c1, c2, c3, c4⟩ := hrow _ (hG.new hk)
    have hz : 0 < w.heap.size := by obtain ⟨t, fr, h⟩ := hG.kinds; exact lt_of_block h
    generalize w.alloc (.cells #[.int .u8 0, .string ⟨#[]⟩, .bool false, .bool false, .bool false] 103) = w1 at *
    obtain ⟨d0, d1, d2, d3, d4, dl⟩ := cell5 hb
    obtain ⟨e0, e1, e2, e3, e4⟩ := thaw5 hb
    have hr := put5 hb (.int .u8 M) (.string (bs NM)) (.bool K) (.bool A) (.bool BB)
    have hk2 := hk.set5 (b := w.heap.size) (.inr (Nat.le_refl _)) (.int .u8 M) (.string (bs NM)) (.bool K) (.bool A) (.bool BB)
    have HR := Lib.hid hr; have HK := Lib.hid hk2; clear hr hk2 hb hk hrow
    generalize w.heap.size = B at *
    go_region
    go_wp2_with fail
    try simp only [Exit.inBlock, Exit.then]
    exact bodyPost_ret (results_kind2 rfl _ _ _ rfl (heap_drew HR.out)) rfl ⟨rfl, HK.out.drew⟩
  · obtain ⟨h2, h3, h4, h5, h6, h7⟩ := op_none h0 hf
    rw [h2, h3, h4, h5, h6, h7]
    have h12 : (12 : Int) ≤ f := by omega
    have hb := heap_alloc_new w (.cells #[.int .u8 0, .string ⟨#[]⟩, .bool false, .bool false, .bool false] 103)
    have hk := (Keeps.refl [] w).alloc (.cells #[.int .u8 0, .string ⟨#[]⟩, .bool false, .bool false, .bool false] 103)
    go_enter Tryz.func96, Tryz.ntmps96
    go_wp2_with fail
    try simp only [Exit.inBlock, Exit.then]
    exact bodyPost_ret (results_kind2 rfl _ _ _ rfl hb) rfl ⟨rfl, hk⟩
end Go.Proofs.YtlaccndjlfpjbaaGreatDoor
/-
  The row of an operation's number, of the document.
-/
namespace Go.Proofs.YtlaccndjlfpjbaaGreatDoor
open Go.RowKit
/-- Each operation has one model; the program's number and the document's. -/
theorem opM_b (f : Int) : 0 ≤ opM f ∧ opM f ≤ 3 := by
  unfold opM
  repeat' split
  all_goals omega
end Go.Proofs.YtlaccndjlfpjbaaGreatDoor
/-
  Is an operation valid? The program's and the document's answer.
-/
namespace Go.Proofs.YtlaccndjlfpjbaaGreatDoor
open Go.RowKit
/-- The ways in which an operation is, or is not, valid. -/
theorem good_ways (f o k a b : Int) (P : Prop)
    (h1 : opIs f = false → opGood ⟨f, o, k, a, b⟩ = false → P)
    (h2 : opIs f = true → ¬ o < 8 → opGood ⟨f, o, k, a, b⟩ = false → P)
    (h3 : opIs f = true → o < 8 → ¬ k < 8 → opGood ⟨f, o, k, a, b⟩ = false → P)
    (h4 : opIs f = true → o < 8 → k < 8 → opK f = false → (k == 0) = false → opGood ⟨f, o, k, a, b⟩ = false → P)
    (h5 : opIs f = true → o < 8 → k < 8 → (opK f = true ∨ (opK f = false ∧ (k == 0) = true)) → opA f = false → (a == 0) = false → opGood ⟨f, o, k, a, b⟩ = false → P)
    (h6 : opIs f = true → o < 8 → k < 8 → (opK f = true ∨ (opK f = false ∧ (k == 0) = true)) → (opA f = true ∨ (opA f = false ∧ (a == 0) = true)) → opB f = false → (b == 0) = false → opGood ⟨f, o, k, a, b⟩ = false → P)
    (h7 : opIs f = true → o < 8 → k < 8 → (opK f = true ∨ (opK f = false ∧ (k == 0) = true)) → (opA f = true ∨ (opA f = false ∧ (a == 0) = true)) → (opB f = true ∨ (opB f = false ∧ (b == 0) = true)) → opGood ⟨f, o, k, a, b⟩ = true → P) : P := by
  rcases bool_two (opIs f) with i1 | i1
  · by_cases i2 : o < 8
    · by_cases i3 : k < 8
      · have part : ∀ (K : Bool) (x : Int), (K = true ∨ (K = false ∧ (x == 0) = true)) ∨ (K = false ∧ (x == 0) = false) := fun K x => by
          rcases bool_two K with h | h <;> rcases bool_two (x == 0) with h' | h' <;> simp [h, h']
        rcases part (opK f) k with i4 | ⟨i4, i4'⟩
        · rcases part (opA f) a with i5 | ⟨i5, i5'⟩
          · rcases part (opB f) b with i6 | ⟨i6, i6'⟩
            · refine h7 i1 i2 i3 i4 i5 i6 ?_
              rw [good_iff]
              refine ⟨i1, i2, i3, ?_, ?_, ?_⟩
              · rcases i4 with h | ⟨_, h⟩; exact .inl h; exact .inr (by simpa using h)
              · rcases i5 with h | ⟨_, h⟩; exact .inl h; exact .inr (by simpa using h)
              · rcases i6 with h | ⟨_, h⟩; exact .inl h; exact .inr (by simpa using h)
            · exact h6 i1 i2 i3 i4 i5 i6 i6' (by simp [opGood, i6]; intros; simpa using i6')
          · exact h5 i1 i2 i3 i4 i5 i5' (by simp [opGood, i5]; intros; simp at i5'; omega)
        · exact h4 i1 i2 i3 i4 i4' (by simp [opGood, i4]; intros; simp at i4'; omega)
      · exact h3 i1 i2 i3 (by simp [opGood]; intros; omega)
    · exact h2 i1 i2 (by simp [opGood]; intros; omega)
  · exact h1 i1 (by simp [opGood, i1])
set_option maxHeartbeats 4000000 in
theorem valid_any (w : World) (hG : Glob4 w) (f o k a b : Int) (hx : (⟨f, o, k, a, b⟩ : Opn).In) : Calls Tryz.prog 66 #[.agg #[.int .u8 f, .int .u8 o, .int .u8 k, .int .u16 a, .int .u16 b]] w fun e w' =>
    e = .returned (.bool (opGood ⟨f, o, k, a, b⟩)) ∧ Keeps [] w w' := by
  obtain ⟨f0, f1, o0, o1, k0, k1, a0, a1, b0, b1⟩ := hx
  simp only at f0 f1 o0 o1 k0 k1 a0 a1 b0 b1
  have hc := fun w hG => find_any w hG f f0 f1
  have key : ∀ (G : Bool), opGood ⟨f, o, k, a, b⟩ = G → Calls Tryz.prog 66 #[.agg #[.int .u8 f, .int .u8 o, .int .u8 k, .int .u16 a, .int .u16 b]] w fun e w' =>
    e = .returned (.bool G) ∧ Keeps [] w w' := by
    intro G hg
    have hk0 := (Keeps.refl [] w).alloc (.cells #[.int .u8 f, .int .u8 o, .int .u8 k, .int .u16 a, .int .u16 b] 34)
    apply good_ways f o k a b
    · intro i1 hg2
      obtain rfl := hg.symm.trans hg2
      rw [i1] at hc
      clear hg hg2
      go_enter Tryz.func66, Tryz.ntmps66
      go_wp2_with fail
      refine (hc _ (hG.new hk0)).mono ?_; rintro e w1 ⟨rfl, hk1⟩
      have hb := boxed5 hk1
      replace hk1 := hk0.trans hk1 (FSub.refl _ _)
      obtain ⟨c0, c1, c2, c3, c4, cl⟩ := cell5 hb
      clear hb
      go_wp2_with fail
      go_ret
      exact ⟨rfl, hk1.alloc _⟩
    · intro i1 i2 hg2
      obtain rfl := hg.symm.trans hg2
      rw [i1] at hc
      clear hg hg2
      go_enter Tryz.func66, Tryz.ntmps66
      go_wp2_with fail
      refine (hc _ (hG.new hk0)).mono ?_; rintro e w1 ⟨rfl, hk1⟩
      have hb := boxed5 hk1
      replace hk1 := hk0.trans hk1 (FSub.refl _ _)
      obtain ⟨c0, c1, c2, c3, c4, cl⟩ := cell5 hb
      clear hb
      go_wp2_with fail
      go_ret
      exact ⟨rfl, hk1.alloc _⟩
    · intro i1 i2 i3 hg2
      obtain rfl := hg.symm.trans hg2
      rw [i1] at hc
      clear hg hg2
      go_enter Tryz.func66, Tryz.ntmps66
      go_wp2_with fail
      refine (hc _ (hG.new hk0)).mono ?_; rintro e w1 ⟨rfl, hk1⟩
      have hb := boxed5 hk1
      replace hk1 := hk0.trans hk1 (FSub.refl _ _)
      obtain ⟨c0, c1, c2, c3, c4, cl⟩ := cell5 hb
      clear hb
      go_wp2_with fail
      go_ret
      exact ⟨rfl, hk1.alloc _⟩
    · intro i1 i2 i3 i4 i4' hg2
      obtain rfl := hg.symm.trans hg2
      rw [i1, i4] at hc
      clear hg hg2
      go_enter Tryz.func66, Tryz.ntmps66
      go_wp2_with fail
      refine (hc _ (hG.new hk0)).mono ?_; rintro e w1 ⟨rfl, hk1⟩
      have hb := boxed5 hk1
      replace hk1 := hk0.trans hk1 (FSub.refl _ _)
      obtain ⟨c0, c1, c2, c3, c4, cl⟩ := cell5 hb
      clear hb
      go_wp2_with fail
      go_ret
      exact ⟨rfl, hk1.alloc _⟩
    · intro i1 i2 i3 i4 i5 i5' hg2
      obtain rfl := hg.symm.trans hg2
      clear hg hg2
      rcases i4 with i4 | ⟨i4, i4'⟩ <;> rw [i1, i4, i5] at hc
      all_goals
        go_enter Tryz.func66, Tryz.ntmps66
        go_wp2_with fail
        refine (hc _ (hG.new hk0)).mono ?_; rintro e w1 ⟨rfl, hk1⟩
        have hb := boxed5 hk1
        replace hk1 := hk0.trans hk1 (FSub.refl _ _)
        obtain ⟨c0, c1, c2, c3, c4, cl⟩ := cell5 hb
        clear hb
        go_wp2_with fail
        go_ret
        exact ⟨rfl, hk1.alloc _⟩
    · intro i1 i2 i3 i4 i5 i6 i6' hg2
      obtain rfl := hg.symm.trans hg2
      clear hg hg2
      rcases i4 with i4 | ⟨i4, i4'⟩ <;> rcases i5 with i5 | ⟨i5, i5'⟩ <;> rw [i1, i4, i5, i6] at hc
      all_goals
        go_enter Tryz.func66, Tryz.ntmps66
        go_wp2_with fail
        refine (hc _ (hG.new hk0)).mono ?_; rintro e w1 ⟨rfl, hk1⟩
        have hb := boxed5 hk1
        replace hk1 := hk0.trans hk1 (FSub.refl _ _)
        obtain ⟨c0, c1, c2, c3, c4, cl⟩ := cell5 hb
        clear hb
        go_wp2_with fail
        go_ret
        exact ⟨rfl, hk1.alloc _⟩
    · intro i1 i2 i3 i4 i5 i6 hg2
      obtain rfl := hg.symm.trans hg2
      clear hg hg2
      rcases i4 with i4 | ⟨i4, i4'⟩ <;> rcases i5 with i5 | ⟨i5, i5'⟩ <;> rcases i6 with i6 | ⟨i6, i6'⟩ <;> rw [i1, i4, i5, i6] at hc
      all_goals
        go_enter Tryz.func66, Tryz.ntmps66
        go_wp2_with fail
        refine (hc _ (hG.new hk0)).mono ?_; rintro e w1 ⟨rfl, hk1⟩
        have hb := boxed5 hk1
        replace hk1 := hk0.trans hk1 (FSub.refl _ _)
        obtain ⟨c0, c1, c2, c3, c4, cl⟩ := cell5 hb
        clear hb
        go_wp2_with fail
        go_ret
        exact ⟨rfl, hk1.alloc _⟩
  exact key _ rfl
end Go.Proofs.YtlaccndjlfpjbaaGreatDoor
/-
  The program's Put.
-/
namespace Go.Proofs.YtlaccndjlfpjbaaGreatDoor
open Go.RowKit
set_option maxHeartbeats 4000000 in
set_option maxRecDepth 100000 in
theorem opPut_000 (w : World) (hG : Glob4 w) (f : Nat) (hf : f < 12) (o k a b : Int) (hx : (⟨f, o, k, a, b⟩ : Opn).In) (hg : opGood ⟨f, o, k, a, b⟩ = true) (hK : opK f = false) (hA : opA f = false) (hB : opB f = false) :
    Calls Tryz.prog 109 #[.agg #[.int .u8 f, .int .u8 o, .int .u8 k, .int .u16 a, .int .u16 b]] w fun e w' =>
    e = .returned (.tuple #[.string (strOfNums ([(f : Int), o])), .int .i64 0]) ∧ Keeps [] w w' := by
  have hv := fun w hG => valid_any w hG f o k a b hx
  rw [hg] at hv
  have hrow := fun (w : World) (hG : Glob4 w) => hG.row f hf
  rw [hK, hA, hB] at hrow
  obtain ⟨f0, f1, o0, o1, k0, k1, a0, a1, b0, b1⟩ := hx
  simp only at f0 f1 o0 o1 k0 k1 a0 a1 b0 b1
  clear hK hA hB hg
  generalize opM f = M at *
  generalize bs (opNm f) = NM at *
  obtain ⟨i0, hi, hz0, hz1, hz2⟩ := info_parts Tryz.info8
  have hk0 := (Keeps.refl [] w).alloc (.cells #[.int .u8 f, .int .u8 o, .int .u8 k, .int .u16 a, .int .u16 b] 34)
  generalize hS : strOfNums ([(f : Int), o]) = S at *
  have HS := Lib.hid hS; clear hS
  go_enter Tryz.func109, Tryz.ntmps109
  go_wp2_with fail
  refine (hv _ (hG.new hk0)).mono ?_; rintro e w1 ⟨rfl, hk1⟩
  have hb := boxed5 hk1
  replace hk1 := hk0.trans hk1 (FSub.refl _ _)
  obtain ⟨c0, c1, c2, c3, c4, cl⟩ := cell5 hb
  obtain ⟨r0, r1, r2, r3, r4⟩ := hrow _ (hG.new hk1)
  have HP := Lib.hid (PAt.begin2 (e := 5) (qb := .cells #[.int .u8 M, .string NM, .bool false, .bool false, .bool false] 103) hb hk1 (.int .u8 f) (.int .u8 o))
  clear hrow hv hk0 hb hk1
  have hcv := row_text (xs := [(f : Int), o]) HP.out.row
  rw [HS.out] at hcv
  go_wp2_with fail
  go_ret2
  exact ⟨rfl, HP.out.keeps⟩
set_option maxHeartbeats 4000000 in
set_option maxRecDepth 100000 in
theorem opPut_010 (w : World) (hG : Glob4 w) (f : Nat) (hf : f < 12) (o k a b : Int) (hx : (⟨f, o, k, a, b⟩ : Opn).In) (hg : opGood ⟨f, o, k, a, b⟩ = true) (hK : opK f = false) (hA : opA f = true) (hB : opB f = false) :
    Calls Tryz.prog 109 #[.agg #[.int .u8 f, .int .u8 o, .int .u8 k, .int .u16 a, .int .u16 b]] w fun e w' =>
    e = .returned (.tuple #[.string (strOfNums ([(f : Int), o] ++ [a / 256, a % 256])), .int .i64 0]) ∧ Keeps [] w w' := by
  have hv := fun w hG => valid_any w hG f o k a b hx
  rw [hg] at hv
  have hrow := fun (w : World) (hG : Glob4 w) => hG.row f hf
  rw [hK, hA, hB] at hrow
  obtain ⟨f0, f1, o0, o1, k0, k1, a0, a1, b0, b1⟩ := hx
  simp only at f0 f1 o0 o1 k0 k1 a0 a1 b0 b1
  clear hK hA hB hg
  generalize opM f = M at *
  generalize bs (opNm f) = NM at *
  obtain ⟨i0, hi, hz0, hz1, hz2⟩ := info_parts Tryz.info8
  have hk0 := (Keeps.refl [] w).alloc (.cells #[.int .u8 f, .int .u8 o, .int .u8 k, .int .u16 a, .int .u16 b] 34)
  generalize hS : strOfNums ([(f : Int), o] ++ [a / 256, a % 256]) = S at *
  have HS := Lib.hid hS; clear hS
  go_enter Tryz.func109, Tryz.ntmps109
  go_wp2_with fail
  refine (hv _ (hG.new hk0)).mono ?_; rintro e w1 ⟨rfl, hk1⟩
  have hb := boxed5 hk1
  replace hk1 := hk0.trans hk1 (FSub.refl _ _)
  obtain ⟨c0, c1, c2, c3, c4, cl⟩ := cell5 hb
  obtain ⟨r0, r1, r2, r3, r4⟩ := hrow _ (hG.new hk1)
  have HP := Lib.hid (PAt.begin2 (e := 5) (qb := .cells #[.int .u8 M, .string NM, .bool false, .bool true, .bool false] 103) hb hk1 (.int .u8 f) (.int .u8 o))
  clear hrow hv hk0 hb hk1
  go_wp2_with (at_builtin; refine wpList_append_sharp _ rfl _ _ 116 rfl 5 i0 (.int .u8 0) 1 Tryz.underlying116 hi hz0 hz1 hz2 rfl _ 2 [.int .u8 f, .int .u8 o] rfl (HP.out.row.alloc _) ⟨_, 0, none⟩ 2 2 [.int .u8 (a / 256), .int .u8 (a % 256)] rfl rfl ?c1 ?c2 ?c3 ?c4 ?_)
  case c1 => exact two_at (by simp) _ _ _
  case c2 => intro u hu; simp at hu; first | (subst hu; rfl) | (rcases hu with rfl | rfl <;> rfl)
  case c3 => unfold maxLen; omega
  case c4 => omega
  intro v1 w2 ho1 hq1 hs1 hn1
  replace HP := Lib.hid (HP.out.step2 hq1 ho1 hs1 (by simp))
  clear ho1 hq1 hs1 hn1
  obtain ⟨c0, c1, c2, c3, c4, cl⟩ := cell5 HP.out.xb
  obtain ⟨q0, q1, q2, q3, q4, ql⟩ := cell5 HP.out.qb
  have hcv := row_text (xs := [(f : Int), o] ++ [a / 256, a % 256]) HP.out.row
  rw [HS.out] at hcv
  go_wp2_with fail
  go_ret2
  exact ⟨rfl, HP.out.keeps⟩
set_option maxHeartbeats 4000000 in
set_option maxRecDepth 100000 in
theorem opPut_011 (w : World) (hG : Glob4 w) (f : Nat) (hf : f < 12) (o k a b : Int) (hx : (⟨f, o, k, a, b⟩ : Opn).In) (hg : opGood ⟨f, o, k, a, b⟩ = true) (hK : opK f = false) (hA : opA f = true) (hB : opB f = true) :
    Calls Tryz.prog 109 #[.agg #[.int .u8 f, .int .u8 o, .int .u8 k, .int .u16 a, .int .u16 b]] w fun e w' =>
    e = .returned (.tuple #[.string (strOfNums ([(f : Int), o] ++ [a / 256, a % 256] ++ [b / 256, b % 256])), .int .i64 0]) ∧ Keeps [] w w' := by
  have hv := fun w hG => valid_any w hG f o k a b hx
  rw [hg] at hv
  have hrow := fun (w : World) (hG : Glob4 w) => hG.row f hf
  rw [hK, hA, hB] at hrow
  obtain ⟨f0, f1, o0, o1, k0, k1, a0, a1, b0, b1⟩ := hx
  simp only at f0 f1 o0 o1 k0 k1 a0 a1 b0 b1
  clear hK hA hB hg
  generalize opM f = M at *
  generalize bs (opNm f) = NM at *
  obtain ⟨i0, hi, hz0, hz1, hz2⟩ := info_parts Tryz.info8
  have hk0 := (Keeps.refl [] w).alloc (.cells #[.int .u8 f, .int .u8 o, .int .u8 k, .int .u16 a, .int .u16 b] 34)
  generalize hS : strOfNums ([(f : Int), o] ++ [a / 256, a % 256] ++ [b / 256, b % 256]) = S at *
  have HS := Lib.hid hS; clear hS
  go_enter Tryz.func109, Tryz.ntmps109
  go_wp2_with fail
  refine (hv _ (hG.new hk0)).mono ?_; rintro e w1 ⟨rfl, hk1⟩
  have hb := boxed5 hk1
  replace hk1 := hk0.trans hk1 (FSub.refl _ _)
  obtain ⟨c0, c1, c2, c3, c4, cl⟩ := cell5 hb
  obtain ⟨r0, r1, r2, r3, r4⟩ := hrow _ (hG.new hk1)
  have HP := Lib.hid (PAt.begin2 (e := 5) (qb := .cells #[.int .u8 M, .string NM, .bool false, .bool true, .bool true] 103) hb hk1 (.int .u8 f) (.int .u8 o))
  clear hrow hv hk0 hb hk1
  go_wp2_with (at_builtin; refine wpList_append_sharp _ rfl _ _ 116 rfl 5 i0 (.int .u8 0) 1 Tryz.underlying116 hi hz0 hz1 hz2 rfl _ 2 [.int .u8 f, .int .u8 o] rfl (HP.out.row.alloc _) ⟨_, 0, none⟩ 2 2 [.int .u8 (a / 256), .int .u8 (a % 256)] rfl rfl ?c1 ?c2 ?c3 ?c4 ?_)
  case c1 => exact two_at (by simp) _ _ _
  case c2 => intro u hu; simp at hu; first | (subst hu; rfl) | (rcases hu with rfl | rfl <;> rfl)
  case c3 => unfold maxLen; omega
  case c4 => omega
  intro v1 w2 ho1 hq1 hs1 hn1
  replace HP := Lib.hid (HP.out.step2 hq1 ho1 hs1 (by simp))
  clear ho1 hq1 hs1 hn1
  obtain ⟨c0, c1, c2, c3, c4, cl⟩ := cell5 HP.out.xb
  obtain ⟨q0, q1, q2, q3, q4, ql⟩ := cell5 HP.out.qb
  go_wp2_with (at_builtin; refine wpList_append_sharp _ rfl _ _ 116 rfl 5 i0 (.int .u8 0) 1 Tryz.underlying116 hi hz0 hz1 hz2 rfl _ 4 [.int .u8 f, .int .u8 o, .int .u8 (a / 256), .int .u8 (a % 256)] rfl (HP.out.row.alloc _) ⟨_, 0, none⟩ 2 2 [.int .u8 (b / 256), .int .u8 (b % 256)] rfl rfl ?c1 ?c2 ?c3 ?c4 ?_)
  case c1 => exact two_at (by simp) _ _ _
  case c2 => intro u hu; simp at hu; first | (subst hu; rfl) | (rcases hu with rfl | rfl <;> rfl)
  case c3 => unfold maxLen; omega
  case c4 => omega
  intro v2 w3 ho2 hq2 hs2 hn2
  replace HP := Lib.hid (HP.out.step2 hq2 ho2 hs2 (by simp))
  clear ho2 hq2 hs2 hn2
  obtain ⟨c0, c1, c2, c3, c4, cl⟩ := cell5 HP.out.xb
  obtain ⟨q0, q1, q2, q3, q4, ql⟩ := cell5 HP.out.qb
  have hcv := row_text (xs := [(f : Int), o] ++ [a / 256, a % 256] ++ [b / 256, b % 256]) HP.out.row
  rw [HS.out] at hcv
  go_wp2_with fail
  go_ret2
  exact ⟨rfl, HP.out.keeps⟩
set_option maxHeartbeats 4000000 in
set_option maxRecDepth 100000 in
theorem opPut_100 (w : World) (hG : Glob4 w) (f : Nat) (hf : f < 12) (o k a b : Int) (hx : (⟨f, o, k, a, b⟩ : Opn).In) (hg : opGood ⟨f, o, k, a, b⟩ = true) (hK : opK f = true) (hA : opA f = false) (hB : opB f = false) :
    Calls Tryz.prog 109 #[.agg #[.int .u8 f, .int .u8 o, .int .u8 k, .int .u16 a, .int .u16 b]] w fun e w' =>
    e = .returned (.tuple #[.string (strOfNums ([(f : Int), o] ++ [k])), .int .i64 0]) ∧ Keeps [] w w' := by
  have hv := fun w hG => valid_any w hG f o k a b hx
  rw [hg] at hv
  have hrow := fun (w : World) (hG : Glob4 w) => hG.row f hf
  rw [hK, hA, hB] at hrow
  obtain ⟨f0, f1, o0, o1, k0, k1, a0, a1, b0, b1⟩ := hx
  simp only at f0 f1 o0 o1 k0 k1 a0 a1 b0 b1
  clear hK hA hB hg
  generalize opM f = M at *
  generalize bs (opNm f) = NM at *
  obtain ⟨i0, hi, hz0, hz1, hz2⟩ := info_parts Tryz.info8
  have hk0 := (Keeps.refl [] w).alloc (.cells #[.int .u8 f, .int .u8 o, .int .u8 k, .int .u16 a, .int .u16 b] 34)
  generalize hS : strOfNums ([(f : Int), o] ++ [k]) = S at *
  have HS := Lib.hid hS; clear hS
  go_enter Tryz.func109, Tryz.ntmps109
  go_wp2_with fail
  refine (hv _ (hG.new hk0)).mono ?_; rintro e w1 ⟨rfl, hk1⟩
  have hb := boxed5 hk1
  replace hk1 := hk0.trans hk1 (FSub.refl _ _)
  obtain ⟨c0, c1, c2, c3, c4, cl⟩ := cell5 hb
  obtain ⟨r0, r1, r2, r3, r4⟩ := hrow _ (hG.new hk1)
  have HP := Lib.hid (PAt.begin2 (e := 5) (qb := .cells #[.int .u8 M, .string NM, .bool true, .bool false, .bool false] 103) hb hk1 (.int .u8 f) (.int .u8 o))
  clear hrow hv hk0 hb hk1
  go_wp2_with (at_builtin; refine wpList_append_sharp _ rfl _ _ 116 rfl 5 i0 (.int .u8 0) 1 Tryz.underlying116 hi hz0 hz1 hz2 rfl _ 2 [.int .u8 f, .int .u8 o] rfl (HP.out.row.alloc _) ⟨_, 0, none⟩ 1 1 [.int .u8 k] rfl rfl ?c1 ?c2 ?c3 ?c4 ?_)
  case c1 => exact one_at (by simp) _ _
  case c2 => intro u hu; simp at hu; first | (subst hu; rfl) | (rcases hu with rfl | rfl <;> rfl)
  case c3 => unfold maxLen; omega
  case c4 => omega
  intro v1 w2 ho1 hq1 hs1 hn1
  replace HP := Lib.hid (HP.out.step2 hq1 ho1 hs1 (by simp))
  clear ho1 hq1 hs1 hn1
  obtain ⟨c0, c1, c2, c3, c4, cl⟩ := cell5 HP.out.xb
  obtain ⟨q0, q1, q2, q3, q4, ql⟩ := cell5 HP.out.qb
  have hcv := row_text (xs := [(f : Int), o] ++ [k]) HP.out.row
  rw [HS.out] at hcv
  go_wp2_with fail
  go_ret2
  exact ⟨rfl, HP.out.keeps⟩
set_option maxHeartbeats 4000000 in
set_option maxRecDepth 100000 in
theorem opPut_110 (w : World) (hG : Glob4 w) (f : Nat) (hf : f < 12) (o k a b : Int) (hx : (⟨f, o, k, a, b⟩ : Opn).In) (hg : opGood ⟨f, o, k, a, b⟩ = true) (hK : opK f = true) (hA : opA f = true) (hB : opB f = false) :
    Calls Tryz.prog 109 #[.agg #[.int .u8 f, .int .u8 o, .int .u8 k, .int .u16 a, .int .u16 b]] w fun e w' =>
    e = .returned (.tuple #[.string (strOfNums ([(f : Int), o] ++ [k] ++ [a / 256, a % 256])), .int .i64 0]) ∧ Keeps [] w w' := by
  have hv := fun w hG => valid_any w hG f o k a b hx
  rw [hg] at hv
  have hrow := fun (w : World) (hG : Glob4 w) => hG.row f hf
  rw [hK, hA, hB] at hrow
  obtain ⟨f0, f1, o0, o1, k0, k1, a0, a1, b0, b1⟩ := hx
  simp only at f0 f1 o0 o1 k0 k1 a0 a1 b0 b1
  clear hK hA hB hg
  generalize opM f = M at *
  generalize bs (opNm f) = NM at *
  obtain ⟨i0, hi, hz0, hz1, hz2⟩ := info_parts Tryz.info8
  have hk0 := (Keeps.refl [] w).alloc (.cells #[.int .u8 f, .int .u8 o, .int .u8 k, .int .u16 a, .int .u16 b] 34)
  generalize hS : strOfNums ([(f : Int), o] ++ [k] ++ [a / 256, a % 256]) = S at *
  have HS := Lib.hid hS; clear hS
  go_enter Tryz.func109, Tryz.ntmps109
  go_wp2_with fail
  refine (hv _ (hG.new hk0)).mono ?_; rintro e w1 ⟨rfl, hk1⟩
  have hb := boxed5 hk1
  replace hk1 := hk0.trans hk1 (FSub.refl _ _)
  obtain ⟨c0, c1, c2, c3, c4, cl⟩ := cell5 hb
  obtain ⟨r0, r1, r2, r3, r4⟩ := hrow _ (hG.new hk1)
  have HP := Lib.hid (PAt.begin2 (e := 5) (qb := .cells #[.int .u8 M, .string NM, .bool true, .bool true, .bool false] 103) hb hk1 (.int .u8 f) (.int .u8 o))
  clear hrow hv hk0 hb hk1
  go_wp2_with (at_builtin; refine wpList_append_sharp _ rfl _ _ 116 rfl 5 i0 (.int .u8 0) 1 Tryz.underlying116 hi hz0 hz1 hz2 rfl _ 2 [.int .u8 f, .int .u8 o] rfl (HP.out.row.alloc _) ⟨_, 0, none⟩ 1 1 [.int .u8 k] rfl rfl ?c1 ?c2 ?c3 ?c4 ?_)
  case c1 => exact one_at (by simp) _ _
  case c2 => intro u hu; simp at hu; first | (subst hu; rfl) | (rcases hu with rfl | rfl <;> rfl)
  case c3 => unfold maxLen; omega
  case c4 => omega
  intro v1 w2 ho1 hq1 hs1 hn1
  replace HP := Lib.hid (HP.out.step2 hq1 ho1 hs1 (by simp))
  clear ho1 hq1 hs1 hn1
  obtain ⟨c0, c1, c2, c3, c4, cl⟩ := cell5 HP.out.xb
  obtain ⟨q0, q1, q2, q3, q4, ql⟩ := cell5 HP.out.qb
  go_wp2_with (at_builtin; refine wpList_append_sharp _ rfl _ _ 116 rfl 5 i0 (.int .u8 0) 1 Tryz.underlying116 hi hz0 hz1 hz2 rfl _ 3 [.int .u8 f, .int .u8 o, .int .u8 k] rfl (HP.out.row.alloc _) ⟨_, 0, none⟩ 2 2 [.int .u8 (a / 256), .int .u8 (a % 256)] rfl rfl ?c1 ?c2 ?c3 ?c4 ?_)
  case c1 => exact two_at (by simp) _ _ _
  case c2 => intro u hu; simp at hu; first | (subst hu; rfl) | (rcases hu with rfl | rfl <;> rfl)
  case c3 => unfold maxLen; omega
  case c4 => omega
  intro v2 w3 ho2 hq2 hs2 hn2
  replace HP := Lib.hid (HP.out.step2 hq2 ho2 hs2 (by simp))
  clear ho2 hq2 hs2 hn2
  obtain ⟨c0, c1, c2, c3, c4, cl⟩ := cell5 HP.out.xb
  obtain ⟨q0, q1, q2, q3, q4, ql⟩ := cell5 HP.out.qb
  have hcv := row_text (xs := [(f : Int), o] ++ [k] ++ [a / 256, a % 256]) HP.out.row
  rw [HS.out] at hcv
  go_wp2_with fail
  go_ret2
  exact ⟨rfl, HP.out.keeps⟩
set_option maxHeartbeats 4000000 in
set_option maxRecDepth 100000 in
theorem opPut_111 (w : World) (hG : Glob4 w) (f : Nat) (hf : f < 12) (o k a b : Int) (hx : (⟨f, o, k, a, b⟩ : Opn).In) (hg : opGood ⟨f, o, k, a, b⟩ = true) (hK : opK f = true) (hA : opA f = true) (hB : opB f = true) :
    Calls Tryz.prog 109 #[.agg #[.int .u8 f, .int .u8 o, .int .u8 k, .int .u16 a, .int .u16 b]] w fun e w' =>
    e = .returned (.tuple #[.string (strOfNums ([(f : Int), o] ++ [k] ++ [a / 256, a % 256] ++ [b / 256, b % 256])), .int .i64 0]) ∧ Keeps [] w w' := by
  have hv := fun w hG => valid_any w hG f o k a b hx
  rw [hg] at hv
  have hrow := fun (w : World) (hG : Glob4 w) => hG.row f hf
  rw [hK, hA, hB] at hrow
  obtain ⟨f0, f1, o0, o1, k0, k1, a0, a1, b0, b1⟩ := hx
  simp only at f0 f1 o0 o1 k0 k1 a0 a1 b0 b1
  clear hK hA hB hg
  generalize opM f = M at *
  generalize bs (opNm f) = NM at *
  obtain ⟨i0, hi, hz0, hz1, hz2⟩ := info_parts Tryz.info8
  have hk0 := (Keeps.refl [] w).alloc (.cells #[.int .u8 f, .int .u8 o, .int .u8 k, .int .u16 a, .int .u16 b] 34)
  generalize hS : strOfNums ([(f : Int), o] ++ [k] ++ [a / 256, a % 256] ++ [b / 256, b % 256]) = S at *
  have HS := Lib.hid hS; clear hS
  go_enter Tryz.func109, Tryz.ntmps109
  go_wp2_with fail
  refine (hv _ (hG.new hk0)).mono ?_; rintro e w1 ⟨rfl, hk1⟩
  have hb := boxed5 hk1
  replace hk1 := hk0.trans hk1 (FSub.refl _ _)
  obtain ⟨c0, c1, c2, c3, c4, cl⟩ := cell5 hb
  obtain ⟨r0, r1, r2, r3, r4⟩ := hrow _ (hG.new hk1)
  have HP := Lib.hid (PAt.begin2 (e := 5) (qb := .cells #[.int .u8 M, .string NM, .bool true, .bool true, .bool true] 103) hb hk1 (.int .u8 f) (.int .u8 o))
  clear hrow hv hk0 hb hk1
  go_wp2_with (at_builtin; refine wpList_append_sharp _ rfl _ _ 116 rfl 5 i0 (.int .u8 0) 1 Tryz.underlying116 hi hz0 hz1 hz2 rfl _ 2 [.int .u8 f, .int .u8 o] rfl (HP.out.row.alloc _) ⟨_, 0, none⟩ 1 1 [.int .u8 k] rfl rfl ?c1 ?c2 ?c3 ?c4 ?_)
  case c1 => exact one_at (by simp) _ _
  case c2 => intro u hu; simp at hu; first | (subst hu; rfl) | (rcases hu with rfl | rfl <;> rfl)
  case c3 => unfold maxLen; omega
  case c4 => omega
  intro v1 w2 ho1 hq1 hs1 hn1
  replace HP := Lib.hid (HP.out.step2 hq1 ho1 hs1 (by simp))
  clear ho1 hq1 hs1 hn1
  obtain ⟨c0, c1, c2, c3, c4, cl⟩ := cell5 HP.out.xb
  obtain ⟨q0, q1, q2, q3, q4, ql⟩ := cell5 HP.out.qb
  go_wp2_with (at_builtin; refine wpList_append_sharp _ rfl _ _ 116 rfl 5 i0 (.int .u8 0) 1 Tryz.underlying116 hi hz0 hz1 hz2 rfl _ 3 [.int .u8 f, .int .u8 o, .int .u8 k] rfl (HP.out.row.alloc _) ⟨_, 0, none⟩ 2 2 [.int .u8 (a / 256), .int .u8 (a % 256)] rfl rfl ?c1 ?c2 ?c3 ?c4 ?_)
  case c1 => exact two_at (by simp) _ _ _
  case c2 => intro u hu; simp at hu; first | (subst hu; rfl) | (rcases hu with rfl | rfl <;> rfl)
  case c3 => unfold maxLen; omega
  case c4 => omega
  intro v2 w3 ho2 hq2 hs2 hn2
  replace HP := Lib.hid (HP.out.step2 hq2 ho2 hs2 (by simp))
  clear ho2 hq2 hs2 hn2
  obtain ⟨c0, c1, c2, c3, c4, cl⟩ := cell5 HP.out.xb
  obtain ⟨q0, q1, q2, q3, q4, ql⟩ := cell5 HP.out.qb
  go_wp2_with (at_builtin; refine wpList_append_sharp _ rfl _ _ 116 rfl 5 i0 (.int .u8 0) 1 Tryz.underlying116 hi hz0 hz1 hz2 rfl _ 5 [.int .u8 f, .int .u8 o, .int .u8 k, .int .u8 (a / 256), .int .u8 (a % 256)] rfl (HP.out.row.alloc _) ⟨_, 0, none⟩ 2 2 [.int .u8 (b / 256), .int .u8 (b % 256)] rfl rfl ?c1 ?c2 ?c3 ?c4 ?_)
  case c1 => exact two_at (by simp) _ _ _
  case c2 => intro u hu; simp at hu; first | (subst hu; rfl) | (rcases hu with rfl | rfl <;> rfl)
  case c3 => unfold maxLen; omega
  case c4 => omega
  intro v3 w4 ho3 hq3 hs3 hn3
  replace HP := Lib.hid (HP.out.step2 hq3 ho3 hs3 (by simp))
  clear ho3 hq3 hs3 hn3
  obtain ⟨c0, c1, c2, c3, c4, cl⟩ := cell5 HP.out.xb
  obtain ⟨q0, q1, q2, q3, q4, ql⟩ := cell5 HP.out.qb
  have hcv := row_text (xs := [(f : Int), o] ++ [k] ++ [a / 256, a % 256] ++ [b / 256, b % 256]) HP.out.row
  rw [HS.out] at hcv
  go_wp2_with fail
  go_ret2
  exact ⟨rfl, HP.out.keeps⟩
theorem opPut_good (w : World) (hG : Glob4 w) (f : Nat) (o k a b : Int) (hx : (⟨f, o, k, a, b⟩ : Opn).In) (hg : opGood ⟨f, o, k, a, b⟩ = true) :
    Calls Tryz.prog 109 #[.agg #[.int .u8 f, .int .u8 o, .int .u8 k, .int .u16 a, .int .u16 b]] w fun e w' =>
    e = .returned (.tuple #[.string (strOfNums (opPut ⟨f, o, k, a, b⟩)), .int .i64 0]) ∧ Keeps [] w w' := by
  have is := ((good_iff _).1 hg).is
  have hf : f < 12 := by simp [opIs] at is; omega
  have ways : (opK f = false ∧ opA f = false ∧ opB f = false) ∨ (opK f = false ∧ opA f = true ∧ opB f = false) ∨ (opK f = false ∧ opA f = true ∧ opB f = true) ∨ (opK f = true ∧ opA f = false ∧ opB f = false) ∨ (opK f = true ∧ opA f = true ∧ opB f = false) ∨ (opK f = true ∧ opA f = true ∧ opB f = true) := by
    have is2 : 1 ≤ f := by simp [opIs] at is; omega
    rcases (by omega : f = 1 ∨ f = 2 ∨ f = 3 ∨ f = 4 ∨ f = 5 ∨ f = 6 ∨ f = 7 ∨ f = 8 ∨ f = 9 ∨ f = 10 ∨ f = 11) with rfl | rfl | rfl | rfl | rfl | rfl | rfl | rfl | rfl | rfl | rfl <;> decide
  rcases ways with ⟨hK, hA, hB⟩ | ⟨hK, hA, hB⟩ | ⟨hK, hA, hB⟩ | ⟨hK, hA, hB⟩ | ⟨hK, hA, hB⟩ | ⟨hK, hA, hB⟩
  · have h := opPut_000 w hG f hf o k a b hx hg hK hA hB
    have e : opPut ⟨f, o, k, a, b⟩ = [(f : Int), o] := by simp only [opPut, hK, hA, hB]; rfl
    rw [e]; exact h
  · have h := opPut_010 w hG f hf o k a b hx hg hK hA hB
    have e : opPut ⟨f, o, k, a, b⟩ = [(f : Int), o] ++ [a / 256, a % 256] := by simp only [opPut, hK, hA, hB]; rfl
    rw [e]; exact h
  · have h := opPut_011 w hG f hf o k a b hx hg hK hA hB
    have e : opPut ⟨f, o, k, a, b⟩ = [(f : Int), o] ++ [a / 256, a % 256] ++ [b / 256, b % 256] := by simp only [opPut, hK, hA, hB]; rfl
    rw [e]; exact h
  · have h := opPut_100 w hG f hf o k a b hx hg hK hA hB
    have e : opPut ⟨f, o, k, a, b⟩ = [(f : Int), o] ++ [k] := by simp only [opPut, hK, hA, hB]; rfl
    rw [e]; exact h
  · have h := opPut_110 w hG f hf o k a b hx hg hK hA hB
    have e : opPut ⟨f, o, k, a, b⟩ = [(f : Int), o] ++ [k] ++ [a / 256, a % 256] := by simp only [opPut, hK, hA, hB]; rfl
    rw [e]; exact h
  · have h := opPut_111 w hG f hf o k a b hx hg hK hA hB
    have e : opPut ⟨f, o, k, a, b⟩ = [(f : Int), o] ++ [k] ++ [a / 256, a % 256] ++ [b / 256, b % 256] := by simp only [opPut, hK, hA, hB]; rfl
    rw [e]; exact h
theorem opPut_bad (w : World) (hG : Glob4 w) (f o k a b : Int) (hx : (⟨f, o, k, a, b⟩ : Opn).In) (hg : opGood ⟨f, o, k, a, b⟩ = false) :
    Calls Tryz.prog 109 #[.agg #[.int .u8 f, .int .u8 o, .int .u8 k, .int .u16 a, .int .u16 b]] w fun e w' =>
    e = .returned (.tuple #[.string ⟨#[]⟩, .int .i64 4]) ∧ Keeps [] w w' := by
  have hv := fun w hG => valid_any w hG f o k a b hx
  rw [hg] at hv
  have hk0 := (Keeps.refl [] w).alloc (.cells #[.int .u8 f, .int .u8 o, .int .u8 k, .int .u16 a, .int .u16 b] 34)
  go_enter Tryz.func109, Tryz.ntmps109
  go_wp2_with fail
  refine (hv _ (hG.new hk0)).mono ?_; rintro e w1 ⟨rfl, hk1⟩
  go_wp2_with fail
  go_ret2
  exact ⟨rfl, hk0.trans hk1 (FSub.refl _ _)⟩
def opPutE (x : Opn) : Int := if opGood x then 0 else 4
theorem opPut_any (w : World) (hG : Glob4 w) (f o k a b : Int) (hx : (⟨f, o, k, a, b⟩ : Opn).In) :
    Calls Tryz.prog 109 #[.agg #[.int .u8 f, .int .u8 o, .int .u8 k, .int .u16 a, .int .u16 b]] w fun e w' =>
    e = .returned (.tuple #[.string (if opGood ⟨f, o, k, a, b⟩ then strOfNums (opPut ⟨f, o, k, a, b⟩) else ⟨#[]⟩), .int .i64 (opPutE ⟨f, o, k, a, b⟩)]) ∧ Keeps [] w w' := by
  rcases bool_two (opGood ⟨f, o, k, a, b⟩) with hg | hg
  · obtain ⟨f, rfl⟩ := Int.eq_ofNat_of_zero_le hx.f0
    have h := opPut_good w hG f o k a b hx hg
    simp only [opPutE, hg, if_true]; exact h
  · have h := opPut_bad w hG f o k a b hx hg
    simp only [opPutE, hg, if_false, Bool.false_eq_true]; exact h
end Go.Proofs.YtlaccndjlfpjbaaGreatDoor
/-
  The program's Check; the document's Check and Put; a number's two bytes.
-/
namespace Go.Proofs.YtlaccndjlfpjbaaGreatDoor
open Go.RowKit
def opChk (m : Int) (x : Opn) : Int := if opGood x && opM x.f == m then 0 else 10
set_option maxHeartbeats 4000000 in
set_option maxRecDepth 100000 in
theorem Check4_any (w : World) (hG : Glob4 w) (m f o k a b : Int) (m0 : 0 ≤ m) (m1 : m < 256) (hx : (⟨f, o, k, a, b⟩ : Opn).In) :
    Calls Tryz.prog 51 #[.int .u8 m, .agg #[.int .u8 f, .int .u8 o, .int .u8 k, .int .u16 a, .int .u16 b]] w fun e w' => e = .returned (.int .i64 (opChk m ⟨f, o, k, a, b⟩)) ∧ Keeps [] w w' := by
  have hv := fun w hG => valid_any w hG f o k a b hx
  have hk0 := (Keeps.refl [] w).alloc (.cells #[.int .u8 f, .int .u8 o, .int .u8 k, .int .u16 a, .int .u16 b] 34)
  rcases bool_two (opGood ⟨f, o, k, a, b⟩) with hg | hg
  · have is := ((good_iff _).1 hg).is
    obtain ⟨f, rfl⟩ := Int.eq_ofNat_of_zero_le hx.f0
    have hf : f < 12 := by simp [opIs] at is; omega
    have hrow := fun (w : World) (hG : Glob4 w) => hG.row f hf
    have ec : opChk m ⟨f, o, k, a, b⟩ = if opM f = m then 0 else 10 := by simp [opChk, hg]
    rw [ec]
    rw [hg] at hv
    have hM := opM_b f
    clear ec is hg hx
    generalize opM f = M at *
    generalize bs (opNm f) = NM at *
    generalize opK f = K at *
    generalize opA f = A at *
    generalize opB f = BB at *
    by_cases hm : M = m
    · rw [if_pos hm]
      subst hm
      go_enter Tryz.func51, Tryz.ntmps51
      go_wp2_with fail
      refine (hv _ (hG.new hk0)).mono ?_; rintro e w1 ⟨rfl, hk1⟩
      have hb := boxed5 hk1
      replace hk1 := hk0.trans hk1 (FSub.refl _ _)
      obtain ⟨c0, c1, c2, c3, c4, cl⟩ := cell5 hb
      obtain ⟨r0, r1, r2, r3, r4⟩ := hrow _ (hG.new hk1)
      clear hb hrow hv
      go_wp2_with fail
      go_ret
      exact ⟨rfl, hk1⟩
    · rw [if_neg hm]
      have hm2 : (M == m) = false := by simpa using hm
      go_enter Tryz.func51, Tryz.ntmps51
      go_wp2_with fail
      refine (hv _ (hG.new hk0)).mono ?_; rintro e w1 ⟨rfl, hk1⟩
      have hb := boxed5 hk1
      replace hk1 := hk0.trans hk1 (FSub.refl _ _)
      obtain ⟨c0, c1, c2, c3, c4, cl⟩ := cell5 hb
      obtain ⟨r0, r1, r2, r3, r4⟩ := hrow _ (hG.new hk1)
      clear hb hrow hv
      go_wp2_with fail
      go_ret
      exact ⟨rfl, hk1⟩
  · have ec : opChk m ⟨f, o, k, a, b⟩ = 10 := by simp [opChk, hg]
    rw [ec]
    rw [hg] at hv
    go_enter Tryz.func51, Tryz.ntmps51
    go_wp2_with fail
    refine (hv _ (hG.new hk0)).mono ?_; rintro e w1 ⟨rfl, hk1⟩
    go_wp2_with fail
    go_ret
    exact ⟨rfl, hk0.trans hk1 (FSub.refl _ _)⟩
end Go.Proofs.YtlaccndjlfpjbaaGreatDoor
