/-
  What the package-level variables hold; the row of an operation's number, of the program and of the document.
-/
import Derived.Shelf.Lay
import Derived.Shelf.LaySoft
import Derived.Shelf.Strings.Builder1
import Derived.Shelf.Strings.Builder2
import Derived.Shelf.Strings.OnBuilder
import Derived.Shelf.Small.Bits
import Derived.Shelf.Strings.BuilderF
import Derived.Shelf.Strings.BuilderK
import Derived.Shelf.Strings.Builder2Cap
import Derived.Shelf.Strconv.Itoa0
import Derived.Shelf.Strconv.Itoa1
import Derived.Shelf.LaysM
import Derived.Shelf.Strconv.Itoa2
import Derived.Shelf.Strconv.Itoa3
import Derived.Test.YtbnhcggjcdipeaaGreatDoorProg
import Derived.Laws.ResultCell
import Derived.Test.YtbnhcggjcdipeaaGreatDoorWA02
import Derived.Test.YtbnhcggjcdipeaaGreatDoorWA03
set_option linter.unusedSimpArgs false
set_option linter.unusedVariables false
namespace Go.Proofs.YtbnhcggjcdipeaaGreatDoor
open Go.RowKit
def kindCells : Array Value := #[
  .int .u8 0, .string ⟨#[]⟩, .bool false, .bool false, .bool false,
  .int .u8 0, .string ⟨#[114, 101, 97, 100]⟩, .bool false, .bool false, .bool false,
  .int .u8 0, .string ⟨#[119, 114, 105, 116, 101]⟩, .bool false, .bool true, .bool false,
  .int .u8 0, .string ⟨#[99, 97, 115]⟩, .bool false, .bool true, .bool true,
  .int .u8 1, .string ⟨#[101, 110, 113]⟩, .bool false, .bool true, .bool false,
  .int .u8 1, .string ⟨#[100, 101, 113]⟩, .bool false, .bool false, .bool false,
  .int .u8 2, .string ⟨#[103, 101, 116]⟩, .bool true, .bool false, .bool false,
  .int .u8 2, .string ⟨#[112, 117, 116]⟩, .bool true, .bool true, .bool false,
  .int .u8 2, .string ⟨#[100, 101, 108]⟩, .bool true, .bool false, .bool false,
  .int .u8 2, .string ⟨#[115, 119, 97, 112]⟩, .bool true, .bool true, .bool true,
  .int .u8 3, .string ⟨#[97, 99, 113, 117, 105, 114, 101]⟩, .bool false, .bool false, .bool false,
  .int .u8 3, .string ⟨#[114, 101, 108, 101, 97, 115, 101]⟩, .bool false, .bool false, .bool false]
/-- The package-level variable holds what start-up lays: of a seat where no text is read. -/
structure Glob4 (w : World) : Prop where
  kinds : ∃ t fr, w.heap[0]? = some (.cells kindCells t fr)
theorem Glob4.new {w w' : World} (h : Glob4 w) (hk : Keeps [] w w') : Glob4 w' := by
  obtain ⟨t, fr, hw⟩ := h.kinds
  exact ⟨⟨t, fr, hk.heap hw (by simp)⟩⟩
theorem Glob4.kind {w : World} (h : Glob4 w) (i : Nat) (v : Value) (hv : kindCells[i]? = some v) : w.cell? ⟨0, i, none⟩ = some v := by
  obtain ⟨t, fr, hw⟩ := h.kinds
  simp [World.cell?, hw, hv]
/-- A row of the table, by its number. -/
theorem Glob4.row {w : World} (h : Glob4 w) (f : Nat) (hf : f < 12) : w.cell? ⟨0, f * 5, none⟩ = some (.int .u8 (opM f)) ∧ w.cell? ⟨0, f * 5 + 1, none⟩ = some (.string (bs (opNm f))) ∧
    w.cell? ⟨0, f * 5 + 2, none⟩ = some (.bool (opK f)) ∧ w.cell? ⟨0, f * 5 + 3, none⟩ = some (.bool (opA f)) ∧ w.cell? ⟨0, f * 5 + 4, none⟩ = some (.bool (opB f)) := by
  rcases (by omega : f = 0 ∨ f = 1 ∨ f = 2 ∨ f = 3 ∨ f = 4 ∨ f = 5 ∨ f = 6 ∨ f = 7 ∨ f = 8 ∨ f = 9 ∨ f = 10 ∨ f = 11) with rfl | rfl | rfl | rfl | rfl | rfl | rfl | rfl | rfl | rfl | rfl | rfl
  all_goals exact ⟨h.kind _ _ rfl, h.kind _ _ rfl, h.kind _ _ rfl, h.kind _ _ rfl, h.kind _ _ rfl⟩
theorem op_none {f : Int} (_h0 : 0 ≤ f) (h : ¬ f < 12) : opIs f = false ∧ opM f = 0 ∧ opNm f = [] ∧ opK f = false ∧ opA f = false ∧ opB f = false := by
  have e : opIs f = false := by simp [opIs]; omega
  refine ⟨e, ?_, ?_, by simp [opK]; omega, by simp [opA]; omega, by simp [opB]; omega⟩
  · unfold opM; rw [if_neg (by omega), if_neg (by omega), if_neg (by omega)]
  · unfold opNm; rw [if_neg (by omega), if_neg (by omega), if_neg (by omega), if_neg (by omega), if_neg (by omega), if_neg (by omega), if_neg (by omega), if_neg (by omega), if_neg (by omega), if_neg (by omega), if_neg (by omega)]
theorem nm_empty {f : Int} (h0 : 0 ≤ f) (h : f < 12) : (opNm f != []) = opIs f := by
  rcases (by omega : f = 0 ∨ f = 1 ∨ f = 2 ∨ f = 3 ∨ f = 4 ∨ f = 5 ∨ f = 6 ∨ f = 7 ∨ f = 8 ∨ f = 9 ∨ f = 10 ∨ f = 11) with rfl | rfl | rfl | rfl | rfl | rfl | rfl | rfl | rfl | rfl | rfl | rfl <;> decide
set_option maxRecDepth 100000 in
theorem results_kind2 {fn : Func} {p u : Tmp} (h : fn.results = #[.cell p 150, .tmp u]) (tmps : Array Value) (w : World) (b : Nat) {x0 x1 x2 x3 x4 : Value} {t : TypeId}
    (hp : tmps.getD p undef = .pointer (some ⟨b, 0, none⟩)) (hb : w.heap[b]? = some (.cells #[x0, x1, x2, x3, x4] t (0, 0))) : (results fn tmps).run Tryz.prog w = .ok (.tuple #[.agg #[x0, x1, x2, x3, x4], tmps.getD u undef]) w := by
  have h1 : (loadVar 150 ⟨b, 0, none⟩).run Tryz.prog w = .ok (.agg #[x0, x1, x2, x3, x4]) w := run_loadVar_row w b t 150 _ _ _ hb Tryz.underlying150 rfl (by kernel_rfl)
  rw [results_cell_tmp h, hp]
  simp [asAddr, h1, Result.andThen]
set_option maxHeartbeats 1000000 in
theorem find_any (w : World) (hG : Glob4 w) (f : Int) (h0 : 0 ≤ f) (h1 : f < 256) : Calls Tryz.prog 86 #[.int .u8 f] w fun e w' =>
    e = .returned (.tuple #[.agg #[.int .u8 (opM f), .string (bs (opNm f)), .bool (opK f), .bool (opA f), .bool (opB f)], .bool (opIs f)]) ∧ Keeps [] w w' := by
  by_cases hf : f < 12
  · obtain ⟨f, rfl⟩ := Int.eq_ofNat_of_zero_le h0
    have hnm : (!(bs (opNm f)).toList.isEmpty) = opIs f := by rw [toL_bs, ← nm_empty h0 hf]; cases opNm f <;> rfl
    have h12 : ¬ (12 : Int) ≤ f := by omega
    have hrow := fun (w : World) (hG : Glob4 w) => hG.row f (by omega)
    rw [← hnm]
    clear hnm
    generalize opM f = M at *
    generalize opNm f = NM at *
    generalize opK f = K at *
    generalize opA f = A at *
    generalize opB f = BB at *
    go_enter Tryz.func86, Tryz.ntmps86
    go_wp2_with fail
    have hk := (Keeps.refl [] w).alloc (.cells #[.int .u8 0, .string ⟨#[]⟩, .bool false, .bool false, .bool false] 150)
    have hb := heap_alloc_new w (.cells #[.int .u8 0, .string ⟨#[]⟩, .bool false, .bool false, .bool false] 150)
    obtain ⟨c0, c1, c2, c3, c4⟩ := hrow _ (hG.new hk)
    have hz : 0 < w.heap.size := by obtain ⟨t, fr, h⟩ := hG.kinds; exact lt_of_block h
    generalize w.alloc (.cells #[.int .u8 0, .string ⟨#[]⟩, .bool false, .bool false, .bool false] 150) = w1 at *
    obtain ⟨d0, d1, d2, d3, d4, dl⟩ := cell5 hb
    obtain ⟨e0, e1, e2, e3, e4⟩ := thaw5 hb
    have hr := put5 hb (.int .u8 M) (.string (bs NM)) (.bool K) (.bool A) (.bool BB)
    have hk2 := hk.set5 (b := w.heap.size) (.inr (Nat.le_refl _)) (.int .u8 M) (.string (bs NM)) (.bool K) (.bool A) (.bool BB)
    have HR := Lib.hid hr; have HK := Lib.hid hk2; clear hr hk2 hb hk hrow
    generalize w.heap.size = B at *
    go_region
    go_wp2_with fail
    try simp only [Exit.inBlock, Exit.then]
    exact bodyPost_ret (results_kind2 rfl _ _ _ rfl (heap_drew HR.out)) rfl ⟨rfl, HK.out.drew⟩
  · obtain ⟨h2, h3, h4, h5, h6, h7⟩ := op_none h0 hf
    rw [h2, h3, h4, h5, h6, h7]
    have h12 : (12 : Int) ≤ f := by omega
    have hb := heap_alloc_new w (.cells #[.int .u8 0, .string ⟨#[]⟩, .bool false, .bool false, .bool false] 150)
    have hk := (Keeps.refl [] w).alloc (.cells #[.int .u8 0, .string ⟨#[]⟩, .bool false, .bool false, .bool false] 150)
    go_enter Tryz.func86, Tryz.ntmps86
    go_wp2_with fail
    try simp only [Exit.inBlock, Exit.then]
    exact bodyPost_ret (results_kind2 rfl _ _ _ rfl hb) rfl ⟨rfl, hk⟩
end Go.Proofs.YtbnhcggjcdipeaaGreatDoor
/-
  The row of an operation's number, of the document.
-/
namespace Go.Proofs.YtbnhcggjcdipeaaGreatDoor
open Go.RowKit
/-- Each operation has one model; the program's number and the document's. -/
theorem opM_b (f : Int) : 0 ≤ opM f ∧ opM f ≤ 3 := by
  unfold opM
  repeat' split
  all_goals omega
end Go.Proofs.YtbnhcggjcdipeaaGreatDoor
/-
  Is an operation valid? The program's and the document's answer.
-/
namespace Go.Proofs.YtbnhcggjcdipeaaGreatDoor
open Go.RowKit
/-- The ways in which an operation is, or is not, valid. -/
theorem good_ways (f o k a b : Int) (P : Prop)
    (h1 : opIs f = false → opGood ⟨f, o, k, a, b⟩ = false → P)
    (h2 : opIs f = true → ¬ o < 8 → opGood ⟨f, o, k, a, b⟩ = false → P)
    (h3 : opIs f = true → o < 8 → ¬ k < 8 → opGood ⟨f, o, k, a, b⟩ = false → P)
    (h4 : opIs f = true → o < 8 → k < 8 → opK f = false → (k == 0) = false → opGood ⟨f, o, k, a, b⟩ = false → P)
    (h5 : opIs f = true → o < 8 → k < 8 → (opK f = true ∨ (opK f = false ∧ (k == 0) = true)) → opA f = false → (a == 0) = false → opGood ⟨f, o, k, a, b⟩ = false → P)
    (h6 : opIs f = true → o < 8 → k < 8 → (opK f = true ∨ (opK f = false ∧ (k == 0) = true)) → (opA f = true ∨ (opA f = false ∧ (a == 0) = true)) → opB f = false → (b == 0) = false → opGood ⟨f, o, k, a, b⟩ = false → P)
    (h7 : opIs f = true → o < 8 → k < 8 → (opK f = true ∨ (opK f = false ∧ (k == 0) = true)) → (opA f = true ∨ (opA f = false ∧ (a == 0) = true)) → (opB f = true ∨ (opB f = false ∧ (b == 0) = true)) → opGood ⟨f, o, k, a, b⟩ = true → P) : P := by
  rcases bool_two (opIs f) with i1 | i1
  · by_cases i2 : o < 8
    · by_cases i3 : k < 8
      · have part : ∀ (K : Bool) (x : Int), (K = true ∨ (K = false ∧ (x == 0) = true)) ∨ (K = false ∧ (x == 0) = false) := fun K x => by
          rcases bool_two K with h | h <;> rcases bool_two (x == 0) with h' | h' <;> simp [h, h']
        rcases part (opK f) k with i4 | ⟨i4, i4'⟩
        · rcases part (opA f) a with i5 | ⟨i5, i5'⟩
          · rcases part (opB f) b with i6 | ⟨i6, i6'⟩
            · refine h7 i1 i2 i3 i4 i5 i6 ?_
              rw [good_iff]
              refine ⟨i1, i2, i3, ?_, ?_, ?_⟩
              · rcases i4 with h | ⟨_, h⟩; exact .inl h; exact .inr (by simpa using h)
              · rcases i5 with h | ⟨_, h⟩; exact .inl h; exact .inr (by simpa using h)
              · rcases i6 with h | ⟨_, h⟩; exact .inl h; exact .inr (by simpa using h)
            · exact h6 i1 i2 i3 i4 i5 i6 i6' (by simp [opGood, i6]; intros; simpa using i6')
          · exact h5 i1 i2 i3 i4 i5 i5' (by simp [opGood, i5]; intros; simp at i5'; omega)
        · exact h4 i1 i2 i3 i4 i4' (by simp [opGood, i4]; intros; simp at i4'; omega)
      · exact h3 i1 i2 i3 (by simp [opGood]; intros; omega)
    · exact h2 i1 i2 (by simp [opGood]; intros; omega)
  · exact h1 i1 (by simp [opGood, i1])
set_option maxHeartbeats 4000000 in
theorem valid_any (w : World) (hG : Glob4 w) (f o k a b : Int) (hx : (⟨f, o, k, a, b⟩ : Opn).In) : Calls Tryz.prog 71 #[.agg #[.int .u8 f, .int .u8 o, .int .u8 k, .int .u16 a, .int .u16 b]] w fun e w' =>
    e = .returned (.bool (opGood ⟨f, o, k, a, b⟩)) ∧ Keeps [] w w' := by
  obtain ⟨f0, f1, o0, o1, k0, k1, a0, a1, b0, b1⟩ := hx
  simp only at f0 f1 o0 o1 k0 k1 a0 a1 b0 b1
  have hc := fun w hG => find_any w hG f f0 f1
  have key : ∀ (G : Bool), opGood ⟨f, o, k, a, b⟩ = G → Calls Tryz.prog 71 #[.agg #[.int .u8 f, .int .u8 o, .int .u8 k, .int .u16 a, .int .u16 b]] w fun e w' =>
    e = .returned (.bool G) ∧ Keeps [] w w' := by
    intro G hg
    have hk0 := (Keeps.refl [] w).alloc (.cells #[.int .u8 f, .int .u8 o, .int .u8 k, .int .u16 a, .int .u16 b] 47)
    apply good_ways f o k a b
    · intro i1 hg2
      obtain rfl := hg.symm.trans hg2
      rw [i1] at hc
      clear hg hg2
      go_enter Tryz.func71, Tryz.ntmps71
      go_wp2_with fail
      refine (hc _ (hG.new hk0)).mono ?_; rintro e w1 ⟨rfl, hk1⟩
      have hb := boxed5 hk1
      replace hk1 := hk0.trans hk1 (FSub.refl _ _)
      obtain ⟨c0, c1, c2, c3, c4, cl⟩ := cell5 hb
      clear hb
      go_wp2_with fail
      go_ret
      exact ⟨rfl, hk1.alloc _⟩
    · intro i1 i2 hg2
      obtain rfl := hg.symm.trans hg2
      rw [i1] at hc
      clear hg hg2
      go_enter Tryz.func71, Tryz.ntmps71
      go_wp2_with fail
      refine (hc _ (hG.new hk0)).mono ?_; rintro e w1 ⟨rfl, hk1⟩
      have hb := boxed5 hk1
      replace hk1 := hk0.trans hk1 (FSub.refl _ _)
      obtain ⟨c0, c1, c2, c3, c4, cl⟩ := cell5 hb
      clear hb
      go_wp2_with fail
      go_ret
      exact ⟨rfl, hk1.alloc _⟩
    · intro i1 i2 i3 hg2
      obtain rfl := hg.symm.trans hg2
      rw [i1] at hc
      clear hg hg2
      go_enter Tryz.func71, Tryz.ntmps71
      go_wp2_with fail
      refine (hc _ (hG.new hk0)).mono ?_; rintro e w1 ⟨rfl, hk1⟩
      have hb := boxed5 hk1
      replace hk1 := hk0.trans hk1 (FSub.refl _ _)
      obtain ⟨c0, c1, c2, c3, c4, cl⟩ := cell5 hb
      clear hb
      go_wp2_with fail
      go_ret
      exact ⟨rfl, hk1.alloc _⟩
    · intro i1 i2 i3 i4 i4' hg2
      obtain rfl := hg.symm.trans hg2
      rw [i1, i4] at hc
      clear hg hg2
      go_enter Tryz.func71, Tryz.ntmps71
      go_wp2_with fail
      refine (hc _ (hG.new hk0)).mono ?_; rintro e w1 ⟨rfl, hk1⟩
      have hb := boxed5 hk1
      replace hk1 := hk0.trans hk1 (FSub.refl _ _)
      obtain ⟨c0, c1, c2, c3, c4, cl⟩ := cell5 hb
      clear hb
      go_wp2_with fail
      go_ret
      exact ⟨rfl, hk1.alloc _⟩
    · intro i1 i2 i3 i4 i5 i5' hg2
      obtain rfl := hg.symm.trans hg2
      clear hg hg2
      rcases i4 with i4 | ⟨i4, i4'⟩ <;> rw [i1, i4, i5] at hc
      all_goals
        go_enter Tryz.func71, Tryz.ntmps71
        go_wp2_with fail
        refine (hc _ (hG.new hk0)).mono ?_; rintro e w1 ⟨rfl, hk1⟩
        have hb := boxed5 hk1
        replace hk1 := hk0.trans hk1 (FSub.refl _ _)
        obtain ⟨c0, c1, c2, c3, c4, cl⟩ := cell5 hb
        clear hb
        go_wp2_with fail
        go_ret
        exact ⟨rfl, hk1.alloc _⟩
    · intro i1 i2 i3 i4 i5 i6 i6' hg2
      obtain rfl := hg.symm.trans hg2
      clear hg hg2
      rcases i4 with i4 | ⟨i4, i4'⟩ <;> rcases i5 with i5 | ⟨i5, i5'⟩ <;> rw [i1, i4, i5, i6] at hc
      all_goals
        go_enter Tryz.func71, Tryz.ntmps71
        go_wp2_with fail
        refine (hc _ (hG.new hk0)).mono ?_; rintro e w1 ⟨rfl, hk1⟩
        have hb := boxed5 hk1
        replace hk1 := hk0.trans hk1 (FSub.refl _ _)
        obtain ⟨c0, c1, c2, c3, c4, cl⟩ := cell5 hb
        clear hb
        go_wp2_with fail
        go_ret
        exact ⟨rfl, hk1.alloc _⟩
    · intro i1 i2 i3 i4 i5 i6 hg2
      obtain rfl := hg.symm.trans hg2
      clear hg hg2
      rcases i4 with i4 | ⟨i4, i4'⟩ <;> rcases i5 with i5 | ⟨i5, i5'⟩ <;> rcases i6 with i6 | ⟨i6, i6'⟩ <;> rw [i1, i4, i5, i6] at hc
      all_goals
        go_enter Tryz.func71, Tryz.ntmps71
        go_wp2_with fail
        refine (hc _ (hG.new hk0)).mono ?_; rintro e w1 ⟨rfl, hk1⟩
        have hb := boxed5 hk1
        replace hk1 := hk0.trans hk1 (FSub.refl _ _)
        obtain ⟨c0, c1, c2, c3, c4, cl⟩ := cell5 hb
        clear hb
        go_wp2_with fail
        go_ret
        exact ⟨rfl, hk1.alloc _⟩
  exact key _ rfl
end Go.Proofs.YtbnhcggjcdipeaaGreatDoor
/-
  The program's Check; the document's Check and Put; a number's two bytes.
-/
namespace Go.Proofs.YtbnhcggjcdipeaaGreatDoor
open Go.RowKit
def opChk (m : Int) (x : Opn) : Int := if opGood x && opM x.f == m then 0 else 10
set_option maxHeartbeats 4000000 in
set_option maxRecDepth 100000 in
theorem Check4_any (w : World) (hG : Glob4 w) (m f o k a b : Int) (m0 : 0 ≤ m) (m1 : m < 256) (hx : (⟨f, o, k, a, b⟩ : Opn).In) :
    Calls Tryz.prog 52 #[.int .u8 m, .agg #[.int .u8 f, .int .u8 o, .int .u8 k, .int .u16 a, .int .u16 b]] w fun e w' => e = .returned (.int .i64 (opChk m ⟨f, o, k, a, b⟩)) ∧ Keeps [] w w' := by
  have hv := fun w hG => valid_any w hG f o k a b hx
  have hk0 := (Keeps.refl [] w).alloc (.cells #[.int .u8 f, .int .u8 o, .int .u8 k, .int .u16 a, .int .u16 b] 47)
  rcases bool_two (opGood ⟨f, o, k, a, b⟩) with hg | hg
  · have is := ((good_iff _).1 hg).is
    obtain ⟨f, rfl⟩ := Int.eq_ofNat_of_zero_le hx.f0
    have hf : f < 12 := by simp [opIs] at is; omega
    have hrow := fun (w : World) (hG : Glob4 w) => hG.row f hf
    have ec : opChk m ⟨f, o, k, a, b⟩ = if opM f = m then 0 else 10 := by simp [opChk, hg]
    rw [ec]
    rw [hg] at hv
    have hM := opM_b f
    clear ec is hg hx
    generalize opM f = M at *
    generalize bs (opNm f) = NM at *
    generalize opK f = K at *
    generalize opA f = A at *
    generalize opB f = BB at *
    by_cases hm : M = m
    · rw [if_pos hm]
      subst hm
      go_enter Tryz.func52, Tryz.ntmps52
      go_wp2_with fail
      refine (hv _ (hG.new hk0)).mono ?_; rintro e w1 ⟨rfl, hk1⟩
      have hb := boxed5 hk1
      replace hk1 := hk0.trans hk1 (FSub.refl _ _)
      obtain ⟨c0, c1, c2, c3, c4, cl⟩ := cell5 hb
      obtain ⟨r0, r1, r2, r3, r4⟩ := hrow _ (hG.new hk1)
      clear hb hrow hv
      go_wp2_with fail
      go_ret
      exact ⟨rfl, hk1⟩
    · rw [if_neg hm]
      have hm2 : (M == m) = false := by simpa using hm
      go_enter Tryz.func52, Tryz.ntmps52
      go_wp2_with fail
      refine (hv _ (hG.new hk0)).mono ?_; rintro e w1 ⟨rfl, hk1⟩
      have hb := boxed5 hk1
      replace hk1 := hk0.trans hk1 (FSub.refl _ _)
      obtain ⟨c0, c1, c2, c3, c4, cl⟩ := cell5 hb
      obtain ⟨r0, r1, r2, r3, r4⟩ := hrow _ (hG.new hk1)
      clear hb hrow hv
      go_wp2_with fail
      go_ret
      exact ⟨rfl, hk1⟩
  · have ec : opChk m ⟨f, o, k, a, b⟩ = 10 := by simp [opChk, hg]
    rw [ec]
    rw [hg] at hv
    go_enter Tryz.func52, Tryz.ntmps52
    go_wp2_with fail
    refine (hv _ (hG.new hk0)).mono ?_; rintro e w1 ⟨rfl, hk1⟩
    go_wp2_with fail
    go_ret
    exact ⟨rfl, hk0.trans hk1 (FSub.refl _ _)⟩
end Go.Proofs.YtbnhcggjcdipeaaGreatDoor
/-
  A model's steps, one behind the other, as data; a queue, as data; no program.
-/
namespace Go.Proofs.YtbnhcggjcdipeaaGreatDoor
section
variable {σ β : Type} (X : σ → β → σ × Ans × Int)
end
/-- A step of a queue. -/
def quX (s : List Int) (x : Opn) : List Int × Ans × Int :=
  if opChk 1 x = 0 then
    (if x.f = 4 then (s ++ [x.a], ⟨0, 0⟩, 0) else match s with
      | [] => ([], ⟨2, 0⟩, 0)
      | v :: r => (r, ⟨1, v⟩, 0))
  else (s, ⟨0, 0⟩, 10)
def U16s (l : List Int) : Prop := ∀ v ∈ l, 0 ≤ v ∧ v < 65536
theorem opChk_or (m : Int) (x : Opn) : opChk m x = 0 ∨ opChk m x = 10 := by
  unfold opChk
  split
  · exact .inl rfl
  · exact .inr rfl
theorem quX_err (s : List Int) (x : Opn) : (quX s x).2.2 = opChk 1 x := by
  unfold quX
  rcases opChk_or 1 x with h | h
  · rw [if_pos h, h]
    split
    · rfl
    · cases s <;> rfl
  · rw [if_neg (by rw [h]; decide), h]
theorem quX_enq {s : List Int} {x : Opn} (h : opChk 1 x = 0) (hf : x.f = 4) : quX s x = (s ++ [x.a], ⟨0, 0⟩, 0) := by unfold quX; rw [if_pos h, if_pos hf]
theorem quX_none {x : Opn} (h : opChk 1 x = 0) (hf : x.f ≠ 4) : quX [] x = ([], ⟨2, 0⟩, 0) := by unfold quX; rw [if_pos h, if_neg hf]
theorem quX_deq {v : Int} {r : List Int} {x : Opn} (h : opChk 1 x = 0) (hf : x.f ≠ 4) : quX (v :: r) x = (r, ⟨1, v⟩, 0) := by unfold quX; rw [if_pos h, if_neg hf]
theorem quX_chk {s : List Int} {x : Opn} (h : opChk 1 x ≠ 0) : quX s x = (s, ⟨0, 0⟩, 10) := by unfold quX; rw [if_neg h]
theorem quX_in {s : List Int} {x : Opn} (hs : U16s s) (hx : x.In) : U16s (quX s x).1 := by
  unfold quX
  split
  · split
    · intro v hv
      rcases List.mem_append.1 hv with h | h
      · exact hs v h
      · simp at h; subst h; exact ⟨hx.a0, hx.a1⟩
    · cases s with
      | nil => exact hs
      | cons v r => exact fun u hu => hs u (by simp [show u ∈ r from hu])
  · exact hs
theorem quX_len (s : List Int) (x : Opn) : (quX s x).1.length ≤ s.length + 1 := by
  unfold quX
  split
  · split
    · simp
    · cases s with
      | nil => simp
      | cons v r => simp <;> omega
  · simp
/-- A state's bytes, and the state that bytes tell. -/
def quB (l : List Int) : List UInt8 := l.flatMap fun s => [UInt8.ofNat (s / 256).toNat, UInt8.ofNat (s % 256).toNat]
def quN : List UInt8 → List Int
  | x :: y :: r => (x.toNat * 256 + y.toNat) :: quN r
  | _ => []
theorem quB_app (l m : List Int) : quB (l ++ m) = quB l ++ quB m := List.flatMap_append
theorem quB_len : ∀ l : List Int, (quB l).length = 2 * l.length
  | [] => rfl
  | x :: l => by
    show ([_, _] ++ quB l).length = _
    rw [List.length_append, quB_len l]; simp; omega
theorem quN_quB : ∀ {l : List Int}, U16s l → quN (quB l) = l
  | [], _ => rfl
  | x :: l, h => by
    have hx := h x (by simp)
    show quN (UInt8.ofNat (x / 256).toNat :: UInt8.ofNat (x % 256).toNat :: quB l) = _
    rw [quN, quN_quB (fun v hv => h v (by simp [hv]))]
    simp only [UInt8.toNat_ofNat']
    congr 1
    omega
theorem quB_quN : ∀ {l : List UInt8}, l.length % 2 = 0 → quB (quN l) = l
  | [], _ => rfl
  | [x], h => by simp at h
  | x :: y :: r, h => by
    have hx := x.toNat_lt; have hy := y.toNat_lt
    show [_, _] ++ quB (quN r) = _
    rw [quB_quN (by simp at h; omega)]
    have e1 : UInt8.ofNat (((x.toNat : Int) * 256 + y.toNat) / 256).toNat = x := by
      rw [show (((x.toNat : Int) * 256 + y.toNat) / 256).toNat = x.toNat by omega, UInt8.ofNat_toNat]
    have e2 : UInt8.ofNat (((x.toNat : Int) * 256 + y.toNat) % 256).toNat = y := by
      rw [show (((x.toNat : Int) * 256 + y.toNat) % 256).toNat = y.toNat by omega, UInt8.ofNat_toNat]
    rw [e1, e2]
    rfl
theorem quN_in : ∀ l : List UInt8, U16s (quN l)
  | [] => by intro v hv; cases hv
  | [x] => by intro v hv; cases hv
  | x :: y :: r => by
    have hx := x.toNat_lt; have hy := y.toNat_lt
    intro v hv
    rw [quN] at hv
    rcases List.mem_cons.1 hv with h | h
    · subst h; exact ⟨by omega, by omega⟩
    · exact quN_in r v h
theorem quN_len : ∀ l : List UInt8, (quN l).length = l.length / 2
  | [] => rfl
  | [x] => by simp [quN]
  | x :: y :: r => by
    rw [quN, List.length_cons, quN_len r, List.length_cons, List.length_cons]
    omega
theorem quN_get : ∀ (l : List UInt8) (k : Nat), 2 * k + 1 < l.length → (quN l)[k]? = some ((l.getD (2 * k) 0).toNat * 256 + (l.getD (2 * k + 1) 0).toNat : Int)
  | [], k, h => by simp at h
  | [x], k, h => by simp at h
  | x :: y :: r, 0, h => by simp [quN]
  | x :: y :: r, k + 1, h => by
    rw [quN, List.getElem?_cons_succ, quN_get r k (by simp at h; omega)]
    rw [show 2 * (k + 1) = 2 * k + 1 + 1 by omega]
    simp only [List.getD_cons_succ]
theorem quB_inj (a b : List Int) (ha : U16s a) (hb : U16s b) : quB a = quB b ↔ a = b :=
  ⟨fun h => by rw [← quN_quB ha, ← quN_quB hb, h], fun h => by rw [h]⟩
end Go.Proofs.YtbnhcggjcdipeaaGreatDoor
