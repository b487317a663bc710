/-
  What the package-level variables hold; the row of an operation's number, of the program and of the document.
-/
import Derived.Laws.ResultCell
import Derived.Test.YtiljdehhjiahdaaGreatDoorG02
import Derived.Test.YtiljdehhjiahdaaGreatDoorG03
import Derived.Test.YtiljdehhjiahdaaGreatDoorG04
set_option linter.unusedSimpArgs false
set_option linter.unusedVariables false
namespace Go.Proofs.YtiljdehhjiahdaaGreatDoor
open Go.RowKit
def kindCells : Array Value := #[
  .int .u8 0, .string ⟨#[]⟩, .bool false, .bool false, .bool false,
  .int .u8 0, .string ⟨#[114, 101, 97, 100]⟩, .bool false, .bool false, .bool false,
  .int .u8 0, .string ⟨#[119, 114, 105, 116, 101]⟩, .bool false, .bool true, .bool false,
  .int .u8 0, .string ⟨#[99, 97, 115]⟩, .bool false, .bool true, .bool true,
  .int .u8 1, .string ⟨#[101, 110, 113]⟩, .bool false, .bool true, .bool false,
  .int .u8 1, .string ⟨#[100, 101, 113]⟩, .bool false, .bool false, .bool false,
  .int .u8 2, .string ⟨#[103, 101, 116]⟩, .bool true, .bool false, .bool false,
  .int .u8 2, .string ⟨#[112, 117, 116]⟩, .bool true, .bool true, .bool false,
  .int .u8 2, .string ⟨#[100, 101, 108]⟩, .bool true, .bool false, .bool false,
  .int .u8 2, .string ⟨#[115, 119, 97, 112]⟩, .bool true, .bool true, .bool true,
  .int .u8 3, .string ⟨#[97, 99, 113, 117, 105, 114, 101]⟩, .bool false, .bool false, .bool false,
  .int .u8 3, .string ⟨#[114, 101, 108, 101, 97, 115, 101]⟩, .bool false, .bool false, .bool false]
theorem glob4_pow10 : Tryz.prog.globalNamed "internal/strconv.uint64pow10" = some 6 := by kernel_rfl
theorem glob4_syn : Tryz.prog.globalNamed "strconv.ErrSyntax" = some 7 := by kernel_rfl
theorem glob4_ran : Tryz.prog.globalNamed "strconv.ErrRange" = some 8 := by kernel_rfl
/-- The package-level variables hold what start-up lays. -/
structure Glob4 (w : World) : Prop where
  kinds : ∃ t fr, w.heap[2]? = some (.cells kindCells t fr)
  tab : Lib.TabIs Tryz.prog w "internal/strconv.uint64pow10" .u64 Lib.pow10Tab
  syn : ∃ tp p, w.var? Tryz.prog "strconv.ErrSyntax" = some #[.iface tp p]
  ran : ∃ tp p, w.var? Tryz.prog "strconv.ErrRange" = some #[.iface tp p]
  ml : ∃ m, w.cell? ⟨1, 0, none⟩ = some (.int .i64 m)
theorem Glob4.new {w w' : World} (h : Glob4 w) (hk : Keeps [] w w') : Glob4 w' := by
  obtain ⟨⟨t, fr, hw⟩, ht, ⟨t1, p1, h1⟩, ⟨t2, p2, h2⟩, ⟨m, hm⟩⟩ := h
  exact ⟨⟨t, fr, hk.heap hw (by simp)⟩, var_keeps glob4_pow10 ht hk (by simp), ⟨t1, p1, var_keeps glob4_syn h1 hk (by simp)⟩, ⟨t2, p2, var_keeps glob4_ran h2 hk (by simp)⟩, ⟨m, hk.cell hm (by simp)⟩⟩
theorem Glob4.kind {w : World} (h : Glob4 w) (i : Nat) (v : Value) (hv : kindCells[i]? = some v) : w.cell? ⟨2, i, none⟩ = some v := by
  obtain ⟨t, fr, hw⟩ := h.kinds
  simp [World.cell?, hw, hv]
/-- A row of the table, by its number. -/
theorem Glob4.row {w : World} (h : Glob4 w) (f : Nat) (hf : f < 12) : w.cell? ⟨2, f * 5, none⟩ = some (.int .u8 (opM f)) ∧ w.cell? ⟨2, f * 5 + 1, none⟩ = some (.string (bs (opNm f))) ∧
    w.cell? ⟨2, f * 5 + 2, none⟩ = some (.bool (opK f)) ∧ w.cell? ⟨2, f * 5 + 3, none⟩ = some (.bool (opA f)) ∧ w.cell? ⟨2, f * 5 + 4, none⟩ = some (.bool (opB f)) := by
  rcases (by omega : f = 0 ∨ f = 1 ∨ f = 2 ∨ f = 3 ∨ f = 4 ∨ f = 5 ∨ f = 6 ∨ f = 7 ∨ f = 8 ∨ f = 9 ∨ f = 10 ∨ f = 11) with rfl | rfl | rfl | rfl | rfl | rfl | rfl | rfl | rfl | rfl | rfl | rfl
  all_goals exact ⟨h.kind _ _ rfl, h.kind _ _ rfl, h.kind _ _ rfl, h.kind _ _ rfl, h.kind _ _ rfl⟩
theorem op_none {f : Int} (_h0 : 0 ≤ f) (h : ¬ f < 12) : opIs f = false ∧ opM f = 0 ∧ opNm f = [] ∧ opK f = false ∧ opA f = false ∧ opB f = false := by
  have e : opIs f = false := by simp [opIs]; omega
  refine ⟨e, ?_, ?_, by simp [opK]; omega, by simp [opA]; omega, by simp [opB]; omega⟩
  · unfold opM; rw [if_neg (by omega), if_neg (by omega), if_neg (by omega)]
  · unfold opNm; rw [if_neg (by omega), if_neg (by omega), if_neg (by omega), if_neg (by omega), if_neg (by omega), if_neg (by omega), if_neg (by omega), if_neg (by omega), if_neg (by omega), if_neg (by omega), if_neg (by omega)]
theorem nm_empty {f : Int} (h0 : 0 ≤ f) (h : f < 12) : (opNm f != []) = opIs f := by
  rcases (by omega : f = 0 ∨ f = 1 ∨ f = 2 ∨ f = 3 ∨ f = 4 ∨ f = 5 ∨ f = 6 ∨ f = 7 ∨ f = 8 ∨ f = 9 ∨ f = 10 ∨ f = 11) with rfl | rfl | rfl | rfl | rfl | rfl | rfl | rfl | rfl | rfl | rfl | rfl <;> decide
set_option maxRecDepth 100000 in
theorem results_kind2 {fn : Func} {p u : Tmp} (h : fn.results = #[.cell p 124, .tmp u]) (tmps : Array Value) (w : World) (b : Nat) {x0 x1 x2 x3 x4 : Value} {t : TypeId}
    (hp : tmps.getD p undef = .pointer (some ⟨b, 0, none⟩)) (hb : w.heap[b]? = some (.cells #[x0, x1, x2, x3, x4] t (0, 0))) : (results fn tmps).run Tryz.prog w = .ok (.tuple #[.agg #[x0, x1, x2, x3, x4], tmps.getD u undef]) w := by
  have h1 : (loadVar 124 ⟨b, 0, none⟩).run Tryz.prog w = .ok (.agg #[x0, x1, x2, x3, x4]) w := run_loadVar_row w b t 124 _ _ _ hb Tryz.underlying124 rfl (by kernel_rfl)
  rw [results_cell_tmp h, hp]
  simp [asAddr, h1, Result.andThen]
set_option maxHeartbeats 1000000 in
theorem find_any (w : World) (hG : Glob4 w) (f : Int) (h0 : 0 ≤ f) (h1 : f < 256) : Calls Tryz.prog 133 #[.int .u8 f] w fun e w' =>
    e = .returned (.tuple #[.agg #[.int .u8 (opM f), .string (bs (opNm f)), .bool (opK f), .bool (opA f), .bool (opB f)], .bool (opIs f)]) ∧ Keeps [] w w' := by
  by_cases hf : f < 12
  · obtain ⟨f, rfl⟩ := Int.eq_ofNat_of_zero_le h0
    have hnm : (!(bs (opNm f)).toList.isEmpty) = opIs f := by rw [toL_bs, ← nm_empty h0 hf]; cases opNm f <;> rfl
    have h12 : ¬ (12 : Int) ≤ f := by omega
    have hrow := fun (w : World) (hG : Glob4 w) => hG.row f (by omega)
    rw [← hnm]
    clear hnm
    generalize opM f = M at *
    generalize opNm f = NM at *
    generalize opK f = K at *
    generalize opA f = A at *
    generalize opB f = BB at *
    go_enter Tryz.func133, Tryz.ntmps133
    go_wp2_with fail
    have hk := (Keeps.refl [] w).alloc (.cells #[.int .u8 0, .string ⟨#[]⟩, .bool false, .bool false, .bool false] 124)
    have hb := heap_alloc_new w (.cells #[.int .u8 0, .string ⟨#[]⟩, .bool false, .bool false, .bool false] 124)
    obtain ⟨c0, c1, c2, c3, c4⟩ := hrow _ (hG.new hk)
    have hz : 2 < w.heap.size := by obtain ⟨t, fr, h⟩ := hG.kinds; exact lt_of_block h
    generalize w.alloc (.cells #[.int .u8 0, .string ⟨#[]⟩, .bool false, .bool false, .bool false] 124) = w1 at *
    obtain ⟨d0, d1, d2, d3, d4, dl⟩ := cell5 hb
    obtain ⟨e0, e1, e2, e3, e4⟩ := thaw5 hb
    have hr := put5 hb (.int .u8 M) (.string (bs NM)) (.bool K) (.bool A) (.bool BB)
    have hk2 := hk.set5 (b := w.heap.size) (.inr (Nat.le_refl _)) (.int .u8 M) (.string (bs NM)) (.bool K) (.bool A) (.bool BB)
    have HR := Lib.hid hr; have HK := Lib.hid hk2; clear hr hk2 hb hk hrow
    generalize w.heap.size = B at *
    go_region
    go_wp2_with fail
    try simp only [Exit.inBlock, Exit.then]
    exact bodyPost_ret (results_kind2 rfl _ _ _ rfl (heap_drew HR.out)) rfl ⟨rfl, HK.out.drew⟩
  · obtain ⟨h2, h3, h4, h5, h6, h7⟩ := op_none h0 hf
    rw [h2, h3, h4, h5, h6, h7]
    have h12 : (12 : Int) ≤ f := by omega
    have hb := heap_alloc_new w (.cells #[.int .u8 0, .string ⟨#[]⟩, .bool false, .bool false, .bool false] 124)
    have hk := (Keeps.refl [] w).alloc (.cells #[.int .u8 0, .string ⟨#[]⟩, .bool false, .bool false, .bool false] 124)
    go_enter Tryz.func133, Tryz.ntmps133
    go_wp2_with fail
    try simp only [Exit.inBlock, Exit.then]
    exact bodyPost_ret (results_kind2 rfl _ _ _ rfl hb) rfl ⟨rfl, hk⟩
end Go.Proofs.YtiljdehhjiahdaaGreatDoor
/-
  The row of an operation's number, of the document.
-/
namespace Go.Proofs.YtiljdehhjiahdaaGreatDoor
open Go.RowKit
/-- Each operation has one model; the program's number and the document's. -/
theorem opM_b (f : Int) : 0 ≤ opM f ∧ opM f ≤ 3 := by
  unfold opM
  repeat' split
  all_goals omega
end Go.Proofs.YtiljdehhjiahdaaGreatDoor
