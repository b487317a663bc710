/-
  The arguments of stage 13's laws as data; what the rows' condition on the package-level variables gives; the laws by the cards' order.
-/
import Derived.Test.YtdachaekcjbfmaaGreatDoorMC21
import Derived.Test.YtdachaekcjbfmaaGreatDoorMC38
import Derived.Test.YtdachaekcjbfmaaGreatDoorMC39
set_option linter.unusedSimpArgs false
set_option linter.unusedVariables false
namespace Go.Proofs.YtdachaekcjbfmaaGreatDoor
open Go.ChangeShapes Go.WideShapes Go.ChangeAt Go.RowKit
open Go.Joins Go.Deep
/-- What the rows of this seat list. -/
def laidAll13 : List (String × DataW Unit) := Rows.modelStepsRow.laid
theorem laidAll13_met (os : Os) (args : Array Value) : laidMetH Tryz.prog laidAll13 ((World.laidAll Tryz.prog os laidAll13).forCall (fun _ _ => 0) ⟨#[], args, []⟩).memory := by
  rw [MakeChecks.laidMetH_plain _ _ _ (by kernel_rfl)]
  exact laidMet_laidAll _ (by kernel_rfl) (by kernel_rfl)
set_option maxRecDepth 100000 in
theorem glob13_of {W : World} (h : laidMetH Tryz.prog laidAll13 W) : Glob13 W := by
  rw [MakeChecks.laidMetH_plain _ _ _ (by kernel_rfl)] at h
  have h2 := h.tail.tail
  have h3 := h2.tail
  refine ⟨⟨?_⟩, ?_⟩
  · obtain ⟨ps, ⟨g', t', cs, fuel, p, q, hg', ht', hvar, hd, _, _⟩, _⟩ := h3
    obtain rfl := Option.some.inj (glob_kinds.symm.trans hg')
    obtain rfl := Option.some.inj ((show (Tryz.prog.globals[0]?).map (·.type) = some 108 by kernel_rfl).symm.trans ht')
    have e2 : cs = kindCells := by
      apply Array.ext'
      exact cells_of_kinds hd
    rw [e2] at hvar
    exact block_of_var glob_kinds hvar
  · have hT : laidMet Tryz.prog (("internal/strconv.uint64pow10", Lib.tabData .u64 Lib.pow10Tab) :: _) W := h2
    exact Lib.tabIs_of_head glob13_pow10 (by kernel_rfl) Tryz.underlying275 Tryz.underlying268 (by kernel_rfl) (by kernel_rfl) hT
theorem okWide_array13 {P : Program} {w : World} {r : Reach} {base n : Nat} {t e : TypeId} {v : Value} (ht : P.underlying t = some (.array n e)) (h : Value.okWide P w r base t v) : ∃ cs, v = .agg cs ∧ cs.size = P.cellsOf t := by
  simp only [Value.okWide, ht] at h
  obtain ⟨cs, h1, h2, _⟩ := h
  exact ⟨cs, h1, h2⟩
section
variable {H : Type} {enc : TypeId × Value → H} {w : World} {sp : Nat → Bool} {held : Bool}
set_option maxRecDepth 100000 in
theorem open_cl13 {fuel : Nat} {cs : List Value} {y : DataW H × List MemPlace} (h : DataW.trod enc Tryz.prog w 0 sp held fuel 46 cs = some y) :
    ∃ x : Cl, cs = clC x ∧ x.In := by
  obtain ⟨xs, k, rfl, _, hl, hxl, hat⟩ := DataW.trod_struct Tryz.underlying46 h
  rw [show Tryz.prog.cellsOf 46 = 6 by kernel_rfl] at hl
  match cs, hl with
  | [c0, c1, c2, c3, c4, c5], _ =>
    have hc1 : Tryz.prog.cellsOf 5 = 1 := by kernel_rfl
    have hc3 : Tryz.prog.cellsOf 44 = 5 := by kernel_rfl
    match xs, hxl with
    | [x0, x1], _ =>
      have h0 : DataW.trod enc Tryz.prog w 0 sp held k 5 [c0] = some x0 := by simpa [hc1, hc3, Value.cells] using hat 0 _ rfl
      have h1 : DataW.trod enc Tryz.prog w 0 sp held k 44 [c1, c2, c3, c4, c5] = some x1 := by simpa [hc1, hc3, Value.cells] using hat 1 _ rfl
      obtain ⟨n0, e0, _, w0⟩ := DataW.trod_int Tryz.underlying5 h0
      obtain ⟨o, e1, ho⟩ := open_opc h1
      simp only [List.cons.injEq, and_true] at e0 e1
      obtain ⟨rfl, rfl, rfl, rfl, rfl⟩ := e1
      subst e0
      have b0 := u8_of4 w0
      exact ⟨⟨n0, o⟩, rfl, ⟨b0.1, b0.2, ho⟩⟩
theorem open_calls13 {fuel : Nat} {v : Value} {y : DataW H × List MemPlace} (h : DataW.trod enc Tryz.prog w 0 sp held fuel 22 [v] = some y) :
    ∃ l : List Cl, rkC13.In w.heap.size w v l ∧ ∀ x ∈ l, x.In :=
  rkC13.open_ clZero (show Tryz.prog.cellsOf 46 = 6 by kernel_rfl) (fun h => open_cl13 h) h
set_option maxRecDepth 100000 in
theorem open_clv {r : Reach} {b0 : Nat} {v : Value} {d : DataW H} {p : List MemPlace} (hv : Value.okWide Tryz.prog w r b0 46 v) (h : DataW.Trod enc Tryz.prog w 0 sp held 46 v d p) : ∃ x : Cl, v = .agg (clC x).toArray ∧ x.In := by
  obtain ⟨cs, rfl, hsz⟩ := okWide_struct Tryz.underlying46 hv
  obtain ⟨fuel, hf⟩ := h
  obtain ⟨x, e, hx⟩ := open_cl13 hf
  refine ⟨x, ?_, hx⟩
  obtain ⟨l⟩ := cs
  have e2 : l = clC x := e
  rw [e2]
set_option maxRecDepth 100000 in
theorem open_two13 {r : Reach} {b0 : Nat} {v : Value} {d : DataW H} {p : List MemPlace} (hv : Value.okWide Tryz.prog w r b0 66 v) (h : DataW.Trod enc Tryz.prog w 0 sp held 66 v d p) :
    ∃ (v0 v1 : Value) (l0 l1 : List Cl), v = .agg #[v0, v1] ∧ (rkC13.In w.heap.size w v0 l0 ∧ ∀ x ∈ l0, x.In) ∧ rkC13.In w.heap.size w v1 l1 ∧ ∀ x ∈ l1, x.In := by
  obtain ⟨cs, rfl, hsz⟩ := okWide_array13 Tryz.underlying66 hv
  obtain ⟨fuel, hf⟩ := h
  obtain ⟨l⟩ := cs
  obtain ⟨xs, k, rfl, _, hl, hxl, hat⟩ := DataW.trod_array Tryz.underlying66 hf
  rw [show Tryz.prog.cellsOf 66 = 2 by kernel_rfl] at hl
  match l, hl with
  | [c0, c1], _ =>
    have hc2 : Tryz.prog.cellsOf 22 = 1 := by kernel_rfl
    match xs, hxl with
    | [x0, x1], _ =>
      have h0 : DataW.trod enc Tryz.prog w 0 sp held k 22 [c0] = some x0 := by simpa [hc2, Value.cells] using hat 0 (by decide)
      have h1 : DataW.trod enc Tryz.prog w 0 sp held k 22 [c1] = some x1 := by simpa [hc2, Value.cells] using hat 1 (by decide)
      obtain ⟨l0, i0, j0⟩ := open_calls13 h0
      obtain ⟨l1, i1, j1⟩ := open_calls13 h1
      exact ⟨c0, c1, l0, l1, rfl, ⟨i0, j0⟩, i1, j1⟩
end
/-! The laws by the cards' order of arguments. -/
theorem ModelCode_args (W : World) (hG : Glob13 W) (m : Int) (h0 : 0 ≤ m) (h1 : m < 256) {v v2 : Value} {l l2 : List Cl} (hI : rkC13.In W.heap.size W v l ∧ ∀ y ∈ l, y.In) (hI2 : rkC13.In W.heap.size W v2 l2 ∧ ∀ y ∈ l2, y.In) (y : Cl) (hy : y.In) : Calls Tryz.prog 7 #[.int .u8 m, .agg #[v, v2], .agg (clC y).toArray] W fun e w' => e = .returned (.bool true) ∧ Keeps [] W w' :=
  ModelCode_all mdP mdP_same mdP_dec W hG h0 h1 hI.2 hI2.2 hI.1 hI2.1 y hy
end Go.Proofs.YtdachaekcjbfmaaGreatDoor
