/-
  The arguments of stage 14's laws as data; what the rows' condition on the package-level variables gives; the laws by the cards' order.
-/
import Derived.Test.YtbnhcggjcdipeaaGreatDoorWS18
import Derived.Test.YtbnhcggjcdipeaaGreatDoorWS35
import Derived.Test.YtbnhcggjcdipeaaGreatDoorWS39
import Derived.Test.YtbnhcggjcdipeaaGreatDoorWS42
import Derived.Test.YtbnhcggjcdipeaaGreatDoorWS43
set_option linter.unusedSimpArgs false
set_option linter.unusedVariables false
namespace Go.Proofs.YtbnhcggjcdipeaaGreatDoor
open Go.ChangeShapes Go.WideShapes Go.ChangeAt Go.RowKit
open Go.Joins Go.Deep
/-- What the rows of this seat list. -/
def laidAll14 : List (String × DataW Unit) := Rows.worldStepsRow.laid
theorem laidAll14_met (os : Os) (args : Array Value) : laidMetH Tryz.prog laidAll14 ((World.laidAll Tryz.prog os laidAll14).forCall (fun _ _ => 0) ⟨#[], args, []⟩).memory := by
  rw [MakeChecks.laidMetH_plain _ _ _ (by kernel_rfl)]
  exact laidMet_laidAll _ (by kernel_rfl) (by kernel_rfl)
set_option maxRecDepth 100000 in
theorem glob14_of {W : World} (h : laidMetH Tryz.prog laidAll14 W) : Glob13 W := by
  rw [MakeChecks.laidMetH_plain _ _ _ (by kernel_rfl)] at h
  have h2 := h.tail.tail
  have h3 := h2.tail
  refine ⟨⟨?_⟩, ?_⟩
  · obtain ⟨ps, ⟨g', t', cs, fuel, p, q, hg', ht', hvar, hd, _, _⟩, _⟩ := h3
    obtain rfl := Option.some.inj (glob_kinds.symm.trans hg')
    obtain rfl := Option.some.inj ((show (Tryz.prog.globals[0]?).map (·.type) = some 151 by kernel_rfl).symm.trans ht')
    have e2 : cs = kindCells := by
      apply Array.ext'
      exact cells_of_kinds hd
    rw [e2] at hvar
    exact block_of_var glob_kinds hvar
  · have hT : laidMet Tryz.prog (("internal/strconv.uint64pow10", Lib.tabData .u64 Lib.pow10Tab) :: _) W := h2
    exact Lib.tabIs_of_head glob13_pow10 (by kernel_rfl) Tryz.underlying276 Tryz.underlying217 (by kernel_rfl) (by kernel_rfl) hT
section
variable {H : Type} {enc : TypeId × Value → H} {w : World} {sp : Nat → Bool} {held : Bool}
set_option maxRecDepth 100000 in
theorem open_cl14 {fuel : Nat} {cs : List Value} {y : DataW H × List MemPlace} (h : DataW.trod enc Tryz.prog w 0 sp held fuel 49 cs = some y) :
    ∃ x : Cl, cs = clC x ∧ x.In := by
  obtain ⟨xs, k, rfl, _, hl, hxl, hat⟩ := DataW.trod_struct Tryz.underlying49 h
  rw [show Tryz.prog.cellsOf 49 = 6 by kernel_rfl] at hl
  match cs, hl with
  | [c0, c1, c2, c3, c4, c5], _ =>
    have hc1 : Tryz.prog.cellsOf 5 = 1 := by kernel_rfl
    have hc3 : Tryz.prog.cellsOf 47 = 5 := by kernel_rfl
    match xs, hxl with
    | [x0, x1], _ =>
      have h0 : DataW.trod enc Tryz.prog w 0 sp held k 5 [c0] = some x0 := by simpa [hc1, hc3, Value.cells] using hat 0 _ rfl
      have h1 : DataW.trod enc Tryz.prog w 0 sp held k 47 [c1, c2, c3, c4, c5] = some x1 := by simpa [hc1, hc3, Value.cells] using hat 1 _ rfl
      obtain ⟨n0, e0, _, w0⟩ := DataW.trod_int Tryz.underlying5 h0
      obtain ⟨o, e1, ho⟩ := open_opc h1
      simp only [List.cons.injEq, and_true] at e0 e1
      obtain ⟨rfl, rfl, rfl, rfl, rfl⟩ := e1
      subst e0
      have b0 := u8_of4 w0
      exact ⟨⟨n0, o⟩, rfl, ⟨b0.1, b0.2, ho⟩⟩
theorem open_calls14 {fuel : Nat} {v : Value} {y : DataW H × List MemPlace} (h : DataW.trod enc Tryz.prog w 0 sp held fuel 22 [v] = some y) :
    ∃ l : List Cl, rkC14.In w.heap.size w v l ∧ ∀ x ∈ l, x.In :=
  rkC14.open_ clZero (show Tryz.prog.cellsOf 49 = 6 by kernel_rfl) (fun h => open_cl14 h) h
set_option maxRecDepth 100000 in
theorem open_ansc14 {fuel : Nat} {cs : List Value} {y : DataW H × List MemPlace} (h : DataW.trod enc Tryz.prog w 0 sp held fuel 25 cs = some y) :
    ∃ x : Ans, cs = ansC x ∧ (0 ≤ x.k ∧ x.k < 256) ∧ (0 ≤ x.v ∧ x.v < 65536) := by
  obtain ⟨xs, k, rfl, _, hl, hxl, hat⟩ := DataW.trod_struct Tryz.underlying25 h
  rw [show Tryz.prog.cellsOf 25 = 2 by kernel_rfl] at hl
  match cs, hl with
  | [c0, c1], _ =>
    have hc1 : Tryz.prog.cellsOf 5 = 1 := by kernel_rfl
    have hc2 : Tryz.prog.cellsOf 23 = 1 := by kernel_rfl
    match xs, hxl with
    | [x0, x1], _ =>
      have h0 : DataW.trod enc Tryz.prog w 0 sp held k 5 [c0] = some x0 := by simpa [hc1, hc2, Value.cells] using hat 0 _ rfl
      have h1 : DataW.trod enc Tryz.prog w 0 sp held k 23 [c1] = some x1 := by simpa [hc1, hc2, Value.cells] using hat 1 _ rfl
      obtain ⟨n0, e0, _, w0⟩ := DataW.trod_int Tryz.underlying5 h0
      obtain ⟨n1, e1, _, w1⟩ := DataW.trod_int Tryz.underlying23 h1
      simp only [List.cons.injEq, and_true] at e0 e1
      subst e0 e1
      have b0 := u8_of4 w0; have b1 := u16_of4 w1
      exact ⟨⟨n0, n1⟩, rfl, ⟨b0.1, b0.2⟩, ⟨b1.1, b1.2⟩⟩
set_option maxRecDepth 100000 in
theorem open_ansv14 {r : Reach} {b0 : Nat} {v : Value} {d : DataW H} {p : List MemPlace} (hv : Value.okWide Tryz.prog w r b0 25 v) (h : DataW.Trod enc Tryz.prog w 0 sp held 25 v d p) : ∃ x : Ans, v = .agg (ansC x).toArray ∧ (0 ≤ x.k ∧ x.k < 256) ∧ (0 ≤ x.v ∧ x.v < 65536) := by
  obtain ⟨cs, rfl, hsz⟩ := okWide_struct Tryz.underlying25 hv
  obtain ⟨fuel, hf⟩ := h
  obtain ⟨x, e, hx⟩ := open_ansc14 hf
  refine ⟨x, ?_, hx⟩
  obtain ⟨l⟩ := cs
  have e2 : l = ansC x := e
  rw [e2]
end
/-! The laws by the cards' order of arguments. -/
theorem WorldSteps_args (W : World) (hG : Glob13 W) (m : Int) (h0 : 0 ≤ m) (h1 : m < 256) {v : Value} {l : List Cl} (hI : rkC14.In W.heap.size W v l) (hl : ∀ y ∈ l, y.In) (x : Ans) (hx : (0 ≤ x.k ∧ x.k < 256) ∧ (0 ≤ x.v ∧ x.v < 65536)) : Calls Tryz.prog 3 #[.int .u8 m, v, .agg (ansC x).toArray] W fun e w' => e = .returned (.bool true) ∧ Keeps [] W w' :=
  WorldSteps_all wdP W hG h0 h1 hl hI x hx
end Go.Proofs.YtbnhcggjcdipeaaGreatDoor
