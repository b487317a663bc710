/-
  The arguments of stage 14's laws as data; what the rows' condition on the package-level variables gives; the laws by the cards' order.
-/
import Derived.Deep.RegionHeld3
import Derived.Test.YtbnhcggjcdipeaaGreatDoorWA18
import Derived.Test.YtbnhcggjcdipeaaGreatDoorWA34
import Derived.Test.YtbnhcggjcdipeaaGreatDoorWA37
import Derived.Test.YtbnhcggjcdipeaaGreatDoorWA36
import Derived.Test.YtbnhcggjcdipeaaGreatDoorWA25
import Derived.Test.YtbnhcggjcdipeaaGreatDoorWA08
import Derived.Test.YtbnhcggjcdipeaaGreatDoorWA17
import Derived.Test.YtbnhcggjcdipeaaGreatDoorWA30
import Derived.Test.YtbnhcggjcdipeaaGreatDoorWA39
import Derived.Test.YtbnhcggjcdipeaaGreatDoorWA40
import Derived.Test.YtbnhcggjcdipeaaGreatDoorWA38
set_option linter.unusedSimpArgs false
set_option linter.unusedVariables false
namespace Go.Proofs.YtbnhcggjcdipeaaGreatDoor
open Go.ChangeShapes Go.WideShapes Go.ChangeAt Go.RowKit
open Go.Joins Go.Deep
/-- What the rows of this seat list. -/
def laidAll14 : List (String × DataW Unit) := Rows.worldStepsRow.laid
theorem laidAll14_met (os : Os) (args : Array Value) : laidMetH Tryz.prog laidAll14 ((World.laidAll Tryz.prog os laidAll14).forCall (fun _ _ => 0) ⟨#[], args, []⟩).memory := by
  rw [MakeChecks.laidMetH_plain _ _ _ (by kernel_rfl)]
  exact laidMet_laidAll _ (by kernel_rfl) (by kernel_rfl)
set_option maxRecDepth 100000 in
theorem glob14_of {W : World} (h : laidMetH Tryz.prog laidAll14 W) : Glob13 W := by
  rw [MakeChecks.laidMetH_plain _ _ _ (by kernel_rfl)] at h
  have h2 := h.tail.tail
  have h3 := h2.tail
  refine ⟨⟨?_⟩, ?_⟩
  · obtain ⟨ps, ⟨g', t', cs, fuel, p, q, hg', ht', hvar, hd, _, _⟩, _⟩ := h3
    obtain rfl := Option.some.inj (glob_kinds.symm.trans hg')
    obtain rfl := Option.some.inj ((show (Tryz.prog.globals[0]?).map (·.type) = some 151 by kernel_rfl).symm.trans ht')
    have e2 : cs = kindCells := by
      apply Array.ext'
      exact cells_of_kinds hd
    rw [e2] at hvar
    exact block_of_var glob_kinds hvar
  · have hT : laidMet Tryz.prog (("internal/strconv.uint64pow10", Lib.tabData .u64 Lib.pow10Tab) :: _) W := h2
    exact Lib.tabIs_of_head glob13_pow10 (by kernel_rfl) Tryz.underlying276 Tryz.underlying217 (by kernel_rfl) (by kernel_rfl) hT
section
variable {H : Type} {enc : TypeId × Value → H} {w : World} {sp : Nat → Bool} {held : Bool}
set_option maxRecDepth 100000 in
theorem open_cl14 {fuel : Nat} {cs : List Value} {y : DataW H × List MemPlace} (h : DataW.trod enc Tryz.prog w 0 sp held fuel 49 cs = some y) :
    ∃ x : Cl, cs = clC x ∧ x.In := by
  obtain ⟨xs, k, rfl, _, hl, hxl, hat⟩ := DataW.trod_struct Tryz.underlying49 h
  rw [show Tryz.prog.cellsOf 49 = 6 by kernel_rfl] at hl
  match cs, hl with
  | [c0, c1, c2, c3, c4, c5], _ =>
    have hc1 : Tryz.prog.cellsOf 5 = 1 := by kernel_rfl
    have hc3 : Tryz.prog.cellsOf 47 = 5 := by kernel_rfl
    match xs, hxl with
    | [x0, x1], _ =>
      have h0 : DataW.trod enc Tryz.prog w 0 sp held k 5 [c0] = some x0 := by simpa [hc1, hc3, Value.cells] using hat 0 _ rfl
      have h1 : DataW.trod enc Tryz.prog w 0 sp held k 47 [c1, c2, c3, c4, c5] = some x1 := by simpa [hc1, hc3, Value.cells] using hat 1 _ rfl
      obtain ⟨n0, e0, _, w0⟩ := DataW.trod_int Tryz.underlying5 h0
      obtain ⟨o, e1, ho⟩ := open_opc h1
      simp only [List.cons.injEq, and_true] at e0 e1
      obtain ⟨rfl, rfl, rfl, rfl, rfl⟩ := e1
      subst e0
      have b0 := u8_of4 w0
      exact ⟨⟨n0, o⟩, rfl, ⟨b0.1, b0.2, ho⟩⟩
theorem open_calls14 {fuel : Nat} {v : Value} {y : DataW H × List MemPlace} (h : DataW.trod enc Tryz.prog w 0 sp held fuel 22 [v] = some y) :
    ∃ l : List Cl, rkC14.In w.heap.size w v l ∧ ∀ x ∈ l, x.In :=
  rkC14.open_ clZero (show Tryz.prog.cellsOf 49 = 6 by kernel_rfl) (fun h => open_cl14 h) h
end
/-! The laws by the cards' order of arguments. -/
end Go.Proofs.YtbnhcggjcdipeaaGreatDoor
