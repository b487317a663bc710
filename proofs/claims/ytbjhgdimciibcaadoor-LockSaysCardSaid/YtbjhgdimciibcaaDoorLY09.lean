/-
  The arguments of stage 10's laws as data: lists of numbers, operations; what the rows' condition on op's table gives.
-/
import Derived.Deep.RegionHeld3
import Derived.Laws.Tables
import Derived.BigQuiet
import Derived.StillTailTactics
import Derived.Deep.Upon
import Derived.ArgAppend
import Derived.Deep.Slices
import Derived.Deep.Fields
import Derived.Test.YtbjhgdimciibcaaDoorLY05
import Derived.Test.YtbjhgdimciibcaaDoorLY08
import Derived.Test.YtbjhgdimciibcaaDoorLY07
import Derived.Test.YtbjhgdimciibcaaDoorLY04
set_option linter.unusedSimpArgs false
set_option linter.unusedVariables false
namespace Go.Proofs.YtbjhgdimciibcaaDoor
open Go.ChangeShapes Go.WideShapes Go.ChangeAt Go.RowKit
open Go.Joins Go.Deep
theorem laidOut0 : laidOutB Tryd.prog = true := by kernel_rfl
section
variable {H : Type} {enc : TypeId × Value → H} {w : World} {sp : Nat → Bool} {held : Bool}
set_option maxRecDepth 100000 in
theorem open_opc {fuel : Nat} {cs : List Value} {y : DataW H × List MemPlace} (h : DataW.trod enc Tryd.prog w 0 sp held fuel 24 cs = some y) :
    ∃ x : Opn, cs = [.int .u8 x.f, .int .u8 x.o, .int .u8 x.k, .int .u16 x.a, .int .u16 x.b] ∧ x.In := by
  obtain ⟨xs, k, rfl, _, hl, hxl, hat⟩ := DataW.trod_struct Tryd.underlying24 h
  have hc1 : Tryd.prog.cellsOf 5 = 1 := by kernel_rfl
  have hc2 : Tryd.prog.cellsOf 22 = 1 := by kernel_rfl
  rw [cells_op] at hl
  match cs, hl with
  | [c0, c1, c2, c3, c4], _ =>
    match xs, hxl with
    | [x0, x1, x2, x3, x4], _ =>
      have h0 : DataW.trod enc Tryd.prog w 0 sp held k 5 [c0] = some x0 := by simpa [hc1, hc2] using hat 0 _ rfl
      have h1 : DataW.trod enc Tryd.prog w 0 sp held k 5 [c1] = some x1 := by simpa [hc1, hc2] using hat 1 _ rfl
      have h2 : DataW.trod enc Tryd.prog w 0 sp held k 5 [c2] = some x2 := by simpa [hc1, hc2] using hat 2 _ rfl
      have h3 : DataW.trod enc Tryd.prog w 0 sp held k 22 [c3] = some x3 := by simpa [hc1, hc2] using hat 3 _ rfl
      have h4 : DataW.trod enc Tryd.prog w 0 sp held k 22 [c4] = some x4 := by simpa [hc1, hc2] using hat 4 _ rfl
      obtain ⟨n0, e0, _, w0⟩ := DataW.trod_int Tryd.underlying5 h0
      obtain ⟨n1, e1, _, w1⟩ := DataW.trod_int Tryd.underlying5 h1
      obtain ⟨n2, e2, _, w2⟩ := DataW.trod_int Tryd.underlying5 h2
      obtain ⟨n3, e3, _, w3⟩ := DataW.trod_int Tryd.underlying22 h3
      obtain ⟨n4, e4, _, w4⟩ := DataW.trod_int Tryd.underlying22 h4
      simp only [List.cons.injEq, and_true] at e0 e1 e2 e3 e4
      subst e0 e1 e2 e3 e4
      have b0 := u8_of4 w0; have b1 := u8_of4 w1; have b2 := u8_of4 w2; have b3 := u16_of4 w3; have b4 := u16_of4 w4
      exact ⟨⟨n0, n1, n2, n3, n4⟩, rfl, ⟨b0.1, b0.2, b1.1, b1.2, b2.1, b2.2, b3.1, b3.2, b4.1, b4.2⟩⟩
set_option maxRecDepth 100000 in
theorem open_opv {r : Reach} {b0 : Nat} {v : Value} {d : DataW H} {p : List MemPlace} (hv : Value.okWide Tryd.prog w r b0 24 v) (h : DataW.Trod enc Tryd.prog w 0 sp held 24 v d p) : ∃ x : Opn, v = x.val ∧ x.In := by
  obtain ⟨cs, rfl, hsz⟩ := okWide_struct Tryd.underlying24 hv
  obtain ⟨fuel, hf⟩ := h
  obtain ⟨x, e, hx⟩ := open_opc hf
  refine ⟨x, ?_, hx⟩
  obtain ⟨l⟩ := cs
  have e2 : l = [.int .u8 x.f, .int .u8 x.o, .int .u8 x.k, .int .u16 x.a, .int .u16 x.b] := e
  rw [e2]; rfl
end
/-- What the rows of this seat list. -/
def laidAll : List (String × DataW Unit) := [("umpire/op.kinds", Rows.laid_umpire_op_kinds)]
theorem laidAll_met (os : Os) (args : Array Value) : laidMetH Tryd.prog laidAll ((World.laidAll Tryd.prog os laidAll).forCall (fun _ _ => 0) ⟨#[], args, []⟩).memory := by
  rw [MakeChecks.laidMetH_plain _ _ _ (by kernel_rfl)]
  exact laidMet_laidAll _ (by kernel_rfl) (by kernel_rfl)
set_option maxRecDepth 100000 in
theorem glob_of {W : World} (h : laidMetH Tryd.prog laidAll W) : Glob4 W := by
  rw [MakeChecks.laidMetH_plain _ _ _ (by kernel_rfl)] at h
  refine ⟨?_⟩
  obtain ⟨ps, ⟨g', t', cs, fuel, p, q, hg', ht', hvar, hd, _, _⟩, _⟩ := h
  obtain rfl := Option.some.inj (glob_kinds.symm.trans hg')
  obtain rfl := Option.some.inj ((show (Tryd.prog.globals[0]?).map (·.type) = some 67 by kernel_rfl).symm.trans ht')
  have e2 : cs = kindCells := by
    apply Array.ext'
    exact cells_of_kinds hd
  rw [e2] at hvar
  exact block_of_var glob_kinds hvar
end Go.Proofs.YtbjhgdimciibcaaDoor
