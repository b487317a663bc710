/-
  The arguments of stage 9's laws as data: numbers, operations, a probe.
-/
import Derived.Deep.Slices
import Derived.Deep.Fields
import Derived.ProofKit
import Derived.OpenShut
import Derived.ChangeSame
import Derived.Test.YtockahocmomdlaaRS07
set_option linter.unusedSimpArgs false
set_option linter.unusedVariables false
namespace Go.Proofs.Ytockahocmomdlaa
open Go.ChangeShapes Go.WideShapes Go.ChangeAt Go.RowKit
open Go.Deep
theorem laidOut0 : laidOutB Try.prog = true := by kernel_rfl
theorem own0 : ownKnob Try.prog.godebug = none := by kernel_rfl
theorem u8_of4 {a : Int} (h : (Lit.int .u8 a).wf = true) : 0 ≤ a ∧ a < 256 := by
  have h2 : 0 ≤ a ∧ a ≤ 255 := by simpa [Lit.wf, IntKind.min, IntKind.max, IntKind.signed, IntKind.bits] using h
  omega
theorem u16_of4 {a : Int} (h : (Lit.int .u16 a).wf = true) : 0 ≤ a ∧ a < 65536 := by
  have h2 : 0 ≤ a ∧ a ≤ 65535 := by simpa [Lit.wf, IntKind.min, IntKind.max, IntKind.signed, IntKind.bits] using h
  omega
theorem cells_op : Try.prog.cellsOf 24 = 5 := by kernel_rfl
section
variable {H : Type} {enc : TypeId × Value → H} {w : World} {sp : Nat → Bool} {held : Bool}
set_option maxRecDepth 100000 in
theorem open_opc {fuel : Nat} {cs : List Value} {y : DataW H × List MemPlace} (h : DataW.trod enc Try.prog w 0 sp held fuel 24 cs = some y) :
    ∃ x : Opn, cs = [.int .u8 x.f, .int .u8 x.o, .int .u8 x.k, .int .u16 x.a, .int .u16 x.b] ∧ x.In := by
  obtain ⟨xs, k, rfl, _, hl, hxl, hat⟩ := DataW.trod_struct Try.underlying24 h
  have hc1 : Try.prog.cellsOf 5 = 1 := by kernel_rfl
  have hc2 : Try.prog.cellsOf 22 = 1 := by kernel_rfl
  rw [cells_op] at hl
  match cs, hl with
  | [c0, c1, c2, c3, c4], _ =>
    match xs, hxl with
    | [x0, x1, x2, x3, x4], _ =>
      have h0 : DataW.trod enc Try.prog w 0 sp held k 5 [c0] = some x0 := by simpa [hc1, hc2] using hat 0 _ rfl
      have h1 : DataW.trod enc Try.prog w 0 sp held k 5 [c1] = some x1 := by simpa [hc1, hc2] using hat 1 _ rfl
      have h2 : DataW.trod enc Try.prog w 0 sp held k 5 [c2] = some x2 := by simpa [hc1, hc2] using hat 2 _ rfl
      have h3 : DataW.trod enc Try.prog w 0 sp held k 22 [c3] = some x3 := by simpa [hc1, hc2] using hat 3 _ rfl
      have h4 : DataW.trod enc Try.prog w 0 sp held k 22 [c4] = some x4 := by simpa [hc1, hc2] using hat 4 _ rfl
      obtain ⟨n0, e0, _, w0⟩ := DataW.trod_int Try.underlying5 h0
      obtain ⟨n1, e1, _, w1⟩ := DataW.trod_int Try.underlying5 h1
      obtain ⟨n2, e2, _, w2⟩ := DataW.trod_int Try.underlying5 h2
      obtain ⟨n3, e3, _, w3⟩ := DataW.trod_int Try.underlying22 h3
      obtain ⟨n4, e4, _, w4⟩ := DataW.trod_int Try.underlying22 h4
      simp only [List.cons.injEq, and_true] at e0 e1 e2 e3 e4
      subst e0 e1 e2 e3 e4
      have b0 := u8_of4 w0; have b1 := u8_of4 w1; have b2 := u8_of4 w2; have b3 := u16_of4 w3; have b4 := u16_of4 w4
      exact ⟨⟨n0, n1, n2, n3, n4⟩, rfl, ⟨b0.1, b0.2, b1.1, b1.2, b2.1, b2.2, b3.1, b3.2, b4.1, b4.2⟩⟩
set_option maxRecDepth 100000 in
theorem open_opv {r : Reach} {b0 : Nat} {v : Value} {d : DataW H} {p : List MemPlace} (hv : Value.okWide Try.prog w r b0 24 v) (h : DataW.Trod enc Try.prog w 0 sp held 24 v d p) : ∃ x : Opn, v = x.val ∧ x.In := by
  obtain ⟨cs, rfl, hsz⟩ := okWide_struct Try.underlying24 hv
  obtain ⟨fuel, hf⟩ := h
  obtain ⟨x, e, hx⟩ := open_opc hf
  refine ⟨x, ?_, hx⟩
  obtain ⟨l⟩ := cs
  have e2 : l = [.int .u8 x.f, .int .u8 x.o, .int .u8 x.k, .int .u16 x.a, .int .u16 x.b] := e
  rw [e2]; rfl
end
end Go.Proofs.Ytockahocmomdlaa
