/-
  The arguments of stage 11's laws as data: a state, operations, a key, a text.
-/
import Derived.Deep.Slices
import Derived.Deep.Fields
import Derived.ProofKit
import Derived.OpenShut
import Derived.ChangeSame
import Derived.Test.YtnmpekbkahkapaaKC17
import Derived.Test.YtnmpekbkahkapaaKC15
import Derived.Test.YtnmpekbkahkapaaKC07
import Derived.Test.YtnmpekbkahkapaaKC16
import Derived.Test.YtnmpekbkahkapaaKC06
set_option linter.unusedSimpArgs false
set_option linter.unusedVariables false
namespace Go.Proofs.Ytnmpekbkahkapaa
open Go.ChangeShapes Go.WideShapes Go.ChangeAt Go.RowKit
open Go.Deep
theorem laidOut0 : laidOutB Try.prog = true := by kernel_rfl
theorem own0 : ownKnob Try.prog.godebug = none := by kernel_rfl
theorem u8_of4 {a : Int} (h : (Lit.int .u8 a).wf = true) : 0 ≤ a ∧ a < 256 := by
  have h2 : 0 ≤ a ∧ a ≤ 255 := by simpa [Lit.wf, IntKind.min, IntKind.max, IntKind.signed, IntKind.bits] using h
  omega
theorem u16_of4 {a : Int} (h : (Lit.int .u16 a).wf = true) : 0 ≤ a ∧ a < 65536 := by
  have h2 : 0 ≤ a ∧ a ≤ 65535 := by simpa [Lit.wf, IntKind.min, IntKind.max, IntKind.signed, IntKind.bits] using h
  omega
section
variable {H : Type} {enc : TypeId × Value → H} {w : World} {sp : Nat → Bool} {held : Bool}
set_option maxRecDepth 100000 in
theorem open_arr8 {fuel : Nat} {cs : List Value} {y : DataW H × List MemPlace} (h : DataW.trod enc Try.prog w 0 sp held fuel 23 cs = some y) :
    ∃ vs : List Int, vs.length = 8 ∧ cs = [.int .u16 (vs.getD 0 0), .int .u16 (vs.getD 1 0), .int .u16 (vs.getD 2 0), .int .u16 (vs.getD 3 0), .int .u16 (vs.getD 4 0), .int .u16 (vs.getD 5 0), .int .u16 (vs.getD 6 0), .int .u16 (vs.getD 7 0)] ∧ ∀ v ∈ vs, 0 ≤ v ∧ v < 65536 := by
  obtain ⟨xs, k, rfl, _, hl, hxl, hat⟩ := DataW.trod_array Try.underlying23 h
  have hc2 : Try.prog.cellsOf 22 = 1 := by kernel_rfl
  have hc8 : Try.prog.cellsOf 23 = 8 := by kernel_rfl
  rw [hc8] at hl
  match cs, hl with
  | [c0, c1, c2, c3, c4, c5, c6, c7], _ =>
    match xs, hxl with
    | [x0, x1, x2, x3, x4, x5, x6, x7], _ =>
      have h0 : DataW.trod enc Try.prog w 0 sp held k 22 [c0] = some x0 := by simpa [hc2] using hat 0 (by decide)
      have h1 : DataW.trod enc Try.prog w 0 sp held k 22 [c1] = some x1 := by simpa [hc2] using hat 1 (by decide)
      have h2 : DataW.trod enc Try.prog w 0 sp held k 22 [c2] = some x2 := by simpa [hc2] using hat 2 (by decide)
      have h3 : DataW.trod enc Try.prog w 0 sp held k 22 [c3] = some x3 := by simpa [hc2] using hat 3 (by decide)
      have h4 : DataW.trod enc Try.prog w 0 sp held k 22 [c4] = some x4 := by simpa [hc2] using hat 4 (by decide)
      have h5 : DataW.trod enc Try.prog w 0 sp held k 22 [c5] = some x5 := by simpa [hc2] using hat 5 (by decide)
      have h6 : DataW.trod enc Try.prog w 0 sp held k 22 [c6] = some x6 := by simpa [hc2] using hat 6 (by decide)
      have h7 : DataW.trod enc Try.prog w 0 sp held k 22 [c7] = some x7 := by simpa [hc2] using hat 7 (by decide)
      obtain ⟨n0, e0, _, w0⟩ := DataW.trod_int Try.underlying22 h0
      obtain ⟨n1, e1, _, w1⟩ := DataW.trod_int Try.underlying22 h1
      obtain ⟨n2, e2, _, w2⟩ := DataW.trod_int Try.underlying22 h2
      obtain ⟨n3, e3, _, w3⟩ := DataW.trod_int Try.underlying22 h3
      obtain ⟨n4, e4, _, w4⟩ := DataW.trod_int Try.underlying22 h4
      obtain ⟨n5, e5, _, w5⟩ := DataW.trod_int Try.underlying22 h5
      obtain ⟨n6, e6, _, w6⟩ := DataW.trod_int Try.underlying22 h6
      obtain ⟨n7, e7, _, w7⟩ := DataW.trod_int Try.underlying22 h7
      simp only [List.cons.injEq, and_true] at e0 e1 e2 e3 e4 e5 e6 e7
      subst e0 e1 e2 e3 e4 e5 e6 e7
      refine ⟨[n0, n1, n2, n3, n4, n5, n6, n7], rfl, rfl, fun v hv => ?_⟩
      simp only [List.mem_cons, List.not_mem_nil, or_false] at hv
      rcases hv with rfl | rfl | rfl | rfl | rfl | rfl | rfl | rfl
      · exact u16_of4 w0
      · exact u16_of4 w1
      · exact u16_of4 w2
      · exact u16_of4 w3
      · exact u16_of4 w4
      · exact u16_of4 w5
      · exact u16_of4 w6
      · exact u16_of4 w7
set_option maxRecDepth 100000 in
theorem open_kv {r : Reach} {b0 : Nat} {v : Value} {d : DataW H} {p : List MemPlace} (hv : Value.okWide Try.prog w r b0 25 v) (h : DataW.Trod enc Try.prog w 0 sp held 25 v d p) :
    ∃ (h : Nat) (vs : List Int), v = .agg (kvA h vs) ∧ RawIn h vs := by
  obtain ⟨cs, rfl, hsz⟩ := okWide_struct Try.underlying25 hv
  obtain ⟨fuel, hf⟩ := h
  have hc9 : Try.prog.cellsOf 25 = 9 := by kernel_rfl
  obtain ⟨l⟩ := cs
  obtain ⟨xs, k, rfl, _, hl, hxl, hat⟩ := DataW.trod_struct Try.underlying25 hf
  have hc1 : Try.prog.cellsOf 5 = 1 := by kernel_rfl
  have hc8 : Try.prog.cellsOf 23 = 8 := by kernel_rfl
  have hl9 : l.length = 9 := by rw [hc9] at hl; simpa [Value.cells] using hl
  match l, hl9 with
  | [c, c0, c1, c2, c3, c4, c5, c6, c7], _ =>
    match xs, hxl with
    | [x, y], _ =>
      have h0 : DataW.trod enc Try.prog w 0 sp held k 5 [c] = some x := by simpa [hc1, hc8, Value.cells] using hat 0 _ rfl
      have h1 : DataW.trod enc Try.prog w 0 sp held k 23 [c0, c1, c2, c3, c4, c5, c6, c7] = some y := by simpa [hc1, hc8, Value.cells] using hat 1 _ rfl
      obtain ⟨n, e0, _, w0⟩ := DataW.trod_int Try.underlying5 h0
      obtain ⟨vs, hlen, e1, hr⟩ := open_arr8 h1
      simp only [List.cons.injEq, and_true] at e0 e1
      obtain ⟨rfl, rfl, rfl, rfl, rfl, rfl, rfl, rfl⟩ := e1
      subst e0
      have b := u8_of4 w0
      obtain ⟨m, rfl⟩ := Int.eq_ofNat_of_zero_le b.1
      exact ⟨m, vs, rfl, ⟨by omega, hlen, hr⟩⟩
end
end Go.Proofs.Ytnmpekbkahkapaa
