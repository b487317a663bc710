/-
  The arguments of stage 11's laws as data: a state, operations, a key, a text.
-/
import Derived.Deep.Slices
import Derived.Deep.Fields
import Derived.ProofKit
import Derived.OpenShut
import Derived.ChangeSame
import Derived.Test.YtnmpekbkahkapaaKL17
import Derived.Test.YtnmpekbkahkapaaKL15
import Derived.Test.YtnmpekbkahkapaaKL07
import Derived.Test.YtnmpekbkahkapaaKL06
import Derived.Test.YtnmpekbkahkapaaKL16
set_option linter.unusedSimpArgs false
set_option linter.unusedVariables false
namespace Go.Proofs.Ytnmpekbkahkapaa
open Go.ChangeShapes Go.WideShapes Go.ChangeAt Go.RowKit
open Go.Deep
theorem laidOut0 : laidOutB Try.prog = true := by kernel_rfl
theorem own0 : ownKnob Try.prog.godebug = none := by kernel_rfl
theorem spot_none {w : World} {a : Addr} {v : Value} (h : w.cell? a = some v) : a.spot = none := by
  unfold World.cell? at h
  split at h
  · split at h
    · cases h
    · rename_i hs
      simpa using hs
  · cases h
theorem add_none (a : Addr) : a.add 0 = a := by simp [Addr.add]
theorem add_at (b o j : Nat) : ((⟨b, o, none⟩ : Addr).add j) = ⟨b, o + j, none⟩ := by unfold Addr.add; split <;> simp_all
theorem u8_of4 {a : Int} (h : (Lit.int .u8 a).wf = true) : 0 ≤ a ∧ a < 256 := by
  have h2 : 0 ≤ a ∧ a ≤ 255 := by simpa [Lit.wf, IntKind.min, IntKind.max, IntKind.signed, IntKind.bits] using h
  omega
theorem u16_of4 {a : Int} (h : (Lit.int .u16 a).wf = true) : 0 ≤ a ∧ a < 65536 := by
  have h2 : 0 ≤ a ∧ a ≤ 65535 := by simpa [Lit.wf, IntKind.min, IntKind.max, IntKind.signed, IntKind.bits] using h
  omega
theorem cells_op : Try.prog.cellsOf 27 = 5 := by kernel_rfl
section
variable {H : Type} {enc : TypeId × Value → H} {w : World} {sp : Nat → Bool} {held : Bool}
set_option maxRecDepth 100000 in
theorem open_opc {fuel : Nat} {cs : List Value} {y : DataW H × List MemPlace} (h : DataW.trod enc Try.prog w 0 sp held fuel 27 cs = some y) :
    ∃ x : Opn, cs = [.int .u8 x.f, .int .u8 x.o, .int .u8 x.k, .int .u16 x.a, .int .u16 x.b] ∧ x.In := by
  obtain ⟨xs, k, rfl, _, hl, hxl, hat⟩ := DataW.trod_struct Try.underlying27 h
  have hc1 : Try.prog.cellsOf 5 = 1 := by kernel_rfl
  have hc2 : Try.prog.cellsOf 22 = 1 := by kernel_rfl
  rw [cells_op] at hl
  match cs, hl with
  | [c0, c1, c2, c3, c4], _ =>
    match xs, hxl with
    | [x0, x1, x2, x3, x4], _ =>
      have h0 : DataW.trod enc Try.prog w 0 sp held k 5 [c0] = some x0 := by simpa [hc1, hc2] using hat 0 _ rfl
      have h1 : DataW.trod enc Try.prog w 0 sp held k 5 [c1] = some x1 := by simpa [hc1, hc2] using hat 1 _ rfl
      have h2 : DataW.trod enc Try.prog w 0 sp held k 5 [c2] = some x2 := by simpa [hc1, hc2] using hat 2 _ rfl
      have h3 : DataW.trod enc Try.prog w 0 sp held k 22 [c3] = some x3 := by simpa [hc1, hc2] using hat 3 _ rfl
      have h4 : DataW.trod enc Try.prog w 0 sp held k 22 [c4] = some x4 := by simpa [hc1, hc2] using hat 4 _ rfl
      obtain ⟨n0, e0, _, w0⟩ := DataW.trod_int Try.underlying5 h0
      obtain ⟨n1, e1, _, w1⟩ := DataW.trod_int Try.underlying5 h1
      obtain ⟨n2, e2, _, w2⟩ := DataW.trod_int Try.underlying5 h2
      obtain ⟨n3, e3, _, w3⟩ := DataW.trod_int Try.underlying22 h3
      obtain ⟨n4, e4, _, w4⟩ := DataW.trod_int Try.underlying22 h4
      simp only [List.cons.injEq, and_true] at e0 e1 e2 e3 e4
      subst e0 e1 e2 e3 e4
      have b0 := u8_of4 w0; have b1 := u8_of4 w1; have b2 := u8_of4 w2; have b3 := u16_of4 w3; have b4 := u16_of4 w4
      exact ⟨⟨n0, n1, n2, n3, n4⟩, rfl, ⟨b0.1, b0.2, b1.1, b1.2, b2.1, b2.2, b3.1, b3.2, b4.1, b4.2⟩⟩
theorem open_ops {fuel : Nat} {v : Value} {y : DataW H × List MemPlace} (h : DataW.trod enc Try.prog w 0 sp held fuel 42 [v] = some y) :
    ∃ l : List Opn, rkO.In w.heap.size w v l ∧ ∀ x ∈ l, x.In := by
  rcases open_slice Try.underlying42 h with ⟨hcs, _⟩ | ⟨x, len, c, m, n, D, Pl, hcs, _, hl, hm, hmm, _, hi⟩
  · simp at hcs
    subst hcs
    exact ⟨[], ⟨none, 0, rfl, Nat.le_refl _, by decide, fun h => absurd rfl h⟩, fun x hx => by cases hx⟩
  · simp at hcs
    subst hcs
    have hlm : len ≤ m := by rw [hmm]; split <;> omega
    have hc3 : Try.prog.cellsOf 27 = 5 := by kernel_rfl
    rw [hc3] at hi
    unfold maxLen at hm
    have each : ∀ i, ∃ q : Opn, i < len → (∀ j u, (opC q)[j]? = some u → w.cell? (x.add (i * 5 + j)) = some u) ∧ q.In := fun i => by
      by_cases hil : i < len
      · obtain ⟨cs', hc, ht⟩ := hi i (by omega)
        obtain ⟨q, rfl, hqi⟩ := open_opc ht
        obtain ⟨_, _, hat⟩ := World.cells?_some hc
        refine ⟨q, fun _ => ⟨fun j u hu => ?_, hqi⟩⟩
        have hj : j < 5 := (List.getElem?_eq_some_iff.1 hu).1
        have a := hat j hj
        rw [Go.Deep.add_add] at a
        rw [a]; exact hu
      · exact ⟨⟨0, 0, 0, 0, 0⟩, fun h => absurd h hil⟩
    obtain ⟨Q, hQ⟩ := Classical.axiomOfChoice each
    refine ⟨(List.range len).map Q, ⟨some x, c, by simp, by simp; omega, by omega, fun hn => ?_⟩, fun y hy => ?_⟩
    · have h0 : 0 < len := by
        rcases Nat.eq_zero_or_pos len with h | h
        · exact absurd (by simp [h]) hn
        · exact h
      have hc0 := (hQ 0 h0).1 0 _ rfl
      have hs := spot_none hc0
      have hb := World.block_lt_of_cell? _ _ hc0
      rw [Nat.zero_mul, Nat.zero_add, add_none] at hs hb
      obtain ⟨b, o, s⟩ := x
      simp only at hs
      subst hs
      refine ⟨b, o, rfl, hb, fun j hj => ?_⟩
      have hj' : j < len := by simpa using hj
      have q1 := (hQ j hj').1
      intro i u hu
      have hu2 : (opC (Q j))[i]? = some u := by
        rw [show ((List.range len).map Q)[j] = Q j by simp] at hu
        exact hu
      have := q1 i u hu2
      rw [add_at] at this
      show w.cell? ⟨b, o + j * 5 + i, none⟩ = some u
      rw [Nat.add_assoc]; exact this
    · obtain ⟨i, hi', rfl⟩ := List.mem_map.1 hy
      exact (hQ i (by simpa using hi')).2
end
end Go.Proofs.Ytnmpekbkahkapaa
