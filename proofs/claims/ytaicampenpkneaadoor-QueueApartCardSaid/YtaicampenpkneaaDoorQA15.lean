/-
  The arguments of stage 10's laws as data: lists of numbers, operations; what the rows' condition on op's table gives.
-/
import Derived.Deep.Slices
import Derived.Deep.Fields
import Derived.Test.YtaicampenpkneaaDoorQA05
import Derived.Test.YtaicampenpkneaaDoorQA14
import Derived.Test.YtaicampenpkneaaDoorQA04
set_option linter.unusedSimpArgs false
set_option linter.unusedVariables false
namespace Go.Proofs.YtaicampenpkneaaDoor
open Go.ChangeShapes Go.WideShapes Go.ChangeAt Go.RowKit
open Go.Joins Go.Deep
theorem laidOut0 : laidOutB Tryd.prog = true := by kernel_rfl
theorem spot_none {w : World} {a : Addr} {v : Value} (h : w.cell? a = some v) : a.spot = none := by
  unfold World.cell? at h
  split at h
  · split at h
    · cases h
    · rename_i hs
      simpa using hs
  · cases h
theorem add_none (a : Addr) : a.add 0 = a := by simp [Addr.add]
theorem add_at (b o j : Nat) : ((⟨b, o, none⟩ : Addr).add j) = ⟨b, o + j, none⟩ := by unfold Addr.add; split <;> simp_all
section
variable {H : Type} {enc : TypeId × Value → H} {w : World} {sp : Nat → Bool} {held : Bool}
set_option maxRecDepth 100000 in
theorem open_opc {fuel : Nat} {cs : List Value} {y : DataW H × List MemPlace} (h : DataW.trod enc Tryd.prog w 0 sp held fuel 25 cs = some y) :
    ∃ x : Opn, cs = [.int .u8 x.f, .int .u8 x.o, .int .u8 x.k, .int .u16 x.a, .int .u16 x.b] ∧ x.In := by
  obtain ⟨xs, k, rfl, _, hl, hxl, hat⟩ := DataW.trod_struct Tryd.underlying25 h
  have hc1 : Tryd.prog.cellsOf 5 = 1 := by kernel_rfl
  have hc2 : Tryd.prog.cellsOf 23 = 1 := by kernel_rfl
  rw [cells_op] at hl
  match cs, hl with
  | [c0, c1, c2, c3, c4], _ =>
    match xs, hxl with
    | [x0, x1, x2, x3, x4], _ =>
      have h0 : DataW.trod enc Tryd.prog w 0 sp held k 5 [c0] = some x0 := by simpa [hc1, hc2] using hat 0 _ rfl
      have h1 : DataW.trod enc Tryd.prog w 0 sp held k 5 [c1] = some x1 := by simpa [hc1, hc2] using hat 1 _ rfl
      have h2 : DataW.trod enc Tryd.prog w 0 sp held k 5 [c2] = some x2 := by simpa [hc1, hc2] using hat 2 _ rfl
      have h3 : DataW.trod enc Tryd.prog w 0 sp held k 23 [c3] = some x3 := by simpa [hc1, hc2] using hat 3 _ rfl
      have h4 : DataW.trod enc Tryd.prog w 0 sp held k 23 [c4] = some x4 := by simpa [hc1, hc2] using hat 4 _ rfl
      obtain ⟨n0, e0, _, w0⟩ := DataW.trod_int Tryd.underlying5 h0
      obtain ⟨n1, e1, _, w1⟩ := DataW.trod_int Tryd.underlying5 h1
      obtain ⟨n2, e2, _, w2⟩ := DataW.trod_int Tryd.underlying5 h2
      obtain ⟨n3, e3, _, w3⟩ := DataW.trod_int Tryd.underlying23 h3
      obtain ⟨n4, e4, _, w4⟩ := DataW.trod_int Tryd.underlying23 h4
      simp only [List.cons.injEq, and_true] at e0 e1 e2 e3 e4
      subst e0 e1 e2 e3 e4
      have b0 := u8_of4 w0; have b1 := u8_of4 w1; have b2 := u8_of4 w2; have b3 := u16_of4 w3; have b4 := u16_of4 w4
      exact ⟨⟨n0, n1, n2, n3, n4⟩, rfl, ⟨b0.1, b0.2, b1.1, b1.2, b2.1, b2.2, b3.1, b3.2, b4.1, b4.2⟩⟩
theorem open_ops {fuel : Nat} {v : Value} {y : DataW H × List MemPlace} (h : DataW.trod enc Tryd.prog w 0 sp held fuel 41 [v] = some y) :
    ∃ l : List Opn, rkO.In w.heap.size w v l ∧ ∀ x ∈ l, x.In := by
  rcases open_slice Tryd.underlying41 h with ⟨hcs, _⟩ | ⟨x, len, c, m, n, D, Pl, hcs, _, hl, hm, hmm, _, hi⟩
  · simp at hcs
    subst hcs
    exact ⟨[], ⟨none, 0, rfl, Nat.le_refl _, by decide, fun h => absurd rfl h⟩, fun x hx => by cases hx⟩
  · simp at hcs
    subst hcs
    have hlm : len ≤ m := by rw [hmm]; split <;> omega
    have hc3 : Tryd.prog.cellsOf 25 = 5 := by kernel_rfl
    rw [hc3] at hi
    unfold maxLen at hm
    have each : ∀ i, ∃ q : Opn, i < len → (∀ j u, (opC q)[j]? = some u → w.cell? (x.add (i * 5 + j)) = some u) ∧ q.In := fun i => by
      by_cases hil : i < len
      · obtain ⟨cs', hc, ht⟩ := hi i (by omega)
        obtain ⟨q, rfl, hqi⟩ := open_opc ht
        obtain ⟨_, _, hat⟩ := World.cells?_some hc
        refine ⟨q, fun _ => ⟨fun j u hu => ?_, hqi⟩⟩
        have hj : j < 5 := (List.getElem?_eq_some_iff.1 hu).1
        have a := hat j hj
        rw [Go.Deep.add_add] at a
        rw [a]; exact hu
      · exact ⟨⟨0, 0, 0, 0, 0⟩, fun h => absurd h hil⟩
    obtain ⟨Q, hQ⟩ := Classical.axiomOfChoice each
    refine ⟨(List.range len).map Q, ⟨some x, c, by simp, by simp; omega, by omega, fun hn => ?_⟩, fun y hy => ?_⟩
    · have h0 : 0 < len := by
        rcases Nat.eq_zero_or_pos len with h | h
        · exact absurd (by simp [h]) hn
        · exact h
      have hc0 := (hQ 0 h0).1 0 _ rfl
      have hs := spot_none hc0
      have hb := World.block_lt_of_cell? _ _ hc0
      rw [Nat.zero_mul, Nat.zero_add, add_none] at hs hb
      obtain ⟨b, o, s⟩ := x
      simp only at hs
      subst hs
      refine ⟨b, o, rfl, hb, fun j hj => ?_⟩
      have hj' : j < len := by simpa using hj
      have q1 := (hQ j hj').1
      intro i u hu
      have hu2 : (opC (Q j))[i]? = some u := by
        rw [show ((List.range len).map Q)[j] = Q j by simp] at hu
        exact hu
      have := q1 i u hu2
      rw [add_at] at this
      show w.cell? ⟨b, o + j * 5 + i, none⟩ = some u
      rw [Nat.add_assoc]; exact this
    · obtain ⟨i, hi', rfl⟩ := List.mem_map.1 hy
      exact (hQ i (by simpa using hi')).2
theorem open_u16s {fuel : Nat} {v : Value} {y : DataW H × List MemPlace} (h : DataW.trod enc Tryd.prog w 0 sp held fuel 22 [v] = some y) :
    ∃ l : List Int, rkU.In w.heap.size w v l ∧ U16s l := by
  rcases open_ints Tryd.underlying22 Tryd.underlying23 (by kernel_rfl) h with ⟨hcs, _⟩ | ⟨x, l, c, zs, hcs, _, hl, hm, hz, _, hcell, hwz⟩
  · simp at hcs
    subst hcs
    exact ⟨[], ⟨none, 0, rfl, Nat.le_refl _, by decide, fun h => absurd rfl h⟩, fun v hv => by cases hv⟩
  · simp at hcs
    subst hcs
    have hlz : l ≤ zs.length := by rw [hz]; split <;> omega
    unfold maxLen at hm
    refine ⟨zs.take l, ⟨some x, c, by simp [Nat.min_eq_left hlz], by simp; omega, by omega, fun hn => ?_⟩, ?_⟩
    · have h0 : 0 < l := by
        rcases Nat.eq_zero_or_pos l with h | h
        · exact absurd (by simp [h]) hn
        · exact h
      have hc0 := hcell 0 (by omega)
      have hs := spot_none hc0
      have hb := World.block_lt_of_cell? _ _ hc0
      rw [add_none] at hs hb
      obtain ⟨b, o, s⟩ := x
      simp only at hs
      subst hs
      refine ⟨b, o, rfl, hb, fun j hj i u hi => ?_⟩
      have hj' : j < l := by simp at hj; omega
      have h1 := hcell j (by omega)
      rw [add_at] at h1
      have h2 : i = 0 ∧ u = .int .u16 (zs.take l)[j] := by
        cases i with
        | zero => exact ⟨rfl, by simpa [rkU, u16C] using hi.symm⟩
        | succ i => simp [rkU, u16C] at hi
      obtain ⟨rfl, rfl⟩ := h2
      rw [show o + j * rkU.s + 0 = o + j from by show o + j * 1 + 0 = o + j; omega, h1]
      have hj3 : j < zs.length := by omega
      simp [List.getElem_take, List.getElem?_eq_getElem hj3]
    · intro v hv
      have := hwz v (List.mem_of_mem_take hv)
      have h2 : 0 ≤ v ∧ v ≤ 65535 := by simpa [Lit.wf, IntKind.min, IntKind.max, IntKind.signed, IntKind.bits] using this
      omega
end
/-- What the rows of this seat list. -/
def laidAll : List (String × DataW Unit) := [("umpire/op.kinds", Rows.laid_umpire_op_kinds)]
theorem laidAll_met (os : Os) (args : Array Value) : laidMetH Tryd.prog laidAll ((World.laidAll Tryd.prog os laidAll).forCall (fun _ _ => 0) ⟨#[], args, []⟩).memory := by
  rw [MakeChecks.laidMetH_plain _ _ _ (by kernel_rfl)]
  exact laidMet_laidAll _ (by kernel_rfl) (by kernel_rfl)
set_option maxRecDepth 100000 in
theorem glob_of {W : World} (h : laidMetH Tryd.prog laidAll W) : Glob4 W := by
  rw [MakeChecks.laidMetH_plain _ _ _ (by kernel_rfl)] at h
  refine ⟨?_⟩
  obtain ⟨ps, ⟨g', t', cs, fuel, p, q, hg', ht', hvar, hd, _, _⟩, _⟩ := h
  obtain rfl := Option.some.inj (glob_kinds.symm.trans hg')
  obtain rfl := Option.some.inj ((show (Tryd.prog.globals[0]?).map (·.type) = some 80 by kernel_rfl).symm.trans ht')
  have e2 : cs = kindCells := by
    apply Array.ext'
    exact cells_of_kinds hd
  rw [e2] at hvar
  exact block_of_var glob_kinds hvar
end Go.Proofs.YtaicampenpkneaaDoor
/-
  Stage 10's laws, by their arguments in the cards' order.
-/
namespace Go.Proofs.YtaicampenpkneaaDoor
open Go.RowKit
variable {G : World → Prop}
theorem QueueApart_args (R : QuProg G) (w : World) (hG : G w) {v v2 v3 : Value} {l : List Int} {oa ob : List Opn} (hl : rkU.In w.heap.size w v l) (ha : rkO.In w.heap.size w v2 oa) (hia : ∀ x ∈ oa, x.In) (hb : rkO.In w.heap.size w v3 ob) (hib : ∀ x ∈ ob, x.In) :
    Calls Tryd.prog 7 #[v, v2, v3] w fun e w' => e = .returned (.bool true) ∧ Keeps [] w w' := QueueApart_any R w hG hl ha hb hia hib
end Go.Proofs.YtaicampenpkneaaDoor
