/-
  A slice of events as data.
-/
import Derived.Test.YtlaccndjlfpjbaaGreatDoorC10
import Derived.Test.YtlaccndjlfpjbaaGreatDoorC12
set_option linter.unusedSimpArgs false
set_option linter.unusedVariables false
namespace Go.Proofs.YtlaccndjlfpjbaaGreatDoor
open Go.ChangeShapes Go.WideShapes Go.ChangeAt Go.RowKit
open Go.Joins Go.Deep
variable {H : Type} {enc : TypeId × Value → H} {w : World} {sp : Nat → Bool} {held : Bool}
set_option maxRecDepth 100000 in
theorem open_evc {fuel : Nat} {cs : List Value} {y : DataW H × List MemPlace} (h : DataW.trod enc Tryz.prog w 0 sp held fuel 42 cs = some y) :
    ∃ (x : Ev) (tx rd : Value), cs = (evC x tx rd).toList ∧ EvAt w.heap.size w tx rd x ∧ x.In := by
  obtain ⟨xs, k, rfl, _, hl, hxl, hat⟩ := DataW.trod_struct Tryz.underlying42 h
  rw [show Tryz.prog.cellsOf 42 = 19 by kernel_rfl] at hl
  match cs, hl with
  | [c0, c1, c2, c3, c4, c5, c6, c7, c8, c9, c10, c11, c12, c13, c14, c15, c16, c17, c18], _ =>
    have hc1 : Tryz.prog.cellsOf 5 = 1 := by kernel_rfl
    have hc2 : Tryz.prog.cellsOf 32 = 1 := by kernel_rfl
    have hc3 : Tryz.prog.cellsOf 34 = 5 := by kernel_rfl
    have hc4 : Tryz.prog.cellsOf 36 = 2 := by kernel_rfl
    have hc5 : Tryz.prog.cellsOf 37 = 1 := by kernel_rfl
    have hc6 : Tryz.prog.cellsOf 38 = 1 := by kernel_rfl
    have hc7 : Tryz.prog.cellsOf 40 = 7 := by kernel_rfl
    match xs, hxl with
    | [x0, x1, x2, x3, x4, x5, x6, x7], _ =>
      have h0 : DataW.trod enc Tryz.prog w 0 sp held k 5 [c0] = some x0 := by simpa [hc1, hc2, hc3, hc4, hc5, hc6, hc7, Value.cells] using hat 0 _ rfl
      have h1 : DataW.trod enc Tryz.prog w 0 sp held k 5 [c1] = some x1 := by simpa [hc1, hc2, hc3, hc4, hc5, hc6, hc7, Value.cells] using hat 1 _ rfl
      have h2 : DataW.trod enc Tryz.prog w 0 sp held k 32 [c2] = some x2 := by simpa [hc1, hc2, hc3, hc4, hc5, hc6, hc7, Value.cells] using hat 2 _ rfl
      have h3 : DataW.trod enc Tryz.prog w 0 sp held k 34 [c3, c4, c5, c6, c7] = some x3 := by simpa [hc1, hc2, hc3, hc4, hc5, hc6, hc7, Value.cells] using hat 3 _ rfl
      have h4 : DataW.trod enc Tryz.prog w 0 sp held k 36 [c8, c9] = some x4 := by simpa [hc1, hc2, hc3, hc4, hc5, hc6, hc7, Value.cells] using hat 4 _ rfl
      have h5 : DataW.trod enc Tryz.prog w 0 sp held k 37 [c10] = some x5 := by simpa [hc1, hc2, hc3, hc4, hc5, hc6, hc7, Value.cells] using hat 5 _ rfl
      have h6 : DataW.trod enc Tryz.prog w 0 sp held k 38 [c11] = some x6 := by simpa [hc1, hc2, hc3, hc4, hc5, hc6, hc7, Value.cells] using hat 6 _ rfl
      have h7 : DataW.trod enc Tryz.prog w 0 sp held k 40 [c12, c13, c14, c15, c16, c17, c18] = some x7 := by simpa [hc1, hc2, hc3, hc4, hc5, hc6, hc7, Value.cells] using hat 7 _ rfl
      obtain ⟨n0, e0, _, w0⟩ := DataW.trod_int Tryz.underlying5 h0
      obtain ⟨n1, e1, _, w1⟩ := DataW.trod_int Tryz.underlying5 h1
      obtain ⟨n2, e2, _, w2⟩ := DataW.trod_int Tryz.underlying32 h2
      obtain ⟨o, e3, ho⟩ := open_opc h3
      obtain ⟨rk, rv, e4, r0, r1, r2, r3⟩ := open_res h4
      obtain ⟨lt, ht, hti⟩ := open_mics h5
      obtain ⟨lr, hr, hri⟩ := open_lists h6
      obtain ⟨g, e7, g0, g1, g2, g3, g4⟩ := open_cfg h7
      simp only [List.cons.injEq, and_true] at e0 e1 e2 e3 e4 e7
      obtain ⟨rfl, rfl, rfl, rfl, rfl⟩ := e3
      obtain ⟨rfl, rfl⟩ := e4
      obtain ⟨rfl, rfl, rfl, rfl, rfl, rfl, rfl⟩ := e7
      subst e0 e1 e2
      have b0 := u8_of4 w0; have b1 := u8_of4 w1; have b2 := u16_of4 w2
      exact ⟨⟨n0, n1, n2, o, rk, rv, lt, lr, g⟩, c10, c11, rfl, ⟨ht, hr⟩, ⟨b0.1, b0.2, b1.1, b1.2, b2.1, b2.2, ho, r0, r1, r2, r3, hti, hri, g0, g1, g2.1, g2.2, g3.1, g3.2, g4.1, g4.2⟩⟩
theorem open_evs {fuel : Nat} {v : Value} {y : DataW H × List MemPlace} (h : DataW.trod enc Tryz.prog w 0 sp held fuel 22 [v] = some y) :
    ∃ l : List Ev, Evs w.heap.size w v l ∧ ∀ x ∈ l, x.In := by
  rcases open_slice Tryz.underlying22 h with ⟨hcs, _⟩ | ⟨x, len, c, m, n, D, Pl, hcs, _, hl, hm, hmm, _, hi⟩
  · simp at hcs
    subst hcs
    exact ⟨[], ⟨none, 0, rfl, Nat.le_refl _, by decide, fun h => absurd rfl h⟩, fun x hx => by cases hx⟩
  · simp at hcs
    subst hcs
    have hlm : len ≤ m := by rw [hmm]; split <;> omega
    have hc3 : Tryz.prog.cellsOf 42 = 19 := by kernel_rfl
    rw [hc3] at hi
    unfold maxLen at hm
    have each : ∀ i, ∃ q : Ev × Value × Value, i < len → (∀ j u, (evC q.1 q.2.1 q.2.2).toList[j]? = some u → w.cell? (x.add (i * 19 + j)) = some u) ∧ EvAt w.heap.size w q.2.1 q.2.2 q.1 ∧ q.1.In := fun i => by
      by_cases hil : i < len
      · obtain ⟨cs', hc, ht⟩ := hi i (by omega)
        obtain ⟨q, tx, rd, rfl, hq, hqi⟩ := open_evc ht
        obtain ⟨_, _, hat⟩ := World.cells?_some hc
        refine ⟨⟨q, tx, rd⟩, fun _ => ⟨fun j u hu => ?_, hq, hqi⟩⟩
        have hj : j < 19 := (List.getElem?_eq_some_iff.1 hu).1
        have a := hat j hj
        rw [Go.Deep.add_add] at a
        rw [a]; exact hu
      · exact ⟨⟨evZero, .slice none 0 0, .slice none 0 0⟩, fun h => absurd h hil⟩
    obtain ⟨Q, hQ⟩ := Classical.axiomOfChoice each
    refine ⟨(List.range len).map (fun i => (Q i).1), ⟨some x, c, by simp, by simp; omega, by omega, fun hn => ?_⟩, fun y hy => ?_⟩
    · have h0 : 0 < len := by
        rcases Nat.eq_zero_or_pos len with h | h
        · exact absurd (by simp [h]) hn
        · exact h
      have hc0 := (hQ 0 h0).1 0 _ rfl
      have hs := spot_none hc0
      have hb := World.block_lt_of_cell? _ _ hc0
      rw [Nat.zero_mul, Nat.zero_add, add_none] at hs hb
      obtain ⟨b, o, s⟩ := x
      simp only at hs
      subst hs
      refine ⟨b, o, rfl, hb, fun j hj => ?_⟩
      have hj' : j < len := by simpa using hj
      obtain ⟨q1, q2, q3⟩ := hQ j hj'
      have hD : ((List.range len).map (fun i => (Q i).1)).getD j evZero = (Q j).1 := by simp [List.getD, hj']
      refine ⟨(Q j).2.1, (Q j).2.2, by rw [hD]; exact q2, ?_⟩
      rw [hD]
      intro i u hu
      have := q1 i u hu
      rw [add_at] at this
      rw [Nat.add_assoc]; exact this
    · obtain ⟨i, hi', rfl⟩ := List.mem_map.1 hy
      exact (hQ i (by simpa using hi')).2.2
end Go.Proofs.YtlaccndjlfpjbaaGreatDoor
