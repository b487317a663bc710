/-
  The arguments of stage 12's laws as data: calls; any slice of structs without references.
-/
import Derived.Test.YtbjhgdimciibcaaDoorLR12
import Derived.Test.YtbjhgdimciibcaaDoorLR14
set_option linter.unusedSimpArgs false
set_option linter.unusedVariables false
namespace Go.Proofs.YtbjhgdimciibcaaDoor
open Go.ChangeShapes Go.WideShapes Go.ChangeAt Go.RowKit
open Go.Joins Go.Deep
section
variable {H : Type} {enc : TypeId × Value → H} {w : World} {sp : Nat → Bool} {held : Bool}
/-- A slice of structs without references that was handed in, whatever the struct: z any one of them. -/
theorem RK.open_ {α : Type} (R : RK α) {J : α → Prop} (z : α) (hc3 : Tryd.prog.cellsOf R.T = R.s)
    (h1 : ∀ {fuel : Nat} {cs : List Value} {y : DataW H × List MemPlace}, DataW.trod enc Tryd.prog w 0 sp held fuel R.T cs = some y → ∃ x : α, cs = R.cs x ∧ J x)
    {fuel : Nat} {v : Value} {y : DataW H × List MemPlace} (h : DataW.trod enc Tryd.prog w 0 sp held fuel R.Sl [v] = some y) :
    ∃ l : List α, R.In w.heap.size w v l ∧ ∀ x ∈ l, J x := by
  rcases open_slice R.und h with ⟨hcs, _⟩ | ⟨x, len, c, m, n, D, Pl, hcs, _, hl, hm, hmm, _, hi⟩
  · simp at hcs
    subst hcs
    exact ⟨[], ⟨none, 0, rfl, Nat.le_refl _, by decide, fun h => absurd rfl h⟩, fun x hx => by cases hx⟩
  · simp at hcs
    subst hcs
    have hlm : len ≤ m := by rw [hmm]; split <;> omega
    rw [hc3] at hi
    unfold maxLen at hm
    have each : ∀ i, ∃ q : α, i < len → (∀ j u, (R.cs q)[j]? = some u → w.cell? (x.add (i * R.s + j)) = some u) ∧ J q := fun i => by
      by_cases hil : i < len
      · obtain ⟨cs', hc, ht⟩ := hi i (by omega)
        obtain ⟨q, rfl, hqi⟩ := h1 ht
        obtain ⟨_, _, hat⟩ := World.cells?_some hc
        refine ⟨q, fun _ => ⟨fun j u hu => ?_, hqi⟩⟩
        have hj : j < R.s := by have := (List.getElem?_eq_some_iff.1 hu).1; rwa [R.len] at this
        have a := hat j hj
        rw [Go.Deep.add_add] at a
        rw [a]; exact hu
      · exact ⟨z, fun h => absurd h hil⟩
    obtain ⟨Q, hQ⟩ := Classical.axiomOfChoice each
    refine ⟨(List.range len).map Q, ⟨some x, c, by simp, by simp; omega, by omega, fun hn => ?_⟩, fun y hy => ?_⟩
    · have h0 : 0 < len := by
        rcases Nat.eq_zero_or_pos len with h | h
        · exact absurd (by simp [h]) hn
        · exact h
      have hlt : 0 < (R.cs (Q 0)).length := by rw [R.len]; exact R.s0
      have hc0 := (hQ 0 h0).1 0 _ (List.getElem?_eq_getElem hlt)
      have hs := spot_none hc0
      have hb := World.block_lt_of_cell? _ _ hc0
      rw [Nat.zero_mul, Nat.zero_add, add_none] at hs hb
      obtain ⟨b, o, s⟩ := x
      simp only at hs
      subst hs
      refine ⟨b, o, rfl, hb, fun j hj => ?_⟩
      have hj' : j < len := by simpa using hj
      have q1 := (hQ j hj').1
      intro i u hu
      have hu2 : (R.cs (Q j))[i]? = some u := by
        rw [show ((List.range len).map Q)[j] = Q j by simp] at hu
        exact hu
      have := q1 i u hu2
      rw [add_at] at this
      show w.cell? ⟨b, o + j * R.s + i, none⟩ = some u
      rw [Nat.add_assoc]; exact this
    · obtain ⟨i, hi', rfl⟩ := List.mem_map.1 hy
      exact (hQ i (by simpa using hi')).2
set_option maxRecDepth 100000 in
theorem open_cl {fuel : Nat} {cs : List Value} {y : DataW H × List MemPlace} (h : DataW.trod enc Tryd.prog w 0 sp held fuel 49 cs = some y) :
    ∃ x : Cl, cs = clC x ∧ x.In := by
  obtain ⟨xs, k, rfl, _, hl, hxl, hat⟩ := DataW.trod_struct Tryd.underlying49 h
  rw [show Tryd.prog.cellsOf 49 = 6 by kernel_rfl] at hl
  match cs, hl with
  | [c0, c1, c2, c3, c4, c5], _ =>
    have hc1 : Tryd.prog.cellsOf 5 = 1 := by kernel_rfl
    have hc3 : Tryd.prog.cellsOf 24 = 5 := by kernel_rfl
    match xs, hxl with
    | [x0, x1], _ =>
      have h0 : DataW.trod enc Tryd.prog w 0 sp held k 5 [c0] = some x0 := by simpa [hc1, hc3, Value.cells] using hat 0 _ rfl
      have h1 : DataW.trod enc Tryd.prog w 0 sp held k 24 [c1, c2, c3, c4, c5] = some x1 := by simpa [hc1, hc3, Value.cells] using hat 1 _ rfl
      obtain ⟨n0, e0, _, w0⟩ := DataW.trod_int Tryd.underlying5 h0
      obtain ⟨o, e1, ho⟩ := open_opc h1
      simp only [List.cons.injEq, and_true] at e0 e1
      obtain ⟨rfl, rfl, rfl, rfl, rfl⟩ := e1
      subst e0
      have b0 := u8_of4 w0
      exact ⟨⟨n0, o⟩, rfl, ⟨b0.1, b0.2, ho⟩⟩
theorem open_calls {fuel : Nat} {v : Value} {y : DataW H × List MemPlace} (h : DataW.trod enc Tryd.prog w 0 sp held fuel 44 [v] = some y) :
    ∃ l : List Cl, rkCl.In w.heap.size w v l ∧ ∀ x ∈ l, x.In :=
  rkCl.open_ clZero (show Tryd.prog.cellsOf 49 = 6 by kernel_rfl) (fun h => open_cl h) h
end
/-! The laws by the cards' order of arguments. -/
theorem LockRuns_args (W : World) (hG : Glob4 W) (s : Int) (h0 : 0 ≤ s) (h1 : s < 256) {v : Value} {l : List Cl} (hI : rkCl.In W.heap.size W v l) (hl : ∀ y ∈ l, y.In) : Calls Tryd.prog 4 #[.int .u8 s, v] W fun e w' => e = .returned (.bool true) ∧ Keeps [] W w' :=
  LockRuns_any W hG ⟨h0, h1⟩ hl hI
end Go.Proofs.YtbjhgdimciibcaaDoor
