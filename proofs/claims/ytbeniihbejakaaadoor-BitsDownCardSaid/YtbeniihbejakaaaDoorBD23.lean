/-
  The arguments of stage 15's laws as data: numbers, acts, two numbers.
-/
import Derived.Deep.Slices
import Derived.Deep.Fields
import Derived.Test.YtbeniihbejakaaaDoorBD03
import Derived.Test.YtbeniihbejakaaaDoorBD20
import Derived.Test.YtbeniihbejakaaaDoorBD22
import Derived.Test.YtbeniihbejakaaaDoorBD09
set_option linter.unusedSimpArgs false
set_option linter.unusedVariables false
namespace Go.Proofs.YtbeniihbejakaaaDoor
open Go.ChangeShapes Go.WideShapes Go.ChangeAt Go.RowKit
open Go.Joins Go.Deep
theorem spot_none {w : World} {a : Addr} {v : Value} (h : w.cell? a = some v) : a.spot = none := by
  unfold World.cell? at h
  split at h
  · split at h
    · cases h
    · rename_i hs
      simpa using hs
  · cases h
theorem add_none (a : Addr) : a.add 0 = a := by simp [Addr.add]
theorem add_at (b o j : Nat) : ((⟨b, o, none⟩ : Addr).add j) = ⟨b, o + j, none⟩ := by unfold Addr.add; split <;> simp_all
theorem laidOut0 : laidOutB Tryd.prog = true := by kernel_rfl
/-- What the rows of this seat list. -/
def laidAll15 : List (String × DataW Unit) := Rows.bitsPlaysRow.laid
theorem laidAll15_met (os : Os) (args : Array Value) : laidMetH Tryd.prog laidAll15 ((World.laidAll Tryd.prog os laidAll15).forCall (fun _ _ => 0) ⟨#[], args, []⟩).memory := by
  rw [MakeChecks.laidMetH_plain _ _ _ (by kernel_rfl)]
  exact laidMet_laidAll _ (by kernel_rfl) (by kernel_rfl)
set_option maxRecDepth 100000 in
theorem glob15_of {W : World} (h : laidMetH Tryd.prog laidAll15 W) : Glob15 W := by
  rw [MakeChecks.laidMetH_plain _ _ _ (by kernel_rfl)] at h
  have hT : laidMet Tryd.prog (("math/bits.deBruijn64tab", Lib.tabData .u8 (Lib.deBruijn64tab.map fun x : Nat => (x : Int))) :: []) W := h
  exact ⟨Lib.tabIs_of_head glob15_tab (by kernel_rfl) Tryd.underlying82 Tryd.underlying5 (by kernel_rfl) (by kernel_rfl) hT⟩
theorem i64_of15 {a : Int} (h : (Lit.int .i64 a).wf = true) : I64 a := by
  have h2 : -9223372036854775808 ≤ a ∧ a ≤ 9223372036854775807 := by simpa [Lit.wf, IntKind.min, IntKind.max, IntKind.signed, IntKind.bits] using h
  exact h2
theorem u32_of15 {a : Int} (h : (Lit.int .u32 a).wf = true) : 0 ≤ a ∧ a < 4294967296 := by
  have h2 : 0 ≤ a ∧ a ≤ 4294967295 := by simpa [Lit.wf, IntKind.min, IntKind.max, IntKind.signed, IntKind.bits] using h
  omega
section
variable {H : Type} {enc : TypeId × Value → H} {w : World} {sp : Nat → Bool} {held : Bool}
/-- A slice of structs without references that was handed in, whatever the struct: z any one of them. -/
theorem RK.open15 {α : Type} (R : RK α) {J : α → Prop} (z : α) (hc3 : Tryd.prog.cellsOf R.T = R.s)
    (h1 : ∀ {fuel : Nat} {cs : List Value} {y : DataW H × List MemPlace}, DataW.trod enc Tryd.prog w 0 sp held fuel R.T cs = some y → ∃ x : α, cs = R.cs x ∧ J x)
    {fuel : Nat} {v : Value} {y : DataW H × List MemPlace} (h : DataW.trod enc Tryd.prog w 0 sp held fuel R.Sl [v] = some y) :
    ∃ l : List α, R.In w.heap.size w v l ∧ ∀ x ∈ l, J x := by
  rcases open_slice R.und h with ⟨hcs, _⟩ | ⟨x, len, c, m, n, D, Pl, hcs, _, hl, hm, hmm, _, hi⟩
  · simp at hcs
    subst hcs
    exact ⟨[], ⟨none, 0, rfl, Nat.le_refl _, by decide, fun h => absurd rfl h⟩, fun x hx => by cases hx⟩
  · simp at hcs
    subst hcs
    have hlm : len ≤ m := by rw [hmm]; split <;> omega
    rw [hc3] at hi
    unfold maxLen at hm
    have each : ∀ i, ∃ q : α, i < len → (∀ j u, (R.cs q)[j]? = some u → w.cell? (x.add (i * R.s + j)) = some u) ∧ J q := fun i => by
      by_cases hil : i < len
      · obtain ⟨cs', hc, ht⟩ := hi i (by omega)
        obtain ⟨q, rfl, hqi⟩ := h1 ht
        obtain ⟨_, _, hat⟩ := World.cells?_some hc
        refine ⟨q, fun _ => ⟨fun j u hu => ?_, hqi⟩⟩
        have hj : j < R.s := by have := (List.getElem?_eq_some_iff.1 hu).1; rwa [R.len] at this
        have a := hat j hj
        rw [Go.Deep.add_add] at a
        rw [a]; exact hu
      · exact ⟨z, fun h => absurd h hil⟩
    obtain ⟨Q, hQ⟩ := Classical.axiomOfChoice each
    refine ⟨(List.range len).map Q, ⟨some x, c, by simp, by simp; omega, by omega, fun hn => ?_⟩, fun y hy => ?_⟩
    · have h0 : 0 < len := by
        rcases Nat.eq_zero_or_pos len with h | h
        · exact absurd (by simp [h]) hn
        · exact h
      have hlt : 0 < (R.cs (Q 0)).length := by rw [R.len]; exact R.s0
      have hc0 := (hQ 0 h0).1 0 _ (List.getElem?_eq_getElem hlt)
      have hs := spot_none hc0
      have hb := World.block_lt_of_cell? _ _ hc0
      rw [Nat.zero_mul, Nat.zero_add, add_none] at hs hb
      obtain ⟨b, o, s⟩ := x
      simp only at hs
      subst hs
      refine ⟨b, o, rfl, hb, fun j hj => ?_⟩
      have hj' : j < len := by simpa using hj
      have q1 := (hQ j hj').1
      intro i u hu
      have hu2 : (R.cs (Q j))[i]? = some u := by
        rw [show ((List.range len).map Q)[j] = Q j by simp] at hu
        exact hu
      have := q1 i u hu2
      rw [add_at] at this
      show w.cell? ⟨b, o + j * R.s + i, none⟩ = some u
      rw [Nat.add_assoc]; exact this
    · obtain ⟨i, hi', rfl⟩ := List.mem_map.1 hy
      exact (hQ i (by simpa using hi')).2
theorem open_ints15 {fuel : Nat} {v : Value} {y : DataW H × List MemPlace} (h : DataW.trod enc Tryd.prog w 0 sp held fuel 30 [v] = some y) :
    ∃ l : List Int, rkZ.In w.heap.size w v l ∧ ∀ x ∈ l, I64 x :=
  rkZ.open15 0 (show Tryd.prog.cellsOf 3 = 1 by kernel_rfl) (fun h => by
    obtain ⟨n0, e0, _, w0⟩ := DataW.trod_int Tryd.underlying3 h
    exact ⟨n0, e0, i64_of15 w0⟩) h
end
/-! The laws by the cards' order of arguments. -/
end Go.Proofs.YtbeniihbejakaaaDoor
