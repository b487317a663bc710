/-
  OpBack, whatever the input; a slice of words as data.
-/
import Derived.Test.YtllloahimfkmfaaDoorPe
import Derived.ProofKit
import Derived.OpenShut
import Derived.Deep.Strs
import Derived.ChangeSame
namespace Go.Proofs.YtllloahimfkmfaaDoor
open Go.ChangeShapes Go.WideShapes Go.ChangeAt Go.RowKit
open Go.Deep
theorem laidOut0 : laidOutB Tryd.prog = true := by kernel_rfl
theorem spot_none {w : World} {a : Addr} {v : Value} (h : w.cell? a = some v) : a.spot = none := by
  unfold World.cell? at h
  split at h
  · split at h
    · cases h
    · rename_i hs
      simpa using hs
  · cases h
theorem add_none (a : Addr) : a.add 0 = a := by simp [Addr.add]
theorem add_at (b o j : Nat) : ((⟨b, o, none⟩ : Addr).add j) = ⟨b, o + j, none⟩ := by unfold Addr.add; split <;> simp_all
/-- A slice of words that can be read as data. -/
theorem open_words {H : Type} {enc : TypeId × Value → H} {w : World} {a : Option Addr} {len cap : Nat} {d : DataW H} {p : List MemPlace}
    (h : DataW.Trod enc Tryd.prog w 0 (fun _ => true) true 22 (.slice a len cap) d p) : ∃ l : List (List UInt8), Strs w.heap.size w (.slice a len cap) l ∧ ∀ j, j < l.length → (bs (l.getD j [])).size ≤ 9223372036854775807 := by
  obtain ⟨fuel, hf⟩ := h
  simp only [Value.cells] at hf
  rcases open_strs Tryd.underlying22 Tryd.underlying9 (by kernel_rfl) hf with ⟨h0, _⟩ | ⟨x, l, c, m, Sx, hcs, _, hl, hm, hmm, _, hi⟩
  · simp at h0
    obtain ⟨rfl, rfl, rfl⟩ := h0
    exact ⟨[], Strs.nil _ _, fun j hj => by simp at hj⟩
  · simp at hcs
    obtain ⟨rfl, rfl, rfl⟩ := hcs
    simp at hmm
    subst hmm
    unfold maxLen at hm
    have hgd : ∀ j, j < len → ((List.range len).map fun i => (Sx i).data.toList).getD j [] = (Sx j).data.toList := fun j hj => by simp [List.getD, hj]
    have hb : ∀ j, j < len → w.cell? (x.add j) = some (.string (Sx j)) ∧ (Sx j).size ≤ 9223372036854775807 := fun j hj => by
      have h1 := hi j (by omega)
      unfold maxLen at h1
      exact ⟨h1.1, by omega⟩
    refine ⟨(List.range len).map fun i => (Sx i).data.toList, ⟨some x, m, by simp, by simp; omega, by omega, fun hn => ?_⟩, fun j hj => ?_⟩
    · have h0 : 0 < len := by
        rcases Nat.eq_zero_or_pos len with h | h
        · exact absurd (by simp [h]) hn
        · exact h
      have hs := spot_none (hb 0 h0).1
      rw [add_none] at hs
      obtain ⟨b, o, sp⟩ := x
      simp only at hs
      subst hs
      refine ⟨b, o, rfl, ?_, fun j hj => ?_⟩
      · have := World.block_lt_of_cell? _ _ (hb 0 h0).1
        rw [add_none] at this
        exact this
      · have hj2 : j < len := by simpa using hj
        have h1 := (hb j hj2).1
        rw [add_at] at h1
        rw [hgd j hj2, bs_of]
        exact h1
    · have hj2 : j < len := by simpa using hj
      rw [hgd j hj2, bs_of]
      have := (hb j hj2).2
      omega
end Go.Proofs.YtllloahimfkmfaaDoor
