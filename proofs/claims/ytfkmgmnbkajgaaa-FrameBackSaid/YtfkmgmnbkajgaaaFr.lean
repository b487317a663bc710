/-
  What came in, opened: texts, bytes, numbers of 16 bits.
-/
import Derived.Test.YtfkmgmnbkajgaaaFq
import Derived.ProofKit
import Derived.OpenShut
import Derived.Deep.Slices
import Derived.Deep.Strs
import Derived.ChangeSame
namespace Go.Proofs.Ytfkmgmnbkajgaaa
open Go.ChangeShapes Go.WideShapes Go.ChangeAt Go.RowKit
open Go.Deep
theorem own0 : ownKnob Try.prog.godebug = none := by kernel_rfl
theorem laidOut0 : laidOutB Try.prog = true := by kernel_rfl
/-- A cell that is there lies at a plain address. -/
theorem spot_none {w : World} {a : Addr} {v : Value} (h : w.cell? a = some v) : a.spot = none := by
  unfold World.cell? at h
  split at h
  · split at h
    · cases h
    · rename_i hs
      simpa using hs
  · cases h
theorem add_none (a : Addr) : a.add 0 = a := by simp [Addr.add]
theorem add_at (b o j : Nat) : ((⟨b, o, none⟩ : Addr).add j) = ⟨b, o + j, none⟩ := by unfold Addr.add; split <;> simp_all
theorem nat_of8 {a : Int} (h : (Lit.int .u8 a).wf = true) : ∃ z : Nat, z < 256 ∧ a = z := by
  have h2 : 0 ≤ a ∧ a ≤ 255 := by simpa [Lit.wf, IntKind.min, IntKind.max, IntKind.signed, IntKind.bits] using h
  exact ⟨a.toNat, by omega, by omega⟩
theorem nat_of16 {a : Int} (h : (Lit.int .u16 a).wf = true) : ∃ z : Nat, z < 65536 ∧ a = z := by
  have h2 : 0 ≤ a ∧ a ≤ 65535 := by simpa [Lit.wf, IntKind.min, IntKind.max, IntKind.signed, IntKind.bits] using h
  exact ⟨a.toNat, by omega, by omega⟩
def Asks16 (w : World) (a : Option Addr) (m : Nat) : Prop := m = 0 ∨ ∃ ab ao, a = some ⟨ab, ao, none⟩ ∧ ∀ j, j < m → ∃ z : Nat, z < 65536 ∧ w.cell? ⟨ab, ao + j, none⟩ = some (.int .u16 z)
section
variable {H : Type} {enc : TypeId × Value → H} {w : World} {a : Option Addr} {len cap : Nat} {d : DataW H} {p : List MemPlace}
theorem open_texts (h : DataW.Trod enc Try.prog w 0 (fun _ => true) true 32 (.slice a len cap) d p) : ∃ ts : List ByteArray, ts.length = len ∧ StrsAt w a ts ∧ len ≤ 9223372036854775807 := by
  obtain ⟨fuel, hf⟩ := h
  simp only [Value.cells] at hf
  rcases open_strs Try.underlying32 Try.underlying9 (by kernel_rfl) hf with ⟨h0, _⟩ | ⟨x, l, c, m, Sx, hcs, _, hl, hm, hmm, _, hi⟩
  · simp at h0
    exact ⟨[], by simp [h0.2.1], .inl rfl, by omega⟩
  · simp at hcs
    obtain ⟨rfl, rfl, rfl⟩ := hcs
    simp at hmm
    subst hmm
    unfold maxLen at hm
    refine ⟨(List.range len).map Sx, by simp, ?_, by omega⟩
    by_cases h0 : len = 0
    · subst h0; exact .inl (by simp)
    · have hs := spot_none (hi 0 (by omega)).1
      rw [add_none] at hs
      obtain ⟨b, o, sp⟩ := x
      simp only at hs
      subst hs
      refine .inr ⟨b, o, rfl, fun i hi' => ?_⟩
      have hi2 : i < len := by simpa using hi'
      have e : ((List.range len).map Sx).getD i default = Sx i := by simp [List.getD, hi2]
      have h1 := hi i (by omega)
      rw [add_at] at h1
      unfold maxLen at h1
      rw [e]
      exact h1
theorem open_asks (h : DataW.Trod enc Try.prog w 0 (fun _ => true) true 33 (.slice a len cap) d p) : Asks8 w a len ∧ len ≤ 9223372036854775807 := by
  obtain ⟨fuel, hf⟩ := h
  simp only [Value.cells] at hf
  rcases open_ints Try.underlying33 Try.underlying5 (by kernel_rfl) hf with ⟨h0, _⟩ | ⟨x, l, c, zs, hcs, _, hl, hm, hz, _, hcell, hwz⟩
  · simp at h0
    exact ⟨.inl h0.2.1, by omega⟩
  · simp at hcs
    obtain ⟨rfl, rfl, rfl⟩ := hcs
    have hz' : zs.length = cap := by simpa using hz
    unfold maxLen at hm
    refine ⟨?_, by omega⟩
    by_cases h0 : len = 0
    · exact .inl h0
    · have hs := spot_none (hcell 0 (by omega))
      rw [add_none] at hs
      obtain ⟨b, o, sp⟩ := x
      simp only at hs
      subst hs
      refine .inr ⟨b, o, rfl, fun j hj => ?_⟩
      have hj2 : j < zs.length := by omega
      obtain ⟨z, hz1, hz2⟩ := nat_of8 (hwz zs[j] (List.getElem_mem hj2))
      have h1 := hcell j hj2
      rw [add_at] at h1
      refine ⟨z, hz1, ?_⟩
      rw [h1, ← hz2]
      simp [List.getD, hj2]
theorem open_asks16 (h : DataW.Trod enc Try.prog w 0 (fun _ => true) true 45 (.slice a len cap) d p) : Asks16 w a len ∧ len ≤ 9223372036854775807 := by
  obtain ⟨fuel, hf⟩ := h
  simp only [Value.cells] at hf
  rcases open_ints Try.underlying45 Try.underlying28 (by kernel_rfl) hf with ⟨h0, _⟩ | ⟨x, l, c, zs, hcs, _, hl, hm, hz, _, hcell, hwz⟩
  · simp at h0
    exact ⟨.inl h0.2.1, by omega⟩
  · simp at hcs
    obtain ⟨rfl, rfl, rfl⟩ := hcs
    have hz' : zs.length = cap := by simpa using hz
    unfold maxLen at hm
    refine ⟨?_, by omega⟩
    by_cases h0 : len = 0
    · exact .inl h0
    · have hs := spot_none (hcell 0 (by omega))
      rw [add_none] at hs
      obtain ⟨b, o, sp⟩ := x
      simp only at hs
      subst hs
      refine .inr ⟨b, o, rfl, fun j hj => ?_⟩
      have hj2 : j < zs.length := by omega
      obtain ⟨z, hz1, hz2⟩ := nat_of16 (hwz zs[j] (List.getElem_mem hj2))
      have h1 := hcell j hj2
      rw [add_at] at h1
      refine ⟨z, hz1, ?_⟩
      rw [h1, ← hz2]
      simp [List.getD, hj2]
end
end Go.Proofs.Ytfkmgmnbkajgaaa
