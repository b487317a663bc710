/-
  The document's Parse of words.
-/
import Derived.Test.YtffldnjjijckcaaGreatDoorR31
import Derived.Test.YtffldnjjijckcaaGreatDoorR32
set_option linter.unusedSimpArgs false
set_option linter.unusedVariables false
namespace Go.Proofs.YtffldnjjijckcaaGreatDoor
open Go.RowKit
/-- The document's Parse, of any words. -/
theorem r4Parse_any (w : World) (v : Value) (l : List (List UInt8)) (hs : Strs w.heap.size w v l) (hw : ∀ j, (l.getD j []).length ≤ 90000) (hlen : l.length ≤ 90000) :
    Calls Tryz.prog 36 #[v] w fun e w' => e = .returned (.tuple #[(opsX l).val, .int .i64 (opsE l)]) ∧ Keeps [] w w' := by
  by_cases h : ∃ f, Said l f
  · obtain ⟨f, hf⟩ := h
    have h1 : 1 ≤ f ∧ f ≤ 11 := by simpa [opIs] using hf.is
    obtain ⟨F, rfl⟩ := Int.eq_ofNat_of_zero_le (show 0 ≤ f by omega)
    obtain ⟨e1, e2⟩ := said_ops hf
    rw [e1, e2]
    exact r4Parse_said w v l F hf hs hw hlen
  · exact r4Parse_no w v l (fun f hf => h ⟨f, hf⟩) hs hw hlen
end Go.Proofs.YtffldnjjijckcaaGreatDoor
