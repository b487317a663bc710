/-
  The Reader's Raw.
-/
import Derived.Test.YtgdbhblapdhlmaaDoorAj
namespace Go.Proofs.YtgdbhblapdhlmaaDoor
open Go.RowKit
def rdRaw (W : Nat) (xs : List Int) (e : Int) (p : Nat) : List Int := if e = 0 ∧ p + W ≤ xs.length then (xs.drop p).take W else []
theorem cut_string (w : World) (g o c n p : Nat) (xs : List Int) (hn : p + n ≤ xs.length) (hc : ∀ j, j < n → w.cell? ⟨g, o + j, none⟩ = some (.int .u8 (xs.getD (p + j) 0))) :
    (convert 46 9 (.slice (some ⟨g, o, none⟩) n c)).run Tryd.prog w = .ok (.string (strOfNums ((xs.drop p).take n))) w := by
  refine run_convert_bytes_arg w _ _ Tryd.underlying46 Tryd.underlying5 g o n c ((xs.drop p).take n) (by simp; omega) (fun i hi => ?_) _ Tryd.underlying9
  rw [hc i hi]
  have : ((xs.drop p).take n).getD i 0 = xs.getD (p + i) 0 := by
    simp [List.getD, hi]
  rw [this]
theorem nil_string (w : World) : (convert 46 9 (.slice none 0 0)).run Tryd.prog w = .ok (.string (strOfNums [])) w :=
  run_convert_bytes_nil w _ _ Tryd.underlying46 Tryd.underlying5 0 0 _ Tryd.underlying9
end Go.Proofs.YtgdbhblapdhlmaaDoor
