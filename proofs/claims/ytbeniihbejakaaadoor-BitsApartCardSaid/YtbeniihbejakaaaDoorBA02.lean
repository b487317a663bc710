/-
  Small things of every later text: new blocks, structs' cells, texts that are compared.
-/
import Derived.Laws.OwnMore
import Derived.Test.YtbeniihbejakaaaDoorBA01
set_option linter.unusedSimpArgs false
set_option linter.unusedVariables false
namespace Go.Proofs.YtbeniihbejakaaaDoor
open Go.RowKit
theorem var_keeps {w w' : World} {F : List Nat} {n : String} {g : Nat} {cs : Array Value} (hg : Tryd.prog.globalNamed n = some g) (hv : w.var? Tryd.prog n = some cs) (hk : Keeps F w w') (hF : g ∉ F) : w'.var? Tryd.prog n = some cs := by
  unfold World.var? at hv ⊢
  rw [hg] at hv ⊢
  simp only [Option.bind_some] at hv ⊢
  cases hh : w.heap[g]? with
  | none => rw [hh] at hv; simp at hv
  | some o => rw [hk.heap hh hF]; rw [hh] at hv; exact hv
theorem toL_bs (l : List UInt8) : (bs l).toList = l := by rw [ByteArray.toList_eq]; exact bs_list l
end Go.Proofs.YtbeniihbejakaaaDoor
