/-
  What a loop over an iterator keeps.
-/
import Derived.RangeFuncNested
import Derived.RangeFuncBound
import Derived.RangeFuncCalls
import Derived.RangeFuncLeaves
import Derived.RangeFuncBox
import Derived.RangeFuncFrom
import Derived.Test.YtbeniihbejakaaaDoorBD01
set_option linter.unusedSimpArgs false
set_option linter.unusedVariables false
namespace Go.Proofs.YtbeniihbejakaaaDoor
open Go.RowKit
theorem Keeps.others {F : List Nat} {W W' : World} (h : Keeps F W W') (hF : ∀ g ∈ F, ∀ o, W.heap[g]? = some o → o.isCells = true) : KeepsOthers W W' :=
  ⟨h.size, fun k o hk ho => h.heap hk (fun hm => by rw [hF k hm o hk] at ho; cases ho)⟩
theorem Keeps.putObj {F : List Nat} {a b : World} (h : Keeps F a b) (l : Nat) (o : Obj) (hl : a.heap.size ≤ l) : Keeps F a (b.putObj l o) :=
  ⟨(grownBy_putObj' b l o).os.trans h.os, (grownBy_putObj' b l o).tape.trans h.tape, (grownBy_putObj' b l o).output.trans h.output, Nat.le_trans h.size (grownBy_putObj' b l o).size, fun k hk hF =>
    ((grownBy_putObj' b l o).block k (Nat.lt_of_lt_of_le hk h.size) (fun e => by simp at e; omega)).trans (h.block k hk hF)⟩
theorem cells_own {β : Type} {B b : Nat} {cs : β → Array Value} {t : TypeId} {fr : Nat × Nat} : OwnFrom B (fun (s : β) W => W.heap[b]? = some (.cells (cs s) t fr)) := by
  rintro s W W' row hb hg hrow
  refine (hg.block b (lt_of_block hb) fun e => ?_).trans hb
  obtain ⟨_, o, ho, hc⟩ := hrow b e.symm
  rw [hb] at ho; cases ho; cases hc
theorem keeps_own {β : Type} {F : List Nat} {B : Nat} {w : World} (hB : w.heap.size ≤ B) : OwnFrom B (fun (_ : β) W => Keeps F w W) := by
  rintro s W W' row hk hg hrow
  refine ⟨hg.os.trans hk.os, hg.tape.trans hk.tape, hg.output.trans hk.output, Nat.le_trans hk.size hg.size, fun k hkl hF => ?_⟩
  refine (hg.block k (Nat.lt_of_lt_of_le hkl hk.size) fun e => ?_).trans (hk.block k hkl hF)
  have := (hrow k e.symm).1
  omega
theorem pure_own {β : Type} {B : Nat} (p : β → Prop) : OwnFrom B (fun (s : β) (_ : World) => p s) := fun _ _ _ _ h _ _ => h
end Go.Proofs.YtbeniihbejakaaaDoor
