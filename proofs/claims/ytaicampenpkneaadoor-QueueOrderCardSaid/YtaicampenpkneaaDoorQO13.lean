/-
  A row, cut by three indices, and what is appended to it.
-/
import Derived.ArgAppend
import Derived.Test.YtaicampenpkneaaDoorQO10
import Derived.Test.YtaicampenpkneaaDoorQO11
import Derived.Test.YtaicampenpkneaaDoorQO12
set_option linter.unusedSimpArgs false
set_option linter.unusedVariables false
namespace Go.Proofs.YtaicampenpkneaaDoor
open Go.RowKit
theorem has10_true {G : World → Prop} (R : QuProg G) (w : World) (hG : G w) {st v : Value} {l : List Int} (hs : R.At w st l) (hl : l.length ≤ 1000) {M : Nat} (hm : rkU.In M w v l) (hM : M ≤ w.heap.size) :
    Calls Tryd.prog 25 #[st, v] w fun e w' => e = .returned (.bool true) ∧ Keeps [] w w' := by
  have h := has10_any R w hG hs hl hm hM
  rw [decide_eq_true (rfl : l = l)] at h
  exact h
end Go.Proofs.YtaicampenpkneaaDoor
/-
  QueueApart's walk, over any queue.
-/
namespace Go.Proofs.YtaicampenpkneaaDoor
open Go.RowKit
variable {G : World → Prop}
/-- A region's end, told once: what it puts into which slot, and the facts. -/
theorem wp_fork {P : Program} {c : Code} {Q : Exit → Act → World → Prop} {a : Act} {w : World} (f : Nat → Nat → Value → List Value → Act → Act) (F : Nat → Nat → Value → World → Prop)
    (h : c.wp P (fun e a' w' => e = .normal ∧ ∃ qa qb zv us, a' = f qa qb zv us a ∧ F qa qb zv w') a w)
    (k : ∀ qa qb zv us w', F qa qb zv w' → Q .normal (f qa qb zv us a) w') : c.wp P Q a w :=
  Code.wp_mono (fun e a' w' ⟨he, qa, qb, zv, us, ha, hf⟩ => by subst he; subst ha; exact k qa qb zv us w' hf) h
set_option maxHeartbeats 8000000
set_option maxRecDepth 100000
end Go.Proofs.YtaicampenpkneaaDoor
