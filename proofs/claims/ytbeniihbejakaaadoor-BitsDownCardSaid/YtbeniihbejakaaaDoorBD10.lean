/-
  The program's lock: New, Holder, Idle; the steps of a client before it.
-/
import Derived.Lib.ParseIntBCases
import Derived.Lib.IndexMore
import Derived.Lib.ItoaMem
import Derived.Shelf.Lay
import Derived.Shelf.LaySoft
import Derived.Shelf.Strings.Builder1
import Derived.Test.YtbeniihbejakaaaDoorProg
import Derived.Laws.ResultCell
import Derived.BigQuiet
import Derived.Deep.RegionHeld3
import Derived.Test.YtbeniihbejakaaaDoorBD05
import Derived.Test.YtbeniihbejakaaaDoorBD01
import Derived.Test.YtbeniihbejakaaaDoorBD02
import Derived.Test.YtbeniihbejakaaaDoorBD06
set_option linter.unusedSimpArgs false
set_option linter.unusedVariables false
namespace Go.Proofs.YtbeniihbejakaaaDoor
open Go.RowKit
set_option maxHeartbeats 8000000
set_option maxRecDepth 100000
theorem two_vars (w : World) (A : Array Value) (B : Array Value) (t u : TypeId) : (w.alloc (.cells A t)).heap.size = w.heap.size + 1 ∧ ((w.alloc (.cells A t)).alloc (.cells B u)).heap[w.heap.size]? = some (.cells A t (0, 0)) ∧
    ((w.alloc (.cells A t)).alloc (.cells B u)).heap[w.heap.size + 1]? = some (.cells B u (0, 0)) ∧ Keeps [] w ((w.alloc (.cells A t)).alloc (.cells B u)) := by
  have e1 : (w.alloc (.cells A t)).heap.size = w.heap.size + 1 := Array.size_push _
  refine ⟨e1, ((Keeps.refl [] _).alloc _).heap (heap_alloc_new w _) (by simp), ?_, ((Keeps.refl _ _).alloc _).alloc _⟩
  have h := heap_alloc_new (w.alloc (.cells A t)) (.cells B u)
  rwa [e1] at h
end Go.Proofs.YtbeniihbejakaaaDoor
