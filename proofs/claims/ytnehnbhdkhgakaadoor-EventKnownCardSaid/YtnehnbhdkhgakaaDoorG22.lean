/-
  The program's Words.
-/
import Derived.Test.YtnehnbhdkhgakaaDoorG10
import Derived.Test.YtnehnbhdkhgakaaDoorG06
set_option linter.unusedSimpArgs false
set_option linter.unusedVariables false
namespace Go.Proofs.YtnehnbhdkhgakaaDoor
open Go.RowKit
theorem Tryd.infoS : (Tryd.prog.info? 9).map (fun i => (i.zero, i.size, i.bytes)) = some (some (.string ⟨#[]⟩), 1, 16) := by kernel_rfl
theorem PAt.begin3 {w w1 wc : World} {e : TypeId} {xb qb : Obj} (hx : wc.heap[w.heap.size]? = some xb) (hq : wc.heap[w1.heap.size]? = some qb) (hk : Keeps [] w wc) (hlt : w.heap.size < w1.heap.size) (u v : Value) :
    PAt w w1 (wc.alloc (.cells #[u, v] e)) e xb qb (.slice (some ⟨wc.heap.size, 0, none⟩) 2 2) [u, v] :=
  ⟨heap_alloc_lt hx, heap_alloc_lt hq, hk.alloc _, by have := World.ownsRow_lit (base := 0) (e := e) (size := 1) wc #[u, v] 2 (by omega) (by decide) rfl; simpa using this,
    fun g hg => by have := lt_of_block hq; simp [own, Value.ownBlock] at hg; omega, hlt⟩
def wordsOf (x : Opn) : List (List UInt8) := if opGood x then opWords x else []
theorem need_ways {f : Int} (is : opIs f = true) : (opK f = false ∧ opA f = false ∧ opB f = false) ∨ (opK f = false ∧ opA f = true ∧ opB f = false) ∨ (opK f = false ∧ opA f = true ∧ opB f = true) ∨ (opK f = true ∧ opA f = false ∧ opB f = false) ∨ (opK f = true ∧ opA f = true ∧ opB f = false) ∨ (opK f = true ∧ opA f = true ∧ opB f = true) := by
  rcases is_cases is with rfl | rfl | rfl | rfl | rfl | rfl | rfl | rfl | rfl | rfl | rfl <;> decide
end Go.Proofs.YtnehnbhdkhgakaaDoor
