/-
  The document's queue: Step.
-/
import Derived.Deep.RegionHeld3
import Derived.Laws.Tables
import Derived.BigQuiet
import Derived.Test.YtbnhcggjcdipeaaGreatDoorWA08
import Derived.Test.YtbnhcggjcdipeaaGreatDoorWA07
set_option linter.unusedSimpArgs false
set_option linter.unusedVariables false
namespace Go.Proofs.YtbnhcggjcdipeaaGreatDoor
open Go.RowKit
section
variable {ops : Array Oper} {rest : List Oper} {a : Act} {w : World} {Q : Exit → Act → World → Prop}
theorem wpList_putN {dst : Option Tmp} {ty : TypeId} {pos : String} {after : Array Edge} {x y : Operand} {g : Nat} {old : Ans} (r : Ans) {t : TypeId}
    (hx : a.eval x = .pointer (some ⟨g, 0, none⟩)) (hy : a.eval y = .agg (ansC r).toArray) (hg : w.heap[g]? = some (.cells (ansC old).toArray t (0, 0)))
    (h : ∀ W, W.heap[g]? = some (.cells (ansC r).toArray t (0, 0)) → Keeps [g] w W → wpList Tryz.prog ops Q rest (a.put dst undef) W) :
    wpList Tryz.prog ops Q ({ dst := dst, op := .store 25 x y, type := ty, pos := pos, after := after, guard := none } :: rest) a w :=
  wpList_store_row rfl 25 x y rfl g (ansC r).toArray hx hy t (ansC old).toArray hg (by kernel_rfl) rfl (by rw [← Array.all_toList, List.all_eq_true]; exact ansC_one r) (h _ (setRow_heap w g (ansC old).toArray (ansC r).toArray t (0, 0) hg) ((Keeps.refl [g] w).setRow g _ (.inl (by simp))))
end
/-- The rest of a slice. -/
theorem U16.tail {N : Nat} {w : World} {bk o n c : Nat} {y : Int} {r : List Int} (h : rkU.In N w (.slice (some ⟨bk, o, none⟩) n c) (y :: r)) {A : Option Addr} (hA : (if c = 1 then some (⟨bk, o, none⟩ : Addr) else some ⟨bk, o + 1, none⟩) = A) : rkU.In N w (.slice A (n - 1) (c - 1)) r := by
  obtain ⟨a2, c2, e, hc, hm, h⟩ := h
  simp only [Value.slice.injEq] at e
  obtain ⟨rfl, rfl, rfl⟩ := e
  obtain ⟨b2, o2, e, hb, hr⟩ := h (by simp)
  simp only [Option.some.injEq, Addr.mk.injEq, and_true] at e
  obtain ⟨rfl, rfl⟩ := e
  refine ⟨A, c - 1, by simp, by simp at hc; omega, by omega, fun hn => ?_⟩
  have hlen : 0 < r.length := List.length_pos_iff.2 hn
  rw [if_neg (by simp at hc; omega)] at hA
  refine ⟨bk, o + 1, hA.symm, hb, fun j hj => ?_⟩
  have h2 := hr (j + 1) (by simp; omega)
  rw [show o + (j + 1) * rkU.s = o + 1 + j * rkU.s from by show o + (j + 1) * 1 = o + 1 + j * 1; omega] at h2
  exact h2
theorem U16.slice1 (w : World) {bk o n c : Nat} (hn : 1 ≤ n) (hc : n ≤ c) :
    (Instr.sliceAt 78 (.slice (some ⟨bk, o, none⟩) n c) (some (.int .i64 1)) none none).run Tryz.prog w = .ok (.slice (if c = 1 then some ⟨bk, o, none⟩ else some ⟨bk, o + 1, none⟩) (n - 1) (c - 1)) w := by
  have h1 : (1 : Int) ≤ n := by omega
  have h2 : (n : Int) ≤ c := by omega
  simp [go_sem, run_underlying Tryz.underlying78, h1, h2]
theorem yields_slice1 {ops : Array Oper} {S : World → Prop} {o : Oper} {a : Act} (hw : Region.wanted o (yielded ops a.tmps) = true) (x : Operand) (ho : o.op = .slice 78 x (some (.const (.int .i64 1))) none none) {v v' : Value} (hx : a.eval x = v)
    (hr : ∀ w, (Instr.sliceAt 78 v (some (.int .i64 1)) none none).run Tryz.prog w = .ok v' w) : YieldsIf Tryz.prog ops S o v' a :=
  Or.inl ⟨hw, by
    intro w _
    unfold execOp
    have hc : a.eval (.const (.int .i64 1)) = .int .i64 1 := rfl
    simp only [ho, hx, Option.map_some, Option.map_none, hc]
    have h := hr w
    simp [h, Result.andThen]⟩
set_option maxHeartbeats 8000000
set_option maxRecDepth 100000
end Go.Proofs.YtbnhcggjcdipeaaGreatDoor
/-
  The document's queue: Encode, Decode.
-/
namespace Go.Proofs.YtbnhcggjcdipeaaGreatDoor
open Go.RowKit
set_option maxHeartbeats 8000000
set_option maxRecDepth 100000
theorem wp_buildU {o : Oper} {a : Act} {w : World} {K : Act → World → Prop} {Q : Exit → Act → World → Prop} (x : Operand) (ho : o.op = .buildSlice 78 1 #[(0, x)]) {y : Int} (hx : a.eval x = .int .u16 y)
    (h : K (a.put o.dst (.slice (some ⟨w.heap.size, 0, none⟩) 1 1)) (w.alloc (.cells #[.int .u16 y] 23))) : o.wp Tryz.prog a w K Q := by
  refine wp_buildSlice 78 23 1 #[(0, x)] ho #[.int .u16 y] rkU.i _ rkU.und rkU.hi rkU.hz (by rw [rkU.hs]; decide) (by rw [rkU.hs]; decide) ?_ h
  rw [rkU.hs]
  have e : (#[(0, x)].map fun (i, z) => (i, a.eval z)).toList = [(0, a.eval x)] := by simp
  rw [e, hx, show rkU.s = 1 from rfl, show rkU.z = .int .u16 0 from rfl]
  simp [Instr.fill, Value.cells]
  rw [show Array.range 1 = #[0] from by decide]
  apply Array.ext'
  simp
theorem yields_idx {ops : Array Oper} {S : World → Prop} {o : Oper} {a : Act} (hw : Region.wanted o (yielded ops a.tmps) = true) (x y : Operand) (ho : o.op = .index 9 x y) {s z : Value} {i : Int} (hx : a.eval x = s) (hy : a.eval y = .int .i64 i)
    (hr : ∀ w, (Instr.index 9 s (.int .i64 i)).run Tryz.prog w = .ok z w) : YieldsIf Tryz.prog ops S o z a :=
  Or.inl ⟨hw, by
    intro w _
    unfold execOp
    have h := hr w
    simp only [ho, hx, hy, h, Sem.run_bind]
    simp [h, Result.andThen]⟩
theorem str_at10 (w : World) (b : List UInt8) (i : Nat) (hi : i < b.length) : (Instr.index 9 (.string (bs b)) (.int .i64 i)).run Tryz.prog w = .ok (.int .u8 (b.getD i 0).toNat) w := by
  have h1 : i < (bs b).size := by show i < b.toArray.size; simpa using hi
  have h2 : (bs b)[i]'h1 = b[i] := rfl
  simp [Instr.index, run_underlying Tryz.underlying9, asIntOf, part, go_sem, h1, List.getElem?_eq_getElem hi]
  rw [h2]
  rfl
end Go.Proofs.YtbnhcggjcdipeaaGreatDoor
/-
  The law's steps and works, over any queue.
-/
namespace Go.Proofs.YtbnhcggjcdipeaaGreatDoor
open Go.RowKit
variable {G : World → Prop}
section
variable {o : Oper} {a : Act} {w : World} {K : Act → World → Prop} {Q : Exit → Act → World → Prop}
theorem run_allocA (w : World) : (Instr.alloc 25 true (.tuple #[])).run Tryz.prog w = .ok (.pointer (some ⟨w.heap.size, 0, none⟩)) (w.alloc (.cells (ansC ⟨0, 0⟩).toArray 25)) := by kernel_rfl
theorem wp_allocA (o : Oper) (a : Act) (w : World) (K : Act → World → Prop) (ho : o.op = .alloc 25) (h : K (a.put o.dst (.pointer (some ⟨w.heap.size, 0, none⟩))) (w.alloc (.cells (ansC ⟨0, 0⟩).toArray 25))) : o.wp Tryz.prog a w K Q := by
  unfold Oper.wp execOp
  simp only [ho, Sem.run_bind, run_allocA, Result.andThen_ok, Sem.run_pure]
  exact h
end
set_option maxHeartbeats 8000000
set_option maxRecDepth 100000
end Go.Proofs.YtbnhcggjcdipeaaGreatDoor
