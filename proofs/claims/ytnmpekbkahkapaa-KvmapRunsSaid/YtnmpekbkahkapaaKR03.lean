/-
  Small things of every later text: new blocks, structs' cells, texts that are compared.
-/
import Derived.Laws.OwnMore
import Derived.Test.YtnmpekbkahkapaaKR01
set_option linter.unusedSimpArgs false
set_option linter.unusedVariables false
namespace Go.Proofs.Ytnmpekbkahkapaa
open Go.RowKit
/-- A row under way, and two new blocks beside it that stay: at the heads of w and of w1. -/
structure PAt (w w1 wc : World) (e : TypeId) (xb qb : Obj) (v : Value) (xs : List Value) : Prop where
  xb : wc.heap[w.heap.size]? = some xb
  qb : wc.heap[w1.heap.size]? = some qb
  keeps : Keeps [] w wc
  row : wc.ownsRow 0 e 1 v xs.length xs
  free : ∀ g ∈ own v, w1.heap.size < g
  lt : w.heap.size < w1.heap.size
theorem PAt.keep {w w1 wc wd : World} {e : TypeId} {xb qb : Obj} {v : Value} {xs : List Value} (h : PAt w w1 wc e xb qb v xs) (hk : Keeps [] wc wd) : PAt w w1 wd e xb qb v xs :=
  ⟨hk.heap h.xb (by simp), hk.heap h.qb (by simp), h.keeps.trans hk (FSub.refl _ _), hk.row h.row (by simp), h.free, h.lt⟩
theorem PAt.step {w w1 wc wd : World} {e : TypeId} {xb qb : Obj} {v v' : Value} {xs news : List Value} {n : Nat} (o : Obj) (h : PAt w w1 wc e xb qb v xs) (hk : Keeps (own v) (wc.alloc o) wd)
    (hr : wd.ownsRow 0 e 1 v' n (xs ++ news)) (hs : FSub (own v') (own v) (wc.alloc o).heap.size) : PAt w w1 wd e xb qb v' (xs ++ news) := by
  have hlt := h.lt
  have hz := lt_of_block h.qb
  have f1 : w.heap.size ∉ own v := fun hg => by have := h.free _ hg; omega
  have f2 : w1.heap.size ∉ own v := fun hg => by have := h.free _ hg; omega
  refine ⟨hk.heap (heap_alloc_lt h.xb) f1, hk.heap (heap_alloc_lt h.qb) f2, ?_, ?_, ?_, hlt⟩
  · refine (h.keeps.alloc o).trans hk fun g hg => .inr ?_
    have := h.free g hg
    omega
  · have hn : n = (xs ++ news).length := by have := hr.1; omega
    rw [← hn]; exact hr
  · intro g hg
    rcases hs g hg with h1 | h1
    · exact h.free g h1
    · simp at h1; omega
end Go.Proofs.Ytnmpekbkahkapaa
