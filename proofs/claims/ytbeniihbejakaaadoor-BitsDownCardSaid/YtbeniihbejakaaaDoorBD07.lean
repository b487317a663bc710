/-
  Slices of 16 bits; appends of any slice; the document's queue: Same, Step.
-/
import Derived.Lib.ParseIntBCases
import Derived.Lib.IndexMore
import Derived.Lib.ItoaMem
import Derived.Shelf.Lay
import Derived.Shelf.LaySoft
import Derived.Shelf.Strings.Builder1
import Derived.Test.YtbeniihbejakaaaDoorProg
import Derived.Laws.ResultCell
import Derived.Test.YtbeniihbejakaaaDoorBD05
import Derived.Test.YtbeniihbejakaaaDoorBD01
import Derived.Test.YtbeniihbejakaaaDoorBD02
import Derived.Test.YtbeniihbejakaaaDoorBD06
set_option linter.unusedSimpArgs false
set_option linter.unusedVariables false
namespace Go.Proofs.YtbeniihbejakaaaDoor
open Go.RowKit
section
variable {α : Type}
theorem RK.In.more {R : RK α} {N M : Nat} {w : World} {v : Value} {L : List α} (h : R.In N w v L) (hM : N ≤ M) : R.In M w v L := by
  obtain ⟨a, c, rfl, hc, hm, h⟩ := h
  refine ⟨a, c, rfl, hc, hm, fun hn => ?_⟩
  obtain ⟨bk, o, rfl, hb, h'⟩ := h hn
  exact ⟨bk, o, rfl, by omega, h'⟩
theorem RK.In.keeps {R : RK α} {N : Nat} {w w' : World} {v : Value} {L : List α} {F : List Nat} (h : R.In N w v L) (hk : Keeps F w w') (hF : L ≠ [] → ∀ q ∈ own v, q ∉ F) : R.In N w' v L := by
  obtain ⟨a, c, rfl, hc, hm, h⟩ := h
  refine ⟨a, c, rfl, hc, hm, fun hn => ?_⟩
  obtain ⟨bk, o, rfl, hb, h'⟩ := h hn
  exact ⟨bk, o, rfl, hb, fun j hj i u hi => hk.cell (h' j hj i u hi) (hF hn bk (by simp [own, Value.ownBlock]))⟩
/-- One cell of a struct in a row is put anew. -/
theorem own_cell {R : RK α} {base : Nat} {w : World} {g cap n : Nat} {L : List α} (h : R.Own base w (.slice (some ⟨g, 0, none⟩) n cap) L) (j : Nat) (hj : j < L.length) (c : Nat) (hc : c < R.s) (x : α) (u : Value) (hx : R.cs x = (R.cs L[j]).set c u) :
    R.Own base (w.setCell ⟨g, j * R.s + c, none⟩ u) (.slice (some ⟨g, 0, none⟩) n cap) (L.set j x) := by
  have hn : L.length = n := by obtain ⟨_, _, e, _⟩ := h.shape; injection e with _ e; exact e.symm
  subst hn
  rcases h.2 with ⟨e, _⟩ | ⟨g', cap', cur, e, hb, hh, hcc, hm, hcs, htk⟩
  · cases e
  · simp only [Value.slice.injEq, Option.some.injEq, Addr.mk.injEq, and_true, true_and] at e
    obtain ⟨rfl, rfl⟩ := e
    have hl : (L.set j x).length = L.length := List.length_set
    have hlt : j * R.s + c < L.length * R.s := by
      have h1 : (j + 1) * R.s ≤ L.length * R.s := Nat.mul_le_mul_right _ hj
      rw [Nat.add_mul, Nat.one_mul] at h1
      omega
    refine ⟨by rw [R.row_len], .inr ⟨g, cap, _, by rw [hl], hb, heap_setCell_same w g (j * R.s + c) _ _ _ hh, by rw [hl]; exact hcc, hm, by simpa using hcs, ?_⟩⟩
    rw [hl]
    have e1 : (cur.setIfInBounds (j * R.s + c) u).toList.take (L.length * R.s) = (cur.toList.take (L.length * R.s)).set (j * R.s + c) u := by
      rw [Array.toList_setIfInBounds, List.take_set]
    rw [e1, htk]
    have hL : R.row L = R.row (L.take j) ++ (R.cs L[j] ++ R.row (L.drop (j + 1))) := by
      conv => lhs; rw [← List.take_append_drop j L, List.drop_eq_getElem_cons hj]
      rw [R.row_app]; rfl
    have hS : R.row (L.set j x) = R.row (L.take j) ++ (R.cs x ++ R.row (L.drop (j + 1))) := by
      rw [List.set_eq_take_append_cons_drop, if_pos hj, R.row_app]; rfl
    have hlen : (R.row (L.take j)).length = j * R.s := by rw [R.row_len, List.length_take, Nat.min_eq_left (by omega)]
    rw [hL, hS, List.set_append_right _ _ (by omega), hlen, Nat.add_sub_cancel_left, List.set_append_left _ _ (by rw [R.len]; exact hc), hx]
theorem own_there {R : RK α} {base : Nat} {w : World} {g cap n : Nat} {L : List α} (h : R.Own base w (.slice (some ⟨g, 0, none⟩) n cap) L) (j : Nat) (hj : j < L.length) (c : Nat) (hc : c < R.s) : (w.cell? ⟨g, j * R.s + c, none⟩).isSome = true ∧ w.frozen? ⟨g, j * R.s + c, none⟩ = false := by
  have hn : L.length = n := by obtain ⟨_, _, e, _⟩ := h.shape; injection e with _ e; exact e.symm
  subst hn
  rcases h.2 with ⟨e, _⟩ | ⟨g', cap', cur, e, hb, hh, hcc, hm, hcs, htk⟩
  · cases e
  · simp only [Value.slice.injEq, Option.some.injEq, Addr.mk.injEq, and_true, true_and] at e
    obtain ⟨rfl, rfl⟩ := e
    have hlt : j * R.s + c < cur.size := by
      have h1 : (j + 1) * R.s ≤ L.length * R.s := Nat.mul_le_mul_right _ hj
      have h2 : L.length * R.s ≤ cap * R.s := Nat.mul_le_mul_right _ hcc
      rw [Nat.add_mul, Nat.one_mul] at h1
      omega
    constructor
    · simp [World.cell?, hh, hlt]
    · simp [World.frozen?, hh]
/-- Nothing is appended. -/
theorem RK.append0 (R : RK α) (w : World) (a b : Option Addr) (n c d : Nat) (hc : n ≤ c) : (Builtin.append_ #[R.Sl, R.Sl] R.Sl #[.slice a n c, .slice b 0 d]).run Tryd.prog w = .ok (.slice a n c) w := by
  have hsz := run_sizeOf (P := Tryd.prog) (w := w) R.hi
  have hlc : ∀ a : Addr, (loadCells a 0).run Tryd.prog w = .ok #[] w := fun a => by simp [loadCells, loadCellsFrom]
  have hsc : ∀ a : Addr, (storeCells a []).run Tryd.prog w = .ok () w := fun a => by simp [storeCells]
  cases a <;> cases b <;> simp [Builtin.append_, run_underlying R.und, hsz, Builtin.lenOf, Builtin.firstCells, hlc, hsc, hc, Result.andThen, Sem.run_bind]
theorem RK.row_cells (R : RK α) {w : World} {bk : Nat} : ∀ (M : List α) (o : Nat), (∀ j (h : j < M.length), w.rangeAt bk (o + j * R.s) (R.cs M[j])) → ∀ j u, (R.row M)[j]? = some u → w.cell? ⟨bk, o + j, none⟩ = some u
  | [], o, _, j, u, h => by simp [RK.row] at h
  | x :: r, o, H, j, u, h => by
    rw [show R.row (x :: r) = R.cs x ++ R.row r from rfl] at h
    by_cases hj : j < R.s
    · rw [List.getElem?_append_left (by rw [R.len]; exact hj)] at h
      have := H 0 (by simp) j u h
      simpa using this
    · rw [List.getElem?_append_right (by rw [R.len]; omega), R.len] at h
      have := R.row_cells r (o + R.s) (fun i hi => by
        have h2 := H (i + 1) (by simp; omega)
        rw [Nat.add_mul, Nat.one_mul] at h2
        rw [show o + R.s + i * R.s = o + (i * R.s + R.s) by omega]
        exact h2) (j - R.s) u h
      rw [show o + R.s + (j - R.s) = o + j by omega] at this
      exact this
/-- Any slice is appended. -/
theorem RK.appendIn (R : RK α) (w : World) (base : Nat) (hbase : base ≤ w.heap.size) (v : Value) (L : List α) (hrow : R.Own base w v L) {N : Nat} {u : Value} {M : List α} (hu : R.In N w u M) (hn : L.length + M.length ≤ 100000000) :
    ∃ v' w', (Builtin.append_ #[R.Sl, R.Sl] R.Sl #[v, u]).run Tryd.prog w = .ok v' w' ∧ R.Own base w' v' (L ++ M) ∧ Keeps (own v) w w' ∧ FSub (own v') (own v) w.heap.size := by
  obtain ⟨a, c, rfl, hc, hm, h⟩ := hu
  by_cases h0 : M = []
  · subst h0
    obtain ⟨a2, c2, rfl, hc2, hm2⟩ := hrow.shape
    exact ⟨_, w, R.append0 w a2 a L.length c2 c hc2, by simpa using hrow, Keeps.refl _ _, FSub.refl _ _⟩
  · obtain ⟨bk, o, rfl, hb, hj⟩ := h h0
    refine R.append w base hbase v L hrow M hn ⟨bk, o, none⟩ c (fun j u hu => ?_)
    rw [Addr.add_mid]
    exact R.row_cells M o hj j u hu
end
section
variable {ops : Array Oper} {rest : List Oper} {a : Act} {w : World} {Q : Exit → Act → World → Prop}
/-- An append whose run is known. -/
theorem wpList_app {dst : Option Tmp} {t : TypeId} {pos : String} {after : Array Edge} {s x : Operand} (v u : Value) {v' : Value} {w' : World} (hs : a.eval s = v) (hx : a.eval x = u)
    (hr : (Builtin.append_ #[t, t] t #[v, u]).run Tryd.prog w = .ok v' w') (h : wpList Tryd.prog ops Q rest (a.put dst v') w') :
    wpList Tryd.prog ops Q ({ dst := dst, op := .call { callee := .builtin .append, args := #[s, x], argTypes := #[t, t] }, type := t, pos := pos, after := after, guard := none } :: rest) a w :=
  wpList_append_run rfl s x t rfl _ _ _ w' hs hx hr h
end
set_option maxHeartbeats 4000000
set_option maxRecDepth 100000
end Go.Proofs.YtbeniihbejakaaaDoor
