/-
  Small things of memory that later stages share: what lies below a place, rows, appends.
-/
import Derived.Deep.MidRow
import Derived.Great.BuildSlice
import Derived.Great.FillDense
import Derived.Test.YtbjhgdimciibcaaDoorLO03
set_option linter.unusedSimpArgs false
set_option linter.unusedVariables false
namespace Go.Proofs.YtbjhgdimciibcaaDoor
open Go.RowKit
/-- All blocks below N are as they were. -/
def Same (N : Nat) (w w' : World) : Prop := ∀ b, b < N → w'.heap[b]? = w.heap[b]?
theorem Same.cell {N : Nat} {w w' : World} (h : Same N w w') {b o : Nat} {v : Value} (hb : b < N) (hv : w.cell? ⟨b, o, none⟩ = some v) : w'.cell? ⟨b, o, none⟩ = some v :=
  (World.cell?_of_block (h b hb)).trans hv
theorem Same.refl (N : Nat) (w : World) : Same N w w := fun _ _ => rfl
theorem Same.trans {N : Nat} {a b c : World} (h : Same N a b) (k : Same N b c) : Same N a c := fun i hi => (k i hi).trans (h i hi)
theorem Keeps.same {F : List Nat} {N : Nat} {w w' : World} (hk : Keeps F w w') (hN : N ≤ w.heap.size) (hF : ∀ g ∈ F, N ≤ g) : Same N w w' :=
  fun b hb => hk.block b (by omega) (fun hg => by have := hF b hg; omega)
theorem Keeps.setRow {F : List Nat} {a w : World} (h : Keeps F a w) (g : Nat) (cs : Array Value) (hg : g ∈ F ∨ a.heap.size ≤ g) : Keeps F a (w.setRow g cs) := by
  refine ⟨h.os, h.tape, h.output, ?_, fun k hk hF => ?_⟩
  · have := h.size; simp [World.setRow]; exact this
  · have hne : g ≠ k := fun e => by subst e; rcases hg with h1 | h1; exact hF h1; omega
    rw [← h.block k hk hF]
    simp [World.setRow, Array.getElem?_modify, hne]
theorem row_old {w w' : World} {base : Nat} {e : TypeId} {size : Nat} {v : Value} {n : Nat} {xs : List Value} {F : List Nat} (h : w.ownsRow base e size v n xs) (hk : Keeps F w w') (hF : ∀ q ∈ own v, q ∉ F) : w'.ownsRow base e size v n xs := by
  obtain ⟨h1, h2⟩ := h
  refine ⟨h1, ?_⟩
  rcases h2 with h2 | ⟨q, cap, cur, rfl, hb, hh, r⟩
  · exact .inl h2
  · exact .inr ⟨q, cap, cur, rfl, hb, hk.heap hh (hF q (by simp [own, Value.ownBlock])), r⟩
theorem rangeAt_same {N : Nat} {w w' : World} {b o : Nat} {cs : List Value} (h : w.rangeAt b o cs) (hk : Same N w w') (hb : b < N) : w'.rangeAt b o cs := fun j v hv => hk.cell hb (h j v hv)
theorem cell_lit {w : World} {b : Nat} {cs : Array Value} {t : TypeId} {fr : Nat × Nat} (h : w.heap[b]? = some (.cells cs t fr)) (i : Nat) {v : Value} (hv : cs[i]? = some v) : w.cell? ⟨b, i, none⟩ = some v := by
  simp only [World.cell?, h]; exact hv
end Go.Proofs.YtbjhgdimciibcaaDoor
/-
  Rows of structs without references, whatever the struct: a slice that the call owns, an append, a load.
-/
namespace Go.Proofs.YtbjhgdimciibcaaDoor
open Go.RowKit
/-- A kind of rows: the struct's type, the slice's, the cells. -/
structure RK (α : Type) where
  T : TypeId
  Sl : TypeId
  s : Nat
  b : Nat
  cs : α → List Value
  i : TypeInfo
  z : Value
  len : ∀ x, (cs x).length = s
  one : ∀ x, ∀ v ∈ cs x, v.oneCell' = true
  s0 : 0 < s
  b1 : b ≤ 1000
  und : Tryd.prog.underlying Sl = some (.slice T)
  hi : Tryd.prog.info? T = some i
  hz : i.zero = some z
  hs : i.size = s
  hb : i.bytes = b
  hzs : z.cells.size = s
variable {α : Type}
def RK.row (R : RK α) (L : List α) : List Value := L.flatMap R.cs
theorem RK.row_get (R : RK α) : ∀ (L : List α) (j : Nat) (x : α), L[j]? = some x → ∀ i v, (R.cs x)[i]? = some v → (R.row L)[j * R.s + i]? = some v
  | [], j, x, h, _, _, _ => by simp at h
  | q :: r, 0, x, h, i, v, hi => by
    simp at h; subst h
    have hl : i < (R.cs q).length := (List.getElem?_eq_some_iff.1 hi).1
    show (R.cs q ++ R.row r)[0 * R.s + i]? = _
    rw [show 0 * R.s + i = i by omega, List.getElem?_append_left hl]
    exact hi
  | q :: r, j + 1, x, h, i, v, hi => by
    have e : (j + 1) * R.s + i = R.s + (j * R.s + i) := by rw [Nat.add_mul]; omega
    show (R.cs q ++ R.row r)[(j + 1) * R.s + i]? = _
    rw [e, List.getElem?_append_right (by rw [R.len]; omega), R.len, Nat.add_sub_cancel_left]
    exact RK.row_get R r j x (by simpa using h) i v hi
/-- A slice of such structs that the call owns. -/
def RK.Own (R : RK α) (base : Nat) (w : World) (v : Value) (L : List α) : Prop := w.ownsRow base R.T R.s v L.length (R.row L)
/-- A slice of such structs, wherever it lies below N. -/
def RK.In (R : RK α) (N : Nat) (w : World) (v : Value) (L : List α) : Prop :=
  ∃ a c, v = .slice a L.length c ∧ L.length ≤ c ∧ c ≤ 9223372036854775807 ∧ (L ≠ [] → ∃ bk o, a = some ⟨bk, o, none⟩ ∧ bk < N ∧ ∀ j (h : j < L.length), w.rangeAt bk (o + j * R.s) (R.cs L[j]))
theorem RK.In.same {R : RK α} {N : Nat} {w w' : World} {v : Value} {L : List α} (h : R.In N w v L) (hk : Same N w w') : R.In N w' v L := by
  obtain ⟨a, c, rfl, hc, hm, h⟩ := h
  refine ⟨a, c, rfl, hc, hm, fun hn => ?_⟩
  obtain ⟨bk, o, rfl, hb, h'⟩ := h hn
  exact ⟨bk, o, rfl, hb, fun j hj => rangeAt_same (h' j hj) hk hb⟩
theorem RK.In.new {R : RK α} {N : Nat} {w w' : World} {v : Value} {L : List α} (h : R.In N w v L) (hk : Keeps [] w w') (hN : N ≤ w.heap.size) : R.In N w' v L := h.same (hk.same hN (by simp))
theorem RK.Own.nil (R : RK α) (base : Nat) (w : World) : R.Own base w (.slice none 0 0) [] := ⟨by simp [RK.row], .inl ⟨rfl, rfl⟩⟩
theorem RK.Own.at {R : RK α} {base : Nat} {w : World} {v : Value} {L : List α} (h : R.Own base w v L) (hne : L ≠ []) : ∃ g cap, v = .slice (some ⟨g, 0, none⟩) L.length cap ∧ L.length ≤ cap ∧ cap ≤ 9223372036854775807 ∧ base ≤ g ∧ g < w.heap.size ∧
    ∀ j (hj : j < L.length), w.rangeAt g (j * R.s) (R.cs L[j]) := by
  rcases h.2 with ⟨rfl, hn⟩ | ⟨g, cap, cur, rfl, hb, hh, hc, hm, hcs, htk⟩
  · exact absurd (List.eq_nil_of_length_eq_zero hn) hne
  · refine ⟨g, cap, rfl, hc, by unfold maxLen at hm; omega, hb, lt_of_block hh, fun j hj => ?_⟩
    intro i u hi
    have h2 := R.row_get L j L[j] (List.getElem?_eq_getElem hj) i u hi
    rw [← htk, List.getElem?_take] at h2
    split at h2
    · simp only [World.cell?, hh]
      simpa using h2
    · cases h2
theorem RK.Own.keeps {R : RK α} {base : Nat} {w w' : World} {v : Value} {L : List α} {F : List Nat} (h : R.Own base w v L) (hk : Keeps F w w') (hF : ∀ q ∈ own v, q ∉ F) : R.Own base w' v L := row_old h hk hF
section
variable {ops : Array Oper} {rest : List Oper} {o : Oper} {a : Act} {w : World} {Q : Exit → Act → World → Prop} {K : Act → World → Prop} {d : TypeDesc}
/-- In a region that draws its order. -/
theorem RK.yields (R : RK α) (hu : Tryd.prog.underlying R.T = some d) (hd : d.isRow = true) {S : World → Prop} (hw : Region.wanted o (yielded ops a.tmps) = true) (x : Operand) (ho : o.op = .load R.T x) (g off : Nat) (hx : a.eval x = .pointer (some ⟨g, off, none⟩)) (y : α)
    (hS : ∀ w, S w → w.rangeAt g off (R.cs y)) : YieldsIf Tryd.prog ops S o (.agg (R.cs y).toArray) a :=
  yieldsIf_load_mid (P := Tryd.prog) hw R.T x ho g off hx (R.cs y) _ hS hu hd (by rw [R.hi, Option.map_some, R.hs, R.len])
end
end Go.Proofs.YtbjhgdimciibcaaDoor
