/-
  Small things of memory that later stages share: what lies below a place, rows, appends.
-/
import Derived.Deep.MidRow
import Derived.Great.BuildSlice
import Derived.Great.FillDense
import Derived.Test.YtbeniihbejakaaaDoorBD02
set_option linter.unusedSimpArgs false
set_option linter.unusedVariables false
namespace Go.Proofs.YtbeniihbejakaaaDoor
open Go.RowKit
/-- All blocks below N are as they were. -/
def Same (N : Nat) (w w' : World) : Prop := ∀ b, b < N → w'.heap[b]? = w.heap[b]?
theorem Same.cell {N : Nat} {w w' : World} (h : Same N w w') {b o : Nat} {v : Value} (hb : b < N) (hv : w.cell? ⟨b, o, none⟩ = some v) : w'.cell? ⟨b, o, none⟩ = some v :=
  (World.cell?_of_block (h b hb)).trans hv
theorem Keeps.same {F : List Nat} {N : Nat} {w w' : World} (hk : Keeps F w w') (hN : N ≤ w.heap.size) (hF : ∀ g ∈ F, N ≤ g) : Same N w w' :=
  fun b hb => hk.block b (by omega) (fun hg => by have := hF b hg; omega)
theorem Keeps.setRow {F : List Nat} {a w : World} (h : Keeps F a w) (g : Nat) (cs : Array Value) (hg : g ∈ F ∨ a.heap.size ≤ g) : Keeps F a (w.setRow g cs) := by
  refine ⟨h.os, h.tape, h.output, ?_, fun k hk hF => ?_⟩
  · have := h.size; simp [World.setRow]; exact this
  · have hne : g ≠ k := fun e => by subst e; rcases hg with h1 | h1; exact hF h1; omega
    rw [← h.block k hk hF]
    simp [World.setRow, Array.getElem?_modify, hne]
theorem row_old {w w' : World} {base : Nat} {e : TypeId} {size : Nat} {v : Value} {n : Nat} {xs : List Value} {F : List Nat} (h : w.ownsRow base e size v n xs) (hk : Keeps F w w') (hF : ∀ q ∈ own v, q ∉ F) : w'.ownsRow base e size v n xs := by
  obtain ⟨h1, h2⟩ := h
  refine ⟨h1, ?_⟩
  rcases h2 with h2 | ⟨q, cap, cur, rfl, hb, hh, r⟩
  · exact .inl h2
  · exact .inr ⟨q, cap, cur, rfl, hb, hk.heap hh (hF q (by simp [own, Value.ownBlock])), r⟩
theorem row_base {w : World} {base : Nat} {e : TypeId} {size : Nat} {v : Value} {n : Nat} {xs : List Value} (h : w.ownsRow base e size v n xs) : ∀ q ∈ own v, base ≤ q ∧ q < w.heap.size := fun q hq => h.lt q (by simpa [own] using hq)
theorem row_up {w : World} {base b2 : Nat} {e : TypeId} {size : Nat} {v : Value} {n : Nat} {xs : List Value} (h : w.ownsRow base e size v n xs) (hb : ∀ q ∈ own v, b2 ≤ q) : w.ownsRow b2 e size v n xs := by
  obtain ⟨h1, h2⟩ := h
  refine ⟨h1, ?_⟩
  rcases h2 with h2 | ⟨q, cap, cur, rfl, _, r⟩
  · exact .inl h2
  · exact .inr ⟨q, cap, cur, rfl, hb q (by simp [own, Value.ownBlock]), r⟩
theorem wp_append_run {P : Program} {w : World} {o : Oper} {a : Act} {K : Act → World → Prop} {Q : Exit → Act → World → Prop} (s x : Operand) (t : TypeId)
    (ho : o.op = .call { callee := .builtin .append, args := #[s, x], argTypes := #[t, t] }) (vs vx v' : Value) (w' : World) (hs : a.eval s = vs) (hx : a.eval x = vx)
    (hr : (Builtin.append_ #[t, t] o.type #[vs, vx]).run P w = .ok v' w') (h : K (a.put o.dst v') w') : o.wp P a w K Q := by
  unfold Oper.wp execOp
  simp only [ho, resolve, invoke, builtin, Sem.run_bind, Sem.run_pure, Result.andThen_ok, List.map_toArray, List.map_cons, List.map_nil, hs, hx, hr]
  exact h
theorem wpList_append_run {P : Program} {ops : Array Oper} {rest : List Oper} {o : Oper} {a : Act} {w : World} {Q : Exit → Act → World → Prop} (hgd : o.guard = none) (s x : Operand) (t : TypeId)
    (ho : o.op = .call { callee := .builtin .append, args := #[s, x], argTypes := #[t, t] }) (vs vx v' : Value) (w' : World) (hs : a.eval s = vs) (hx : a.eval x = vx)
    (hr : (Builtin.append_ #[t, t] o.type #[vs, vx]).run P w = .ok v' w') (h : wpList P ops Q rest (a.put o.dst v') w') : wpList P ops Q (o :: rest) a w :=
  wpList_plain hgd fun K hK => wp_append_run s x t ho vs vx v' w' hs hx hr (hK _ _ h)
theorem rangeAt_same {N : Nat} {w w' : World} {b o : Nat} {cs : List Value} (h : w.rangeAt b o cs) (hk : Same N w w') (hb : b < N) : w'.rangeAt b o cs := fun j v hv => hk.cell hb (h j v hv)
theorem cell_lit {w : World} {b : Nat} {cs : Array Value} {t : TypeId} {fr : Nat × Nat} (h : w.heap[b]? = some (.cells cs t fr)) (i : Nat) {v : Value} (hv : cs[i]? = some v) : w.cell? ⟨b, i, none⟩ = some v := by
  simp only [World.cell?, h]; exact hv
end Go.Proofs.YtbeniihbejakaaaDoor
/-
  Rows of structs without references, whatever the struct: a slice that the call owns, an append, a load.
-/
namespace Go.Proofs.YtbeniihbejakaaaDoor
open Go.RowKit
/-- A kind of rows: the struct's type, the slice's, the cells. -/
structure RK (α : Type) where
  T : TypeId
  Sl : TypeId
  s : Nat
  b : Nat
  cs : α → List Value
  i : TypeInfo
  z : Value
  len : ∀ x, (cs x).length = s
  one : ∀ x, ∀ v ∈ cs x, v.oneCell' = true
  s0 : 0 < s
  b1 : b ≤ 1000
  und : Tryd.prog.underlying Sl = some (.slice T)
  hi : Tryd.prog.info? T = some i
  hz : i.zero = some z
  hs : i.size = s
  hb : i.bytes = b
  hzs : z.cells.size = s
variable {α : Type}
def RK.row (R : RK α) (L : List α) : List Value := L.flatMap R.cs
theorem RK.row_app (R : RK α) (L M : List α) : R.row (L ++ M) = R.row L ++ R.row M := List.flatMap_append
theorem RK.row_len (R : RK α) (L : List α) : (R.row L).length = L.length * R.s := by
  induction L with
  | nil => simp [RK.row]
  | cons x r ih =>
    show (R.cs x ++ R.row r).length = _
    rw [List.length_append, ih, R.len, List.length_cons, Nat.add_mul]
    omega
theorem RK.row_get (R : RK α) : ∀ (L : List α) (j : Nat) (x : α), L[j]? = some x → ∀ i v, (R.cs x)[i]? = some v → (R.row L)[j * R.s + i]? = some v
  | [], j, x, h, _, _, _ => by simp at h
  | q :: r, 0, x, h, i, v, hi => by
    simp at h; subst h
    have hl : i < (R.cs q).length := (List.getElem?_eq_some_iff.1 hi).1
    show (R.cs q ++ R.row r)[0 * R.s + i]? = _
    rw [show 0 * R.s + i = i by omega, List.getElem?_append_left hl]
    exact hi
  | q :: r, j + 1, x, h, i, v, hi => by
    have e : (j + 1) * R.s + i = R.s + (j * R.s + i) := by rw [Nat.add_mul]; omega
    show (R.cs q ++ R.row r)[(j + 1) * R.s + i]? = _
    rw [e, List.getElem?_append_right (by rw [R.len]; omega), R.len, Nat.add_sub_cancel_left]
    exact RK.row_get R r j x (by simpa using h) i v hi
theorem RK.row_one (R : RK α) (L : List α) : ∀ v ∈ R.row L, v.oneCell' = true := by
  intro v hv
  obtain ⟨x, _, h⟩ := List.mem_flatMap.1 hv
  exact R.one x v h
/-- A slice of such structs that the call owns. -/
def RK.Own (R : RK α) (base : Nat) (w : World) (v : Value) (L : List α) : Prop := w.ownsRow base R.T R.s v L.length (R.row L)
/-- A slice of such structs, wherever it lies below N. -/
def RK.In (R : RK α) (N : Nat) (w : World) (v : Value) (L : List α) : Prop :=
  ∃ a c, v = .slice a L.length c ∧ L.length ≤ c ∧ c ≤ 9223372036854775807 ∧ (L ≠ [] → ∃ bk o, a = some ⟨bk, o, none⟩ ∧ bk < N ∧ ∀ j (h : j < L.length), w.rangeAt bk (o + j * R.s) (R.cs L[j]))
theorem RK.In.same {R : RK α} {N : Nat} {w w' : World} {v : Value} {L : List α} (h : R.In N w v L) (hk : Same N w w') : R.In N w' v L := by
  obtain ⟨a, c, rfl, hc, hm, h⟩ := h
  refine ⟨a, c, rfl, hc, hm, fun hn => ?_⟩
  obtain ⟨bk, o, rfl, hb, h'⟩ := h hn
  exact ⟨bk, o, rfl, hb, fun j hj => rangeAt_same (h' j hj) hk hb⟩
theorem RK.In.new {R : RK α} {N : Nat} {w w' : World} {v : Value} {L : List α} (h : R.In N w v L) (hk : Keeps [] w w') (hN : N ≤ w.heap.size) : R.In N w' v L := h.same (hk.same hN (by simp))
theorem RK.Own.nil (R : RK α) (base : Nat) (w : World) : R.Own base w (.slice none 0 0) [] := ⟨by simp [RK.row], .inl ⟨rfl, rfl⟩⟩
theorem RK.Own.shape {R : RK α} {base : Nat} {w : World} {v : Value} {L : List α} (h : R.Own base w v L) : ∃ a c, v = .slice a L.length c ∧ L.length ≤ c ∧ c ≤ 9223372036854775807 := by
  rcases h.2 with ⟨rfl, hn⟩ | ⟨g, cap, cur, rfl, _, hh, hc, hm, hcs, htk⟩
  · exact ⟨none, 0, by rw [hn], by omega, by decide⟩
  · exact ⟨_, cap, rfl, hc, by unfold maxLen at hm; omega⟩
theorem RK.Own.at {R : RK α} {base : Nat} {w : World} {v : Value} {L : List α} (h : R.Own base w v L) (hne : L ≠ []) : ∃ g cap, v = .slice (some ⟨g, 0, none⟩) L.length cap ∧ L.length ≤ cap ∧ cap ≤ 9223372036854775807 ∧ base ≤ g ∧ g < w.heap.size ∧
    ∀ j (hj : j < L.length), w.rangeAt g (j * R.s) (R.cs L[j]) := by
  rcases h.2 with ⟨rfl, hn⟩ | ⟨g, cap, cur, rfl, hb, hh, hc, hm, hcs, htk⟩
  · exact absurd (List.eq_nil_of_length_eq_zero hn) hne
  · refine ⟨g, cap, rfl, hc, by unfold maxLen at hm; omega, hb, lt_of_block hh, fun j hj => ?_⟩
    intro i u hi
    have h2 := R.row_get L j L[j] (List.getElem?_eq_getElem hj) i u hi
    rw [← htk, List.getElem?_take] at h2
    split at h2
    · simp only [World.cell?, hh]
      simpa using h2
    · cases h2
theorem RK.Own.in_ {R : RK α} {base : Nat} {w : World} {v : Value} {L : List α} (h : R.Own base w v L) : R.In w.heap.size w v L := by
  obtain ⟨a, c, rfl, hc, hm⟩ := h.shape
  refine ⟨a, c, rfl, hc, hm, fun hn => ?_⟩
  obtain ⟨g, cap, e, _, _, _, hg, hr⟩ := h.at hn
  simp at e
  obtain ⟨rfl, rfl⟩ := e
  exact ⟨g, 0, rfl, hg, fun j hj => by rw [Nat.zero_add]; exact hr j hj⟩
theorem RK.Own.keeps {R : RK α} {base : Nat} {w w' : World} {v : Value} {L : List α} {F : List Nat} (h : R.Own base w v L) (hk : Keeps F w w') (hF : ∀ q ∈ own v, q ∉ F) : R.Own base w' v L := row_old h hk hF
/-- Rows are appended. -/
theorem RK.append (R : RK α) (w : World) (base : Nat) (hbase : base ≤ w.heap.size) (v : Value) (L : List α) (hrow : R.Own base w v L) (M : List α) (hn : L.length + M.length ≤ 100000000) (a : Addr) (c : Nat)
    (hnew : ∀ j u, (R.row M)[j]? = some u → w.cell? (a.add j) = some u) :
    ∃ v' w', (Builtin.append_ #[R.Sl, R.Sl] R.Sl #[v, .slice (some a) M.length c]).run Tryd.prog w = .ok v' w' ∧ R.Own base w' v' (L ++ M) ∧ Keeps (own v) w w' ∧ FSub (own v') (own v) w.heap.size := by
  have hb : (L.length + M.length) * R.b ≤ 140737488355328 := Nat.le_trans (Nat.mul_le_mul hn R.b1) (by decide)
  have hm : L.length + M.length ≤ maxLen := by unfold maxLen; omega
  have hone := R.row_one M
  have hll := R.row_len M
  have fin : ∀ {b2 : Nat} {v' : Value} {w' : World}, base ≤ b2 → w'.ownsRow b2 R.T R.s v' (L.length + M.length) (R.row L ++ R.row M) → R.Own base w' v' (L ++ M) := by
    intro b2 v' w' hb2 h
    unfold RK.Own
    rw [R.row_app, List.length_append]
    exact row_up h (fun q hq => Nat.le_trans hb2 (row_base h q hq).1)
  unfold RK.Own at hrow
  rcases hrow.2 with ⟨rfl, h0⟩ | ⟨g, cap, cur, rfl, hbg, hg, hnc, hcm, hcs, htake⟩
  · obtain ⟨v', w', hr, ho, hgr, _⟩ := run_append_own (P := Tryd.prog) (w := w) w.heap.size R.Sl R.Sl R.T R.i _ R.s R.b R.und R.hi R.hz R.hs R.hb R.hzs R.s0 (.slice none 0 0) L.length (R.row L) ⟨hrow.1, .inl ⟨rfl, h0⟩⟩
      a M.length c (R.row M) hll hnew hone hm hb (Nat.le_refl _)
    exact ⟨v', w', hr, fin hbase ho, (Keeps.refl _ w).grown hgr (fun q hq => .inl hq), fun q hq => .inr (row_base ho q hq).1⟩
  · by_cases hroom : L.length + M.length ≤ cap
    · obtain ⟨w', hr, ho, hgr⟩ := run_append_fits (P := Tryd.prog) w base R.Sl R.Sl R.T R.i R.s R.und R.hi R.hs g L.length cap (R.row L) hrow a M.length c (R.row M) hll hnew hone hroom
      exact ⟨_, w', hr, fin (Nat.le_refl _) ho, (Keeps.refl _ w).grown (v := .slice (some ⟨g, 0, none⟩) L.length cap) hgr (fun q hq => .inl hq), fun q hq => .inl hq⟩
    · obtain ⟨v', w', hr, ho, hgr⟩ := run_append_arg_grows (P := Tryd.prog) w R.Sl R.Sl R.T R.i _ R.s R.b R.und R.hi R.hz R.hs R.hb R.hzs R.s0 ⟨g, 0, none⟩ L.length cap (R.row L) (R.row_len L) (hrow.cells (g := g) rfl) a M.length c (R.row M) hll hnew (by omega) hm hb
      refine ⟨v', w', hr, fin hbase ho, ?_, fun q hq => .inr (row_base ho q hq).1⟩
      exact (Keeps.refl _ w).grown (v := .slice none 0 0) hgr (fun q hq => by simp [own, Value.ownBlock] at hq)
section
variable {ops : Array Oper} {rest : List Oper} {o : Oper} {a : Act} {w : World} {Q : Exit → Act → World → Prop} {K : Act → World → Prop} {d : TypeDesc}
end
end Go.Proofs.YtbeniihbejakaaaDoor
