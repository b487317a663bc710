/-
  Rows of events: a slice of events, one under way, a slice literal of one.
-/
import Derived.Great.BuildSlice
import Derived.Great.FillDense
import Derived.Test.YtlaccndjlfpjbaaGreatDoorD11
import Derived.Test.YtlaccndjlfpjbaaGreatDoorD02
set_option linter.unusedSimpArgs false
set_option linter.unusedVariables false
namespace Go.Proofs.YtlaccndjlfpjbaaGreatDoor
open Go.RowKit
/-- A slice of events. -/
def Evs (N : Nat) (w : World) (v : Value) (l : List Ev) : Prop :=
  ∃ a c, v = .slice a l.length c ∧ l.length ≤ c ∧ c ≤ 9223372036854775807 ∧ (l ≠ [] → ∃ bk o, a = some ⟨bk, o, none⟩ ∧ bk < N ∧
    ∀ j, j < l.length → ∃ tx rd, EvAt N w tx rd (l.getD j evZero) ∧ w.rangeAt bk (o + j * 19) (evC (l.getD j evZero) tx rd).toList)
theorem rangeAt_same {N : Nat} {w w' : World} {b o : Nat} {cs : List Value} (h : w.rangeAt b o cs) (hk : Same N w w') (hb : b < N) : w'.rangeAt b o cs := fun j v hv => hk.cell hb (h j v hv)
theorem Evs.same {N : Nat} {w w' : World} {v : Value} {l : List Ev} (h : Evs N w v l) (hk : Same N w w') : Evs N w' v l := by
  obtain ⟨a, c, rfl, hc, hm, h⟩ := h
  refine ⟨a, c, rfl, hc, hm, fun hn => ?_⟩
  obtain ⟨bk, o, rfl, hb, h'⟩ := h hn
  refine ⟨bk, o, rfl, hb, fun j hj => ?_⟩
  obtain ⟨tx, rd, h1, h2⟩ := h' j hj
  exact ⟨tx, rd, h1.same hk, rangeAt_same h2 hk hb⟩
theorem Evs.new {N : Nat} {w w' : World} {v : Value} {l : List Ev} (h : Evs N w v l) (hk : Keeps [] w w') (hN : N ≤ w.heap.size) : Evs N w' v l := h.same (hk.same hN (by simp))
theorem wpList_load_evM {ops : Array Oper} {rest : List Oper} {a : Act} {w : World} {Q : Exit → Act → World → Prop} {dst : Option Tmp} {ty : TypeId} {pos : String} {after : Array Edge} {x : Operand} {g o : Nat} {e : Ev} {tx rd : Value}
    (hx : a.eval x = .pointer (some ⟨g, o, none⟩)) (hr : w.rangeAt g o (evC e tx rd).toList) (h : wpList Tryz.prog ops Q rest (a.put dst (.agg (evC e tx rd))) w) :
    wpList Tryz.prog ops Q ({ dst := dst, op := .load 42 x, type := ty, pos := pos, after := after, guard := none } :: rest) a w :=
  wpList_load_mid rfl 42 x rfl g o hx _ _ hr Tryz.underlying42 rfl (by kernel_rfl) (by rw [Array.toArray_toList]; exact h)
abbrev EvL := List (Ev × Value × Value)
def evsC : EvL → List Value
  | [] => []
  | p :: r => (evC p.1 p.2.1 p.2.2).toList ++ evsC r
theorem evC_len (x : Ev) (tx rd : Value) : (evC x tx rd).toList.length = 19 := rfl
theorem evsC_app : ∀ (l m : EvL), evsC (l ++ m) = evsC l ++ evsC m
  | [], m => rfl
  | p :: r, m => by show _ ++ evsC (r ++ m) = _; rw [evsC_app r m, ← List.append_assoc]; rfl
theorem evsC_len : ∀ (l : EvL), (evsC l).length = l.length * 19
  | [] => rfl
  | p :: r => by
    show ((evC p.1 p.2.1 p.2.2).toList ++ evsC r).length = _
    rw [List.length_append, evC_len, evsC_len r]; simp; omega
theorem evsC_get : ∀ (l : EvL) (j : Nat) (p : Ev × Value × Value), l[j]? = some p → ∀ i v, (evC p.1 p.2.1 p.2.2).toList[i]? = some v → (evsC l)[j * 19 + i]? = some v
  | [], j, p, h, _, _, _ => by simp at h
  | q :: r, 0, p, h, i, v, hi => by
    simp at h; subst h
    have hl : i < (evC q.1 q.2.1 q.2.2).toList.length := (List.getElem?_eq_some_iff.1 hi).1
    show ((evC q.1 q.2.1 q.2.2).toList ++ evsC r)[0 * 19 + i]? = _
    rw [show 0 * 19 + i = i by omega, List.getElem?_append_left hl]
    exact hi
  | q :: r, j + 1, p, h, i, v, hi => by
    show ((evC q.1 q.2.1 q.2.2).toList ++ evsC r)[(j + 1) * 19 + i]? = _
    rw [List.getElem?_append_right (by rw [evC_len]; omega), evC_len, show (j + 1) * 19 + i - 19 = j * 19 + i by omega]
    exact evsC_get r j p (by simpa using h) i v hi
def RowE (base : Nat) (w : World) (v : Value) (L : EvL) : Prop := w.ownsRow base 42 19 v L.length (evsC L)
theorem Tryz.infoE : (Tryz.prog.info? 42).map (fun i => (i.zero, i.size, i.bytes)) = some (some (.agg (evC evZero (.slice none 0 0) (.slice none 0 0))), 19, 104) := by kernel_rfl
theorem ev_new (w : World) (x : Ev) (tx rd : Value) (t : TypeId) : ∀ j u, (evC x tx rd).toList[j]? = some u → (w.alloc (.cells (evC x tx rd) t)).cell? ((⟨w.heap.size, 0, none⟩ : Addr).add j) = some u := by
  intro j u hj
  rw [Addr.add_mid, Nat.zero_add]
  have := heap_alloc_new w (.cells (evC x tx rd) t)
  simp only [World.cell?, this]
  rw [Array.getElem?_toList] at hj
  simpa using hj
theorem evC_onel {x : Ev} {tx rd : Value} (h1 : tx.oneCell' = true) (h2 : rd.oneCell' = true) : ∀ u ∈ (evC x tx rd).toList, u.oneCell' = true := by
  have h := evC_one x h1 h2
  rw [List.all_eq_true] at h
  exact fun u hu => h u hu
theorem append_ev (w : World) (base : Nat) (hbase : base ≤ w.heap.size) (v : Value) (L : EvL) (hrow : RowE base w v L) (hn : L.length ≤ 100000000) (x : Ev) (tx rd : Value) (h1 : tx.oneCell' = true) (h2 : rd.oneCell' = true) :
    ∃ v' w', (Builtin.append_ #[22, 22] 22 #[v, .slice (some ⟨w.heap.size, 0, none⟩) 1 1]).run Tryz.prog (w.alloc (.cells (evC x tx rd) 42)) = .ok v' w' ∧ RowE base w' v' (L ++ [(x, tx, rd)]) ∧ Keeps (own v) w w' ∧ FSub (own v') (own v) w.heap.size := by
  obtain ⟨i0, hi, hz0, hz1, hz2⟩ := info_parts Tryz.infoE
  have hk := (Keeps.refl (own v) w).alloc (.cells (evC x tx rd) 42)
  have hr2 : RowE base (w.alloc (.cells (evC x tx rd) 42)) v L := row_old hrow ((Keeps.refl [] w).alloc _) (by simp)
  have hsz : w.heap.size ≤ (w.alloc (.cells (evC x tx rd) 42)).heap.size := hk.size
  have hnew := ev_new w x tx rd 42
  have hone := evC_onel (x := x) h1 h2
  have hcells : evsC (L ++ [(x, tx, rd)]) = evsC L ++ (evC x tx rd).toList := by rw [evsC_app]; simp [evsC]
  have hb : (L.length + 1) * 104 ≤ 140737488355328 := by omega
  have hm : L.length + 1 ≤ maxLen := by unfold maxLen; omega
  generalize w.alloc (.cells (evC x tx rd) 42) = w1 at *
  have fin : ∀ {b2 : Nat} {v' : Value} {w' : World}, base ≤ b2 → w'.ownsRow b2 42 19 v' (L.length + 1) (evsC L ++ (evC x tx rd).toList) → RowE base w' v' (L ++ [(x, tx, rd)]) := by
    intro b2 v' w' hb2 h
    unfold RowE
    rw [hcells, List.length_append]
    exact row_up h (fun q hq => Nat.le_trans hb2 (row_base h q hq).1)
  unfold RowE at hr2
  rcases hr2.2 with ⟨rfl, h0⟩ | ⟨g, cap, cur, rfl, hbg, hg, hnc, hcm, hcs, htake⟩
  · obtain ⟨v', w', hr, ho, hgr, _⟩ := run_append_own (P := Tryz.prog) (w := w1) w1.heap.size 22 22 42 i0 _ 19 104 Tryz.underlying22 hi hz0 hz1 hz2 rfl (by decide) (.slice none 0 0) L.length (evsC L) ⟨hr2.1, .inl ⟨rfl, h0⟩⟩
      ⟨w.heap.size, 0, none⟩ 1 1 (evC x tx rd).toList rfl hnew hone hm hb (Nat.le_refl _)
    exact ⟨v', w', hr, fin (Nat.le_trans hbase hsz) ho, hk.grown hgr (fun q hq => .inl hq), fun q hq => .inr (Nat.le_trans hsz (row_base ho q hq).1)⟩
  · by_cases hroom : L.length + 1 ≤ cap
    · obtain ⟨w', hr, ho, hgr⟩ := run_append_fits (P := Tryz.prog) w1 base 22 22 42 i0 19 Tryz.underlying22 hi hz1 g L.length cap (evsC L) hr2 ⟨w.heap.size, 0, none⟩ 1 1 (evC x tx rd).toList rfl hnew hone hroom
      exact ⟨_, w', hr, fin (Nat.le_refl _) ho, hk.grown (v := .slice (some ⟨g, 0, none⟩) L.length cap) hgr (fun q hq => .inl hq), fun q hq => .inl hq⟩
    · obtain ⟨v', w', hr, ho, hgr⟩ := run_append_arg_grows (P := Tryz.prog) w1 22 22 42 i0 _ 19 104 Tryz.underlying22 hi hz0 hz1 hz2 rfl (by decide) ⟨g, 0, none⟩ L.length cap (evsC L) (evsC_len L) (hr2.cells (g := g) rfl) ⟨w.heap.size, 0, none⟩ 1 1 (evC x tx rd).toList rfl hnew (by omega) hm hb
      refine ⟨v', w', hr, fin (Nat.le_trans hbase hsz) ho, ?_, fun q hq => .inr (Nat.le_trans hsz (row_base ho q hq).1)⟩
      exact hk.grown (v := .slice none 0 0) hgr (fun q hq => by simp [own, Value.ownBlock] at hq)
end Go.Proofs.YtlaccndjlfpjbaaGreatDoor
/-
  The document's history in memory.
-/
namespace Go.Proofs.YtlaccndjlfpjbaaGreatDoor
open Go.RowKit
theorem RowE.at {base : Nat} {w : World} {v : Value} {L : EvL} (h : RowE base w v L) (hne : L ≠ []) : ∃ g cap, v = .slice (some ⟨g, 0, none⟩) L.length cap ∧ L.length ≤ cap ∧ cap ≤ 9223372036854775807 ∧ base ≤ g ∧ g < w.heap.size ∧
    ∀ j (hj : j < L.length), w.rangeAt g (j * 19) (evC L[j].1 L[j].2.1 L[j].2.2).toList := by
  rcases h.2 with ⟨rfl, hn⟩ | ⟨g, cap, cur, rfl, hb, hh, hc, hm, hcs, htk⟩
  · exact absurd (List.eq_nil_of_length_eq_zero hn) hne
  · refine ⟨g, cap, rfl, hc, by unfold maxLen at hm; omega, hb, lt_of_block hh, fun j hj => ?_⟩
    intro i u hi
    have h2 := evsC_get L j L[j] (List.getElem?_eq_getElem hj) i u hi
    rw [← htk, List.getElem?_take] at h2
    split at h2
    · simp only [World.cell?, hh]
      simpa using h2
    · cases h2
/-- The document's history: the events that were taken. -/
structure R7At (N b base : Nat) (w : World) (v : Value) (T : EvL) : Prop where
  cell : w.heap[b]? = some (.cells #[v] 29 (0, 0))
  row : RowE base w v T
  ok : ∀ p ∈ T, EvAt N w p.2.1 p.2.2 p.1
  nb : N ≤ b
  bb : b < base
theorem R7At.new {N b base : Nat} {w w' : World} {v : Value} {T : EvL} (h : R7At N b base w v T) (hk : Keeps [] w w') : R7At N b base w' v T :=
  ⟨hk.heap h.cell (by simp), row_old h.row hk (by simp), fun p hp => (h.ok p hp).new hk (by have := lt_of_block h.cell; have := h.nb; omega), h.nb, h.bb⟩
/-- What is kept elsewhere. -/
theorem R7At.other {N b base : Nat} {w w' : World} {v : Value} {T : EvL} {F : List Nat} (h : R7At N b base w v T) (hk : Keeps F w w') (hF : ∀ q ∈ F, N ≤ q ∧ q ≠ b ∧ q ∉ own v) : R7At N b base w' v T :=
  ⟨hk.heap h.cell (fun hb => (hF b hb).2.1 rfl), row_old h.row hk (fun q hq hf => (hF q hf).2.2 hq), fun p hp => (h.ok p hp).same (hk.same (by have := lt_of_block h.cell; have := h.nb; omega) (fun q hq => (hF q hq).1)), h.nb, h.bb⟩
def evsOf (T : EvL) : List Ev := T.map (·.1)
end Go.Proofs.YtlaccndjlfpjbaaGreatDoor
