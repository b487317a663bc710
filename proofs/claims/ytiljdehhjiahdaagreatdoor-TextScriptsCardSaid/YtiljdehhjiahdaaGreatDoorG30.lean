/-
  Rows of micros and of lists under way.
-/
import Derived.Test.YtiljdehhjiahdaaGreatDoorG27
set_option linter.unusedSimpArgs false
set_option linter.unusedVariables false
namespace Go.Proofs.YtiljdehhjiahdaaGreatDoor
open Go.RowKit
def micC (m : Mic) : Array Value := #[.bool m.rd, .int .u8 m.key, .int .u16 m.v]
def micsC (l : List Mic) : List Value := l.flatMap fun m => (micC m).toList
theorem micsC_snoc (l : List Mic) (m : Mic) : micsC (l ++ [m]) = micsC l ++ (micC m).toList := by simp [micsC]
theorem wp_append_run {P : Program} {w : World} {o : Oper} {a : Act} {K : Act → World → Prop} {Q : Exit → Act → World → Prop} (s x : Operand) (t : TypeId)
    (ho : o.op = .call { callee := .builtin .append, args := #[s, x], argTypes := #[t, t] }) (vs vx v' : Value) (w' : World) (hs : a.eval s = vs) (hx : a.eval x = vx)
    (hr : (Builtin.append_ #[t, t] o.type #[vs, vx]).run P w = .ok v' w') (h : K (a.put o.dst v') w') : o.wp P a w K Q := by
  unfold Oper.wp execOp
  simp only [ho, resolve, invoke, builtin, Sem.run_bind, Sem.run_pure, Result.andThen_ok, List.map_toArray, List.map_cons, List.map_nil, hs, hx, hr]
  exact h
theorem wp_put_cell {o : Oper} {a : Act} {w : World} {K : Act → World → Prop} {Q : Exit → Act → World → Prop} {T : TypeId} {x y : Operand} {b : Nat} {e : Ev} {tx rd : Value} {t : TypeId} {v : Value} (i : Nat) (e' : Ev) (tx' rd' : Value)
    (ho : o.op = .store T x y) (hx : a.eval x = .pointer (some ⟨b, i, none⟩)) (hy : a.eval y = v) (hg : w.heap[b]? = some (.cells (evC e tx rd) t (0, 0))) (hi : (Tryz.prog.info? T).map (·.size) = some 1) (h1 : v.oneCell' = true)
    (hc : ((evC e tx rd)[i]?).isSome = true) (hs : (evC e tx rd).setIfInBounds i v = evC e' tx' rd')
    (h : ∀ W, W.heap[b]? = some (.cells (evC e' tx' rd') t (0, 0)) → Keeps [b] w W → K (a.put o.dst undef) W) : o.wp Tryz.prog a w K Q := by
  have hcell : (w.cell? ⟨b, i, none⟩).isSome = true := by
    cases hq : (evC e tx rd)[i]? with
    | none => rw [hq] at hc; cases hc
    | some u => rw [ev_cell hg i hq]; rfl
  have hrun := run_put1 (P := Tryz.prog) w b i T v hi h1 hcell (ev_thaw hg i)
  unfold Oper.wp execOp
  simp only [ho, hx, hy, Instr.storeAt, Instr.sureAddr, Sem.run_bind, Sem.run_pure, Result.andThen_ok, hrun]
  exact h _ (ev_set hg i v hs) ((Keeps.refl [b] w).own b i v)
theorem Tryz.infoM : (Tryz.prog.info? 56).map (fun i => (i.zero, i.size, i.bytes)) = some (some (.agg #[.bool false, .int .u8 0, .int .u16 0]), 3, 4) := by kernel_rfl
theorem three_new (w : World) (u v x : Value) (t : TypeId) : ∀ j y, [u, v, x][j]? = some y → (w.alloc (.cells #[u, v, x] t)).cell? ((⟨w.heap.size, 0, none⟩ : Addr).add j) = some y := by
  intro j y hj
  match j, hj with
  | 0, hj => simp at hj; subst hj; simp [Addr.add]
  | 1, hj => simp at hj; subst hj; simp [Addr.add]
  | 2, hj => simp at hj; subst hj; simp [Addr.add]
theorem row_one {w : World} {base : Nat} {e : TypeId} {size : Nat} {v : Value} {n : Nat} {xs : List Value} (h : w.ownsRow base e size v n xs) : v.oneCell' = true := by
  rcases h.2 with ⟨rfl, _⟩ | ⟨_, _, _, rfl, _⟩ <;> rfl
theorem row_old {w w' : World} {base : Nat} {e : TypeId} {size : Nat} {v : Value} {n : Nat} {xs : List Value} {F : List Nat} (h : w.ownsRow base e size v n xs) (hk : Keeps F w w') (hF : ∀ q ∈ own v, q ∉ F) : w'.ownsRow base e size v n xs := by
  obtain ⟨h1, h2⟩ := h
  refine ⟨h1, ?_⟩
  rcases h2 with h2 | ⟨q, cap, cur, rfl, hb, hh, r⟩
  · exact .inl h2
  · exact .inr ⟨q, cap, cur, rfl, hb, hk.heap hh (hF q (by simp [own, Value.ownBlock])), r⟩
theorem row_base {w : World} {base : Nat} {e : TypeId} {size : Nat} {v : Value} {n : Nat} {xs : List Value} (h : w.ownsRow base e size v n xs) : ∀ q ∈ own v, base ≤ q ∧ q < w.heap.size := fun q hq => h.lt q (by simpa [own] using hq)
/-- A micro more, behind an own row. -/
theorem append_mic (w : World) (base : Nat) (hbase : base ≤ w.heap.size) (v : Value) (n : Nat) (l : List Value) (hrow : w.ownsRow base 56 3 v n l) (hn : n ≤ 1000) (m : Mic) :
    ∃ v' w', (Builtin.append_ #[27, 27] 27 #[v, .slice (some ⟨w.heap.size, 0, none⟩) 1 1]).run Tryz.prog (w.alloc (.cells (micC m) 56)) = .ok v' w' ∧ w'.ownsRow base 56 3 v' (n + 1) (l ++ (micC m).toList) ∧ Keeps (own v) w w' := by
  obtain ⟨i0, hi, hz0, hz1, hz2⟩ := info_parts Tryz.infoM
  have hk := (Keeps.refl (own v) w).alloc (.cells (micC m) 56)
  have hr2 : (w.alloc (.cells (micC m) 56)).ownsRow base 56 3 v n l := row_old hrow ((Keeps.refl [] w).alloc _) (by simp)
  obtain ⟨v', w', hr, ho, hg, _⟩ := run_append_own (P := Tryz.prog) (w := w.alloc (.cells (micC m) 56)) base 27 27 56 i0 (.agg #[.bool false, .int .u8 0, .int .u16 0]) 3 4 Tryz.underlying27 hi hz0 hz1 hz2 rfl (by decide) v n l hr2
    ⟨w.heap.size, 0, none⟩ 1 1 (micC m).toList rfl (three_new w _ _ _ _) (by intro u hu; simp [micC] at hu; rcases hu with rfl | rfl | rfl <;> rfl) (by unfold maxLen; omega) (by omega) (by simp; omega)
  exact ⟨v', w', hr, ho, hk.grown hg (fun q hq => .inl hq)⟩
/-- Rows of numbers, one for each value. -/
def Inner (base : Nat) (W : World) (us : List Value) (ls : List (List Int)) : Prop := us.length = ls.length ∧ ∀ j, j < ls.length → W.ownsRow base 22 1 (us.getD j undef) (ls.getD j []).length ((ls.getD j []).map (.int .u16))
theorem Inner.keeps {base : Nat} {W W' : World} {us : List Value} {ls : List (List Int)} {F : List Nat} (h : Inner base W us ls) (hk : Keeps F W W') (hF : ∀ q ∈ F, q < base ∨ ∃ cs t fr, W.heap[q]? = some (.cells cs t fr) ∧ t ≠ 22) : Inner base W' us ls := by
  refine ⟨h.1, fun j hj => row_old (h.2 j hj) hk (fun q hq hf => ?_)⟩
  rcases hF q hf with h1 | ⟨cs, t, fr, h1, h2⟩
  · have := (row_base (h.2 j hj) q hq).1; omega
  · have hr := h.2 j hj
    rcases hr.2 with ⟨h3, _⟩ | ⟨q', cap, cur, h3, _, hh, _⟩
    · rw [h3] at hq; simp [own, Value.ownBlock] at hq
    · rw [h3] at hq
      simp [own, Value.ownBlock] at hq
      subst hq
      rw [hh] at h1
      simp at h1
      exact h2 h1.2.1.symm
theorem Inner.snoc {base : Nat} {W : World} {us : List Value} {ls : List (List Int)} {u : Value} {l : List Int} (h : Inner base W us ls) (hu : W.ownsRow base 22 1 u l.length (l.map (.int .u16))) : Inner base W (us ++ [u]) (ls ++ [l]) := by
  refine ⟨by simp [h.1], fun j hj => ?_⟩
  simp only [List.length_append, List.length_cons, List.length_nil] at hj
  rcases (by omega : j < ls.length ∨ j = ls.length) with h1 | rfl
  · have e1 : (us ++ [u]).getD j undef = us.getD j undef := by simp [List.getD, List.getElem?_append_left (show j < us.length by rw [h.1]; exact h1)]
    have e2 : (ls ++ [l]).getD j [] = ls.getD j [] := by simp [List.getD, List.getElem?_append_left h1]
    rw [e1, e2]; exact h.2 j h1
  · have e1 : (us ++ [u]).getD ls.length undef = u := by rw [← h.1]; simp [List.getD]
    have e2 : (ls ++ [l]).getD ls.length [] = l := by simp [List.getD]
    rw [e1, e2]; exact hu
theorem row_up {w : World} {base b2 : Nat} {e : TypeId} {size : Nat} {v : Value} {n : Nat} {xs : List Value} (h : w.ownsRow base e size v n xs) (hb : ∀ q ∈ own v, b2 ≤ q) : w.ownsRow b2 e size v n xs := by
  obtain ⟨h1, h2⟩ := h
  refine ⟨h1, ?_⟩
  rcases h2 with h2 | ⟨q, cap, cur, rfl, _, r⟩
  · exact .inl h2
  · exact .inr ⟨q, cap, cur, rfl, hb q (by simp [own, Value.ownBlock]), r⟩
theorem row_kind {w : World} {base : Nat} {e : TypeId} {size : Nat} {v : Value} {n : Nat} {xs : List Value} (h : w.ownsRow base e size v n xs) : ∀ q ∈ own v, ∃ cs fr, w.heap[q]? = some (.cells cs e fr) := by
  intro q hq
  rcases h.2 with ⟨rfl, _⟩ | ⟨q', cap, cur, rfl, _, hh, _⟩
  · simp [own, Value.ownBlock] at hq
  · simp [own, Value.ownBlock] at hq
    subst hq
    exact ⟨_, _, hh⟩
theorem Tryz.infoL : (Tryz.prog.info? 58).map (fun i => (i.zero, i.size, i.bytes)) = some (some (.slice none 0 0), 1, 24) := by kernel_rfl
theorem append_list (w : World) (base : Nat) (hbase : base ≤ w.heap.size) (v : Value) (n : Nat) (l : List Value) (hrow : w.ownsRow base 58 1 v n l) (hn : n ≤ 1000) (u : Value) (hu : u.oneCell' = true) :
    ∃ v' w', (Builtin.append_ #[28, 28] 28 #[v, .slice (some ⟨w.heap.size, 0, none⟩) 1 1]).run Tryz.prog (w.alloc (.cells #[u] 58)) = .ok v' w' ∧ w'.ownsRow base 58 1 v' (n + 1) (l ++ [u]) ∧ Keeps (own v) w w' := by
  obtain ⟨i0, hi, hz0, hz1, hz2⟩ := info_parts Tryz.infoL
  have hk := (Keeps.refl (own v) w).alloc (.cells #[u] 58)
  have hr2 : (w.alloc (.cells #[u] 58)).ownsRow base 58 1 v n l := row_old hrow ((Keeps.refl [] w).alloc _) (by simp)
  obtain ⟨v', w', hr, ho, hg, _⟩ := run_append_own (P := Tryz.prog) (w := w.alloc (.cells #[u] 58)) base 28 28 58 i0 (.slice none 0 0) 1 24 Tryz.underlying28 hi hz0 hz1 hz2 rfl (by decide) v n l hr2
    ⟨w.heap.size, 0, none⟩ 1 1 [u] rfl (one_new w _ _) (by intro y hy; simp at hy; subst hy; exact hu) (by unfold maxLen; omega) (by omega) (by simp; omega)
  exact ⟨v', w', hr, ho, hk.grown hg (fun q hq => .inl hq)⟩
theorem micsC_get (l : List Mic) (j : Nat) (m : Mic) (h : l[j]? = some m) : (micsC l)[j * 3]? = some (.bool m.rd) ∧ (micsC l)[j * 3 + 1]? = some (.int .u8 m.key) ∧ (micsC l)[j * 3 + 2]? = some (.int .u16 m.v) := by
  induction l generalizing j with
  | nil => simp at h
  | cons a l ih =>
    have e : micsC (a :: l) = .bool a.rd :: .int .u8 a.key :: .int .u16 a.v :: micsC l := rfl
    rw [e]
    cases j with
    | zero => simp at h; subst h; exact ⟨rfl, rfl, rfl⟩
    | succ j =>
      have := ih j (by simpa using h)
      have e2 : (j + 1) * 3 = j * 3 + 1 + 1 + 1 := by omega
      rw [e2]
      simpa using this
theorem micsC_length (l : List Mic) : (micsC l).length = l.length * 3 := by
  induction l with
  | nil => rfl
  | cons a l ih =>
    have e : micsC (a :: l) = .bool a.rd :: .int .u8 a.key :: .int .u16 a.v :: micsC l := rfl
    rw [e]; simp only [List.length_cons, ih]; omega
/-- Rows as the lists of an event. -/
theorem mics_row {W : World} {base : Nat} {v : Value} {l : List Mic} (h : W.ownsRow base 56 3 v l.length (micsC l)) : Mics W.heap.size W v l := by
  rcases h.2 with ⟨rfl, hn⟩ | ⟨g, cap, cur, rfl, _, hh, hc, hm, hcs, htk⟩
  · have : l = [] := List.eq_nil_of_length_eq_zero hn
    subst this
    exact Mics.nil _ _
  · refine ⟨_, cap, rfl, hc, by unfold maxLen at hm; omega, fun _ => ⟨g, 0, rfl, lt_of_block hh, fun j m hj => ?_⟩⟩
    have hjl : j < l.length := (List.getElem?_eq_some_iff.1 hj).1
    obtain ⟨e1, e2, e3⟩ := micsC_get l j m hj
    have hget : ∀ i v, (micsC l)[i]? = some v → W.cell? ⟨g, i, none⟩ = some v := by
      intro i v hi
      rw [← htk, List.getElem?_take] at hi
      split at hi
      · simp only [World.cell?, hh]
        simpa using hi
      · cases hi
    simp only [Nat.zero_add]
    exact ⟨hget _ _ e1, hget _ _ e2, hget _ _ e3⟩
theorem nums_row {W : World} {base : Nat} {v : Value} {l : List Int} (h : W.ownsRow base 22 1 v l.length (l.map (.int .u16))) : Nums W.heap.size W v l := by
  rcases h.2 with ⟨rfl, hn⟩ | ⟨g, cap, cur, rfl, _, hh, hc, hm, hcs, htk⟩
  · have : l = [] := List.eq_nil_of_length_eq_zero hn
    subst this
    exact ⟨none, 0, rfl, Nat.le_refl _, by decide, fun h => absurd rfl h⟩
  · refine ⟨_, cap, rfl, hc, by unfold maxLen at hm; omega, fun _ => ⟨g, 0, rfl, lt_of_block hh, fun j hj => ?_⟩⟩
    have := h.cells (g := g) rfl j (.int .u16 (l.getD j 0)) (by simp [hj, List.getD])
    have ha : ((⟨g, 0, none⟩ : Addr).add j) = ⟨g, 0 + j, none⟩ := by unfold Addr.add; split <;> simp_all
    rw [ha] at this
    exact this
theorem lists_row {W : World} {base : Nat} {v : Value} {us : List Value} {l : List (List Int)} (h : W.ownsRow base 58 1 v l.length us) (hi : Inner base W us l) : Lists W.heap.size W v l := by
  rcases h.2 with ⟨rfl, hn⟩ | ⟨g, cap, cur, rfl, _, hh, hc, hm, hcs, htk⟩
  · have : l = [] := List.eq_nil_of_length_eq_zero hn
    subst this
    exact Lists.nil _ _
  · refine ⟨_, cap, rfl, hc, by unfold maxLen at hm; omega, fun _ => ⟨g, 0, rfl, lt_of_block hh, fun j hj => ⟨us.getD j undef, ?_, nums_row (hi.2 j hj)⟩⟩⟩
    have := h.cells (g := g) rfl j (us.getD j undef) (by simp [List.getD, List.getElem?_eq_getElem (show j < us.length by rw [hi.1]; exact hj)])
    have ha : ((⟨g, 0, none⟩ : Addr).add j) = ⟨g, 0 + j, none⟩ := by unfold Addr.add; split <;> simp_all
    rw [ha] at this
    exact this
/-- The lists of an event that was read stay, whatever becomes of older blocks. -/
def EvKeeps (base : Nat) (W : World) (tx rd : Value) (x : Ev) : Prop := ∀ (F : List Nat) (W' : World), Keeps F W W' → (∀ q ∈ F, q < base) → EvAt W'.heap.size W' tx rd x
theorem wpList_append_run {P : Program} {ops : Array Oper} {rest : List Oper} {o : Oper} {a : Act} {w : World} {Q : Exit → Act → World → Prop} (hgd : o.guard = none) (s x : Operand) (t : TypeId)
    (ho : o.op = .call { callee := .builtin .append, args := #[s, x], argTypes := #[t, t] }) (vs vx v' : Value) (w' : World) (hs : a.eval s = vs) (hx : a.eval x = vx)
    (hr : (Builtin.append_ #[t, t] o.type #[vs, vx]).run P w = .ok v' w') (h : wpList P ops Q rest (a.put o.dst v') w') : wpList P ops Q (o :: rest) a w :=
  wpList_plain hgd fun K hK => wp_append_run s x t ho vs vx v' w' hs hx hr (hK _ _ h)
end Go.Proofs.YtiljdehhjiahdaaGreatDoor
