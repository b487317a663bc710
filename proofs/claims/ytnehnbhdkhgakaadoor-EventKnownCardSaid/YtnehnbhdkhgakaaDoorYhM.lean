/-
  A statement that declares several events at once: a region whose order is drawn.
-/
import Derived.Test.YtnehnbhdkhgakaaDoorWgM
import Derived.Test.YtnehnbhdkhgakaaDoorG33
import Derived.Laws.Tables
set_option linter.unusedSimpArgs false
set_option linter.unusedVariables false
namespace Go.Proofs.YtnehnbhdkhgakaaDoor
open Go.RowKit
def evNil : Array Value := evC evZero (.slice none 0 0) (.slice none 0 0)
theorem gset_ne {l : Array Bool} {i j : Nat} (h : i ≠ j) (b : Bool) : (l.setIfInBounds i true).getD j b = l.getD j b := by
  unfold Array.getD
  by_cases hj : j < l.size
  · have hj2 : j < (l.setIfInBounds i true).size := by simpa using hj
    rw [dif_pos hj, dif_pos hj2]
    show (l.setIfInBounds i true)[j]'hj2 = l[j]'hj
    rw [Array.getElem_setIfInBounds, if_neg h]
  · have hj2 : ¬ j < (l.setIfInBounds i true).size := by simpa using hj
    rw [dif_neg hj, dif_neg hj2]
theorem gset_eq {l : Array Bool} {i : Nat} (hi : i < l.size) (b : Bool) : (l.setIfInBounds i true).getD i b = true := by
  unfold Array.getD
  have hj2 : i < (l.setIfInBounds i true).size := by simpa using hi
  rw [dif_pos hj2]
  simp
theorem tset_ne {l : Array Value} {i j : Nat} (h : i ≠ j) (v : Value) : (l.setIfInBounds i v)[j]? = l[j]? := by
  rw [Array.getElem?_setIfInBounds, if_neg h]
theorem tset_eq {l : Array Value} {i : Nat} (hi : i < l.size) (v : Value) : (l.setIfInBounds i v)[i]? = some v := by
  simp [hi]
structure VarsInv (m vs s0 : Nat) (V : Nat → Array Value) (a0 : Act) (w0 : World) (l : Array Bool) (a : Act) (w : World) : Prop where
  ls : l.size = 3 * m
  df : a.defers = a0.defers
  sz : a.tmps.size = a0.tmps.size
  out : ∀ j, (∀ k, k < m → j ≠ vs + k ∧ j ≠ s0 + k) → a.tmps[j]? = a0.tmps[j]?
  kp : Keeps [] w0 w
  vl : ∀ k, k < m → l.getD k false = true → a.tmps[vs + k]? = some (.agg (V k))
  vr : ∀ k, k < m → l.getD (m + k) false = true → ∃ c, a.tmps[s0 + k]? = some (.pointer (some ⟨c, 0, none⟩)) ∧ w0.heap.size ≤ c ∧ c < w.heap.size ∧ w.heap[c]? = some (.cells (if l.getD (2 * m + k) false then V k else evNil) 32)
  ap : ∀ k k', k < m → k' < m → k ≠ k' → l.getD (m + k) false = true → l.getD (m + k') false = true → a.tmps[s0 + k]? ≠ a.tmps[s0 + k']?
  st : ∀ k, k < m → l.getD (2 * m + k) false = true → l.getD (m + k) false = true
theorem getD_two {l : Array Bool} {i : Nat} (h : l.getD i true = false) : l.getD i false = false ∧ i < l.size := by
  by_cases hi : i < l.size
  · refine ⟨?_, hi⟩
    simp [Array.getD, hi] at h ⊢; exact h
  · simp [Array.getD, hi] at h
variable {m vs s0 : Nat} {V : Nat → Array Value} {a0 a : Act} {w0 w : World} {l : Array Bool}
theorem VarsInv.value (h : VarsInv m vs s0 V a0 w0 l a w) (hd : ∀ k k', k < m → k' < m → vs + k ≠ s0 + k') (hb : vs + m ≤ a0.tmps.size) {k : Nat} (hk : k < m) (h0 : l.getD k true = false) {w' : World} (hw : Keeps [] w w') :
    VarsInv m vs s0 V a0 w0 (l.setIfInBounds k true) (a.put (some (vs + k)) (.agg (V k))) w' := by
  obtain ⟨h1, h2⟩ := getD_two h0
  have hsz := h.sz
  have hin : vs + k < a.tmps.size := by omega
  refine ⟨by simp [h.ls], h.df, by simp [Act.put, h.sz], fun j hj => ?_, h.kp.trans hw (FSub.refl _ _), fun k' hk' hl => ?_, fun k' hk' hl => ?_, fun k' k'' hk' hk'' hne e1 e2 => ?_, fun k' hk' hl => ?_⟩
  · show (a.tmps.setIfInBounds (vs + k) _)[j]? = _
    rw [tset_ne (fun e => (hj k hk).1 e.symm)]
    exact h.out j hj
  · show (a.tmps.setIfInBounds (vs + k) _)[vs + k']? = _
    by_cases e : k = k'
    · subst e; exact tset_eq hin _
    · rw [gset_ne e] at hl
      rw [tset_ne (by omega)]
      exact h.vl k' hk' hl
  · rw [gset_ne (by omega)] at hl
    obtain ⟨c, c1, c2, c3, c4⟩ := h.vr k' hk' hl
    refine ⟨c, ?_, c2, Nat.lt_of_lt_of_le c3 hw.size, ?_⟩
    · show (a.tmps.setIfInBounds (vs + k) _)[s0 + k']? = _
      rw [tset_ne (hd k k' hk hk')]; exact c1
    · rw [gset_ne (by omega)]; exact hw.heap c4 (by simp)
  · rw [gset_ne (by omega)] at e1 e2
    show (a.tmps.setIfInBounds (vs + k) _)[s0 + k']? ≠ (a.tmps.setIfInBounds (vs + k) _)[s0 + k'']?
    rw [tset_ne (hd k k' hk hk'), tset_ne (hd k k'' hk hk'')]
    exact h.ap k' k'' hk' hk'' hne e1 e2
  · rw [gset_ne (by omega)] at hl
    rw [gset_ne (by omega)]
    exact h.st k' hk' hl
theorem VarsInv.room (h : VarsInv m vs s0 V a0 w0 l a w) (hd : ∀ k k', k < m → k' < m → vs + k ≠ s0 + k') (hb : s0 + m ≤ a0.tmps.size) {k : Nat} (hk : k < m) (h0 : l.getD (m + k) true = false) :
    VarsInv m vs s0 V a0 w0 (l.setIfInBounds (m + k) true) (a.put (some (s0 + k)) (.pointer (some ⟨w.heap.size, 0, none⟩))) (w.alloc (.cells evNil 32)) := by
  obtain ⟨h1, h2⟩ := getD_two h0
  have hsz := h.sz
  have hin : s0 + k < a.tmps.size := by omega
  have hws : (w.alloc (.cells evNil 32)).heap.size = w.heap.size + 1 := by simp
  refine ⟨by simp [h.ls], h.df, by simp [Act.put, h.sz], fun j hj => ?_, h.kp.alloc _, fun k' hk' hl => ?_, fun k' hk' hl => ?_, fun k' k'' hk' hk'' hne e1 e2 => ?_, fun k' hk' hl => ?_⟩
  · show (a.tmps.setIfInBounds (s0 + k) _)[j]? = _
    rw [tset_ne (fun e => (hj k hk).2 e.symm)]
    exact h.out j hj
  · rw [gset_ne (by omega)] at hl
    show (a.tmps.setIfInBounds (s0 + k) _)[vs + k']? = _
    rw [tset_ne (fun e => hd k' k hk' hk e.symm)]
    exact h.vl k' hk' hl
  · show ∃ c, (a.tmps.setIfInBounds (s0 + k) _)[s0 + k']? = _ ∧ _
    by_cases e : k = k'
    · subst e
      have hns : l.getD (2 * m + k) false = false := by
        cases hq : l.getD (2 * m + k) false with
        | false => rfl
        | true => have := h.st k hk hq; rw [h1] at this; cases this
      refine ⟨w.heap.size, tset_eq hin _, h.kp.size, by omega, ?_⟩
      rw [gset_ne (by omega), hns]
      exact heap_alloc_new w _
    · rw [gset_ne (by omega)] at hl
      obtain ⟨c, c1, c2, c3, c4⟩ := h.vr k' hk' hl
      refine ⟨c, ?_, c2, by omega, ?_⟩
      · rw [tset_ne (by omega)]; exact c1
      · rw [gset_ne (by omega)]; exact heap_alloc_lt c4
  · show (a.tmps.setIfInBounds (s0 + k) _)[s0 + k']? ≠ (a.tmps.setIfInBounds (s0 + k) _)[s0 + k'']?
    by_cases q1 : k = k'
    · subst q1
      rw [gset_ne (by omega)] at e2
      obtain ⟨c, c1, c2, c3, c4⟩ := h.vr k'' hk'' e2
      rw [tset_eq hin, tset_ne (by omega), c1]
      intro e
      first | (simp at e; done) | (simp at e; omega)
    · rw [gset_ne (by omega)] at e1
      by_cases q2 : k = k''
      · subst q2
        obtain ⟨c, c1, c2, c3, c4⟩ := h.vr k' hk' e1
        rw [tset_ne (by omega), tset_eq hin, c1]
        intro e
        first | (simp at e; done) | (simp at e; omega)
      · rw [gset_ne (by omega)] at e2
        rw [tset_ne (by omega), tset_ne (by omega)]
        exact h.ap k' k'' hk' hk'' hne e1 e2
  · rw [gset_ne (by omega)] at hl
    have := h.st k' hk' hl
    by_cases q : k = k'
    · subst q; exact gset_eq h2 _
    · rw [gset_ne (by omega)]; exact this
theorem VarsInv.stored (h : VarsInv m vs s0 V a0 w0 l a w) {k : Nat} (hk : k < m) (h0 : l.getD (2 * m + k) true = false) (ha : l.getD (m + k) false = true) {c : Nat} (hc : a.tmps[s0 + k]? = some (.pointer (some ⟨c, 0, none⟩))) (hc0 : w0.heap.size ≤ c) {w' : World}
    (hw : w'.heap[c]? = some (.cells (V k) 32)) (hkp : Keeps [c] w w') : VarsInv m vs s0 V a0 w0 (l.setIfInBounds (2 * m + k) true) (a.put none undef) w' := by
  obtain ⟨h1, h2⟩ := getD_two h0
  refine ⟨by simp [h.ls], h.df, h.sz, h.out, h.kp.trans hkp (fun g hg => .inr (by simp at hg; omega)), fun k' hk' hl => ?_, fun k' hk' hl => ?_, fun k' k'' hk' hk'' hne e1 e2 => ?_, fun k' hk' hl => ?_⟩
  · rw [gset_ne (by omega)] at hl
    exact h.vl k' hk' hl
  · rw [gset_ne (by omega)] at hl
    obtain ⟨c', c1, c2, c3, c4⟩ := h.vr k' hk' hl
    refine ⟨c', c1, c2, Nat.lt_of_lt_of_le c3 hkp.size, ?_⟩
    by_cases e : k = k'
    · subst e
      rw [gset_eq h2]
      have := hc.symm.trans c1
      simp at this
      subst this
      exact hw
    · rw [gset_ne (by omega)]
      refine hkp.heap c4 (fun hq => ?_)
      simp at hq
      subst hq
      exact h.ap k k' hk hk' e ha hl (hc.trans c1.symm)
  · rw [gset_ne (by omega)] at e1 e2
    exact h.ap k' k'' hk' hk'' hne e1 e2
  · rw [gset_ne (by omega)]
    by_cases e : k = k'
    · subst e; exact ha
    · rw [gset_ne (by omega)] at hl
      exact h.st k' hk' hl
/-- An alloc of an event; a store of a whole one. -/
theorem wp_alloc_ev {o : Oper} {a : Act} {w : World} {K : Act → World → Prop} {Q : Exit → Act → World → Prop} (ho : o.op = .alloc 32) (h : K (a.put o.dst (.pointer (some ⟨w.heap.size, 0, none⟩))) (w.alloc (.cells evNil 32))) : o.wp Tryd.prog a w K Q := by
  unfold Oper.wp execOp
  simp only [ho]
  have hz : (Instr.alloc 32 true (.tuple #[])).run Tryd.prog w = .ok (.pointer (some ⟨w.heap.size, 0, none⟩)) (w.alloc (.cells evNil 32)) := by
    go_simp
    try rfl
  simp only [Sem.run_bind, Sem.run_pure, hz, Result.andThen_ok]
  exact h
theorem wp_put_ev' {o : Oper} {a : Act} {w : World} {K : Act → World → Prop} {Q : Exit → Act → World → Prop} (x y : Operand) {g : Nat} {old cells : Array Value} {t : TypeId}
    (ho : o.op = .store 32 x y) (hx : a.eval x = .pointer (some ⟨g, 0, none⟩)) (hy : a.eval y = .agg cells) (hg : w.heap[g]? = some (.cells old t (0, 0))) (hs : old.size = 19 ∧ cells.size = 19)
    (h1 : cells.toList.all (·.oneCell') = true) (h : ∀ W, W.heap[g]? = some (.cells cells t (0, 0)) → Keeps [g] w W → K (a.put o.dst undef) W) : o.wp Tryd.prog a w K Q :=
  wp_store_row 32 x y ho g cells hx hy t old hg (by rw [hs.2]; kernel_rfl) (by rw [hs.1, hs.2]) (by rw [← Array.all_toList]; exact h1) (h _ (setRow_heap w g old cells t (0, 0) hg) ((Keeps.refl [g] w).setRow g cells (.inl (by simp))))
end Go.Proofs.YtnehnbhdkhgakaaDoor
