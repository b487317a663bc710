/-
  Several blocks that a region makes in whatever order.
-/
import Derived.Deep.RegionHeld3
import Derived.Test.YtjiglbjpmclncaaO04
set_option linter.unusedSimpArgs false
set_option linter.unusedVariables false
namespace Go.Proofs.Ytjiglbjpmclncaa
open Go.RowKit
section
variable {P : Program} {ops : Array Oper} {Q : Exit → Act → World → Prop} {md : Region.Mode} {S : World → Prop}
/-- Just these may come up, and then the others of them. -/
def readyAll (md : Region.Mode) (ops : Array Oper) : Nat → Array Bool → List Nat → Bool
  | 0, _, _ => true
  | n + 1, l, rs => decide (Region.ready md ops l = rs) && rs.all fun i => readyAll md ops n (l.setIfInBounds i true) (rs.erase i)
def dstOf (ops : Array Oper) (i : Nat) : Option Tmp := match ops[i]? with | none => none | some o => o.dst
def ptrTo (f : Nat → Nat) (i : Nat) : Value := .pointer (some ⟨f i, 0, none⟩)
theorem foldl_erase {α β : Type} [BEq α] [LawfulBEq α] (f : β → α → β) (rs : List α) (hn : rs.Nodup) (hc : ∀ x ∈ rs, ∀ y ∈ rs, x ≠ y → ∀ b, f (f b x) y = f (f b y) x) (i : α) (hi : i ∈ rs) (b : β) : (rs.erase i).foldl f (f b i) = rs.foldl f b := by
  induction rs generalizing b with
  | nil => cases hi
  | cons a r ih =>
    obtain ⟨h1, h2⟩ := List.nodup_cons.1 hn
    by_cases e : a = i
    · subst e; simp
    · have hi2 : i ∈ r := by
        rcases List.mem_cons.1 hi with h | h
        · exact absurd h.symm e
        · exact h
      rw [List.erase_cons_tail (by simpa using e)]
      show (r.erase i).foldl f (f (f b i) a) = r.foldl f (f b a)
      rw [hc i (by simp [hi2]) a (by simp) (Ne.symm e) b]
      exact ih h2 (fun x hx y hy => hc x (by simp [hx]) y (by simp [hy])) hi2 (f b a)
theorem wpAnyH_allocs (T : TypeId) (zc : Array Value) (hal : ∀ (o : Oper) (a : Act) (w : World) (K : Act → World → Prop), o.op = .alloc T → K (a.put o.dst (.pointer (some ⟨w.heap.size, 0, none⟩))) (w.alloc (.cells zc T)) → o.wp P a w K Q)
    (hS : ∀ w, S w → S (w.alloc (.cells zc T))) (fuel : Nat) : ∀ (n : Nat) (rs : List Nat) (l : Array Bool) (a : Act) (w : World), rs.length = n → readyAll md ops n l rs = true → rs.Nodup →
    (∀ i ∈ rs, ∃ o d, ops[i]? = some o ∧ o.op = .alloc T ∧ o.guard = none ∧ o.dst = some d) → (∀ i ∈ rs, ∀ j ∈ rs, i ≠ j → dstOf ops i ≠ dstOf ops j) → S w →
    (∀ (f : Nat → Nat) (W : World), S W → Keeps [] w W → (∀ i ∈ rs, w.heap.size ≤ f i ∧ W.heap[f i]? = some (.cells zc T (0, 0))) → (∀ i ∈ rs, ∀ j ∈ rs, i ≠ j → f i ≠ f j) →
      wpAnyH P md ops Q S fuel (rs.foldl (fun l i => l.setIfInBounds i true) l) (rs.foldl (fun a i => a.put (dstOf ops i) (ptrTo f i)) a) W) →
    wpAnyH P md ops Q S (fuel + n) l a w
  | 0, rs, l, a, w, hl, _, _, _, _, hw, hK => by
    obtain rfl : rs = [] := List.eq_nil_of_length_eq_zero hl
    exact hK (fun _ => 0) w hw (Keeps.refl _ _) (by simp) (by simp)
  | n + 1, rs, l, a, w, hl, hr, hn, ho, hd, hw, hK => by
    unfold readyAll at hr
    rw [Bool.and_eq_true] at hr
    obtain ⟨hr1, hr2⟩ := hr
    have hr1 := of_decide_eq_true hr1
    refine wpAnyH_all (rs := rs) hr1 (fun e => by rw [e] at hl; simp at hl) (fun i hi => ?_)
    obtain ⟨o, d, h1, h2, h3, h4⟩ := ho i hi
    have hdi : dstOf ops i = some d := by simp [dstOf, h1, h4]
    unfold wpOp
    rw [h1]
    have hwt : Region.wanted o (yielded ops a.tmps) = true := by unfold Region.wanted; rw [h3]
    simp only [hwt, if_true]
    refine .inl (hal o a w _ h2 ⟨hS w hw, ?_⟩)
    have hsub : ∀ j ∈ rs.erase i, j ∈ rs := fun j hj => List.mem_of_mem_erase hj
    have hne : ∀ j ∈ rs.erase i, j ≠ i := fun j hj e => by subst e; exact (List.Nodup.not_mem_erase hn) hj
    refine wpAnyH_allocs T zc hal hS fuel n (rs.erase i) (l.setIfInBounds i true) (a.put o.dst (.pointer (some ⟨w.heap.size, 0, none⟩))) (w.alloc (.cells zc T)) (by rw [List.length_erase_of_mem hi]; omega)
      (List.all_eq_true.1 hr2 i hi) (hn.erase i) (fun j hj => ho j (hsub j hj)) (fun j hj k hk => hd j (hsub j hj) k (hsub k hk)) (hS w hw) (fun f W hSW hkW hf hff => ?_)
    obtain ⟨f', hf'⟩ : ∃ f' : Nat → Nat, f' = fun j => if j = i then w.heap.size else f j := ⟨_, rfl⟩
    have e0 : f' i = w.heap.size := by rw [hf']; simp
    have e1 : ∀ j ∈ rs.erase i, f' j = f j := fun j hj => by rw [hf']; simp [hne j hj]
    have hlt : ∀ j ∈ rs.erase i, w.heap.size < f j := fun j hj => by have := (hf j hj).1; simp at this; omega
    have hsplit : ∀ j ∈ rs, j = i ∨ j ∈ rs.erase i := fun j hj => by
      by_cases e : j = i
      · exact .inl e
      · exact .inr ((List.mem_erase_of_ne e).2 hj)
    have hka := (Keeps.refl [] w).alloc (.cells zc T)
    have hk := hK f' W hSW (hka.trans hkW (FSub.refl _ _)) (fun j hj => by
        rcases hsplit j hj with rfl | h
        · rw [e0]; exact ⟨Nat.le_refl _, hkW.heap (heap_alloc_new w _) (by simp)⟩
        · rw [e1 j h]; exact ⟨Nat.le_of_lt (hlt j h), (hf j h).2⟩)
      (fun j hj k hk hjk => by
        rcases hsplit j hj with rfl | h
        · rcases hsplit k hk with rfl | h'
          · exact absurd rfl hjk
          · rw [e0, e1 k h']; have := hlt k h'; omega
        · rcases hsplit k hk with rfl | h'
          · rw [e0, e1 j h]; have := hlt j h; omega
          · rw [e1 j h, e1 k h']; exact hff j h k h' hjk)
    rw [← foldl_erase (fun l i => Array.setIfInBounds l i true) rs hn (fun x _ y _ hxy b => Array.setIfInBounds_comm _ _ hxy) i hi l,
      ← foldl_erase (fun a i => Act.put a (dstOf ops i) (ptrTo f' i)) rs hn (fun x hx y hy hxy b => Act.put_comm b _ _ (fun d' hx' hy' => hd x hx y hy hxy (by rw [hx', hy']))) i hi a] at hk
    have e2 : ∀ (R : List Nat) (b : Act), (∀ j ∈ R, f' j = f j) → R.foldl (fun a i => a.put (dstOf ops i) (ptrTo f' i)) b = R.foldl (fun a i => a.put (dstOf ops i) (ptrTo f i)) b := by
      intro R
      induction R with
      | nil => intro b _; rfl
      | cons x r ih =>
        intro b h
        simp only [List.foldl_cons]
        rw [show ptrTo f' x = ptrTo f x by unfold ptrTo; rw [h x (by simp)]]
        exact ih _ (fun j hj => h j (by simp [hj]))
    rw [e2 _ _ e1, hdi] at hk
    rw [h4]
    have e3 : ptrTo f' i = .pointer (some ⟨w.heap.size, 0, none⟩) := by unfold ptrTo; rw [e0]
    rw [e3] at hk
    exact hk
end
end Go.Proofs.Ytjiglbjpmclncaa
/-
  Four blocks that a region makes in whatever order.
-/
namespace Go.Proofs.Ytjiglbjpmclncaa
open Go.RowKit
section
variable {P : Program} {ops : Array Oper} {Q : Exit → Act → World → Prop} {md : Region.Mode} {S : World → Prop}
theorem wpAnyH_alloc4 (T : TypeId) (zc : Array Value) (hal : ∀ (o : Oper) (a : Act) (w : World) (K : Act → World → Prop), o.op = .alloc T → K (a.put o.dst (.pointer (some ⟨w.heap.size, 0, none⟩))) (w.alloc (.cells zc T)) → o.wp P a w K Q)
    (hS : ∀ w, S w → S (w.alloc (.cells zc T))) (fuel i0 i1 i2 i3 d0 d1 d2 d3 : Nat) (l : Array Bool) (a : Act) (w : World) (hr : readyAll md ops 4 l [i0, i1, i2, i3] = true)
    (hi : i0 ≠ i1 ∧ i0 ≠ i2 ∧ i0 ≠ i3 ∧ i1 ≠ i2 ∧ i1 ≠ i3 ∧ i2 ≠ i3) (hd : d0 ≠ d1 ∧ d0 ≠ d2 ∧ d0 ≠ d3 ∧ d1 ≠ d2 ∧ d1 ≠ d3 ∧ d2 ≠ d3)
    (h0 : ∃ o, ops[i0]? = some o ∧ o.op = .alloc T ∧ o.guard = none ∧ o.dst = some d0) (h1 : ∃ o, ops[i1]? = some o ∧ o.op = .alloc T ∧ o.guard = none ∧ o.dst = some d1)
    (h2 : ∃ o, ops[i2]? = some o ∧ o.op = .alloc T ∧ o.guard = none ∧ o.dst = some d2) (h3 : ∃ o, ops[i3]? = some o ∧ o.op = .alloc T ∧ o.guard = none ∧ o.dst = some d3) (hw : S w)
    (hK : ∀ (q0 q1 q2 q3 : Nat) (W : World), S W → Keeps [] w W → (w.heap.size ≤ q0 ∧ W.heap[q0]? = some (.cells zc T (0, 0))) → (w.heap.size ≤ q1 ∧ W.heap[q1]? = some (.cells zc T (0, 0))) → (w.heap.size ≤ q2 ∧ W.heap[q2]? = some (.cells zc T (0, 0))) → (w.heap.size ≤ q3 ∧ W.heap[q3]? = some (.cells zc T (0, 0))) →
      (q0 ≠ q1 ∧ q0 ≠ q2 ∧ q0 ≠ q3 ∧ q1 ≠ q2 ∧ q1 ≠ q3 ∧ q2 ≠ q3) →
      wpAnyH P md ops Q S fuel ((((l.setIfInBounds i0 true).setIfInBounds i1 true).setIfInBounds i2 true).setIfInBounds i3 true)
        ((((a.put (some d0) (.pointer (some ⟨q0, 0, none⟩))).put (some d1) (.pointer (some ⟨q1, 0, none⟩))).put (some d2) (.pointer (some ⟨q2, 0, none⟩))).put (some d3) (.pointer (some ⟨q3, 0, none⟩))) W) :
    wpAnyH P md ops Q S (fuel + 4) l a w := by
  obtain ⟨o0, a0, b0, c0, e0⟩ := h0
  obtain ⟨o1, a1, b1, c1, e1⟩ := h1
  obtain ⟨o2, a2, b2, c2, e2⟩ := h2
  obtain ⟨o3, a3, b3, c3, e3⟩ := h3
  obtain ⟨j0, j1, j2, j3, j4, j5⟩ := hi
  obtain ⟨k0, k1, k2, k3, k4, k5⟩ := hd
  have f0 : dstOf ops i0 = some d0 := by simp [dstOf, a0, e0]
  have f1 : dstOf ops i1 = some d1 := by simp [dstOf, a1, e1]
  have f2 : dstOf ops i2 = some d2 := by simp [dstOf, a2, e2]
  have f3 : dstOf ops i3 = some d3 := by simp [dstOf, a3, e3]
  refine wpAnyH_allocs T zc hal hS fuel 4 [i0, i1, i2, i3] l a w rfl hr (by simp [j0, j1, j2, j3, j4, j5]) ?_ ?_ hw (fun f W hSW hkW hf hff => ?_)
  · intro i hi
    simp only [List.mem_cons, List.not_mem_nil, or_false] at hi
    rcases hi with rfl | rfl | rfl | rfl
    · exact ⟨_, _, a0, b0, c0, e0⟩
    · exact ⟨_, _, a1, b1, c1, e1⟩
    · exact ⟨_, _, a2, b2, c2, e2⟩
    · exact ⟨_, _, a3, b3, c3, e3⟩
  · intro i hi j hj hij
    simp only [List.mem_cons, List.not_mem_nil, or_false] at hi hj
    rcases hi with rfl | rfl | rfl | rfl <;> rcases hj with rfl | rfl | rfl | rfl <;> first | exact absurd rfl hij | (simp only [f0, f1, f2, f3, ne_eq, Option.some.injEq]; first | assumption | (apply Ne.symm; assumption))
  · have := hK (f i0) (f i1) (f i2) (f i3) W hSW hkW (hf i0 (by simp)) (hf i1 (by simp)) (hf i2 (by simp)) (hf i3 (by simp))
      ⟨hff i0 (by simp) i1 (by simp) j0, hff i0 (by simp) i2 (by simp) j1, hff i0 (by simp) i3 (by simp) j2, hff i1 (by simp) i2 (by simp) j3, hff i1 (by simp) i3 (by simp) j4, hff i2 (by simp) i3 (by simp) j5⟩
    simp only [List.foldl_cons, List.foldl_nil, f0, f1, f2, f3, ptrTo]
    exact this
end
end Go.Proofs.Ytjiglbjpmclncaa
