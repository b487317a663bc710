/-
  A region whose order is drawn, by a fact that each of its operations keeps.
-/
import Derived.Orders
import Derived.Test.YtlaccndjlfpjbaaGreatDoorD01
set_option linter.unusedSimpArgs false
set_option linter.unusedVariables false
namespace Go.Proofs.YtlaccndjlfpjbaaGreatDoor
open Go.RowKit
section
variable {P : Program} {ops : Array Oper} {Q : Exit → Act → World → Prop} {md : Region.Mode}
/-- Each operation waits for earlier ones alone. -/
def earlierB (md : Region.Mode) (ops : Array Oper) : Bool :=
  (List.range ops.size).all fun i => match ops[i]? with
    | some o => o.after.all fun e => !Region.binds md e || decide (e.on < i)
    | none => false
theorem earlier_of (he : earlierB md ops = true) {i : Nat} {o : Oper} (ho : ops[i]? = some o) : ∀ e ∈ o.after, Region.binds md e = true → e.on < i := by
  intro e hm hb
  have hi : i < ops.size := (Array.getElem?_eq_some_iff.1 ho).1
  have h := List.all_eq_true.1 he i (List.mem_range.2 hi)
  simp only [ho, Array.all_eq_true_iff_forall_mem] at h
  have := h e hm
  simpa [hb] using this
/-- Nothing is ready: all have come up. -/
theorem all_listed (he : earlierB md ops = true) {l : Array Bool} (h : Region.ready md ops l = []) : ∀ i, i < ops.size → l.getD i true = true := by
  intro i
  induction i using Nat.strongRecOn with
  | _ i ih =>
    intro hi
    by_cases h0 : l.getD i true = true
    · exact h0
    · exfalso
      have hm : i ∈ Region.ready md ops l := by
        refine mem_ready.2 ⟨by simpa using h0, _, Array.getElem?_eq_getElem hi, fun e hem hb => ?_⟩
        have hlt := earlier_of he (Array.getElem?_eq_getElem hi) e hem hb
        have h1 := ih e.on hlt (by omega)
        rcases Nat.lt_or_ge i l.size with hs | hs
        · have h2 : e.on < l.size := by omega
          simpa [Array.getD, h2] using h1
        · exfalso
          apply h0
          simp [Array.getD, Nat.not_lt.2 hs]
      rw [h] at hm
      cases hm
theorem left_set {l : Array Bool} {i : Nat} (h : l.getD i true = false) : ((l.setIfInBounds i true).toList.filter (!·)).length + 1 = (l.toList.filter (!·)).length := by
  obtain ⟨l⟩ := l
  simp only [List.setIfInBounds_toArray]
  have hi : i < l.length := by
    rcases Nat.lt_or_ge i l.length with h1 | h1
    · exact h1
    · simp [Array.getD, Nat.not_lt.2 h1] at h
  have hv : l[i] = false := by simpa [Array.getD, hi] using h
  clear h
  induction l generalizing i with
  | nil => simp at hi
  | cons x xs ih =>
    cases i with
    | zero => simp at hv; subst hv; simp
    | succ i =>
      have hi' : i < xs.length := by simpa using hi
      have hv' : xs[i] = false := by simpa using hv
      have := ih hi' hv'
      cases x <;> simp [List.set] at this ⊢ <;> omega
theorem wpAny_inv (I : Array Bool → Act → World → Prop) (he : earlierB md ops = true)
    (hstep : ∀ l a w, l.size = ops.size → I l a w → ∀ i o, ops[i]? = some o → l.getD i true = false → (∀ e ∈ o.after, Region.binds md e = true → l.getD e.on false = true) → wpOp P ops Q i (fun a' w' => I (l.setIfInBounds i true) a' w') a w)
    (hdone : ∀ l a w, l.size = ops.size → I l a w → (∀ i, i < ops.size → l.getD i true = true) → Q .normal a w) :
    ∀ fuel l a w, l.size = ops.size → (l.toList.filter (!·)).length ≤ fuel → I l a w → wpAny P md ops Q fuel l a w := by
  intro fuel
  induction fuel with
  | zero =>
    intro l a w hs hf hI
    have hr : Region.ready md ops l = [] := by
      apply List.eq_nil_iff_forall_not_mem.2
      intro i hi
      have h1 := left_set (mem_ready.1 hi).1
      omega
    exact ⟨hr, hdone l a w hs hI (all_listed he hr)⟩
  | succ fuel ih =>
    intro l a w hs hf hI
    refine ⟨fun hr => hdone l a w hs hI (all_listed he hr), fun i hi => ?_⟩
    obtain ⟨h0, o, ho, hall⟩ := mem_ready.1 hi
    refine wpOp_mono (fun a' w' h => ?_) (hstep l a w hs hI i o ho h0 hall)
    have h1 := left_set h0
    exact ih _ a' w' (by simpa using hs) (by omega) h
theorem wp_region_inv {id : Nat} {a : Act} {w : World} (I : Array Bool → Act → World → Prop) (hm : P.follows .mixedOrders = true) (he : earlierB .any ops = true)
    (h0 : I (Array.replicate ops.size false) a { w with drawn := w.drawn + 1 })
    (hstep : ∀ l a w, l.size = ops.size → I l a w → ∀ i o, ops[i]? = some o → l.getD i true = false → (∀ e ∈ o.after, Region.binds .any e = true → l.getD e.on false = true) → wpOp P ops Q i (fun a' w' => I (l.setIfInBounds i true) a' w') a w)
    (hdone : ∀ l a w, l.size = ops.size → I l a w → (∀ i, i < ops.size → l.getD i true = true) → Q .normal a w) : (Code.region id ops true).wp P Q a w :=
  wp_region_any hm (wpAny_inv I he hstep hdone _ _ _ _ (by simp) (by simp) h0)
end
end Go.Proofs.YtlaccndjlfpjbaaGreatDoor
