/-
  The law of a region that declares several events at once.
-/
import Derived.Test.YtnehnbhdkhgakaaDoorYhM
set_option linter.unusedSimpArgs false
set_option linter.unusedVariables false
namespace Go.Proofs.YtnehnbhdkhgakaaDoor
open Go.RowKit
theorem eval_tmp {a : Act} {t : Nat} {v : Value} (h : a.tmps[t]? = some v) : a.eval (.tmp t) = v := by
  show a.tmps.getD t undef = v
  simp [Array.getD_eq_getD_getElem?, h]
theorem wanted_none {o : Oper} {y : Nat → Option Bool} (h : o.guard = none) : Region.wanted o y = true := by unfold Region.wanted; rw [h]
theorem wp_vars_region {id m vs s0 : Nat} {ops : Array Oper} {V : Nat → Array Value} {a : Act} {w : World} {Q : Exit → Act → World → Prop}
    (hm : Tryd.prog.follows .mixedOrders = true) (he : earlierB .any ops = true) (hn : ops.size = 3 * m)
    (hd : ∀ k k', k < m → k' < m → vs + k ≠ s0 + k') (hb : vs + m ≤ a.tmps.size) (hb2 : s0 + m ≤ a.tmps.size)
    (hV : ∀ k, k < m → (V k).size = 19 ∧ (V k).toList.all (·.oneCell') = true)
    (hval : ∀ k, k < m → ∀ o, ops[k]? = some o → o.guard = none ∧ ∀ (a' : Act) (w' : World) (K : Act → World → Prop), (∀ j, (∀ k, k < m → j ≠ vs + k ∧ j ≠ s0 + k) → a'.tmps[j]? = a.tmps[j]?) → Keeps [] w.drew w' →
      (∀ w'', Keeps [] w' w'' → K (a'.put (some (vs + k)) (.agg (V k))) w'') → o.wp Tryd.prog a' w' K Q)
    (halloc : ∀ k, k < m → ∀ o, ops[m + k]? = some o → o.op = .alloc 32 ∧ o.dst = some (s0 + k) ∧ o.guard = none)
    (hstore : ∀ k, k < m → ∀ o, ops[2 * m + k]? = some o → o.op = .store 32 (.tmp (s0 + k)) (.tmp (vs + k)) ∧ o.dst = none ∧ o.guard = none ∧ (∃ e ∈ o.after, Region.binds .any e = true ∧ e.on = m + k) ∧ (∃ e ∈ o.after, Region.binds .any e = true ∧ e.on = k))
    (hdone : ∀ l a' w', VarsInv m vs s0 V a w.drew l a' w' → (∀ i, i < 3 * m → l.getD i false = true) → Q .normal a' w') : (Code.region id ops true).wp Tryd.prog Q a w := by
  refine wp_region_inv (fun l a' w' => VarsInv m vs s0 V a w.drew l a' w') hm he ?_ ?_ ?_
  · refine ⟨by simp [hn], rfl, rfl, fun _ _ => rfl, Keeps.refl _ _, fun k hk hl => ?_, fun k hk hl => ?_, fun k k' hk hk' hne hl => ?_, fun k hk hl => ?_⟩
    all_goals
      exfalso
      simp [Array.getD] at hl
  · intro l a' w' hsz hI i o ho h0 hall
    have hi : i < 3 * m := by rw [← hn]; exact (Array.getElem?_eq_some_iff.1 ho).1
    unfold wpOp
    simp only [ho]
    by_cases h1 : i < m
    · obtain ⟨hg, hv⟩ := hval i h1 o ho
      rw [if_pos (wanted_none hg)]
      exact .inl (hv a' w' _ hI.out hI.kp fun w'' hw => hI.value hd hb h1 h0 hw)
    · by_cases h2 : i < 2 * m
      · obtain ⟨k, rfl⟩ : ∃ k, i = m + k := ⟨i - m, by omega⟩
        obtain ⟨hop, hdst, hg⟩ := halloc k (by omega) o ho
        rw [if_pos (wanted_none hg)]
        refine .inl (wp_alloc_ev hop ?_)
        rw [hdst]
        exact hI.room hd hb2 (by omega) h0
      · obtain ⟨k, rfl⟩ : ∃ k, i = 2 * m + k := ⟨i - 2 * m, by omega⟩
        have hk : k < m := by omega
        obtain ⟨hop, hdst, hg, ⟨e1, m1, b1, o1⟩, ⟨e2, m2, b2, o2⟩⟩ := hstore k hk o ho
        rw [if_pos (wanted_none hg)]
        have ha := hall e1 m1 b1
        have hv := hall e2 m2 b2
        rw [o1] at ha
        rw [o2] at hv
        obtain ⟨c, c1, c2, c3, c4⟩ := hI.vr k hk ha
        rw [(getD_two h0).1, if_neg (by simp)] at c4
        refine .inl (wp_put_ev' _ _ hop (eval_tmp c1) (eval_tmp (hI.vl k hk hv)) c4 ⟨rfl, (hV k hk).1⟩ (hV k hk).2 ?_)
        intro W hW hkW
        rw [hdst]
        exact hI.stored hk h0 ha c1 c2 hW hkW
  · intro l a' w' hsz hI hall
    refine hdone l a' w' hI (fun i hi => ?_)
    have h := hall i (by omega)
    have hil : i < l.size := by omega
    unfold Array.getD at h ⊢
    rw [dif_pos hil] at h ⊢
    exact h
end Go.Proofs.YtnehnbhdkhgakaaDoor
