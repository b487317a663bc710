/-
  A model's steps, one behind the other, as data; a queue, as data; no program.
-/
import Derived.Shelf.Lay
import Derived.Shelf.LaySoft
import Derived.Test.YtnmpekbkahkapaaProg
import Derived.Laws.ResultCell
import Derived.Test.YtnmpekbkahkapaaKA02
import Derived.Test.YtnmpekbkahkapaaKA03
set_option linter.unusedSimpArgs false
set_option linter.unusedVariables false
namespace Go.Proofs.Ytnmpekbkahkapaa
section
variable {σ : Type} (X : σ → Opn → σ × Ans × Int)
/-- The state behind operations, the answers, the error. -/
def stS (s : σ) : List Opn → σ
  | [] => s
  | x :: l => if (X s x).2.2 = 0 then stS (X s x).1 l else s
def stL (s : σ) : List Opn → List Ans
  | [] => []
  | x :: l => if (X s x).2.2 = 0 then (X s x).2.1 :: stL (X s x).1 l else []
def stE (s : σ) : List Opn → Int
  | [] => 0
  | x :: l => if (X s x).2.2 = 0 then stE (X s x).1 l else (X s x).2.2
theorem stE_app : ∀ (s : σ) (l m : List Opn), stE X s l = 0 → stE X s (l ++ m) = stE X (stS X s l) m ∧ stS X s (l ++ m) = stS X (stS X s l) m ∧ stL X s (l ++ m) = stL X s l ++ stL X (stS X s l) m
  | s, [], m, _ => ⟨rfl, rfl, rfl⟩
  | s, y :: l, m, h => by
    by_cases h0 : (X s y).2.2 = 0
    · have e : stE X (X s y).1 l = 0 := by simpa [stE, h0] using h
      obtain ⟨h1, h2, h3⟩ := stE_app (X s y).1 l m e
      refine ⟨?_, ?_, ?_⟩
      · simp only [List.cons_append, stE, stS, if_pos h0, h1]
      · simp only [List.cons_append, stS, if_pos h0, h2]
      · simp only [List.cons_append, stL, stS, if_pos h0, h3]
    · exfalso
      rw [stE, if_neg h0] at h
      exact h0 h
theorem stE_bad : ∀ (s : σ) (l m : List Opn), stE X s l ≠ 0 → stE X s (l ++ m) = stE X s l ∧ stS X s (l ++ m) = stS X s l ∧ stL X s (l ++ m) = stL X s l
  | s, [], m, h => absurd rfl h
  | s, y :: l, m, h => by
    by_cases h0 : (X s y).2.2 = 0
    · have e : stE X (X s y).1 l ≠ 0 := by simpa [stE, h0] using h
      obtain ⟨h1, h2, h3⟩ := stE_bad (X s y).1 l m e
      refine ⟨?_, ?_, ?_⟩
      · simp only [List.cons_append, stE, if_pos h0, h1]
      · simp only [List.cons_append, stS, if_pos h0, h2]
      · simp only [List.cons_append, stL, if_pos h0, h3]
    · refine ⟨?_, ?_, ?_⟩
      · simp only [List.cons_append, stE, if_neg h0]
      · simp only [List.cons_append, stS, if_neg h0]
      · simp only [List.cons_append, stL, if_neg h0]
/-- One step more. -/
theorem st_next {s : σ} {l : List Opn} {k : Nat} (hk : k < l.length) (h : stE X s (l.take k) = 0) :
    stE X s (l.take (k + 1)) = (X (stS X s (l.take k)) l[k]).2.2 ∧
    stS X s (l.take (k + 1)) = (if (X (stS X s (l.take k)) l[k]).2.2 = 0 then (X (stS X s (l.take k)) l[k]).1 else stS X s (l.take k)) ∧
    stL X s (l.take (k + 1)) = stL X s (l.take k) ++ (if (X (stS X s (l.take k)) l[k]).2.2 = 0 then [(X (stS X s (l.take k)) l[k]).2.1] else []) := by
  rw [List.take_add_one, List.getElem?_eq_getElem hk, Option.toList_some]
  obtain ⟨h1, h2, h3⟩ := stE_app X s (l.take k) [l[k]] h
  rw [h1, h2, h3]
  have e1 : ∀ t x, stS X t [x] = if (X t x).2.2 = 0 then (X t x).1 else t := fun _ _ => rfl
  have e2 : ∀ t x, stE X t [x] = if (X t x).2.2 = 0 then 0 else (X t x).2.2 := fun _ _ => rfl
  have e3 : ∀ t x, stL X t [x] = if (X t x).2.2 = 0 then [(X t x).2.1] else [] := fun _ _ => rfl
  rw [e1, e2, e3]
  refine ⟨?_, rfl, rfl⟩
  split
  · rename_i e; exact e.symm
  · rfl
/-- The first step that is refused. -/
theorem st_stop {s : σ} {l : List Opn} {k : Nat} (hk : k < l.length) (h : stE X s (l.take k) = 0) (he : (X (stS X s (l.take k)) l[k]).2.2 ≠ 0) :
    stE X s l = (X (stS X s (l.take k)) l[k]).2.2 ∧ stS X s l = stS X s (l.take k) ∧ stL X s l = stL X s (l.take k) := by
  obtain ⟨h1, h2, h3⟩ := st_next X hk h
  have hb := stE_bad X s (l.take (k + 1)) (l.drop (k + 1)) (by rw [h1]; exact he)
  rw [List.take_append_drop] at hb
  refine ⟨?_, ?_, ?_⟩
  · rw [hb.1, h1]
  · rw [hb.2.1, h2, if_neg he]
  · rw [hb.2.2, h3, if_neg he, List.append_nil]
theorem stL_len : ∀ (s : σ) (l : List Opn), (stL X s l).length ≤ l.length ∧ (stE X s l = 0 ↔ (stL X s l).length = l.length)
  | s, [] => ⟨Nat.le_refl _, by simp [stE, stL]⟩
  | s, x :: l => by
    have ih := stL_len (X s x).1 l
    by_cases h0 : (X s x).2.2 = 0
    · simp only [stL, stE, if_pos h0, List.length_cons]
      exact ⟨by omega, by rw [ih.2]; omega⟩
    · simp only [stL, stE, if_neg h0, List.length_cons, List.length_nil]
      exact ⟨by omega, by constructor <;> intro h <;> first | exact absurd h h0 | omega⟩
theorem stL_few {s : σ} {l : List Opn} (k : Nat) : (stL X s (l.take k)).length ≤ l.length := Nat.le_trans (stL_len X s _).1 (by rw [List.length_take]; omega)
/-- What each step keeps, all keep. -/
theorem stS_inv {I : σ → Prop} (H : ∀ s x, I s → x.In → I (X s x).1) : ∀ (s : σ) (l : List Opn), I s → (∀ x ∈ l, x.In) → I (stS X s l)
  | s, [], h, _ => h
  | s, x :: l, h, hl => by
    unfold stS
    split
    · exact stS_inv H _ l (H s x h (hl x (by simp))) (fun y hy => hl y (by simp [hy]))
    · exact h
end
end Go.Proofs.Ytnmpekbkahkapaa
