/-
  Operations: their bytes, their words, what bytes and words are read as; no program.
-/
import Derived.Lib.ParseIntBCases
import Derived.Lib.IndexMore
import Derived.Lib.ItoaMem
import Derived.Test.YtockahocmomdlaaRR01
set_option linter.unusedSimpArgs false
set_option linter.unusedVariables false
namespace Go.Proofs.Ytockahocmomdlaa
open Go.RowKit
structure Opn where
  f : Int
  o : Int
  k : Int
  a : Int
  b : Int
/-- What Go's types allow. -/
structure Opn.In (x : Opn) : Prop where
  f0 : 0 ≤ x.f
  f1 : x.f < 256
  o0 : 0 ≤ x.o
  o1 : x.o < 256
  k0 : 0 ≤ x.k
  k1 : x.k < 256
  a0 : 0 ≤ x.a
  a1 : x.a < 65536
  b0 : 0 ≤ x.b
  b1 : x.b < 65536
def Opn.val (x : Opn) : Value := .agg #[.int .u8 x.f, .int .u8 x.o, .int .u8 x.k, .int .u16 x.a, .int .u16 x.b]
end Go.Proofs.Ytockahocmomdlaa
/-
  A register, as data; no program.
-/
namespace Go.Proofs.Ytockahocmomdlaa
/-- An answer. -/
structure Ans where
  k : Int
  v : Int
deriving DecidableEq
/-- A step: the state behind it, the answer, the error. -/
def rgX (s : Int) (x : Opn) : Int × Ans × Int :=
  if x.f = 1 then (s, ⟨1, s⟩, 0)
  else if x.f = 2 then (x.a, ⟨0, 0⟩, 0)
  else if x.f = 3 then (if s = x.a then (x.b, ⟨3, 0⟩, 0) else (s, ⟨4, 0⟩, 0))
  else (s, ⟨0, 0⟩, 10)
/-- The state behind operations. -/
def rgS (s : Int) : List Opn → Int
  | [] => s
  | x :: l => if (rgX s x).2.2 = 0 then rgS (rgX s x).1 l else s
/-- The answers. -/
def rgL (s : Int) : List Opn → List Ans
  | [] => []
  | x :: l => if (rgX s x).2.2 = 0 then (rgX s x).2.1 :: rgL (rgX s x).1 l else []
/-- The error. -/
def rgE (s : Int) : List Opn → Int
  | [] => 0
  | x :: l => if (rgX s x).2.2 = 0 then rgE (rgX s x).1 l else (rgX s x).2.2
theorem rgX_err (s : Int) (x : Opn) : (rgX s x).2.2 = 0 ∨ (rgX s x).2.2 = 10 := by
  unfold rgX
  split
  · exact .inl rfl
  · split
    · exact .inl rfl
    · split
      · split <;> exact .inl rfl
      · exact .inr rfl
theorem rgX_bad {s : Int} {x : Opn} (h : (rgX s x).2.2 ≠ 0) : rgX s x = (s, ⟨0, 0⟩, 10) := by
  unfold rgX at h ⊢
  split at h
  · exact absurd rfl h
  · rename_i h1
    split at h
    · exact absurd rfl h
    · rename_i h2
      split at h
      · split at h <;> exact absurd rfl h
      · rename_i h3
        rw [if_neg h1, if_neg h2, if_neg h3]
theorem rgS_app (s : Int) : ∀ (l : List Opn) (x : Opn), rgE s l = 0 → rgS s (l ++ [x]) = (rgX (rgS s l) x).1
  | [], x, _ => by
    show (if _ then _ else _) = _
    by_cases h : (rgX s x).2.2 = 0
    · rw [if_pos h]; rfl
    · rw [if_neg h, show rgS s [] = s from rfl, rgX_bad h]
  | y :: l, x, h => by
    by_cases h0 : (rgX s y).2.2 = 0
    · have e : rgE (rgX s y).1 l = 0 := by simpa [rgE, h0] using h
      have := rgS_app (rgX s y).1 l x e
      show (if _ then rgS _ (l ++ [x]) else _) = _
      rw [if_pos h0, this]
      show _ = (rgX (if _ then _ else _) x).1
      rw [if_pos h0]
    · exfalso
      rw [rgE, if_neg h0] at h
      exact h0 h
theorem rgE_app (s : Int) : ∀ (l : List Opn) (x : Opn), rgE s l = 0 → rgE s (l ++ [x]) = (rgX (rgS s l) x).2.2
  | [], x, _ => by
    show (if _ then _ else _) = _
    by_cases h : (rgX s x).2.2 = 0
    · rw [if_pos h]; exact h.symm
    · rw [if_neg h]; rfl
  | y :: l, x, h => by
    by_cases h0 : (rgX s y).2.2 = 0
    · have e : rgE (rgX s y).1 l = 0 := by simpa [rgE, h0] using h
      have := rgE_app (rgX s y).1 l x e
      show (if _ then rgE _ (l ++ [x]) else _) = _
      rw [if_pos h0, this]
      show _ = (rgX (if _ then _ else _) x).2.2
      rw [if_pos h0]
    · exfalso
      rw [rgE, if_neg h0] at h
      exact h0 h
theorem rgL_app (s : Int) : ∀ (l : List Opn) (x : Opn), rgE s l = 0 → rgL s (l ++ [x]) = rgL s l ++ (if (rgX (rgS s l) x).2.2 = 0 then [(rgX (rgS s l) x).2.1] else [])
  | [], x, _ => by
    show (if _ then _ else _) = _
    by_cases h : (rgX s x).2.2 = 0
    · rw [if_pos h, show rgS s [] = s from rfl, if_pos h]; rfl
    · rw [if_neg h, show rgS s [] = s from rfl, if_neg h]; rfl
  | y :: l, x, h => by
    by_cases h0 : (rgX s y).2.2 = 0
    · have e : rgE (rgX s y).1 l = 0 := by simpa [rgE, h0] using h
      have := rgL_app (rgX s y).1 l x e
      show (if _ then _ :: rgL _ (l ++ [x]) else _) = (if _ then _ else _) ++ (if (rgX (if _ then _ else _) x).2.2 = 0 then [(rgX (if _ then _ else _) x).2.1] else [])
      simp only [if_pos h0]
      rw [this]
      rfl
    · exfalso
      rw [rgE, if_neg h0] at h
      exact h0 h
theorem rgE_bad (s : Int) : ∀ (l m : List Opn), rgE s l ≠ 0 → rgE s (l ++ m) = rgE s l ∧ rgS s (l ++ m) = rgS s l ∧ rgL s (l ++ m) = rgL s l
  | [], m, h => absurd rfl h
  | y :: l, m, h => by
    by_cases h0 : (rgX s y).2.2 = 0
    · have e : rgE (rgX s y).1 l ≠ 0 := by simpa [rgE, h0] using h
      obtain ⟨h1, h2, h3⟩ := rgE_bad (rgX s y).1 l m e
      refine ⟨?_, ?_, ?_⟩
      · simp only [List.cons_append, rgE, if_pos h0, h1]
      · simp only [List.cons_append, rgS, if_pos h0, h2]
      · simp only [List.cons_append, rgL, if_pos h0, h3]
    · refine ⟨?_, ?_, ?_⟩
      · simp only [List.cons_append, rgE, if_neg h0]
      · simp only [List.cons_append, rgS, if_neg h0]
      · simp only [List.cons_append, rgL, if_neg h0]
theorem rgL_len (s : Int) : ∀ l : List Opn, (rgL s l).length ≤ l.length ∧ (rgE s l = 0 ↔ (rgL s l).length = l.length)
  | [] => ⟨Nat.le_refl _, by simp [rgE, rgL]⟩
  | x :: l => by
    have ih := rgL_len (rgX s x).1 l
    by_cases h0 : (rgX s x).2.2 = 0
    · simp only [rgL, rgE, if_pos h0, List.length_cons]
      exact ⟨by omega, by rw [ih.2]; omega⟩
    · simp only [rgL, rgE, if_neg h0, List.length_cons, List.length_nil]
      exact ⟨by omega, by constructor <;> intro h <;> first | exact absurd h h0 | omega⟩
/-- The cells of an operation and of an answer. -/
def opC (x : Opn) : List Go.Value := [.int .u8 x.f, .int .u8 x.o, .int .u8 x.k, .int .u16 x.a, .int .u16 x.b]
def ansC (x : Ans) : List Go.Value := [.int .u8 x.k, .int .u16 x.v]
end Go.Proofs.Ytockahocmomdlaa
