/-
  Answers: their bytes, their texts, what a text is parsed as; no program.
-/
import Derived.Lib.ParseIntBCases
import Derived.Lib.IndexMore
import Derived.Lib.ItoaMem
import Derived.Test.YtbnhcggjcdipeaaGreatDoorWA01
set_option linter.unusedSimpArgs false
set_option linter.unusedVariables false
namespace Go.Proofs.YtbnhcggjcdipeaaGreatDoor
open Go.RowKit
theorem dec_small {u : Nat} (h : u < 10) : Lib.decDigits u = [UInt8.ofNat (48 + u % 10)] := by rw [Lib.decDigits_one h, Nat.mod_eq_of_lt h]
theorem dec_big {u : Nat} (h : ¬ u < 10) : Lib.decDigits u = Lib.decDigits (u / 10) ++ [UInt8.ofNat (48 + u % 10)] := by rw [Lib.decDigits, dif_neg h]
theorem dec_length_le : ∀ (n u : Nat), u < 10 ^ (n + 1) → (Lib.decDigits u).length ≤ n + 1
  | 0, u, h => by rw [dec_small (by simpa using h)]; simp
  | n + 1, u, h => by
    by_cases hs : u < 10
    · rw [dec_small hs]; simp
    · rw [dec_big hs, List.length_append]
      have := dec_length_le n (u / 10) (by rw [Nat.pow_succ] at h; omega)
      simp; omega
end Go.Proofs.YtbnhcggjcdipeaaGreatDoor
/-
  Operations: their bytes, their words, what bytes and words are read as; no program.
-/
namespace Go.Proofs.YtbnhcggjcdipeaaGreatDoor
open Go.RowKit
structure Opn where
  f : Int
  o : Int
  k : Int
  a : Int
  b : Int
/-- What Go's types allow. -/
structure Opn.In (x : Opn) : Prop where
  f0 : 0 ≤ x.f
  f1 : x.f < 256
  o0 : 0 ≤ x.o
  o1 : x.o < 256
  k0 : 0 ≤ x.k
  k1 : x.k < 256
  a0 : 0 ≤ x.a
  a1 : x.a < 65536
  b0 : 0 ≤ x.b
  b1 : x.b < 65536
def Opn.val (x : Opn) : Value := .agg #[.int .u8 x.f, .int .u8 x.o, .int .u8 x.k, .int .u16 x.a, .int .u16 x.b]
def opIs (f : Int) : Bool := decide (1 ≤ f ∧ f ≤ 11)
def opM (f : Int) : Int := if f = 4 ∨ f = 5 then 1 else if 6 ≤ f ∧ f ≤ 9 then 2 else if f = 10 ∨ f = 11 then 3 else 0
def opK (f : Int) : Bool := decide (6 ≤ f ∧ f ≤ 9)
def opA (f : Int) : Bool := decide (f = 2 ∨ f = 3 ∨ f = 4 ∨ f = 7 ∨ f = 9)
def opB (f : Int) : Bool := decide (f = 3 ∨ f = 9)
def opNm (f : Int) : List UInt8 :=
  if f = 1 then [114, 101, 97, 100] else if f = 2 then [119, 114, 105, 116, 101] else if f = 3 then [99, 97, 115] else if f = 4 then [101, 110, 113] else
  if f = 5 then [100, 101, 113] else if f = 6 then [103, 101, 116] else if f = 7 then [112, 117, 116] else if f = 8 then [100, 101, 108] else
  if f = 9 then [115, 119, 97, 112] else if f = 10 then [97, 99, 113, 117, 105, 114, 101] else if f = 11 then [114, 101, 108, 101, 97, 115, 101] else []
def opGood (x : Opn) : Bool := opIs x.f && decide (x.o < 8) && decide (x.k < 8) && (opK x.f || x.k == 0) && (opA x.f || x.a == 0) && (opB x.f || x.b == 0)
theorem is_cases {f : Int} (h : opIs f = true) : f = 1 ∨ f = 2 ∨ f = 3 ∨ f = 4 ∨ f = 5 ∨ f = 6 ∨ f = 7 ∨ f = 8 ∨ f = 9 ∨ f = 10 ∨ f = 11 := by
  simp [opIs] at h; omega
structure Good (x : Opn) : Prop where
  is : opIs x.f = true
  o : x.o < 8
  k : x.k < 8
  key : opK x.f = true ∨ x.k = 0
  a : opA x.f = true ∨ x.a = 0
  b : opB x.f = true ∨ x.b = 0
theorem good_iff (x : Opn) : opGood x = true ↔ Good x := by
  simp only [opGood, Bool.and_eq_true, Bool.or_eq_true, decide_eq_true_eq, beq_iff_eq]
  exact ⟨fun ⟨⟨⟨⟨⟨h1, h2⟩, h3⟩, h4⟩, h5⟩, h6⟩ => ⟨h1, h2, h3, h4, h5, h6⟩, fun ⟨h1, h2, h3, h4, h5, h6⟩ => ⟨⟨⟨⟨⟨h1, h2⟩, h3⟩, h4⟩, h5⟩, h6⟩⟩
end Go.Proofs.YtbnhcggjcdipeaaGreatDoor
/-
  Operations' words, and what words are parsed as; no program.
-/
namespace Go.Proofs.YtbnhcggjcdipeaaGreatDoor
open Go.RowKit
def dec (n : Int) : List UInt8 := Lib.decDigits n.toNat
theorem bool_two (b : Bool) : b = true ∨ b = false := by cases b <;> simp
end Go.Proofs.YtbnhcggjcdipeaaGreatDoor
/-
  A register, as data; no program.
-/
namespace Go.Proofs.YtbnhcggjcdipeaaGreatDoor
/-- An answer. -/
structure Ans where
  k : Int
  v : Int
deriving DecidableEq
/-- A step: the state behind it, the answer, the error. -/
def rgX (s : Int) (x : Opn) : Int × Ans × Int :=
  if x.f = 1 then (s, ⟨1, s⟩, 0)
  else if x.f = 2 then (x.a, ⟨0, 0⟩, 0)
  else if x.f = 3 then (if s = x.a then (x.b, ⟨3, 0⟩, 0) else (s, ⟨4, 0⟩, 0))
  else (s, ⟨0, 0⟩, 10)
theorem rgX_err (s : Int) (x : Opn) : (rgX s x).2.2 = 0 ∨ (rgX s x).2.2 = 10 := by
  unfold rgX
  split
  · exact .inl rfl
  · split
    · exact .inl rfl
    · split
      · split <;> exact .inl rfl
      · exact .inr rfl
theorem rgX_st {s : Int} {x : Opn} (hs : 0 ≤ s ∧ s < 65536) (hx : x.In) : 0 ≤ (rgX s x).1 ∧ (rgX s x).1 < 65536 := by
  have ha := And.intro hx.a0 hx.a1; have hb := And.intro hx.b0 hx.b1
  unfold rgX
  split
  · exact hs
  · split
    · exact ha
    · split
      · split
        · exact hb
        · exact hs
      · exact hs
/-- The cells of an operation and of an answer. -/
def opC (x : Opn) : List Go.Value := [.int .u8 x.f, .int .u8 x.o, .int .u8 x.k, .int .u16 x.a, .int .u16 x.b]
def ansC (x : Ans) : List Go.Value := [.int .u8 x.k, .int .u16 x.v]
end Go.Proofs.YtbnhcggjcdipeaaGreatDoor
