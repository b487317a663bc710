/-
  Operations: their bytes, their words, what bytes and words are read as; no program.
-/
import Derived.Test.YtllloahimfkmfaaDoorHa
namespace Go.Proofs.YtllloahimfkmfaaDoor
open Go.RowKit
structure Opn where
  f : Int
  o : Int
  k : Int
  a : Int
  b : Int
/-- What Go's types allow. -/
structure Opn.In (x : Opn) : Prop where
  f0 : 0 ≤ x.f
  f1 : x.f < 256
  o0 : 0 ≤ x.o
  o1 : x.o < 256
  k0 : 0 ≤ x.k
  k1 : x.k < 256
  a0 : 0 ≤ x.a
  a1 : x.a < 65536
  b0 : 0 ≤ x.b
  b1 : x.b < 65536
def Opn.val (x : Opn) : Value := .agg #[.int .u8 x.f, .int .u8 x.o, .int .u8 x.k, .int .u16 x.a, .int .u16 x.b]
def opZero : Opn := ⟨0, 0, 0, 0, 0⟩
def opIs (f : Int) : Bool := decide (1 ≤ f ∧ f ≤ 11)
def opM (f : Int) : Int := if f = 4 ∨ f = 5 then 1 else if 6 ≤ f ∧ f ≤ 9 then 2 else if f = 10 ∨ f = 11 then 3 else 0
def opK (f : Int) : Bool := decide (6 ≤ f ∧ f ≤ 9)
def opA (f : Int) : Bool := decide (f = 2 ∨ f = 3 ∨ f = 4 ∨ f = 7 ∨ f = 9)
def opB (f : Int) : Bool := decide (f = 3 ∨ f = 9)
def opNm (f : Int) : List UInt8 :=
  if f = 1 then [114, 101, 97, 100] else if f = 2 then [119, 114, 105, 116, 101] else if f = 3 then [99, 97, 115] else if f = 4 then [101, 110, 113] else
  if f = 5 then [100, 101, 113] else if f = 6 then [103, 101, 116] else if f = 7 then [112, 117, 116] else if f = 8 then [100, 101, 108] else
  if f = 9 then [115, 119, 97, 112] else if f = 10 then [97, 99, 113, 117, 105, 114, 101] else if f = 11 then [114, 101, 108, 101, 97, 115, 101] else []
def opGood (x : Opn) : Bool := opIs x.f && decide (x.o < 8) && decide (x.k < 8) && (opK x.f || x.k == 0) && (opA x.f || x.a == 0) && (opB x.f || x.b == 0)
theorem is_cases {f : Int} (h : opIs f = true) : f = 1 ∨ f = 2 ∨ f = 3 ∨ f = 4 ∨ f = 5 ∨ f = 6 ∨ f = 7 ∨ f = 8 ∨ f = 9 ∨ f = 10 ∨ f = 11 := by
  simp [opIs] at h; omega
structure Good (x : Opn) : Prop where
  is : opIs x.f = true
  o : x.o < 8
  k : x.k < 8
  key : opK x.f = true ∨ x.k = 0
  a : opA x.f = true ∨ x.a = 0
  b : opB x.f = true ∨ x.b = 0
theorem good_iff (x : Opn) : opGood x = true ↔ Good x := by
  simp only [opGood, Bool.and_eq_true, Bool.or_eq_true, decide_eq_true_eq, beq_iff_eq]
  exact ⟨fun ⟨⟨⟨⟨⟨h1, h2⟩, h3⟩, h4⟩, h5⟩, h6⟩ => ⟨h1, h2, h3, h4, h5, h6⟩, fun ⟨h1, h2, h3, h4, h5, h6⟩ => ⟨⟨⟨⟨⟨h1, h2⟩, h3⟩, h4⟩, h5⟩, h6⟩⟩
/-- An operation's bytes. -/
def opPut (x : Opn) : List Int := [x.f, x.o] ++ (if opK x.f then [x.k] else []) ++ (if opA x.f then [x.a / 256, x.a % 256] else []) ++ (if opB x.f then [x.b / 256, x.b % 256] else [])
def opAtA (f : Int) : Nat := 2 + (if opK f then 1 else 0)
def opAtB (f : Int) : Nat := opAtA f + (if opA f then 2 else 0)
def opLen (f : Int) : Nat := opAtB f + (if opB f then 2 else 0)
/-- What bytes are read as. -/
def tkOp (l : List Int) : Opn :=
  let f := l.getD 0 0
  ⟨f, l.getD 1 0, if opK f then l.getD 2 0 else 0, if opA f then 256 * l.getD (opAtA f) 0 + l.getD (opAtA f + 1) 0 else 0, if opB f then 256 * l.getD (opAtB f) 0 + l.getD (opAtB f + 1) 0 else 0⟩
def tkErr (l : List Int) : Int := if l.length = 0 then 5 else if opIs (l.getD 0 0) = false then 4 else if l.length < opLen (l.getD 0 0) then 5 else if opGood (tkOp l) then 0 else 4
def tkX (l : List Int) : Opn := if tkErr l = 0 then tkOp l else opZero
def byteNum (n : Int) : Prop := 0 ≤ n ∧ n < 256
theorem put_length (x : Opn) : (opPut x).length = opLen x.f := by
  unfold opPut opLen opAtB opAtA
  cases opK x.f <;> cases opA x.f <;> cases opB x.f <;> rfl
theorem put_in {x : Opn} (hx : x.In) : ∀ n ∈ opPut x, byteNum n := by
  obtain ⟨f0, f1, o0, o1, k0, k1, a0, a1, b0, b1⟩ := hx
  intro n hn
  simp only [opPut, List.mem_append, List.mem_cons, List.not_mem_nil, or_false] at hn
  unfold byteNum
  rcases hn with ((hn | hn) | hn) | hn
  · rcases hn with rfl | rfl <;> omega
  · split at hn
    · simp at hn; omega
    · simp at hn
  · split at hn
    · simp at hn; omega
    · simp at hn
  · split at hn
    · simp at hn; omega
    · simp at hn
theorem optk_put {x : Opn} (hx : x.In) (hg : Good x) (t : List Int) : tkOp (opPut x ++ t) = x ∧ tkErr (opPut x ++ t) = 0 := by
  have e : tkOp (opPut x ++ t) = x := by
    obtain ⟨f0, f1, o0, o1, k0, k1, a0, a1, b0, b1⟩ := hx
    obtain ⟨is, go, gk, gkey, ga, gb⟩ := hg
    obtain ⟨f, o, k, a, b⟩ := x
    simp only at *
    have hf : (opPut ⟨f, o, k, a, b⟩ ++ t).getD 0 0 = f := by simp [opPut]
    unfold tkOp
    rw [hf]
    simp only [opPut, opAtA, opAtB] at *
    cases hk : opK f <;> cases ha : opA f <;> cases hb : opB f <;> simp [hk, ha, hb] at gkey ga gb ⊢ <;> omega
  refine ⟨e, ?_⟩
  have hf : (opPut x ++ t).getD 0 0 = x.f := by simp [opPut]
  have hl := put_length x
  have h2 : 2 ≤ opLen x.f := by unfold opLen opAtB opAtA; omega
  unfold tkErr
  rw [if_neg (by rw [List.length_append]; omega), hf, if_neg (by simp [hg.is]), if_neg (by rw [List.length_append]; omega), e, if_pos ((good_iff x).2 hg)]
theorem take_getD (l : List Int) (n : Nat) (h : n ≤ l.length) : l.take n = (List.range n).map fun i => l.getD i 0 := by
  apply List.ext_getElem
  · simp; omega
  · intro i h1 h2
    have h3 : i < l.length := by simp at h1; omega
    simp [List.getElem_take, List.getElem?_eq_getElem h3]
theorem optk_take {l : List Int} (hl : ∀ n ∈ l, byteNum n) (h : tkErr l = 0) : opLen (l.getD 0 0) ≤ l.length ∧ Good (tkOp l) ∧ opPut (tkOp l) = l.take (opLen (l.getD 0 0)) ∧ (tkOp l).f = l.getD 0 0 := by
  unfold tkErr at h
  split at h
  · omega
  · split at h
    · omega
    · split at h
      · omega
      · split at h
        · rename_i h1 h2 h3 h4
          refine ⟨by omega, (good_iff _).1 h4, ?_, rfl⟩
          have hat : ∀ i : Nat, i < l.length → 0 ≤ l.getD i 0 ∧ l.getD i 0 < 256 := fun i hi => by
            rw [List.getD_eq_getElem?_getD, List.getElem?_eq_getElem hi]; exact hl _ (List.getElem_mem _)
          have hn : opLen (l.getD 0 0) ≤ l.length := by omega
          rw [take_getD l _ hn]
          clear h1 h2 h3 h4 hl
          have q0 := hat 0
          have q1 := hat 1
          have q2 := hat 2
          have q3 := hat 3
          have q4 := hat 4
          have q5 := hat 5
          have q6 := hat 6
          clear hat
          unfold opPut tkOp
          simp only
          unfold opLen opAtB opAtA at *
          generalize hF : l.getD 0 0 = F at *
          simp only [List.getD_eq_getElem?_getD] at *
          cases hk : opK F <;> cases ha : opA F <;> cases hb : opB F <;> simp [hk, ha, hb, List.range_succ, hF] at hn ⊢ <;> omega
        · omega
end Go.Proofs.YtllloahimfkmfaaDoor
