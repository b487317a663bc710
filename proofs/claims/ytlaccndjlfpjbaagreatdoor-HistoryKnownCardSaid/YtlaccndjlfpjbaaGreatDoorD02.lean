/-
  Answers: their bytes, their texts, what a text is parsed as; no program.
-/
import Derived.Lib.ParseIntBCases
import Derived.Lib.IndexMore
import Derived.Lib.ItoaMem
import Derived.Test.YtlaccndjlfpjbaaGreatDoorD01
set_option linter.unusedSimpArgs false
set_option linter.unusedVariables false
namespace Go.Proofs.YtlaccndjlfpjbaaGreatDoor
open Go.RowKit
/-- Is an answer valid? -/
def rsGood (k v : Int) : Bool := k == 1 || (decide (k ≤ 4) && v == 0)
def rsErr (k v : Int) : Int := if rsGood k v then 0 else 4
theorem rsErr_good {k v : Int} (h : rsGood k v = true) : rsErr k v = 0 := by simp [rsErr, h]
theorem rsErr_bad {k v : Int} (h : rsGood k v = false) : rsErr k v = 4 := by simp [rsErr, h]
end Go.Proofs.YtlaccndjlfpjbaaGreatDoor
/-
  Operations: their bytes, their words, what bytes and words are read as; no program.
-/
namespace Go.Proofs.YtlaccndjlfpjbaaGreatDoor
open Go.RowKit
structure Opn where
  f : Int
  o : Int
  k : Int
  a : Int
  b : Int
/-- What Go's types allow. -/
structure Opn.In (x : Opn) : Prop where
  f0 : 0 ≤ x.f
  f1 : x.f < 256
  o0 : 0 ≤ x.o
  o1 : x.o < 256
  k0 : 0 ≤ x.k
  k1 : x.k < 256
  a0 : 0 ≤ x.a
  a1 : x.a < 65536
  b0 : 0 ≤ x.b
  b1 : x.b < 65536
def Opn.val (x : Opn) : Value := .agg #[.int .u8 x.f, .int .u8 x.o, .int .u8 x.k, .int .u16 x.a, .int .u16 x.b]
def opZero : Opn := ⟨0, 0, 0, 0, 0⟩
def opIs (f : Int) : Bool := decide (1 ≤ f ∧ f ≤ 11)
def opM (f : Int) : Int := if f = 4 ∨ f = 5 then 1 else if 6 ≤ f ∧ f ≤ 9 then 2 else if f = 10 ∨ f = 11 then 3 else 0
def opK (f : Int) : Bool := decide (6 ≤ f ∧ f ≤ 9)
def opA (f : Int) : Bool := decide (f = 2 ∨ f = 3 ∨ f = 4 ∨ f = 7 ∨ f = 9)
def opB (f : Int) : Bool := decide (f = 3 ∨ f = 9)
def opNm (f : Int) : List UInt8 :=
  if f = 1 then [114, 101, 97, 100] else if f = 2 then [119, 114, 105, 116, 101] else if f = 3 then [99, 97, 115] else if f = 4 then [101, 110, 113] else
  if f = 5 then [100, 101, 113] else if f = 6 then [103, 101, 116] else if f = 7 then [112, 117, 116] else if f = 8 then [100, 101, 108] else
  if f = 9 then [115, 119, 97, 112] else if f = 10 then [97, 99, 113, 117, 105, 114, 101] else if f = 11 then [114, 101, 108, 101, 97, 115, 101] else []
def opGood (x : Opn) : Bool := opIs x.f && decide (x.o < 8) && decide (x.k < 8) && (opK x.f || x.k == 0) && (opA x.f || x.a == 0) && (opB x.f || x.b == 0)
structure Good (x : Opn) : Prop where
  is : opIs x.f = true
  o : x.o < 8
  k : x.k < 8
  key : opK x.f = true ∨ x.k = 0
  a : opA x.f = true ∨ x.a = 0
  b : opB x.f = true ∨ x.b = 0
theorem good_iff (x : Opn) : opGood x = true ↔ Good x := by
  simp only [opGood, Bool.and_eq_true, Bool.or_eq_true, decide_eq_true_eq, beq_iff_eq]
  exact ⟨fun ⟨⟨⟨⟨⟨h1, h2⟩, h3⟩, h4⟩, h5⟩, h6⟩ => ⟨h1, h2, h3, h4, h5, h6⟩, fun ⟨h1, h2, h3, h4, h5, h6⟩ => ⟨⟨⟨⟨⟨h1, h2⟩, h3⟩, h4⟩, h5⟩, h6⟩⟩
/-- An operation's bytes. -/
def opPut (x : Opn) : List Int := [x.f, x.o] ++ (if opK x.f then [x.k] else []) ++ (if opA x.f then [x.a / 256, x.a % 256] else []) ++ (if opB x.f then [x.b / 256, x.b % 256] else [])
end Go.Proofs.YtlaccndjlfpjbaaGreatDoor
/-
  Operations' words, and what words are parsed as; no program.
-/
namespace Go.Proofs.YtlaccndjlfpjbaaGreatDoor
open Go.RowKit
theorem bool_two (b : Bool) : b = true ∨ b = false := by cases b <;> simp
end Go.Proofs.YtlaccndjlfpjbaaGreatDoor
/-
  Events: which are valid, what their bytes are; no program.
-/
namespace Go.Proofs.YtlaccndjlfpjbaaGreatDoor
open Go.RowKit
structure Mic where
  rd : Bool
  key : Int
  v : Int
structure Cfg where
  m : Int
  mo : Int
  ms : Int
  mt : Int
  p : Bool
  cu : Bool
  me : Bool
structure Ev where
  k : Int
  c : Int
  id : Int
  o : Opn
  rk : Int
  rv : Int
  t : List Mic
  r : List (List Int)
  g : Cfg
def cfgZero : Cfg := ⟨0, 0, 0, 0, false, false, false⟩
def evZero : Ev := ⟨0, 0, 0, opZero, 0, 0, [], [], cfgZero⟩
/-- The cells of an event, its lists as they lie in memory. -/
def evC (x : Ev) (tx rd : Value) : Array Value :=
  #[.int .u8 x.k, .int .u8 x.c, .int .u16 x.id, .int .u8 x.o.f, .int .u8 x.o.o, .int .u8 x.o.k, .int .u16 x.o.a, .int .u16 x.o.b, .int .u8 x.rk, .int .u16 x.rv, tx, rd,
    .int .u8 x.g.m, .int .i64 x.g.mo, .int .i64 x.g.ms, .int .i64 x.g.mt, .bool x.g.p, .bool x.g.cu, .bool x.g.me]
/-- What Go's types allow. -/
structure Mic.In (m : Mic) : Prop where
  k0 : 0 ≤ m.key
  k1 : m.key < 256
  v0 : 0 ≤ m.v
  v1 : m.v < 65536
structure Ev.In (x : Ev) : Prop where
  k0 : 0 ≤ x.k
  k1 : x.k < 256
  c0 : 0 ≤ x.c
  c1 : x.c < 256
  i0 : 0 ≤ x.id
  i1 : x.id < 65536
  o : x.o.In
  rk0 : 0 ≤ x.rk
  rk1 : x.rk < 256
  rv0 : 0 ≤ x.rv
  rv1 : x.rv < 65536
  t : ∀ m ∈ x.t, m.In
  r : ∀ l ∈ x.r, InU16 l
  m0 : 0 ≤ x.g.m
  m1 : x.g.m < 256
  mo0 : -9223372036854775808 ≤ x.g.mo
  mo1 : x.g.mo ≤ 9223372036854775807
  ms0 : -9223372036854775808 ≤ x.g.ms
  ms1 : x.g.ms ≤ 9223372036854775807
  mt0 : -9223372036854775808 ≤ x.g.mt
  mt1 : x.g.mt ≤ 9223372036854775807
/-- What an event's kind needs, all else zero. -/
def evWho (x : Ev) : Ev := { evZero with k := x.k, c := x.c, id := x.id }
def evNeed (x : Ev) : Ev :=
  if x.k = 1 then { evZero with k := x.k, g := x.g } else if x.k = 2 then { evWho x with o := x.o } else if x.k = 3 then { evWho x with rk := x.rk, rv := x.rv } else
  if x.k = 5 then { evWho x with t := x.t } else if x.k = 6 then { evWho x with r := x.r } else evWho x
def micGood (m : Mic) : Bool := decide (m.key < 8) && !(m.rd && m.v != 0)
def cfgGood (g : Cfg) : Bool := decide (g.m ≤ 4) && decide (1 ≤ g.mo ∧ g.mo ≤ 32) && decide (1 ≤ g.ms ∧ g.ms ≤ 4096) && decide (1 ≤ g.mt ∧ g.mt ≤ 1048576)
def micsGood (t : List Mic) : Bool := decide (1 ≤ t.length ∧ t.length ≤ 8) && t.all micGood
def listsGood (r : List (List Int)) : Bool := decide (r.length ≤ 8) && r.all fun l => decide (l.length ≤ 32)
def evKind (k : Int) : Bool := decide (1 ≤ k ∧ k ≤ 7)
def evFits (x : Ev) : Bool :=
  if x.k = 1 then cfgGood x.g else if x.k = 2 then opGood x.o else if x.k = 3 then rsGood x.rk x.rv else if x.k = 5 then micsGood x.t else if x.k = 6 then listsGood x.r else true
/-- Are two events the same? -/
noncomputable def eqB {α : Type} (a b : α) : Bool := @decide (a = b) (Classical.propDecidable _)
theorem eqB_iff {α : Type} (a b : α) : eqB a b = true ↔ a = b := by unfold eqB; simp
theorem eqB_no {α : Type} {a b : α} (h : ¬ a = b) : eqB a b = false := by unfold eqB; simp [h]
noncomputable def evSame (a b : Ev) : Bool := eqB a b
theorem evSame_iff (a b : Ev) : evSame a b = true ↔ a = b := eqB_iff a b
theorem evSame_self (a : Ev) : evSame a a = true := (evSame_iff a a).2 rfl
noncomputable def evGood (x : Ev) : Bool := evKind x.k && decide (x.c < 16) && evFits x && evSame x (evNeed x)
noncomputable def evErr (x : Ev) : Int := if evGood x then 0 else 4
theorem kind_cases {k : Int} (h : evKind k = true) : k = 1 ∨ k = 2 ∨ k = 3 ∨ k = 4 ∨ k = 5 ∨ k = 6 ∨ k = 7 := by
  simp [evKind] at h; omega
end Go.Proofs.YtlaccndjlfpjbaaGreatDoor
/-
  Histories: which events may follow; no program.
-/
namespace Go.Proofs.YtlaccndjlfpjbaaGreatDoor
open Go.RowKit
def hOpens (x : Ev) : Bool := decide (x.k = 2) || decide (x.k = 5)
/-- The last event of a client, among those behind the config. -/
def hLastOf (c : Int) : List Ev → Option Ev
  | [] => none
  | x :: r => match hLastOf c r with
    | some y => some y
    | none => if x.c = c then some x else none
theorem hLastOf_snoc (c : Int) : ∀ (l : List Ev) (x : Ev), hLastOf c (l ++ [x]) = if x.c = c then some x else hLastOf c l
  | [], x => by simp [hLastOf]
  | y :: r, x => by
    have ih := hLastOf_snoc c r x
    show (match hLastOf c (r ++ [x]) with | some z => some z | none => if y.c = c then some y else none) = _
    rw [ih]
    by_cases h : x.c = c
    · simp [h]
    · simp [h, hLastOf]
theorem hLastOf_mem (c : Int) : ∀ (l : List Ev) (x : Ev), hLastOf c l = some x → x ∈ l ∧ x.c = c
  | [], x, h => by simp [hLastOf] at h
  | y :: r, x, h => by
    unfold hLastOf at h
    cases hr : hLastOf c r with
    | some z =>
      rw [hr] at h
      simp only [Option.some.injEq] at h
      subst h
      have := hLastOf_mem c r z hr
      exact ⟨by simp [this.1], this.2⟩
    | none =>
      rw [hr] at h
      simp only [] at h
      split at h
      · rename_i hc
        simp only [Option.some.injEq] at h
        subst h
        exact ⟨by simp, hc⟩
      · cases h
/-- What a client has open. -/
def hPend (L : List Ev) (c : Int) : Option Ev := match hLastOf c L.tail with
  | some x => if hOpens x then some x else none
  | none => none
theorem tail_snoc {L : List Ev} (h : L ≠ []) (x : Ev) : (L ++ [x]).tail = L.tail ++ [x] := by
  cases L with
  | nil => exact absurd rfl h
  | cons a r => rfl
theorem hPend_snoc {L : List Ev} (h : L ≠ []) (x : Ev) (c : Int) : hPend (L ++ [x]) c = if x.c = c then (if hOpens x then some x else none) else hPend L c := by
  unfold hPend
  rw [tail_snoc h, hLastOf_snoc]
  by_cases hc : x.c = c <;> simp [hc]
theorem hPend_first (x : Ev) (c : Int) : hPend [x] c = none := rfl
theorem hPend_mem {L : List Ev} {c : Int} {x : Ev} (h : hPend L c = some x) : x ∈ L.tail ∧ x.c = c ∧ hOpens x = true ∧ hLastOf c L.tail = some x := by
  unfold hPend at h
  cases hl : hLastOf c L.tail with
  | none => rw [hl] at h; cases h
  | some y =>
    rw [hl] at h
    simp only [] at h
    split at h
    · rename_i ho
      simp only [Option.some.injEq] at h
      subst h
      have := hLastOf_mem c _ _ hl
      exact ⟨this.1, this.2, ho, rfl⟩
    · cases h
/-- The greatest ID. -/
def hMax : List Ev → Int
  | [] => -1
  | x :: r => max x.id (hMax r)
theorem hMax_snoc : ∀ (l : List Ev) (x : Ev), hMax (l ++ [x]) = max (hMax l) (max x.id (-1))
  | [], x => by simp [hMax, Int.max_comm]
  | y :: r, x => by
    show max y.id (hMax (r ++ [x])) = max (max y.id (hMax r)) _
    rw [hMax_snoc r x, Int.max_assoc]
theorem hMax_cons (x : Ev) (r : List Ev) : hMax (x :: r) = max x.id (hMax r) := rfl
theorem hMax_mem (l : List Ev) (x : Ev) (h : x ∈ l) : x.id ≤ hMax l := by
  induction l with
  | nil => simp at h
  | cons y r ih =>
    rw [hMax_cons]
    rcases List.mem_cons.1 h with rfl | h
    · omega
    · have := ih h; omega
theorem hMax_low (l : List Ev) : -1 ≤ hMax l := by
  induction l with
  | nil => decide
  | cons x r ih => rw [hMax_cons]; omega
/-- How many clients have something open. -/
def hOpenN (L : List Ev) : Nat := ((List.range 16).filter fun (c : Nat) => (hPend L (c : Int)).isSome).length
/-- How often a number is appended to a key. -/
def mApp (l : List Mic) (m : Mic) : Nat := (l.filter fun y => !y.rd && decide (y.key = m.key) && decide (y.v = m.v)).length
theorem mApp_app (l k : List Mic) (m : Mic) : mApp (l ++ k) m = mApp l m + mApp k m := by simp [mApp]
/-- Does a read come behind an append of its key? -/
def hBehind : List Mic → Bool
  | [] => false
  | m :: r => (!m.rd && r.any fun y => y.rd && decide (y.key = m.key)) || hBehind r
/-- Is a number appended twice? -/
def hTwice : List Mic → List Mic → Bool
  | _, [] => false
  | old, m :: r => (!m.rd && decide (0 < mApp old m)) || hTwice (old ++ [m]) r
def hReads (t : List Mic) : Nat := (t.filter (·.rd)).length
def hOld (L : List Ev) : List Mic := L.tail.flatMap (·.t)
section
variable (ck : Int → Opn → Int) (my : Int → Int → Int → Int)
def hOpenE (L : List Ev) (g x : Ev) : Int :=
  if (hPend L x.c).isSome then 9 else if x.id ≤ hMax L.tail then 8 else if x.k = 2 then ck g.g.m x.o else if hBehind x.t then 10 else if hTwice (hOld L) x.t then 8 else 0
def hEndE (L : List Ev) (x : Ev) : Int := match hPend L x.c with
  | none => 7
  | some p => if p.id = x.id then (if x.k = 3 then my p.o.f x.rk x.rv else if x.k = 6 ∧ hReads p.t ≠ x.r.length then 10 else 0) else 7
def hWrong (m k : Int) : Prop := (m = 4 ∧ (k = 2 ∨ k = 3)) ∨ (m ≠ 4 ∧ (k = 5 ∨ k = 6 ∨ k = 7))
instance (m k : Int) : Decidable (hWrong m k) := by unfold hWrong; infer_instance
/-- Why an event may not follow; 0: it may. -/
noncomputable def hErr (L : List Ev) (x : Ev) : Int :=
  if evGood x = false then 4 else if x.k = 1 then (if L = [] then 0 else 11) else match L with
    | [] => 11
    | g :: _ => if hWrong g.g.m x.k then 10 else if hOpens x then hOpenE ck L g x else hEndE my L x
noncomputable def hNext (L : List Ev) (x : Ev) : List Ev := if hErr ck my L x = 0 then L ++ [x] else L
/-- The events that were taken of events. -/
noncomputable def hAll : List Ev → List Ev → List Ev
  | L, [] => L
  | L, x :: r => hAll (hNext ck my L x) r
inductive Hist : List Ev → Prop where
  | nil : Hist []
  | snoc {L : List Ev} {x : Ev} (h : Hist L) (hx : hErr ck my L x = 0) : Hist (L ++ [x])
theorem Hist.next {L : List Ev} (h : Hist ck my L) (x : Ev) : Hist ck my (hNext ck my L x) := by
  unfold hNext
  split
  · rename_i hx; exact h.snoc hx
  · exact h
theorem Hist.all {L : List Ev} (h : Hist ck my L) (l : List Ev) : Hist ck my (hAll ck my L l) := by
  induction l generalizing L with
  | nil => exact h
  | cons x r ih => exact ih (h.next ck my x)
variable {ck my}
theorem Hist.take {L : List Ev} (h : Hist ck my L) : ∀ i, (hi : i < L.length) → hErr ck my (L.take i) L[i] = 0 := by
  induction h with
  | nil => intro i hi; simp at hi
  | @snoc L x h hx ih =>
    intro i hi
    by_cases h1 : i < L.length
    · rw [List.take_append_of_le_length (by omega), List.getElem_append_left h1]
      exact ih i h1
    · simp only [List.length_append, List.length_cons, List.length_nil] at hi
      obtain rfl : i = L.length := by omega
      rw [List.take_append_of_le_length (by omega), List.take_length, List.getElem_append_right (by omega)]
      simpa using hx
theorem hErr_good {L : List Ev} {x : Ev} (h : hErr ck my L x = 0) : evGood x = true := by
  unfold hErr at h
  cases hg : evGood x with
  | true => rfl
  | false => rw [hg] at h; simp at h
theorem hErr_first {x : Ev} (h : hErr ck my [] x = 0) : x.k = 1 := by
  have hg := hErr_good h
  unfold hErr at h
  rw [hg] at h
  by_cases hk : x.k = 1
  · exact hk
  · simp [hk] at h
theorem hErr_later {g : Ev} {r : List Ev} {x : Ev} (h : hErr ck my (g :: r) x = 0) : x.k ≠ 1 ∧ ¬ hWrong g.g.m x.k ∧ (if hOpens x then hOpenE ck (g :: r) g x else hEndE my (g :: r) x) = 0 := by
  have hg := hErr_good h
  unfold hErr at h
  rw [hg] at h
  by_cases hk : x.k = 1
  · simp [hk] at h
  · simp only [hk, if_false] at h
    by_cases hw : hWrong g.g.m x.k
    · simp [hw] at h
    · simp only [hw, if_false] at h
      exact ⟨hk, hw, by simpa using h⟩
theorem hOpen_parts {L : List Ev} {g x : Ev} (h : hOpenE ck L g x = 0) : hPend L x.c = none ∧ hMax L.tail < x.id ∧ (x.k = 2 ∨ (hBehind x.t = false ∧ hTwice (hOld L) x.t = false)) := by
  unfold hOpenE at h
  cases hp : hPend L x.c with
  | some p => rw [hp] at h; simp at h
  | none =>
    rw [hp] at h
    simp only [Option.isSome_none] at h
    by_cases hi : x.id ≤ hMax L.tail
    · simp [hi] at h
    · refine ⟨rfl, by omega, ?_⟩
      by_cases hk : x.k = 2
      · exact .inl hk
      · simp only [hi, hk, if_false] at h
        cases hb : hBehind x.t with
        | true => rw [hb] at h; simp at h
        | false =>
          rw [hb] at h
          cases ht : hTwice (hOld L) x.t with
          | true => rw [ht] at h; simp at h
          | false => exact .inr ⟨rfl, rfl⟩
theorem hEnd_parts {L : List Ev} {x : Ev} (h : hEndE my L x = 0) : ∃ p, hPend L x.c = some p ∧ p.id = x.id := by
  unfold hEndE at h
  cases hp : hPend L x.c with
  | none => rw [hp] at h; simp at h
  | some p =>
    rw [hp] at h
    simp only [] at h
    by_cases hi : p.id = x.id
    · exact ⟨p, rfl, hi⟩
    · rw [if_neg hi] at h; simp at h
end
end Go.Proofs.YtlaccndjlfpjbaaGreatDoor
/-
  Histories: whose turn it is; no program.
-/
namespace Go.Proofs.YtlaccndjlfpjbaaGreatDoor
open Go.RowKit
theorem good_need {x : Ev} (h : evGood x = true) : x.c < 16 ∧ x = evNeed x ∧ evKind x.k = true := by
  unfold evGood at h
  simp only [Bool.and_eq_true, decide_eq_true_eq, evSame_iff] at h
  exact ⟨h.1.1.2, h.2, h.1.1.1⟩
theorem good_t {x : Ev} (h : evGood x = true) (hk : x.k ≠ 5) : x.t = [] := by
  have hn := (good_need h).2.1
  unfold evNeed at hn
  by_cases k1 : x.k = 1
  · rw [if_pos k1] at hn; rw [hn]; rfl
  · by_cases k2 : x.k = 2
    · rw [if_neg k1, if_pos k2] at hn; rw [hn]; rfl
    · by_cases k3 : x.k = 3
      · rw [if_neg k1, if_neg k2, if_pos k3] at hn; rw [hn]; rfl
      · by_cases k6 : x.k = 6
        · rw [if_neg k1, if_neg k2, if_neg k3, if_neg hk, if_pos k6] at hn; rw [hn]; rfl
        · rw [if_neg k1, if_neg k2, if_neg k3, if_neg hk, if_neg k6] at hn; rw [hn]; rfl
section
variable {ck : Int → Opn → Int} {my : Int → Int → Int → Int}
/-- What the law keeps for each client, and the greatest ID. -/
structure TurnSt (P : List Ev) (op : List Bool) (id : List Int) (last : Int) : Prop where
  lo : op.length = 16
  li : id.length = 16
  st : ∀ c : Nat, c < 16 → op.getD c false = (hPend P (c : Int)).isSome ∧ ∀ p, hPend P (c : Int) = some p → id.getD c 0 = p.id
  la : last = hMax P.tail
theorem TurnSt.zero (g : Ev) : TurnSt [g] (List.replicate 16 false) (List.replicate 16 0) (-1) :=
  ⟨by simp, by simp, fun c hc => ⟨by rw [hPend_first]; exact (by decide : ∀ c : Fin 16, (List.replicate 16 false).getD c.val false = (none : Option Nat).isSome) ⟨c, hc⟩, fun p hp => by rw [hPend_first] at hp; cases hp⟩, rfl⟩
end
end Go.Proofs.YtlaccndjlfpjbaaGreatDoor
/-
  Histories: what does not hang on the order; no program.
-/
namespace Go.Proofs.YtlaccndjlfpjbaaGreatDoor
open Go.RowKit
section
variable (ck : Int → Opn → Int) (my : Int → Int → Int → Int)
/-- An event that is refused makes no difference. -/
theorem hNext_no {L : List Ev} {x : Ev} (h : hErr ck my L x ≠ 0) : hNext ck my L x = L := by unfold hNext; rw [if_neg h]
theorem hNext_yes {L : List Ev} {x : Ev} (h : hErr ck my L x = 0) : hNext ck my L x = L ++ [x] := by unfold hNext; rw [if_pos h]
end
end Go.Proofs.YtlaccndjlfpjbaaGreatDoor
