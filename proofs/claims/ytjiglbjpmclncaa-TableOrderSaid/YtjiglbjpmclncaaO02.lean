/-
  Operations: their bytes, their words, what bytes and words are read as; no program.
-/
import Derived.Lib.ParseIntBCases
import Derived.Lib.IndexMore
import Derived.Lib.ItoaMem
import Derived.Test.YtjiglbjpmclncaaO01
set_option linter.unusedSimpArgs false
set_option linter.unusedVariables false
namespace Go.Proofs.Ytjiglbjpmclncaa
open Go.RowKit
structure Opn where
  f : Int
  o : Int
  k : Int
  a : Int
  b : Int
/-- What Go's types allow. -/
structure Opn.In (x : Opn) : Prop where
  f0 : 0 ≤ x.f
  f1 : x.f < 256
  o0 : 0 ≤ x.o
  o1 : x.o < 256
  k0 : 0 ≤ x.k
  k1 : x.k < 256
  a0 : 0 ≤ x.a
  a1 : x.a < 65536
  b0 : 0 ≤ x.b
  b1 : x.b < 65536
def Opn.val (x : Opn) : Value := .agg #[.int .u8 x.f, .int .u8 x.o, .int .u8 x.k, .int .u16 x.a, .int .u16 x.b]
end Go.Proofs.Ytjiglbjpmclncaa
/-
  Tables: operations, and when they were invoked and returned; no program.
-/
namespace Go.Proofs.Ytjiglbjpmclncaa
open Go.RowKit
/-- A row. -/
structure Rw where
  c : Int
  id : Int
  o : Opn
  rk : Int
  rv : Int
  st : Int
  fr : Int
  to : Int
def rwNever : Int := 4611686018427387904
def rwMost : Int := 2305843009213693952
def rwBefore (a b : Rw) : Bool := decide (a.st = 1) && decide (a.to < b.fr)
/-- A table: its rows, and the last moment that was told. -/
structure Tb where
  L : List Rw
  last : Int
def tbNew : Tb := ⟨[], -1⟩
def tbMay (t : Tb) (at_ : Int) : Bool := decide (0 ≤ at_) && decide (at_ ≤ rwMost) && decide (t.last < at_)
def rwIdx (id : Int) : List Rw → Option Nat
  | [] => none
  | r :: l => if r.id = id then some 0 else (rwIdx id l).map (· + 1)
def rwNew (c id : Int) (o : Opn) (at_ : Int) : Rw := ⟨c, id, o, 0, 0, 0, at_, rwNever⟩
def rwEnd (r : Rw) (done : Bool) (rk rv at_ : Int) : Rw := if done then { r with st := 1, rk := rk, rv := rv, to := at_ } else { r with st := 2 }
def tbInv (t : Tb) (c id : Int) (o : Opn) (at_ : Int) : Int × Tb :=
  if tbMay t at_ = false then (2, t) else if (rwIdx id t.L).isSome then (8, t) else (0, ⟨t.L ++ [rwNew c id o at_], at_⟩)
def tbEnd (t : Tb) (id : Int) (done : Bool) (rk rv at_ : Int) : Int × Tb :=
  if tbMay t at_ = false then (2, t) else match rwIdx id t.L with
    | none => (7, t)
    | some i => match t.L[i]? with
      | none => (7, t)
      | some r => if r.st = 0 then (0, ⟨t.L.set i (rwEnd r done rk rv at_), at_⟩) else (7, t)
def tbRem (t : Tb) (id : Int) : Int × Tb := if (rwIdx id t.L).isSome then (0, ⟨t.L.filter fun r => decide (r.id ≠ id), t.last⟩) else (7, t)
def tbCount (t : Tb) (st : Int) : Nat := (t.L.filter fun r => decide (r.st = st)).length
def tbSettle (t : Tb) : Nat × Tb := (tbCount t 1, ⟨t.L.filter fun r => decide (r.st ≠ 1), t.last⟩)
def tbFind (t : Tb) (id : Int) : Option Rw := match rwIdx id t.L with
  | none => none
  | some i => t.L[i]?
theorem rwIdx_some {id : Int} : ∀ {l : List Rw} {i : Nat}, rwIdx id l = some i → ∃ h : i < l.length, (l[i]).id = id ∧ ∀ j, (hj : j < i) → (l[j]'(Nat.lt_trans hj h)).id ≠ id
  | [], i, h => by simp [rwIdx] at h
  | r :: l, i, h => by
    unfold rwIdx at h
    by_cases e : r.id = id
    · rw [if_pos e] at h
      obtain rfl := Option.some.inj h
      exact ⟨by simp, e, fun j hj => by omega⟩
    · rw [if_neg e] at h
      cases hr : rwIdx id l with
      | none => rw [hr] at h; cases h
      | some k =>
        rw [hr] at h
        have h2 : k + 1 = i := by simpa using h
        subst h2
        obtain ⟨h3, h4, h5⟩ := rwIdx_some hr
        refine ⟨by simp; omega, by simpa using h4, fun j hj => ?_⟩
        cases j with
        | zero => simpa using e
        | succ j => simpa using h5 j (by omega)
theorem rwIdx_none {id : Int} : ∀ {l : List Rw}, rwIdx id l = none ↔ ∀ r ∈ l, r.id ≠ id
  | [] => by simp [rwIdx]
  | r :: l => by
    unfold rwIdx
    by_cases e : r.id = id
    · rw [if_pos e]; simp [e]
    · rw [if_neg e, Option.map_eq_none_iff, rwIdx_none]; simp [e]
/-- A row of a table. -/
structure RwOk (last : Int) (r : Rw) : Prop where
  c : 0 ≤ r.c ∧ r.c < 256
  id : 0 ≤ r.id ∧ r.id < 65536
  o : r.o.In
  rk : 0 ≤ r.rk ∧ r.rk < 256
  rv : 0 ≤ r.rv ∧ r.rv < 65536
  st : r.st = 0 ∨ r.st = 1 ∨ r.st = 2
  fr : 0 ≤ r.fr ∧ r.fr ≤ last
  done : r.st = 1 → r.fr < r.to ∧ r.to ≤ last
  not : r.st ≠ 1 → r.to = rwNever
structure TbOk (t : Tb) : Prop where
  rows : ∀ r ∈ t.L, RwOk t.last r
  up : t.L.Pairwise fun a b => a.fr < b.fr ∧ a.id ≠ b.id
  lo : -1 ≤ t.last
  hi : t.last ≤ rwMost
theorem RwOk.later {last last' : Int} {r : Rw} (h : RwOk last r) (hl : last ≤ last') : RwOk last' r :=
  ⟨h.c, h.id, h.o, h.rk, h.rv, h.st, ⟨h.fr.1, Int.le_trans h.fr.2 hl⟩, fun e => ⟨(h.done e).1, Int.le_trans (h.done e).2 hl⟩, h.not⟩
theorem RwOk.lt {last : Int} {r : Rw} (h : RwOk last r) (hl : last ≤ rwMost) : r.fr < r.to := by
  by_cases e : r.st = 1
  · exact (h.done e).1
  · rw [h.not e]
    have := h.fr.2
    unfold rwMost at hl
    unfold rwNever
    omega
theorem TbOk.new : TbOk tbNew := ⟨by simp [tbNew], by simp [tbNew], by decide, by decide⟩
theorem tbMay_iff {t : Tb} {at_ : Int} : tbMay t at_ = true ↔ 0 ≤ at_ ∧ at_ ≤ rwMost ∧ t.last < at_ := by simp [tbMay, and_assoc]
theorem TbOk.inv {t : Tb} (h : TbOk t) {c id at_ : Int} {o : Opn} (hc : 0 ≤ c ∧ c < 256) (hi : 0 ≤ id ∧ id < 65536) (ho : o.In) : TbOk (tbInv t c id o at_).2 := by
  unfold tbInv
  split
  · exact h
  · rename_i hm
    have hm2 := tbMay_iff.1 (by simpa using hm)
    split
    · exact h
    · rename_i hx
      have hx2 : rwIdx id t.L = none := by simpa using hx
      refine ⟨fun r hr => ?_, ?_, by show -1 ≤ at_; omega, hm2.2.1⟩
      · rcases List.mem_append.1 hr with hr | hr
        · exact (h.rows r hr).later (by show t.last ≤ at_; omega)
        · simp at hr
          subst hr
          exact ⟨hc, hi, ho, (by decide : (0 : Int) ≤ 0 ∧ (0 : Int) < 256), (by decide : (0 : Int) ≤ 0 ∧ (0 : Int) < 65536), .inl rfl, ⟨hm2.1, Int.le_refl _⟩, fun e => by simp [rwNew] at e, fun _ => rfl⟩
      · rw [List.pairwise_append]
        refine ⟨h.up, by simp, fun a ha b hb => ?_⟩
        simp at hb
        subst hb
        refine ⟨?_, rwIdx_none.1 hx2 a ha⟩
        have := (h.rows a ha).fr.2
        show a.fr < at_
        omega
theorem pairwise_set {α : Type} {R : α → α → Prop} {l : List α} {i : Nat} {x : α} (h : l.Pairwise R) (hi : i < l.length) (hx : ∀ y, (R y l[i] → R y x) ∧ (R l[i] y → R x y)) : (l.set i x).Pairwise R := by
  induction l generalizing i with
  | nil => simp at hi
  | cons a r ih =>
    rw [List.pairwise_cons] at h
    cases i with
    | zero =>
      rw [List.set_cons_zero, List.pairwise_cons]
      exact ⟨fun y hy => (hx y).2 (h.1 y hy), h.2⟩
    | succ i =>
      have hi2 : i < r.length := by simpa using hi
      rw [List.set_cons_succ, List.pairwise_cons]
      refine ⟨fun y hy => ?_, ih h.2 hi2 (fun y => by simpa using hx y)⟩
      rcases List.mem_or_eq_of_mem_set hy with hy | rfl
      · exact h.1 y hy
      · have := (hx a).1
        simp only [List.getElem_cons_succ] at this
        exact this (h.1 _ (List.getElem_mem hi2))
theorem TbOk.end_ {t : Tb} (h : TbOk t) {id rk rv at_ : Int} {done : Bool} (hk : 0 ≤ rk ∧ rk < 256) (hv : 0 ≤ rv ∧ rv < 65536) : TbOk (tbEnd t id done rk rv at_).2 := by
  unfold tbEnd
  split
  · exact h
  · rename_i hm
    have hm2 := tbMay_iff.1 (by simpa using hm)
    cases hx : rwIdx id t.L with
    | none => exact h
    | some i =>
      obtain ⟨hi, -, -⟩ := rwIdx_some hx
      simp only [List.getElem?_eq_getElem hi]
      split
      · rename_i h0
        have hr := h.rows _ (List.getElem_mem hi)
        have hf := hr.fr
        have hnew : RwOk at_ (rwEnd t.L[i] done rk rv at_) := by
          unfold rwEnd
          cases done with
          | true => exact ⟨hr.c, hr.id, hr.o, hk, hv, .inr (.inl rfl), ⟨hf.1, by show t.L[i].fr ≤ at_; omega⟩, fun _ => ⟨by show t.L[i].fr < at_; omega, Int.le_refl _⟩, fun e => absurd rfl e⟩
          | false => exact ⟨hr.c, hr.id, hr.o, hr.rk, hr.rv, .inr (.inr rfl), ⟨hf.1, by show t.L[i].fr ≤ at_; omega⟩, fun e => by simp at e, fun _ => hr.not (by omega)⟩
        refine ⟨fun r hrr => ?_, ?_, by show -1 ≤ at_; omega, hm2.2.1⟩
        · rcases List.mem_or_eq_of_mem_set hrr with hrr | rfl
          · exact (h.rows r hrr).later (by show t.last ≤ at_; omega)
          · exact hnew
        · refine pairwise_set h.up hi (fun y => ?_)
          have e1 : (rwEnd t.L[i] done rk rv at_).fr = t.L[i].fr := by unfold rwEnd; cases done <;> rfl
          have e2 : (rwEnd t.L[i] done rk rv at_).id = t.L[i].id := by unfold rwEnd; cases done <;> rfl
          rw [e1, e2]
          exact ⟨fun h => h, fun h => h⟩
      · exact h
theorem TbOk.filter {t : Tb} (h : TbOk t) (f : Rw → Bool) : TbOk ⟨t.L.filter f, t.last⟩ := ⟨fun r hr => h.rows r (List.mem_filter.1 hr).1, h.up.filter f, h.lo, h.hi⟩
theorem TbOk.rem {t : Tb} (h : TbOk t) (id : Int) : TbOk (tbRem t id).2 := by
  unfold tbRem
  split
  · exact h.filter _
  · exact h
theorem TbOk.settle {t : Tb} (h : TbOk t) : TbOk (tbSettle t).2 := h.filter _
/-- Before is an order, and one of intervals. -/
theorem rwBefore_iff {a b : Rw} : rwBefore a b = true ↔ a.st = 1 ∧ a.to < b.fr := by simp [rwBefore]
theorem rwBefore_self {last : Int} {a : Rw} (h : RwOk last a) : rwBefore a a = false := by
  cases hb : rwBefore a a with
  | false => rfl
  | true =>
    have h1 := rwBefore_iff.1 hb
    have := (h.done h1.1).1
    omega
theorem rwBefore_trans {last : Int} {a b c : Rw} (hb : RwOk last b) (h1 : rwBefore a b = true) (h2 : rwBefore b c = true) : rwBefore a c = true := by
  rw [rwBefore_iff] at *
  have := (hb.done h2.1).1
  exact ⟨h1.1, by omega⟩
theorem rwBefore_not {last : Int} {a b : Rw} (ha : RwOk last a) (hb : RwOk last b) (h1 : rwBefore a b = true) : rwBefore b a = false := by
  cases h2 : rwBefore b a with
  | false => rfl
  | true =>
    rw [rwBefore_iff] at h1 h2
    have := (ha.done h1.1).1; have := (hb.done h2.1).1
    omega
theorem rwBefore_two {a b c d : Rw} (h1 : rwBefore a b = true) (h2 : rwBefore c d = true) : rwBefore a d = true ∨ rwBefore c b = true := by
  rw [rwBefore_iff] at *
  by_cases h : a.to < d.fr
  · exact .inl ⟨h1.1, h⟩
  · right
    exact rwBefore_iff.2 ⟨h2.1, by omega⟩
end Go.Proofs.Ytjiglbjpmclncaa
/-
  Tables: what becomes of a row; no program.
-/
namespace Go.Proofs.Ytjiglbjpmclncaa
open Go.RowKit
theorem filter_len (L : List Rw) (st : Int) : (L.filter fun r => decide (r.st = st)).length + (L.filter fun r => decide (r.st ≠ st)).length = L.length := by
  induction L with
  | nil => rfl
  | cons r l ih =>
    by_cases h : r.st = st
    · simp [h] at ih ⊢; omega
    · simp [h] at ih ⊢; omega
/-- Rows in order of From: the one at a place is later than those ahead of it. -/
theorem TbOk.sorted {t : Tb} (h : TbOk t) {i j : Nat} (hj : j < t.L.length) (hij : i < j) : (t.L[i]'(Nat.lt_trans hij hj)).fr < t.L[j].fr := (List.pairwise_iff_getElem.1 h.up i j (Nat.lt_trans hij hj) hj hij).1
end Go.Proofs.Ytjiglbjpmclncaa
