/-
  Operations: their bytes, their words, what bytes and words are read as; no program.
-/
import Derived.Lib.ParseIntBCases
import Derived.Lib.IndexMore
import Derived.Lib.ItoaMem
import Derived.Test.YtjiglbjpmclncaaE01
set_option linter.unusedSimpArgs false
set_option linter.unusedVariables false
namespace Go.Proofs.Ytjiglbjpmclncaa
open Go.RowKit
structure Opn where
  f : Int
  o : Int
  k : Int
  a : Int
  b : Int
/-- What Go's types allow. -/
structure Opn.In (x : Opn) : Prop where
  f0 : 0 ≤ x.f
  f1 : x.f < 256
  o0 : 0 ≤ x.o
  o1 : x.o < 256
  k0 : 0 ≤ x.k
  k1 : x.k < 256
  a0 : 0 ≤ x.a
  a1 : x.a < 65536
  b0 : 0 ≤ x.b
  b1 : x.b < 65536
def Opn.val (x : Opn) : Value := .agg #[.int .u8 x.f, .int .u8 x.o, .int .u8 x.k, .int .u16 x.a, .int .u16 x.b]
end Go.Proofs.Ytjiglbjpmclncaa
/-
  Tables: operations, and when they were invoked and returned; no program.
-/
namespace Go.Proofs.Ytjiglbjpmclncaa
open Go.RowKit
/-- A row. -/
structure Rw where
  c : Int
  id : Int
  o : Opn
  rk : Int
  rv : Int
  st : Int
  fr : Int
  to : Int
def rwNever : Int := 4611686018427387904
def rwMost : Int := 2305843009213693952
def rwBefore (a b : Rw) : Bool := decide (a.st = 1) && decide (a.to < b.fr)
/-- A table: its rows, and the last moment that was told. -/
structure Tb where
  L : List Rw
  last : Int
def tbNew : Tb := ⟨[], -1⟩
def tbMay (t : Tb) (at_ : Int) : Bool := decide (0 ≤ at_) && decide (at_ ≤ rwMost) && decide (t.last < at_)
def rwIdx (id : Int) : List Rw → Option Nat
  | [] => none
  | r :: l => if r.id = id then some 0 else (rwIdx id l).map (· + 1)
def rwNew (c id : Int) (o : Opn) (at_ : Int) : Rw := ⟨c, id, o, 0, 0, 0, at_, rwNever⟩
def rwEnd (r : Rw) (done : Bool) (rk rv at_ : Int) : Rw := if done then { r with st := 1, rk := rk, rv := rv, to := at_ } else { r with st := 2 }
def tbInv (t : Tb) (c id : Int) (o : Opn) (at_ : Int) : Int × Tb :=
  if tbMay t at_ = false then (2, t) else if (rwIdx id t.L).isSome then (8, t) else (0, ⟨t.L ++ [rwNew c id o at_], at_⟩)
def tbEnd (t : Tb) (id : Int) (done : Bool) (rk rv at_ : Int) : Int × Tb :=
  if tbMay t at_ = false then (2, t) else match rwIdx id t.L with
    | none => (7, t)
    | some i => match t.L[i]? with
      | none => (7, t)
      | some r => if r.st = 0 then (0, ⟨t.L.set i (rwEnd r done rk rv at_), at_⟩) else (7, t)
def tbRem (t : Tb) (id : Int) : Int × Tb := if (rwIdx id t.L).isSome then (0, ⟨t.L.filter fun r => decide (r.id ≠ id), t.last⟩) else (7, t)
def tbCount (t : Tb) (st : Int) : Nat := (t.L.filter fun r => decide (r.st = st)).length
def tbSettle (t : Tb) : Nat × Tb := (tbCount t 1, ⟨t.L.filter fun r => decide (r.st ≠ 1), t.last⟩)
def tbFind (t : Tb) (id : Int) : Option Rw := match rwIdx id t.L with
  | none => none
  | some i => t.L[i]?
theorem rwIdx_some {id : Int} : ∀ {l : List Rw} {i : Nat}, rwIdx id l = some i → ∃ h : i < l.length, (l[i]).id = id ∧ ∀ j, (hj : j < i) → (l[j]'(Nat.lt_trans hj h)).id ≠ id
  | [], i, h => by simp [rwIdx] at h
  | r :: l, i, h => by
    unfold rwIdx at h
    by_cases e : r.id = id
    · rw [if_pos e] at h
      obtain rfl := Option.some.inj h
      exact ⟨by simp, e, fun j hj => by omega⟩
    · rw [if_neg e] at h
      cases hr : rwIdx id l with
      | none => rw [hr] at h; cases h
      | some k =>
        rw [hr] at h
        have h2 : k + 1 = i := by simpa using h
        subst h2
        obtain ⟨h3, h4, h5⟩ := rwIdx_some hr
        refine ⟨by simp; omega, by simpa using h4, fun j hj => ?_⟩
        cases j with
        | zero => simpa using e
        | succ j => simpa using h5 j (by omega)
theorem rwIdx_none {id : Int} : ∀ {l : List Rw}, rwIdx id l = none ↔ ∀ r ∈ l, r.id ≠ id
  | [] => by simp [rwIdx]
  | r :: l => by
    unfold rwIdx
    by_cases e : r.id = id
    · rw [if_pos e]; simp [e]
    · rw [if_neg e, Option.map_eq_none_iff, rwIdx_none]; simp [e]
/-- The first one with an ID is at i, if none ahead of it has it. -/
theorem rwIdx_at {id : Int} : ∀ {l : List Rw} {i : Nat} (h : i < l.length), (l[i]).id = id → (∀ j, (hj : j < i) → (l[j]'(Nat.lt_trans hj h)).id ≠ id) → rwIdx id l = some i
  | [], i, h, _, _ => by simp at h
  | r :: l, 0, h, h1, _ => by unfold rwIdx; rw [if_pos (by simpa using h1)]
  | r :: l, i + 1, h, h1, h2 => by
    unfold rwIdx
    rw [if_neg (by simpa using h2 0 (by omega)), rwIdx_at (l := l) (i := i) (by simpa using h) (by simpa using h1) (fun j hj => by simpa using h2 (j + 1) (by omega))]
    rfl
theorem tbFind_some {t : Tb} {id : Int} {r : Rw} (h : tbFind t id = some r) : r ∈ t.L ∧ r.id = id := by
  unfold tbFind at h
  cases hi : rwIdx id t.L with
  | none => rw [hi] at h; cases h
  | some i =>
    rw [hi] at h
    obtain ⟨h1, h2, _⟩ := rwIdx_some hi
    have h3 : t.L[i]? = some r := h
    rw [List.getElem?_eq_getElem h1] at h3
    obtain rfl := Option.some.inj h3
    exact ⟨List.getElem_mem h1, h2⟩
theorem tbFind_none {t : Tb} {id : Int} : tbFind t id = none ↔ rwIdx id t.L = none := by
  unfold tbFind
  cases hi : rwIdx id t.L with
  | none => simp
  | some i =>
    obtain ⟨h1, _, _⟩ := rwIdx_some hi
    simp [List.getElem?_eq_getElem h1]
/-- A row of a table. -/
structure RwOk (last : Int) (r : Rw) : Prop where
  c : 0 ≤ r.c ∧ r.c < 256
  id : 0 ≤ r.id ∧ r.id < 65536
  o : r.o.In
  rk : 0 ≤ r.rk ∧ r.rk < 256
  rv : 0 ≤ r.rv ∧ r.rv < 65536
  st : r.st = 0 ∨ r.st = 1 ∨ r.st = 2
  fr : 0 ≤ r.fr ∧ r.fr ≤ last
  done : r.st = 1 → r.fr < r.to ∧ r.to ≤ last
  not : r.st ≠ 1 → r.to = rwNever
structure TbOk (t : Tb) : Prop where
  rows : ∀ r ∈ t.L, RwOk t.last r
  up : t.L.Pairwise fun a b => a.fr < b.fr ∧ a.id ≠ b.id
  lo : -1 ≤ t.last
  hi : t.last ≤ rwMost
theorem RwOk.later {last last' : Int} {r : Rw} (h : RwOk last r) (hl : last ≤ last') : RwOk last' r :=
  ⟨h.c, h.id, h.o, h.rk, h.rv, h.st, ⟨h.fr.1, Int.le_trans h.fr.2 hl⟩, fun e => ⟨(h.done e).1, Int.le_trans (h.done e).2 hl⟩, h.not⟩
theorem RwOk.lt {last : Int} {r : Rw} (h : RwOk last r) (hl : last ≤ rwMost) : r.fr < r.to := by
  by_cases e : r.st = 1
  · exact (h.done e).1
  · rw [h.not e]
    have := h.fr.2
    unfold rwMost at hl
    unfold rwNever
    omega
theorem TbOk.new : TbOk tbNew := ⟨by simp [tbNew], by simp [tbNew], by decide, by decide⟩
theorem tbMay_iff {t : Tb} {at_ : Int} : tbMay t at_ = true ↔ 0 ≤ at_ ∧ at_ ≤ rwMost ∧ t.last < at_ := by simp [tbMay, and_assoc]
theorem TbOk.inv {t : Tb} (h : TbOk t) {c id at_ : Int} {o : Opn} (hc : 0 ≤ c ∧ c < 256) (hi : 0 ≤ id ∧ id < 65536) (ho : o.In) : TbOk (tbInv t c id o at_).2 := by
  unfold tbInv
  split
  · exact h
  · rename_i hm
    have hm2 := tbMay_iff.1 (by simpa using hm)
    split
    · exact h
    · rename_i hx
      have hx2 : rwIdx id t.L = none := by simpa using hx
      refine ⟨fun r hr => ?_, ?_, by show -1 ≤ at_; omega, hm2.2.1⟩
      · rcases List.mem_append.1 hr with hr | hr
        · exact (h.rows r hr).later (by show t.last ≤ at_; omega)
        · simp at hr
          subst hr
          exact ⟨hc, hi, ho, (by decide : (0 : Int) ≤ 0 ∧ (0 : Int) < 256), (by decide : (0 : Int) ≤ 0 ∧ (0 : Int) < 65536), .inl rfl, ⟨hm2.1, Int.le_refl _⟩, fun e => by simp [rwNew] at e, fun _ => rfl⟩
      · rw [List.pairwise_append]
        refine ⟨h.up, by simp, fun a ha b hb => ?_⟩
        simp at hb
        subst hb
        refine ⟨?_, rwIdx_none.1 hx2 a ha⟩
        have := (h.rows a ha).fr.2
        show a.fr < at_
        omega
theorem pairwise_set {α : Type} {R : α → α → Prop} {l : List α} {i : Nat} {x : α} (h : l.Pairwise R) (hi : i < l.length) (hx : ∀ y, (R y l[i] → R y x) ∧ (R l[i] y → R x y)) : (l.set i x).Pairwise R := by
  induction l generalizing i with
  | nil => simp at hi
  | cons a r ih =>
    rw [List.pairwise_cons] at h
    cases i with
    | zero =>
      rw [List.set_cons_zero, List.pairwise_cons]
      exact ⟨fun y hy => (hx y).2 (h.1 y hy), h.2⟩
    | succ i =>
      have hi2 : i < r.length := by simpa using hi
      rw [List.set_cons_succ, List.pairwise_cons]
      refine ⟨fun y hy => ?_, ih h.2 hi2 (fun y => by simpa using hx y)⟩
      rcases List.mem_or_eq_of_mem_set hy with hy | rfl
      · exact h.1 y hy
      · have := (hx a).1
        simp only [List.getElem_cons_succ] at this
        exact this (h.1 _ (List.getElem_mem hi2))
theorem TbOk.end_ {t : Tb} (h : TbOk t) {id rk rv at_ : Int} {done : Bool} (hk : 0 ≤ rk ∧ rk < 256) (hv : 0 ≤ rv ∧ rv < 65536) : TbOk (tbEnd t id done rk rv at_).2 := by
  unfold tbEnd
  split
  · exact h
  · rename_i hm
    have hm2 := tbMay_iff.1 (by simpa using hm)
    cases hx : rwIdx id t.L with
    | none => exact h
    | some i =>
      obtain ⟨hi, -, -⟩ := rwIdx_some hx
      simp only [List.getElem?_eq_getElem hi]
      split
      · rename_i h0
        have hr := h.rows _ (List.getElem_mem hi)
        have hf := hr.fr
        have hnew : RwOk at_ (rwEnd t.L[i] done rk rv at_) := by
          unfold rwEnd
          cases done with
          | true => exact ⟨hr.c, hr.id, hr.o, hk, hv, .inr (.inl rfl), ⟨hf.1, by show t.L[i].fr ≤ at_; omega⟩, fun _ => ⟨by show t.L[i].fr < at_; omega, Int.le_refl _⟩, fun e => absurd rfl e⟩
          | false => exact ⟨hr.c, hr.id, hr.o, hr.rk, hr.rv, .inr (.inr rfl), ⟨hf.1, by show t.L[i].fr ≤ at_; omega⟩, fun e => by simp at e, fun _ => hr.not (by omega)⟩
        refine ⟨fun r hrr => ?_, ?_, by show -1 ≤ at_; omega, hm2.2.1⟩
        · rcases List.mem_or_eq_of_mem_set hrr with hrr | rfl
          · exact (h.rows r hrr).later (by show t.last ≤ at_; omega)
          · exact hnew
        · refine pairwise_set h.up hi (fun y => ?_)
          have e1 : (rwEnd t.L[i] done rk rv at_).fr = t.L[i].fr := by unfold rwEnd; cases done <;> rfl
          have e2 : (rwEnd t.L[i] done rk rv at_).id = t.L[i].id := by unfold rwEnd; cases done <;> rfl
          rw [e1, e2]
          exact ⟨fun h => h, fun h => h⟩
      · exact h
theorem TbOk.filter {t : Tb} (h : TbOk t) (f : Rw → Bool) : TbOk ⟨t.L.filter f, t.last⟩ := ⟨fun r hr => h.rows r (List.mem_filter.1 hr).1, h.up.filter f, h.lo, h.hi⟩
theorem TbOk.rem {t : Tb} (h : TbOk t) (id : Int) : TbOk (tbRem t id).2 := by
  unfold tbRem
  split
  · exact h.filter _
  · exact h
theorem TbOk.settle {t : Tb} (h : TbOk t) : TbOk (tbSettle t).2 := h.filter _
end Go.Proofs.Ytjiglbjpmclncaa
/-
  Tables: what becomes of a row; no program.
-/
namespace Go.Proofs.Ytjiglbjpmclncaa
open Go.RowKit
theorem rwIdx_append_self {id : Int} {l : List Rw} {r : Rw} (h : rwIdx id l = none) (hr : r.id = id) : rwIdx id (l ++ [r]) = some l.length := by
  have h1 := rwIdx_none.1 h
  refine rwIdx_at (by simp) (by simpa using hr) (fun j hj => ?_)
  rw [List.getElem_append_left hj]
  exact h1 _ (List.getElem_mem hj)
theorem rwIdx_set {id : Int} {l : List Rw} {i : Nat} {r : Rw} (h : rwIdx id l = some i) (hr : r.id = id) : rwIdx id (l.set i r) = some i := by
  obtain ⟨h1, h2, h3⟩ := rwIdx_some h
  refine rwIdx_at (by simpa using h1) (by simpa using hr) (fun j hj => ?_)
  rw [List.getElem_set_ne (by omega)]
  exact h3 j hj
theorem tbInv_yes {t : Tb} {c id at_ : Int} {o : Opn} (hm : tbMay t at_ = true) (h : tbFind t id = none) : tbInv t c id o at_ = (0, ⟨t.L ++ [rwNew c id o at_], at_⟩) ∧ tbFind (tbInv t c id o at_).2 id = some (rwNew c id o at_) := by
  have h1 := tbFind_none.1 h
  have e : tbInv t c id o at_ = (0, ⟨t.L ++ [rwNew c id o at_], at_⟩) := by unfold tbInv; rw [hm, h1]; rfl
  refine ⟨e, ?_⟩
  rw [e]
  unfold tbFind
  have h2 : rwIdx id (t.L ++ [rwNew c id o at_]) = some t.L.length := rwIdx_append_self h1 rfl
  show (match rwIdx id (t.L ++ [rwNew c id o at_]) with | none => none | some i => (t.L ++ [rwNew c id o at_])[i]?) = _
  rw [h2]
  simp
theorem tbInv_there {t : Tb} {c id at_ : Int} {o : Opn} (hm : tbMay t at_ = true) {r : Rw} (h : tbFind t id = some r) : tbInv t c id o at_ = (8, t) := by
  have h1 : (rwIdx id t.L).isSome = true := by
    cases hx : rwIdx id t.L with
    | none => have := tbFind_none.2 hx; rw [this] at h; cases h
    | some i => rfl
  unfold tbInv
  rw [hm, h1]; rfl
theorem tbEnd_yes {t : Tb} {id rk rv at_ : Int} {done : Bool} (hm : tbMay t at_ = true) {r : Rw} (h : tbFind t id = some r) (h0 : r.st = 0) : (tbEnd t id done rk rv at_).1 = 0 ∧ (tbEnd t id done rk rv at_).2.last = at_ ∧ tbFind (tbEnd t id done rk rv at_).2 id = some (rwEnd r done rk rv at_) := by
  have hid := (tbFind_some h).2
  unfold tbFind at h
  cases hx : rwIdx id t.L with
  | none => rw [hx] at h; cases h
  | some i =>
    rw [hx] at h
    have h3 : t.L[i]? = some r := h
    have e : tbEnd t id done rk rv at_ = (0, ⟨t.L.set i (rwEnd r done rk rv at_), at_⟩) := by
      unfold tbEnd
      rw [hm, hx]
      simp only [Bool.true_eq_false, ↓reduceIte, h3, h0]
    have hri : (rwEnd r done rk rv at_).id = id := by unfold rwEnd; cases done <;> exact hid
    obtain ⟨hi, -, -⟩ := rwIdx_some hx
    rw [e]
    refine ⟨rfl, rfl, ?_⟩
    unfold tbFind
    dsimp only
    rw [rwIdx_set hx hri]
    exact List.getElem?_set_self hi
theorem tbEnd_no {t : Tb} {id rk rv at_ : Int} {done : Bool} (hm : tbMay t at_ = true) (h : ∀ r, tbFind t id = some r → r.st ≠ 0) : tbEnd t id done rk rv at_ = (7, t) := by
  unfold tbEnd
  rw [hm]
  cases hx : rwIdx id t.L with
  | none => rfl
  | some i =>
    obtain ⟨hi, -, -⟩ := rwIdx_some hx
    have hf : tbFind t id = some t.L[i] := by unfold tbFind; rw [hx]; exact List.getElem?_eq_getElem hi
    have h0 := h _ hf
    simp only [Bool.true_eq_false, ↓reduceIte, List.getElem?_eq_getElem hi, h0]
theorem filter_len (L : List Rw) (st : Int) : (L.filter fun r => decide (r.st = st)).length + (L.filter fun r => decide (r.st ≠ st)).length = L.length := by
  induction L with
  | nil => rfl
  | cons r l ih =>
    by_cases h : r.st = st
    · simp [h] at ih ⊢; omega
    · simp [h] at ih ⊢; omega
theorem tbSettle_len (t : Tb) : (tbSettle t).2.L.length = t.L.length - tbCount t 1 ∧ tbCount t 1 ≤ t.L.length ∧ tbCount (tbSettle t).2 1 = 0 := by
  have h := filter_len t.L 1
  refine ⟨by unfold tbSettle tbCount; simp only []; omega, by unfold tbCount; omega, ?_⟩
  unfold tbSettle tbCount
  simp only [List.filter_filter]
  rw [List.length_eq_zero_iff, List.filter_eq_nil_iff]
  intro r _
  by_cases h1 : r.st = 1 <;> simp [h1]
/-- The last moment is told by what was OK alone. -/
theorem tbInv_last {t : Tb} {c id at_ b : Int} {o : Opn} (h : t.last < b) (ha : at_ < b) : (tbInv t c id o at_).2.last < b := by
  unfold tbInv
  split
  · exact h
  · split
    · exact h
    · exact ha
theorem tbEnd_last {t : Tb} {id rk rv at_ b : Int} {done : Bool} (h : t.last < b) (ha : at_ < b) : (tbEnd t id done rk rv at_).2.last < b := by
  unfold tbEnd
  split
  · exact h
  · cases hx : rwIdx id t.L with
    | none => exact h
    | some i =>
      obtain ⟨hi, -, -⟩ := rwIdx_some hx
      simp only [List.getElem?_eq_getElem hi]
      split
      · exact ha
      · exact h
end Go.Proofs.Ytjiglbjpmclncaa
