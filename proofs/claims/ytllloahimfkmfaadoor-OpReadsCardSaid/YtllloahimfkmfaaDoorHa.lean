/-
  Answers: their bytes, their texts, what a text is parsed as; no program.
-/
import Derived.Test.YtllloahimfkmfaaDoorLa
import Derived.Lib.ParseIntBCases
import Derived.Lib.IndexMore
import Derived.Lib.ItoaMem
namespace Go.Proofs.YtllloahimfkmfaaDoor
open Go.RowKit
/-- Is an answer valid? -/
def rsGood (k v : Int) : Bool := k == 1 || (decide (k ≤ 4) && v == 0)
def rsErr (k v : Int) : Int := if rsGood k v then 0 else 4
theorem rsErr_good {k v : Int} (h : rsGood k v = true) : rsErr k v = 0 := by simp [rsErr, h]
theorem rsErr_bad {k v : Int} (h : rsGood k v = false) : rsErr k v = 4 := by simp [rsErr, h]
/-- A kind's word. -/
def rsWord (k : Int) : List UInt8 := if k = 0 then [100, 111, 110, 101] else if k = 1 then [118, 97, 108, 117, 101] else if k = 2 then [110, 111, 110, 101] else if k = 3 then [121, 101, 115] else [110, 111]
def valueL : List UInt8 := [118, 97, 108, 117, 101, 32]
/-- An answer's text. -/
def rsTxt (k v : Int) : List UInt8 := if k = 1 then valueL ++ Lib.decDigits v.toNat else rsWord k
/-- An answer's bytes. -/
def rsPut (k v : Int) : List Int := if k = 1 then [1, v / 256, v % 256] else [k]

theorem good_cases {k v : Int} (h0 : 0 ≤ k) (h : rsGood k v = true) : k = 1 ∨ (v = 0 ∧ (k = 0 ∨ k = 2 ∨ k = 3 ∨ k = 4)) := by
  simp [rsGood] at h
  omega

/-- What ParseUint tells, the error left out. -/
def puOf (d : List UInt8) : Int := match Lib.parseUintB 16 d with | .ok u => u | .range => 65535 | _ => 0
theorem puOf_ok {d : List UInt8} {u : Nat} (h : Lib.parseUintB 16 d = .ok u) : puOf d = u := by simp [puOf, h]
theorem puOf_bounds (d : List UInt8) : 0 ≤ puOf d ∧ puOf d ≤ 65535 := by
  unfold puOf
  split
  · rename_i u h
    have := Lib.parseUintB_le h
    omega
  · omega
  · omega
/-- The program's guess. -/
def gsK (l : List UInt8) : Int := let w := (Lib.cut l [32]).1; if w = rsWord 0 then 0 else if w = rsWord 1 then 1 else if w = rsWord 2 then 2 else if w = rsWord 3 then 3 else if w = rsWord 4 then 4 else 0
def gsV (l : List UInt8) : Int := let w := (Lib.cut l [32]).1; if w = rsWord 0 ∨ w = rsWord 1 ∨ w = rsWord 2 ∨ w = rsWord 3 ∨ w = rsWord 4 then puOf (Lib.cut l [32]).2.1 else 0
theorem gsK_bounds (l : List UInt8) : 0 ≤ gsK l ∧ gsK l ≤ 4 := by
  simp only [gsK]
  repeat' split
  all_goals omega
theorem gsV_bounds (l : List UInt8) : 0 ≤ gsV l ∧ gsV l ≤ 65535 := by
  simp only [gsV]
  split
  · exact puOf_bounds _
  · omega
/-- What a text is parsed as. -/
def psOk (l : List UInt8) : Bool := rsGood (gsK l) (gsV l) && rsTxt (gsK l) (gsV l) == l
def psK (l : List UInt8) : Int := if psOk l then gsK l else 0
def psV (l : List UInt8) : Int := if psOk l then gsV l else 0
def psE (l : List UInt8) : Int := if psOk l then 0 else 4

/-- A digit. -/
def isDig (c : UInt8) : Prop := 48 ≤ c.toNat ∧ c.toNat ≤ 57
theorem dig_of (u : Nat) : (UInt8.ofNat (48 + u % 10)).toNat = 48 + u % 10 := by rw [UInt8.toNat_ofNat']; omega
theorem dec_small {u : Nat} (h : u < 10) : Lib.decDigits u = [UInt8.ofNat (48 + u % 10)] := by rw [Lib.decDigits_one h, Nat.mod_eq_of_lt h]
theorem dec_big {u : Nat} (h : ¬ u < 10) : Lib.decDigits u = Lib.decDigits (u / 10) ++ [UInt8.ofNat (48 + u % 10)] := by rw [Lib.decDigits, dif_neg h]
theorem dec_digits (u : Nat) : ∀ c ∈ Lib.decDigits u, isDig c := by
  induction u using Nat.strongRecOn with
  | ind u ih =>
    intro c hc
    by_cases h : u < 10
    · rw [dec_small h] at hc
      simp only [List.mem_singleton] at hc
      subst hc
      unfold isDig; rw [dig_of]; omega
    · rw [dec_big h] at hc
      rcases List.mem_append.1 hc with hc | hc
      · exact ih (u / 10) (by omega) c hc
      · simp only [List.mem_singleton] at hc
        subst hc
        unfold isDig; rw [dig_of]; omega
theorem dec_ne (u : Nat) : Lib.decDigits u ≠ [] := by
  by_cases h : u < 10
  · rw [dec_small h]; simp
  · rw [dec_big h]; simp
theorem dec_length_le : ∀ (n u : Nat), u < 10 ^ (n + 1) → (Lib.decDigits u).length ≤ n + 1
  | 0, u, h => by rw [dec_small (by simpa using h)]; simp
  | n + 1, u, h => by
    by_cases hs : u < 10
    · rw [dec_small hs]; simp
    · rw [dec_big hs, List.length_append]
      have := dec_length_le n (u / 10) (by rw [Nat.pow_succ] at h; omega)
      simp; omega
/-- What digits spell. -/
def spells (acc : Nat) (l : List UInt8) : Nat := l.foldl (fun a c => 10 * a + (c.toNat - 48)) acc
theorem spells_snoc (acc : Nat) (l : List UInt8) (c : UInt8) : spells acc (l ++ [c]) = 10 * spells acc l + (c.toNat - 48) := by simp [spells]
theorem spells_dec (u : Nat) : spells 0 (Lib.decDigits u) = u := by
  induction u using Nat.strongRecOn with
  | ind u ih =>
    by_cases h : u < 10
    · rw [dec_small h]
      show 10 * 0 + ((UInt8.ofNat (48 + u % 10)).toNat - 48) = u
      rw [dig_of]; omega
    · rw [dec_big h, spells_snoc, ih (u / 10) (by omega), dig_of]; omega
theorem spells_mono : ∀ (l : List UInt8) (acc : Nat), acc ≤ spells acc l
  | [], acc => Nat.le_refl _
  | c :: r, acc => by
    have := spells_mono r (10 * acc + (c.toNat - 48))
    show acc ≤ spells (10 * acc + (c.toNat - 48)) r
    omega
theorem parse_spells : ∀ (l : List UInt8) (acc : Nat), (∀ c ∈ l, isDig c) → spells acc l ≤ 65535 → Lib.parseUintM 65535 acc l = .ok (spells acc l)
  | [], acc, _, _ => rfl
  | c :: r, acc, hd, hm => by
    have hc := hd c (by simp)
    unfold isDig at hc
    have e : spells acc (c :: r) = spells (10 * acc + (c.toNat - 48)) r := rfl
    rw [e] at hm ⊢
    have h1 := spells_mono r (10 * acc + (c.toNat - 48))
    have e2 : acc * 10 + (c.toNat - 48) = 10 * acc + (c.toNat - 48) := by omega
    rw [Lib.parseUintM, if_pos hc, if_neg (by omega), if_neg (by omega), e2]
    exact parse_spells r _ (fun d hd' => hd d (by simp [hd'])) hm
theorem puOf_dec (v : Nat) (h : v ≤ 65535) : puOf (Lib.decDigits v) = v := by
  apply puOf_ok
  unfold Lib.parseUintB
  rw [if_neg (dec_ne v)]
  have := parse_spells (Lib.decDigits v) 0 (dec_digits v) (by rw [spells_dec]; exact h)
  rw [spells_dec] at this
  exact this

theorem cut_value (d : List UInt8) : Lib.cut (valueL ++ d) [32] = ([118, 97, 108, 117, 101], d, true) := by
  have : Lib.index (valueL ++ d) [32] = 5 := by simp [valueL, Lib.index, List.isPrefixOf]
  unfold Lib.cut
  rw [this]
  simp [valueL]
theorem gs_txt {k v : Int} (h0 : 0 ≤ k) (h1 : 0 ≤ v) (h2 : v ≤ 65535) (h : rsGood k v = true) : gsK (rsTxt k v) = k ∧ gsV (rsTxt k v) = v := by
  rcases good_cases h0 h with rfl | ⟨rfl, rfl | rfl | rfl | rfl⟩
  · have e : rsTxt 1 v = valueL ++ Lib.decDigits v.toNat := rfl
    rw [e]
    unfold gsK gsV
    rw [cut_value]
    refine ⟨by simp [rsWord], ?_⟩
    have := puOf_dec v.toNat (by omega)
    have hw : ([118, 97, 108, 117, 101] : List UInt8) = rsWord 0 ∨ ([118, 97, 108, 117, 101] : List UInt8) = rsWord 1 ∨ ([118, 97, 108, 117, 101] : List UInt8) = rsWord 2 ∨ ([118, 97, 108, 117, 101] : List UInt8) = rsWord 3 ∨ ([118, 97, 108, 117, 101] : List UInt8) = rsWord 4 := .inr (.inl rfl)
    simp only [if_pos hw]
    rw [this]
    omega
  all_goals exact ⟨by decide, by decide⟩
theorem ps_text {k v : Int} (h0 : 0 ≤ k) (h1 : 0 ≤ v) (h2 : v ≤ 65535) (h : rsGood k v = true) : psOk (rsTxt k v) = true ∧ psK (rsTxt k v) = k ∧ psV (rsTxt k v) = v ∧ psE (rsTxt k v) = 0 := by
  obtain ⟨hk, hv⟩ := gs_txt h0 h1 h2 h
  have ok : psOk (rsTxt k v) = true := by simp [psOk, hk, hv, h]
  exact ⟨ok, by simp [psK, ok, hk], by simp [psV, ok, hv], by simp [psE, ok]⟩
theorem ps_none {l : List UInt8} (h : ∀ k v, 0 ≤ k → 0 ≤ v → v ≤ 65535 → rsGood k v = true → rsTxt k v ≠ l) : psK l = 0 ∧ psV l = 0 ∧ psE l = 4 := by
  have no : psOk l = false := by
    by_cases hh : psOk l = true
    · simp [psOk] at hh
      exact absurd hh.2 (h _ _ (gsK_bounds l).1 (gsV_bounds l).1 (gsV_bounds l).2 hh.1)
    · simpa using hh
  simp [psK, psV, psE, no]
theorem ps_ok {l : List UInt8} (h : psE l = 0) : rsGood (psK l) (psV l) = true ∧ rsTxt (psK l) (psV l) = l := by
  have ok : psOk l = true := by
    by_cases hh : psOk l = true
    · exact hh
    · simp [psE, hh] at h
  have ok2 := ok
  simp [psOk] at ok2
  simp [psK, psV, ok, ok2]
theorem psE_two (l : List UInt8) : psE l = 0 ∨ psE l = 4 := by unfold psE; split <;> simp
theorem psK_bounds (l : List UInt8) : 0 ≤ psK l ∧ psK l ≤ 4 := by unfold psK; have := gsK_bounds l; split <;> omega
theorem psV_bounds (l : List UInt8) : 0 ≤ psV l ∧ psV l ≤ 65535 := by unfold psV; have := gsV_bounds l; split <;> omega
theorem txt_size {k v : Int} (h2 : v ≤ 65535) : (rsTxt k v).length ≤ 11 := by
  unfold rsTxt rsWord
  repeat' split
  · have := dec_length_le 4 v.toNat (by omega)
    simp [valueL]; omega
  all_goals simp
end Go.Proofs.YtllloahimfkmfaaDoor
