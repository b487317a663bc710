/-
  Answers: their bytes, their texts, what a text is parsed as; no program.
-/
import Derived.Lib.ParseIntBCases
import Derived.Lib.IndexMore
import Derived.Lib.ItoaMem
import Derived.Test.YtffldnjjijckcaaGreatDoorR01
set_option linter.unusedSimpArgs false
set_option linter.unusedVariables false
namespace Go.Proofs.YtffldnjjijckcaaGreatDoor
open Go.RowKit
/-- Is an answer valid? -/
def rsGood (k v : Int) : Bool := k == 1 || (decide (k ≤ 4) && v == 0)
def rsErr (k v : Int) : Int := if rsGood k v then 0 else 4
theorem rsErr_good {k v : Int} (h : rsGood k v = true) : rsErr k v = 0 := by simp [rsErr, h]
theorem rsErr_bad {k v : Int} (h : rsGood k v = false) : rsErr k v = 4 := by simp [rsErr, h]
/-- A kind's word. -/
def rsWord (k : Int) : List UInt8 := if k = 0 then [100, 111, 110, 101] else if k = 1 then [118, 97, 108, 117, 101] else if k = 2 then [110, 111, 110, 101] else if k = 3 then [121, 101, 115] else [110, 111]
def valueL : List UInt8 := [118, 97, 108, 117, 101, 32]
/-- An answer's text. -/
def rsTxt (k v : Int) : List UInt8 := if k = 1 then valueL ++ Lib.decDigits v.toNat else rsWord k
theorem good_cases {k v : Int} (h0 : 0 ≤ k) (h : rsGood k v = true) : k = 1 ∨ (v = 0 ∧ (k = 0 ∨ k = 2 ∨ k = 3 ∨ k = 4)) := by
  simp [rsGood] at h
  omega
/-- What ParseUint tells, the error left out. -/
def puOf (d : List UInt8) : Int := match Lib.parseUintB 16 d with | .ok u => u | .range => 65535 | _ => 0
theorem puOf_ok {d : List UInt8} {u : Nat} (h : Lib.parseUintB 16 d = .ok u) : puOf d = u := by simp [puOf, h]
theorem puOf_bounds (d : List UInt8) : 0 ≤ puOf d ∧ puOf d ≤ 65535 := by
  unfold puOf
  split
  · rename_i u h
    have := Lib.parseUintB_le h
    omega
  · omega
  · omega
/-- The program's guess. -/
def gsK (l : List UInt8) : Int := let w := (Lib.cut l [32]).1; if w = rsWord 0 then 0 else if w = rsWord 1 then 1 else if w = rsWord 2 then 2 else if w = rsWord 3 then 3 else if w = rsWord 4 then 4 else 0
def gsV (l : List UInt8) : Int := let w := (Lib.cut l [32]).1; if w = rsWord 0 ∨ w = rsWord 1 ∨ w = rsWord 2 ∨ w = rsWord 3 ∨ w = rsWord 4 then puOf (Lib.cut l [32]).2.1 else 0
theorem gsK_bounds (l : List UInt8) : 0 ≤ gsK l ∧ gsK l ≤ 4 := by
  simp only [gsK]
  repeat' split
  all_goals omega
theorem gsV_bounds (l : List UInt8) : 0 ≤ gsV l ∧ gsV l ≤ 65535 := by
  simp only [gsV]
  split
  · exact puOf_bounds _
  · omega
/-- What a text is parsed as. -/
def psOk (l : List UInt8) : Bool := rsGood (gsK l) (gsV l) && rsTxt (gsK l) (gsV l) == l
def psK (l : List UInt8) : Int := if psOk l then gsK l else 0
def psV (l : List UInt8) : Int := if psOk l then gsV l else 0
def psE (l : List UInt8) : Int := if psOk l then 0 else 4
/-- A digit. -/
def isDig (c : UInt8) : Prop := 48 ≤ c.toNat ∧ c.toNat ≤ 57
theorem dig_of (u : Nat) : (UInt8.ofNat (48 + u % 10)).toNat = 48 + u % 10 := by rw [UInt8.toNat_ofNat']; omega
theorem dec_small {u : Nat} (h : u < 10) : Lib.decDigits u = [UInt8.ofNat (48 + u % 10)] := by rw [Lib.decDigits_one h, Nat.mod_eq_of_lt h]
theorem dec_big {u : Nat} (h : ¬ u < 10) : Lib.decDigits u = Lib.decDigits (u / 10) ++ [UInt8.ofNat (48 + u % 10)] := by rw [Lib.decDigits, dif_neg h]
theorem dec_digits (u : Nat) : ∀ c ∈ Lib.decDigits u, isDig c := by
  induction u using Nat.strongRecOn with
  | ind u ih =>
    intro c hc
    by_cases h : u < 10
    · rw [dec_small h] at hc
      simp only [List.mem_singleton] at hc
      subst hc
      unfold isDig; rw [dig_of]; omega
    · rw [dec_big h] at hc
      rcases List.mem_append.1 hc with hc | hc
      · exact ih (u / 10) (by omega) c hc
      · simp only [List.mem_singleton] at hc
        subst hc
        unfold isDig; rw [dig_of]; omega
theorem dec_ne (u : Nat) : Lib.decDigits u ≠ [] := by
  by_cases h : u < 10
  · rw [dec_small h]; simp
  · rw [dec_big h]; simp
theorem dec_length_le : ∀ (n u : Nat), u < 10 ^ (n + 1) → (Lib.decDigits u).length ≤ n + 1
  | 0, u, h => by rw [dec_small (by simpa using h)]; simp
  | n + 1, u, h => by
    by_cases hs : u < 10
    · rw [dec_small hs]; simp
    · rw [dec_big hs, List.length_append]
      have := dec_length_le n (u / 10) (by rw [Nat.pow_succ] at h; omega)
      simp; omega
/-- What digits spell. -/
def spells (acc : Nat) (l : List UInt8) : Nat := l.foldl (fun a c => 10 * a + (c.toNat - 48)) acc
theorem spells_snoc (acc : Nat) (l : List UInt8) (c : UInt8) : spells acc (l ++ [c]) = 10 * spells acc l + (c.toNat - 48) := by simp [spells]
theorem spells_dec (u : Nat) : spells 0 (Lib.decDigits u) = u := by
  induction u using Nat.strongRecOn with
  | ind u ih =>
    by_cases h : u < 10
    · rw [dec_small h]
      show 10 * 0 + ((UInt8.ofNat (48 + u % 10)).toNat - 48) = u
      rw [dig_of]; omega
    · rw [dec_big h, spells_snoc, ih (u / 10) (by omega), dig_of]; omega
theorem spells_mono : ∀ (l : List UInt8) (acc : Nat), acc ≤ spells acc l
  | [], acc => Nat.le_refl _
  | c :: r, acc => by
    have := spells_mono r (10 * acc + (c.toNat - 48))
    show acc ≤ spells (10 * acc + (c.toNat - 48)) r
    omega
theorem parse_spells : ∀ (l : List UInt8) (acc : Nat), (∀ c ∈ l, isDig c) → spells acc l ≤ 65535 → Lib.parseUintM 65535 acc l = .ok (spells acc l)
  | [], acc, _, _ => rfl
  | c :: r, acc, hd, hm => by
    have hc := hd c (by simp)
    unfold isDig at hc
    have e : spells acc (c :: r) = spells (10 * acc + (c.toNat - 48)) r := rfl
    rw [e] at hm ⊢
    have h1 := spells_mono r (10 * acc + (c.toNat - 48))
    have e2 : acc * 10 + (c.toNat - 48) = 10 * acc + (c.toNat - 48) := by omega
    rw [Lib.parseUintM, if_pos hc, if_neg (by omega), if_neg (by omega), e2]
    exact parse_spells r _ (fun d hd' => hd d (by simp [hd'])) hm
theorem puOf_dec (v : Nat) (h : v ≤ 65535) : puOf (Lib.decDigits v) = v := by
  apply puOf_ok
  unfold Lib.parseUintB
  rw [if_neg (dec_ne v)]
  have := parse_spells (Lib.decDigits v) 0 (dec_digits v) (by rw [spells_dec]; exact h)
  rw [spells_dec] at this
  exact this
theorem cut_value (d : List UInt8) : Lib.cut (valueL ++ d) [32] = ([118, 97, 108, 117, 101], d, true) := by
  have : Lib.index (valueL ++ d) [32] = 5 := by simp [valueL, Lib.index, List.isPrefixOf]
  unfold Lib.cut
  rw [this]
  simp [valueL]
theorem gs_txt {k v : Int} (h0 : 0 ≤ k) (h1 : 0 ≤ v) (h2 : v ≤ 65535) (h : rsGood k v = true) : gsK (rsTxt k v) = k ∧ gsV (rsTxt k v) = v := by
  rcases good_cases h0 h with rfl | ⟨rfl, rfl | rfl | rfl | rfl⟩
  · have e : rsTxt 1 v = valueL ++ Lib.decDigits v.toNat := rfl
    rw [e]
    unfold gsK gsV
    rw [cut_value]
    refine ⟨by simp [rsWord], ?_⟩
    have := puOf_dec v.toNat (by omega)
    have hw : ([118, 97, 108, 117, 101] : List UInt8) = rsWord 0 ∨ ([118, 97, 108, 117, 101] : List UInt8) = rsWord 1 ∨ ([118, 97, 108, 117, 101] : List UInt8) = rsWord 2 ∨ ([118, 97, 108, 117, 101] : List UInt8) = rsWord 3 ∨ ([118, 97, 108, 117, 101] : List UInt8) = rsWord 4 := .inr (.inl rfl)
    simp only [if_pos hw]
    rw [this]
    omega
  all_goals exact ⟨by decide, by decide⟩
theorem ps_text {k v : Int} (h0 : 0 ≤ k) (h1 : 0 ≤ v) (h2 : v ≤ 65535) (h : rsGood k v = true) : psOk (rsTxt k v) = true ∧ psK (rsTxt k v) = k ∧ psV (rsTxt k v) = v ∧ psE (rsTxt k v) = 0 := by
  obtain ⟨hk, hv⟩ := gs_txt h0 h1 h2 h
  have ok : psOk (rsTxt k v) = true := by simp [psOk, hk, hv, h]
  exact ⟨ok, by simp [psK, ok, hk], by simp [psV, ok, hv], by simp [psE, ok]⟩
theorem ps_none {l : List UInt8} (h : ∀ k v, 0 ≤ k → 0 ≤ v → v ≤ 65535 → rsGood k v = true → rsTxt k v ≠ l) : psK l = 0 ∧ psV l = 0 ∧ psE l = 4 := by
  have no : psOk l = false := by
    by_cases hh : psOk l = true
    · simp [psOk] at hh
      exact absurd hh.2 (h _ _ (gsK_bounds l).1 (gsV_bounds l).1 (gsV_bounds l).2 hh.1)
    · simpa using hh
  simp [psK, psV, psE, no]
theorem ps_ok {l : List UInt8} (h : psE l = 0) : rsGood (psK l) (psV l) = true ∧ rsTxt (psK l) (psV l) = l := by
  have ok : psOk l = true := by
    by_cases hh : psOk l = true
    · exact hh
    · simp [psE, hh] at h
  have ok2 := ok
  simp [psOk] at ok2
  simp [psK, psV, ok, ok2]
theorem psE_two (l : List UInt8) : psE l = 0 ∨ psE l = 4 := by unfold psE; split <;> simp
theorem psK_bounds (l : List UInt8) : 0 ≤ psK l ∧ psK l ≤ 4 := by unfold psK; have := gsK_bounds l; split <;> omega
theorem psV_bounds (l : List UInt8) : 0 ≤ psV l ∧ psV l ≤ 65535 := by unfold psV; have := gsV_bounds l; split <;> omega
theorem txt_size {k v : Int} (h2 : v ≤ 65535) : (rsTxt k v).length ≤ 11 := by
  unfold rsTxt rsWord
  repeat' split
  · have := dec_length_le 4 v.toNat (by omega)
    simp [valueL]; omega
  all_goals simp
end Go.Proofs.YtffldnjjijckcaaGreatDoor
/-
  Operations: their bytes, their words, what bytes and words are read as; no program.
-/
namespace Go.Proofs.YtffldnjjijckcaaGreatDoor
open Go.RowKit
structure Opn where
  f : Int
  o : Int
  k : Int
  a : Int
  b : Int
/-- What Go's types allow. -/
structure Opn.In (x : Opn) : Prop where
  f0 : 0 ≤ x.f
  f1 : x.f < 256
  o0 : 0 ≤ x.o
  o1 : x.o < 256
  k0 : 0 ≤ x.k
  k1 : x.k < 256
  a0 : 0 ≤ x.a
  a1 : x.a < 65536
  b0 : 0 ≤ x.b
  b1 : x.b < 65536
def Opn.val (x : Opn) : Value := .agg #[.int .u8 x.f, .int .u8 x.o, .int .u8 x.k, .int .u16 x.a, .int .u16 x.b]
def opZero : Opn := ⟨0, 0, 0, 0, 0⟩
def opIs (f : Int) : Bool := decide (1 ≤ f ∧ f ≤ 11)
def opM (f : Int) : Int := if f = 4 ∨ f = 5 then 1 else if 6 ≤ f ∧ f ≤ 9 then 2 else if f = 10 ∨ f = 11 then 3 else 0
def opK (f : Int) : Bool := decide (6 ≤ f ∧ f ≤ 9)
def opA (f : Int) : Bool := decide (f = 2 ∨ f = 3 ∨ f = 4 ∨ f = 7 ∨ f = 9)
def opB (f : Int) : Bool := decide (f = 3 ∨ f = 9)
def opNm (f : Int) : List UInt8 :=
  if f = 1 then [114, 101, 97, 100] else if f = 2 then [119, 114, 105, 116, 101] else if f = 3 then [99, 97, 115] else if f = 4 then [101, 110, 113] else
  if f = 5 then [100, 101, 113] else if f = 6 then [103, 101, 116] else if f = 7 then [112, 117, 116] else if f = 8 then [100, 101, 108] else
  if f = 9 then [115, 119, 97, 112] else if f = 10 then [97, 99, 113, 117, 105, 114, 101] else if f = 11 then [114, 101, 108, 101, 97, 115, 101] else []
def opGood (x : Opn) : Bool := opIs x.f && decide (x.o < 8) && decide (x.k < 8) && (opK x.f || x.k == 0) && (opA x.f || x.a == 0) && (opB x.f || x.b == 0)
theorem is_cases {f : Int} (h : opIs f = true) : f = 1 ∨ f = 2 ∨ f = 3 ∨ f = 4 ∨ f = 5 ∨ f = 6 ∨ f = 7 ∨ f = 8 ∨ f = 9 ∨ f = 10 ∨ f = 11 := by
  simp [opIs] at h; omega
structure Good (x : Opn) : Prop where
  is : opIs x.f = true
  o : x.o < 8
  k : x.k < 8
  key : opK x.f = true ∨ x.k = 0
  a : opA x.f = true ∨ x.a = 0
  b : opB x.f = true ∨ x.b = 0
theorem good_iff (x : Opn) : opGood x = true ↔ Good x := by
  simp only [opGood, Bool.and_eq_true, Bool.or_eq_true, decide_eq_true_eq, beq_iff_eq]
  exact ⟨fun ⟨⟨⟨⟨⟨h1, h2⟩, h3⟩, h4⟩, h5⟩, h6⟩ => ⟨h1, h2, h3, h4, h5, h6⟩, fun ⟨h1, h2, h3, h4, h5, h6⟩ => ⟨⟨⟨⟨⟨h1, h2⟩, h3⟩, h4⟩, h5⟩, h6⟩⟩
/-- An operation's bytes. -/
def opPut (x : Opn) : List Int := [x.f, x.o] ++ (if opK x.f then [x.k] else []) ++ (if opA x.f then [x.a / 256, x.a % 256] else []) ++ (if opB x.f then [x.b / 256, x.b % 256] else [])
end Go.Proofs.YtffldnjjijckcaaGreatDoor
/-
  Operations' words, and what words are parsed as; no program.
-/
namespace Go.Proofs.YtffldnjjijckcaaGreatDoor
open Go.RowKit
def dec (n : Int) : List UInt8 := Lib.decDigits n.toNat
/-- An operation's words. -/
def opWords (x : Opn) : List (List UInt8) := [dec x.o, opNm x.f] ++ (if opK x.f then [dec x.k] else []) ++ (if opA x.f then [dec x.a] else []) ++ (if opB x.f then [dec x.b] else [])
def opWA (f : Int) : Nat := 2 + (if opK f then 1 else 0)
def opWB (f : Int) : Nat := opWA f + (if opA f then 1 else 0)
def opWN (f : Int) : Nat := opWB f + (if opB f then 1 else 0)
def opNamed (w : List UInt8) : Int := if w = opNm 1 then 1 else if w = opNm 2 then 2 else if w = opNm 3 then 3 else if w = opNm 4 then 4 else if w = opNm 5 then 5 else if w = opNm 6 then 6 else if w = opNm 7 then 7 else if w = opNm 8 then 8 else if w = opNm 9 then 9 else if w = opNm 10 then 10 else if w = opNm 11 then 11 else 0
theorem named_nm {f : Int} (h : opIs f = true) : opNamed (opNm f) = f := by
  rcases is_cases h with rfl | rfl | rfl | rfl | rfl | rfl | rfl | rfl | rfl | rfl | rfl <;> decide
theorem named_bounds (w : List UInt8) : 0 ≤ opNamed w ∧ opNamed w ≤ 11 := by
  unfold opNamed; repeat' split
  all_goals omega
theorem named_is {w : List UInt8} (h : opIs (opNamed w) = true) : opNm (opNamed w) = w := by
  unfold opNamed at *
  repeat' split at h
  all_goals first | (simp [opIs] at h; done) | (rename_i e; simp_all)
theorem named_of {w : List UInt8} {f : Int} (hf : opIs f = true) (h : opNm f = w) : opNamed w = f := by rw [← h]; exact named_nm hf
theorem named_no {w : List UInt8} (h : ∀ f, opIs f = true → opNm f ≠ w) : opNamed w = 0 := by
  have hb := named_bounds w
  by_cases h1 : opNamed w = 0
  · exact h1
  · have : opIs (opNamed w) = true := by simp [opIs]; omega
    exact absurd (named_is this) (h _ this)
/-- What the words l can be. -/
def psGuess (l : List (List UInt8)) : Opn :=
  let f := opNamed (l.getD 1 [])
  ⟨f, puOf (l.getD 0 []) % 256, if opK f then puOf (l.getD 2 []) % 256 else 0, if opA f then puOf (l.getD (opWA f) []) else 0, if opB f then puOf (l.getD (opWB f) []) else 0⟩
theorem guess_in (l : List (List UInt8)) : (psGuess l).In := by
  have hn := named_bounds (l.getD 1 [])
  refine ⟨by simp only [psGuess]; omega, by simp only [psGuess]; omega, by simp only [psGuess]; omega, by simp only [psGuess]; omega, ?_, ?_, ?_, ?_, ?_, ?_⟩
  all_goals
    simp only [psGuess]
    split
    · have := puOf_bounds (l.getD 2 [])
      have := puOf_bounds (l.getD (opWA (opNamed (l.getD 1 []))) [])
      have := puOf_bounds (l.getD (opWB (opNamed (l.getD 1 []))) [])
      omega
    · omega
theorem puOf_dec2 {n : Int} (h0 : 0 ≤ n) (h1 : n < 65536) : puOf (dec n) = n := by
  unfold dec
  rw [puOf_dec _ (by omega)]; omega
theorem words_length (x : Opn) : (opWords x).length = opWN x.f := by
  unfold opWords opWN opWB opWA
  cases opK x.f <;> cases opA x.f <;> cases opB x.f <;> rfl
theorem guess_words {x : Opn} (hx : x.In) (hg : Good x) : psGuess (opWords x) = x := by
  obtain ⟨f0, f1, o0, o1, k0, k1, a0, a1, b0, b1⟩ := hx
  obtain ⟨is, go, gk, gkey, ga, gb⟩ := hg
  obtain ⟨f, o, k, a, b⟩ := x
  simp only at *
  have hf : opNamed ((opWords ⟨f, o, k, a, b⟩).getD 1 []) = f := by
    have : (opWords ⟨f, o, k, a, b⟩).getD 1 [] = opNm f := by simp [opWords]
    rw [this]; exact named_nm is
  have po := puOf_dec2 o0 (by omega)
  have pk := puOf_dec2 k0 (by omega)
  have pa := puOf_dec2 a0 a1
  have pb := puOf_dec2 b0 b1
  have mo : o % 256 = o := by omega
  have mk : k % 256 = k := by omega
  unfold psGuess
  rw [hf]
  simp only [opWords, opWA, opWB] at *
  cases hk : opK f <;> cases ha : opA f <;> cases hb : opB f <;> simp [hk, ha, hb] at gkey ga gb ⊢ <;> simp [po, pk, pa, pb, mo, mk, gkey, ga, gb]
/-- What words are parsed as. -/
def opsOk (l : List (List UInt8)) : Bool := opGood (psGuess l) && opWords (psGuess l) == l
def opsX (l : List (List UInt8)) : Opn := if opsOk l then psGuess l else opZero
def opsE (l : List (List UInt8)) : Int := if opsOk l then 0 else 4
theorem ops_yes {x : Opn} {l : List (List UInt8)} (hx : x.In) (hg : Good x) (h : opWords x = l) : opsX l = x ∧ opsE l = 0 := by
  have e : psGuess l = x := by rw [← h]; exact guess_words hx hg
  have ok : opsOk l = true := by simp [opsOk, e, (good_iff x).2 hg, h]
  simp [opsX, opsE, ok, e]
theorem ops_no {l : List (List UInt8)} (h : ∀ x : Opn, x.In → Good x → opWords x ≠ l) : opsX l = opZero ∧ opsE l = 4 := by
  have no : opsOk l = false := by
    by_cases hh : opsOk l = true
    · simp [opsOk] at hh
      exact absurd hh.2 (h _ (guess_in l) ((good_iff _).1 hh.1))
    · simpa using hh
  simp [opsX, opsE, no]
theorem ops_ok {l : List (List UInt8)} (h : opsE l = 0) : Good (opsX l) ∧ opWords (opsX l) = l ∧ (opsX l).In := by
  have ok : opsOk l = true := by
    by_cases hh : opsOk l = true
    · exact hh
    · simp [opsE, hh] at h
  have ok2 := ok
  simp [opsOk] at ok2
  simp only [opsX, ok, if_true]
  exact ⟨(good_iff _).1 ok2.1, ok2.2, guess_in l⟩
theorem opsE_two (l : List (List UInt8)) : opsE l = 0 ∨ opsE l = 4 := by unfold opsE; split <;> simp
theorem zero_in : opZero.In := by constructor <;> simp [opZero]
theorem opsX_in (l : List (List UInt8)) : (opsX l).In := by unfold opsX; split; exact guess_in l; exact zero_in
/-- A word's number: -1 if it is none. -/
def numOk (s : List UInt8) : Bool := decide (1 ≤ s.length) && decide (s.length ≤ 5) && (s.getD 0 0 != 48 || s.length == 1) && s.all (fun c => decide (48 ≤ c.toNat) && decide (c.toNat ≤ 57)) && decide (spells 0 s ≤ 65535)
def wordNum (s : List UInt8) : Int := if numOk s then spells 0 s else -1
theorem dec_head : ∀ (u : Nat), (Lib.decDigits u).getD 0 0 = 48 → u = 0 := by
  intro u
  induction u using Nat.strongRecOn with
  | ind u ih =>
    intro h
    by_cases hs : u < 10
    · rw [dec_small hs] at h
      have h2 := congrArg UInt8.toNat h
      have e : ([UInt8.ofNat (48 + u % 10)] : List UInt8).getD 0 0 = UInt8.ofNat (48 + u % 10) := rfl
      rw [e, dig_of] at h2
      simp at h2; omega
    · rw [dec_big hs] at h
      have hne := dec_ne (u / 10)
      have h3 : (Lib.decDigits (u / 10)).getD 0 0 = 48 := by
        cases hd : Lib.decDigits (u / 10) with
        | nil => exact absurd hd hne
        | cons c r => rw [hd] at h; simpa using h
      have := ih (u / 10) (by omega) h3
      omega
theorem wordNum_dec {n : Int} (h0 : 0 ≤ n) (h1 : n < 65536) : wordNum (dec n) = n := by
  have hd := dec_digits n.toNat
  have hl := dec_length_le 4 n.toNat (by omega)
  have hs := spells_dec n.toNat
  have hne : 1 ≤ (Lib.decDigits n.toNat).length := List.length_pos_iff.2 (dec_ne _)
  have hall : (Lib.decDigits n.toNat).all (fun c => decide (48 ≤ c.toNat) && decide (c.toNat ≤ 57)) = true := by
    rw [List.all_eq_true]; intro c hc
    have := hd c hc
    unfold isDig at this
    simp [this]
  have hz : ((Lib.decDigits n.toNat).getD 0 0 != 48 || (Lib.decDigits n.toNat).length == 1) = true := by
    by_cases h : (Lib.decDigits n.toNat).getD 0 0 = 48
    · have := dec_head _ h
      rw [this, dec_small (by omega)]; rfl
    · have : ((Lib.decDigits n.toNat).getD 0 0 != 48) = true := by simpa using h
      rw [this]; rfl
  have ok : numOk (dec n) = true := by
    unfold numOk dec
    rw [hz, hall, hs]
    simp; omega
  unfold wordNum
  rw [if_pos ok]; unfold dec; rw [hs]; omega
/-- Digits with no zero ahead are those of what they spell. -/
theorem dec_spells : ∀ (n : Nat) (s : List UInt8), s.length = n → s ≠ [] → (∀ c ∈ s, isDig c) → (s.getD 0 0 ≠ 48 ∨ s.length = 1) → Lib.decDigits (spells 0 s) = s
  | 0, s, hn, hne, _, _ => by simp at hn; exact absurd hn hne
  | n + 1, s, hn, hne, hd, hz => by
    obtain ⟨t, c, rfl⟩ : ∃ t c, s = t ++ [c] := ⟨s.dropLast, s.getLast hne, (List.dropLast_concat_getLast hne).symm⟩
    have hc := hd c (by simp)
    unfold isDig at hc
    have hcc : UInt8.ofNat (48 + (c.toNat - 48)) = c := by
      have e : 48 + (c.toNat - 48) = c.toNat := by omega
      rw [e]; simp
    rw [spells_snoc]
    by_cases ht : t = []
    · subst ht
      have e : 10 * spells 0 [] + (c.toNat - 48) = c.toNat - 48 := by simp [spells]
      rw [e, dec_small (by omega), Nat.mod_eq_of_lt (by omega), hcc]; rfl
    · have hz2 : t.getD 0 0 ≠ 48 := by
        have hl : 0 < t.length := List.length_pos_iff.2 ht
        rcases hz with h | h
        · intro e; apply h
          rw [List.getD_eq_getElem?_getD, List.getElem?_append_left hl, ← List.getD_eq_getElem?_getD]; exact e
        · exact absurd (by simpa using h) ht
      have ih := dec_spells n t (by simp at hn; omega) ht (fun d h => hd d (by simp [h])) (.inl hz2)
      have hpos : spells 0 t ≠ 0 := by
        intro e
        rw [e, dec_small (by omega)] at ih
        apply hz2; rw [← ih]; rfl
      have e1 : (10 * spells 0 t + (c.toNat - 48)) / 10 = spells 0 t := by omega
      have e2 : (10 * spells 0 t + (c.toNat - 48)) % 10 = c.toNat - 48 := by omega
      rw [dec_big (by omega), e1, e2, ih, hcc]
theorem wordNum_ok {s : List UInt8} (h : 0 ≤ wordNum s) : dec (wordNum s) = s ∧ wordNum s ≤ 65535 := by
  unfold wordNum at *
  split at h
  · rename_i ok
    rw [if_pos ok]
    simp only [numOk, Bool.and_eq_true, Bool.or_eq_true, decide_eq_true_eq, bne_iff_ne, ne_eq, beq_iff_eq, List.all_eq_true] at ok
    obtain ⟨⟨⟨⟨h1, h2⟩, h3⟩, h4⟩, h5⟩ := ok
    refine ⟨?_, by omega⟩
    unfold dec
    rw [Int.toNat_natCast]
    exact dec_spells _ s rfl (fun e => by rw [e] at h1; simp at h1) (fun c hc => h4 c hc) h3
  · omega
theorem wordNum_bounds (s : List UInt8) : -1 ≤ wordNum s ∧ wordNum s ≤ 65535 := by
  by_cases h : 0 ≤ wordNum s
  · have := (wordNum_ok h).2; omega
  · unfold wordNum at *; split at h <;> simp_all
/-- Are words those of an operation, as the document tells it? -/
structure Said (l : List (List UInt8)) (f : Int) : Prop where
  is : opIs f = true
  nm : l.getD 1 [] = opNm f
  len : l.length = opWN f
  num : ∀ i, i < l.length → i ≠ 1 → 0 ≤ wordNum (l.getD i [])
  o : wordNum (l.getD 0 []) < 8
  k : opK f = true → wordNum (l.getD 2 []) < 8
def saidOp (l : List (List UInt8)) (f : Int) : Opn := ⟨f, wordNum (l.getD 0 []), if opK f then wordNum (l.getD 2 []) else 0, if opA f then wordNum (l.getD (opWA f) []) else 0, if opB f then wordNum (l.getD (opWB f) []) else 0⟩
theorem opWN_le (f : Int) : 2 ≤ opWN f ∧ opWN f ≤ 5 := by
  unfold opWN opWB opWA
  repeat' split
  all_goals omega
theorem bool_two (b : Bool) : b = true ∨ b = false := by cases b <;> simp
theorem said_ops {l : List (List UInt8)} {f : Int} (h : Said l f) : opsX l = saidOp l f ∧ opsE l = 0 := by
  obtain ⟨is, nm, len, num, ho, hk⟩ := h
  have hf : 1 ≤ f ∧ f ≤ 11 := by simpa [opIs] using is
  have h2 := opWN_le f
  have n0 := num 0 (by omega) (by omega)
  have b0 := wordNum_bounds (l.getD 0 [])
  apply ops_yes
  · refine ⟨by simp only [saidOp]; omega, by simp only [saidOp]; omega, by simp only [saidOp]; omega, by simp only [saidOp]; omega, ?_, ?_, ?_, ?_, ?_, ?_⟩
    all_goals
      simp only [saidOp]
      split
      · rename_i hh
        first
          | exact num 2 (by rw [len]; simp only [opWN, opWB, opWA, hh, if_true]; omega) (by omega)
          | (have := hk hh; omega)
          | exact num _ (by rw [len]; simp only [opWN, opWB, hh, if_true]; omega) (by simp only [opWB, opWA]; omega)
          | (have := wordNum_bounds (l.getD (opWA f) []); omega)
          | (have := wordNum_bounds (l.getD (opWB f) []); omega)
      · omega
  · refine ⟨is, by simp only [saidOp]; omega, ?_, ?_, ?_, ?_⟩
    · simp only [saidOp]
      split
      · rename_i hh; exact hk hh
      · omega
    all_goals
      simp only [saidOp]
      split
      · rename_i hh; exact .inl hh
      · exact .inr rfl
  · have hl : (opWords (saidOp l f)).length = l.length := by rw [words_length, len]; rfl
    apply List.ext_getElem hl
    intro i h5 h6
    have e : l[i] = l.getD i [] := by rw [List.getD, List.getElem?_eq_getElem h6]; rfl
    have e2 : (opWords (saidOp l f))[i] = (opWords (saidOp l f)).getD i [] := by rw [List.getD, List.getElem?_eq_getElem h5]; rfl
    rw [e, e2]
    have back : ∀ j, j < l.length → j ≠ 1 → dec (wordNum (l.getD j [])) = l.getD j [] := fun j hj h1 => (wordNum_ok (num j hj h1)).1
    simp only [opWords, saidOp, opWN, opWB, opWA] at len ⊢
    rcases bool_two (opK f) with hk | hk <;> rcases bool_two (opA f) with ha | ha <;> rcases bool_two (opB f) with hb | hb <;> simp only [hk, ha, hb, if_true, if_false, Bool.false_eq_true] at len ⊢
    all_goals
      rcases (by omega : i = 0 ∨ i = 1 ∨ i = 2 ∨ i = 3 ∨ i = 4) with rfl | rfl | rfl | rfl | rfl
    all_goals first
      | omega
      | exact nm.symm
      | exact back _ (by omega) (by omega)
theorem said_none {l : List (List UInt8)} (h : ∀ f, ¬ Said l f) : opsX l = opZero ∧ opsE l = 4 := by
  apply ops_no
  intro x hx hg e
  apply h x.f
  obtain ⟨f0, f1, o0, o1, k0, k1, a0, a1, b0, b1⟩ := hx
  obtain ⟨is, go, gk, gkey, ga, gb⟩ := hg
  have hn : ∀ n, 0 ≤ n → n < 65536 → 0 ≤ wordNum (dec n) := fun n n0 n1 => by rw [wordNum_dec n0 n1]; exact n0
  have z0 : l.getD 0 [] = dec x.o := by rw [← e]; rfl
  have len := words_length x
  rw [e] at len
  refine ⟨is, by rw [← e]; rfl, len, ?_, by rw [z0, wordNum_dec o0 (by omega)]; exact go, ?_⟩
  · intro i hi h1
    subst e
    have mem : (opWords x).getD i [] = dec x.o ∨ (opWords x).getD i [] = dec x.k ∨ (opWords x).getD i [] = dec x.a ∨ (opWords x).getD i [] = dec x.b := by
      simp only [opWords, opWN, opWB, opWA] at len hi ⊢
      rcases bool_two (opK x.f) with hk | hk <;> rcases bool_two (opA x.f) with ha | ha <;> rcases bool_two (opB x.f) with hb | hb <;> simp only [hk, ha, hb, if_true, if_false, Bool.false_eq_true] at len hi ⊢
      all_goals
        have h5 : i < 5 := by omega
        rcases (by omega : i = 0 ∨ i = 1 ∨ i = 2 ∨ i = 3 ∨ i = 4) with rfl | rfl | rfl | rfl | rfl
      all_goals first
        | omega
        | exact .inl rfl
        | exact .inr (.inl rfl)
        | exact .inr (.inr (.inl rfl))
        | exact .inr (.inr (.inr rfl))
    rcases mem with h | h | h | h <;> rw [h] <;> exact hn _ (by omega) (by omega)
  · intro hk
    have : l.getD 2 [] = dec x.k := by rw [← e]; simp [opWords, hk]
    rw [this, wordNum_dec k0 (by omega)]; exact gk
end Go.Proofs.YtffldnjjijckcaaGreatDoor
/-
  Events: which are valid, what their bytes are; no program.
-/
namespace Go.Proofs.YtffldnjjijckcaaGreatDoor
open Go.RowKit
structure Mic where
  rd : Bool
  key : Int
  v : Int
structure Cfg where
  m : Int
  mo : Int
  ms : Int
  mt : Int
  p : Bool
  cu : Bool
  me : Bool
structure Ev where
  k : Int
  c : Int
  id : Int
  o : Opn
  rk : Int
  rv : Int
  t : List Mic
  r : List (List Int)
  g : Cfg
def cfgZero : Cfg := ⟨0, 0, 0, 0, false, false, false⟩
def evZero : Ev := ⟨0, 0, 0, opZero, 0, 0, [], [], cfgZero⟩
/-- The cells of an event, its lists as they lie in memory. -/
def evC (x : Ev) (tx rd : Value) : Array Value :=
  #[.int .u8 x.k, .int .u8 x.c, .int .u16 x.id, .int .u8 x.o.f, .int .u8 x.o.o, .int .u8 x.o.k, .int .u16 x.o.a, .int .u16 x.o.b, .int .u8 x.rk, .int .u16 x.rv, tx, rd,
    .int .u8 x.g.m, .int .i64 x.g.mo, .int .i64 x.g.ms, .int .i64 x.g.mt, .bool x.g.p, .bool x.g.cu, .bool x.g.me]
/-- What Go's types allow. -/
structure Mic.In (m : Mic) : Prop where
  k0 : 0 ≤ m.key
  k1 : m.key < 256
  v0 : 0 ≤ m.v
  v1 : m.v < 65536
structure Ev.In (x : Ev) : Prop where
  k0 : 0 ≤ x.k
  k1 : x.k < 256
  c0 : 0 ≤ x.c
  c1 : x.c < 256
  i0 : 0 ≤ x.id
  i1 : x.id < 65536
  o : x.o.In
  rk0 : 0 ≤ x.rk
  rk1 : x.rk < 256
  rv0 : 0 ≤ x.rv
  rv1 : x.rv < 65536
  t : ∀ m ∈ x.t, m.In
  r : ∀ l ∈ x.r, InU16 l
  m0 : 0 ≤ x.g.m
  m1 : x.g.m < 256
  mo0 : -9223372036854775808 ≤ x.g.mo
  mo1 : x.g.mo ≤ 9223372036854775807
  ms0 : -9223372036854775808 ≤ x.g.ms
  ms1 : x.g.ms ≤ 9223372036854775807
  mt0 : -9223372036854775808 ≤ x.g.mt
  mt1 : x.g.mt ≤ 9223372036854775807
/-- What an event's kind needs, all else zero. -/
def evWho (x : Ev) : Ev := { evZero with k := x.k, c := x.c, id := x.id }
def evNeed (x : Ev) : Ev :=
  if x.k = 1 then { evZero with k := x.k, g := x.g } else if x.k = 2 then { evWho x with o := x.o } else if x.k = 3 then { evWho x with rk := x.rk, rv := x.rv } else
  if x.k = 5 then { evWho x with t := x.t } else if x.k = 6 then { evWho x with r := x.r } else evWho x
def micGood (m : Mic) : Bool := decide (m.key < 8) && !(m.rd && m.v != 0)
def cfgGood (g : Cfg) : Bool := decide (g.m ≤ 4) && decide (1 ≤ g.mo ∧ g.mo ≤ 32) && decide (1 ≤ g.ms ∧ g.ms ≤ 4096) && decide (1 ≤ g.mt ∧ g.mt ≤ 1048576)
def micsGood (t : List Mic) : Bool := decide (1 ≤ t.length ∧ t.length ≤ 8) && t.all micGood
def listsGood (r : List (List Int)) : Bool := decide (r.length ≤ 8) && r.all fun l => decide (l.length ≤ 32)
def evKind (k : Int) : Bool := decide (1 ≤ k ∧ k ≤ 7)
def evFits (x : Ev) : Bool :=
  if x.k = 1 then cfgGood x.g else if x.k = 2 then opGood x.o else if x.k = 3 then rsGood x.rk x.rv else if x.k = 5 then micsGood x.t else if x.k = 6 then listsGood x.r else true
/-- Are two events the same? -/
noncomputable def eqB {α : Type} (a b : α) : Bool := @decide (a = b) (Classical.propDecidable _)
theorem eqB_iff {α : Type} (a b : α) : eqB a b = true ↔ a = b := by unfold eqB; simp
theorem eqB_no {α : Type} {a b : α} (h : ¬ a = b) : eqB a b = false := by unfold eqB; simp [h]
noncomputable def evSame (a b : Ev) : Bool := eqB a b
theorem evSame_iff (a b : Ev) : evSame a b = true ↔ a = b := eqB_iff a b
theorem evSame_self (a : Ev) : evSame a a = true := (evSame_iff a a).2 rfl
noncomputable def evGood (x : Ev) : Bool := evKind x.k && decide (x.c < 16) && evFits x && evSame x (evNeed x)
noncomputable def evErr (x : Ev) : Int := if evGood x then 0 else 4
theorem kind_cases {k : Int} (h : evKind k = true) : k = 1 ∨ k = 2 ∨ k = 3 ∨ k = 4 ∨ k = 5 ∨ k = 6 ∨ k = 7 := by
  simp [evKind] at h; omega
theorem kind_not {k : Int} (h : evKind k = false) : ¬ (1 ≤ k ∧ k ≤ 7) := by simpa [evKind] using h
end Go.Proofs.YtffldnjjijckcaaGreatDoor
