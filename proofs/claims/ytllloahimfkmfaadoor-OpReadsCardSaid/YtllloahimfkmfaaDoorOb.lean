/-
  Operations' words, and what words are parsed as; no program.
-/
import Derived.Test.YtllloahimfkmfaaDoorOa
namespace Go.Proofs.YtllloahimfkmfaaDoor
open Go.RowKit
def dec (n : Int) : List UInt8 := Lib.decDigits n.toNat
/-- An operation's words. -/
def opWords (x : Opn) : List (List UInt8) := [dec x.o, opNm x.f] ++ (if opK x.f then [dec x.k] else []) ++ (if opA x.f then [dec x.a] else []) ++ (if opB x.f then [dec x.b] else [])
def opWA (f : Int) : Nat := 2 + (if opK f then 1 else 0)
def opWB (f : Int) : Nat := opWA f + (if opA f then 1 else 0)
def opWN (f : Int) : Nat := opWB f + (if opB f then 1 else 0)
def opNamed (w : List UInt8) : Int := if w = opNm 1 then 1 else if w = opNm 2 then 2 else if w = opNm 3 then 3 else if w = opNm 4 then 4 else if w = opNm 5 then 5 else if w = opNm 6 then 6 else if w = opNm 7 then 7 else if w = opNm 8 then 8 else if w = opNm 9 then 9 else if w = opNm 10 then 10 else if w = opNm 11 then 11 else 0
theorem named_nm {f : Int} (h : opIs f = true) : opNamed (opNm f) = f := by
  rcases is_cases h with rfl | rfl | rfl | rfl | rfl | rfl | rfl | rfl | rfl | rfl | rfl <;> decide
theorem named_bounds (w : List UInt8) : 0 ≤ opNamed w ∧ opNamed w ≤ 11 := by
  unfold opNamed; repeat' split
  all_goals omega
theorem named_is {w : List UInt8} (h : opIs (opNamed w) = true) : opNm (opNamed w) = w := by
  unfold opNamed at *
  repeat' split at h
  all_goals first | (simp [opIs] at h; done) | (rename_i e; simp_all)
theorem named_of {w : List UInt8} {f : Int} (hf : opIs f = true) (h : opNm f = w) : opNamed w = f := by rw [← h]; exact named_nm hf
theorem named_no {w : List UInt8} (h : ∀ f, opIs f = true → opNm f ≠ w) : opNamed w = 0 := by
  have hb := named_bounds w
  by_cases h1 : opNamed w = 0
  · exact h1
  · have : opIs (opNamed w) = true := by simp [opIs]; omega
    exact absurd (named_is this) (h _ this)
/-- What the words l can be. -/
def psGuess (l : List (List UInt8)) : Opn :=
  let f := opNamed (l.getD 1 [])
  ⟨f, puOf (l.getD 0 []) % 256, if opK f then puOf (l.getD 2 []) % 256 else 0, if opA f then puOf (l.getD (opWA f) []) else 0, if opB f then puOf (l.getD (opWB f) []) else 0⟩
theorem guess_in (l : List (List UInt8)) : (psGuess l).In := by
  have hn := named_bounds (l.getD 1 [])
  refine ⟨by simp only [psGuess]; omega, by simp only [psGuess]; omega, by simp only [psGuess]; omega, by simp only [psGuess]; omega, ?_, ?_, ?_, ?_, ?_, ?_⟩
  all_goals
    simp only [psGuess]
    split
    · have := puOf_bounds (l.getD 2 [])
      have := puOf_bounds (l.getD (opWA (opNamed (l.getD 1 []))) [])
      have := puOf_bounds (l.getD (opWB (opNamed (l.getD 1 []))) [])
      omega
    · omega
theorem puOf_dec2 {n : Int} (h0 : 0 ≤ n) (h1 : n < 65536) : puOf (dec n) = n := by
  unfold dec
  rw [puOf_dec _ (by omega)]; omega
theorem words_length (x : Opn) : (opWords x).length = opWN x.f := by
  unfold opWords opWN opWB opWA
  cases opK x.f <;> cases opA x.f <;> cases opB x.f <;> rfl
theorem guess_words {x : Opn} (hx : x.In) (hg : Good x) : psGuess (opWords x) = x := by
  obtain ⟨f0, f1, o0, o1, k0, k1, a0, a1, b0, b1⟩ := hx
  obtain ⟨is, go, gk, gkey, ga, gb⟩ := hg
  obtain ⟨f, o, k, a, b⟩ := x
  simp only at *
  have hf : opNamed ((opWords ⟨f, o, k, a, b⟩).getD 1 []) = f := by
    have : (opWords ⟨f, o, k, a, b⟩).getD 1 [] = opNm f := by simp [opWords]
    rw [this]; exact named_nm is
  have po := puOf_dec2 o0 (by omega)
  have pk := puOf_dec2 k0 (by omega)
  have pa := puOf_dec2 a0 a1
  have pb := puOf_dec2 b0 b1
  have mo : o % 256 = o := by omega
  have mk : k % 256 = k := by omega
  unfold psGuess
  rw [hf]
  simp only [opWords, opWA, opWB] at *
  cases hk : opK f <;> cases ha : opA f <;> cases hb : opB f <;> simp [hk, ha, hb] at gkey ga gb ⊢ <;> simp [po, pk, pa, pb, mo, mk, gkey, ga, gb]
/-- What words are parsed as. -/
def opsOk (l : List (List UInt8)) : Bool := opGood (psGuess l) && opWords (psGuess l) == l
def opsX (l : List (List UInt8)) : Opn := if opsOk l then psGuess l else opZero
def opsE (l : List (List UInt8)) : Int := if opsOk l then 0 else 4
theorem ops_yes {x : Opn} {l : List (List UInt8)} (hx : x.In) (hg : Good x) (h : opWords x = l) : opsX l = x ∧ opsE l = 0 := by
  have e : psGuess l = x := by rw [← h]; exact guess_words hx hg
  have ok : opsOk l = true := by simp [opsOk, e, (good_iff x).2 hg, h]
  simp [opsX, opsE, ok, e]
theorem ops_no {l : List (List UInt8)} (h : ∀ x : Opn, x.In → Good x → opWords x ≠ l) : opsX l = opZero ∧ opsE l = 4 := by
  have no : opsOk l = false := by
    by_cases hh : opsOk l = true
    · simp [opsOk] at hh
      exact absurd hh.2 (h _ (guess_in l) ((good_iff _).1 hh.1))
    · simpa using hh
  simp [opsX, opsE, no]
theorem ops_ok {l : List (List UInt8)} (h : opsE l = 0) : Good (opsX l) ∧ opWords (opsX l) = l ∧ (opsX l).In := by
  have ok : opsOk l = true := by
    by_cases hh : opsOk l = true
    · exact hh
    · simp [opsE, hh] at h
  have ok2 := ok
  simp [opsOk] at ok2
  simp only [opsX, ok, if_true]
  exact ⟨(good_iff _).1 ok2.1, ok2.2, guess_in l⟩
theorem opsE_two (l : List (List UInt8)) : opsE l = 0 ∨ opsE l = 4 := by unfold opsE; split <;> simp
theorem zero_in : opZero.In := by constructor <;> simp [opZero]
theorem opsX_in (l : List (List UInt8)) : (opsX l).In := by unfold opsX; split; exact guess_in l; exact zero_in

/-- A word's number: -1 if it is none. -/
def numOk (s : List UInt8) : Bool := decide (1 ≤ s.length) && decide (s.length ≤ 5) && (s.getD 0 0 != 48 || s.length == 1) && s.all (fun c => decide (48 ≤ c.toNat) && decide (c.toNat ≤ 57)) && decide (spells 0 s ≤ 65535)
def wordNum (s : List UInt8) : Int := if numOk s then spells 0 s else -1
theorem dec_head : ∀ (u : Nat), (Lib.decDigits u).getD 0 0 = 48 → u = 0 := by
  intro u
  induction u using Nat.strongRecOn with
  | ind u ih =>
    intro h
    by_cases hs : u < 10
    · rw [dec_small hs] at h
      have h2 := congrArg UInt8.toNat h
      have e : ([UInt8.ofNat (48 + u % 10)] : List UInt8).getD 0 0 = UInt8.ofNat (48 + u % 10) := rfl
      rw [e, dig_of] at h2
      simp at h2; omega
    · rw [dec_big hs] at h
      have hne := dec_ne (u / 10)
      have h3 : (Lib.decDigits (u / 10)).getD 0 0 = 48 := by
        cases hd : Lib.decDigits (u / 10) with
        | nil => exact absurd hd hne
        | cons c r => rw [hd] at h; simpa using h
      have := ih (u / 10) (by omega) h3
      omega
theorem wordNum_dec {n : Int} (h0 : 0 ≤ n) (h1 : n < 65536) : wordNum (dec n) = n := by
  have hd := dec_digits n.toNat
  have hl := dec_length_le 4 n.toNat (by omega)
  have hs := spells_dec n.toNat
  have hne : 1 ≤ (Lib.decDigits n.toNat).length := List.length_pos_iff.2 (dec_ne _)
  have hall : (Lib.decDigits n.toNat).all (fun c => decide (48 ≤ c.toNat) && decide (c.toNat ≤ 57)) = true := by
    rw [List.all_eq_true]; intro c hc
    have := hd c hc
    unfold isDig at this
    simp [this]
  have hz : ((Lib.decDigits n.toNat).getD 0 0 != 48 || (Lib.decDigits n.toNat).length == 1) = true := by
    by_cases h : (Lib.decDigits n.toNat).getD 0 0 = 48
    · have := dec_head _ h
      rw [this, dec_small (by omega)]; rfl
    · have : ((Lib.decDigits n.toNat).getD 0 0 != 48) = true := by simpa using h
      rw [this]; rfl
  have ok : numOk (dec n) = true := by
    unfold numOk dec
    rw [hz, hall, hs]
    simp; omega
  unfold wordNum
  rw [if_pos ok]; unfold dec; rw [hs]; omega
/-- Digits with no zero ahead are those of what they spell. -/
theorem dec_spells : ∀ (n : Nat) (s : List UInt8), s.length = n → s ≠ [] → (∀ c ∈ s, isDig c) → (s.getD 0 0 ≠ 48 ∨ s.length = 1) → Lib.decDigits (spells 0 s) = s
  | 0, s, hn, hne, _, _ => by simp at hn; exact absurd hn hne
  | n + 1, s, hn, hne, hd, hz => by
    obtain ⟨t, c, rfl⟩ : ∃ t c, s = t ++ [c] := ⟨s.dropLast, s.getLast hne, (List.dropLast_concat_getLast hne).symm⟩
    have hc := hd c (by simp)
    unfold isDig at hc
    have hcc : UInt8.ofNat (48 + (c.toNat - 48)) = c := by
      have e : 48 + (c.toNat - 48) = c.toNat := by omega
      rw [e]; simp
    rw [spells_snoc]
    by_cases ht : t = []
    · subst ht
      have e : 10 * spells 0 [] + (c.toNat - 48) = c.toNat - 48 := by simp [spells]
      rw [e, dec_small (by omega), Nat.mod_eq_of_lt (by omega), hcc]; rfl
    · have hz2 : t.getD 0 0 ≠ 48 := by
        have hl : 0 < t.length := List.length_pos_iff.2 ht
        rcases hz with h | h
        · intro e; apply h
          rw [List.getD_eq_getElem?_getD, List.getElem?_append_left hl, ← List.getD_eq_getElem?_getD]; exact e
        · exact absurd (by simpa using h) ht
      have ih := dec_spells n t (by simp at hn; omega) ht (fun d h => hd d (by simp [h])) (.inl hz2)
      have hpos : spells 0 t ≠ 0 := by
        intro e
        rw [e, dec_small (by omega)] at ih
        apply hz2; rw [← ih]; rfl
      have e1 : (10 * spells 0 t + (c.toNat - 48)) / 10 = spells 0 t := by omega
      have e2 : (10 * spells 0 t + (c.toNat - 48)) % 10 = c.toNat - 48 := by omega
      rw [dec_big (by omega), e1, e2, ih, hcc]
theorem wordNum_ok {s : List UInt8} (h : 0 ≤ wordNum s) : dec (wordNum s) = s ∧ wordNum s ≤ 65535 := by
  unfold wordNum at *
  split at h
  · rename_i ok
    rw [if_pos ok]
    simp only [numOk, Bool.and_eq_true, Bool.or_eq_true, decide_eq_true_eq, bne_iff_ne, ne_eq, beq_iff_eq, List.all_eq_true] at ok
    obtain ⟨⟨⟨⟨h1, h2⟩, h3⟩, h4⟩, h5⟩ := ok
    refine ⟨?_, by omega⟩
    unfold dec
    rw [Int.toNat_natCast]
    exact dec_spells _ s rfl (fun e => by rw [e] at h1; simp at h1) (fun c hc => h4 c hc) h3
  · omega
theorem wordNum_bounds (s : List UInt8) : -1 ≤ wordNum s ∧ wordNum s ≤ 65535 := by
  by_cases h : 0 ≤ wordNum s
  · have := (wordNum_ok h).2; omega
  · unfold wordNum at *; split at h <;> simp_all
/-- Are words those of an operation, as the document tells it? -/
structure Said (l : List (List UInt8)) (f : Int) : Prop where
  is : opIs f = true
  nm : l.getD 1 [] = opNm f
  len : l.length = opWN f
  num : ∀ i, i < l.length → i ≠ 1 → 0 ≤ wordNum (l.getD i [])
  o : wordNum (l.getD 0 []) < 8
  k : opK f = true → wordNum (l.getD 2 []) < 8
def saidOp (l : List (List UInt8)) (f : Int) : Opn := ⟨f, wordNum (l.getD 0 []), if opK f then wordNum (l.getD 2 []) else 0, if opA f then wordNum (l.getD (opWA f) []) else 0, if opB f then wordNum (l.getD (opWB f) []) else 0⟩
theorem opWN_le (f : Int) : 2 ≤ opWN f ∧ opWN f ≤ 5 := by
  unfold opWN opWB opWA
  repeat' split
  all_goals omega
theorem bool_two (b : Bool) : b = true ∨ b = false := by cases b <;> simp
theorem said_ops {l : List (List UInt8)} {f : Int} (h : Said l f) : opsX l = saidOp l f ∧ opsE l = 0 := by
  obtain ⟨is, nm, len, num, ho, hk⟩ := h
  have hf : 1 ≤ f ∧ f ≤ 11 := by simpa [opIs] using is
  have h2 := opWN_le f
  have n0 := num 0 (by omega) (by omega)
  have b0 := wordNum_bounds (l.getD 0 [])
  apply ops_yes
  · refine ⟨by simp only [saidOp]; omega, by simp only [saidOp]; omega, by simp only [saidOp]; omega, by simp only [saidOp]; omega, ?_, ?_, ?_, ?_, ?_, ?_⟩
    all_goals
      simp only [saidOp]
      split
      · rename_i hh
        first
          | exact num 2 (by rw [len]; simp only [opWN, opWB, opWA, hh, if_true]; omega) (by omega)
          | (have := hk hh; omega)
          | exact num _ (by rw [len]; simp only [opWN, opWB, hh, if_true]; omega) (by simp only [opWB, opWA]; omega)
          | (have := wordNum_bounds (l.getD (opWA f) []); omega)
          | (have := wordNum_bounds (l.getD (opWB f) []); omega)
      · omega
  · refine ⟨is, by simp only [saidOp]; omega, ?_, ?_, ?_, ?_⟩
    · simp only [saidOp]
      split
      · rename_i hh; exact hk hh
      · omega
    all_goals
      simp only [saidOp]
      split
      · rename_i hh; exact .inl hh
      · exact .inr rfl
  · have hl : (opWords (saidOp l f)).length = l.length := by rw [words_length, len]; rfl
    apply List.ext_getElem hl
    intro i h5 h6
    have e : l[i] = l.getD i [] := by rw [List.getD, List.getElem?_eq_getElem h6]; rfl
    have e2 : (opWords (saidOp l f))[i] = (opWords (saidOp l f)).getD i [] := by rw [List.getD, List.getElem?_eq_getElem h5]; rfl
    rw [e, e2]
    have back : ∀ j, j < l.length → j ≠ 1 → dec (wordNum (l.getD j [])) = l.getD j [] := fun j hj h1 => (wordNum_ok (num j hj h1)).1
    simp only [opWords, saidOp, opWN, opWB, opWA] at len ⊢
    rcases bool_two (opK f) with hk | hk <;> rcases bool_two (opA f) with ha | ha <;> rcases bool_two (opB f) with hb | hb <;> simp only [hk, ha, hb, if_true, if_false, Bool.false_eq_true] at len ⊢
    all_goals
      rcases (by omega : i = 0 ∨ i = 1 ∨ i = 2 ∨ i = 3 ∨ i = 4) with rfl | rfl | rfl | rfl | rfl
    all_goals first
      | omega
      | exact nm.symm
      | exact back _ (by omega) (by omega)
theorem said_none {l : List (List UInt8)} (h : ∀ f, ¬ Said l f) : opsX l = opZero ∧ opsE l = 4 := by
  apply ops_no
  intro x hx hg e
  apply h x.f
  obtain ⟨f0, f1, o0, o1, k0, k1, a0, a1, b0, b1⟩ := hx
  obtain ⟨is, go, gk, gkey, ga, gb⟩ := hg
  have hn : ∀ n, 0 ≤ n → n < 65536 → 0 ≤ wordNum (dec n) := fun n n0 n1 => by rw [wordNum_dec n0 n1]; exact n0
  have z0 : l.getD 0 [] = dec x.o := by rw [← e]; rfl
  have len := words_length x
  rw [e] at len
  refine ⟨is, by rw [← e]; rfl, len, ?_, by rw [z0, wordNum_dec o0 (by omega)]; exact go, ?_⟩
  · intro i hi h1
    subst e
    have mem : (opWords x).getD i [] = dec x.o ∨ (opWords x).getD i [] = dec x.k ∨ (opWords x).getD i [] = dec x.a ∨ (opWords x).getD i [] = dec x.b := by
      simp only [opWords, opWN, opWB, opWA] at len hi ⊢
      rcases bool_two (opK x.f) with hk | hk <;> rcases bool_two (opA x.f) with ha | ha <;> rcases bool_two (opB x.f) with hb | hb <;> simp only [hk, ha, hb, if_true, if_false, Bool.false_eq_true] at len hi ⊢
      all_goals
        have h5 : i < 5 := by omega
        rcases (by omega : i = 0 ∨ i = 1 ∨ i = 2 ∨ i = 3 ∨ i = 4) with rfl | rfl | rfl | rfl | rfl
      all_goals first
        | omega
        | exact .inl rfl
        | exact .inr (.inl rfl)
        | exact .inr (.inr (.inl rfl))
        | exact .inr (.inr (.inr rfl))
    rcases mem with h | h | h | h <;> rw [h] <;> exact hn _ (by omega) (by omega)
  · intro hk
    have : l.getD 2 [] = dec x.k := by rw [← e]; simp [opWords, hk]
    rw [this, wordNum_dec k0 (by omega)]; exact gk
end Go.Proofs.YtllloahimfkmfaaDoor
