/-
  The document's Parse.
-/
import Derived.Test.YtgdbhblapdhlmaaDoorHf
import Derived.Test.YtgdbhblapdhlmaaDoorBh
namespace Go.Proofs.YtgdbhblapdhlmaaDoor
open Go.RowKit
theorem txt_words {k v : Int} (h0 : 0 ≤ k) (h : rsGood k v = true) : (∃ j : Nat, j < 5 ∧ rsTxt k v = rsTxt j 0) ∨ (k = 1 ∧ rsTxt k v = valueL ++ Lib.decDigits v.toNat) := by
  rcases good_cases h0 h with rfl | ⟨rfl, rfl | rfl | rfl | rfl⟩
  · exact .inr ⟨rfl, rfl⟩
  · exact .inl ⟨0, by omega, rfl⟩
  · exact .inl ⟨2, by omega, rfl⟩
  · exact .inl ⟨3, by omega, rfl⟩
  · exact .inl ⟨4, by omega, rfl⟩
theorem ps_no {l : List UInt8} (hj : ∀ j : Nat, j < 5 → rsTxt j 0 ≠ l) (hv : ∀ v : Nat, v ≤ 65535 → valueL ++ Lib.decDigits v ≠ l) : psK l = 0 ∧ psV l = 0 ∧ psE l = 4 :=
  ps_none fun k v h0 h1 h2 h => by
    rcases txt_words h0 h with ⟨j, hj5, e⟩ | ⟨rfl, e⟩
    · rw [e]; exact hj j hj5
    · rw [e]; exact hv v.toNat (by omega)
theorem good_word (j : Nat) (h : j < 5) : rsGood j 0 = true := by simp [rsGood]; omega
theorem ps_word {l : List UInt8} (j : Nat) (hj : j < 5) (h : rsTxt j 0 = l) : psK l = j ∧ psV l = 0 ∧ psE l = 0 := by
  subst h
  obtain ⟨_, h1, h2, h3⟩ := ps_text (k := j) (v := 0) (by omega) (by omega) (by omega) (good_word j hj)
  exact ⟨h1, h2, h3⟩
theorem ps_value {l : List UInt8} (v : Nat) (hv : v ≤ 65535) (h : valueL ++ Lib.decDigits v = l) : psK l = 1 ∧ psV l = v ∧ psE l = 0 := by
  have e : rsTxt 1 v = l := by rw [← h]; simp [rsTxt]
  subst e
  obtain ⟨_, h1, h2, h3⟩ := ps_text (k := 1) (v := v) (by omega) (by omega) (by omega) (by simp [rsGood])
  exact ⟨h1, h2, h3⟩
theorem spells_lt : ∀ (l : List UInt8) (acc m : Nat), (∀ c ∈ l, isDig c) → acc < m → spells acc l < m * 10 ^ l.length
  | [], acc, m, _, h => by simpa [spells] using h
  | c :: r, acc, m, hd, h => by
    have hc := hd c (by simp)
    unfold isDig at hc
    have := spells_lt r (10 * acc + (c.toNat - 48)) (m * 10) (fun d hd' => hd d (by simp [hd'])) (by omega)
    rw [List.length_cons, Nat.pow_succ, Nat.mul_comm (10 ^ r.length) 10, ← Nat.mul_assoc]
    exact this
/-- What of a text is behind 'value ', and is digits. -/
structure Digs (l : List UInt8) (k : Nat) (n : Nat) : Prop where
  low : 6 ≤ k
  high : k ≤ l.length
  digs : ∀ c ∈ (l.drop 6).take (k - 6), isDig c
  num : n = spells 0 ((l.drop 6).take (k - 6))
theorem Digs.lt {l : List UInt8} {k n : Nat} (h : Digs l k n) (hl : l.length ≤ 11) : n < 100000 := by
  have := spells_lt _ 0 1 h.digs (by omega)
  rw [← h.num] at this
  have h2 : ((l.drop 6).take (k - 6)).length ≤ 5 := by simp; omega
  have h3 : (10 : Nat) ^ ((l.drop 6).take (k - 6)).length ≤ 10 ^ 5 := Nat.pow_le_pow_right (by omega) h2
  omega
theorem Digs.step {l : List UInt8} {k n : Nat} (h : Digs l k n) (hk : k < l.length) (hc : isDig (l.getD k 0)) : Digs l (k + 1) (10 * n + ((l.getD k 0).toNat - 48)) := by
  have h6 := h.low
  have e : (l.drop 6).take (k + 1 - 6) = (l.drop 6).take (k - 6) ++ [l.getD k 0] := by
    have e1 : k + 1 - 6 = (k - 6) + 1 := by omega
    rw [e1, List.take_succ_eq_append_getElem (by simp; omega)]
    have e2 : (l.drop 6)[k - 6]'(by simp; omega) = l.getD k 0 := by
      simp [List.getD, hk]
      congr 1; omega
    rw [e2]
  refine ⟨by omega, by omega, ?_, ?_⟩
  · rw [e]
    intro c hc2
    rcases List.mem_append.1 hc2 with h1 | h1
    · exact h.digs c h1
    · simp only [List.mem_singleton] at h1; subst h1; exact hc
  · rw [e, spells_snoc, h.num]
theorem tail_dec {l : List UInt8} {v : Nat} (h : valueL ++ Lib.decDigits v = l) : l.drop 6 = Lib.decDigits v ∧ l.take 6 = valueL := by subst h; exact ⟨by simp [valueL], by simp [valueL]⟩
theorem Digs.none {l : List UInt8} {k n : Nat} (h : Digs l k n) (hk : k < l.length) (hc : ¬ isDig (l.getD k 0)) (v : Nat) : valueL ++ Lib.decDigits v ≠ l := by
  intro e
  have h6 := h.low
  have hm : l.getD k 0 ∈ l.drop 6 := by
    have e2 : (l.drop 6)[k - 6]'(by simp; omega) = l.getD k 0 := by
      simp [List.getD, hk]
      congr 1; omega
    rw [← e2]; exact List.getElem_mem _
  rw [(tail_dec e).1] at hm
  exact hc (dec_digits v _ hm)
theorem Digs.num_of {l : List UInt8} {n v : Nat} (h : Digs l l.length n) (e : valueL ++ Lib.decDigits v = l) : n = v := by
  rw [h.num, List.take_of_length_le (by simp), (tail_dec e).1, spells_dec]
end Go.Proofs.YtgdbhblapdhlmaaDoor
