/-
  A frame in which one byte was changed: the plain mathematics.
-/
import Derived.Test.YtfkmgmnbkajgaaaFk
namespace Go.Proofs.Ytfkmgmnbkajgaaa
open Go.RowKit
theorem sumP_fst (l : List UInt8) : (sumP l).1 = (l.map UInt8.toNat).sum % 255 := by
  have gen : ∀ (l : List UInt8) (p : Nat × Nat), p.1 < 255 → (l.foldl sumStep p).1 = (p.1 + (l.map UInt8.toNat).sum) % 255 := by
    intro l
    induction l with
    | nil => intro p h; simp; omega
    | cons c l ih =>
      intro p h
      have h2 : (sumStep p c).1 = (p.1 + c.toNat) % 255 := rfl
      rw [List.foldl_cons, ih _ (by rw [h2]; omega), h2]
      simp only [List.map_cons, List.sum_cons]
      omega
  have := gen l (0, 0) (by decide)
  simpa [sumP] using this
theorem sum_set : ∀ (p : List UInt8) (j : Nat) (x : UInt8), j < p.length → ((p.set j x).map UInt8.toNat).sum + (p.getD j 0).toNat = (p.map UInt8.toNat).sum + x.toNat := by
  intro p
  induction p with
  | nil => intro j x h; simp at h
  | cons c p ih =>
    intro j x h
    cases j with
    | zero => simp; omega
    | succ j =>
      have := ih j x (by simpa using h)
      simp only [List.set_cons_succ, List.map_cons, List.sum_cons, List.getD_cons_succ]
      omega
theorem sumN_mod (l : List UInt8) : sumN l % 256 = (l.map UInt8.toNat).sum % 255 := by
  have h := sumP_lt l
  rw [← sumP_fst]
  unfold sumN
  omega
theorem getD_set (l : List UInt8) (i k : Nat) (x : UInt8) (h : i < l.length) : (l.set i x).getD k 0 = if i = k then x else l.getD k 0 := by
  simp only [List.getD, List.getElem?_set]
  by_cases e : i = k
  · subst e; simp [h]
  · simp [e]
theorem spoilt_not (p : List UInt8) (h1 : 1 ≤ p.length) (h6 : p.length ≤ 600) (i : Nat) (x : UInt8) (hi : i < p.length + 6) (hx : x ≠ (frameL p).getD i 0)
    (h255 : ¬ (x.toNat + ((frameL p).getD i 0).toNat = 255 ∧ (x.toNat = 0 ∨ ((frameL p).getD i 0).toNat = 0))) : tellOf ((frameL p).set i x) ≠ 1 := by
  intro ht
  obtain ⟨_, g2, g3, g4⟩ := tell_inv ht
  obtain ⟨e0, e2, e3, e4⟩ := frame_nums p h6
  have hl := frameL_length p
  have hi' : i < (frameL p).length := by omega
  have hx' : x.toNat ≠ ((frameL p).getD i 0).toNat := fun e => hx (UInt8.toNat_inj.1 e)
  have hxb := x.toNat_lt
  have hcb := ((frameL p).getD i 0).toNat_lt
  unfold headBad at g2
  have k2 : numAt ((frameL p).set i x) 2 = 65535 - numAt ((frameL p).set i x) 0 ∧ 1 ≤ numAt ((frameL p).set i x) 0 ∧ numAt ((frameL p).set i x) 0 ≤ 600 := by omega
  clear g2
  by_cases h4 : i < 4
  · unfold numAt at k2 e0 e2
    rw [getD_set _ _ _ _ hi', getD_set _ _ _ _ hi', getD_set _ _ _ _ hi', getD_set _ _ _ _ hi'] at k2
    have hh : i = 0 ∨ i = 1 ∨ i = 2 ∨ i = 3 := by omega
    clear e3 e4 g3 g4 ht h255 hx hl hi'
    rw [show (0 : Nat) + 1 = 1 from rfl] at k2 e0
    rw [show (2 : Nat) + 1 = 3 from rfl] at k2 e2
    generalize frameL p = f at *
    rcases hh with rfl | rfl | rfl | rfl
    · generalize f.getD 0 0 = c0 at *
      generalize f.getD 1 0 = c1 at *
      generalize f.getD 2 0 = c2 at *
      generalize f.getD 3 0 = c3 at *
      simp at k2; omega
    · generalize f.getD 0 0 = c0 at *
      generalize f.getD 1 0 = c1 at *
      generalize f.getD 2 0 = c2 at *
      generalize f.getD 3 0 = c3 at *
      simp at k2; omega
    · generalize f.getD 0 0 = c0 at *
      generalize f.getD 1 0 = c1 at *
      generalize f.getD 2 0 = c2 at *
      generalize f.getD 3 0 = c3 at *
      simp at k2; omega
    · generalize f.getD 0 0 = c0 at *
      generalize f.getD 1 0 = c1 at *
      generalize f.getD 2 0 = c2 at *
      generalize f.getD 3 0 = c3 at *
      simp at k2; omega
  · have n0 : numAt ((frameL p).set i x) 0 = p.length := by
      rw [← e0]; unfold numAt
      rw [getD_set _ _ _ _ hi', getD_set _ _ _ _ hi', if_neg (by omega), if_neg (by omega)]
    unfold sumBad at g4
    rw [n0] at g4
    have g5 : numAt ((frameL p).set i x) (p.length + 4) = sumN ((((frameL p).set i x).drop 4).take p.length) := by
      apply Classical.byContradiction; exact g4
    have hd : (((frameL p).set i x).drop 4).take p.length = p.set (i - 4) x := by
      rw [List.drop_set, if_neg h4, List.take_set, e4]
    rw [hd] at g5
    by_cases hin : i < 4 + p.length
    · have hs := sum_set p (i - 4) x (by omega)
      have hc : (frameL p).getD i 0 = p.getD (i - 4) 0 := by
        rw [frameL_cons]
        obtain ⟨j, rfl⟩ : ∃ j, i = j + 4 := ⟨i - 4, by omega⟩
        simp only [List.getD_cons_succ, Nat.add_sub_cancel]
        exact getD_app _ _ _ (by omega)
      have n4 : numAt ((frameL p).set i x) (p.length + 4) = sumN p := by
        rw [← e3]; unfold numAt
        rw [getD_set _ _ _ _ hi', getD_set _ _ _ _ hi', if_neg (by omega), if_neg (by omega)]
      rw [n4] at g5
      have m1 := sumN_mod p
      have m2 := sumN_mod (p.set (i - 4) x)
      rw [← g5] at m2
      rw [hc] at hx' h255 hcb
      omega
    · have hps : p.set (i - 4) x = p := List.set_eq_of_length_le (by omega)
      rw [hps] at g5
      rw [← e3] at g5
      unfold numAt at g5
      rw [getD_set _ _ _ _ hi', getD_set _ _ _ _ hi'] at g5
      have hh : i = p.length + 4 ∨ i = p.length + 4 + 1 := by omega
      clear e0 e2 e3 e4 g3 g4 ht h255 hx hl hi' n0 k2 hd hps
      rcases hh with rfl | rfl
      · generalize (frameL p).getD (p.length + 4) 0 = c0 at *
        generalize (frameL p).getD (p.length + 4 + 1) 0 = c1 at *
        simp at g5; omega
      · generalize (frameL p).getD (p.length + 4) 0 = c0 at *
        generalize (frameL p).getD (p.length + 4 + 1) 0 = c1 at *
        simp at g5; omega
theorem at_str2 (s : ByteArray) (i : Nat) (h : i < s.size) : s[i] = s.data.toList.getD i 0 := by
  have h' : i < s.data.toList.length := by simpa using h
  simp [List.getD, h]
  rfl
theorem set_parts (l : List UInt8) (i : Nat) (x : UInt8) (h : i < l.length) : l.take i ++ [x] ++ l.drop (i + 1) = l.set i x := by
  rw [List.set_eq_take_append_cons_drop, if_pos h]; simp
theorem xor8 (a b : Nat) (ha : a < 256) (hb : b < 256) : bits .xor .u8 (a : Int) (b : Int) = ((a ^^^ b : Nat) : Int) := by
  have hx : a ^^^ b < 2 ^ 8 := Nat.xor_lt_two_pow (by omega) (by omega)
  have ha' : a % 2 ^ IntKind.u8.bits = a := Nat.mod_eq_of_lt (by simpa [IntKind.bits] using ha)
  have hb' : b % 2 ^ IntKind.u8.bits = b := Nat.mod_eq_of_lt (by simpa [IntKind.bits] using hb)
  simp only [bits, BitVec.ofInt_natCast, BitVec.toNat_xor, BitVec.toNat_ofNat, ha', hb']
  simp [IntKind.wrap, IntKind.bits, IntKind.signed]
  omega
theorem xor_ne (a b : Nat) (hb : b ≠ 0) : a ^^^ b ≠ a := by
  intro h
  have : a ^^^ (a ^^^ b) = a ^^^ a := by rw [h]
  rw [← Nat.xor_assoc, Nat.xor_self, Nat.zero_xor] at this
  exact hb this
end Go.Proofs.Ytfkmgmnbkajgaaa
