/-
  Frames: the plain mathematics of sums, numbers of two bytes, and what stands at the beginning of bytes.
-/
import Derived.Test.YtfkmgmnbkajgaaaRows
namespace Go.Proofs.Ytfkmgmnbkajgaaa
/-- One byte more of a sum. -/
def sumStep (p : Nat × Nat) (c : UInt8) : Nat × Nat := ((p.1 + c.toNat) % 255, (p.2 + (p.1 + c.toNat) % 255) % 255)
def sumP (l : List UInt8) : Nat × Nat := l.foldl sumStep (0, 0)
def sumN (l : List UInt8) : Nat := 256 * (sumP l).2 + (sumP l).1
theorem sumP_snoc (l : List UInt8) (c : UInt8) : sumP (l ++ [c]) = sumStep (sumP l) c := by simp [sumP]
theorem sumP_lt (l : List UInt8) : (sumP l).1 < 255 ∧ (sumP l).2 < 255 := by
  have gen : ∀ (l : List UInt8) (p : Nat × Nat), p.1 < 255 ∧ p.2 < 255 → (l.foldl sumStep p).1 < 255 ∧ (l.foldl sumStep p).2 < 255 := by
    intro l
    induction l with
    | nil => intro p h; exact h
    | cons c l ih => intro p _; exact ih _ ⟨Nat.mod_lt _ (by omega), Nat.mod_lt _ (by omega)⟩
  exact gen l (0, 0) (by simp)
theorem sumN_lt (l : List UInt8) : sumN l < 65536 := by have := sumP_lt l; unfold sumN; omega
/-- A number as two bytes. -/
def twoL (m : Nat) : List UInt8 := [UInt8.ofNat (m / 256), UInt8.ofNat (m % 256)]
theorem twoL_iff (a b : UInt8) (m : Nat) (hm : m < 65536) : [a, b] = twoL m ↔ 256 * a.toNat + b.toNat = m := by
  have ha := a.toNat_lt; have hb := b.toNat_lt
  constructor
  · intro h
    simp only [twoL, List.cons.injEq, and_true] at h
    rw [h.1, h.2]
    simp only [UInt8.toNat_ofNat']
    omega
  · intro h
    subst h
    simp only [twoL, List.cons.injEq, and_true]
    constructor
    · apply UInt8.toNat_inj.1
      simp only [UInt8.toNat_ofNat']
      omega
    · apply UInt8.toNat_inj.1
      simp only [UInt8.toNat_ofNat']
      omega
/-- The number that stands at a place. -/
def numAt (l : List UInt8) (i : Nat) : Nat := 256 * (l.getD i 0).toNat + (l.getD (i + 1) 0).toNat
theorem numAt_lt (l : List UInt8) (i : Nat) : numAt l i < 65536 := by
  have h1 := (l.getD i 0).toNat_lt; have h2 := (l.getD (i + 1) 0).toNat_lt
  unfold numAt; omega
theorem getD_app (l m : List UInt8) (i : Nat) (h : i < l.length) : (l ++ m).getD i 0 = l.getD i 0 := by
  simp [List.getD, List.getElem?_append_left h]
theorem numAt_app (l m : List UInt8) (i : Nat) (h : i + 1 < l.length) : numAt (l ++ m) i = numAt l i := by
  unfold numAt; rw [getD_app _ _ _ (by omega), getD_app _ _ _ h]
theorem piece_at (l : List UInt8) (i : Nat) (h : i + 1 < l.length) : (l.drop i).take 2 = [l.getD i 0, l.getD (i + 1) 0] := by
  have h0 : i < l.length := by omega
  have e : l.drop i = l[i] :: l[i + 1] :: l.drop (i + 1 + 1) := by rw [List.drop_eq_getElem_cons h0, List.drop_eq_getElem_cons h]
  have e2 : ∀ (a b : UInt8) (r : List UInt8), (a :: b :: r).take 2 = [a, b] := fun _ _ _ => rfl
  rw [e, e2]
  simp only [List.getD, List.getElem?_eq_getElem h0, List.getElem?_eq_getElem h, Option.getD_some]
theorem piece_iff (l : List UInt8) (i m : Nat) (h : i + 1 < l.length) (hm : m < 65536) : (l.drop i).take 2 = twoL m ↔ numAt l i = m := by
  rw [piece_at l i h, twoL_iff _ _ _ hm, numAt]
/-- Four bytes that begin no frame. -/
def headBad (l : List UInt8) : Prop := numAt l 0 < 1 ∨ 600 < numAt l 0 ∨ numAt l 2 ≠ 65535 - numAt l 0
instance (l : List UInt8) : Decidable (headBad l) := by unfold headBad; infer_instance
/-- A sum that is wrong. -/
def sumBad (l : List UInt8) : Prop := numAt l (numAt l 0 + 4) ≠ sumN ((l.drop 4).take (numAt l 0))
instance (l : List UInt8) : Decidable (sumBad l) := by unfold sumBad; infer_instance
/-- What the bytes begin with: 0 more, 1 a frame, 2 bad. -/
def tellOf (l : List UInt8) : Nat := if l.length < 4 then 0 else if headBad l then 2 else if l.length < numAt l 0 + 6 then 0 else if sumBad l then 2 else 1
def payOf (l : List UInt8) : List UInt8 := if tellOf l = 1 then (l.drop 4).take (numAt l 0) else []
def sizeOf1 (l : List UInt8) : Nat := if tellOf l = 1 then numAt l 0 + 6 else 0
theorem tell_short {l : List UInt8} (h : l.length < 4) : tellOf l = 0 := by simp [tellOf, h]
theorem tell_head {l : List UInt8} (h : ¬ l.length < 4) (h2 : headBad l) : tellOf l = 2 := by simp [tellOf, h, h2]
theorem tell_part {l : List UInt8} (h : ¬ l.length < 4) (h2 : ¬ headBad l) (h3 : l.length < numAt l 0 + 6) : tellOf l = 0 := by simp [tellOf, h, h2, h3]
theorem tell_sum {l : List UInt8} (h : ¬ l.length < 4) (h2 : ¬ headBad l) (h3 : ¬ l.length < numAt l 0 + 6) (h4 : sumBad l) : tellOf l = 2 := by simp [tellOf, h, h2, h3, h4]
theorem tell_one {l : List UInt8} (h : ¬ l.length < 4) (h2 : ¬ headBad l) (h3 : ¬ l.length < numAt l 0 + 6) (h4 : ¬ sumBad l) : tellOf l = 1 := by simp [tellOf, h, h2, h3, h4]
theorem tell_cases (l : List UInt8) : tellOf l = 0 ∨ tellOf l = 1 ∨ tellOf l = 2 := by
  unfold tellOf
  repeat' split
  all_goals simp
theorem tell_inv {l : List UInt8} (h : tellOf l = 1) : 4 ≤ l.length ∧ ¬ headBad l ∧ numAt l 0 + 6 ≤ l.length ∧ ¬ sumBad l := by
  unfold tellOf at h
  split at h
  · simp at h
  · split at h
    · simp at h
    · split at h
      · simp at h
      · split at h
        · simp at h
        · exact ⟨by omega, by assumption, by omega, by assumption⟩
theorem headBad_app (l m : List UInt8) (h : 4 ≤ l.length) : headBad (l ++ m) ↔ headBad l := by
  unfold headBad; rw [numAt_app _ _ _ (by omega), numAt_app _ _ _ (by omega)]
theorem sumBad_app (l m : List UInt8) (h : numAt l 0 + 6 ≤ l.length) : sumBad (l ++ m) ↔ sumBad l := by
  have e := numAt_app l m 0 (by omega)
  unfold sumBad
  rw [e, numAt_app _ _ _ (by omega), List.drop_append_of_le_length (by omega), List.take_append_of_le_length (by simp; omega)]
/-- What is told of bytes that suffice is told with more bytes behind, too. -/
theorem tell_app (l m : List UInt8) (h : tellOf l ≠ 0) : tellOf (l ++ m) = tellOf l := by
  by_cases h4 : l.length < 4
  · exact absurd (tell_short h4) h
  have h4' : ¬ (l ++ m).length < 4 := by simp; omega
  by_cases hb : headBad l
  · rw [tell_head h4 hb, tell_head h4' ((headBad_app _ _ (by omega)).2 hb)]
  have hb' : ¬ headBad (l ++ m) := fun x => hb ((headBad_app _ _ (by omega)).1 x)
  by_cases h6 : l.length < numAt l 0 + 6
  · exact absurd (tell_part h4 hb h6) h
  have hn := numAt_app l m 0 (by omega)
  have h6' : ¬ (l ++ m).length < numAt (l ++ m) 0 + 6 := by rw [hn, List.length_append]; omega
  by_cases hs : sumBad l
  · rw [tell_sum h4 hb h6 hs, tell_sum h4' hb' h6' ((sumBad_app _ _ (by omega)).2 hs)]
  · rw [tell_one h4 hb h6 hs, tell_one h4' hb' h6' (fun x => hs ((sumBad_app _ _ (by omega)).1 x))]
theorem pay_app (l m : List UInt8) (h : tellOf l = 1) : payOf (l ++ m) = payOf l ∧ sizeOf1 (l ++ m) = sizeOf1 l := by
  have h2 := tell_app l m (by omega)
  obtain ⟨g1, _, g3, _⟩ := tell_inv h
  have hn := numAt_app l m 0 (by omega)
  unfold payOf sizeOf1
  rw [h2, if_pos h, if_pos h, if_pos h, if_pos h, hn, List.drop_append_of_le_length (by omega), List.take_append_of_le_length (by simp; omega)]
  exact ⟨rfl, rfl⟩
theorem size_one {l : List UInt8} (h : tellOf l = 1) : sizeOf1 l = numAt l 0 + 6 ∧ payOf l = (l.drop 4).take (numAt l 0) ∧ sizeOf1 l ≤ l.length ∧ 7 ≤ sizeOf1 l ∧ sizeOf1 l ≤ 606 := by
  obtain ⟨_, g2, g3, _⟩ := tell_inv h
  have e : sizeOf1 l = numAt l 0 + 6 := by rw [sizeOf1, if_pos h]
  have e2 : payOf l = (l.drop 4).take (numAt l 0) := by rw [payOf, if_pos h]
  unfold headBad at g2
  exact ⟨e, e2, by omega, by omega, by omega⟩
theorem size_none {l : List UInt8} (h : tellOf l ≠ 1) : sizeOf1 l = 0 ∧ payOf l = [] := by
  unfold sizeOf1 payOf; rw [if_neg h, if_neg h]; exact ⟨rfl, rfl⟩
/-- THE FRAME of a payload. -/
def frameL (p : List UInt8) : List UInt8 := twoL p.length ++ twoL (65535 - p.length) ++ p ++ twoL (sumN p)
theorem frameL_length (p : List UInt8) : (frameL p).length = p.length + 6 := by simp [frameL, twoL]
theorem frameL_cons (p : List UInt8) : frameL p = UInt8.ofNat (p.length / 256) :: UInt8.ofNat (p.length % 256) :: UInt8.ofNat ((65535 - p.length) / 256) :: UInt8.ofNat ((65535 - p.length) % 256) :: (p ++ twoL (sumN p)) := by simp [frameL, twoL]
theorem num_two (x y m : Nat) (hx : x = m / 256) (hy : y = m % 256) (hm : m < 65536) : 256 * (UInt8.ofNat x).toNat + (UInt8.ofNat y).toNat = m := by
  simp only [UInt8.toNat_ofNat']
  omega
theorem frame_nums (p : List UInt8) (h : p.length ≤ 600) : numAt (frameL p) 0 = p.length ∧ numAt (frameL p) 2 = 65535 - p.length ∧ numAt (frameL p) (p.length + 4) = sumN p ∧ ((frameL p).drop 4).take p.length = p := by
  have hs := sumN_lt p
  rw [frameL_cons]
  refine ⟨?_, ?_, ?_, ?_⟩
  · simp only [numAt, List.getD, List.getElem?_cons_zero, List.getElem?_cons_succ, Option.getD_some]
    exact num_two _ _ _ rfl rfl (by omega)
  · simp only [numAt, List.getD, List.getElem?_cons_zero, List.getElem?_cons_succ, Option.getD_some]
    exact num_two _ _ _ rfl rfl (by omega)
  · have e0 : (p ++ twoL (sumN p))[p.length]? = some (UInt8.ofNat (sumN p / 256)) := by simp [twoL]
    have e1 : (p ++ twoL (sumN p))[p.length + 1]? = some (UInt8.ofNat (sumN p % 256)) := by rw [List.getElem?_append_right (by omega)]; simp [twoL]
    have e : p.length + 4 + 1 = p.length + 1 + 4 := by omega
    simp only [numAt, List.getD, e]
    simp only [List.getElem?_cons_succ, e0, e1, Option.getD_some]
    exact num_two _ _ _ rfl rfl hs
  · simp
theorem frame_good (p : List UInt8) (h1 : 1 ≤ p.length) (h : p.length ≤ 600) : ¬ headBad (frameL p) ∧ ¬ sumBad (frameL p) := by
  obtain ⟨e0, e2, e3, e4⟩ := frame_nums p h
  constructor
  · unfold headBad; rw [e0, e2]; omega
  · unfold sumBad; rw [e0, e3, e4]; simp
theorem tell_frame (p r : List UInt8) (h1 : 1 ≤ p.length) (h : p.length ≤ 600) : tellOf (frameL p ++ r) = 1 ∧ payOf (frameL p ++ r) = p ∧ sizeOf1 (frameL p ++ r) = p.length + 6 := by
  obtain ⟨g1, g2⟩ := frame_good p h1 h
  obtain ⟨e0, e2, e3, e4⟩ := frame_nums p h
  have hl := frameL_length p
  have t : tellOf (frameL p) = 1 := tell_one (by omega) g1 (by omega) g2
  obtain ⟨a1, a2⟩ := pay_app (frameL p) r t
  obtain ⟨b1, b2, _⟩ := size_one t
  rw [tell_app _ _ (by omega), a1, a2, b1, b2, e0, e4]
  exact ⟨t, rfl, rfl⟩
theorem getD_take (l : List UInt8) (m i : Nat) (h : i < m) : (l.take m).getD i 0 = l.getD i 0 := by simp [List.getD, List.getElem?_take_of_lt h]
theorem tell_begin (p : List UInt8) (m : Nat) (h1 : 1 ≤ p.length) (h : p.length ≤ 600) (hm : m < p.length + 6) : tellOf ((frameL p).take m) = 0 := by
  obtain ⟨g1, g2⟩ := frame_good p h1 h
  obtain ⟨e0, e2, e3, e4⟩ := frame_nums p h
  have hl := frameL_length p
  by_cases h4 : m < 4
  · exact tell_short (by simp; omega)
  · have n0 : numAt ((frameL p).take m) 0 = p.length := by rw [← e0]; unfold numAt; rw [getD_take _ _ _ (by omega), getD_take _ _ _ (by omega)]
    have n2 : numAt ((frameL p).take m) 2 = 65535 - p.length := by rw [← e2]; unfold numAt; rw [getD_take _ _ _ (by omega), getD_take _ _ _ (by omega)]
    refine tell_part (by simp; omega) (by unfold headBad; rw [n0, n2]; omega) (by rw [n0]; simp; omega)
end Go.Proofs.Ytfkmgmnbkajgaaa
