/-
  Frames one behind the other: the plain mathematics.
-/
import Derived.Test.YtfkmgmnbkajgaaaFr
namespace Go.Proofs.Ytfkmgmnbkajgaaa
open Go.RowKit
/-- The frames of the first texts, one behind the other. -/
def frL (ts : List ByteArray) : Nat → List UInt8
  | 0 => []
  | k + 1 => frL ts k ++ frameL (ts.getD k default).data.toList
def offAt (ts : List ByteArray) (k : Nat) : Nat := (frL ts k).length
theorem offAt_zero (ts : List ByteArray) : offAt ts 0 = 0 := rfl
theorem offAt_succ (ts : List ByteArray) (k : Nat) : offAt ts (k + 1) = offAt ts k + ((ts.getD k default).size + 6) := by
  unfold offAt
  rw [frL, List.length_append, frameL_length]
  simp
/-- Texts that may be payloads. -/
def Pays (ts : List ByteArray) (n : Nat) : Prop := ∀ j, j < n → 1 ≤ (ts.getD j default).size ∧ (ts.getD j default).size ≤ 600
theorem offAt_le (ts : List ByteArray) : ∀ n, Pays ts n → offAt ts n ≤ 606 * n := by
  intro n
  induction n with
  | zero => intro _; exact Nat.le_refl _
  | succ n ih =>
    intro h
    have h1 := ih (fun j hj => h j (by omega))
    have h2 := h n (by omega)
    rw [offAt_succ]; omega
theorem frL_split (ts : List ByteArray) (c : Nat) : ∀ n, c ≤ n → ∃ r, frL ts n = frL ts c ++ r := by
  intro n
  induction n with
  | zero => intro h; obtain rfl : c = 0 := by omega
            exact ⟨[], by simp⟩
  | succ n ih =>
    intro h
    by_cases e : c = n + 1
    · subst e; exact ⟨[], by simp⟩
    · obtain ⟨r, hr⟩ := ih (by omega)
      exact ⟨r ++ frameL (ts.getD n default).data.toList, by rw [frL, hr, List.append_assoc]⟩
theorem offAt_mono (ts : List ByteArray) (c n : Nat) (h : c ≤ n) : offAt ts c ≤ offAt ts n := by
  obtain ⟨r, hr⟩ := frL_split ts c n h
  unfold offAt; rw [hr, List.length_append]; omega
theorem frL_from (ts : List ByteArray) (c n : Nat) (h : c < n) : ∃ r, (frL ts n).drop (offAt ts c) = frameL (ts.getD c default).data.toList ++ r := by
  obtain ⟨r, hr⟩ := frL_split ts (c + 1) n h
  refine ⟨r, ?_⟩
  rw [hr, frL, List.append_assoc]
  unfold offAt
  rw [List.drop_append_of_le_length (Nat.le_refl _), List.drop_length, List.nil_append]
/-- A frame that is not whole yet. -/
theorem tell_wait (ts : List ByteArray) (c n f : Nat) (h : c < n) (hp : Pays ts n) (h2 : f < offAt ts (c + 1)) : tellOf (((frL ts n).take f).drop (offAt ts c)) = 0 := by
  obtain ⟨r, hr⟩ := frL_from ts c n h
  obtain ⟨p1, p2⟩ := hp c h
  have hl : (ts.getD c default).data.toList.length = (ts.getD c default).size := by simp
  rw [offAt_succ] at h2
  rw [List.drop_take, hr, List.take_append_of_le_length (by rw [frameL_length, hl]; omega)]
  exact tell_begin _ _ (by rw [hl]; exact p1) (by rw [hl]; exact p2) (by rw [hl]; omega)
/-- A frame that is there. -/
theorem tell_there (ts : List ByteArray) (c n f : Nat) (h : c < n) (hp : Pays ts n) (h2 : offAt ts (c + 1) ≤ f) :
    tellOf (((frL ts n).take f).drop (offAt ts c)) = 1 ∧ bs (payOf (((frL ts n).take f).drop (offAt ts c))) = ts.getD c default ∧ offAt ts c + sizeOf1 (((frL ts n).take f).drop (offAt ts c)) = offAt ts (c + 1) := by
  obtain ⟨r, hr⟩ := frL_from ts c n h
  obtain ⟨p1, p2⟩ := hp c h
  have hl : (ts.getD c default).data.toList.length = (ts.getD c default).size := by simp
  have hs := offAt_succ ts c
  rw [hs] at h2
  have e : ((frL ts n).take f).drop (offAt ts c) = frameL (ts.getD c default).data.toList ++ r.take (f - offAt ts c - (frameL (ts.getD c default).data.toList).length) := by
    rw [List.drop_take, hr, List.take_append, List.take_of_length_le (by rw [frameL_length, hl]; omega)]
  obtain ⟨t1, t2, t3⟩ := tell_frame (ts.getD c default).data.toList (r.take (f - offAt ts c - (frameL (ts.getD c default).data.toList).length)) (by rw [hl]; exact p1) (by rw [hl]; exact p2)
  rw [e, t1, t2, t3, bs_of, hs, hl]
  exact ⟨rfl, rfl, rfl⟩
/-- The offsets. -/
def offs (ts : List ByteArray) (k : Nat) : List Int := (List.range k).map fun j => (offAt ts j : Int)
theorem offs_succ (ts : List ByteArray) (k : Nat) : offs ts (k + 1) = offs ts k ++ [(offAt ts k : Int)] := by simp [offs, List.range_succ]
theorem offs_length (ts : List ByteArray) (k : Nat) : (offs ts k).length = k := by simp [offs]
theorem offs_at (ts : List ByteArray) (k j : Nat) (h : j < k) : ((offs ts k).map (Value.int .i64))[j]? = some (.int .i64 (offAt ts j)) := by simp [offs, h]
theorem bs_frL (ts : List ByteArray) (k : Nat) : bs (frL ts k) ++ bs (frameL (ts.getD k default).data.toList) = bs (frL ts (k + 1)) := by rw [bs_app, frL]
theorem Try.infoI : (Try.prog.info? 3).map (fun i => (i.zero, i.size, i.bytes)) = some (some (.int .i64 0), 1, 8) := by kernel_rfl
end Go.Proofs.Ytfkmgmnbkajgaaa
