/-
  What is written, all of it: its bytes, its ends.
-/
import Derived.Test.YtchenofgmmgdmaaBq
namespace Go.Proofs.Ytchenofgmmgdmaa
open Go.RowKit
def allBytes (ts : List LT) : List Int := ts.flatMap thBytes
/-- Where the first things end. -/
def endAt (ts : List LT) (k : Nat) : Nat := (allBytes (ts.take k)).length
theorem take_snoc (ts : List LT) (k : Nat) (h : k < ts.length) : ts.take (k + 1) = ts.take k ++ [ts.getD k default] := by
  rw [List.take_succ_eq_append_getElem h]
  simp [List.getD, h]
theorem allBytes_snoc (ts : List LT) (k : Nat) (h : k < ts.length) : allBytes (ts.take (k + 1)) = allBytes (ts.take k) ++ thBytes (ts.getD k default) := by
  rw [take_snoc ts k h]
  simp [allBytes]
theorem endAt_succ (ts : List LT) (k : Nat) (h : k < ts.length) : endAt ts (k + 1) = endAt ts k + (thBytes (ts.getD k default)).length := by
  unfold endAt
  rw [allBytes_snoc ts k h, List.length_append]
theorem allBytes_split (ts : List LT) (k : Nat) : allBytes ts = allBytes (ts.take k) ++ allBytes (ts.drop k) := by
  unfold allBytes
  rw [← List.flatMap_append, List.take_append_drop]
theorem drop_end (ts : List LT) (k : Nat) : (allBytes ts).drop (endAt ts k) = allBytes (ts.drop k) := by
  rw [allBytes_split ts k]
  unfold endAt
  simp
theorem drop_cons' (ts : List LT) (k : Nat) (h : k < ts.length) : allBytes (ts.drop k) = thBytes (ts.getD k default) ++ allBytes (ts.drop (k + 1)) := by
  have e : ts.getD k default = ts[k] := by simp [List.getD, h]
  rw [List.drop_eq_getElem_cons h, e]
  unfold allBytes
  rw [List.flatMap_cons]
theorem end_all (ts : List LT) : endAt ts ts.length = (allBytes ts).length := by unfold endAt; simp
theorem end_le (ts : List LT) (k : Nat) : endAt ts k ≤ (allBytes ts).length := by
  rw [allBytes_split ts k]
  unfold endAt
  simp
/-- What is at a thing's place, of all of it. -/
theorem at_whole (ts : List LT) (k : Nat) (h : k < ts.length) : (allBytes ts).drop (endAt ts k) = thBytes (ts.getD k default) ++ allBytes (ts.drop (k + 1)) := by
  rw [drop_end, drop_cons' ts k h]
/-- Of a beginning: a thing that is whole in it, and the one that is not. -/
theorem cut_whole (ts : List LT) (k c : Nat) (h : k < ts.length) (hc : endAt ts (k + 1) ≤ c) : ∃ rest, ((allBytes ts).take c).drop (endAt ts k) = thBytes (ts.getD k default) ++ rest := by
  rw [List.drop_take, at_whole ts k h]
  have := endAt_succ ts k h
  refine ⟨(allBytes (ts.drop (k + 1))).take (c - endAt ts k - (thBytes (ts.getD k default)).length), ?_⟩
  rw [List.take_append, List.take_of_length_le (by omega)]
theorem cut_torn (ts : List LT) (k c : Nat) (h : k < ts.length) (h0 : endAt ts k ≤ c) (hc : c < endAt ts (k + 1)) :
    ((allBytes ts).take c).drop (endAt ts k) <+: thBytes (ts.getD k default) ∧ (((allBytes ts).take c).drop (endAt ts k)).length < (thBytes (ts.getD k default)).length := by
  have := endAt_succ ts k h
  rw [List.drop_take, at_whole ts k h, List.take_append_of_le_length (by omega)]
  exact ⟨List.take_prefix _ _, by rw [List.length_take]; omega⟩
theorem be2_u8 (m : Int) (h0 : 0 ≤ m) (h1 : m < 65536) : ∀ c ∈ be2 m, 0 ≤ c ∧ c < 256 := by
  intro c hc; simp [be2] at hc; omega
theorem nums_mem (s : ByteArray) : ∀ c ∈ nums s, 0 ≤ c ∧ c < 256 := by
  intro c hc
  simp only [nums, List.mem_map] at hc
  obtain ⟨b, _, rfl⟩ := hc
  have := b.toNat_lt
  omega
theorem thBytes_u8 (t : LT) (n0 : 0 ≤ t.n) (n1 : t.n < 4294967296) (hu : InU16 t.ls) (hl : t.ls.length ≤ 255) : ∀ c ∈ thBytes t, 0 ≤ c ∧ c < 256 := by
  intro c hc
  unfold thBytes at hc
  split at hc
  · simp [be1] at hc; omega
  · split at hc
    · exact be2_u8 _ (by omega) (by omega) c hc
    · split at hc
      · simp [be4] at hc; omega
      · split at hc
        · exact nums_mem _ c hc
        · simp only [beList, List.mem_cons, List.mem_flatMap] at hc
          rcases hc with rfl | ⟨u, hu1, hu2⟩
          · omega
          · obtain ⟨j, hj, rfl⟩ := List.getElem_of_mem hu1
            have := hu j
            have e : t.ls.getD j 0 = t.ls[j] := by simp [List.getD, hj]
            rw [e] at this
            exact be2_u8 _ this.1 this.2 c hu2
/-- What the walk knows of all the things. -/
def Fine (ts : List LT) (k : Nat) : Prop := ∀ j, j < k → (ts.getD j default).ls.length ≤ 255
theorem allBytes_u8 (ts : List LT) (h : ∀ i, i < ts.length → 0 ≤ (ts.getD i default).n ∧ (ts.getD i default).n < 4294967296 ∧ InU16 (ts.getD i default).ls) (hf : Fine ts ts.length) : ∀ c ∈ allBytes ts, 0 ≤ c ∧ c < 256 := by
  intro c hc
  simp only [allBytes, List.mem_flatMap] at hc
  obtain ⟨t, ht, hc⟩ := hc
  obtain ⟨j, hj, rfl⟩ := List.getElem_of_mem ht
  have e : ts.getD j default = ts[j] := by simp [List.getD, hj]
  have h1 := h j hj
  have h2 := hf j hj
  rw [e] at h1 h2
  exact thBytes_u8 _ h1.1 h1.2.1 h1.2.2 h2 c hc
theorem nums_strOf {l : List Int} (h : ∀ c ∈ l, 0 ≤ c ∧ c < 256) : nums (strOfNums l) = l := by
  unfold nums
  rw [strOfNums_data, List.map_map]
  conv => rhs; rw [← List.map_id l]
  refine List.map_congr_left fun c hc => ?_
  obtain ⟨h0, h1⟩ := h c hc
  simp only [Function.comp, id]
  rw [UInt8.toNat_ofNat']
  omega
theorem allBytes_le (ts : List LT) (h : ∀ i, i < ts.length → Small (ts.getD i default)) (hf : Fine ts ts.length) : ∀ k, k ≤ ts.length → (allBytes (ts.take k)).length ≤ k * 600
  | 0, _ => by simp [allBytes]
  | k + 1, hk => by
    have ih := allBytes_le ts h hf k (by omega)
    rw [allBytes_snoc ts k (by omega), List.length_append]
    have := thBytes_length (ts.getD k default) (h k (by omega)) (fun hb => by have := hb.2.2.2.2; have := hf k (by omega); omega)
    omega
/-- The ends, as a row holds them. -/
def endsOf (ts : List LT) (k : Nat) : List Int := (List.range k).map fun j => ((endAt ts (j + 1) : Nat) : Int)
theorem endsOf_succ (ts : List LT) (k : Nat) : endsOf ts (k + 1) = endsOf ts k ++ [((endAt ts (k + 1) : Nat) : Int)] := by simp [endsOf, List.range_succ]
theorem endsOf_length (ts : List LT) (k : Nat) : (endsOf ts k).length = k := by simp [endsOf]
theorem endsOf_get (ts : List LT) (k j : Nat) (h : j < k) : ((endsOf ts k).map (Value.int .i64))[j]? = some (.int .i64 (endAt ts (j + 1) : Nat)) := by simp [endsOf, h]
end Go.Proofs.Ytchenofgmmgdmaa
