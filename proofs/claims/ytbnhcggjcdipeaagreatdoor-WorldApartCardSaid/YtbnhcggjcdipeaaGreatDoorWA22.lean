/-
  A key map's bytes; the document's Encode, Decode.
-/
import Derived.Test.YtbnhcggjcdipeaaGreatDoorWA19
import Derived.Test.YtbnhcggjcdipeaaGreatDoorWA21
set_option linter.unusedSimpArgs false
set_option linter.unusedVariables false
namespace Go.Proofs.YtbnhcggjcdipeaaGreatDoor
open Go.RowKit
/-- The numbers' bytes; a state's. -/
def kvR : Kv → List Int
  | [] => []
  | none :: r => kvR r
  | some v :: r => v / 256 :: v % 256 :: kvR r
def kvBn (m : Kv) : List Int := (kvH m : Int) :: kvR m
theorem kvR_app : ∀ l m : Kv, kvR (l ++ m) = kvR l ++ kvR m
  | [], m => rfl
  | none :: r, m => kvR_app r m
  | some v :: r, m => by rw [List.cons_append, kvR, kvR, kvR_app r m]; rfl
theorem kvR_len : ∀ l : Kv, (kvR l).length ≤ 2 * l.length
  | [] => Nat.le_refl _
  | none :: r => by have := kvR_len r; rw [kvR, List.length_cons]; omega
  | some v :: r => by have := kvR_len r; rw [kvR, List.length_cons, List.length_cons, List.length_cons]; omega
theorem kvR_next {m : Kv} {k : Nat} (hk : k < m.length) : kvR (m.take (k + 1)) = kvR (m.take k) ++ (match m.getD k none with | some v => [v / 256, v % 256] | none => []) := by
  rw [List.take_add_one, List.getElem?_eq_getElem hk, Option.toList_some, kvR_app]
  congr 1
  rw [List.getD_eq_getElem?_getD, List.getElem?_eq_getElem hk, Option.getD_some]
  cases m[k] <;> rfl
theorem kvH_app : ∀ l m : Kv, kvH (l ++ m) = kvH l + 2 ^ l.length * kvH m
  | [], m => by simp [kvH]
  | none :: r, m => by rw [List.cons_append, kvH, kvH, kvH_app r m, List.length_cons, Nat.pow_succ, Nat.mul_add, Nat.mul_comm (2 ^ r.length) 2, Nat.mul_assoc]
  | some _ :: r, m => by rw [List.cons_append, kvH, kvH, kvH_app r m, List.length_cons, Nat.pow_succ, Nat.mul_add, Nat.mul_comm (2 ^ r.length) 2, Nat.mul_assoc, Nat.add_assoc]
/-- What is read of bytes: the error, the place, the numbers of the first keys. -/
def dkS (xs : List Int) : Nat → Int × Nat × Kv
  | 0 => (rdErr 1 xs 0 0, rdPos 1 xs 0 0, [])
  | k + 1 => if (rdVal 1 xs 0 0).toNat / 2 ^ k % 2 = 1 then (rdErr 2 xs (dkS xs k).1 (dkS xs k).2.1, rdPos 2 xs (dkS xs k).1 (dkS xs k).2.1, (dkS xs k).2.2 ++ [some (rdVal 2 xs (dkS xs k).1 (dkS xs k).2.1)])
    else ((dkS xs k).1, (dkS xs k).2.1, (dkS xs k).2.2 ++ [none])
def kvD (xs : List Int) : Kv × Int := if closeOf (dkS xs 8).1 (dkS xs 8).2.1 xs.length = 0 then ((dkS xs 8).2.2, 0) else (kv0, 4)
theorem dkS_len (xs : List Int) : ∀ k, (dkS xs k).2.2.length = k
  | 0 => rfl
  | k + 1 => by unfold dkS; split <;> simp [dkS_len xs k]
theorem rdVal2_in {xs : List Int} (hx : InU8 xs) (e : Int) (p : Nat) : 0 ≤ rdVal 2 xs e p ∧ rdVal 2 xs e p < 65536 := by
  unfold rdVal
  split
  · rename_i h
    rw [numOf_2 xs p h.2]
    have h1 := hx (p + 0); have h2 := hx (p + 1)
    omega
  · exact ⟨Int.le_refl _, by decide⟩
theorem rdVal1_in {xs : List Int} (hx : InU8 xs) (e : Int) (p : Nat) : 0 ≤ rdVal 1 xs e p ∧ rdVal 1 xs e p < 256 := by
  unfold rdVal
  split
  · rename_i h
    rw [numOf_1 xs p h.2]
    exact hx (p + 0)
  · exact ⟨Int.le_refl _, by decide⟩
theorem dkS_rng {xs : List Int} (hx : InU8 xs) : ∀ k (j : Nat) v, (dkS xs k).2.2[j]? = some (some v) → 0 ≤ v ∧ v < 65536
  | 0, j, v, h => by simp [dkS] at h
  | k + 1, j, v, h => by
    unfold dkS at h
    split at h
    · simp only [List.getElem?_append] at h
      split at h
      · exact dkS_rng hx k j v h
      · simp only [List.getElem?_singleton] at h
        split at h
        · simp only [Option.some.injEq] at h
          rw [← h]
          exact rdVal2_in hx _ _
        · cases h
    · simp only [List.getElem?_append] at h
      split at h
      · exact dkS_rng hx k j v h
      · simp only [List.getElem?_singleton] at h
        split at h <;> simp at h
theorem kvD_in {xs : List Int} (hx : InU8 xs) : KvIn (kvD xs).1 := by
  unfold kvD
  split
  · exact ⟨dkS_len xs 8, dkS_rng hx 8⟩
  · exact kv0_in
theorem nb_u8 (l : List UInt8) : InU8 (nb l) := fun j => by
  rw [nb_getD]
  have := (l.getD j 0).toNat_lt
  omega
set_option maxHeartbeats 8000000
set_option maxRecDepth 100000
end Go.Proofs.YtbnhcggjcdipeaaGreatDoor
