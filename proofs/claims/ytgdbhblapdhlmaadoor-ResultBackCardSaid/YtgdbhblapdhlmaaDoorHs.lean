/-
  What is taken of what was put; what was taken is what was put.
-/
import Derived.Test.YtgdbhblapdhlmaaDoorHi
namespace Go.Proofs.YtgdbhblapdhlmaaDoor
open Go.RowKit
theorem numOf_one (x : Int) : numOf [x] = x := by simp [numOf]
theorem numOf_two (x y : Int) : numOf [x, y] = x * 256 + y := by simp [numOf]
theorem tk_put {k v : Int} (h0 : 0 ≤ k) (v0 : 0 ≤ v) (v1 : v < 65536) (hg : rsGood k v = true) (ys : List Int) :
    tkK (rsPut k v ++ ys) 0 0 = k ∧ tkV (rsPut k v ++ ys) 0 0 = v ∧ tkE (rsPut k v ++ ys) 0 0 = 0 ∧ tkE2 (rsPut k v ++ ys) 0 0 = 0 ∧ tkP2 (rsPut k v ++ ys) 0 0 = (rsPut k v).length := by
  rcases good_cases h0 hg with rfl | ⟨rfl, hk⟩
  · have e : rsPut 1 v = [1, v / 256, v % 256] := rfl
    rw [e]
    have r1 : rdVal 1 ([1, v / 256, v % 256] ++ ys) 0 0 = 1 := by simp [rdVal, numOf]
    have r2 : rdErr 1 ([1, v / 256, v % 256] ++ ys) 0 0 = 0 := by simp [rdErr]
    have r3 : rdPos 1 ([1, v / 256, v % 256] ++ ys) 0 0 = 1 := by simp [rdPos]
    have r4 : rdVal 2 ([1, v / 256, v % 256] ++ ys) 0 1 = v := by simp [rdVal, numOf]; omega
    have r5 : rdErr 2 ([1, v / 256, v % 256] ++ ys) 0 1 = 0 := by simp [rdErr]
    have r6 : rdPos 2 ([1, v / 256, v % 256] ++ ys) 0 1 = 3 := by simp [rdPos]
    have q1 : tkE2 ([1, v / 256, v % 256] ++ ys) 0 0 = 0 := by rw [tkE2, if_pos r1, r2, r3, r5]
    have q2 : tkE ([1, v / 256, v % 256] ++ ys) 0 0 = 0 := by rw [tkE, q1, r1]; rfl
    refine ⟨by rw [tkK, if_pos q2, r1], by rw [tkV, if_pos q2, tkV0, if_pos r1, r2, r3, r4], q2, q1, by rw [tkP2, if_pos r1, r2, r3, r6]; rfl⟩
  · have hk1 : k ≠ 1 := by omega
    have e : rsPut k 0 = [k] := by unfold rsPut; rw [if_neg hk1]
    rw [e]
    have r1 : rdVal 1 ([k] ++ ys) 0 0 = k := by simp [rdVal, numOf]
    have r2 : rdErr 1 ([k] ++ ys) 0 0 = 0 := by simp [rdErr]
    have r3 : rdPos 1 ([k] ++ ys) 0 0 = 1 := by simp [rdPos]
    have hk2 : ¬ rdVal 1 ([k] ++ ys) 0 0 = 1 := by rw [r1]; exact hk1
    have q1 : tkE2 ([k] ++ ys) 0 0 = 0 := by rw [tkE2, if_neg hk2, r2]
    have q2 : tkE ([k] ++ ys) 0 0 = 0 := by rw [tkE, q1, r1]; simp; omega
    refine ⟨by rw [tkK, if_pos q2, r1], by rw [tkV, if_pos q2, tkV0, if_neg hk2], q2, q1, by rw [tkP2, if_neg hk2, r3]; rfl⟩
theorem rdErr_one' {xs : List Int} {e : Int} {p : Nat} (h : rdVal 1 xs e p = 1) : rdErr 1 xs e p = 0 ∧ p + 1 ≤ xs.length := by
  unfold rdVal at h
  split at h
  · rename_i h2
    exact ⟨by simp [rdErr, h2.1, h2.2], h2.2⟩
  · omega
theorem tk_back {xs : List Int} (hx : InU8 xs) (h : tkE xs 0 0 = 0) :
    rsGood (tkK xs 0 0) (tkV xs 0 0) = true ∧ rsPut (tkK xs 0 0) (tkV xs 0 0) = xs.take (tkP2 xs 0 0) ∧ tkP2 xs 0 0 ≤ xs.length ∧ 0 ≤ tkK xs 0 0 ∧ tkK xs 0 0 ≤ 4 ∧ 0 ≤ tkV xs 0 0 ∧ tkV xs 0 0 < 65536 := by
  have e2 : tkE2 xs 0 0 = 0 := by
    by_cases h2 : tkE2 xs 0 0 = 0
    · exact h2
    · rw [tkE, if_pos h2] at h; exact absurd h h2
  have h4 : ¬ 4 < rdVal 1 xs 0 0 := by
    intro h4
    simp [tkE, e2, h4] at h
  have eK : tkK xs 0 0 = rdVal 1 xs 0 0 := by rw [tkK, if_pos h]
  have eV : tkV xs 0 0 = tkV0 xs 0 0 := by rw [tkV, if_pos h]
  rw [eK, eV]
  have hb := rdVal1_b hx 0 0
  by_cases h1 : rdVal 1 xs 0 0 = 1
  · have z := rdErr_one' h1
    have hl1 : 0 + 1 ≤ xs.length := z.2
    have p1 : rdPos 1 xs 0 0 = 1 := by rw [rdPos, if_pos ⟨rfl, hl1⟩]
    have ee : tkE2 xs 0 0 = rdErr 2 xs 0 1 := by rw [tkE2, if_pos h1, z.1, p1]
    rw [ee] at e2
    have hl3 : 1 + 2 ≤ xs.length := by
      by_cases hh : 1 + 2 ≤ xs.length
      · exact hh
      · simp [rdErr, hh] at e2
    have pp : tkP2 xs 0 0 = 3 := by rw [tkP2, if_pos h1, z.1, p1, rdPos, if_pos ⟨rfl, hl3⟩]
    have vv : tkV0 xs 0 0 = xs.getD 1 0 * 256 + xs.getD 2 0 := by rw [tkV0, if_pos h1, z.1, p1, rdVal, if_pos ⟨rfl, hl3⟩, numOf_2 xs 1 hl3]
    have x0 : xs.getD 0 0 = 1 := by rw [rdVal, if_pos ⟨rfl, hl1⟩, numOf_1 xs 0 hl1] at h1; exact h1
    have b1 := hx 1
    have b2 := hx 2
    rw [h1, vv, pp]
    refine ⟨by simp [rsGood], ?_, hl3, by omega, by omega, by omega, by omega⟩
    have ex : xs.take 3 = [xs.getD 0 0, xs.getD 1 0, xs.getD 2 0] := by
      have := drop_cons xs 0 (by omega)
      rw [List.drop_zero] at this
      rw [this, drop_cons xs 1 (by omega), drop_cons xs 2 (by omega)]
      simp
    rw [ex, x0]
    show [1, _, _] = _
    congr 1
    have q1 : (xs.getD 1 0 * 256 + xs.getD 2 0) / 256 = xs.getD 1 0 := by omega
    have q2 : (xs.getD 1 0 * 256 + xs.getD 2 0) % 256 = xs.getD 2 0 := by omega
    rw [q1, q2]
  · have ee : tkE2 xs 0 0 = rdErr 1 xs 0 0 := by rw [tkE2, if_neg h1]
    rw [ee] at e2
    have hl1 : 0 + 1 ≤ xs.length := by
      by_cases hh : 0 + 1 ≤ xs.length
      · exact hh
      · rw [rdErr, if_neg (by simp), if_neg hh] at e2; omega
    have pp : tkP2 xs 0 0 = 1 := by rw [tkP2, if_neg h1, rdPos, if_pos ⟨rfl, hl1⟩]
    have vv : tkV0 xs 0 0 = 0 := by rw [tkV0, if_neg h1]
    have x0 : rdVal 1 xs 0 0 = xs.getD 0 0 := by rw [rdVal, if_pos ⟨rfl, hl1⟩, numOf_1 xs 0 hl1]
    rw [vv, pp]
    refine ⟨by simp [rsGood]; omega, ?_, by omega, by omega, by omega, by omega, by omega⟩
    have ex : xs.take 1 = [xs.getD 0 0] := by
      have := drop_cons xs 0 (by omega)
      rw [List.drop_zero] at this
      rw [this]; simp
    rw [ex, ← x0]
    unfold rsPut
    rw [if_neg h1]
theorem nums_app (xs : List Int) (hx : ∀ x ∈ xs, 0 ≤ x ∧ x < 256) (s : ByteArray) : nums (strOfNums xs ++ s) = xs ++ nums s := by
  rw [nb_nums, app_list, nb_app, ← nb_nums]
  congr 1
  show (strOfNums xs).data.toList.map _ = xs
  simp only [strOfNums, List.map_map]
  rw [List.map_congr_left (g := id)]
  · simp
  · intro x hxm
    have := hx x hxm
    simp only [Function.comp, id]
    rw [UInt8.toNat_ofNat']
    omega
theorem put_bytes {k v : Int} (h0 : 0 ≤ k) (v0 : 0 ≤ v) (v1 : v < 65536) (hg : rsGood k v = true) : (∀ x ∈ rsPut k v, 0 ≤ x ∧ x < 256) ∧ (rsPut k v).length ≤ 3 := by
  rcases good_cases h0 hg with rfl | ⟨rfl, hk⟩
  · have e : rsPut 1 v = [1, v / 256, v % 256] := rfl
    rw [e]
    refine ⟨?_, by simp⟩
    intro x hx
    simp at hx
    omega
  · have e : rsPut k 0 = [k] := by unfold rsPut; rw [if_neg (by omega)]
    rw [e]
    refine ⟨?_, by simp⟩
    intro x hx
    simp at hx
    omega
end Go.Proofs.YtgdbhblapdhlmaaDoor
