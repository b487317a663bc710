/-
  The Reader's Raw.
-/
import Derived.Test.YtchenofgmmgdmaaAj
namespace Go.Proofs.Ytchenofgmmgdmaa
open Go.RowKit
def rdRaw (W : Nat) (xs : List Int) (e : Int) (p : Nat) : List Int := if e = 0 ∧ p + W ≤ xs.length then (xs.drop p).take W else []
theorem cut_string (w : World) (g o c n p : Nat) (xs : List Int) (hn : p + n ≤ xs.length) (hc : ∀ j, j < n → w.cell? ⟨g, o + j, none⟩ = some (.int .u8 (xs.getD (p + j) 0))) :
    (convert 26 9 (.slice (some ⟨g, o, none⟩) n c)).run Try.prog w = .ok (.string (strOfNums ((xs.drop p).take n))) w := by
  refine run_convert_bytes_arg w _ _ Try.underlying26 Try.underlying5 g o n c ((xs.drop p).take n) (by simp; omega) (fun i hi => ?_) _ Try.underlying9
  rw [hc i hi]
  have : ((xs.drop p).take n).getD i 0 = xs.getD (p + i) 0 := by
    simp [List.getD, hi]
  rw [this]
theorem nil_string (w : World) : (convert 26 9 (.slice none 0 0)).run Try.prog w = .ok (.string (strOfNums [])) w :=
  run_convert_bytes_nil w _ _ Try.underlying26 Try.underlying5 0 0 _ Try.underlying9
set_option maxHeartbeats 400000 in
theorem RRaw_nat (w : World) (r g cap p : Nat) (xs : List Int) (e : Int) (h : RAt w r g cap xs e p) (hl : xs.length ≤ 1000000) (N : Nat) :
    Calls Try.prog 26 #[.pointer (some ⟨r, 0, none⟩), .int .i64 (N : Int)] w fun x w' => x = .returned (.string (strOfNums (rdRaw N xs e p))) ∧ RAt w' r g cap xs (rdErr N xs e p) (rdPos N xs e p) ∧ Keeps [r] w w' := by
  have hN0 : ¬ (N : Int) < 0 := by omega
  by_cases he : e = 0
  · subst he
    by_cases hp : p + N ≤ xs.length
    · have e1 : rdRaw N xs 0 p = (xs.drop p).take N := by rw [rdRaw, if_pos ⟨rfl, hp⟩]
      have e2 : rdErr N xs 0 p = 0 := by simp [rdErr]; omega
      have e3 : rdPos N xs 0 p = p + N := by rw [rdPos, if_pos ⟨rfl, hp⟩]
      rw [e1, e2, e3]
      clear e1 e2 e3
      go_enter Try.func26, Try.ntmps26
      go_wp2_with fail
      refine (take_ok _ r g cap p xs h hl N hp).mono ?_
      rintro x w1 ⟨⟨o, c, rfl, _, hc⟩, hr, hk⟩
      have hs := cut_string w1 g o c N p xs hp (fun j hj => hk.cell (hc j hj) (by simpa using h.ne))
      clear hc
      generalize hS : strOfNums ((xs.drop p).take N) = T at *
      have HS := Lib.hid hS; clear hS
      go_wp2_with fail
      go_ret
      exact ⟨by rw [HS.out]; rfl, hr, hk⟩
    · have e1 : rdRaw N xs 0 p = [] := by rw [rdRaw, if_neg (fun h => hp h.2)]
      have e2 : rdErr N xs 0 p = 5 := by simp [rdErr]; omega
      have e3 : rdPos N xs 0 p = p := by rw [rdPos, if_neg (fun h => hp h.2)]
      rw [e1, e2, e3]
      clear e1 e2 e3
      go_enter Try.func26, Try.ntmps26
      go_wp2_with fail
      refine (take_long _ r g cap p xs h hl N (by omega)).mono ?_
      rintro x w1 ⟨rfl, hr, hk⟩
      have hs := nil_string w1
      generalize hS : strOfNums [] = T at *
      have HS := Lib.hid hS; clear hS
      go_wp2_with fail
      go_ret
      exact ⟨by rw [HS.out]; rfl, hr, hk⟩
  · have e1 : rdRaw N xs e p = [] := by rw [rdRaw, if_neg (fun h => he h.1)]
    have e2 : rdErr N xs e p = e := by rw [rdErr, if_pos he]
    have e3 : rdPos N xs e p = p := by rw [rdPos, if_neg (fun h => he h.1)]
    rw [e1, e2, e3]
    clear e1 e2 e3
    go_enter Try.func26, Try.ntmps26
    go_wp2_with fail
    refine (take_err _ r g cap p xs e h he N).mono ?_
    rintro x w1 ⟨rfl, rfl⟩
    have hs := nil_string w
    generalize hS : strOfNums [] = T at *
    have HS := Lib.hid hS; clear hS
    go_wp2_with fail
    go_ret
    exact ⟨by rw [HS.out]; rfl, h, Keeps.refl _ _⟩
set_option maxHeartbeats 400000 in
theorem RRaw_neg (w : World) (r g cap p : Nat) (xs : List Int) (e : Int) (h : RAt w r g cap xs e p) (hl : xs.length ≤ 1000000) (n : Int) (hn : n < 0) :
    Calls Try.prog 26 #[.pointer (some ⟨r, 0, none⟩), .int .i64 n] w fun x w' => x = .returned (.string (strOfNums (rdRaw 0 xs e p))) ∧ RAt w' r g cap xs (rdErr 0 xs e p) (rdPos 0 xs e p) ∧ Keeps [r] w w' := by
  by_cases he : e = 0
  · subst he
    by_cases hp : p + 0 ≤ xs.length
    · have e1 : rdRaw 0 xs 0 p = (xs.drop p).take 0 := by rw [rdRaw, if_pos ⟨rfl, hp⟩]
      have e2 : rdErr 0 xs 0 p = 0 := by simp [rdErr]; omega
      have e3 : rdPos 0 xs 0 p = p + 0 := by rw [rdPos, if_pos ⟨rfl, hp⟩]
      rw [e1, e2, e3]
      clear e1 e2 e3
      go_enter Try.func26, Try.ntmps26
      go_wp2_with fail
      refine (take_ok _ r g cap p xs h hl 0 hp).mono ?_
      rintro x w1 ⟨⟨o, c, rfl, _, hc⟩, hr, hk⟩
      have hs := cut_string w1 g o c 0 p xs hp (fun j hj => hk.cell (hc j hj) (by simpa using h.ne))
      clear hc
      generalize hS : strOfNums ((xs.drop p).take 0) = T at *
      have HS := Lib.hid hS; clear hS
      go_wp2_with fail
      go_ret
      exact ⟨by rw [HS.out]; rfl, hr, hk⟩
    · have e1 : rdRaw 0 xs 0 p = [] := by rw [rdRaw, if_neg (fun h => hp h.2)]
      have e2 : rdErr 0 xs 0 p = 5 := by simp [rdErr]; omega
      have e3 : rdPos 0 xs 0 p = p := by rw [rdPos, if_neg (fun h => hp h.2)]
      rw [e1, e2, e3]
      clear e1 e2 e3
      go_enter Try.func26, Try.ntmps26
      go_wp2_with fail
      refine (take_long _ r g cap p xs h hl 0 (by omega)).mono ?_
      rintro x w1 ⟨rfl, hr, hk⟩
      have hs := nil_string w1
      generalize hS : strOfNums [] = T at *
      have HS := Lib.hid hS; clear hS
      go_wp2_with fail
      go_ret
      exact ⟨by rw [HS.out]; rfl, hr, hk⟩
  · have e1 : rdRaw 0 xs e p = [] := by rw [rdRaw, if_neg (fun h => he h.1)]
    have e2 : rdErr 0 xs e p = e := by rw [rdErr, if_pos he]
    have e3 : rdPos 0 xs e p = p := by rw [rdPos, if_neg (fun h => he h.1)]
    rw [e1, e2, e3]
    clear e1 e2 e3
    go_enter Try.func26, Try.ntmps26
    go_wp2_with fail
    refine (take_err _ r g cap p xs e h he 0).mono ?_
    rintro x w1 ⟨rfl, rfl⟩
    have hs := nil_string w
    generalize hS : strOfNums [] = T at *
    have HS := Lib.hid hS; clear hS
    go_wp2_with fail
    go_ret
    exact ⟨by rw [HS.out]; rfl, h, Keeps.refl _ _⟩
theorem RRaw_any (w : World) (r g cap p : Nat) (xs : List Int) (e : Int) (h : RAt w r g cap xs e p) (hl : xs.length ≤ 1000000) (n : Int) :
    Calls Try.prog 26 #[.pointer (some ⟨r, 0, none⟩), .int .i64 n] w fun x w' => x = .returned (.string (strOfNums (rdRaw n.toNat xs e p))) ∧ RAt w' r g cap xs (rdErr n.toNat xs e p) (rdPos n.toNat xs e p) ∧ Keeps [r] w w' := by
  by_cases hn : n < 0
  · have : n.toNat = 0 := by omega
    rw [this]
    exact RRaw_neg w r g cap p xs e h hl n hn
  · obtain ⟨N, rfl⟩ := Int.eq_ofNat_of_zero_le (by omega : 0 ≤ n)
    rw [Int.toNat_natCast]
    exact RRaw_nat w r g cap p xs e h hl N
end Go.Proofs.Ytchenofgmmgdmaa
