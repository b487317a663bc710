/-
  The Reader's numbers and texts.
-/
import Derived.Test.YtgdbhblapdhlmaaDoorAi
namespace Go.Proofs.YtgdbhblapdhlmaaDoor
open Go.RowKit
def numOf (l : List Int) : Int := l.foldl (fun a c => a * 256 + c) 0
def InU8 (xs : List Int) : Prop := ∀ j, 0 ≤ xs.getD j 0 ∧ xs.getD j 0 < 256
def rdVal (W : Nat) (xs : List Int) (e : Int) (p : Nat) : Int := if e = 0 ∧ p + W ≤ xs.length then numOf ((xs.drop p).take W) else 0
def rdErr (W : Nat) (xs : List Int) (e : Int) (p : Nat) : Int := if e ≠ 0 then e else if p + W ≤ xs.length then 0 else 5
def rdPos (W : Nat) (xs : List Int) (e : Int) (p : Nat) : Nat := if e = 0 ∧ p + W ≤ xs.length then p + W else p
theorem drop_cons (xs : List Int) (p : Nat) (h : p < xs.length) : xs.drop p = xs.getD p 0 :: xs.drop (p + 1) := by
  rw [List.drop_eq_getElem_cons h]; simp [List.getD, h]

theorem numOf_1 (xs : List Int) (p : Nat) (h : p + 1 ≤ xs.length) : numOf ((xs.drop p).take 1) = xs.getD (p + 0) 0 := by
  rw [drop_cons xs p (by omega)]
  simp [numOf]
set_option maxHeartbeats 400000 in
theorem next8_any (w : World) (r g cap p : Nat) (xs : List Int) (e : Int) (h : RAt w r g cap xs e p) (hx : InU8 xs) (hl : xs.length ≤ 1000000) :
    Calls Tryd.prog 47 #[.pointer (some ⟨r, 0, none⟩)] w fun x w' => x = .returned (.int .u8 (rdVal 1 xs e p)) ∧ RAt w' r g cap xs (rdErr 1 xs e p) (rdPos 1 xs e p) ∧ Keeps [r] w w' := by
  by_cases he : e = 0
  · subst he
    by_cases hp : p + 1 ≤ xs.length
    · have e1 : rdVal 1 xs 0 p = xs.getD (p + 0) 0 := by rw [rdVal, if_pos ⟨rfl, hp⟩, numOf_1 xs p hp]
      have e2 : rdErr 1 xs 0 p = 0 := by simp [rdErr, hp]
      have e3 : rdPos 1 xs 0 p = p + 1 := by simp [rdPos, hp]
      rw [e1, e2, e3]
      clear e1 e2 e3
      go_enter Tryd.func47, Tryd.ntmps47
      go_wp2_with fail
      refine (wid8_any _).mono ?_
      rintro x w1 ⟨rfl, rfl⟩
      go_wp2_with fail
      refine (take_ok _ r g cap p xs h hl 1 hp).mono ?_
      rintro x w1 ⟨⟨o, c, rfl, _, hc⟩, hr, hk⟩
      have hc2 : ∀ j, j < 1 → w1.cell? ⟨g, o + j, none⟩ = some (.int .u8 (xs.getD (p + j) 0)) := fun j hj => hk.cell (hc j hj) (by simpa using h.ne)
      have Hc := Lib.hid hc2; clear hc hc2
      go_wp2_with fail
      refine (join8_one _ g o c (xs.getD (p + 0) 0) (hx (p + 0)).1 (hx (p + 0)).2 (Hc.out 0 (by omega))).mono ?_
      rintro x w2 ⟨rfl, rfl⟩
      go_wp2_with fail
      go_ret
      exact ⟨rfl, hr, hk⟩
    · have e1 : rdVal 1 xs 0 p = 0 := by simp [rdVal, hp]
      have e2 : rdErr 1 xs 0 p = 5 := by simp [rdErr, hp]
      have e3 : rdPos 1 xs 0 p = p := by simp [rdPos, hp]
      rw [e1, e2, e3]
      clear e1 e2 e3
      go_enter Tryd.func47, Tryd.ntmps47
      go_wp2_with fail
      refine (wid8_any _).mono ?_
      rintro x w1 ⟨rfl, rfl⟩
      go_wp2_with fail
      refine (take_long _ r g cap p xs h hl 1 (by omega)).mono ?_
      rintro x w1 ⟨rfl, hr, hk⟩
      go_wp2_with fail
      refine (join8_nil _).mono ?_
      rintro x w2 ⟨rfl, rfl⟩
      go_wp2_with fail
      go_ret
      exact ⟨rfl, hr, hk⟩
  · have e1 : rdVal 1 xs e p = 0 := by simp [rdVal, he]
    have e2 : rdErr 1 xs e p = e := by simp [rdErr, he]
    have e3 : rdPos 1 xs e p = p := by simp [rdPos, he]
    rw [e1, e2, e3]
    clear e1 e2 e3
    go_enter Tryd.func47, Tryd.ntmps47
    go_wp2_with fail
    refine (wid8_any _).mono ?_
    rintro x w1 ⟨rfl, rfl⟩
    go_wp2_with fail
    refine (take_err _ r g cap p xs e h he 1).mono ?_
    rintro x w1 ⟨rfl, rfl⟩
    go_wp2_with fail
    refine (join8_nil _).mono ?_
    rintro x w2 ⟨rfl, rfl⟩
    go_wp2_with fail
    go_ret
    exact ⟨rfl, h, Keeps.refl _ _⟩
set_option maxHeartbeats 400000 in
theorem RU8_any (w : World) (r g cap p : Nat) (xs : List Int) (e : Int) (h : RAt w r g cap xs e p) (hx : InU8 xs) (hl : xs.length ≤ 1000000) :
    Calls Tryd.prog 36 #[.pointer (some ⟨r, 0, none⟩)] w fun x w' => x = .returned (.int .u8 (rdVal 1 xs e p)) ∧ RAt w' r g cap xs (rdErr 1 xs e p) (rdPos 1 xs e p) ∧ Keeps [r] w w' := by
  go_enter Tryd.func36, Tryd.ntmps36
  go_wp2_with fail
  refine (next8_any _ r g cap p xs e h hx hl).mono ?_
  rintro x w1 ⟨rfl, hr, hk⟩
  go_wp2_with fail
  go_ret
  exact ⟨rfl, hr, hk⟩

theorem numOf_2 (xs : List Int) (p : Nat) (h : p + 2 ≤ xs.length) : numOf ((xs.drop p).take 2) = xs.getD (p + 0) 0 * 256 + xs.getD (p + 1) 0 := by
  rw [drop_cons xs p (by omega), drop_cons xs (p + 1) (by omega)]
  simp [numOf]
set_option maxHeartbeats 400000 in
theorem next16_any (w : World) (r g cap p : Nat) (xs : List Int) (e : Int) (h : RAt w r g cap xs e p) (hx : InU8 xs) (hl : xs.length ≤ 1000000) :
    Calls Tryd.prog 48 #[.pointer (some ⟨r, 0, none⟩)] w fun x w' => x = .returned (.int .u16 (rdVal 2 xs e p)) ∧ RAt w' r g cap xs (rdErr 2 xs e p) (rdPos 2 xs e p) ∧ Keeps [r] w w' := by
  by_cases he : e = 0
  · subst he
    by_cases hp : p + 2 ≤ xs.length
    · have e1 : rdVal 2 xs 0 p = xs.getD (p + 0) 0 * 256 + xs.getD (p + 1) 0 := by rw [rdVal, if_pos ⟨rfl, hp⟩, numOf_2 xs p hp]
      have e2 : rdErr 2 xs 0 p = 0 := by simp [rdErr, hp]
      have e3 : rdPos 2 xs 0 p = p + 2 := by simp [rdPos, hp]
      rw [e1, e2, e3]
      clear e1 e2 e3
      go_enter Tryd.func48, Tryd.ntmps48
      go_wp2_with fail
      refine (wid16_any _).mono ?_
      rintro x w1 ⟨rfl, rfl⟩
      go_wp2_with fail
      refine (take_ok _ r g cap p xs h hl 2 hp).mono ?_
      rintro x w1 ⟨⟨o, c, rfl, _, hc⟩, hr, hk⟩
      have hc2 : ∀ j, j < 2 → w1.cell? ⟨g, o + j, none⟩ = some (.int .u8 (xs.getD (p + j) 0)) := fun j hj => hk.cell (hc j hj) (by simpa using h.ne)
      have Hc := Lib.hid hc2; clear hc hc2
      go_wp2_with fail
      refine (join16_two _ g o c (xs.getD (p + 0) 0) (xs.getD (p + 1) 0) (hx (p + 0)).1 (hx (p + 0)).2 (hx (p + 1)).1 (hx (p + 1)).2 (Hc.out 0 (by omega)) (Hc.out 1 (by omega))).mono ?_
      rintro x w2 ⟨rfl, rfl⟩
      go_wp2_with fail
      go_ret
      exact ⟨rfl, hr, hk⟩
    · have e1 : rdVal 2 xs 0 p = 0 := by simp [rdVal, hp]
      have e2 : rdErr 2 xs 0 p = 5 := by simp [rdErr, hp]
      have e3 : rdPos 2 xs 0 p = p := by simp [rdPos, hp]
      rw [e1, e2, e3]
      clear e1 e2 e3
      go_enter Tryd.func48, Tryd.ntmps48
      go_wp2_with fail
      refine (wid16_any _).mono ?_
      rintro x w1 ⟨rfl, rfl⟩
      go_wp2_with fail
      refine (take_long _ r g cap p xs h hl 2 (by omega)).mono ?_
      rintro x w1 ⟨rfl, hr, hk⟩
      go_wp2_with fail
      refine (join16_nil _).mono ?_
      rintro x w2 ⟨rfl, rfl⟩
      go_wp2_with fail
      go_ret
      exact ⟨rfl, hr, hk⟩
  · have e1 : rdVal 2 xs e p = 0 := by simp [rdVal, he]
    have e2 : rdErr 2 xs e p = e := by simp [rdErr, he]
    have e3 : rdPos 2 xs e p = p := by simp [rdPos, he]
    rw [e1, e2, e3]
    clear e1 e2 e3
    go_enter Tryd.func48, Tryd.ntmps48
    go_wp2_with fail
    refine (wid16_any _).mono ?_
    rintro x w1 ⟨rfl, rfl⟩
    go_wp2_with fail
    refine (take_err _ r g cap p xs e h he 2).mono ?_
    rintro x w1 ⟨rfl, rfl⟩
    go_wp2_with fail
    refine (join16_nil _).mono ?_
    rintro x w2 ⟨rfl, rfl⟩
    go_wp2_with fail
    go_ret
    exact ⟨rfl, h, Keeps.refl _ _⟩
set_option maxHeartbeats 400000 in
theorem RU16_any (w : World) (r g cap p : Nat) (xs : List Int) (e : Int) (h : RAt w r g cap xs e p) (hx : InU8 xs) (hl : xs.length ≤ 1000000) :
    Calls Tryd.prog 37 #[.pointer (some ⟨r, 0, none⟩)] w fun x w' => x = .returned (.int .u16 (rdVal 2 xs e p)) ∧ RAt w' r g cap xs (rdErr 2 xs e p) (rdPos 2 xs e p) ∧ Keeps [r] w w' := by
  go_enter Tryd.func37, Tryd.ntmps37
  go_wp2_with fail
  refine (next16_any _ r g cap p xs e h hx hl).mono ?_
  rintro x w1 ⟨rfl, hr, hk⟩
  go_wp2_with fail
  go_ret
  exact ⟨rfl, hr, hk⟩

theorem numOf_4 (xs : List Int) (p : Nat) (h : p + 4 ≤ xs.length) : numOf ((xs.drop p).take 4) = ((xs.getD (p + 0) 0 * 256 + xs.getD (p + 1) 0) * 256 + xs.getD (p + 2) 0) * 256 + xs.getD (p + 3) 0 := by
  rw [drop_cons xs p (by omega), drop_cons xs (p + 1) (by omega), drop_cons xs (p + 2) (by omega), drop_cons xs (p + 3) (by omega)]
  simp [numOf]
end Go.Proofs.YtgdbhblapdhlmaaDoor
