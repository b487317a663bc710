/-
  The document's Take, put together.
-/
import Derived.Test.YtibppobibncpdaaGreatDoorG23
import Derived.Test.YtibppobibncpdaaGreatDoorG47
set_option linter.unusedSimpArgs false
set_option linter.unusedVariables false
namespace Go.Proofs.YtibppobibncpdaaGreatDoor
open Go.RowKit
theorem r4Take_any (w : World) (l : List UInt8) (hl : l.length ≤ 2900) :
    Calls Tryz.prog 46 #[.string (bs l)] w fun e w' => e = .returned (.tuple #[(tkX (nb l)).val, .string (bs (tkRest l)), .int .i64 (tkErr (nb l))]) ∧ Keeps [] w w' := by
  cases l with
  | nil => exact rtake_none w
  | cons c l0 =>
    have hc := c.toNat_lt
    have hl0 : l0.length ≤ 2899 := by simpa using hl
    have hsz : (bs (c :: l0)).size = l0.length + 1 := rfl
    have hnl : (nb (c :: l0)).length = l0.length + 1 := by rw [nb_length]; rfl
    have h0 : (nb (c :: l0)).getD 0 0 = (c.toNat : Int) := rfl
    rcases bool_two (opIs (c.toNat : Int)) with is | is
    · rcases need_ways is with ⟨hK, hA, hB⟩ | ⟨hK, hA, hB⟩ | ⟨hK, hA, hB⟩ | ⟨hK, hA, hB⟩ | ⟨hK, hA, hB⟩ | ⟨hK, hA, hB⟩
      · have hlen : opLen (c.toNat : Int) = 2 := by unfold opLen opAtB opAtA; simp [hK, hA, hB]
        by_cases hs : l0.length + 1 < 2
        · have e : tkErr (nb (c :: l0)) = 5 := by unfold tkErr; rw [hnl, h0, if_neg (by omega), if_neg (by simp [is]), hlen, if_pos hs]
          have e1 : tkX (nb (c :: l0)) = opZero := by unfold tkX; rw [e]; rfl
          have e2 : tkRest (c :: l0) = [] := by unfold tkRest; rw [e]; rfl
          rw [e1, e2, e]
          exact rshort_000 w _ (c.toNat : Int) (by omega) (by omega) rfl (by omega) (by omega) is hK hA hB
        · obtain ⟨x1, r, rfl⟩ : ∃ x1 r, l0 = x1 :: r := by
            match l0, hs with
            | [], h => exact absurd (by simp) h
            | x1 :: r, _ => exact ⟨x1, r, rfl⟩
          have q1 := x1.toNat_lt
          have hrl : r.length ≤ 2899 := by simp at hl0; omega
          have e : tkOp (nb (c :: x1 :: r)) = (⟨(c.toNat : Int), (x1.toNat : Int), 0, 0, 0⟩ : Opn) := by
            unfold tkOp opAtB opAtA
            simp only [h0, hK, hA, hB, if_false, Bool.false_eq_true]
            simp [nb]
            try omega
          have hE : tkErr (nb (c :: x1 :: r)) = if opGood (⟨(c.toNat : Int), (x1.toNat : Int), 0, 0, 0⟩ : Opn) then 0 else 4 := by
            unfold tkErr
            rw [hnl, h0, if_neg (by omega), if_neg (by simp [is]), hlen, if_neg (by simp only [List.length_cons] at hs ⊢; omega), e]
          refine rtake_000 w (bs (c :: x1 :: r)) (bs r) (c.toNat : Int) (x1.toNat : Int) _ (by rw [hsz, bs_size]; simp; omega) (by rw [bs_size]; omega) (by omega) rfl (by omega) (by omega) (by omega) rfl (by omega) (by omega) (by rw [bs_piece]; congr 1; simp [bs_size]) is hK hA hB rfl _ _ _ ?_ ?_
          · intro hg
            have e0 : tkErr (nb (c :: x1 :: r)) = 0 := by rw [hE, if_pos hg]
            refine ⟨by unfold tkX; rw [e0, if_pos rfl, e], ?_, e0⟩
            unfold tkRest; rw [e0, if_pos rfl, h0, hlen]; rfl
          · intro hg
            have e0 : tkErr (nb (c :: x1 :: r)) = 4 := by rw [hE, if_neg (by simp [hg])]
            refine ⟨by unfold tkX; rw [e0]; rfl, by unfold tkRest; rw [e0]; rfl, e0⟩
      · have hlen : opLen (c.toNat : Int) = 4 := by unfold opLen opAtB opAtA; simp [hK, hA, hB]
        by_cases hs : l0.length + 1 < 4
        · have e : tkErr (nb (c :: l0)) = 5 := by unfold tkErr; rw [hnl, h0, if_neg (by omega), if_neg (by simp [is]), hlen, if_pos hs]
          have e1 : tkX (nb (c :: l0)) = opZero := by unfold tkX; rw [e]; rfl
          have e2 : tkRest (c :: l0) = [] := by unfold tkRest; rw [e]; rfl
          rw [e1, e2, e]
          exact rshort_010 w _ (c.toNat : Int) (by omega) (by omega) rfl (by omega) (by omega) is hK hA hB
        · obtain ⟨x1, x2, x3, r, rfl⟩ : ∃ x1 x2 x3 r, l0 = x1 :: x2 :: x3 :: r := by
            match l0, hs with
            | [], h => exact absurd (by simp) h
            | [_], h => exact absurd (by simp) h
            | [_, _], h => exact absurd (by simp) h
            | x1 :: x2 :: x3 :: r, _ => exact ⟨x1, x2, x3, r, rfl⟩
          have q1 := x1.toNat_lt; have q2 := x2.toNat_lt; have q3 := x3.toNat_lt
          have hrl : r.length ≤ 2899 := by simp at hl0; omega
          have e : tkOp (nb (c :: x1 :: x2 :: x3 :: r)) = (⟨(c.toNat : Int), (x1.toNat : Int), 0, ((x2.toNat : Int) * 256 + (x3.toNat : Int)), 0⟩ : Opn) := by
            unfold tkOp opAtB opAtA
            simp only [h0, hK, hA, hB, if_true, if_false, Bool.false_eq_true]
            simp [nb]
            try omega
          have hE : tkErr (nb (c :: x1 :: x2 :: x3 :: r)) = if opGood (⟨(c.toNat : Int), (x1.toNat : Int), 0, ((x2.toNat : Int) * 256 + (x3.toNat : Int)), 0⟩ : Opn) then 0 else 4 := by
            unfold tkErr
            rw [hnl, h0, if_neg (by omega), if_neg (by simp [is]), hlen, if_neg (by simp only [List.length_cons] at hs ⊢; omega), e]
          refine rtake_010 w (bs (c :: x1 :: x2 :: x3 :: r)) (bs r) (c.toNat : Int) (x1.toNat : Int) (x2.toNat : Int) (x3.toNat : Int) _ (by rw [hsz, bs_size]; simp; omega) (by rw [bs_size]; omega) (by omega) rfl (by omega) (by omega) (by omega) rfl (by omega) (by omega) (by omega) rfl (by omega) (by omega) (by omega) rfl (by omega) (by omega) (by rw [bs_piece]; congr 1; simp [bs_size]) is hK hA hB rfl _ _ _ ?_ ?_
          · intro hg
            have e0 : tkErr (nb (c :: x1 :: x2 :: x3 :: r)) = 0 := by rw [hE, if_pos hg]
            refine ⟨by unfold tkX; rw [e0, if_pos rfl, e], ?_, e0⟩
            unfold tkRest; rw [e0, if_pos rfl, h0, hlen]; rfl
          · intro hg
            have e0 : tkErr (nb (c :: x1 :: x2 :: x3 :: r)) = 4 := by rw [hE, if_neg (by simp [hg])]
            refine ⟨by unfold tkX; rw [e0]; rfl, by unfold tkRest; rw [e0]; rfl, e0⟩
      · have hlen : opLen (c.toNat : Int) = 6 := by unfold opLen opAtB opAtA; simp [hK, hA, hB]
        by_cases hs : l0.length + 1 < 6
        · have e : tkErr (nb (c :: l0)) = 5 := by unfold tkErr; rw [hnl, h0, if_neg (by omega), if_neg (by simp [is]), hlen, if_pos hs]
          have e1 : tkX (nb (c :: l0)) = opZero := by unfold tkX; rw [e]; rfl
          have e2 : tkRest (c :: l0) = [] := by unfold tkRest; rw [e]; rfl
          rw [e1, e2, e]
          exact rshort_011 w _ (c.toNat : Int) (by omega) (by omega) rfl (by omega) (by omega) is hK hA hB
        · obtain ⟨x1, x2, x3, x4, x5, r, rfl⟩ : ∃ x1 x2 x3 x4 x5 r, l0 = x1 :: x2 :: x3 :: x4 :: x5 :: r := by
            match l0, hs with
            | [], h => exact absurd (by simp) h
            | [_], h => exact absurd (by simp) h
            | [_, _], h => exact absurd (by simp) h
            | [_, _, _], h => exact absurd (by simp) h
            | [_, _, _, _], h => exact absurd (by simp) h
            | x1 :: x2 :: x3 :: x4 :: x5 :: r, _ => exact ⟨x1, x2, x3, x4, x5, r, rfl⟩
          have q1 := x1.toNat_lt; have q2 := x2.toNat_lt; have q3 := x3.toNat_lt; have q4 := x4.toNat_lt; have q5 := x5.toNat_lt
          have hrl : r.length ≤ 2899 := by simp at hl0; omega
          have e : tkOp (nb (c :: x1 :: x2 :: x3 :: x4 :: x5 :: r)) = (⟨(c.toNat : Int), (x1.toNat : Int), 0, ((x2.toNat : Int) * 256 + (x3.toNat : Int)), ((x4.toNat : Int) * 256 + (x5.toNat : Int))⟩ : Opn) := by
            unfold tkOp opAtB opAtA
            simp only [h0, hK, hA, hB, if_true, if_false, Bool.false_eq_true]
            simp [nb]
            try omega
          have hE : tkErr (nb (c :: x1 :: x2 :: x3 :: x4 :: x5 :: r)) = if opGood (⟨(c.toNat : Int), (x1.toNat : Int), 0, ((x2.toNat : Int) * 256 + (x3.toNat : Int)), ((x4.toNat : Int) * 256 + (x5.toNat : Int))⟩ : Opn) then 0 else 4 := by
            unfold tkErr
            rw [hnl, h0, if_neg (by omega), if_neg (by simp [is]), hlen, if_neg (by simp only [List.length_cons] at hs ⊢; omega), e]
          refine rtake_011 w (bs (c :: x1 :: x2 :: x3 :: x4 :: x5 :: r)) (bs r) (c.toNat : Int) (x1.toNat : Int) (x2.toNat : Int) (x3.toNat : Int) (x4.toNat : Int) (x5.toNat : Int) _ (by rw [hsz, bs_size]; simp; omega) (by rw [bs_size]; omega) (by omega) rfl (by omega) (by omega) (by omega) rfl (by omega) (by omega) (by omega) rfl (by omega) (by omega) (by omega) rfl (by omega) (by omega) (by omega) rfl (by omega) (by omega) (by omega) rfl (by omega) (by omega) (by rw [bs_piece]; congr 1; simp [bs_size]) is hK hA hB rfl _ _ _ ?_ ?_
          · intro hg
            have e0 : tkErr (nb (c :: x1 :: x2 :: x3 :: x4 :: x5 :: r)) = 0 := by rw [hE, if_pos hg]
            refine ⟨by unfold tkX; rw [e0, if_pos rfl, e], ?_, e0⟩
            unfold tkRest; rw [e0, if_pos rfl, h0, hlen]; rfl
          · intro hg
            have e0 : tkErr (nb (c :: x1 :: x2 :: x3 :: x4 :: x5 :: r)) = 4 := by rw [hE, if_neg (by simp [hg])]
            refine ⟨by unfold tkX; rw [e0]; rfl, by unfold tkRest; rw [e0]; rfl, e0⟩
      · have hlen : opLen (c.toNat : Int) = 3 := by unfold opLen opAtB opAtA; simp [hK, hA, hB]
        by_cases hs : l0.length + 1 < 3
        · have e : tkErr (nb (c :: l0)) = 5 := by unfold tkErr; rw [hnl, h0, if_neg (by omega), if_neg (by simp [is]), hlen, if_pos hs]
          have e1 : tkX (nb (c :: l0)) = opZero := by unfold tkX; rw [e]; rfl
          have e2 : tkRest (c :: l0) = [] := by unfold tkRest; rw [e]; rfl
          rw [e1, e2, e]
          exact rshort_100 w _ (c.toNat : Int) (by omega) (by omega) rfl (by omega) (by omega) is hK hA hB
        · obtain ⟨x1, x2, r, rfl⟩ : ∃ x1 x2 r, l0 = x1 :: x2 :: r := by
            match l0, hs with
            | [], h => exact absurd (by simp) h
            | [_], h => exact absurd (by simp) h
            | x1 :: x2 :: r, _ => exact ⟨x1, x2, r, rfl⟩
          have q1 := x1.toNat_lt; have q2 := x2.toNat_lt
          have hrl : r.length ≤ 2899 := by simp at hl0; omega
          have e : tkOp (nb (c :: x1 :: x2 :: r)) = (⟨(c.toNat : Int), (x1.toNat : Int), (x2.toNat : Int), 0, 0⟩ : Opn) := by
            unfold tkOp opAtB opAtA
            simp only [h0, hK, hA, hB, if_true, if_false, Bool.false_eq_true]
            simp [nb]
            try omega
          have hE : tkErr (nb (c :: x1 :: x2 :: r)) = if opGood (⟨(c.toNat : Int), (x1.toNat : Int), (x2.toNat : Int), 0, 0⟩ : Opn) then 0 else 4 := by
            unfold tkErr
            rw [hnl, h0, if_neg (by omega), if_neg (by simp [is]), hlen, if_neg (by simp only [List.length_cons] at hs ⊢; omega), e]
          refine rtake_100 w (bs (c :: x1 :: x2 :: r)) (bs r) (c.toNat : Int) (x1.toNat : Int) (x2.toNat : Int) _ (by rw [hsz, bs_size]; simp; omega) (by rw [bs_size]; omega) (by omega) rfl (by omega) (by omega) (by omega) rfl (by omega) (by omega) (by omega) rfl (by omega) (by omega) (by rw [bs_piece]; congr 1; simp [bs_size]) is hK hA hB rfl _ _ _ ?_ ?_
          · intro hg
            have e0 : tkErr (nb (c :: x1 :: x2 :: r)) = 0 := by rw [hE, if_pos hg]
            refine ⟨by unfold tkX; rw [e0, if_pos rfl, e], ?_, e0⟩
            unfold tkRest; rw [e0, if_pos rfl, h0, hlen]; rfl
          · intro hg
            have e0 : tkErr (nb (c :: x1 :: x2 :: r)) = 4 := by rw [hE, if_neg (by simp [hg])]
            refine ⟨by unfold tkX; rw [e0]; rfl, by unfold tkRest; rw [e0]; rfl, e0⟩
      · have hlen : opLen (c.toNat : Int) = 5 := by unfold opLen opAtB opAtA; simp [hK, hA, hB]
        by_cases hs : l0.length + 1 < 5
        · have e : tkErr (nb (c :: l0)) = 5 := by unfold tkErr; rw [hnl, h0, if_neg (by omega), if_neg (by simp [is]), hlen, if_pos hs]
          have e1 : tkX (nb (c :: l0)) = opZero := by unfold tkX; rw [e]; rfl
          have e2 : tkRest (c :: l0) = [] := by unfold tkRest; rw [e]; rfl
          rw [e1, e2, e]
          exact rshort_110 w _ (c.toNat : Int) (by omega) (by omega) rfl (by omega) (by omega) is hK hA hB
        · obtain ⟨x1, x2, x3, x4, r, rfl⟩ : ∃ x1 x2 x3 x4 r, l0 = x1 :: x2 :: x3 :: x4 :: r := by
            match l0, hs with
            | [], h => exact absurd (by simp) h
            | [_], h => exact absurd (by simp) h
            | [_, _], h => exact absurd (by simp) h
            | [_, _, _], h => exact absurd (by simp) h
            | x1 :: x2 :: x3 :: x4 :: r, _ => exact ⟨x1, x2, x3, x4, r, rfl⟩
          have q1 := x1.toNat_lt; have q2 := x2.toNat_lt; have q3 := x3.toNat_lt; have q4 := x4.toNat_lt
          have hrl : r.length ≤ 2899 := by simp at hl0; omega
          have e : tkOp (nb (c :: x1 :: x2 :: x3 :: x4 :: r)) = (⟨(c.toNat : Int), (x1.toNat : Int), (x2.toNat : Int), ((x3.toNat : Int) * 256 + (x4.toNat : Int)), 0⟩ : Opn) := by
            unfold tkOp opAtB opAtA
            simp only [h0, hK, hA, hB, if_true, if_false, Bool.false_eq_true]
            simp [nb]
            try omega
          have hE : tkErr (nb (c :: x1 :: x2 :: x3 :: x4 :: r)) = if opGood (⟨(c.toNat : Int), (x1.toNat : Int), (x2.toNat : Int), ((x3.toNat : Int) * 256 + (x4.toNat : Int)), 0⟩ : Opn) then 0 else 4 := by
            unfold tkErr
            rw [hnl, h0, if_neg (by omega), if_neg (by simp [is]), hlen, if_neg (by simp only [List.length_cons] at hs ⊢; omega), e]
          refine rtake_110 w (bs (c :: x1 :: x2 :: x3 :: x4 :: r)) (bs r) (c.toNat : Int) (x1.toNat : Int) (x2.toNat : Int) (x3.toNat : Int) (x4.toNat : Int) _ (by rw [hsz, bs_size]; simp; omega) (by rw [bs_size]; omega) (by omega) rfl (by omega) (by omega) (by omega) rfl (by omega) (by omega) (by omega) rfl (by omega) (by omega) (by omega) rfl (by omega) (by omega) (by omega) rfl (by omega) (by omega) (by rw [bs_piece]; congr 1; simp [bs_size]) is hK hA hB rfl _ _ _ ?_ ?_
          · intro hg
            have e0 : tkErr (nb (c :: x1 :: x2 :: x3 :: x4 :: r)) = 0 := by rw [hE, if_pos hg]
            refine ⟨by unfold tkX; rw [e0, if_pos rfl, e], ?_, e0⟩
            unfold tkRest; rw [e0, if_pos rfl, h0, hlen]; rfl
          · intro hg
            have e0 : tkErr (nb (c :: x1 :: x2 :: x3 :: x4 :: r)) = 4 := by rw [hE, if_neg (by simp [hg])]
            refine ⟨by unfold tkX; rw [e0]; rfl, by unfold tkRest; rw [e0]; rfl, e0⟩
      · have hlen : opLen (c.toNat : Int) = 7 := by unfold opLen opAtB opAtA; simp [hK, hA, hB]
        by_cases hs : l0.length + 1 < 7
        · have e : tkErr (nb (c :: l0)) = 5 := by unfold tkErr; rw [hnl, h0, if_neg (by omega), if_neg (by simp [is]), hlen, if_pos hs]
          have e1 : tkX (nb (c :: l0)) = opZero := by unfold tkX; rw [e]; rfl
          have e2 : tkRest (c :: l0) = [] := by unfold tkRest; rw [e]; rfl
          rw [e1, e2, e]
          exact rshort_111 w _ (c.toNat : Int) (by omega) (by omega) rfl (by omega) (by omega) is hK hA hB
        · obtain ⟨x1, x2, x3, x4, x5, x6, r, rfl⟩ : ∃ x1 x2 x3 x4 x5 x6 r, l0 = x1 :: x2 :: x3 :: x4 :: x5 :: x6 :: r := by
            match l0, hs with
            | [], h => exact absurd (by simp) h
            | [_], h => exact absurd (by simp) h
            | [_, _], h => exact absurd (by simp) h
            | [_, _, _], h => exact absurd (by simp) h
            | [_, _, _, _], h => exact absurd (by simp) h
            | [_, _, _, _, _], h => exact absurd (by simp) h
            | x1 :: x2 :: x3 :: x4 :: x5 :: x6 :: r, _ => exact ⟨x1, x2, x3, x4, x5, x6, r, rfl⟩
          have q1 := x1.toNat_lt; have q2 := x2.toNat_lt; have q3 := x3.toNat_lt; have q4 := x4.toNat_lt; have q5 := x5.toNat_lt; have q6 := x6.toNat_lt
          have hrl : r.length ≤ 2899 := by simp at hl0; omega
          have e : tkOp (nb (c :: x1 :: x2 :: x3 :: x4 :: x5 :: x6 :: r)) = (⟨(c.toNat : Int), (x1.toNat : Int), (x2.toNat : Int), ((x3.toNat : Int) * 256 + (x4.toNat : Int)), ((x5.toNat : Int) * 256 + (x6.toNat : Int))⟩ : Opn) := by
            unfold tkOp opAtB opAtA
            simp only [h0, hK, hA, hB, if_true]
            simp [nb]
            try omega
          have hE : tkErr (nb (c :: x1 :: x2 :: x3 :: x4 :: x5 :: x6 :: r)) = if opGood (⟨(c.toNat : Int), (x1.toNat : Int), (x2.toNat : Int), ((x3.toNat : Int) * 256 + (x4.toNat : Int)), ((x5.toNat : Int) * 256 + (x6.toNat : Int))⟩ : Opn) then 0 else 4 := by
            unfold tkErr
            rw [hnl, h0, if_neg (by omega), if_neg (by simp [is]), hlen, if_neg (by simp only [List.length_cons] at hs ⊢; omega), e]
          refine rtake_111 w (bs (c :: x1 :: x2 :: x3 :: x4 :: x5 :: x6 :: r)) (bs r) (c.toNat : Int) (x1.toNat : Int) (x2.toNat : Int) (x3.toNat : Int) (x4.toNat : Int) (x5.toNat : Int) (x6.toNat : Int) _ (by rw [hsz, bs_size]; simp; omega) (by rw [bs_size]; omega) (by omega) rfl (by omega) (by omega) (by omega) rfl (by omega) (by omega) (by omega) rfl (by omega) (by omega) (by omega) rfl (by omega) (by omega) (by omega) rfl (by omega) (by omega) (by omega) rfl (by omega) (by omega) (by omega) rfl (by omega) (by omega) (by rw [bs_piece]; congr 1; simp [bs_size]) is hK hA hB rfl _ _ _ ?_ ?_
          · intro hg
            have e0 : tkErr (nb (c :: x1 :: x2 :: x3 :: x4 :: x5 :: x6 :: r)) = 0 := by rw [hE, if_pos hg]
            refine ⟨by unfold tkX; rw [e0, if_pos rfl, e], ?_, e0⟩
            unfold tkRest; rw [e0, if_pos rfl, h0, hlen]; rfl
          · intro hg
            have e0 : tkErr (nb (c :: x1 :: x2 :: x3 :: x4 :: x5 :: x6 :: r)) = 4 := by rw [hE, if_neg (by simp [hg])]
            refine ⟨by unfold tkX; rw [e0]; rfl, by unfold tkRest; rw [e0]; rfl, e0⟩
    · have e : tkErr (nb (c :: l0)) = 4 := by
        unfold tkErr
        rw [hnl, h0, if_neg (by omega), if_pos is]
      have e1 : tkX (nb (c :: l0)) = opZero := by unfold tkX; rw [e]; rfl
      have e2 : tkRest (c :: l0) = [] := by unfold tkRest; rw [e]; rfl
      rw [e1, e2, e]
      exact rtake_no w _ (c.toNat : Int) (by omega) (by omega) rfl (by omega) (by omega) is
end Go.Proofs.YtibppobibncpdaaGreatDoor
