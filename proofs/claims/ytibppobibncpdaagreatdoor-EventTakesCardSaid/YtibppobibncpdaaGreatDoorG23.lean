/-
  The program's Take, put together.
-/
import Derived.Test.YtibppobibncpdaaGreatDoorG21
import Derived.Test.YtibppobibncpdaaGreatDoorG22
import Derived.Test.YtibppobibncpdaaGreatDoorG16
set_option linter.unusedSimpArgs false
set_option linter.unusedVariables false
namespace Go.Proofs.YtibppobibncpdaaGreatDoor
open Go.RowKit
/-- What is behind an operation's bytes. -/
def tkRest (l : List UInt8) : List UInt8 := if tkErr (nb l) = 0 then l.drop (opLen ((nb l).getD 0 0)) else []
theorem opLen_ge (f : Int) : 2 ≤ opLen f := by unfold opLen opAtB opAtA; omega
theorem tk_of {c : UInt8} {l0 cur : List UInt8} {x : Opn} {T : Bool} (is : opIs (c.toNat : Int) = true) (hT : T = true ↔ l0.length + 1 < opLen (c.toNat : Int))
    (hx : T = false → x = tkOp (nb (c :: l0))) (hc : T = false → cur = (c :: l0).drop (opLen (c.toNat : Int))) :
    (T = true → tkX (nb (c :: l0)) = opZero ∧ bs (tkRest (c :: l0)) = ⟨#[]⟩ ∧ tkErr (nb (c :: l0)) = 5) ∧
    (T = false → opGood x = true → tkX (nb (c :: l0)) = x ∧ bs (tkRest (c :: l0)) = bs cur ∧ tkErr (nb (c :: l0)) = 0) ∧
    (T = false → opGood x = false → tkX (nb (c :: l0)) = opZero ∧ bs (tkRest (c :: l0)) = ⟨#[]⟩ ∧ tkErr (nb (c :: l0)) = 4) := by
  have h0 : (nb (c :: l0)).getD 0 0 = (c.toNat : Int) := rfl
  have hl : (nb (c :: l0)).length = l0.length + 1 := by rw [nb_length]; rfl
  have hE : tkErr (nb (c :: l0)) = if l0.length + 1 < opLen (c.toNat : Int) then 5 else if opGood (tkOp (nb (c :: l0))) then 0 else 4 := by
    unfold tkErr
    rw [hl, h0, if_neg (by omega), if_neg (by simp [is])]
  refine ⟨fun h => ?_, fun h hg => ?_, fun h hg => ?_⟩
  · have e : tkErr (nb (c :: l0)) = 5 := by rw [hE, if_pos (hT.1 h)]
    refine ⟨by unfold tkX; rw [e]; rfl, by unfold tkRest; rw [e]; rfl, e⟩
  · have hn : ¬ l0.length + 1 < opLen (c.toNat : Int) := fun h' => by rw [hT.2 h'] at h; cases h
    have hxe := hx h
    have e : tkErr (nb (c :: l0)) = 0 := by rw [hE, if_neg hn, ← hxe, if_pos hg]
    refine ⟨by unfold tkX; rw [e, if_pos rfl, hxe], by unfold tkRest; rw [e, if_pos rfl, h0, hc h], e⟩
  · have hn : ¬ l0.length + 1 < opLen (c.toNat : Int) := fun h' => by rw [hT.2 h'] at h; cases h
    have hxe := hx h
    have e : tkErr (nb (c :: l0)) = 4 := by rw [hE, if_neg hn, ← hxe, if_neg (by simp [hg])]
    refine ⟨by unfold tkX; rw [e]; rfl, by unfold tkRest; rw [e]; rfl, e⟩
theorem empty_len (l : List UInt8) : l.isEmpty = decide (l.length = 0) := by cases l <;> simp
theorem r16_length (l : List UInt8) : (r16 l).length = if l.length < 2 then l.length else l.length - 2 := by unfold r16; split <;> simp
theorem v16_of {l : List UInt8} (h : 2 ≤ l.length) : v16 l = 256 * ((l.getD 0 0).toNat : Int) + ((l.getD 1 0).toNat : Int) := by unfold v16; rw [if_neg (by omega)]
theorem r16_of {l : List UInt8} (h : 2 ≤ l.length) : r16 l = l.drop 2 := by unfold r16; rw [if_neg (by omega)]
theorem getD_drop (l : List UInt8) (n i : Nat) : (l.drop n).getD i 0 = l.getD (n + i) 0 := by simp [List.getD_eq_getElem?_getD, List.getElem?_drop]
theorem cons_getD (c : UInt8) (l : List UInt8) (i : Nat) : (nb (c :: l)).getD (i + 1) 0 = ((l.getD i 0).toNat : Int) := by rw [nb_getD]; rfl
theorem n00 : (0 : Int) ≤ 0 := by decide
theorem n08 : (0 : Int) < 256 := by decide
theorem n16 : (0 : Int) < 65536 := by decide
theorem Take4_any (w : World) (hG : Glob4 w) (l : List UInt8) (hl : l.length ≤ 2900) :
    Calls Tryz.prog 85 #[.string (bs l)] w fun e w' => e = .returned (.tuple #[(tkX (nb l)).val, .string (bs (tkRest l)), .int .i64 (tkErr (nb l))]) ∧ Keeps [] w w' := by
  cases l with
  | nil => exact take_none w
  | cons c l0 =>
    have hc := c.toNat_lt
    have hl0 : l0.length ≤ 2899 := by simpa using hl
    have hN0 : Reads8 (bs (c :: l0)) false (c.toNat : Int) (bs l0) false := reads8_of (c :: l0) false (by omega)
    rcases bool_two (opIs (c.toNat : Int)) with is | is
    · have b8 := v8_b
      have b16 := v16_b
      have d1 : (l0.drop 1).length ≤ 3000 := by simp; omega
      have d2 : ((l0.drop 1).drop 1).length ≤ 3000 := by simp; omega
      have d3 := r16_len (l0.drop 1)
      have d4 := r16_len ((l0.drop 1).drop 1)
      rcases need_ways is with ⟨hK, hA, hB⟩ | ⟨hK, hA, hB⟩ | ⟨hK, hA, hB⟩ | ⟨hK, hA, hB⟩ | ⟨hK, hA, hB⟩ | ⟨hK, hA, hB⟩
      · have hlen : opLen (c.toNat : Int) = 2 := by unfold opLen opAtB opAtA; simp [hK, hA, hB]
        have hin : (⟨(c.toNat : Int), v8 l0, 0, 0, 0⟩ : Opn).In := by
          exact ⟨by simp only; omega, by simp only; omega, (b8 _).1, (b8 _).2, n00, n08, n00, n16, n00, n16⟩
        have hT : (false || l0.isEmpty) = true ↔ l0.length + 1 < opLen (c.toNat : Int) := by
          rw [hlen]
          simp only [Bool.false_or, empty_len, decide_eq_true_eq]
          try split
          all_goals omega
        have hx : (false || l0.isEmpty) = false → (⟨(c.toNat : Int), v8 l0, 0, 0, 0⟩ : Opn) = tkOp (nb (c :: l0)) := by
          intro h
          have hn : ¬ l0.length + 1 < opLen (c.toNat : Int) := fun h' => by rw [hT.2 h'] at h; cases h
          rw [hlen] at hn
          have h0 : (nb (c :: l0)).getD 0 0 = (c.toNat : Int) := rfl
          unfold tkOp opAtB opAtA
          simp only [h0, hK, hA, hB, if_false, Bool.false_eq_true]
          have r1 : v8 l0 = (nb (c :: l0)).getD 1 0 := by rw [cons_getD]; rfl
          rw [r1]
        have hcur : (false || l0.isEmpty) = false → (l0.drop 1) = (c :: l0).drop (opLen (c.toNat : Int)) := by
          intro h
          have hn : ¬ l0.length + 1 < opLen (c.toNat : Int) := fun h' => by rw [hT.2 h'] at h; cases h
          rw [hlen] at hn ⊢
          simp
        obtain ⟨h1, h2, h3⟩ := tk_of is hT hx hcur
        exact take_000 w hG _ _ _ _ _ _ hN0 (reads8_of l0 false (by omega)) (by omega) (by omega) is hK hA hB hin _ _ _ h1 h2 h3
      · have hlen : opLen (c.toNat : Int) = 4 := by unfold opLen opAtB opAtA; simp [hK, hA, hB]
        have hin : (⟨(c.toNat : Int), v8 l0, 0, v16 (l0.drop 1), 0⟩ : Opn).In := by
          exact ⟨by simp only; omega, by simp only; omega, (b8 _).1, (b8 _).2, n00, n08, (b16 _).1, (b16 _).2, n00, n16⟩
        have hT : ((false || l0.isEmpty) || decide ((l0.drop 1).length < 2)) = true ↔ l0.length + 1 < opLen (c.toNat : Int) := by
          rw [hlen]
          simp only [Bool.false_or, Bool.or_eq_true, empty_len, decide_eq_true_eq, List.length_drop]
          try split
          all_goals omega
        have hx : ((false || l0.isEmpty) || decide ((l0.drop 1).length < 2)) = false → (⟨(c.toNat : Int), v8 l0, 0, v16 (l0.drop 1), 0⟩ : Opn) = tkOp (nb (c :: l0)) := by
          intro h
          have hn : ¬ l0.length + 1 < opLen (c.toNat : Int) := fun h' => by rw [hT.2 h'] at h; cases h
          rw [hlen] at hn
          have h0 : (nb (c :: l0)).getD 0 0 = (c.toNat : Int) := rfl
          unfold tkOp opAtB opAtA
          simp only [h0, hK, hA, hB, if_true, if_false, Bool.false_eq_true]
          have r1 : v8 l0 = (nb (c :: l0)).getD 1 0 := by rw [cons_getD]; rfl
          have e3 : (l0.drop 1) = l0.drop 1 := by rfl
          have r3 : v16 (l0.drop 1) = 256 * (nb (c :: l0)).getD 2 0 + (nb (c :: l0)).getD 3 0 := by
            rw [e3, v16_of (by simp; omega), cons_getD, cons_getD, getD_drop, getD_drop]
          rw [r3, r1]
        have hcur : ((false || l0.isEmpty) || decide ((l0.drop 1).length < 2)) = false → (r16 (l0.drop 1)) = (c :: l0).drop (opLen (c.toNat : Int)) := by
          intro h
          have hn : ¬ l0.length + 1 < opLen (c.toNat : Int) := fun h' => by rw [hT.2 h'] at h; cases h
          rw [hlen] at hn ⊢
          rw [r16_of (by simp; omega)]
          simp
        obtain ⟨h1, h2, h3⟩ := tk_of is hT hx hcur
        exact take_010 w hG _ _ _ _ _ _ _ _ _ hN0 (reads8_of l0 false (by omega)) (reads16_of (l0.drop 1) _ (by omega)) (by omega) (by omega) is hK hA hB hin _ _ _ h1 h2 h3
      · have hlen : opLen (c.toNat : Int) = 6 := by unfold opLen opAtB opAtA; simp [hK, hA, hB]
        have hin : (⟨(c.toNat : Int), v8 l0, 0, v16 (l0.drop 1), v16 (r16 (l0.drop 1))⟩ : Opn).In := by
          exact ⟨by simp only; omega, by simp only; omega, (b8 _).1, (b8 _).2, n00, n08, (b16 _).1, (b16 _).2, (b16 _).1, (b16 _).2⟩
        have hT : (((false || l0.isEmpty) || decide ((l0.drop 1).length < 2)) || decide ((r16 (l0.drop 1)).length < 2)) = true ↔ l0.length + 1 < opLen (c.toNat : Int) := by
          rw [hlen]
          simp only [Bool.false_or, Bool.or_eq_true, empty_len, decide_eq_true_eq, r16_length, List.length_drop]
          try split
          all_goals omega
        have hx : (((false || l0.isEmpty) || decide ((l0.drop 1).length < 2)) || decide ((r16 (l0.drop 1)).length < 2)) = false → (⟨(c.toNat : Int), v8 l0, 0, v16 (l0.drop 1), v16 (r16 (l0.drop 1))⟩ : Opn) = tkOp (nb (c :: l0)) := by
          intro h
          have hn : ¬ l0.length + 1 < opLen (c.toNat : Int) := fun h' => by rw [hT.2 h'] at h; cases h
          rw [hlen] at hn
          have h0 : (nb (c :: l0)).getD 0 0 = (c.toNat : Int) := rfl
          unfold tkOp opAtB opAtA
          simp only [h0, hK, hA, hB, if_true, if_false, Bool.false_eq_true]
          have r1 : v8 l0 = (nb (c :: l0)).getD 1 0 := by rw [cons_getD]; rfl
          have e3 : (l0.drop 1) = l0.drop 1 := by rfl
          have r3 : v16 (l0.drop 1) = 256 * (nb (c :: l0)).getD 2 0 + (nb (c :: l0)).getD 3 0 := by
            rw [e3, v16_of (by simp; omega), cons_getD, cons_getD, getD_drop, getD_drop]
          have e4 : r16 (l0.drop 1) = l0.drop 3 := by rw [e3, r16_of (by simp; omega), List.drop_drop]
          have r4 : v16 (r16 (l0.drop 1)) = 256 * (nb (c :: l0)).getD 4 0 + (nb (c :: l0)).getD 5 0 := by
            rw [e4, v16_of (by simp; omega), cons_getD, cons_getD, getD_drop, getD_drop]
          rw [r4, r3, r1]
        have hcur : (((false || l0.isEmpty) || decide ((l0.drop 1).length < 2)) || decide ((r16 (l0.drop 1)).length < 2)) = false → (r16 (r16 (l0.drop 1))) = (c :: l0).drop (opLen (c.toNat : Int)) := by
          intro h
          have hn : ¬ l0.length + 1 < opLen (c.toNat : Int) := fun h' => by rw [hT.2 h'] at h; cases h
          rw [hlen] at hn ⊢
          rw [r16_of (l := (l0.drop 1)) (by simp; omega), r16_of (by simp; omega)]
          simp
        obtain ⟨h1, h2, h3⟩ := tk_of is hT hx hcur
        exact take_011 w hG _ _ _ _ _ _ _ _ _ _ _ _ hN0 (reads8_of l0 false (by omega)) (reads16_of (l0.drop 1) _ (by omega)) (reads16_of (r16 (l0.drop 1)) _ (by omega)) (by omega) (by omega) is hK hA hB hin _ _ _ h1 h2 h3
      · have hlen : opLen (c.toNat : Int) = 3 := by unfold opLen opAtB opAtA; simp [hK, hA, hB]
        have hin : (⟨(c.toNat : Int), v8 l0, v8 (l0.drop 1), 0, 0⟩ : Opn).In := by
          exact ⟨by simp only; omega, by simp only; omega, (b8 _).1, (b8 _).2, (b8 _).1, (b8 _).2, n00, n16, n00, n16⟩
        have hT : ((false || l0.isEmpty) || (l0.drop 1).isEmpty) = true ↔ l0.length + 1 < opLen (c.toNat : Int) := by
          rw [hlen]
          simp only [Bool.false_or, Bool.or_eq_true, empty_len, decide_eq_true_eq, List.length_drop]
          try split
          all_goals omega
        have hx : ((false || l0.isEmpty) || (l0.drop 1).isEmpty) = false → (⟨(c.toNat : Int), v8 l0, v8 (l0.drop 1), 0, 0⟩ : Opn) = tkOp (nb (c :: l0)) := by
          intro h
          have hn : ¬ l0.length + 1 < opLen (c.toNat : Int) := fun h' => by rw [hT.2 h'] at h; cases h
          rw [hlen] at hn
          have h0 : (nb (c :: l0)).getD 0 0 = (c.toNat : Int) := rfl
          unfold tkOp opAtB opAtA
          simp only [h0, hK, hA, hB, if_true, if_false, Bool.false_eq_true]
          have r1 : v8 l0 = (nb (c :: l0)).getD 1 0 := by rw [cons_getD]; rfl
          have r2 : v8 (l0.drop 1) = (nb (c :: l0)).getD 2 0 := by rw [cons_getD]; unfold v8; rw [getD_drop]
          rw [r2, r1]
        have hcur : ((false || l0.isEmpty) || (l0.drop 1).isEmpty) = false → ((l0.drop 1).drop 1) = (c :: l0).drop (opLen (c.toNat : Int)) := by
          intro h
          have hn : ¬ l0.length + 1 < opLen (c.toNat : Int) := fun h' => by rw [hT.2 h'] at h; cases h
          rw [hlen] at hn ⊢
          simp
        obtain ⟨h1, h2, h3⟩ := tk_of is hT hx hcur
        exact take_100 w hG _ _ _ _ _ _ _ _ _ hN0 (reads8_of l0 false (by omega)) (reads8_of (l0.drop 1) _ (by omega)) (by omega) (by omega) is hK hA hB hin _ _ _ h1 h2 h3
      · have hlen : opLen (c.toNat : Int) = 5 := by unfold opLen opAtB opAtA; simp [hK, hA, hB]
        have hin : (⟨(c.toNat : Int), v8 l0, v8 (l0.drop 1), v16 ((l0.drop 1).drop 1), 0⟩ : Opn).In := by
          exact ⟨by simp only; omega, by simp only; omega, (b8 _).1, (b8 _).2, (b8 _).1, (b8 _).2, (b16 _).1, (b16 _).2, n00, n16⟩
        have hT : (((false || l0.isEmpty) || (l0.drop 1).isEmpty) || decide (((l0.drop 1).drop 1).length < 2)) = true ↔ l0.length + 1 < opLen (c.toNat : Int) := by
          rw [hlen]
          simp only [Bool.false_or, Bool.or_eq_true, empty_len, decide_eq_true_eq, List.length_drop]
          try split
          all_goals omega
        have hx : (((false || l0.isEmpty) || (l0.drop 1).isEmpty) || decide (((l0.drop 1).drop 1).length < 2)) = false → (⟨(c.toNat : Int), v8 l0, v8 (l0.drop 1), v16 ((l0.drop 1).drop 1), 0⟩ : Opn) = tkOp (nb (c :: l0)) := by
          intro h
          have hn : ¬ l0.length + 1 < opLen (c.toNat : Int) := fun h' => by rw [hT.2 h'] at h; cases h
          rw [hlen] at hn
          have h0 : (nb (c :: l0)).getD 0 0 = (c.toNat : Int) := rfl
          unfold tkOp opAtB opAtA
          simp only [h0, hK, hA, hB, if_true, if_false, Bool.false_eq_true]
          have r1 : v8 l0 = (nb (c :: l0)).getD 1 0 := by rw [cons_getD]; rfl
          have r2 : v8 (l0.drop 1) = (nb (c :: l0)).getD 2 0 := by rw [cons_getD]; unfold v8; rw [getD_drop]
          have e3 : ((l0.drop 1).drop 1) = l0.drop 2 := by rw [List.drop_drop]
          have r3 : v16 ((l0.drop 1).drop 1) = 256 * (nb (c :: l0)).getD 3 0 + (nb (c :: l0)).getD 4 0 := by
            rw [e3, v16_of (by simp; omega), cons_getD, cons_getD, getD_drop, getD_drop]
          rw [r3, r2, r1]
        have hcur : (((false || l0.isEmpty) || (l0.drop 1).isEmpty) || decide (((l0.drop 1).drop 1).length < 2)) = false → (r16 ((l0.drop 1).drop 1)) = (c :: l0).drop (opLen (c.toNat : Int)) := by
          intro h
          have hn : ¬ l0.length + 1 < opLen (c.toNat : Int) := fun h' => by rw [hT.2 h'] at h; cases h
          rw [hlen] at hn ⊢
          rw [r16_of (by simp; omega)]
          simp
        obtain ⟨h1, h2, h3⟩ := tk_of is hT hx hcur
        exact take_110 w hG _ _ _ _ _ _ _ _ _ _ _ _ hN0 (reads8_of l0 false (by omega)) (reads8_of (l0.drop 1) _ (by omega)) (reads16_of ((l0.drop 1).drop 1) _ (by omega)) (by omega) (by omega) is hK hA hB hin _ _ _ h1 h2 h3
      · have hlen : opLen (c.toNat : Int) = 7 := by unfold opLen opAtB opAtA; simp [hK, hA, hB]
        have hin : (⟨(c.toNat : Int), v8 l0, v8 (l0.drop 1), v16 ((l0.drop 1).drop 1), v16 (r16 ((l0.drop 1).drop 1))⟩ : Opn).In := by
          exact ⟨by simp only; omega, by simp only; omega, (b8 _).1, (b8 _).2, (b8 _).1, (b8 _).2, (b16 _).1, (b16 _).2, (b16 _).1, (b16 _).2⟩
        have hT : ((((false || l0.isEmpty) || (l0.drop 1).isEmpty) || decide (((l0.drop 1).drop 1).length < 2)) || decide ((r16 ((l0.drop 1).drop 1)).length < 2)) = true ↔ l0.length + 1 < opLen (c.toNat : Int) := by
          rw [hlen]
          simp only [Bool.false_or, Bool.or_eq_true, empty_len, decide_eq_true_eq, r16_length, List.length_drop]
          try split
          all_goals omega
        have hx : ((((false || l0.isEmpty) || (l0.drop 1).isEmpty) || decide (((l0.drop 1).drop 1).length < 2)) || decide ((r16 ((l0.drop 1).drop 1)).length < 2)) = false → (⟨(c.toNat : Int), v8 l0, v8 (l0.drop 1), v16 ((l0.drop 1).drop 1), v16 (r16 ((l0.drop 1).drop 1))⟩ : Opn) = tkOp (nb (c :: l0)) := by
          intro h
          have hn : ¬ l0.length + 1 < opLen (c.toNat : Int) := fun h' => by rw [hT.2 h'] at h; cases h
          rw [hlen] at hn
          have h0 : (nb (c :: l0)).getD 0 0 = (c.toNat : Int) := rfl
          unfold tkOp opAtB opAtA
          simp only [h0, hK, hA, hB, if_true]
          have r1 : v8 l0 = (nb (c :: l0)).getD 1 0 := by rw [cons_getD]; rfl
          have r2 : v8 (l0.drop 1) = (nb (c :: l0)).getD 2 0 := by rw [cons_getD]; unfold v8; rw [getD_drop]
          have e3 : ((l0.drop 1).drop 1) = l0.drop 2 := by rw [List.drop_drop]
          have r3 : v16 ((l0.drop 1).drop 1) = 256 * (nb (c :: l0)).getD 3 0 + (nb (c :: l0)).getD 4 0 := by
            rw [e3, v16_of (by simp; omega), cons_getD, cons_getD, getD_drop, getD_drop]
          have e4 : r16 ((l0.drop 1).drop 1) = l0.drop 4 := by rw [e3, r16_of (by simp; omega), List.drop_drop]
          have r4 : v16 (r16 ((l0.drop 1).drop 1)) = 256 * (nb (c :: l0)).getD 5 0 + (nb (c :: l0)).getD 6 0 := by
            rw [e4, v16_of (by simp; omega), cons_getD, cons_getD, getD_drop, getD_drop]
          rw [r4, r3, r2, r1]
        have hcur : ((((false || l0.isEmpty) || (l0.drop 1).isEmpty) || decide (((l0.drop 1).drop 1).length < 2)) || decide ((r16 ((l0.drop 1).drop 1)).length < 2)) = false → (r16 (r16 ((l0.drop 1).drop 1))) = (c :: l0).drop (opLen (c.toNat : Int)) := by
          intro h
          have hn : ¬ l0.length + 1 < opLen (c.toNat : Int) := fun h' => by rw [hT.2 h'] at h; cases h
          rw [hlen] at hn ⊢
          rw [r16_of (l := ((l0.drop 1).drop 1)) (by simp; omega), r16_of (by simp; omega)]
          simp
        obtain ⟨h1, h2, h3⟩ := tk_of is hT hx hcur
        exact take_111 w hG _ _ _ _ _ _ _ _ _ _ _ _ _ _ _ hN0 (reads8_of l0 false (by omega)) (reads8_of (l0.drop 1) _ (by omega)) (reads16_of ((l0.drop 1).drop 1) _ (by omega)) (reads16_of (r16 ((l0.drop 1).drop 1)) _ (by omega)) (by omega) (by omega) is hK hA hB hin _ _ _ h1 h2 h3
    · have e : tkErr (nb (c :: l0)) = 4 := by
        have h0 : (nb (c :: l0)).getD 0 0 = (c.toNat : Int) := rfl
        have hl : (nb (c :: l0)).length = l0.length + 1 := by rw [nb_length]; rfl
        unfold tkErr
        rw [hl, h0, if_neg (by omega), if_pos is]
      have e1 : tkX (nb (c :: l0)) = opZero := by unfold tkX; rw [e]; rfl
      have e2 : tkRest (c :: l0) = [] := by unfold tkRest; rw [e]; rfl
      rw [e1, e2, e]
      exact take_no w hG _ _ _ hN0 (by omega) (by omega) is
theorem tkX_in (l : List UInt8) : (tkX (nb l)).In := by
  unfold tkX
  split
  · have hb : ∀ i, 0 ≤ (nb l).getD i 0 ∧ (nb l).getD i 0 < 256 := fun i => by rw [nb_getD]; have := (l.getD i 0).toNat_lt; omega
    have q0 := hb 0; have q1 := hb 1; have q2 := hb 2
    have qa := hb (opAtA ((nb l).getD 0 0)); have qa1 := hb (opAtA ((nb l).getD 0 0) + 1)
    have qb := hb (opAtB ((nb l).getD 0 0)); have qb1 := hb (opAtB ((nb l).getD 0 0) + 1)
    refine ⟨?_, ?_, ?_, ?_, ?_, ?_, ?_, ?_, ?_, ?_⟩ <;> simp only [tkOp] <;> first | omega | (split <;> omega)
  · exact zero_in
end Go.Proofs.YtibppobibncpdaaGreatDoor
/-
  The document's Put.
-/
namespace Go.Proofs.YtibppobibncpdaaGreatDoor
open Go.RowKit
theorem nums_join (xs ys : List Int) : strOfNums (xs ++ ys) = strOfNums xs ++ strOfNums ys := by
  apply ByteArray.ext; rw [ByteArray.data_append]; simp [strOfNums]
set_option maxHeartbeats 1000000 in
set_option maxRecDepth 100000 in
theorem two4_any (w : World) (n : Int) (n0 : 0 ≤ n) (n1 : n < 65536) : Calls Tryz.prog 43 #[.int .u16 n] w fun e w' => e = .returned (.string (strOfNums [n / 256, n % 256])) ∧ Keeps [] w w' := by
  obtain ⟨m, rfl⟩ := Int.eq_ofNat_of_zero_le n0
  have hcv := fun (W : World) => text2_at (W := W) rfl ((m : Int) / 256) ((m : Int) % 256)
  go_enter Tryz.func43, Tryz.ntmps43
  go_wp2
  go_ret
  exact ⟨rfl, (Keeps.refl _ _).alloc _⟩
set_option maxHeartbeats 4000000 in
set_option maxRecDepth 100000 in
theorem r4Put_000 (w : World) (f o k a b : Int) (hx : (⟨f, o, k, a, b⟩ : Opn).In) (hg : opGood ⟨f, o, k, a, b⟩ = true) (hK : opK f = false) (hA : opA f = false) (hB : opB f = false) :
    Calls Tryz.prog 23 #[.agg #[.int .u8 f, .int .u8 o, .int .u8 k, .int .u16 a, .int .u16 b]] w fun e w' =>
    e = .returned (.tuple #[.string (strOfNums [f, o]), .int .i64 0]) ∧ Keeps [] w w' := by
  have hv := fun w => May_any w f o k a b hx
  have hc := fun w => Of_any w f hx.f0 hx.f1
  rw [hg] at hv
  rw [hK, hA, hB] at hc
  obtain ⟨f0, f1, o0, o1, k0, k1, a0, a1, b0, b1⟩ := hx
  simp only at f0 f1 o0 o1 k0 k1 a0 a1 b0 b1
  have ht1 := fun w => two4_any w a a0 a1
  have ht2 := fun w => two4_any w b b0 b1
  have z1 : (strOfNums [f, o]).size = 2 := strOfNums_size _
  have z2 : (strOfNums [k]).size = 1 := strOfNums_size _
  have z3 : (strOfNums [a / 256, a % 256]).size = 2 := strOfNums_size _
  have z4 : (strOfNums [b / 256, b % 256]).size = 2 := strOfNums_size _
  have hk0 := (Keeps.refl [] w).alloc (.cells #[.int .u8 f, .int .u8 o, .int .u8 k, .int .u16 a, .int .u16 b] 24)
  clear hK hA hB hg
  generalize opM f = M at *
  generalize bs (opNm f) = NM at *
  generalize opIs f = I at *
  generalize strOfNums [a / 256, a % 256] = TA at *
  generalize strOfNums [b / 256, b % 256] = TB at *
  generalize hT0 : strOfNums [f, o] = T0 at *
  generalize hTK : strOfNums [k] = TK at *
  go_enter Tryz.func23, Tryz.ntmps23
  go_wp2_with fail
  refine (hv _).mono ?_; rintro e w1 ⟨rfl, hk1⟩
  have hb := boxed5 hk1
  replace hk1 := hk0.trans hk1 (FSub.refl _ _)
  obtain ⟨c0, c1, c2, c3, c4, cl⟩ := cell5 hb
  go_wp2_with fail
  refine (hc _).mono ?_; rintro e w2 ⟨rfl, hk2⟩
  have hb2 := hk2.heap hb (by simp)
  replace hk2 := hk1.trans hk2 (FSub.refl _ _)
  clear c0 c1 c2 c3 c4 cl hb hk1 hv hc hk0
  obtain ⟨c0, c1, c2, c3, c4, cl⟩ := cell5 hb2
  have hcv := text2_at (W := w2.alloc (.cells #[.int .i64 M, .string NM, .bool false, .bool false, .bool false] 97)) (b := w2.heap.size + 1) (by simp) f o
  rw [hT0] at hcv
  go_wp2_with fail
  go_ret2
  exact ⟨rfl, ((hk2.alloc _).alloc _)⟩
set_option maxHeartbeats 4000000 in
set_option maxRecDepth 100000 in
theorem r4Put_010 (w : World) (f o k a b : Int) (hx : (⟨f, o, k, a, b⟩ : Opn).In) (hg : opGood ⟨f, o, k, a, b⟩ = true) (hK : opK f = false) (hA : opA f = true) (hB : opB f = false) :
    Calls Tryz.prog 23 #[.agg #[.int .u8 f, .int .u8 o, .int .u8 k, .int .u16 a, .int .u16 b]] w fun e w' =>
    e = .returned (.tuple #[.string ((strOfNums [f, o] ++ strOfNums [a / 256, a % 256])), .int .i64 0]) ∧ Keeps [] w w' := by
  have hv := fun w => May_any w f o k a b hx
  have hc := fun w => Of_any w f hx.f0 hx.f1
  rw [hg] at hv
  rw [hK, hA, hB] at hc
  obtain ⟨f0, f1, o0, o1, k0, k1, a0, a1, b0, b1⟩ := hx
  simp only at f0 f1 o0 o1 k0 k1 a0 a1 b0 b1
  have ht1 := fun w => two4_any w a a0 a1
  have ht2 := fun w => two4_any w b b0 b1
  have z1 : (strOfNums [f, o]).size = 2 := strOfNums_size _
  have z2 : (strOfNums [k]).size = 1 := strOfNums_size _
  have z3 : (strOfNums [a / 256, a % 256]).size = 2 := strOfNums_size _
  have z4 : (strOfNums [b / 256, b % 256]).size = 2 := strOfNums_size _
  have hk0 := (Keeps.refl [] w).alloc (.cells #[.int .u8 f, .int .u8 o, .int .u8 k, .int .u16 a, .int .u16 b] 24)
  clear hK hA hB hg
  generalize opM f = M at *
  generalize bs (opNm f) = NM at *
  generalize opIs f = I at *
  generalize strOfNums [a / 256, a % 256] = TA at *
  generalize strOfNums [b / 256, b % 256] = TB at *
  generalize hT0 : strOfNums [f, o] = T0 at *
  generalize hTK : strOfNums [k] = TK at *
  go_enter Tryz.func23, Tryz.ntmps23
  go_wp2_with fail
  refine (hv _).mono ?_; rintro e w1 ⟨rfl, hk1⟩
  have hb := boxed5 hk1
  replace hk1 := hk0.trans hk1 (FSub.refl _ _)
  obtain ⟨c0, c1, c2, c3, c4, cl⟩ := cell5 hb
  go_wp2_with fail
  refine (hc _).mono ?_; rintro e w2 ⟨rfl, hk2⟩
  have hb2 := hk2.heap hb (by simp)
  replace hk2 := hk1.trans hk2 (FSub.refl _ _)
  clear c0 c1 c2 c3 c4 cl hb hk1 hv hc hk0
  obtain ⟨c0, c1, c2, c3, c4, cl⟩ := cell5 hb2
  have hcv := text2_at (W := w2.alloc (.cells #[.int .i64 M, .string NM, .bool false, .bool true, .bool false] 97)) (b := w2.heap.size + 1) (by simp) f o
  rw [hT0] at hcv
  go_wp2_with fail
  refine (ht1 _).mono ?_; rintro e w3 ⟨rfl, hk3⟩
  have hx3 := hk3.heap (heap_alloc_lt (heap_alloc_lt hb2)) (by simp)
  have hq3 := hk3.heap (heap_alloc_lt (heap_alloc_new w2 _)) (by simp)
  replace hk3 := (((hk2.alloc _).alloc _)).trans hk3 (FSub.refl _ _)
  obtain ⟨c0, c1, c2, c3, c4, cl⟩ := cell5 hx3
  obtain ⟨q0, q1, q2, q3, q4, ql⟩ := cell5 hq3
  go_wp2_with fail
  go_ret2
  exact ⟨rfl, hk3⟩
set_option maxHeartbeats 4000000 in
set_option maxRecDepth 100000 in
theorem r4Put_011 (w : World) (f o k a b : Int) (hx : (⟨f, o, k, a, b⟩ : Opn).In) (hg : opGood ⟨f, o, k, a, b⟩ = true) (hK : opK f = false) (hA : opA f = true) (hB : opB f = true) :
    Calls Tryz.prog 23 #[.agg #[.int .u8 f, .int .u8 o, .int .u8 k, .int .u16 a, .int .u16 b]] w fun e w' =>
    e = .returned (.tuple #[.string (((strOfNums [f, o] ++ strOfNums [a / 256, a % 256]) ++ strOfNums [b / 256, b % 256])), .int .i64 0]) ∧ Keeps [] w w' := by
  have hv := fun w => May_any w f o k a b hx
  have hc := fun w => Of_any w f hx.f0 hx.f1
  rw [hg] at hv
  rw [hK, hA, hB] at hc
  obtain ⟨f0, f1, o0, o1, k0, k1, a0, a1, b0, b1⟩ := hx
  simp only at f0 f1 o0 o1 k0 k1 a0 a1 b0 b1
  have ht1 := fun w => two4_any w a a0 a1
  have ht2 := fun w => two4_any w b b0 b1
  have z1 : (strOfNums [f, o]).size = 2 := strOfNums_size _
  have z2 : (strOfNums [k]).size = 1 := strOfNums_size _
  have z3 : (strOfNums [a / 256, a % 256]).size = 2 := strOfNums_size _
  have z4 : (strOfNums [b / 256, b % 256]).size = 2 := strOfNums_size _
  have hk0 := (Keeps.refl [] w).alloc (.cells #[.int .u8 f, .int .u8 o, .int .u8 k, .int .u16 a, .int .u16 b] 24)
  clear hK hA hB hg
  generalize opM f = M at *
  generalize bs (opNm f) = NM at *
  generalize opIs f = I at *
  generalize strOfNums [a / 256, a % 256] = TA at *
  generalize strOfNums [b / 256, b % 256] = TB at *
  generalize hT0 : strOfNums [f, o] = T0 at *
  generalize hTK : strOfNums [k] = TK at *
  go_enter Tryz.func23, Tryz.ntmps23
  go_wp2_with fail
  refine (hv _).mono ?_; rintro e w1 ⟨rfl, hk1⟩
  have hb := boxed5 hk1
  replace hk1 := hk0.trans hk1 (FSub.refl _ _)
  obtain ⟨c0, c1, c2, c3, c4, cl⟩ := cell5 hb
  go_wp2_with fail
  refine (hc _).mono ?_; rintro e w2 ⟨rfl, hk2⟩
  have hb2 := hk2.heap hb (by simp)
  replace hk2 := hk1.trans hk2 (FSub.refl _ _)
  clear c0 c1 c2 c3 c4 cl hb hk1 hv hc hk0
  obtain ⟨c0, c1, c2, c3, c4, cl⟩ := cell5 hb2
  have hcv := text2_at (W := w2.alloc (.cells #[.int .i64 M, .string NM, .bool false, .bool true, .bool true] 97)) (b := w2.heap.size + 1) (by simp) f o
  rw [hT0] at hcv
  go_wp2_with fail
  refine (ht1 _).mono ?_; rintro e w3 ⟨rfl, hk3⟩
  have hx3 := hk3.heap (heap_alloc_lt (heap_alloc_lt hb2)) (by simp)
  have hq3 := hk3.heap (heap_alloc_lt (heap_alloc_new w2 _)) (by simp)
  replace hk3 := (((hk2.alloc _).alloc _)).trans hk3 (FSub.refl _ _)
  obtain ⟨c0, c1, c2, c3, c4, cl⟩ := cell5 hx3
  obtain ⟨q0, q1, q2, q3, q4, ql⟩ := cell5 hq3
  go_wp2_with fail
  refine (ht2 _).mono ?_; rintro e w4 ⟨rfl, hk4⟩
  have hx4 := hk4.heap hx3 (by simp)
  have hq4 := hk4.heap hq3 (by simp)
  replace hk4 := (hk3).trans hk4 (FSub.refl _ _)
  obtain ⟨c0, c1, c2, c3, c4, cl⟩ := cell5 hx4
  obtain ⟨q0, q1, q2, q3, q4, ql⟩ := cell5 hq4
  go_wp2_with fail
  go_ret2
  exact ⟨rfl, hk4⟩
set_option maxHeartbeats 4000000 in
set_option maxRecDepth 100000 in
theorem r4Put_100 (w : World) (f o k a b : Int) (hx : (⟨f, o, k, a, b⟩ : Opn).In) (hg : opGood ⟨f, o, k, a, b⟩ = true) (hK : opK f = true) (hA : opA f = false) (hB : opB f = false) :
    Calls Tryz.prog 23 #[.agg #[.int .u8 f, .int .u8 o, .int .u8 k, .int .u16 a, .int .u16 b]] w fun e w' =>
    e = .returned (.tuple #[.string ((strOfNums [f, o] ++ strOfNums [k])), .int .i64 0]) ∧ Keeps [] w w' := by
  have hv := fun w => May_any w f o k a b hx
  have hc := fun w => Of_any w f hx.f0 hx.f1
  rw [hg] at hv
  rw [hK, hA, hB] at hc
  obtain ⟨f0, f1, o0, o1, k0, k1, a0, a1, b0, b1⟩ := hx
  simp only at f0 f1 o0 o1 k0 k1 a0 a1 b0 b1
  have ht1 := fun w => two4_any w a a0 a1
  have ht2 := fun w => two4_any w b b0 b1
  have z1 : (strOfNums [f, o]).size = 2 := strOfNums_size _
  have z2 : (strOfNums [k]).size = 1 := strOfNums_size _
  have z3 : (strOfNums [a / 256, a % 256]).size = 2 := strOfNums_size _
  have z4 : (strOfNums [b / 256, b % 256]).size = 2 := strOfNums_size _
  have hk0 := (Keeps.refl [] w).alloc (.cells #[.int .u8 f, .int .u8 o, .int .u8 k, .int .u16 a, .int .u16 b] 24)
  clear hK hA hB hg
  generalize opM f = M at *
  generalize bs (opNm f) = NM at *
  generalize opIs f = I at *
  generalize strOfNums [a / 256, a % 256] = TA at *
  generalize strOfNums [b / 256, b % 256] = TB at *
  generalize hT0 : strOfNums [f, o] = T0 at *
  generalize hTK : strOfNums [k] = TK at *
  go_enter Tryz.func23, Tryz.ntmps23
  go_wp2_with fail
  refine (hv _).mono ?_; rintro e w1 ⟨rfl, hk1⟩
  have hb := boxed5 hk1
  replace hk1 := hk0.trans hk1 (FSub.refl _ _)
  obtain ⟨c0, c1, c2, c3, c4, cl⟩ := cell5 hb
  go_wp2_with fail
  refine (hc _).mono ?_; rintro e w2 ⟨rfl, hk2⟩
  have hb2 := hk2.heap hb (by simp)
  replace hk2 := hk1.trans hk2 (FSub.refl _ _)
  clear c0 c1 c2 c3 c4 cl hb hk1 hv hc hk0
  obtain ⟨c0, c1, c2, c3, c4, cl⟩ := cell5 hb2
  have hcv := text2_at (W := w2.alloc (.cells #[.int .i64 M, .string NM, .bool true, .bool false, .bool false] 97)) (b := w2.heap.size + 1) (by simp) f o
  rw [hT0] at hcv
  have hcv2 := text1_at (W := ((w2.alloc (.cells #[.int .i64 M, .string NM, .bool true, .bool false, .bool false] 97)).alloc (.cells #[.int .u8 f, .int .u8 o] 5))) (b := w2.heap.size + 1 + 1) (by simp) k
  rw [hTK] at hcv2
  obtain ⟨d0, d1, d2, d3, d4, dl⟩ := cell5 (heap_alloc_lt (o := .cells #[.int .u8 k] 5) (heap_alloc_lt (o := .cells #[.int .u8 f, .int .u8 o] 5) (heap_alloc_lt (o := .cells #[.int .i64 M, .string NM, .bool true, .bool false, .bool false] 97) hb2)))
  obtain ⟨g0, g1, g2, g3, g4, gl⟩ := cell5 (heap_alloc_lt (o := .cells #[.int .u8 k] 5) (heap_alloc_lt (o := .cells #[.int .u8 f, .int .u8 o] 5) (heap_alloc_new w2 (.cells #[.int .i64 M, .string NM, .bool true, .bool false, .bool false] 97))))
  go_wp2_with fail
  go_ret2
  exact ⟨rfl, (((hk2.alloc _).alloc _).alloc _)⟩
set_option maxHeartbeats 4000000 in
set_option maxRecDepth 100000 in
theorem r4Put_110 (w : World) (f o k a b : Int) (hx : (⟨f, o, k, a, b⟩ : Opn).In) (hg : opGood ⟨f, o, k, a, b⟩ = true) (hK : opK f = true) (hA : opA f = true) (hB : opB f = false) :
    Calls Tryz.prog 23 #[.agg #[.int .u8 f, .int .u8 o, .int .u8 k, .int .u16 a, .int .u16 b]] w fun e w' =>
    e = .returned (.tuple #[.string (((strOfNums [f, o] ++ strOfNums [k]) ++ strOfNums [a / 256, a % 256])), .int .i64 0]) ∧ Keeps [] w w' := by
  have hv := fun w => May_any w f o k a b hx
  have hc := fun w => Of_any w f hx.f0 hx.f1
  rw [hg] at hv
  rw [hK, hA, hB] at hc
  obtain ⟨f0, f1, o0, o1, k0, k1, a0, a1, b0, b1⟩ := hx
  simp only at f0 f1 o0 o1 k0 k1 a0 a1 b0 b1
  have ht1 := fun w => two4_any w a a0 a1
  have ht2 := fun w => two4_any w b b0 b1
  have z1 : (strOfNums [f, o]).size = 2 := strOfNums_size _
  have z2 : (strOfNums [k]).size = 1 := strOfNums_size _
  have z3 : (strOfNums [a / 256, a % 256]).size = 2 := strOfNums_size _
  have z4 : (strOfNums [b / 256, b % 256]).size = 2 := strOfNums_size _
  have hk0 := (Keeps.refl [] w).alloc (.cells #[.int .u8 f, .int .u8 o, .int .u8 k, .int .u16 a, .int .u16 b] 24)
  clear hK hA hB hg
  generalize opM f = M at *
  generalize bs (opNm f) = NM at *
  generalize opIs f = I at *
  generalize strOfNums [a / 256, a % 256] = TA at *
  generalize strOfNums [b / 256, b % 256] = TB at *
  generalize hT0 : strOfNums [f, o] = T0 at *
  generalize hTK : strOfNums [k] = TK at *
  go_enter Tryz.func23, Tryz.ntmps23
  go_wp2_with fail
  refine (hv _).mono ?_; rintro e w1 ⟨rfl, hk1⟩
  have hb := boxed5 hk1
  replace hk1 := hk0.trans hk1 (FSub.refl _ _)
  obtain ⟨c0, c1, c2, c3, c4, cl⟩ := cell5 hb
  go_wp2_with fail
  refine (hc _).mono ?_; rintro e w2 ⟨rfl, hk2⟩
  have hb2 := hk2.heap hb (by simp)
  replace hk2 := hk1.trans hk2 (FSub.refl _ _)
  clear c0 c1 c2 c3 c4 cl hb hk1 hv hc hk0
  obtain ⟨c0, c1, c2, c3, c4, cl⟩ := cell5 hb2
  have hcv := text2_at (W := w2.alloc (.cells #[.int .i64 M, .string NM, .bool true, .bool true, .bool false] 97)) (b := w2.heap.size + 1) (by simp) f o
  rw [hT0] at hcv
  have hcv2 := text1_at (W := ((w2.alloc (.cells #[.int .i64 M, .string NM, .bool true, .bool true, .bool false] 97)).alloc (.cells #[.int .u8 f, .int .u8 o] 5))) (b := w2.heap.size + 1 + 1) (by simp) k
  rw [hTK] at hcv2
  obtain ⟨d0, d1, d2, d3, d4, dl⟩ := cell5 (heap_alloc_lt (o := .cells #[.int .u8 k] 5) (heap_alloc_lt (o := .cells #[.int .u8 f, .int .u8 o] 5) (heap_alloc_lt (o := .cells #[.int .i64 M, .string NM, .bool true, .bool true, .bool false] 97) hb2)))
  obtain ⟨g0, g1, g2, g3, g4, gl⟩ := cell5 (heap_alloc_lt (o := .cells #[.int .u8 k] 5) (heap_alloc_lt (o := .cells #[.int .u8 f, .int .u8 o] 5) (heap_alloc_new w2 (.cells #[.int .i64 M, .string NM, .bool true, .bool true, .bool false] 97))))
  go_wp2_with fail
  refine (ht1 _).mono ?_; rintro e w3 ⟨rfl, hk3⟩
  have hx3 := hk3.heap (heap_alloc_lt (heap_alloc_lt (heap_alloc_lt hb2))) (by simp)
  have hq3 := hk3.heap (heap_alloc_lt (heap_alloc_lt (heap_alloc_new w2 _))) (by simp)
  replace hk3 := ((((hk2.alloc _).alloc _).alloc _)).trans hk3 (FSub.refl _ _)
  obtain ⟨c0, c1, c2, c3, c4, cl⟩ := cell5 hx3
  obtain ⟨q0, q1, q2, q3, q4, ql⟩ := cell5 hq3
  go_wp2_with fail
  go_ret2
  exact ⟨rfl, hk3⟩
set_option maxHeartbeats 4000000 in
set_option maxRecDepth 100000 in
theorem r4Put_111 (w : World) (f o k a b : Int) (hx : (⟨f, o, k, a, b⟩ : Opn).In) (hg : opGood ⟨f, o, k, a, b⟩ = true) (hK : opK f = true) (hA : opA f = true) (hB : opB f = true) :
    Calls Tryz.prog 23 #[.agg #[.int .u8 f, .int .u8 o, .int .u8 k, .int .u16 a, .int .u16 b]] w fun e w' =>
    e = .returned (.tuple #[.string ((((strOfNums [f, o] ++ strOfNums [k]) ++ strOfNums [a / 256, a % 256]) ++ strOfNums [b / 256, b % 256])), .int .i64 0]) ∧ Keeps [] w w' := by
  have hv := fun w => May_any w f o k a b hx
  have hc := fun w => Of_any w f hx.f0 hx.f1
  rw [hg] at hv
  rw [hK, hA, hB] at hc
  obtain ⟨f0, f1, o0, o1, k0, k1, a0, a1, b0, b1⟩ := hx
  simp only at f0 f1 o0 o1 k0 k1 a0 a1 b0 b1
  have ht1 := fun w => two4_any w a a0 a1
  have ht2 := fun w => two4_any w b b0 b1
  have z1 : (strOfNums [f, o]).size = 2 := strOfNums_size _
  have z2 : (strOfNums [k]).size = 1 := strOfNums_size _
  have z3 : (strOfNums [a / 256, a % 256]).size = 2 := strOfNums_size _
  have z4 : (strOfNums [b / 256, b % 256]).size = 2 := strOfNums_size _
  have hk0 := (Keeps.refl [] w).alloc (.cells #[.int .u8 f, .int .u8 o, .int .u8 k, .int .u16 a, .int .u16 b] 24)
  clear hK hA hB hg
  generalize opM f = M at *
  generalize bs (opNm f) = NM at *
  generalize opIs f = I at *
  generalize strOfNums [a / 256, a % 256] = TA at *
  generalize strOfNums [b / 256, b % 256] = TB at *
  generalize hT0 : strOfNums [f, o] = T0 at *
  generalize hTK : strOfNums [k] = TK at *
  go_enter Tryz.func23, Tryz.ntmps23
  go_wp2_with fail
  refine (hv _).mono ?_; rintro e w1 ⟨rfl, hk1⟩
  have hb := boxed5 hk1
  replace hk1 := hk0.trans hk1 (FSub.refl _ _)
  obtain ⟨c0, c1, c2, c3, c4, cl⟩ := cell5 hb
  go_wp2_with fail
  refine (hc _).mono ?_; rintro e w2 ⟨rfl, hk2⟩
  have hb2 := hk2.heap hb (by simp)
  replace hk2 := hk1.trans hk2 (FSub.refl _ _)
  clear c0 c1 c2 c3 c4 cl hb hk1 hv hc hk0
  obtain ⟨c0, c1, c2, c3, c4, cl⟩ := cell5 hb2
  have hcv := text2_at (W := w2.alloc (.cells #[.int .i64 M, .string NM, .bool true, .bool true, .bool true] 97)) (b := w2.heap.size + 1) (by simp) f o
  rw [hT0] at hcv
  have hcv2 := text1_at (W := ((w2.alloc (.cells #[.int .i64 M, .string NM, .bool true, .bool true, .bool true] 97)).alloc (.cells #[.int .u8 f, .int .u8 o] 5))) (b := w2.heap.size + 1 + 1) (by simp) k
  rw [hTK] at hcv2
  obtain ⟨d0, d1, d2, d3, d4, dl⟩ := cell5 (heap_alloc_lt (o := .cells #[.int .u8 k] 5) (heap_alloc_lt (o := .cells #[.int .u8 f, .int .u8 o] 5) (heap_alloc_lt (o := .cells #[.int .i64 M, .string NM, .bool true, .bool true, .bool true] 97) hb2)))
  obtain ⟨g0, g1, g2, g3, g4, gl⟩ := cell5 (heap_alloc_lt (o := .cells #[.int .u8 k] 5) (heap_alloc_lt (o := .cells #[.int .u8 f, .int .u8 o] 5) (heap_alloc_new w2 (.cells #[.int .i64 M, .string NM, .bool true, .bool true, .bool true] 97))))
  go_wp2_with fail
  refine (ht1 _).mono ?_; rintro e w3 ⟨rfl, hk3⟩
  have hx3 := hk3.heap (heap_alloc_lt (heap_alloc_lt (heap_alloc_lt hb2))) (by simp)
  have hq3 := hk3.heap (heap_alloc_lt (heap_alloc_lt (heap_alloc_new w2 _))) (by simp)
  replace hk3 := ((((hk2.alloc _).alloc _).alloc _)).trans hk3 (FSub.refl _ _)
  obtain ⟨c0, c1, c2, c3, c4, cl⟩ := cell5 hx3
  obtain ⟨q0, q1, q2, q3, q4, ql⟩ := cell5 hq3
  go_wp2_with fail
  refine (ht2 _).mono ?_; rintro e w4 ⟨rfl, hk4⟩
  have hx4 := hk4.heap hx3 (by simp)
  have hq4 := hk4.heap hq3 (by simp)
  replace hk4 := (hk3).trans hk4 (FSub.refl _ _)
  obtain ⟨c0, c1, c2, c3, c4, cl⟩ := cell5 hx4
  obtain ⟨q0, q1, q2, q3, q4, ql⟩ := cell5 hq4
  go_wp2_with fail
  go_ret2
  exact ⟨rfl, hk4⟩
theorem r4Put_good (w : World) (f o k a b : Int) (hx : (⟨f, o, k, a, b⟩ : Opn).In) (hg : opGood ⟨f, o, k, a, b⟩ = true) :
    Calls Tryz.prog 23 #[.agg #[.int .u8 f, .int .u8 o, .int .u8 k, .int .u16 a, .int .u16 b]] w fun e w' =>
    e = .returned (.tuple #[.string (strOfNums (opPut ⟨f, o, k, a, b⟩)), .int .i64 0]) ∧ Keeps [] w w' := by
  rcases need_ways ((good_iff _).1 hg).is with ⟨hK, hA, hB⟩ | ⟨hK, hA, hB⟩ | ⟨hK, hA, hB⟩ | ⟨hK, hA, hB⟩ | ⟨hK, hA, hB⟩ | ⟨hK, hA, hB⟩
  · have h := r4Put_000 w f o k a b hx hg hK hA hB
    have e : opPut ⟨f, o, k, a, b⟩ = [f, o] := by simp only [opPut, hK, hA, hB]; rfl
    rw [e]
    try simp only [nums_join]
    exact h
  · have h := r4Put_010 w f o k a b hx hg hK hA hB
    have e : opPut ⟨f, o, k, a, b⟩ = [f, o] ++ [a / 256, a % 256] := by simp only [opPut, hK, hA, hB]; rfl
    rw [e]
    try simp only [nums_join]
    exact h
  · have h := r4Put_011 w f o k a b hx hg hK hA hB
    have e : opPut ⟨f, o, k, a, b⟩ = [f, o] ++ [a / 256, a % 256] ++ [b / 256, b % 256] := by simp only [opPut, hK, hA, hB]; rfl
    rw [e]
    try simp only [nums_join]
    exact h
  · have h := r4Put_100 w f o k a b hx hg hK hA hB
    have e : opPut ⟨f, o, k, a, b⟩ = [f, o] ++ [k] := by simp only [opPut, hK, hA, hB]; rfl
    rw [e]
    try simp only [nums_join]
    exact h
  · have h := r4Put_110 w f o k a b hx hg hK hA hB
    have e : opPut ⟨f, o, k, a, b⟩ = [f, o] ++ [k] ++ [a / 256, a % 256] := by simp only [opPut, hK, hA, hB]; rfl
    rw [e]
    try simp only [nums_join]
    exact h
  · have h := r4Put_111 w f o k a b hx hg hK hA hB
    have e : opPut ⟨f, o, k, a, b⟩ = [f, o] ++ [k] ++ [a / 256, a % 256] ++ [b / 256, b % 256] := by simp only [opPut, hK, hA, hB]; rfl
    rw [e]
    try simp only [nums_join]
    exact h
theorem r4Put_bad (w : World) (f o k a b : Int) (hx : (⟨f, o, k, a, b⟩ : Opn).In) (hg : opGood ⟨f, o, k, a, b⟩ = false) :
    Calls Tryz.prog 23 #[.agg #[.int .u8 f, .int .u8 o, .int .u8 k, .int .u16 a, .int .u16 b]] w fun e w' =>
    e = .returned (.tuple #[.string ⟨#[]⟩, .int .i64 4]) ∧ Keeps [] w w' := by
  have hv := fun w => May_any w f o k a b hx
  rw [hg] at hv
  have hk0 := (Keeps.refl [] w).alloc (.cells #[.int .u8 f, .int .u8 o, .int .u8 k, .int .u16 a, .int .u16 b] 24)
  go_enter Tryz.func23, Tryz.ntmps23
  go_wp2_with fail
  refine (hv _).mono ?_; rintro e w1 ⟨rfl, hk1⟩
  go_wp2_with fail
  go_ret2
  exact ⟨rfl, hk0.trans hk1 (FSub.refl _ _)⟩
theorem r4Put_any (w : World) (f o k a b : Int) (hx : (⟨f, o, k, a, b⟩ : Opn).In) :
    Calls Tryz.prog 23 #[.agg #[.int .u8 f, .int .u8 o, .int .u8 k, .int .u16 a, .int .u16 b]] w fun e w' =>
    e = .returned (.tuple #[.string (if opGood ⟨f, o, k, a, b⟩ then strOfNums (opPut ⟨f, o, k, a, b⟩) else ⟨#[]⟩), .int .i64 (if opGood ⟨f, o, k, a, b⟩ then 0 else 4)]) ∧ Keeps [] w w' := by
  rcases bool_two (opGood ⟨f, o, k, a, b⟩) with hg | hg
  · have h := r4Put_good w f o k a b hx hg
    simp only [hg, if_true]; exact h
  · have h := r4Put_bad w f o k a b hx hg
    simp only [hg, if_false, Bool.false_eq_true]; exact h
end Go.Proofs.YtibppobibncpdaaGreatDoor
