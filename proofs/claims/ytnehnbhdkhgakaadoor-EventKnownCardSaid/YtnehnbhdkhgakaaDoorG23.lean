/-
  The program's Take, put together.
-/
import Derived.Test.YtnehnbhdkhgakaaDoorG21
import Derived.Test.YtnehnbhdkhgakaaDoorG22
set_option linter.unusedSimpArgs false
set_option linter.unusedVariables false
namespace Go.Proofs.YtnehnbhdkhgakaaDoor
open Go.RowKit
/-- What is behind an operation's bytes. -/
def tkRest (l : List UInt8) : List UInt8 := if tkErr (nb l) = 0 then l.drop (opLen ((nb l).getD 0 0)) else []
theorem opLen_ge (f : Int) : 2 ≤ opLen f := by unfold opLen opAtB opAtA; omega
theorem tk_of {c : UInt8} {l0 cur : List UInt8} {x : Opn} {T : Bool} (is : opIs (c.toNat : Int) = true) (hT : T = true ↔ l0.length + 1 < opLen (c.toNat : Int))
    (hx : T = false → x = tkOp (nb (c :: l0))) (hc : T = false → cur = (c :: l0).drop (opLen (c.toNat : Int))) :
    (T = true → tkX (nb (c :: l0)) = opZero ∧ bs (tkRest (c :: l0)) = ⟨#[]⟩ ∧ tkErr (nb (c :: l0)) = 5) ∧
    (T = false → opGood x = true → tkX (nb (c :: l0)) = x ∧ bs (tkRest (c :: l0)) = bs cur ∧ tkErr (nb (c :: l0)) = 0) ∧
    (T = false → opGood x = false → tkX (nb (c :: l0)) = opZero ∧ bs (tkRest (c :: l0)) = ⟨#[]⟩ ∧ tkErr (nb (c :: l0)) = 4) := by
  have h0 : (nb (c :: l0)).getD 0 0 = (c.toNat : Int) := rfl
  have hl : (nb (c :: l0)).length = l0.length + 1 := by rw [nb_length]; rfl
  have hE : tkErr (nb (c :: l0)) = if l0.length + 1 < opLen (c.toNat : Int) then 5 else if opGood (tkOp (nb (c :: l0))) then 0 else 4 := by
    unfold tkErr
    rw [hl, h0, if_neg (by omega), if_neg (by simp [is])]
  refine ⟨fun h => ?_, fun h hg => ?_, fun h hg => ?_⟩
  · have e : tkErr (nb (c :: l0)) = 5 := by rw [hE, if_pos (hT.1 h)]
    refine ⟨by unfold tkX; rw [e]; rfl, by unfold tkRest; rw [e]; rfl, e⟩
  · have hn : ¬ l0.length + 1 < opLen (c.toNat : Int) := fun h' => by rw [hT.2 h'] at h; cases h
    have hxe := hx h
    have e : tkErr (nb (c :: l0)) = 0 := by rw [hE, if_neg hn, ← hxe, if_pos hg]
    refine ⟨by unfold tkX; rw [e, if_pos rfl, hxe], by unfold tkRest; rw [e, if_pos rfl, h0, hc h], e⟩
  · have hn : ¬ l0.length + 1 < opLen (c.toNat : Int) := fun h' => by rw [hT.2 h'] at h; cases h
    have hxe := hx h
    have e : tkErr (nb (c :: l0)) = 4 := by rw [hE, if_neg hn, ← hxe, if_neg (by simp [hg])]
    refine ⟨by unfold tkX; rw [e]; rfl, by unfold tkRest; rw [e]; rfl, e⟩
theorem empty_len (l : List UInt8) : l.isEmpty = decide (l.length = 0) := by cases l <;> simp
theorem r16_length (l : List UInt8) : (r16 l).length = if l.length < 2 then l.length else l.length - 2 := by unfold r16; split <;> simp
theorem v16_of {l : List UInt8} (h : 2 ≤ l.length) : v16 l = 256 * ((l.getD 0 0).toNat : Int) + ((l.getD 1 0).toNat : Int) := by unfold v16; rw [if_neg (by omega)]
theorem r16_of {l : List UInt8} (h : 2 ≤ l.length) : r16 l = l.drop 2 := by unfold r16; rw [if_neg (by omega)]
theorem getD_drop (l : List UInt8) (n i : Nat) : (l.drop n).getD i 0 = l.getD (n + i) 0 := by simp [List.getD_eq_getElem?_getD, List.getElem?_drop]
theorem cons_getD (c : UInt8) (l : List UInt8) (i : Nat) : (nb (c :: l)).getD (i + 1) 0 = ((l.getD i 0).toNat : Int) := by rw [nb_getD]; rfl
theorem n00 : (0 : Int) ≤ 0 := by decide
theorem n08 : (0 : Int) < 256 := by decide
theorem n16 : (0 : Int) < 65536 := by decide
theorem Take4_any (w : World) (hG : Glob4 w) (l : List UInt8) (hl : l.length ≤ 2900) :
    Calls Tryd.prog 65 #[.string (bs l)] w fun e w' => e = .returned (.tuple #[(tkX (nb l)).val, .string (bs (tkRest l)), .int .i64 (tkErr (nb l))]) ∧ Keeps [] w w' := by
  cases l with
  | nil => exact take_none w
  | cons c l0 =>
    have hc := c.toNat_lt
    have hl0 : l0.length ≤ 2899 := by simpa using hl
    have hN0 : Reads8 (bs (c :: l0)) false (c.toNat : Int) (bs l0) false := reads8_of (c :: l0) false (by omega)
    rcases bool_two (opIs (c.toNat : Int)) with is | is
    · have b8 := v8_b
      have b16 := v16_b
      have d1 : (l0.drop 1).length ≤ 3000 := by simp; omega
      have d2 : ((l0.drop 1).drop 1).length ≤ 3000 := by simp; omega
      have d3 := r16_len (l0.drop 1)
      have d4 := r16_len ((l0.drop 1).drop 1)
      rcases need_ways is with ⟨hK, hA, hB⟩ | ⟨hK, hA, hB⟩ | ⟨hK, hA, hB⟩ | ⟨hK, hA, hB⟩ | ⟨hK, hA, hB⟩ | ⟨hK, hA, hB⟩
      · have hlen : opLen (c.toNat : Int) = 2 := by unfold opLen opAtB opAtA; simp [hK, hA, hB]
        have hin : (⟨(c.toNat : Int), v8 l0, 0, 0, 0⟩ : Opn).In := by
          exact ⟨by simp only; omega, by simp only; omega, (b8 _).1, (b8 _).2, n00, n08, n00, n16, n00, n16⟩
        have hT : (false || l0.isEmpty) = true ↔ l0.length + 1 < opLen (c.toNat : Int) := by
          rw [hlen]
          simp only [Bool.false_or, empty_len, decide_eq_true_eq]
          try split
          all_goals omega
        have hx : (false || l0.isEmpty) = false → (⟨(c.toNat : Int), v8 l0, 0, 0, 0⟩ : Opn) = tkOp (nb (c :: l0)) := by
          intro h
          have hn : ¬ l0.length + 1 < opLen (c.toNat : Int) := fun h' => by rw [hT.2 h'] at h; cases h
          rw [hlen] at hn
          have h0 : (nb (c :: l0)).getD 0 0 = (c.toNat : Int) := rfl
          unfold tkOp opAtB opAtA
          simp only [h0, hK, hA, hB, if_false, Bool.false_eq_true]
          have r1 : v8 l0 = (nb (c :: l0)).getD 1 0 := by rw [cons_getD]; rfl
          rw [r1]
        have hcur : (false || l0.isEmpty) = false → (l0.drop 1) = (c :: l0).drop (opLen (c.toNat : Int)) := by
          intro h
          have hn : ¬ l0.length + 1 < opLen (c.toNat : Int) := fun h' => by rw [hT.2 h'] at h; cases h
          rw [hlen] at hn ⊢
          simp
        obtain ⟨h1, h2, h3⟩ := tk_of is hT hx hcur
        exact take_000 w hG _ _ _ _ _ _ hN0 (reads8_of l0 false (by omega)) (by omega) (by omega) is hK hA hB hin _ _ _ h1 h2 h3
      · have hlen : opLen (c.toNat : Int) = 4 := by unfold opLen opAtB opAtA; simp [hK, hA, hB]
        have hin : (⟨(c.toNat : Int), v8 l0, 0, v16 (l0.drop 1), 0⟩ : Opn).In := by
          exact ⟨by simp only; omega, by simp only; omega, (b8 _).1, (b8 _).2, n00, n08, (b16 _).1, (b16 _).2, n00, n16⟩
        have hT : ((false || l0.isEmpty) || decide ((l0.drop 1).length < 2)) = true ↔ l0.length + 1 < opLen (c.toNat : Int) := by
          rw [hlen]
          simp only [Bool.false_or, Bool.or_eq_true, empty_len, decide_eq_true_eq, List.length_drop]
          try split
          all_goals omega
        have hx : ((false || l0.isEmpty) || decide ((l0.drop 1).length < 2)) = false → (⟨(c.toNat : Int), v8 l0, 0, v16 (l0.drop 1), 0⟩ : Opn) = tkOp (nb (c :: l0)) := by
          intro h
          have hn : ¬ l0.length + 1 < opLen (c.toNat : Int) := fun h' => by rw [hT.2 h'] at h; cases h
          rw [hlen] at hn
          have h0 : (nb (c :: l0)).getD 0 0 = (c.toNat : Int) := rfl
          unfold tkOp opAtB opAtA
          simp only [h0, hK, hA, hB, if_true, if_false, Bool.false_eq_true]
          have r1 : v8 l0 = (nb (c :: l0)).getD 1 0 := by rw [cons_getD]; rfl
          have e3 : (l0.drop 1) = l0.drop 1 := by rfl
          have r3 : v16 (l0.drop 1) = 256 * (nb (c :: l0)).getD 2 0 + (nb (c :: l0)).getD 3 0 := by
            rw [e3, v16_of (by simp; omega), cons_getD, cons_getD, getD_drop, getD_drop]
          rw [r3, r1]
        have hcur : ((false || l0.isEmpty) || decide ((l0.drop 1).length < 2)) = false → (r16 (l0.drop 1)) = (c :: l0).drop (opLen (c.toNat : Int)) := by
          intro h
          have hn : ¬ l0.length + 1 < opLen (c.toNat : Int) := fun h' => by rw [hT.2 h'] at h; cases h
          rw [hlen] at hn ⊢
          rw [r16_of (by simp; omega)]
          simp
        obtain ⟨h1, h2, h3⟩ := tk_of is hT hx hcur
        exact take_010 w hG _ _ _ _ _ _ _ _ _ hN0 (reads8_of l0 false (by omega)) (reads16_of (l0.drop 1) _ (by omega)) (by omega) (by omega) is hK hA hB hin _ _ _ h1 h2 h3
      · have hlen : opLen (c.toNat : Int) = 6 := by unfold opLen opAtB opAtA; simp [hK, hA, hB]
        have hin : (⟨(c.toNat : Int), v8 l0, 0, v16 (l0.drop 1), v16 (r16 (l0.drop 1))⟩ : Opn).In := by
          exact ⟨by simp only; omega, by simp only; omega, (b8 _).1, (b8 _).2, n00, n08, (b16 _).1, (b16 _).2, (b16 _).1, (b16 _).2⟩
        have hT : (((false || l0.isEmpty) || decide ((l0.drop 1).length < 2)) || decide ((r16 (l0.drop 1)).length < 2)) = true ↔ l0.length + 1 < opLen (c.toNat : Int) := by
          rw [hlen]
          simp only [Bool.false_or, Bool.or_eq_true, empty_len, decide_eq_true_eq, r16_length, List.length_drop]
          try split
          all_goals omega
        have hx : (((false || l0.isEmpty) || decide ((l0.drop 1).length < 2)) || decide ((r16 (l0.drop 1)).length < 2)) = false → (⟨(c.toNat : Int), v8 l0, 0, v16 (l0.drop 1), v16 (r16 (l0.drop 1))⟩ : Opn) = tkOp (nb (c :: l0)) := by
          intro h
          have hn : ¬ l0.length + 1 < opLen (c.toNat : Int) := fun h' => by rw [hT.2 h'] at h; cases h
          rw [hlen] at hn
          have h0 : (nb (c :: l0)).getD 0 0 = (c.toNat : Int) := rfl
          unfold tkOp opAtB opAtA
          simp only [h0, hK, hA, hB, if_true, if_false, Bool.false_eq_true]
          have r1 : v8 l0 = (nb (c :: l0)).getD 1 0 := by rw [cons_getD]; rfl
          have e3 : (l0.drop 1) = l0.drop 1 := by rfl
          have r3 : v16 (l0.drop 1) = 256 * (nb (c :: l0)).getD 2 0 + (nb (c :: l0)).getD 3 0 := by
            rw [e3, v16_of (by simp; omega), cons_getD, cons_getD, getD_drop, getD_drop]
          have e4 : r16 (l0.drop 1) = l0.drop 3 := by rw [e3, r16_of (by simp; omega), List.drop_drop]
          have r4 : v16 (r16 (l0.drop 1)) = 256 * (nb (c :: l0)).getD 4 0 + (nb (c :: l0)).getD 5 0 := by
            rw [e4, v16_of (by simp; omega), cons_getD, cons_getD, getD_drop, getD_drop]
          rw [r4, r3, r1]
        have hcur : (((false || l0.isEmpty) || decide ((l0.drop 1).length < 2)) || decide ((r16 (l0.drop 1)).length < 2)) = false → (r16 (r16 (l0.drop 1))) = (c :: l0).drop (opLen (c.toNat : Int)) := by
          intro h
          have hn : ¬ l0.length + 1 < opLen (c.toNat : Int) := fun h' => by rw [hT.2 h'] at h; cases h
          rw [hlen] at hn ⊢
          rw [r16_of (l := (l0.drop 1)) (by simp; omega), r16_of (by simp; omega)]
          simp
        obtain ⟨h1, h2, h3⟩ := tk_of is hT hx hcur
        exact take_011 w hG _ _ _ _ _ _ _ _ _ _ _ _ hN0 (reads8_of l0 false (by omega)) (reads16_of (l0.drop 1) _ (by omega)) (reads16_of (r16 (l0.drop 1)) _ (by omega)) (by omega) (by omega) is hK hA hB hin _ _ _ h1 h2 h3
      · have hlen : opLen (c.toNat : Int) = 3 := by unfold opLen opAtB opAtA; simp [hK, hA, hB]
        have hin : (⟨(c.toNat : Int), v8 l0, v8 (l0.drop 1), 0, 0⟩ : Opn).In := by
          exact ⟨by simp only; omega, by simp only; omega, (b8 _).1, (b8 _).2, (b8 _).1, (b8 _).2, n00, n16, n00, n16⟩
        have hT : ((false || l0.isEmpty) || (l0.drop 1).isEmpty) = true ↔ l0.length + 1 < opLen (c.toNat : Int) := by
          rw [hlen]
          simp only [Bool.false_or, Bool.or_eq_true, empty_len, decide_eq_true_eq, List.length_drop]
          try split
          all_goals omega
        have hx : ((false || l0.isEmpty) || (l0.drop 1).isEmpty) = false → (⟨(c.toNat : Int), v8 l0, v8 (l0.drop 1), 0, 0⟩ : Opn) = tkOp (nb (c :: l0)) := by
          intro h
          have hn : ¬ l0.length + 1 < opLen (c.toNat : Int) := fun h' => by rw [hT.2 h'] at h; cases h
          rw [hlen] at hn
          have h0 : (nb (c :: l0)).getD 0 0 = (c.toNat : Int) := rfl
          unfold tkOp opAtB opAtA
          simp only [h0, hK, hA, hB, if_true, if_false, Bool.false_eq_true]
          have r1 : v8 l0 = (nb (c :: l0)).getD 1 0 := by rw [cons_getD]; rfl
          have r2 : v8 (l0.drop 1) = (nb (c :: l0)).getD 2 0 := by rw [cons_getD]; unfold v8; rw [getD_drop]
          rw [r2, r1]
        have hcur : ((false || l0.isEmpty) || (l0.drop 1).isEmpty) = false → ((l0.drop 1).drop 1) = (c :: l0).drop (opLen (c.toNat : Int)) := by
          intro h
          have hn : ¬ l0.length + 1 < opLen (c.toNat : Int) := fun h' => by rw [hT.2 h'] at h; cases h
          rw [hlen] at hn ⊢
          simp
        obtain ⟨h1, h2, h3⟩ := tk_of is hT hx hcur
        exact take_100 w hG _ _ _ _ _ _ _ _ _ hN0 (reads8_of l0 false (by omega)) (reads8_of (l0.drop 1) _ (by omega)) (by omega) (by omega) is hK hA hB hin _ _ _ h1 h2 h3
      · have hlen : opLen (c.toNat : Int) = 5 := by unfold opLen opAtB opAtA; simp [hK, hA, hB]
        have hin : (⟨(c.toNat : Int), v8 l0, v8 (l0.drop 1), v16 ((l0.drop 1).drop 1), 0⟩ : Opn).In := by
          exact ⟨by simp only; omega, by simp only; omega, (b8 _).1, (b8 _).2, (b8 _).1, (b8 _).2, (b16 _).1, (b16 _).2, n00, n16⟩
        have hT : (((false || l0.isEmpty) || (l0.drop 1).isEmpty) || decide (((l0.drop 1).drop 1).length < 2)) = true ↔ l0.length + 1 < opLen (c.toNat : Int) := by
          rw [hlen]
          simp only [Bool.false_or, Bool.or_eq_true, empty_len, decide_eq_true_eq, List.length_drop]
          try split
          all_goals omega
        have hx : (((false || l0.isEmpty) || (l0.drop 1).isEmpty) || decide (((l0.drop 1).drop 1).length < 2)) = false → (⟨(c.toNat : Int), v8 l0, v8 (l0.drop 1), v16 ((l0.drop 1).drop 1), 0⟩ : Opn) = tkOp (nb (c :: l0)) := by
          intro h
          have hn : ¬ l0.length + 1 < opLen (c.toNat : Int) := fun h' => by rw [hT.2 h'] at h; cases h
          rw [hlen] at hn
          have h0 : (nb (c :: l0)).getD 0 0 = (c.toNat : Int) := rfl
          unfold tkOp opAtB opAtA
          simp only [h0, hK, hA, hB, if_true, if_false, Bool.false_eq_true]
          have r1 : v8 l0 = (nb (c :: l0)).getD 1 0 := by rw [cons_getD]; rfl
          have r2 : v8 (l0.drop 1) = (nb (c :: l0)).getD 2 0 := by rw [cons_getD]; unfold v8; rw [getD_drop]
          have e3 : ((l0.drop 1).drop 1) = l0.drop 2 := by rw [List.drop_drop]
          have r3 : v16 ((l0.drop 1).drop 1) = 256 * (nb (c :: l0)).getD 3 0 + (nb (c :: l0)).getD 4 0 := by
            rw [e3, v16_of (by simp; omega), cons_getD, cons_getD, getD_drop, getD_drop]
          rw [r3, r2, r1]
        have hcur : (((false || l0.isEmpty) || (l0.drop 1).isEmpty) || decide (((l0.drop 1).drop 1).length < 2)) = false → (r16 ((l0.drop 1).drop 1)) = (c :: l0).drop (opLen (c.toNat : Int)) := by
          intro h
          have hn : ¬ l0.length + 1 < opLen (c.toNat : Int) := fun h' => by rw [hT.2 h'] at h; cases h
          rw [hlen] at hn ⊢
          rw [r16_of (by simp; omega)]
          simp
        obtain ⟨h1, h2, h3⟩ := tk_of is hT hx hcur
        exact take_110 w hG _ _ _ _ _ _ _ _ _ _ _ _ hN0 (reads8_of l0 false (by omega)) (reads8_of (l0.drop 1) _ (by omega)) (reads16_of ((l0.drop 1).drop 1) _ (by omega)) (by omega) (by omega) is hK hA hB hin _ _ _ h1 h2 h3
      · have hlen : opLen (c.toNat : Int) = 7 := by unfold opLen opAtB opAtA; simp [hK, hA, hB]
        have hin : (⟨(c.toNat : Int), v8 l0, v8 (l0.drop 1), v16 ((l0.drop 1).drop 1), v16 (r16 ((l0.drop 1).drop 1))⟩ : Opn).In := by
          exact ⟨by simp only; omega, by simp only; omega, (b8 _).1, (b8 _).2, (b8 _).1, (b8 _).2, (b16 _).1, (b16 _).2, (b16 _).1, (b16 _).2⟩
        have hT : ((((false || l0.isEmpty) || (l0.drop 1).isEmpty) || decide (((l0.drop 1).drop 1).length < 2)) || decide ((r16 ((l0.drop 1).drop 1)).length < 2)) = true ↔ l0.length + 1 < opLen (c.toNat : Int) := by
          rw [hlen]
          simp only [Bool.false_or, Bool.or_eq_true, empty_len, decide_eq_true_eq, r16_length, List.length_drop]
          try split
          all_goals omega
        have hx : ((((false || l0.isEmpty) || (l0.drop 1).isEmpty) || decide (((l0.drop 1).drop 1).length < 2)) || decide ((r16 ((l0.drop 1).drop 1)).length < 2)) = false → (⟨(c.toNat : Int), v8 l0, v8 (l0.drop 1), v16 ((l0.drop 1).drop 1), v16 (r16 ((l0.drop 1).drop 1))⟩ : Opn) = tkOp (nb (c :: l0)) := by
          intro h
          have hn : ¬ l0.length + 1 < opLen (c.toNat : Int) := fun h' => by rw [hT.2 h'] at h; cases h
          rw [hlen] at hn
          have h0 : (nb (c :: l0)).getD 0 0 = (c.toNat : Int) := rfl
          unfold tkOp opAtB opAtA
          simp only [h0, hK, hA, hB, if_true]
          have r1 : v8 l0 = (nb (c :: l0)).getD 1 0 := by rw [cons_getD]; rfl
          have r2 : v8 (l0.drop 1) = (nb (c :: l0)).getD 2 0 := by rw [cons_getD]; unfold v8; rw [getD_drop]
          have e3 : ((l0.drop 1).drop 1) = l0.drop 2 := by rw [List.drop_drop]
          have r3 : v16 ((l0.drop 1).drop 1) = 256 * (nb (c :: l0)).getD 3 0 + (nb (c :: l0)).getD 4 0 := by
            rw [e3, v16_of (by simp; omega), cons_getD, cons_getD, getD_drop, getD_drop]
          have e4 : r16 ((l0.drop 1).drop 1) = l0.drop 4 := by rw [e3, r16_of (by simp; omega), List.drop_drop]
          have r4 : v16 (r16 ((l0.drop 1).drop 1)) = 256 * (nb (c :: l0)).getD 5 0 + (nb (c :: l0)).getD 6 0 := by
            rw [e4, v16_of (by simp; omega), cons_getD, cons_getD, getD_drop, getD_drop]
          rw [r4, r3, r2, r1]
        have hcur : ((((false || l0.isEmpty) || (l0.drop 1).isEmpty) || decide (((l0.drop 1).drop 1).length < 2)) || decide ((r16 ((l0.drop 1).drop 1)).length < 2)) = false → (r16 (r16 ((l0.drop 1).drop 1))) = (c :: l0).drop (opLen (c.toNat : Int)) := by
          intro h
          have hn : ¬ l0.length + 1 < opLen (c.toNat : Int) := fun h' => by rw [hT.2 h'] at h; cases h
          rw [hlen] at hn ⊢
          rw [r16_of (l := ((l0.drop 1).drop 1)) (by simp; omega), r16_of (by simp; omega)]
          simp
        obtain ⟨h1, h2, h3⟩ := tk_of is hT hx hcur
        exact take_111 w hG _ _ _ _ _ _ _ _ _ _ _ _ _ _ _ hN0 (reads8_of l0 false (by omega)) (reads8_of (l0.drop 1) _ (by omega)) (reads16_of ((l0.drop 1).drop 1) _ (by omega)) (reads16_of (r16 ((l0.drop 1).drop 1)) _ (by omega)) (by omega) (by omega) is hK hA hB hin _ _ _ h1 h2 h3
    · have e : tkErr (nb (c :: l0)) = 4 := by
        have h0 : (nb (c :: l0)).getD 0 0 = (c.toNat : Int) := rfl
        have hl : (nb (c :: l0)).length = l0.length + 1 := by rw [nb_length]; rfl
        unfold tkErr
        rw [hl, h0, if_neg (by omega), if_pos is]
      have e1 : tkX (nb (c :: l0)) = opZero := by unfold tkX; rw [e]; rfl
      have e2 : tkRest (c :: l0) = [] := by unfold tkRest; rw [e]; rfl
      rw [e1, e2, e]
      exact take_no w hG _ _ _ hN0 (by omega) (by omega) is
theorem tkX_in (l : List UInt8) : (tkX (nb l)).In := by
  unfold tkX
  split
  · have hb : ∀ i, 0 ≤ (nb l).getD i 0 ∧ (nb l).getD i 0 < 256 := fun i => by rw [nb_getD]; have := (l.getD i 0).toNat_lt; omega
    have q0 := hb 0; have q1 := hb 1; have q2 := hb 2
    have qa := hb (opAtA ((nb l).getD 0 0)); have qa1 := hb (opAtA ((nb l).getD 0 0) + 1)
    have qb := hb (opAtB ((nb l).getD 0 0)); have qb1 := hb (opAtB ((nb l).getD 0 0) + 1)
    refine ⟨?_, ?_, ?_, ?_, ?_, ?_, ?_, ?_, ?_, ?_⟩ <;> simp only [tkOp] <;> first | omega | (split <;> omega)
  · exact zero_in
end Go.Proofs.YtnehnbhdkhgakaaDoor
