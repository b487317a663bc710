/-
  The law ModelOne, over any program's objects.
-/
import Derived.Test.YtdachaekcjbfmaaGreatDoorMS38
import Derived.Test.YtdachaekcjbfmaaGreatDoorMS39
import Derived.Test.YtdachaekcjbfmaaGreatDoorMS37
set_option linter.unusedSimpArgs false
set_option linter.unusedVariables false
namespace Go.Proofs.YtdachaekcjbfmaaGreatDoor
open Go.RowKit
set_option maxRecDepth 100000
section
variable {ops : Array Oper} {rest : List Oper} {a : Act} {w : World} {Q : Exit → Act → World → Prop}
theorem wpList_loadNo13 {dst : Option Tmp} {ty : TypeId} {pos : String} {after : Array Edge} {gd : Option (Nat × Bool)} {x : Operand} {g off : Nat} (y : Ans)
    (hw : Region.wanted { dst := dst, op := .load 25 x, type := ty, pos := pos, after := after, guard := gd } (yielded ops a.tmps) = true)
    (hx : a.eval x = .pointer (some ⟨g, off, none⟩)) (hr : w.rangeAt g off (ansC y)) (h : wpList Tryz.prog ops Q rest (a.put dst (.agg #[.int .u8 y.k, .int .u16 y.v])) w) :
    wpList Tryz.prog ops Q ({ dst := dst, op := .load 25 x, type := ty, pos := pos, after := after, guard := gd } :: rest) a w := skR.wpList_load (ansC_ok y) hw hx hr h
end
variable {G : World → Prop}
set_option maxHeartbeats 8000000
end Go.Proofs.YtdachaekcjbfmaaGreatDoor
/-
  The law ModelEach, over any program's objects.
-/
namespace Go.Proofs.YtdachaekcjbfmaaGreatDoor
open Go.RowKit
set_option maxRecDepth 100000
set_option maxHeartbeats 8000000
/-- A call of client 0. -/
def one13 (f a : Int) : Cl := ⟨0, ⟨f, 0, 0, a, 0⟩⟩
theorem one13_in {f a : Int} (hf : 0 ≤ f ∧ f < 256) (ha : 0 ≤ a ∧ a < 65536) : (one13 f a).In := ⟨(by decide : (0 : Int) ≤ 0), (by decide : (0 : Int) < 256), ⟨hf.1, hf.2, (by decide : (0 : Int) ≤ 0), (by decide : (0 : Int) < 256), (by decide : (0 : Int) ≤ 0), (by decide : (0 : Int) < 256), ha.1, ha.2, (by decide : (0 : Int) ≤ 0), (by decide : (0 : Int) < 65536)⟩⟩
theorem one13_any (w : World) (f a : Int) : Calls Tryz.prog 48 #[.int .u8 f, .int .u16 a] w fun e w' => ∃ s, e = .returned s ∧ rkC13.In w'.heap.size w' s [one13 f a] ∧ Keeps [] w w' := by
  go_enter Tryz.func48, Tryz.ntmps48
  go_wp2_with ((with_reducible refine wpList_litC13 [one13 f a] ?_ ?_ ?_ ?_ ?_); exact rfl; exact rfl; exact (by simp); exact (by simp))
  intro W hz hk hi
  go_wp2_with fail
  go_ret
  exact ⟨_, rfl, hi, hk⟩
/-- What calls stand ahead, and the argument. -/
def AheadIs (f : Int) (r : Ans) (L : List Cl) (a : Int) : Prop := ∀ w : World, Calls Tryz.prog 29 #[.int .u8 f, .agg #[.int .u8 r.k, .int .u16 r.v]] w fun e w' => ∃ s, e = .returned (.tuple #[s, .int .u16 a]) ∧ rkC13.In w'.heap.size w' s L ∧ Keeps [] w w'
theorem ah_1 (v : Int) : AheadIs 1 ⟨1, v⟩ [one13 2 v] 0 := by
  intro w
  have hk : Keeps [] w (w.alloc (.cells #[.int .u8 (⟨1, v⟩ : Ans).k, .int .u16 (⟨1, v⟩ : Ans).v] 25)) := (Keeps.refl _ _).alloc _
  have HK := Lib.hid hk
  clear hk
  go_enter Tryz.func29, Tryz.ntmps29
  go_wp2_with fail
  refine (one13_any _ _ _).mono ?_; rintro e w1 ⟨s, rfl, hi, hk⟩
  have HI := Lib.hid hi
  have HK1 := Lib.hid (HK.out.trans hk (FSub.refl _ _))
  obtain ⟨sa, sc, rfl, -⟩ := id hi
  clear hi hk
  go_wp2_with fail
  go_ret2
  exact ⟨_, rfl, HI.out, HK1.out⟩
theorem ah_2 : AheadIs 2 ⟨0, 0⟩ [] 0 := by
  intro w
  have hk : Keeps [] w (w.alloc (.cells #[.int .u8 (⟨0, 0⟩ : Ans).k, .int .u16 (⟨0, 0⟩ : Ans).v] 25)) := (Keeps.refl _ _).alloc _
  go_enter Tryz.func29, Tryz.ntmps29
  go_wp2_with fail
  go_ret2
  exact ⟨_, rfl, nil_in _ _, hk⟩
theorem ah_3y : AheadIs 3 ⟨3, 0⟩ [one13 2 7] 7 := by
  intro w
  have hk : Keeps [] w (w.alloc (.cells #[.int .u8 (⟨3, 0⟩ : Ans).k, .int .u16 (⟨3, 0⟩ : Ans).v] 25)) := (Keeps.refl _ _).alloc _
  have HK := Lib.hid hk
  clear hk
  go_enter Tryz.func29, Tryz.ntmps29
  go_wp2_with fail
  refine (one13_any _ _ _).mono ?_; rintro e w1 ⟨s, rfl, hi, hk⟩
  have HI := Lib.hid hi
  have HK1 := Lib.hid (HK.out.trans hk (FSub.refl _ _))
  obtain ⟨sa, sc, rfl, -⟩ := id hi
  clear hi hk
  go_wp2_with fail
  go_ret2
  exact ⟨_, rfl, HI.out, HK1.out⟩
theorem ah_3n : AheadIs 3 ⟨4, 0⟩ [one13 2 7] 8 := by
  intro w
  have hk : Keeps [] w (w.alloc (.cells #[.int .u8 (⟨4, 0⟩ : Ans).k, .int .u16 (⟨4, 0⟩ : Ans).v] 25)) := (Keeps.refl _ _).alloc _
  have HK := Lib.hid hk
  clear hk
  go_enter Tryz.func29, Tryz.ntmps29
  go_wp2_with fail
  refine (one13_any _ _ _).mono ?_; rintro e w1 ⟨s, rfl, hi, hk⟩
  have HI := Lib.hid hi
  have HK1 := Lib.hid (HK.out.trans hk (FSub.refl _ _))
  obtain ⟨sa, sc, rfl, -⟩ := id hi
  clear hi hk
  go_wp2_with fail
  go_ret2
  exact ⟨_, rfl, HI.out, HK1.out⟩
theorem ah_4 : AheadIs 4 ⟨0, 0⟩ [] 0 := by
  intro w
  have hk : Keeps [] w (w.alloc (.cells #[.int .u8 (⟨0, 0⟩ : Ans).k, .int .u16 (⟨0, 0⟩ : Ans).v] 25)) := (Keeps.refl _ _).alloc _
  go_enter Tryz.func29, Tryz.ntmps29
  go_wp2_with fail
  go_ret2
  exact ⟨_, rfl, nil_in _ _, hk⟩
theorem ah_5v (v : Int) : AheadIs 5 ⟨1, v⟩ [one13 4 v] 0 := by
  intro w
  have hk : Keeps [] w (w.alloc (.cells #[.int .u8 (⟨1, v⟩ : Ans).k, .int .u16 (⟨1, v⟩ : Ans).v] 25)) := (Keeps.refl _ _).alloc _
  have HK := Lib.hid hk
  clear hk
  go_enter Tryz.func29, Tryz.ntmps29
  go_wp2_with fail
  refine (one13_any _ _ _).mono ?_; rintro e w1 ⟨s, rfl, hi, hk⟩
  have HI := Lib.hid hi
  have HK1 := Lib.hid (HK.out.trans hk (FSub.refl _ _))
  obtain ⟨sa, sc, rfl, -⟩ := id hi
  clear hi hk
  go_wp2_with fail
  go_ret2
  exact ⟨_, rfl, HI.out, HK1.out⟩
theorem ah_5n : AheadIs 5 ⟨2, 0⟩ [] 0 := by
  intro w
  have hk : Keeps [] w (w.alloc (.cells #[.int .u8 (⟨2, 0⟩ : Ans).k, .int .u16 (⟨2, 0⟩ : Ans).v] 25)) := (Keeps.refl _ _).alloc _
  go_enter Tryz.func29, Tryz.ntmps29
  go_wp2_with fail
  go_ret2
  exact ⟨_, rfl, nil_in _ _, hk⟩
theorem ah_6v (v : Int) : AheadIs 6 ⟨1, v⟩ [one13 7 v] 0 := by
  intro w
  have hk : Keeps [] w (w.alloc (.cells #[.int .u8 (⟨1, v⟩ : Ans).k, .int .u16 (⟨1, v⟩ : Ans).v] 25)) := (Keeps.refl _ _).alloc _
  have HK := Lib.hid hk
  clear hk
  go_enter Tryz.func29, Tryz.ntmps29
  go_wp2_with fail
  refine (one13_any _ _ _).mono ?_; rintro e w1 ⟨s, rfl, hi, hk⟩
  have HI := Lib.hid hi
  have HK1 := Lib.hid (HK.out.trans hk (FSub.refl _ _))
  obtain ⟨sa, sc, rfl, -⟩ := id hi
  clear hi hk
  go_wp2_with fail
  go_ret2
  exact ⟨_, rfl, HI.out, HK1.out⟩
theorem ah_6n : AheadIs 6 ⟨2, 0⟩ [] 0 := by
  intro w
  have hk : Keeps [] w (w.alloc (.cells #[.int .u8 (⟨2, 0⟩ : Ans).k, .int .u16 (⟨2, 0⟩ : Ans).v] 25)) := (Keeps.refl _ _).alloc _
  go_enter Tryz.func29, Tryz.ntmps29
  go_wp2_with fail
  go_ret2
  exact ⟨_, rfl, nil_in _ _, hk⟩
theorem ah_7 : AheadIs 7 ⟨0, 0⟩ [] 0 := by
  intro w
  have hk : Keeps [] w (w.alloc (.cells #[.int .u8 (⟨0, 0⟩ : Ans).k, .int .u16 (⟨0, 0⟩ : Ans).v] 25)) := (Keeps.refl _ _).alloc _
  go_enter Tryz.func29, Tryz.ntmps29
  go_wp2_with fail
  go_ret2
  exact ⟨_, rfl, nil_in _ _, hk⟩
theorem ah_8y : AheadIs 8 ⟨3, 0⟩ [one13 7 1] 0 := by
  intro w
  have hk : Keeps [] w (w.alloc (.cells #[.int .u8 (⟨3, 0⟩ : Ans).k, .int .u16 (⟨3, 0⟩ : Ans).v] 25)) := (Keeps.refl _ _).alloc _
  have HK := Lib.hid hk
  clear hk
  go_enter Tryz.func29, Tryz.ntmps29
  go_wp2_with fail
  refine (one13_any _ _ _).mono ?_; rintro e w1 ⟨s, rfl, hi, hk⟩
  have HI := Lib.hid hi
  have HK1 := Lib.hid (HK.out.trans hk (FSub.refl _ _))
  obtain ⟨sa, sc, rfl, -⟩ := id hi
  clear hi hk
  go_wp2_with fail
  go_ret2
  exact ⟨_, rfl, HI.out, HK1.out⟩
theorem ah_8n : AheadIs 8 ⟨4, 0⟩ [] 0 := by
  intro w
  have hk : Keeps [] w (w.alloc (.cells #[.int .u8 (⟨4, 0⟩ : Ans).k, .int .u16 (⟨4, 0⟩ : Ans).v] 25)) := (Keeps.refl _ _).alloc _
  go_enter Tryz.func29, Tryz.ntmps29
  go_wp2_with fail
  go_ret2
  exact ⟨_, rfl, nil_in _ _, hk⟩
theorem ah_9y : AheadIs 9 ⟨3, 0⟩ [one13 7 7] 7 := by
  intro w
  have hk : Keeps [] w (w.alloc (.cells #[.int .u8 (⟨3, 0⟩ : Ans).k, .int .u16 (⟨3, 0⟩ : Ans).v] 25)) := (Keeps.refl _ _).alloc _
  have HK := Lib.hid hk
  clear hk
  go_enter Tryz.func29, Tryz.ntmps29
  go_wp2_with fail
  refine (one13_any _ _ _).mono ?_; rintro e w1 ⟨s, rfl, hi, hk⟩
  have HI := Lib.hid hi
  have HK1 := Lib.hid (HK.out.trans hk (FSub.refl _ _))
  obtain ⟨sa, sc, rfl, -⟩ := id hi
  clear hi hk
  go_wp2_with fail
  go_ret2
  exact ⟨_, rfl, HI.out, HK1.out⟩
theorem ah_9n : AheadIs 9 ⟨4, 0⟩ [one13 7 7] 8 := by
  intro w
  have hk : Keeps [] w (w.alloc (.cells #[.int .u8 (⟨4, 0⟩ : Ans).k, .int .u16 (⟨4, 0⟩ : Ans).v] 25)) := (Keeps.refl _ _).alloc _
  have HK := Lib.hid hk
  clear hk
  go_enter Tryz.func29, Tryz.ntmps29
  go_wp2_with fail
  refine (one13_any _ _ _).mono ?_; rintro e w1 ⟨s, rfl, hi, hk⟩
  have HI := Lib.hid hi
  have HK1 := Lib.hid (HK.out.trans hk (FSub.refl _ _))
  obtain ⟨sa, sc, rfl, -⟩ := id hi
  clear hi hk
  go_wp2_with fail
  go_ret2
  exact ⟨_, rfl, HI.out, HK1.out⟩
theorem ah_10y : AheadIs 10 ⟨3, 0⟩ [] 0 := by
  intro w
  have hk : Keeps [] w (w.alloc (.cells #[.int .u8 (⟨3, 0⟩ : Ans).k, .int .u16 (⟨3, 0⟩ : Ans).v] 25)) := (Keeps.refl _ _).alloc _
  go_enter Tryz.func29, Tryz.ntmps29
  go_wp2_with fail
  go_ret2
  exact ⟨_, rfl, nil_in _ _, hk⟩
theorem ah_10n : AheadIs 10 ⟨4, 0⟩ [one13 10 0] 0 := by
  intro w
  have hk : Keeps [] w (w.alloc (.cells #[.int .u8 (⟨4, 0⟩ : Ans).k, .int .u16 (⟨4, 0⟩ : Ans).v] 25)) := (Keeps.refl _ _).alloc _
  have HK := Lib.hid hk
  clear hk
  go_enter Tryz.func29, Tryz.ntmps29
  go_wp2_with fail
  refine (one13_any _ _ _).mono ?_; rintro e w1 ⟨s, rfl, hi, hk⟩
  have HI := Lib.hid hi
  have HK1 := Lib.hid (HK.out.trans hk (FSub.refl _ _))
  obtain ⟨sa, sc, rfl, -⟩ := id hi
  clear hi hk
  go_wp2_with fail
  go_ret2
  exact ⟨_, rfl, HI.out, HK1.out⟩
theorem ah_11y : AheadIs 11 ⟨3, 0⟩ [one13 10 0] 0 := by
  intro w
  have hk : Keeps [] w (w.alloc (.cells #[.int .u8 (⟨3, 0⟩ : Ans).k, .int .u16 (⟨3, 0⟩ : Ans).v] 25)) := (Keeps.refl _ _).alloc _
  have HK := Lib.hid hk
  clear hk
  go_enter Tryz.func29, Tryz.ntmps29
  go_wp2_with fail
  refine (one13_any _ _ _).mono ?_; rintro e w1 ⟨s, rfl, hi, hk⟩
  have HI := Lib.hid hi
  have HK1 := Lib.hid (HK.out.trans hk (FSub.refl _ _))
  obtain ⟨sa, sc, rfl, -⟩ := id hi
  clear hi hk
  go_wp2_with fail
  go_ret2
  exact ⟨_, rfl, HI.out, HK1.out⟩
theorem ah_11n : AheadIs 11 ⟨4, 0⟩ [] 0 := by
  intro w
  have hk : Keeps [] w (w.alloc (.cells #[.int .u8 (⟨4, 0⟩ : Ans).k, .int .u16 (⟨4, 0⟩ : Ans).v] 25)) := (Keeps.refl _ _).alloc _
  go_enter Tryz.func29, Tryz.ntmps29
  go_wp2_with fail
  go_ret2
  exact ⟨_, rfl, nil_in _ _, hk⟩
/-- The ways of an answer that may be. -/
theorem may_ways {f k v : Int} (h : mayOf f k v = 0) : (f = 1 ∧ k = 1) ∨ ((f = 5 ∨ f = 6) ∧ k = 1) ∨ (v = 0 ∧ (((f = 2 ∨ f = 4 ∨ f = 7) ∧ k = 0) ∨ ((f = 5 ∨ f = 6) ∧ k = 2) ∨ ((f = 3 ∨ f = 8 ∨ f = 9 ∨ f = 10 ∨ f = 11) ∧ (k = 3 ∨ k = 4)))) := by
  unfold mayOf at h
  split at h
  · rename_i hg
    split at h
    · rename_i hk
      have hv : k = 1 ∨ v = 0 := by
        simp only [rsGood, Bool.or_eq_true, beq_iff_eq, Bool.and_eq_true, decide_eq_true_eq] at hg
        rcases hg with h | h
        · exact .inl h
        · exact .inr h.2
      rcases f_cases f with rfl | rfl | rfl | rfl | rfl | rfl | rfl | rfl | rfl | rfl | rfl | hn
      all_goals first
        | (simp [kindsL] at hk; omega)
        | (rw [kindsL_none hn] at hk; cases hk)
    · cases h
  · cases h
/-- What an operation of F and A answers behind the calls. -/
def EachIs (f : Int) (r : Ans) (L : List Cl) (a : Int) : Prop := (mdX (bhS (mdInit (opM f)) L) 0 ⟨f, 0, 0, a, 0⟩).2.2 = 0 ∧ (mdX (bhS (mdInit (opM f)) L) 0 ⟨f, 0, 0, a, 0⟩).2.1 = r
theorem ways {f : Int} {r : Ans} (hr : 0 ≤ r.v ∧ r.v < 65536) (h : mayOf f r.k r.v = 0) : ∃ L a, AheadIs f r L a ∧ EachIs f r L a ∧ (∀ y ∈ L, y.In) ∧ L.length ≤ 1 ∧ (0 ≤ a ∧ a < 65536) := by
  obtain ⟨k, v⟩ := r
  have h0 := may_ways h
  simp only at h0 hr
  clear h
  rcases h0 with ⟨rfl, rfl⟩ | ⟨rfl | rfl, rfl⟩ | ⟨rfl, ⟨rfl | rfl | rfl, rfl⟩ | ⟨rfl | rfl, rfl⟩ | ⟨rfl | rfl | rfl | rfl | rfl, rfl | rfl⟩⟩
  · exact ⟨_, _, ah_1 v, ⟨rfl, rfl⟩, fun y hy => by simp at hy; subst hy; exact one13_in (by decide) hr, Nat.le_refl _, by decide⟩
  · exact ⟨_, _, ah_5v v, ⟨rfl, rfl⟩, fun y hy => by simp at hy; subst hy; exact one13_in (by decide) hr, Nat.le_refl _, by decide⟩
  · exact ⟨_, _, ah_6v v, ⟨rfl, rfl⟩, fun y hy => by simp at hy; subst hy; exact one13_in (by decide) hr, Nat.le_refl _, by decide⟩
  · exact ⟨_, _, ah_2, ⟨rfl, rfl⟩, (fun y hy => by cases hy), by decide, by decide⟩
  · exact ⟨_, _, ah_4, ⟨rfl, rfl⟩, (fun y hy => by cases hy), by decide, by decide⟩
  · exact ⟨_, _, ah_7, ⟨rfl, rfl⟩, (fun y hy => by cases hy), by decide, by decide⟩
  · exact ⟨_, _, ah_5n, ⟨rfl, rfl⟩, (fun y hy => by cases hy), by decide, by decide⟩
  · exact ⟨_, _, ah_6n, ⟨rfl, rfl⟩, (fun y hy => by cases hy), by decide, by decide⟩
  · exact ⟨_, _, ah_3y, ⟨rfl, rfl⟩, fun y hy => by simp at hy; subst hy; exact one13_in (by decide) (by decide), Nat.le_refl _, by decide⟩
  · exact ⟨_, _, ah_3n, ⟨rfl, rfl⟩, fun y hy => by simp at hy; subst hy; exact one13_in (by decide) (by decide), Nat.le_refl _, by decide⟩
  · exact ⟨_, _, ah_8y, ⟨rfl, rfl⟩, fun y hy => by simp at hy; subst hy; exact one13_in (by decide) (by decide), Nat.le_refl _, by decide⟩
  · exact ⟨_, _, ah_8n, ⟨rfl, rfl⟩, (fun y hy => by cases hy), by decide, by decide⟩
  · exact ⟨_, _, ah_9y, ⟨rfl, rfl⟩, fun y hy => by simp at hy; subst hy; exact one13_in (by decide) (by decide), Nat.le_refl _, by decide⟩
  · exact ⟨_, _, ah_9n, ⟨rfl, rfl⟩, fun y hy => by simp at hy; subst hy; exact one13_in (by decide) (by decide), Nat.le_refl _, by decide⟩
  · exact ⟨_, _, ah_10y, ⟨rfl, rfl⟩, (fun y hy => by cases hy), by decide, by decide⟩
  · exact ⟨_, _, ah_10n, ⟨rfl, rfl⟩, fun y hy => by simp at hy; subst hy; exact one13_in (by decide) (by decide), Nat.le_refl _, by decide⟩
  · exact ⟨_, _, ah_11y, ⟨rfl, rfl⟩, fun y hy => by simp at hy; subst hy; exact one13_in (by decide) (by decide), Nat.le_refl _, by decide⟩
  · exact ⟨_, _, ah_11n, ⟨rfl, rfl⟩, (fun y hy => by cases hy), by decide, by decide⟩
section
variable {ops : Array Oper} {rest : List Oper} {a : Act} {w : World} {Q : Exit → Act → World → Prop}
end
variable {G : World → Prop}
end Go.Proofs.YtdachaekcjbfmaaGreatDoor
