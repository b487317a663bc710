/-
  The law ModelOne, over any program's objects.
-/
import Derived.Test.YtdachaekcjbfmaaGreatDoorME27
import Derived.Test.YtdachaekcjbfmaaGreatDoorME38
set_option linter.unusedSimpArgs false
set_option linter.unusedVariables false
namespace Go.Proofs.YtdachaekcjbfmaaGreatDoor
open Go.RowKit
set_option maxRecDepth 100000
section
variable {ops : Array Oper} {rest : List Oper} {a : Act} {w : World} {Q : Exit → Act → World → Prop}
theorem wpList_loadNo13 {dst : Option Tmp} {ty : TypeId} {pos : String} {after : Array Edge} {gd : Option (Nat × Bool)} {x : Operand} {g off : Nat} (y : Ans)
    (hw : Region.wanted { dst := dst, op := .load 25 x, type := ty, pos := pos, after := after, guard := gd } (yielded ops a.tmps) = true)
    (hx : a.eval x = .pointer (some ⟨g, off, none⟩)) (hr : w.rangeAt g off (ansC y)) (h : wpList Tryz.prog ops Q rest (a.put dst (.agg #[.int .u8 y.k, .int .u16 y.v])) w) :
    wpList Tryz.prog ops Q ({ dst := dst, op := .load 25 x, type := ty, pos := pos, after := after, guard := gd } :: rest) a w := skR.wpList_load (ansC_ok y) hw hx hr h
end
variable {G : World → Prop}
set_option maxHeartbeats 8000000
end Go.Proofs.YtdachaekcjbfmaaGreatDoor
/-
  The law ModelEach, over any program's objects.
-/
namespace Go.Proofs.YtdachaekcjbfmaaGreatDoor
open Go.RowKit
set_option maxRecDepth 100000
set_option maxHeartbeats 8000000
/-- A call of client 0. -/
def one13 (f a : Int) : Cl := ⟨0, ⟨f, 0, 0, a, 0⟩⟩
theorem one13_in {f a : Int} (hf : 0 ≤ f ∧ f < 256) (ha : 0 ≤ a ∧ a < 65536) : (one13 f a).In := ⟨(by decide : (0 : Int) ≤ 0), (by decide : (0 : Int) < 256), ⟨hf.1, hf.2, (by decide : (0 : Int) ≤ 0), (by decide : (0 : Int) < 256), (by decide : (0 : Int) ≤ 0), (by decide : (0 : Int) < 256), ha.1, ha.2, (by decide : (0 : Int) ≤ 0), (by decide : (0 : Int) < 65536)⟩⟩
theorem one13_any (w : World) (f a : Int) : Calls Tryz.prog 48 #[.int .u8 f, .int .u16 a] w fun e w' => ∃ s, e = .returned s ∧ rkC13.In w'.heap.size w' s [one13 f a] ∧ Keeps [] w w' := by
  go_enter Tryz.func48, Tryz.ntmps48
  go_wp2_with ((with_reducible refine wpList_litC13 [one13 f a] ?_ ?_ ?_ ?_ ?_); exact rfl; exact rfl; exact (by simp); exact (by simp))
  intro W hz hk hi
  go_wp2_with fail
  go_ret
  exact ⟨_, rfl, hi, hk⟩
/-- What calls stand ahead, and the argument. -/
def AheadIs (f : Int) (r : Ans) (L : List Cl) (a : Int) : Prop := ∀ w : World, Calls Tryz.prog 29 #[.int .u8 f, .agg #[.int .u8 r.k, .int .u16 r.v]] w fun e w' => ∃ s, e = .returned (.tuple #[s, .int .u16 a]) ∧ rkC13.In w'.heap.size w' s L ∧ Keeps [] w w'
theorem ah_1 (v : Int) : AheadIs 1 ⟨1, v⟩ [one13 2 v] 0 := by
  intro w
  have hk : Keeps [] w (w.alloc (.cells #[.int .u8 (⟨1, v⟩ : Ans).k, .int .u16 (⟨1, v⟩ : Ans).v] 25)) := (Keeps.refl _ _).alloc _
  have HK := Lib.hid hk
  clear hk
  go_enter Tryz.func29, Tryz.ntmps29
  go_wp2_with fail
  refine (one13_any _ _ _).mono ?_; rintro e w1 ⟨s, rfl, hi, hk⟩
  have HI := Lib.hid hi
  have HK1 := Lib.hid (HK.out.trans hk (FSub.refl _ _))
  obtain ⟨sa, sc, rfl, -⟩ := id hi
  clear hi hk
  go_wp2_with fail
  go_ret2
  exact ⟨_, rfl, HI.out, HK1.out⟩
theorem ah_2 : AheadIs 2 ⟨0, 0⟩ [] 0 := by
  intro w
  have hk : Keeps [] w (w.alloc (.cells #[.int .u8 (⟨0, 0⟩ : Ans).k, .int .u16 (⟨0, 0⟩ : Ans).v] 25)) := (Keeps.refl _ _).alloc _
  go_enter Tryz.func29, Tryz.ntmps29
  go_wp2_with fail
  go_ret2
  exact ⟨_, rfl, nil_in _ _, hk⟩
theorem ah_3y : AheadIs 3 ⟨3, 0⟩ [one13 2 7] 7 := by
  intro w
  have hk : Keeps [] w (w.alloc (.cells #[.int .u8 (⟨3, 0⟩ : Ans).k, .int .u16 (⟨3, 0⟩ : Ans).v] 25)) := (Keeps.refl _ _).alloc _
  have HK := Lib.hid hk
  clear hk
  go_enter Tryz.func29, Tryz.ntmps29
  go_wp2_with fail
  refine (one13_any _ _ _).mono ?_; rintro e w1 ⟨s, rfl, hi, hk⟩
  have HI := Lib.hid hi
  have HK1 := Lib.hid (HK.out.trans hk (FSub.refl _ _))
  obtain ⟨sa, sc, rfl, -⟩ := id hi
  clear hi hk
  go_wp2_with fail
  go_ret2
  exact ⟨_, rfl, HI.out, HK1.out⟩
theorem ah_3n : AheadIs 3 ⟨4, 0⟩ [one13 2 7] 8 := by
  intro w
  have hk : Keeps [] w (w.alloc (.cells #[.int .u8 (⟨4, 0⟩ : Ans).k, .int .u16 (⟨4, 0⟩ : Ans).v] 25)) := (Keeps.refl _ _).alloc _
  have HK := Lib.hid hk
  clear hk
  go_enter Tryz.func29, Tryz.ntmps29
  go_wp2_with fail
  refine (one13_any _ _ _).mono ?_; rintro e w1 ⟨s, rfl, hi, hk⟩
  have HI := Lib.hid hi
  have HK1 := Lib.hid (HK.out.trans hk (FSub.refl _ _))
  obtain ⟨sa, sc, rfl, -⟩ := id hi
  clear hi hk
  go_wp2_with fail
  go_ret2
  exact ⟨_, rfl, HI.out, HK1.out⟩
theorem ah_4 : AheadIs 4 ⟨0, 0⟩ [] 0 := by
  intro w
  have hk : Keeps [] w (w.alloc (.cells #[.int .u8 (⟨0, 0⟩ : Ans).k, .int .u16 (⟨0, 0⟩ : Ans).v] 25)) := (Keeps.refl _ _).alloc _
  go_enter Tryz.func29, Tryz.ntmps29
  go_wp2_with fail
  go_ret2
  exact ⟨_, rfl, nil_in _ _, hk⟩
theorem ah_5v (v : Int) : AheadIs 5 ⟨1, v⟩ [one13 4 v] 0 := by
  intro w
  have hk : Keeps [] w (w.alloc (.cells #[.int .u8 (⟨1, v⟩ : Ans).k, .int .u16 (⟨1, v⟩ : Ans).v] 25)) := (Keeps.refl _ _).alloc _
  have HK := Lib.hid hk
  clear hk
  go_enter Tryz.func29, Tryz.ntmps29
  go_wp2_with fail
  refine (one13_any _ _ _).mono ?_; rintro e w1 ⟨s, rfl, hi, hk⟩
  have HI := Lib.hid hi
  have HK1 := Lib.hid (HK.out.trans hk (FSub.refl _ _))
  obtain ⟨sa, sc, rfl, -⟩ := id hi
  clear hi hk
  go_wp2_with fail
  go_ret2
  exact ⟨_, rfl, HI.out, HK1.out⟩
theorem ah_5n : AheadIs 5 ⟨2, 0⟩ [] 0 := by
  intro w
  have hk : Keeps [] w (w.alloc (.cells #[.int .u8 (⟨2, 0⟩ : Ans).k, .int .u16 (⟨2, 0⟩ : Ans).v] 25)) := (Keeps.refl _ _).alloc _
  go_enter Tryz.func29, Tryz.ntmps29
  go_wp2_with fail
  go_ret2
  exact ⟨_, rfl, nil_in _ _, hk⟩
theorem ah_6v (v : Int) : AheadIs 6 ⟨1, v⟩ [one13 7 v] 0 := by
  intro w
  have hk : Keeps [] w (w.alloc (.cells #[.int .u8 (⟨1, v⟩ : Ans).k, .int .u16 (⟨1, v⟩ : Ans).v] 25)) := (Keeps.refl _ _).alloc _
  have HK := Lib.hid hk
  clear hk
  go_enter Tryz.func29, Tryz.ntmps29
  go_wp2_with fail
  refine (one13_any _ _ _).mono ?_; rintro e w1 ⟨s, rfl, hi, hk⟩
  have HI := Lib.hid hi
  have HK1 := Lib.hid (HK.out.trans hk (FSub.refl _ _))
  obtain ⟨sa, sc, rfl, -⟩ := id hi
  clear hi hk
  go_wp2_with fail
  go_ret2
  exact ⟨_, rfl, HI.out, HK1.out⟩
theorem ah_6n : AheadIs 6 ⟨2, 0⟩ [] 0 := by
  intro w
  have hk : Keeps [] w (w.alloc (.cells #[.int .u8 (⟨2, 0⟩ : Ans).k, .int .u16 (⟨2, 0⟩ : Ans).v] 25)) := (Keeps.refl _ _).alloc _
  go_enter Tryz.func29, Tryz.ntmps29
  go_wp2_with fail
  go_ret2
  exact ⟨_, rfl, nil_in _ _, hk⟩
theorem ah_7 : AheadIs 7 ⟨0, 0⟩ [] 0 := by
  intro w
  have hk : Keeps [] w (w.alloc (.cells #[.int .u8 (⟨0, 0⟩ : Ans).k, .int .u16 (⟨0, 0⟩ : Ans).v] 25)) := (Keeps.refl _ _).alloc _
  go_enter Tryz.func29, Tryz.ntmps29
  go_wp2_with fail
  go_ret2
  exact ⟨_, rfl, nil_in _ _, hk⟩
theorem ah_8y : AheadIs 8 ⟨3, 0⟩ [one13 7 1] 0 := by
  intro w
  have hk : Keeps [] w (w.alloc (.cells #[.int .u8 (⟨3, 0⟩ : Ans).k, .int .u16 (⟨3, 0⟩ : Ans).v] 25)) := (Keeps.refl _ _).alloc _
  have HK := Lib.hid hk
  clear hk
  go_enter Tryz.func29, Tryz.ntmps29
  go_wp2_with fail
  refine (one13_any _ _ _).mono ?_; rintro e w1 ⟨s, rfl, hi, hk⟩
  have HI := Lib.hid hi
  have HK1 := Lib.hid (HK.out.trans hk (FSub.refl _ _))
  obtain ⟨sa, sc, rfl, -⟩ := id hi
  clear hi hk
  go_wp2_with fail
  go_ret2
  exact ⟨_, rfl, HI.out, HK1.out⟩
theorem ah_8n : AheadIs 8 ⟨4, 0⟩ [] 0 := by
  intro w
  have hk : Keeps [] w (w.alloc (.cells #[.int .u8 (⟨4, 0⟩ : Ans).k, .int .u16 (⟨4, 0⟩ : Ans).v] 25)) := (Keeps.refl _ _).alloc _
  go_enter Tryz.func29, Tryz.ntmps29
  go_wp2_with fail
  go_ret2
  exact ⟨_, rfl, nil_in _ _, hk⟩
theorem ah_9y : AheadIs 9 ⟨3, 0⟩ [one13 7 7] 7 := by
  intro w
  have hk : Keeps [] w (w.alloc (.cells #[.int .u8 (⟨3, 0⟩ : Ans).k, .int .u16 (⟨3, 0⟩ : Ans).v] 25)) := (Keeps.refl _ _).alloc _
  have HK := Lib.hid hk
  clear hk
  go_enter Tryz.func29, Tryz.ntmps29
  go_wp2_with fail
  refine (one13_any _ _ _).mono ?_; rintro e w1 ⟨s, rfl, hi, hk⟩
  have HI := Lib.hid hi
  have HK1 := Lib.hid (HK.out.trans hk (FSub.refl _ _))
  obtain ⟨sa, sc, rfl, -⟩ := id hi
  clear hi hk
  go_wp2_with fail
  go_ret2
  exact ⟨_, rfl, HI.out, HK1.out⟩
theorem ah_9n : AheadIs 9 ⟨4, 0⟩ [one13 7 7] 8 := by
  intro w
  have hk : Keeps [] w (w.alloc (.cells #[.int .u8 (⟨4, 0⟩ : Ans).k, .int .u16 (⟨4, 0⟩ : Ans).v] 25)) := (Keeps.refl _ _).alloc _
  have HK := Lib.hid hk
  clear hk
  go_enter Tryz.func29, Tryz.ntmps29
  go_wp2_with fail
  refine (one13_any _ _ _).mono ?_; rintro e w1 ⟨s, rfl, hi, hk⟩
  have HI := Lib.hid hi
  have HK1 := Lib.hid (HK.out.trans hk (FSub.refl _ _))
  obtain ⟨sa, sc, rfl, -⟩ := id hi
  clear hi hk
  go_wp2_with fail
  go_ret2
  exact ⟨_, rfl, HI.out, HK1.out⟩
theorem ah_10y : AheadIs 10 ⟨3, 0⟩ [] 0 := by
  intro w
  have hk : Keeps [] w (w.alloc (.cells #[.int .u8 (⟨3, 0⟩ : Ans).k, .int .u16 (⟨3, 0⟩ : Ans).v] 25)) := (Keeps.refl _ _).alloc _
  go_enter Tryz.func29, Tryz.ntmps29
  go_wp2_with fail
  go_ret2
  exact ⟨_, rfl, nil_in _ _, hk⟩
theorem ah_10n : AheadIs 10 ⟨4, 0⟩ [one13 10 0] 0 := by
  intro w
  have hk : Keeps [] w (w.alloc (.cells #[.int .u8 (⟨4, 0⟩ : Ans).k, .int .u16 (⟨4, 0⟩ : Ans).v] 25)) := (Keeps.refl _ _).alloc _
  have HK := Lib.hid hk
  clear hk
  go_enter Tryz.func29, Tryz.ntmps29
  go_wp2_with fail
  refine (one13_any _ _ _).mono ?_; rintro e w1 ⟨s, rfl, hi, hk⟩
  have HI := Lib.hid hi
  have HK1 := Lib.hid (HK.out.trans hk (FSub.refl _ _))
  obtain ⟨sa, sc, rfl, -⟩ := id hi
  clear hi hk
  go_wp2_with fail
  go_ret2
  exact ⟨_, rfl, HI.out, HK1.out⟩
theorem ah_11y : AheadIs 11 ⟨3, 0⟩ [one13 10 0] 0 := by
  intro w
  have hk : Keeps [] w (w.alloc (.cells #[.int .u8 (⟨3, 0⟩ : Ans).k, .int .u16 (⟨3, 0⟩ : Ans).v] 25)) := (Keeps.refl _ _).alloc _
  have HK := Lib.hid hk
  clear hk
  go_enter Tryz.func29, Tryz.ntmps29
  go_wp2_with fail
  refine (one13_any _ _ _).mono ?_; rintro e w1 ⟨s, rfl, hi, hk⟩
  have HI := Lib.hid hi
  have HK1 := Lib.hid (HK.out.trans hk (FSub.refl _ _))
  obtain ⟨sa, sc, rfl, -⟩ := id hi
  clear hi hk
  go_wp2_with fail
  go_ret2
  exact ⟨_, rfl, HI.out, HK1.out⟩
theorem ah_11n : AheadIs 11 ⟨4, 0⟩ [] 0 := by
  intro w
  have hk : Keeps [] w (w.alloc (.cells #[.int .u8 (⟨4, 0⟩ : Ans).k, .int .u16 (⟨4, 0⟩ : Ans).v] 25)) := (Keeps.refl _ _).alloc _
  go_enter Tryz.func29, Tryz.ntmps29
  go_wp2_with fail
  go_ret2
  exact ⟨_, rfl, nil_in _ _, hk⟩
/-- The ways of an answer that may be. -/
theorem may_ways {f k v : Int} (h : mayOf f k v = 0) : (f = 1 ∧ k = 1) ∨ ((f = 5 ∨ f = 6) ∧ k = 1) ∨ (v = 0 ∧ (((f = 2 ∨ f = 4 ∨ f = 7) ∧ k = 0) ∨ ((f = 5 ∨ f = 6) ∧ k = 2) ∨ ((f = 3 ∨ f = 8 ∨ f = 9 ∨ f = 10 ∨ f = 11) ∧ (k = 3 ∨ k = 4)))) := by
  unfold mayOf at h
  split at h
  · rename_i hg
    split at h
    · rename_i hk
      have hv : k = 1 ∨ v = 0 := by
        simp only [rsGood, Bool.or_eq_true, beq_iff_eq, Bool.and_eq_true, decide_eq_true_eq] at hg
        rcases hg with h | h
        · exact .inl h
        · exact .inr h.2
      rcases f_cases f with rfl | rfl | rfl | rfl | rfl | rfl | rfl | rfl | rfl | rfl | rfl | hn
      all_goals first
        | (simp [kindsL] at hk; omega)
        | (rw [kindsL_none hn] at hk; cases hk)
    · cases h
  · cases h
/-- What an operation of F and A answers behind the calls. -/
def EachIs (f : Int) (r : Ans) (L : List Cl) (a : Int) : Prop := (mdX (bhS (mdInit (opM f)) L) 0 ⟨f, 0, 0, a, 0⟩).2.2 = 0 ∧ (mdX (bhS (mdInit (opM f)) L) 0 ⟨f, 0, 0, a, 0⟩).2.1 = r
theorem ways {f : Int} {r : Ans} (hr : 0 ≤ r.v ∧ r.v < 65536) (h : mayOf f r.k r.v = 0) : ∃ L a, AheadIs f r L a ∧ EachIs f r L a ∧ (∀ y ∈ L, y.In) ∧ L.length ≤ 1 ∧ (0 ≤ a ∧ a < 65536) := by
  obtain ⟨k, v⟩ := r
  have h0 := may_ways h
  simp only at h0 hr
  clear h
  rcases h0 with ⟨rfl, rfl⟩ | ⟨rfl | rfl, rfl⟩ | ⟨rfl, ⟨rfl | rfl | rfl, rfl⟩ | ⟨rfl | rfl, rfl⟩ | ⟨rfl | rfl | rfl | rfl | rfl, rfl | rfl⟩⟩
  · exact ⟨_, _, ah_1 v, ⟨rfl, rfl⟩, fun y hy => by simp at hy; subst hy; exact one13_in (by decide) hr, Nat.le_refl _, by decide⟩
  · exact ⟨_, _, ah_5v v, ⟨rfl, rfl⟩, fun y hy => by simp at hy; subst hy; exact one13_in (by decide) hr, Nat.le_refl _, by decide⟩
  · exact ⟨_, _, ah_6v v, ⟨rfl, rfl⟩, fun y hy => by simp at hy; subst hy; exact one13_in (by decide) hr, Nat.le_refl _, by decide⟩
  · exact ⟨_, _, ah_2, ⟨rfl, rfl⟩, (fun y hy => by cases hy), by decide, by decide⟩
  · exact ⟨_, _, ah_4, ⟨rfl, rfl⟩, (fun y hy => by cases hy), by decide, by decide⟩
  · exact ⟨_, _, ah_7, ⟨rfl, rfl⟩, (fun y hy => by cases hy), by decide, by decide⟩
  · exact ⟨_, _, ah_5n, ⟨rfl, rfl⟩, (fun y hy => by cases hy), by decide, by decide⟩
  · exact ⟨_, _, ah_6n, ⟨rfl, rfl⟩, (fun y hy => by cases hy), by decide, by decide⟩
  · exact ⟨_, _, ah_3y, ⟨rfl, rfl⟩, fun y hy => by simp at hy; subst hy; exact one13_in (by decide) (by decide), Nat.le_refl _, by decide⟩
  · exact ⟨_, _, ah_3n, ⟨rfl, rfl⟩, fun y hy => by simp at hy; subst hy; exact one13_in (by decide) (by decide), Nat.le_refl _, by decide⟩
  · exact ⟨_, _, ah_8y, ⟨rfl, rfl⟩, fun y hy => by simp at hy; subst hy; exact one13_in (by decide) (by decide), Nat.le_refl _, by decide⟩
  · exact ⟨_, _, ah_8n, ⟨rfl, rfl⟩, (fun y hy => by cases hy), by decide, by decide⟩
  · exact ⟨_, _, ah_9y, ⟨rfl, rfl⟩, fun y hy => by simp at hy; subst hy; exact one13_in (by decide) (by decide), Nat.le_refl _, by decide⟩
  · exact ⟨_, _, ah_9n, ⟨rfl, rfl⟩, fun y hy => by simp at hy; subst hy; exact one13_in (by decide) (by decide), Nat.le_refl _, by decide⟩
  · exact ⟨_, _, ah_10y, ⟨rfl, rfl⟩, (fun y hy => by cases hy), by decide, by decide⟩
  · exact ⟨_, _, ah_10n, ⟨rfl, rfl⟩, fun y hy => by simp at hy; subst hy; exact one13_in (by decide) (by decide), Nat.le_refl _, by decide⟩
  · exact ⟨_, _, ah_11y, ⟨rfl, rfl⟩, fun y hy => by simp at hy; subst hy; exact one13_in (by decide) (by decide), Nat.le_refl _, by decide⟩
  · exact ⟨_, _, ah_11n, ⟨rfl, rfl⟩, (fun y hy => by cases hy), by decide, by decide⟩
section
variable {ops : Array Oper} {rest : List Oper} {a : Act} {w : World} {Q : Exit → Act → World → Prop}
theorem wpList_loadE13 {dst : Option Tmp} {ty : TypeId} {pos : String} {after : Array Edge} {gd : Option (Nat × Bool)} {x : Operand} {g off : Nat} (y : Ans)
    (hw : Region.wanted { dst := dst, op := .load 25 x, type := ty, pos := pos, after := after, guard := gd } (yielded ops a.tmps) = true)
    (hx : a.eval x = .pointer (some ⟨g, off, none⟩)) (hr : w.rangeAt g off (ansC y)) (h : wpList Tryz.prog ops Q rest (a.put dst (.agg #[.int .u8 y.k, .int .u16 y.v])) w) :
    wpList Tryz.prog ops Q ({ dst := dst, op := .load 25 x, type := ty, pos := pos, after := after, guard := gd } :: rest) a w := skR.wpList_load (ansC_ok y) hw hx hr h
end
variable {G : World → Prop}
theorem ModelEach_any (R : MdProg G) (F : MdFits R) (hmod : ∀ w f, G w → 0 ≤ f ∧ f < 256 → Calls Tryz.prog 28 #[.int .u8 f] w fun e w' => e = .returned (.tuple #[.int .u8 (opM f), .bool (opIs f)]) ∧ Keeps [] w w') (w : World) (hG : G w) {f : Int} (hf : 0 ≤ f ∧ f < 256) (r : Ans) (hr : (0 ≤ r.k ∧ r.k < 256) ∧ (0 ≤ r.v ∧ r.v < 65536)) :
    Calls Tryz.prog 8 #[.int .u8 f, .agg (ansC r).toArray] w fun e w' => e = .returned (.bool true) ∧ Keeps [] w w' := by
  obtain ⟨W, hW⟩ : ∃ W, W = w.alloc (.cells #[.int .u8 r.k, .int .u16 r.v] 25) := ⟨_, rfl⟩
  have HVR := Lib.hid (show W.heap[w.heap.size]? = some (.cells (ansC r).toArray 25 (0, 0)) from by rw [hW]; exact heap_alloc_new w _)
  have HK := Lib.hid (show Keeps [] w W from by rw [hW]; exact (Keeps.refl _ _).alloc _)
  have HWW := Lib.hid hW
  have HG := Lib.hid (fun w' (h : Keeps [] w w') => R.keepG hG h)
  have HMO := Lib.hid (fun w' (h : Keeps [] w w') => hmod w' f (R.keepG hG h) hf)
  have HMY := Lib.hid (fun w => rsMay_any w f r.k r.v hr.1.1 hr.1.2)
  clear hW hG hmod
  rw [show Value.agg (ansC r).toArray = .agg #[.int .u8 r.k, .int .u16 r.v] from rfl]
  by_cases hm : mayOf f r.k r.v = 0
  · obtain ⟨L, a, hah, hX, hL, hlen, ha⟩ := ways hr.2 hm
    have hway := may_ways hm
    have his : opIs f = true ∧ opM f ≤ 3 ∧ 0 ≤ opM f := by
      rcases f_cases f with h | h | h | h | h | h | h | h | h | h | h | h
      all_goals first
        | (subst h; decide)
        | (exfalso; omega)
    have HAH := Lib.hid hah; have HX := Lib.hid hX; have HL := Lib.hid hL; have HR := Lib.hid hr; have HA := Lib.hid ha; have HF := Lib.hid hf
    have HM3 := Lib.hid his.2
    have HLN := Lib.hid hlen
    rw [hm] at HMY
    rw [his.1] at HMO
    clear hm hah hX hL hr ha hf hway his hlen
    unfold EachIs at HX
    generalize hS : bhS (mdInit (opM f)) L = S at *
    have HS := Lib.hid hS
    have HSL := Lib.hid (show S.len ≤ 1000 from by have h1 := bhS_len (mdInit (opM f)) L; rw [mdInit_len, hS] at h1; have := HLN.out; omega)
    clear hS
    generalize opM f = m at *
    go_enter Tryz.func8, Tryz.ntmps8
    go_wp2_with fail
    rw [← HWW.out]
    clear HWW
    refine (HMO.out _ HK.out).mono ?_; rintro e w1 ⟨rfl, hk⟩
    replace HK := Lib.hid (HK.out.trans hk (FSub.refl _ _))
    replace HVR := Lib.hid (hk.heap HVR.out (by simp))
    clear hk
    go_wp2_with ((with_reducible refine wpList_loadE13 (g := w.heap.size) (off := 0) r ?_ ?_ (block_range HVR.out) ?_); exact rfl; exact rfl)
    refine (HMY.out w1).mono ?_; rintro e w2 ⟨rfl, hk⟩
    replace HK := Lib.hid (HK.out.trans hk (FSub.refl _ _))
    replace HVR := Lib.hid (hk.heap HVR.out (by simp))
    clear hk
    go_wp2_with ((with_reducible refine wpList_loadE13 (g := w.heap.size) (off := 0) r ?_ ?_ (block_range HVR.out) ?_); exact rfl; exact rfl)
    refine (HAH.out _).mono ?_; rintro e w3 ⟨s, rfl, hi, hk⟩
    obtain ⟨sa, sc, rfl, -⟩ := id hi
    have HI := Lib.hid hi
    replace HK := Lib.hid (HK.out.trans hk (FSub.refl _ _))
    replace HVR := Lib.hid (hk.heap HVR.out (by simp))
    clear hk hi
    go_wp2_with fail
    refine (behind13_any R w3 (HG.out _ HK.out) HM3.out.2 HM3.out.1 HL.out HI.out (by have := HLN.out; omega)).mono ?_
    rw [HS.out]
    rintro e w4 ⟨st, rfl, hat, hk, -⟩
    replace HK := Lib.hid (HK.out.trans hk (FSub.refl _ _))
    replace HVR := Lib.hid (hk.heap HVR.out (by simp))
    obtain ⟨AT, rfl, hok⟩ := R.cells hat
    have HOT := Lib.hid hok
    have HT := Lib.hid hat
    clear hat hok hk
    have HNC := Lib.hid (show (w4.alloc (.cells mdZA 29)).heap[w4.heap.size]? = some (.cells mdZ.toArray 29 (0, 0)) from heap_alloc_new w4 _)
    have HNK := Lib.hid (show Keeps [] w4 (w4.alloc (.cells mdZA 29)) from (Keeps.refl _ _).alloc _)
    go_wp2_with ((with_reducible refine wpList_putM (g := w4.heap.size) (old := mdZ) (A := AT) HOT.out mdZ_ok ?_ ?_ HNC.out ?_); exact rfl; exact rfl)
    intro w5 hW hk2
    have hk := HNK.out.trans' hk2 (Nat.le_refl _)
    replace HK := Lib.hid (HK.out.trans hk (FSub.refl _ _))
    replace HVR := Lib.hid (hk.heap HVR.out (by simp))
    replace HT := Lib.hid (R.new_ HT.out hk)
    have HBT := Lib.hid hW
    clear hk hW hk2 HNC HNK
    generalize w4.heap.size = p1 at *
    go_wp2_with (first
      | ((with_reducible refine wpList_loadM (g := p1) (off := 0) HOT.out ?_ ?_ (block_range HBT.out) ?_); exact rfl; exact rfl)
      | ((with_reducible refine wpList_loadE13 (g := w.heap.size) (off := 0) r ?_ ?_ (block_range HVR.out) ?_); exact rfl; exact rfl))
    have hfit := F.fits w5 _ (some S) 0 ⟨f, 0, 0, a, 0⟩ r (HG.out _ HK.out) HT.out HSL.out (by decide) ⟨HF.out.1, HF.out.2, (by decide : (0 : Int) ≤ 0), (by decide : (0 : Int) < 256), (by decide : (0 : Int) ≤ 0), (by decide : (0 : Int) < 256), HA.out.1, HA.out.2, (by decide : (0 : Int) ≤ 0), (by decide : (0 : Int) < 65536)⟩ HR.out
    rw [show oX (some S) 0 ⟨f, 0, 0, a, 0⟩ = (some (mdX S 0 ⟨f, 0, 0, a, 0⟩).1, r, 0) from by show (some _, (mdX S 0 ⟨f, 0, 0, a, 0⟩).2.1, (mdX S 0 ⟨f, 0, 0, a, 0⟩).2.2) = _; rw [HX.out.1, HX.out.2]] at hfit
    rw [decide_eq_true (⟨rfl, rfl⟩ : (0 : Int) = 0 ∧ r = r)] at hfit
    refine hfit.mono ?_; rintro e w6 ⟨st, rfl, hat, hk, -⟩
    clear hfit
    replace HK := Lib.hid (HK.out.trans hk (FSub.refl _ _))
    replace HVR := Lib.hid (hk.heap HVR.out (by simp))
    obtain ⟨AU, rfl, hok⟩ := R.cells hat
    have HOU := Lib.hid hok
    have HU := Lib.hid hat
    clear hat hok hk
    have HNC := Lib.hid (show (w6.alloc (.cells mdZA 29)).heap[w6.heap.size]? = some (.cells mdZ.toArray 29 (0, 0)) from heap_alloc_new w6 _)
    have HNK := Lib.hid (show Keeps [] w6 (w6.alloc (.cells mdZA 29)) from (Keeps.refl _ _).alloc _)
    go_wp2_with ((with_reducible refine wpList_putM (g := w6.heap.size) (old := mdZ) (A := AU) HOU.out mdZ_ok ?_ ?_ HNC.out ?_); exact rfl; exact rfl)
    intro w7 hW hk2
    have hk := HNK.out.trans' hk2 (Nat.le_refl _)
    replace HK := Lib.hid (HK.out.trans hk (FSub.refl _ _))
    replace HVR := Lib.hid (hk.heap HVR.out (by simp))
    replace HU := Lib.hid (R.new_ HU.out hk)
    have HBU := Lib.hid hW
    clear hk hW hk2 HNC HNK
    generalize w6.heap.size = p2 at *
    go_wp2_with fail
    refine (awake13_any R w7 (HG.out _ HK.out)).mono ?_; rintro e w8 ⟨rfl, hk⟩
    go_wp2_with fail
    go_ret
    exact ⟨rfl, HK.out.trans hk (FSub.refl _ _)⟩
  · have z : (mayOf f r.k r.v != 0) = true := by simpa using hm
    clear hm hr hf
    go_enter Tryz.func8, Tryz.ntmps8
    go_wp2_with fail
    rw [← HWW.out]
    clear HWW
    refine (HMO.out _ HK.out).mono ?_; rintro e w1 ⟨rfl, hk⟩
    replace HK := Lib.hid (HK.out.trans hk (FSub.refl _ _))
    replace HVR := Lib.hid (hk.heap HVR.out (by simp))
    clear hk
    go_wp2_with ((with_reducible refine wpList_loadE13 (g := w.heap.size) (off := 0) r ?_ ?_ (block_range HVR.out) ?_); exact rfl; exact rfl)
    refine (HMY.out w1).mono ?_; rintro e w2 ⟨rfl, hk⟩
    replace HK := Lib.hid (HK.out.trans hk (FSub.refl _ _))
    replace HVR := Lib.hid (hk.heap HVR.out (by simp))
    clear hk
    go_wp2_with fail
    refine (awake13_any R w2 (HG.out _ HK.out)).mono ?_; rintro e w3 ⟨rfl, hk⟩
    go_wp2_with fail
    go_ret
    exact ⟨rfl, HK.out.trans hk (FSub.refl _ _)⟩
end Go.Proofs.YtdachaekcjbfmaaGreatDoor
