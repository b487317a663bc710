/-
  The law ModelOne, over any program's objects.
-/
import Derived.Test.YtdachaekcjbfmaaGreatDoorMK27
import Derived.Test.YtdachaekcjbfmaaGreatDoorMK35
set_option linter.unusedSimpArgs false
set_option linter.unusedVariables false
namespace Go.Proofs.YtdachaekcjbfmaaGreatDoor
open Go.RowKit
set_option maxRecDepth 100000
section
variable {ops : Array Oper} {rest : List Oper} {a : Act} {w : World} {Q : Exit → Act → World → Prop}
theorem wpList_loadNo13 {dst : Option Tmp} {ty : TypeId} {pos : String} {after : Array Edge} {gd : Option (Nat × Bool)} {x : Operand} {g off : Nat} (y : Ans)
    (hw : Region.wanted { dst := dst, op := .load 25 x, type := ty, pos := pos, after := after, guard := gd } (yielded ops a.tmps) = true)
    (hx : a.eval x = .pointer (some ⟨g, off, none⟩)) (hr : w.rangeAt g off (ansC y)) (h : wpList Tryz.prog ops Q rest (a.put dst (.agg #[.int .u8 y.k, .int .u16 y.v])) w) :
    wpList Tryz.prog ops Q ({ dst := dst, op := .load 25 x, type := ty, pos := pos, after := after, guard := gd } :: rest) a w := skR.wpList_load (ansC_ok y) hw hx hr h
end
variable {G : World → Prop}
set_option maxHeartbeats 8000000
end Go.Proofs.YtdachaekcjbfmaaGreatDoor
/-
  The law ModelEach, over any program's objects.
-/
namespace Go.Proofs.YtdachaekcjbfmaaGreatDoor
open Go.RowKit
set_option maxRecDepth 100000
set_option maxHeartbeats 8000000
/-- A call of client 0. -/
def one13 (f a : Int) : Cl := ⟨0, ⟨f, 0, 0, a, 0⟩⟩
theorem one13_in {f a : Int} (hf : 0 ≤ f ∧ f < 256) (ha : 0 ≤ a ∧ a < 65536) : (one13 f a).In := ⟨(by decide : (0 : Int) ≤ 0), (by decide : (0 : Int) < 256), ⟨hf.1, hf.2, (by decide : (0 : Int) ≤ 0), (by decide : (0 : Int) < 256), (by decide : (0 : Int) ≤ 0), (by decide : (0 : Int) < 256), ha.1, ha.2, (by decide : (0 : Int) ≤ 0), (by decide : (0 : Int) < 65536)⟩⟩
theorem one13_any (w : World) (f a : Int) : Calls Tryz.prog 48 #[.int .u8 f, .int .u16 a] w fun e w' => ∃ s, e = .returned s ∧ rkC13.In w'.heap.size w' s [one13 f a] ∧ Keeps [] w w' := by
  go_enter Tryz.func48, Tryz.ntmps48
  go_wp2_with ((with_reducible refine wpList_litC13 [one13 f a] ?_ ?_ ?_ ?_ ?_); exact rfl; exact rfl; exact (by simp); exact (by simp))
  intro W hz hk hi
  go_wp2_with fail
  go_ret
  exact ⟨_, rfl, hi, hk⟩
/-- What calls stand ahead, and the argument. -/
def AheadIs (f : Int) (r : Ans) (L : List Cl) (a : Int) : Prop := ∀ w : World, Calls Tryz.prog 29 #[.int .u8 f, .agg #[.int .u8 r.k, .int .u16 r.v]] w fun e w' => ∃ s, e = .returned (.tuple #[s, .int .u16 a]) ∧ rkC13.In w'.heap.size w' s L ∧ Keeps [] w w'
theorem ah_1 (v : Int) : AheadIs 1 ⟨1, v⟩ [one13 2 v] 0 := by
  intro w
  have hk : Keeps [] w (w.alloc (.cells #[.int .u8 (⟨1, v⟩ : Ans).k, .int .u16 (⟨1, v⟩ : Ans).v] 25)) := (Keeps.refl _ _).alloc _
  have HK := Lib.hid hk
  clear hk
  go_enter Tryz.func29, Tryz.ntmps29
  go_wp2_with fail
  refine (one13_any _ _ _).mono ?_; rintro e w1 ⟨s, rfl, hi, hk⟩
  have HI := Lib.hid hi
  have HK1 := Lib.hid (HK.out.trans hk (FSub.refl _ _))
  obtain ⟨sa, sc, rfl, -⟩ := id hi
  clear hi hk
  go_wp2_with fail
  go_ret2
  exact ⟨_, rfl, HI.out, HK1.out⟩
theorem ah_2 : AheadIs 2 ⟨0, 0⟩ [] 0 := by
  intro w
  have hk : Keeps [] w (w.alloc (.cells #[.int .u8 (⟨0, 0⟩ : Ans).k, .int .u16 (⟨0, 0⟩ : Ans).v] 25)) := (Keeps.refl _ _).alloc _
  go_enter Tryz.func29, Tryz.ntmps29
  go_wp2_with fail
  go_ret2
  exact ⟨_, rfl, nil_in _ _, hk⟩
theorem ah_3y : AheadIs 3 ⟨3, 0⟩ [one13 2 7] 7 := by
  intro w
  have hk : Keeps [] w (w.alloc (.cells #[.int .u8 (⟨3, 0⟩ : Ans).k, .int .u16 (⟨3, 0⟩ : Ans).v] 25)) := (Keeps.refl _ _).alloc _
  have HK := Lib.hid hk
  clear hk
  go_enter Tryz.func29, Tryz.ntmps29
  go_wp2_with fail
  refine (one13_any _ _ _).mono ?_; rintro e w1 ⟨s, rfl, hi, hk⟩
  have HI := Lib.hid hi
  have HK1 := Lib.hid (HK.out.trans hk (FSub.refl _ _))
  obtain ⟨sa, sc, rfl, -⟩ := id hi
  clear hi hk
  go_wp2_with fail
  go_ret2
  exact ⟨_, rfl, HI.out, HK1.out⟩
theorem ah_3n : AheadIs 3 ⟨4, 0⟩ [one13 2 7] 8 := by
  intro w
  have hk : Keeps [] w (w.alloc (.cells #[.int .u8 (⟨4, 0⟩ : Ans).k, .int .u16 (⟨4, 0⟩ : Ans).v] 25)) := (Keeps.refl _ _).alloc _
  have HK := Lib.hid hk
  clear hk
  go_enter Tryz.func29, Tryz.ntmps29
  go_wp2_with fail
  refine (one13_any _ _ _).mono ?_; rintro e w1 ⟨s, rfl, hi, hk⟩
  have HI := Lib.hid hi
  have HK1 := Lib.hid (HK.out.trans hk (FSub.refl _ _))
  obtain ⟨sa, sc, rfl, -⟩ := id hi
  clear hi hk
  go_wp2_with fail
  go_ret2
  exact ⟨_, rfl, HI.out, HK1.out⟩
theorem ah_4 : AheadIs 4 ⟨0, 0⟩ [] 0 := by
  intro w
  have hk : Keeps [] w (w.alloc (.cells #[.int .u8 (⟨0, 0⟩ : Ans).k, .int .u16 (⟨0, 0⟩ : Ans).v] 25)) := (Keeps.refl _ _).alloc _
  go_enter Tryz.func29, Tryz.ntmps29
  go_wp2_with fail
  go_ret2
  exact ⟨_, rfl, nil_in _ _, hk⟩
theorem ah_5v (v : Int) : AheadIs 5 ⟨1, v⟩ [one13 4 v] 0 := by
  intro w
  have hk : Keeps [] w (w.alloc (.cells #[.int .u8 (⟨1, v⟩ : Ans).k, .int .u16 (⟨1, v⟩ : Ans).v] 25)) := (Keeps.refl _ _).alloc _
  have HK := Lib.hid hk
  clear hk
  go_enter Tryz.func29, Tryz.ntmps29
  go_wp2_with fail
  refine (one13_any _ _ _).mono ?_; rintro e w1 ⟨s, rfl, hi, hk⟩
  have HI := Lib.hid hi
  have HK1 := Lib.hid (HK.out.trans hk (FSub.refl _ _))
  obtain ⟨sa, sc, rfl, -⟩ := id hi
  clear hi hk
  go_wp2_with fail
  go_ret2
  exact ⟨_, rfl, HI.out, HK1.out⟩
theorem ah_5n : AheadIs 5 ⟨2, 0⟩ [] 0 := by
  intro w
  have hk : Keeps [] w (w.alloc (.cells #[.int .u8 (⟨2, 0⟩ : Ans).k, .int .u16 (⟨2, 0⟩ : Ans).v] 25)) := (Keeps.refl _ _).alloc _
  go_enter Tryz.func29, Tryz.ntmps29
  go_wp2_with fail
  go_ret2
  exact ⟨_, rfl, nil_in _ _, hk⟩
theorem ah_6v (v : Int) : AheadIs 6 ⟨1, v⟩ [one13 7 v] 0 := by
  intro w
  have hk : Keeps [] w (w.alloc (.cells #[.int .u8 (⟨1, v⟩ : Ans).k, .int .u16 (⟨1, v⟩ : Ans).v] 25)) := (Keeps.refl _ _).alloc _
  have HK := Lib.hid hk
  clear hk
  go_enter Tryz.func29, Tryz.ntmps29
  go_wp2_with fail
  refine (one13_any _ _ _).mono ?_; rintro e w1 ⟨s, rfl, hi, hk⟩
  have HI := Lib.hid hi
  have HK1 := Lib.hid (HK.out.trans hk (FSub.refl _ _))
  obtain ⟨sa, sc, rfl, -⟩ := id hi
  clear hi hk
  go_wp2_with fail
  go_ret2
  exact ⟨_, rfl, HI.out, HK1.out⟩
theorem ah_6n : AheadIs 6 ⟨2, 0⟩ [] 0 := by
  intro w
  have hk : Keeps [] w (w.alloc (.cells #[.int .u8 (⟨2, 0⟩ : Ans).k, .int .u16 (⟨2, 0⟩ : Ans).v] 25)) := (Keeps.refl _ _).alloc _
  go_enter Tryz.func29, Tryz.ntmps29
  go_wp2_with fail
  go_ret2
  exact ⟨_, rfl, nil_in _ _, hk⟩
theorem ah_7 : AheadIs 7 ⟨0, 0⟩ [] 0 := by
  intro w
  have hk : Keeps [] w (w.alloc (.cells #[.int .u8 (⟨0, 0⟩ : Ans).k, .int .u16 (⟨0, 0⟩ : Ans).v] 25)) := (Keeps.refl _ _).alloc _
  go_enter Tryz.func29, Tryz.ntmps29
  go_wp2_with fail
  go_ret2
  exact ⟨_, rfl, nil_in _ _, hk⟩
theorem ah_8y : AheadIs 8 ⟨3, 0⟩ [one13 7 1] 0 := by
  intro w
  have hk : Keeps [] w (w.alloc (.cells #[.int .u8 (⟨3, 0⟩ : Ans).k, .int .u16 (⟨3, 0⟩ : Ans).v] 25)) := (Keeps.refl _ _).alloc _
  have HK := Lib.hid hk
  clear hk
  go_enter Tryz.func29, Tryz.ntmps29
  go_wp2_with fail
  refine (one13_any _ _ _).mono ?_; rintro e w1 ⟨s, rfl, hi, hk⟩
  have HI := Lib.hid hi
  have HK1 := Lib.hid (HK.out.trans hk (FSub.refl _ _))
  obtain ⟨sa, sc, rfl, -⟩ := id hi
  clear hi hk
  go_wp2_with fail
  go_ret2
  exact ⟨_, rfl, HI.out, HK1.out⟩
theorem ah_8n : AheadIs 8 ⟨4, 0⟩ [] 0 := by
  intro w
  have hk : Keeps [] w (w.alloc (.cells #[.int .u8 (⟨4, 0⟩ : Ans).k, .int .u16 (⟨4, 0⟩ : Ans).v] 25)) := (Keeps.refl _ _).alloc _
  go_enter Tryz.func29, Tryz.ntmps29
  go_wp2_with fail
  go_ret2
  exact ⟨_, rfl, nil_in _ _, hk⟩
theorem ah_9y : AheadIs 9 ⟨3, 0⟩ [one13 7 7] 7 := by
  intro w
  have hk : Keeps [] w (w.alloc (.cells #[.int .u8 (⟨3, 0⟩ : Ans).k, .int .u16 (⟨3, 0⟩ : Ans).v] 25)) := (Keeps.refl _ _).alloc _
  have HK := Lib.hid hk
  clear hk
  go_enter Tryz.func29, Tryz.ntmps29
  go_wp2_with fail
  refine (one13_any _ _ _).mono ?_; rintro e w1 ⟨s, rfl, hi, hk⟩
  have HI := Lib.hid hi
  have HK1 := Lib.hid (HK.out.trans hk (FSub.refl _ _))
  obtain ⟨sa, sc, rfl, -⟩ := id hi
  clear hi hk
  go_wp2_with fail
  go_ret2
  exact ⟨_, rfl, HI.out, HK1.out⟩
theorem ah_9n : AheadIs 9 ⟨4, 0⟩ [one13 7 7] 8 := by
  intro w
  have hk : Keeps [] w (w.alloc (.cells #[.int .u8 (⟨4, 0⟩ : Ans).k, .int .u16 (⟨4, 0⟩ : Ans).v] 25)) := (Keeps.refl _ _).alloc _
  have HK := Lib.hid hk
  clear hk
  go_enter Tryz.func29, Tryz.ntmps29
  go_wp2_with fail
  refine (one13_any _ _ _).mono ?_; rintro e w1 ⟨s, rfl, hi, hk⟩
  have HI := Lib.hid hi
  have HK1 := Lib.hid (HK.out.trans hk (FSub.refl _ _))
  obtain ⟨sa, sc, rfl, -⟩ := id hi
  clear hi hk
  go_wp2_with fail
  go_ret2
  exact ⟨_, rfl, HI.out, HK1.out⟩
theorem ah_10y : AheadIs 10 ⟨3, 0⟩ [] 0 := by
  intro w
  have hk : Keeps [] w (w.alloc (.cells #[.int .u8 (⟨3, 0⟩ : Ans).k, .int .u16 (⟨3, 0⟩ : Ans).v] 25)) := (Keeps.refl _ _).alloc _
  go_enter Tryz.func29, Tryz.ntmps29
  go_wp2_with fail
  go_ret2
  exact ⟨_, rfl, nil_in _ _, hk⟩
theorem ah_10n : AheadIs 10 ⟨4, 0⟩ [one13 10 0] 0 := by
  intro w
  have hk : Keeps [] w (w.alloc (.cells #[.int .u8 (⟨4, 0⟩ : Ans).k, .int .u16 (⟨4, 0⟩ : Ans).v] 25)) := (Keeps.refl _ _).alloc _
  have HK := Lib.hid hk
  clear hk
  go_enter Tryz.func29, Tryz.ntmps29
  go_wp2_with fail
  refine (one13_any _ _ _).mono ?_; rintro e w1 ⟨s, rfl, hi, hk⟩
  have HI := Lib.hid hi
  have HK1 := Lib.hid (HK.out.trans hk (FSub.refl _ _))
  obtain ⟨sa, sc, rfl, -⟩ := id hi
  clear hi hk
  go_wp2_with fail
  go_ret2
  exact ⟨_, rfl, HI.out, HK1.out⟩
theorem ah_11y : AheadIs 11 ⟨3, 0⟩ [one13 10 0] 0 := by
  intro w
  have hk : Keeps [] w (w.alloc (.cells #[.int .u8 (⟨3, 0⟩ : Ans).k, .int .u16 (⟨3, 0⟩ : Ans).v] 25)) := (Keeps.refl _ _).alloc _
  have HK := Lib.hid hk
  clear hk
  go_enter Tryz.func29, Tryz.ntmps29
  go_wp2_with fail
  refine (one13_any _ _ _).mono ?_; rintro e w1 ⟨s, rfl, hi, hk⟩
  have HI := Lib.hid hi
  have HK1 := Lib.hid (HK.out.trans hk (FSub.refl _ _))
  obtain ⟨sa, sc, rfl, -⟩ := id hi
  clear hi hk
  go_wp2_with fail
  go_ret2
  exact ⟨_, rfl, HI.out, HK1.out⟩
theorem ah_11n : AheadIs 11 ⟨4, 0⟩ [] 0 := by
  intro w
  have hk : Keeps [] w (w.alloc (.cells #[.int .u8 (⟨4, 0⟩ : Ans).k, .int .u16 (⟨4, 0⟩ : Ans).v] 25)) := (Keeps.refl _ _).alloc _
  go_enter Tryz.func29, Tryz.ntmps29
  go_wp2_with fail
  go_ret2
  exact ⟨_, rfl, nil_in _ _, hk⟩
/-- The ways of an answer that may be. -/
theorem may_ways {f k v : Int} (h : mayOf f k v = 0) : (f = 1 ∧ k = 1) ∨ ((f = 5 ∨ f = 6) ∧ k = 1) ∨ (v = 0 ∧ (((f = 2 ∨ f = 4 ∨ f = 7) ∧ k = 0) ∨ ((f = 5 ∨ f = 6) ∧ k = 2) ∨ ((f = 3 ∨ f = 8 ∨ f = 9 ∨ f = 10 ∨ f = 11) ∧ (k = 3 ∨ k = 4)))) := by
  unfold mayOf at h
  split at h
  · rename_i hg
    split at h
    · rename_i hk
      have hv : k = 1 ∨ v = 0 := by
        simp only [rsGood, Bool.or_eq_true, beq_iff_eq, Bool.and_eq_true, decide_eq_true_eq] at hg
        rcases hg with h | h
        · exact .inl h
        · exact .inr h.2
      rcases f_cases f with rfl | rfl | rfl | rfl | rfl | rfl | rfl | rfl | rfl | rfl | rfl | hn
      all_goals first
        | (simp [kindsL] at hk; omega)
        | (rw [kindsL_none hn] at hk; cases hk)
    · cases h
  · cases h
/-- What an operation of F and A answers behind the calls. -/
def EachIs (f : Int) (r : Ans) (L : List Cl) (a : Int) : Prop := (mdX (bhS (mdInit (opM f)) L) 0 ⟨f, 0, 0, a, 0⟩).2.2 = 0 ∧ (mdX (bhS (mdInit (opM f)) L) 0 ⟨f, 0, 0, a, 0⟩).2.1 = r
theorem ways {f : Int} {r : Ans} (hr : 0 ≤ r.v ∧ r.v < 65536) (h : mayOf f r.k r.v = 0) : ∃ L a, AheadIs f r L a ∧ EachIs f r L a ∧ (∀ y ∈ L, y.In) ∧ L.length ≤ 1 ∧ (0 ≤ a ∧ a < 65536) := by
  obtain ⟨k, v⟩ := r
  have h0 := may_ways h
  simp only at h0 hr
  clear h
  rcases h0 with ⟨rfl, rfl⟩ | ⟨rfl | rfl, rfl⟩ | ⟨rfl, ⟨rfl | rfl | rfl, rfl⟩ | ⟨rfl | rfl, rfl⟩ | ⟨rfl | rfl | rfl | rfl | rfl, rfl | rfl⟩⟩
  · exact ⟨_, _, ah_1 v, ⟨rfl, rfl⟩, fun y hy => by simp at hy; subst hy; exact one13_in (by decide) hr, Nat.le_refl _, by decide⟩
  · exact ⟨_, _, ah_5v v, ⟨rfl, rfl⟩, fun y hy => by simp at hy; subst hy; exact one13_in (by decide) hr, Nat.le_refl _, by decide⟩
  · exact ⟨_, _, ah_6v v, ⟨rfl, rfl⟩, fun y hy => by simp at hy; subst hy; exact one13_in (by decide) hr, Nat.le_refl _, by decide⟩
  · exact ⟨_, _, ah_2, ⟨rfl, rfl⟩, (fun y hy => by cases hy), by decide, by decide⟩
  · exact ⟨_, _, ah_4, ⟨rfl, rfl⟩, (fun y hy => by cases hy), by decide, by decide⟩
  · exact ⟨_, _, ah_7, ⟨rfl, rfl⟩, (fun y hy => by cases hy), by decide, by decide⟩
  · exact ⟨_, _, ah_5n, ⟨rfl, rfl⟩, (fun y hy => by cases hy), by decide, by decide⟩
  · exact ⟨_, _, ah_6n, ⟨rfl, rfl⟩, (fun y hy => by cases hy), by decide, by decide⟩
  · exact ⟨_, _, ah_3y, ⟨rfl, rfl⟩, fun y hy => by simp at hy; subst hy; exact one13_in (by decide) (by decide), Nat.le_refl _, by decide⟩
  · exact ⟨_, _, ah_3n, ⟨rfl, rfl⟩, fun y hy => by simp at hy; subst hy; exact one13_in (by decide) (by decide), Nat.le_refl _, by decide⟩
  · exact ⟨_, _, ah_8y, ⟨rfl, rfl⟩, fun y hy => by simp at hy; subst hy; exact one13_in (by decide) (by decide), Nat.le_refl _, by decide⟩
  · exact ⟨_, _, ah_8n, ⟨rfl, rfl⟩, (fun y hy => by cases hy), by decide, by decide⟩
  · exact ⟨_, _, ah_9y, ⟨rfl, rfl⟩, fun y hy => by simp at hy; subst hy; exact one13_in (by decide) (by decide), Nat.le_refl _, by decide⟩
  · exact ⟨_, _, ah_9n, ⟨rfl, rfl⟩, fun y hy => by simp at hy; subst hy; exact one13_in (by decide) (by decide), Nat.le_refl _, by decide⟩
  · exact ⟨_, _, ah_10y, ⟨rfl, rfl⟩, (fun y hy => by cases hy), by decide, by decide⟩
  · exact ⟨_, _, ah_10n, ⟨rfl, rfl⟩, fun y hy => by simp at hy; subst hy; exact one13_in (by decide) (by decide), Nat.le_refl _, by decide⟩
  · exact ⟨_, _, ah_11y, ⟨rfl, rfl⟩, fun y hy => by simp at hy; subst hy; exact one13_in (by decide) (by decide), Nat.le_refl _, by decide⟩
  · exact ⟨_, _, ah_11n, ⟨rfl, rfl⟩, (fun y hy => by cases hy), by decide, by decide⟩
section
variable {ops : Array Oper} {rest : List Oper} {a : Act} {w : World} {Q : Exit → Act → World → Prop}
end
variable {G : World → Prop}
end Go.Proofs.YtdachaekcjbfmaaGreatDoor
/-
  The law ModelKnown, over any program's objects.
-/
namespace Go.Proofs.YtdachaekcjbfmaaGreatDoor
open Go.RowKit
set_option maxRecDepth 100000
set_option maxHeartbeats 8000000
variable {G : World → Prop}
def mwQ : List Cl := [⟨0, ⟨4, 0, 0, 1, 0⟩⟩, ⟨0, ⟨4, 0, 0, 2, 0⟩⟩]
theorem mwQ_in : ∀ y ∈ mwQ, y.In := by
  intro y hy
  simp only [mwQ, List.mem_cons, List.not_mem_nil, or_false] at hy
  rcases hy with rfl | rfl
  · exact ⟨by decide, by decide, ⟨by decide, by decide, by decide, by decide, by decide, by decide, by decide, by decide, by decide, by decide⟩⟩
  · exact ⟨by decide, by decide, ⟨by decide, by decide, by decide, by decide, by decide, by decide, by decide, by decide, by decide, by decide⟩⟩
theorem mwQ_X : bhS (mdInit 1) mwQ = .qu [1, 2] := rfl
theorem mw_free : bs (mdT (.lk 0)) = { data := #[102, 114, 101, 101] } := rfl
theorem mw_q : bs (mdT (.qu [1, 2])) = { data := #[91, 49, 32, 50, 93] } := by
  have e1 : dec 1 = [49] := dec_lit (n := 1) (by decide)
  have e2 : dec 2 = [50] := dec_lit (n := 2) (by decide)
  show bs (91 :: ((dec 1 ++ 32 :: dec 2) ++ [93])) = _
  rw [e1, e2]
  rfl
theorem mw_258 : bs (mdT (.rg 258)) = { data := #[50, 53, 56] } := by
  show bs (Lib.decDigits 258) = _
  rw [Lib.decDigits, dif_neg (by decide), show 258 / 10 = 25 from rfl, Lib.decDigits, dif_neg (by decide), show 25 / 10 = 2 from rfl, Lib.decDigits, dif_pos (by decide)]
  rfl
theorem mw_none : bs (mdT (.qu [])) = { data := #[91, 93] } := rfl
section
variable {ops : Array Oper} {rest : List Oper} {a : Act} {w : World} {Q : Exit → Act → World → Prop}
theorem wpList_assignE {dst : Option Tmp} {ty : TypeId} {pos : String} {after : Array Edge} (x : Operand) {v : Value} (hx : a.eval x = v) (h : wpList Tryz.prog ops Q rest (a.put dst v) w) :
    wpList Tryz.prog ops Q ({ dst := dst, op := .assign x, type := ty, pos := pos, after := after, guard := none } :: rest) a w :=
  wpList_plain rfl fun _ hK => by
    unfold Oper.wp execOp
    simp only [hx, Sem.run_pure]
    exact hK _ _ h
end
theorem op0 (f : Int) (h : 0 ≤ f ∧ f < 256) : (⟨f, 0, 0, 0, 0⟩ : Opn).In := ⟨h.1, h.2, (by decide : (0 : Int) ≤ 0), (by decide : (0 : Int) < 256), (by decide : (0 : Int) ≤ 0), (by decide : (0 : Int) < 256), (by decide : (0 : Int) ≤ 0), (by decide : (0 : Int) < 65536), (by decide : (0 : Int) ≤ 0), (by decide : (0 : Int) < 65536)⟩
theorem ModelKnown_any (R : MdProg G) (F : MdFits R) (SM : MdSame R) (DC : MdDec R) (IM : MdIdle G) (w : World) (hG : G w) : Calls Tryz.prog 5 #[] w fun e w' => e = .returned (.bool true) ∧ Keeps [] w w' := by
  have HG := Lib.hid (fun w' (h : Keeps [] w w') => R.keepG hG h)
  have HK := Lib.hid (Keeps.refl [] w)
  clear hG
  go_enter Tryz.func5, Tryz.ntmps5
  go_wp2_with fail
  have h1 := R.new w 3 (HG.out _ HK.out) (by decide)
  rw [if_pos (by decide), show oNew 3 = some (.lk 0) from rfl] at h1
  refine h1.mono ?_; rintro e w1 ⟨st, rfl, hat, hk, -⟩
  clear h1
  replace HK := Lib.hid (HK.out.trans hk (FSub.refl _ _))
  try replace HF := Lib.hid (R.new_ HF.out hk)
  try replace HBF := Lib.hid (hk.heap HBF.out (by simp))
  try replace HD := Lib.hid (R.new_ HD.out hk)
  try replace HBD := Lib.hid (hk.heap HBD.out (by simp))
  try replace HB := Lib.hid (R.new_ HB.out hk)
  try replace HBB := Lib.hid (hk.heap HBB.out (by simp))
  try replace HQ := Lib.hid (R.new_ HQ.out hk)
  try replace HBQ := Lib.hid (hk.heap HBQ.out (by simp))
  try replace HR := Lib.hid (R.new_ HR.out hk)
  try replace HBR := Lib.hid (hk.heap HBR.out (by simp))
  try replace HM := Lib.hid (R.new_ HM.out hk)
  try replace HBM := Lib.hid (hk.heap HBM.out (by simp))
  try replace HZ := Lib.hid (R.new_ HZ.out hk)
  try replace HBZ := Lib.hid (hk.heap HBZ.out (by simp))
  try replace HX := Lib.hid (R.new_ HX.out hk)
  obtain ⟨AF, rfl, hok⟩ := R.cells hat
  have HOF := Lib.hid hok
  have HF := Lib.hid hat
  clear hat hok hk
  have HNC := Lib.hid (show (w1.alloc (.cells mdZA 29)).heap[w1.heap.size]? = some (.cells mdZ.toArray 29 (0, 0)) from heap_alloc_new w1 _)
  have HNK := Lib.hid (show Keeps [] w1 (w1.alloc (.cells mdZA 29)) from (Keeps.refl _ _).alloc _)
  go_wp2_with ((with_reducible refine wpList_putM (g := w1.heap.size) (old := mdZ) (A := AF) HOF.out mdZ_ok ?_ ?_ HNC.out ?_); exact rfl; exact rfl)
  intro w2 hW hk2
  have hk := HNK.out.trans' hk2 (Nat.le_refl _)
  replace HK := Lib.hid (HK.out.trans hk (FSub.refl _ _))
  try replace HF := Lib.hid (R.new_ HF.out hk)
  try replace HBF := Lib.hid (hk.heap HBF.out (by simp))
  try replace HD := Lib.hid (R.new_ HD.out hk)
  try replace HBD := Lib.hid (hk.heap HBD.out (by simp))
  try replace HB := Lib.hid (R.new_ HB.out hk)
  try replace HBB := Lib.hid (hk.heap HBB.out (by simp))
  try replace HQ := Lib.hid (R.new_ HQ.out hk)
  try replace HBQ := Lib.hid (hk.heap HBQ.out (by simp))
  try replace HR := Lib.hid (R.new_ HR.out hk)
  try replace HBR := Lib.hid (hk.heap HBR.out (by simp))
  try replace HM := Lib.hid (R.new_ HM.out hk)
  try replace HBM := Lib.hid (hk.heap HBM.out (by simp))
  try replace HZ := Lib.hid (R.new_ HZ.out hk)
  try replace HBZ := Lib.hid (hk.heap HBZ.out (by simp))
  try replace HX := Lib.hid (R.new_ HX.out hk)
  have HBF := Lib.hid hW
  clear hk hW hk2 HNC HNK
  generalize w1.heap.size = pF at *
  go_wp2_with ((with_reducible refine wpList_litC13 mwB ?_ ?_ ?_ ?_ ?_); exact rfl; exact rfl; exact (by decide); exact (by decide))
  intro w3 hz hk hi
  have HI := Lib.hid hi
  clear hz hi
  replace HK := Lib.hid (HK.out.trans hk (FSub.refl _ _))
  try replace HF := Lib.hid (R.new_ HF.out hk)
  try replace HBF := Lib.hid (hk.heap HBF.out (by simp))
  try replace HD := Lib.hid (R.new_ HD.out hk)
  try replace HBD := Lib.hid (hk.heap HBD.out (by simp))
  try replace HB := Lib.hid (R.new_ HB.out hk)
  try replace HBB := Lib.hid (hk.heap HBB.out (by simp))
  try replace HQ := Lib.hid (R.new_ HQ.out hk)
  try replace HBQ := Lib.hid (hk.heap HBQ.out (by simp))
  try replace HR := Lib.hid (R.new_ HR.out hk)
  try replace HBR := Lib.hid (hk.heap HBR.out (by simp))
  try replace HM := Lib.hid (R.new_ HM.out hk)
  try replace HBM := Lib.hid (hk.heap HBM.out (by simp))
  try replace HZ := Lib.hid (R.new_ HZ.out hk)
  try replace HBZ := Lib.hid (hk.heap HBZ.out (by simp))
  try replace HX := Lib.hid (R.new_ HX.out hk)
  clear hk
  generalize w2.heap.size = pa at *
  go_wp2_with fail
  refine (behind13_any R w3 (HG.out _ HK.out) (m := 3) (by decide) (by decide) mwB_in HI.out (by decide)).mono ?_
  rw [mwB_X]
  rintro e w4 ⟨st, rfl, hat, hk, -⟩
  clear HI
  replace HK := Lib.hid (HK.out.trans hk (FSub.refl _ _))
  try replace HF := Lib.hid (R.new_ HF.out hk)
  try replace HBF := Lib.hid (hk.heap HBF.out (by simp))
  try replace HD := Lib.hid (R.new_ HD.out hk)
  try replace HBD := Lib.hid (hk.heap HBD.out (by simp))
  try replace HB := Lib.hid (R.new_ HB.out hk)
  try replace HBB := Lib.hid (hk.heap HBB.out (by simp))
  try replace HQ := Lib.hid (R.new_ HQ.out hk)
  try replace HBQ := Lib.hid (hk.heap HBQ.out (by simp))
  try replace HR := Lib.hid (R.new_ HR.out hk)
  try replace HBR := Lib.hid (hk.heap HBR.out (by simp))
  try replace HM := Lib.hid (R.new_ HM.out hk)
  try replace HBM := Lib.hid (hk.heap HBM.out (by simp))
  try replace HZ := Lib.hid (R.new_ HZ.out hk)
  try replace HBZ := Lib.hid (hk.heap HBZ.out (by simp))
  try replace HX := Lib.hid (R.new_ HX.out hk)
  obtain ⟨AD, rfl, hok⟩ := R.cells hat
  have HOD := Lib.hid hok
  have HD := Lib.hid hat
  clear hat hok hk
  have HNC := Lib.hid (show (w4.alloc (.cells mdZA 29)).heap[w4.heap.size]? = some (.cells mdZ.toArray 29 (0, 0)) from heap_alloc_new w4 _)
  have HNK := Lib.hid (show Keeps [] w4 (w4.alloc (.cells mdZA 29)) from (Keeps.refl _ _).alloc _)
  go_wp2_with ((with_reducible refine wpList_putM (g := w4.heap.size) (old := mdZ) (A := AD) HOD.out mdZ_ok ?_ ?_ HNC.out ?_); exact rfl; exact rfl)
  intro w5 hW hk2
  have hk := HNK.out.trans' hk2 (Nat.le_refl _)
  replace HK := Lib.hid (HK.out.trans hk (FSub.refl _ _))
  try replace HF := Lib.hid (R.new_ HF.out hk)
  try replace HBF := Lib.hid (hk.heap HBF.out (by simp))
  try replace HD := Lib.hid (R.new_ HD.out hk)
  try replace HBD := Lib.hid (hk.heap HBD.out (by simp))
  try replace HB := Lib.hid (R.new_ HB.out hk)
  try replace HBB := Lib.hid (hk.heap HBB.out (by simp))
  try replace HQ := Lib.hid (R.new_ HQ.out hk)
  try replace HBQ := Lib.hid (hk.heap HBQ.out (by simp))
  try replace HR := Lib.hid (R.new_ HR.out hk)
  try replace HBR := Lib.hid (hk.heap HBR.out (by simp))
  try replace HM := Lib.hid (R.new_ HM.out hk)
  try replace HBM := Lib.hid (hk.heap HBM.out (by simp))
  try replace HZ := Lib.hid (R.new_ HZ.out hk)
  try replace HBZ := Lib.hid (hk.heap HBZ.out (by simp))
  try replace HX := Lib.hid (R.new_ HX.out hk)
  have HBD := Lib.hid hW
  clear hk hW hk2 HNC HNK
  generalize w4.heap.size = pD at *
  go_wp2_with ((with_reducible refine wpList_loadM (g := pD) (off := 0) HOD.out ?_ ?_ (block_range HBD.out) ?_); exact rfl; exact rfl)
  have h1 := F.fits w5 _ (some (.lk 4)) 2 ⟨11, 0, 0, 0, 0⟩ ⟨3, 0⟩ (HG.out _ HK.out) HD.out (by decide) (by decide) (op0 11 (by decide)) (by decide)
  rw [show oX (some (.lk 4)) 2 ⟨11, 0, 0, 0, 0⟩ = (some (.lk 4), ⟨4, 0⟩, 0) from rfl, decide_eq_false (by decide), if_neg (by decide)] at h1
  refine h1.mono ?_; rintro e w6 ⟨st, rfl, hat, hk, -⟩
  clear h1
  replace HK := Lib.hid (HK.out.trans hk (FSub.refl _ _))
  try replace HF := Lib.hid (R.new_ HF.out hk)
  try replace HBF := Lib.hid (hk.heap HBF.out (by simp))
  try replace HD := Lib.hid (R.new_ HD.out hk)
  try replace HBD := Lib.hid (hk.heap HBD.out (by simp))
  try replace HB := Lib.hid (R.new_ HB.out hk)
  try replace HBB := Lib.hid (hk.heap HBB.out (by simp))
  try replace HQ := Lib.hid (R.new_ HQ.out hk)
  try replace HBQ := Lib.hid (hk.heap HBQ.out (by simp))
  try replace HR := Lib.hid (R.new_ HR.out hk)
  try replace HBR := Lib.hid (hk.heap HBR.out (by simp))
  try replace HM := Lib.hid (R.new_ HM.out hk)
  try replace HBM := Lib.hid (hk.heap HBM.out (by simp))
  try replace HZ := Lib.hid (R.new_ HZ.out hk)
  try replace HBZ := Lib.hid (hk.heap HBZ.out (by simp))
  try replace HX := Lib.hid (R.new_ HX.out hk)
  obtain ⟨AX, rfl, hok⟩ := R.cells hat
  have HOX := Lib.hid hok
  clear hat hok hk
  have HNC := Lib.hid (show (w6.alloc (.cells mdZA 29)).heap[w6.heap.size]? = some (.cells mdZ.toArray 29 (0, 0)) from heap_alloc_new w6 _)
  have HNK := Lib.hid (show Keeps [] w6 (w6.alloc (.cells mdZA 29)) from (Keeps.refl _ _).alloc _)
  go_wp2_with ((with_reducible refine wpList_putM (g := w6.heap.size) (old := mdZ) (A := AX) HOX.out mdZ_ok ?_ ?_ HNC.out ?_); exact rfl; exact rfl)
  intro w7 hW hk2
  have hk := HNK.out.trans' hk2 (Nat.le_refl _)
  replace HK := Lib.hid (HK.out.trans hk (FSub.refl _ _))
  try replace HF := Lib.hid (R.new_ HF.out hk)
  try replace HBF := Lib.hid (hk.heap HBF.out (by simp))
  try replace HD := Lib.hid (R.new_ HD.out hk)
  try replace HBD := Lib.hid (hk.heap HBD.out (by simp))
  try replace HB := Lib.hid (R.new_ HB.out hk)
  try replace HBB := Lib.hid (hk.heap HBB.out (by simp))
  try replace HQ := Lib.hid (R.new_ HQ.out hk)
  try replace HBQ := Lib.hid (hk.heap HBQ.out (by simp))
  try replace HR := Lib.hid (R.new_ HR.out hk)
  try replace HBR := Lib.hid (hk.heap HBR.out (by simp))
  try replace HM := Lib.hid (R.new_ HM.out hk)
  try replace HBM := Lib.hid (hk.heap HBM.out (by simp))
  try replace HZ := Lib.hid (R.new_ HZ.out hk)
  try replace HBZ := Lib.hid (hk.heap HBZ.out (by simp))
  try replace HX := Lib.hid (R.new_ HX.out hk)
  clear hk hW hk2 HNC HNK HOX
  generalize w6.heap.size = pN at *
  go_wp2_with ((with_reducible refine wpList_loadM (g := pD) (off := 0) HOD.out ?_ ?_ (block_range HBD.out) ?_); exact rfl; exact rfl)
  have h1 := F.fits w7 _ (some (.lk 4)) 3 ⟨11, 0, 0, 0, 0⟩ ⟨3, 0⟩ (HG.out _ HK.out) HD.out (by decide) (by decide) (op0 11 (by decide)) (by decide)
  rw [show oX (some (.lk 4)) 3 ⟨11, 0, 0, 0, 0⟩ = (some (.lk 0), ⟨3, 0⟩, 0) from rfl, decide_eq_true (by decide), if_pos (by decide)] at h1
  refine h1.mono ?_; rintro e w8 ⟨st, rfl, hat, hk, -⟩
  clear h1
  replace HK := Lib.hid (HK.out.trans hk (FSub.refl _ _))
  try replace HF := Lib.hid (R.new_ HF.out hk)
  try replace HBF := Lib.hid (hk.heap HBF.out (by simp))
  try replace HD := Lib.hid (R.new_ HD.out hk)
  try replace HBD := Lib.hid (hk.heap HBD.out (by simp))
  try replace HB := Lib.hid (R.new_ HB.out hk)
  try replace HBB := Lib.hid (hk.heap HBB.out (by simp))
  try replace HQ := Lib.hid (R.new_ HQ.out hk)
  try replace HBQ := Lib.hid (hk.heap HBQ.out (by simp))
  try replace HR := Lib.hid (R.new_ HR.out hk)
  try replace HBR := Lib.hid (hk.heap HBR.out (by simp))
  try replace HM := Lib.hid (R.new_ HM.out hk)
  try replace HBM := Lib.hid (hk.heap HBM.out (by simp))
  try replace HZ := Lib.hid (R.new_ HZ.out hk)
  try replace HBZ := Lib.hid (hk.heap HBZ.out (by simp))
  try replace HX := Lib.hid (R.new_ HX.out hk)
  obtain ⟨AB, rfl, hok⟩ := R.cells hat
  have HOB := Lib.hid hok
  have HB := Lib.hid hat
  clear hat hok hk
  have HNC := Lib.hid (show (w8.alloc (.cells mdZA 29)).heap[w8.heap.size]? = some (.cells mdZ.toArray 29 (0, 0)) from heap_alloc_new w8 _)
  have HNK := Lib.hid (show Keeps [] w8 (w8.alloc (.cells mdZA 29)) from (Keeps.refl _ _).alloc _)
  go_wp2_with ((with_reducible refine wpList_putM (g := w8.heap.size) (old := mdZ) (A := AB) HOB.out mdZ_ok ?_ ?_ HNC.out ?_); exact rfl; exact rfl)
  intro w9 hW hk2
  have hk := HNK.out.trans' hk2 (Nat.le_refl _)
  replace HK := Lib.hid (HK.out.trans hk (FSub.refl _ _))
  try replace HF := Lib.hid (R.new_ HF.out hk)
  try replace HBF := Lib.hid (hk.heap HBF.out (by simp))
  try replace HD := Lib.hid (R.new_ HD.out hk)
  try replace HBD := Lib.hid (hk.heap HBD.out (by simp))
  try replace HB := Lib.hid (R.new_ HB.out hk)
  try replace HBB := Lib.hid (hk.heap HBB.out (by simp))
  try replace HQ := Lib.hid (R.new_ HQ.out hk)
  try replace HBQ := Lib.hid (hk.heap HBQ.out (by simp))
  try replace HR := Lib.hid (R.new_ HR.out hk)
  try replace HBR := Lib.hid (hk.heap HBR.out (by simp))
  try replace HM := Lib.hid (R.new_ HM.out hk)
  try replace HBM := Lib.hid (hk.heap HBM.out (by simp))
  try replace HZ := Lib.hid (R.new_ HZ.out hk)
  try replace HBZ := Lib.hid (hk.heap HBZ.out (by simp))
  try replace HX := Lib.hid (R.new_ HX.out hk)
  have HBB := Lib.hid hW
  clear hk hW hk2 HNC HNK
  generalize w8.heap.size = pB at *
  go_wp2_with ((with_reducible refine wpList_litC13 mwQ ?_ ?_ ?_ ?_ ?_); exact rfl; exact rfl; exact (by decide); exact (by decide))
  intro w10 hz hk hi
  have HI := Lib.hid hi
  clear hz hi
  replace HK := Lib.hid (HK.out.trans hk (FSub.refl _ _))
  try replace HF := Lib.hid (R.new_ HF.out hk)
  try replace HBF := Lib.hid (hk.heap HBF.out (by simp))
  try replace HD := Lib.hid (R.new_ HD.out hk)
  try replace HBD := Lib.hid (hk.heap HBD.out (by simp))
  try replace HB := Lib.hid (R.new_ HB.out hk)
  try replace HBB := Lib.hid (hk.heap HBB.out (by simp))
  try replace HQ := Lib.hid (R.new_ HQ.out hk)
  try replace HBQ := Lib.hid (hk.heap HBQ.out (by simp))
  try replace HR := Lib.hid (R.new_ HR.out hk)
  try replace HBR := Lib.hid (hk.heap HBR.out (by simp))
  try replace HM := Lib.hid (R.new_ HM.out hk)
  try replace HBM := Lib.hid (hk.heap HBM.out (by simp))
  try replace HZ := Lib.hid (R.new_ HZ.out hk)
  try replace HBZ := Lib.hid (hk.heap HBZ.out (by simp))
  try replace HX := Lib.hid (R.new_ HX.out hk)
  clear hk
  generalize w9.heap.size = pb at *
  go_wp2_with fail
  refine (behind13_any R w10 (HG.out _ HK.out) (m := 1) (by decide) (by decide) mwQ_in HI.out (by decide)).mono ?_
  rw [mwQ_X]
  rintro e w11 ⟨st, rfl, hat, hk, -⟩
  clear HI
  replace HK := Lib.hid (HK.out.trans hk (FSub.refl _ _))
  try replace HF := Lib.hid (R.new_ HF.out hk)
  try replace HBF := Lib.hid (hk.heap HBF.out (by simp))
  try replace HD := Lib.hid (R.new_ HD.out hk)
  try replace HBD := Lib.hid (hk.heap HBD.out (by simp))
  try replace HB := Lib.hid (R.new_ HB.out hk)
  try replace HBB := Lib.hid (hk.heap HBB.out (by simp))
  try replace HQ := Lib.hid (R.new_ HQ.out hk)
  try replace HBQ := Lib.hid (hk.heap HBQ.out (by simp))
  try replace HR := Lib.hid (R.new_ HR.out hk)
  try replace HBR := Lib.hid (hk.heap HBR.out (by simp))
  try replace HM := Lib.hid (R.new_ HM.out hk)
  try replace HBM := Lib.hid (hk.heap HBM.out (by simp))
  try replace HZ := Lib.hid (R.new_ HZ.out hk)
  try replace HBZ := Lib.hid (hk.heap HBZ.out (by simp))
  try replace HX := Lib.hid (R.new_ HX.out hk)
  obtain ⟨AQ, rfl, hok⟩ := R.cells hat
  have HOQ := Lib.hid hok
  have HQ := Lib.hid hat
  clear hat hok hk
  have HNC := Lib.hid (show (w11.alloc (.cells mdZA 29)).heap[w11.heap.size]? = some (.cells mdZ.toArray 29 (0, 0)) from heap_alloc_new w11 _)
  have HNK := Lib.hid (show Keeps [] w11 (w11.alloc (.cells mdZA 29)) from (Keeps.refl _ _).alloc _)
  go_wp2_with ((with_reducible refine wpList_putM (g := w11.heap.size) (old := mdZ) (A := AQ) HOQ.out mdZ_ok ?_ ?_ HNC.out ?_); exact rfl; exact rfl)
  intro w12 hW hk2
  have hk := HNK.out.trans' hk2 (Nat.le_refl _)
  replace HK := Lib.hid (HK.out.trans hk (FSub.refl _ _))
  try replace HF := Lib.hid (R.new_ HF.out hk)
  try replace HBF := Lib.hid (hk.heap HBF.out (by simp))
  try replace HD := Lib.hid (R.new_ HD.out hk)
  try replace HBD := Lib.hid (hk.heap HBD.out (by simp))
  try replace HB := Lib.hid (R.new_ HB.out hk)
  try replace HBB := Lib.hid (hk.heap HBB.out (by simp))
  try replace HQ := Lib.hid (R.new_ HQ.out hk)
  try replace HBQ := Lib.hid (hk.heap HBQ.out (by simp))
  try replace HR := Lib.hid (R.new_ HR.out hk)
  try replace HBR := Lib.hid (hk.heap HBR.out (by simp))
  try replace HM := Lib.hid (R.new_ HM.out hk)
  try replace HBM := Lib.hid (hk.heap HBM.out (by simp))
  try replace HZ := Lib.hid (R.new_ HZ.out hk)
  try replace HBZ := Lib.hid (hk.heap HBZ.out (by simp))
  try replace HX := Lib.hid (R.new_ HX.out hk)
  have HBQ := Lib.hid hW
  clear hk hW hk2 HNC HNK
  generalize w11.heap.size = pQ at *
  go_wp2_with ((with_reducible refine wpList_loadM (g := pQ) (off := 0) HOQ.out ?_ ?_ (block_range HBQ.out) ?_); exact rfl; exact rfl)
  have h1 := R.step w12 _ (some (.qu [1, 2])) 0 ⟨1, 0, 0, 0, 0⟩ (HG.out _ HK.out) HQ.out (by decide) (by decide) (op0 1 (by decide))
  rw [show oX (some (.qu [1, 2])) 0 ⟨1, 0, 0, 0, 0⟩ = (some (.qu [1, 2]), ⟨0, 0⟩, 10) from rfl] at h1
  refine h1.mono ?_; rintro e w13 ⟨st, rfl, hat, hk, -⟩
  clear h1
  replace HK := Lib.hid (HK.out.trans hk (FSub.refl _ _))
  try replace HF := Lib.hid (R.new_ HF.out hk)
  try replace HBF := Lib.hid (hk.heap HBF.out (by simp))
  try replace HD := Lib.hid (R.new_ HD.out hk)
  try replace HBD := Lib.hid (hk.heap HBD.out (by simp))
  try replace HB := Lib.hid (R.new_ HB.out hk)
  try replace HBB := Lib.hid (hk.heap HBB.out (by simp))
  try replace HQ := Lib.hid (R.new_ HQ.out hk)
  try replace HBQ := Lib.hid (hk.heap HBQ.out (by simp))
  try replace HR := Lib.hid (R.new_ HR.out hk)
  try replace HBR := Lib.hid (hk.heap HBR.out (by simp))
  try replace HM := Lib.hid (R.new_ HM.out hk)
  try replace HBM := Lib.hid (hk.heap HBM.out (by simp))
  try replace HZ := Lib.hid (R.new_ HZ.out hk)
  try replace HBZ := Lib.hid (hk.heap HBZ.out (by simp))
  try replace HX := Lib.hid (R.new_ HX.out hk)
  obtain ⟨AX, rfl, hok⟩ := R.cells hat
  have HOX := Lib.hid hok
  clear hat hok hk
  obtain ⟨-, hA', hC', hk'⟩ := two_vars w13 mdZA #[.int .u8 0, .int .u16 0] 29 25
  have HNA := Lib.hid (hA'.trans (show some (Obj.cells _ _ _) = some (Obj.cells mdZ.toArray 29 (0, 0)) from rfl))
  have HNC := Lib.hid (hC'.trans (show some (Obj.cells _ _ _) = some (Obj.cells (ansC ⟨0, 0⟩).toArray 25 (0, 0)) from rfl))
  have HNK := Lib.hid hk'
  clear hA' hC' hk'
  go_wp2_with ((with_reducible refine wpList_putM (g := w13.heap.size) (old := mdZ) (A := AX) HOX.out mdZ_ok ?_ ?_ HNA.out ?_); exact rfl; exact rfl)
  intro vb hW hk2
  have HNC2 := Lib.hid (hk2.heap HNC.out (by simp))
  have HNK2 := Lib.hid (HNK.out.trans' hk2 (Nat.le_refl _))
  clear hW hk2 HNA HNC HNK
  go_wp2_with ((with_reducible refine wpList_putR12 (g := w13.heap.size + 1) (old := ⟨0, 0⟩) ⟨0, 0⟩ ?_ ?_ HNC2.out ?_); exact rfl; exact rfl)
  intro w14 hW hk2
  have hk := HNK2.out.trans' hk2 (Nat.le_succ _)
  replace HK := Lib.hid (HK.out.trans hk (FSub.refl _ _))
  try replace HF := Lib.hid (R.new_ HF.out hk)
  try replace HBF := Lib.hid (hk.heap HBF.out (by simp))
  try replace HD := Lib.hid (R.new_ HD.out hk)
  try replace HBD := Lib.hid (hk.heap HBD.out (by simp))
  try replace HB := Lib.hid (R.new_ HB.out hk)
  try replace HBB := Lib.hid (hk.heap HBB.out (by simp))
  try replace HQ := Lib.hid (R.new_ HQ.out hk)
  try replace HBQ := Lib.hid (hk.heap HBQ.out (by simp))
  try replace HR := Lib.hid (R.new_ HR.out hk)
  try replace HBR := Lib.hid (hk.heap HBR.out (by simp))
  try replace HM := Lib.hid (R.new_ HM.out hk)
  try replace HBM := Lib.hid (hk.heap HBM.out (by simp))
  try replace HZ := Lib.hid (R.new_ HZ.out hk)
  try replace HBZ := Lib.hid (hk.heap HBZ.out (by simp))
  try replace HX := Lib.hid (R.new_ HX.out hk)
  clear hk hW hk2 HNC2 HNK2 HOX
  generalize w13.heap.size = pS at *
  go_wp2_with ((with_reducible refine wpList_loadM (g := pQ) (off := 0) HOQ.out ?_ ?_ (block_range HBQ.out) ?_); exact rfl; exact rfl)
  have h1 := R.step w14 _ (some (.qu [1, 2])) 16 ⟨5, 0, 0, 0, 0⟩ (HG.out _ HK.out) HQ.out (by decide) (by decide) (op0 5 (by decide))
  rw [show oX (some (.qu [1, 2])) 16 ⟨5, 0, 0, 0, 0⟩ = (some (.qu [1, 2]), ⟨0, 0⟩, 2) from rfl] at h1
  refine h1.mono ?_; rintro e w15 ⟨st, rfl, hat, hk, -⟩
  clear h1
  replace HK := Lib.hid (HK.out.trans hk (FSub.refl _ _))
  try replace HF := Lib.hid (R.new_ HF.out hk)
  try replace HBF := Lib.hid (hk.heap HBF.out (by simp))
  try replace HD := Lib.hid (R.new_ HD.out hk)
  try replace HBD := Lib.hid (hk.heap HBD.out (by simp))
  try replace HB := Lib.hid (R.new_ HB.out hk)
  try replace HBB := Lib.hid (hk.heap HBB.out (by simp))
  try replace HQ := Lib.hid (R.new_ HQ.out hk)
  try replace HBQ := Lib.hid (hk.heap HBQ.out (by simp))
  try replace HR := Lib.hid (R.new_ HR.out hk)
  try replace HBR := Lib.hid (hk.heap HBR.out (by simp))
  try replace HM := Lib.hid (R.new_ HM.out hk)
  try replace HBM := Lib.hid (hk.heap HBM.out (by simp))
  try replace HZ := Lib.hid (R.new_ HZ.out hk)
  try replace HBZ := Lib.hid (hk.heap HBZ.out (by simp))
  try replace HX := Lib.hid (R.new_ HX.out hk)
  obtain ⟨AX, rfl, hok⟩ := R.cells hat
  have HOX := Lib.hid hok
  clear hat hok hk
  obtain ⟨-, hA', hC', hk'⟩ := two_vars w15 mdZA #[.int .u8 0, .int .u16 0] 29 25
  have HNA := Lib.hid (hA'.trans (show some (Obj.cells _ _ _) = some (Obj.cells mdZ.toArray 29 (0, 0)) from rfl))
  have HNC := Lib.hid (hC'.trans (show some (Obj.cells _ _ _) = some (Obj.cells (ansC ⟨0, 0⟩).toArray 25 (0, 0)) from rfl))
  have HNK := Lib.hid hk'
  clear hA' hC' hk'
  go_wp2_with ((with_reducible refine wpList_putM (g := w15.heap.size) (old := mdZ) (A := AX) HOX.out mdZ_ok ?_ ?_ HNA.out ?_); exact rfl; exact rfl)
  intro vb hW hk2
  have HNC2 := Lib.hid (hk2.heap HNC.out (by simp))
  have HNK2 := Lib.hid (HNK.out.trans' hk2 (Nat.le_refl _))
  clear hW hk2 HNA HNC HNK
  go_wp2_with ((with_reducible refine wpList_putR12 (g := w15.heap.size + 1) (old := ⟨0, 0⟩) ⟨0, 0⟩ ?_ ?_ HNC2.out ?_); exact rfl; exact rfl)
  intro w16 hW hk2
  have hk := HNK2.out.trans' hk2 (Nat.le_succ _)
  replace HK := Lib.hid (HK.out.trans hk (FSub.refl _ _))
  try replace HF := Lib.hid (R.new_ HF.out hk)
  try replace HBF := Lib.hid (hk.heap HBF.out (by simp))
  try replace HD := Lib.hid (R.new_ HD.out hk)
  try replace HBD := Lib.hid (hk.heap HBD.out (by simp))
  try replace HB := Lib.hid (R.new_ HB.out hk)
  try replace HBB := Lib.hid (hk.heap HBB.out (by simp))
  try replace HQ := Lib.hid (R.new_ HQ.out hk)
  try replace HBQ := Lib.hid (hk.heap HBQ.out (by simp))
  try replace HR := Lib.hid (R.new_ HR.out hk)
  try replace HBR := Lib.hid (hk.heap HBR.out (by simp))
  try replace HM := Lib.hid (R.new_ HM.out hk)
  try replace HBM := Lib.hid (hk.heap HBM.out (by simp))
  try replace HZ := Lib.hid (R.new_ HZ.out hk)
  try replace HBZ := Lib.hid (hk.heap HBZ.out (by simp))
  try replace HX := Lib.hid (R.new_ HX.out hk)
  clear hk hW hk2 HNC2 HNK2 HOX
  generalize w15.heap.size = pT at *
  go_wp2_with fail
  have h1 := R.new w16 4 (HG.out _ HK.out) (by decide)
  rw [if_neg (by decide), show oNew 4 = none from rfl] at h1
  refine h1.mono ?_; rintro e w17 ⟨st, rfl, hat, hk, -⟩
  clear h1
  replace HK := Lib.hid (HK.out.trans hk (FSub.refl _ _))
  try replace HF := Lib.hid (R.new_ HF.out hk)
  try replace HBF := Lib.hid (hk.heap HBF.out (by simp))
  try replace HD := Lib.hid (R.new_ HD.out hk)
  try replace HBD := Lib.hid (hk.heap HBD.out (by simp))
  try replace HB := Lib.hid (R.new_ HB.out hk)
  try replace HBB := Lib.hid (hk.heap HBB.out (by simp))
  try replace HQ := Lib.hid (R.new_ HQ.out hk)
  try replace HBQ := Lib.hid (hk.heap HBQ.out (by simp))
  try replace HR := Lib.hid (R.new_ HR.out hk)
  try replace HBR := Lib.hid (hk.heap HBR.out (by simp))
  try replace HM := Lib.hid (R.new_ HM.out hk)
  try replace HBM := Lib.hid (hk.heap HBM.out (by simp))
  try replace HZ := Lib.hid (R.new_ HZ.out hk)
  try replace HBZ := Lib.hid (hk.heap HBZ.out (by simp))
  try replace HX := Lib.hid (R.new_ HX.out hk)
  obtain ⟨AX, rfl, hok⟩ := R.cells hat
  have HOX := Lib.hid hok
  clear hat hok hk
  have HNC := Lib.hid (show (w17.alloc (.cells mdZA 29)).heap[w17.heap.size]? = some (.cells mdZ.toArray 29 (0, 0)) from heap_alloc_new w17 _)
  have HNK := Lib.hid (show Keeps [] w17 (w17.alloc (.cells mdZA 29)) from (Keeps.refl _ _).alloc _)
  go_wp2_with ((with_reducible refine wpList_putM (g := w17.heap.size) (old := mdZ) (A := AX) HOX.out mdZ_ok ?_ ?_ HNC.out ?_); exact rfl; exact rfl)
  intro w18 hW hk2
  have hk := HNK.out.trans' hk2 (Nat.le_refl _)
  replace HK := Lib.hid (HK.out.trans hk (FSub.refl _ _))
  try replace HF := Lib.hid (R.new_ HF.out hk)
  try replace HBF := Lib.hid (hk.heap HBF.out (by simp))
  try replace HD := Lib.hid (R.new_ HD.out hk)
  try replace HBD := Lib.hid (hk.heap HBD.out (by simp))
  try replace HB := Lib.hid (R.new_ HB.out hk)
  try replace HBB := Lib.hid (hk.heap HBB.out (by simp))
  try replace HQ := Lib.hid (R.new_ HQ.out hk)
  try replace HBQ := Lib.hid (hk.heap HBQ.out (by simp))
  try replace HR := Lib.hid (R.new_ HR.out hk)
  try replace HBR := Lib.hid (hk.heap HBR.out (by simp))
  try replace HM := Lib.hid (R.new_ HM.out hk)
  try replace HBM := Lib.hid (hk.heap HBM.out (by simp))
  try replace HZ := Lib.hid (R.new_ HZ.out hk)
  try replace HBZ := Lib.hid (hk.heap HBZ.out (by simp))
  try replace HX := Lib.hid (R.new_ HX.out hk)
  clear hk hW hk2 HNC HNK HOX
  generalize w17.heap.size = pU at *
  go_wp2_with fail
  refine (awake13_any R w18 (HG.out _ HK.out)).mono ?_; rintro e w19 ⟨rfl, hk⟩
  replace HK := Lib.hid (HK.out.trans hk (FSub.refl _ _))
  try replace HF := Lib.hid (R.new_ HF.out hk)
  try replace HBF := Lib.hid (hk.heap HBF.out (by simp))
  try replace HD := Lib.hid (R.new_ HD.out hk)
  try replace HBD := Lib.hid (hk.heap HBD.out (by simp))
  try replace HB := Lib.hid (R.new_ HB.out hk)
  try replace HBB := Lib.hid (hk.heap HBB.out (by simp))
  try replace HQ := Lib.hid (R.new_ HQ.out hk)
  try replace HBQ := Lib.hid (hk.heap HBQ.out (by simp))
  try replace HR := Lib.hid (R.new_ HR.out hk)
  try replace HBR := Lib.hid (hk.heap HBR.out (by simp))
  try replace HM := Lib.hid (R.new_ HM.out hk)
  try replace HBM := Lib.hid (hk.heap HBM.out (by simp))
  try replace HZ := Lib.hid (R.new_ HZ.out hk)
  try replace HBZ := Lib.hid (hk.heap HBZ.out (by simp))
  try replace HX := Lib.hid (R.new_ HX.out hk)
  clear hk
  go_wp2_with ((with_reducible refine wpList_loadM (g := pF) (off := 0) HOF.out ?_ ?_ (block_range HBF.out) ?_); exact rfl; exact rfl)
  have h1 := R.text _ _ (some (.lk 0)) (HG.out _ HK.out) HF.out (by decide)
  rw [show bs (oT (some (.lk 0))) = _ from mw_free] at h1
  refine h1.mono ?_; rintro e _ ⟨rfl, hk⟩
  clear h1
  replace HK := Lib.hid (HK.out.trans hk (FSub.refl _ _))
  try replace HF := Lib.hid (R.new_ HF.out hk)
  try replace HBF := Lib.hid (hk.heap HBF.out (by simp))
  try replace HD := Lib.hid (R.new_ HD.out hk)
  try replace HBD := Lib.hid (hk.heap HBD.out (by simp))
  try replace HB := Lib.hid (R.new_ HB.out hk)
  try replace HBB := Lib.hid (hk.heap HBB.out (by simp))
  try replace HQ := Lib.hid (R.new_ HQ.out hk)
  try replace HBQ := Lib.hid (hk.heap HBQ.out (by simp))
  try replace HR := Lib.hid (R.new_ HR.out hk)
  try replace HBR := Lib.hid (hk.heap HBR.out (by simp))
  try replace HM := Lib.hid (R.new_ HM.out hk)
  try replace HBM := Lib.hid (hk.heap HBM.out (by simp))
  try replace HZ := Lib.hid (R.new_ HZ.out hk)
  try replace HBZ := Lib.hid (hk.heap HBZ.out (by simp))
  try replace HX := Lib.hid (R.new_ HX.out hk)
  clear hk
  go_wp2_with ((with_reducible refine wpList_loadM (g := pF) (off := 0) HOF.out ?_ ?_ (block_range HBF.out) ?_); exact rfl; exact rfl)
  have h1 := R.initial _ _ (some (.lk 0)) (HG.out _ HK.out) HF.out (by decide)
  rw [show oInit (some (.lk 0)) = true from rfl] at h1
  refine h1.mono ?_; rintro e _ ⟨rfl, hk⟩
  clear h1
  replace HK := Lib.hid (HK.out.trans hk (FSub.refl _ _))
  try replace HF := Lib.hid (R.new_ HF.out hk)
  try replace HBF := Lib.hid (hk.heap HBF.out (by simp))
  try replace HD := Lib.hid (R.new_ HD.out hk)
  try replace HBD := Lib.hid (hk.heap HBD.out (by simp))
  try replace HB := Lib.hid (R.new_ HB.out hk)
  try replace HBB := Lib.hid (hk.heap HBB.out (by simp))
  try replace HQ := Lib.hid (R.new_ HQ.out hk)
  try replace HBQ := Lib.hid (hk.heap HBQ.out (by simp))
  try replace HR := Lib.hid (R.new_ HR.out hk)
  try replace HBR := Lib.hid (hk.heap HBR.out (by simp))
  try replace HM := Lib.hid (R.new_ HM.out hk)
  try replace HBM := Lib.hid (hk.heap HBM.out (by simp))
  try replace HZ := Lib.hid (R.new_ HZ.out hk)
  try replace HBZ := Lib.hid (hk.heap HBZ.out (by simp))
  try replace HX := Lib.hid (R.new_ HX.out hk)
  clear hk
  go_wp2_with (first
    | ((with_reducible refine wpList_loadM (g := pB) (off := 0) HOB.out ?_ ?_ (block_range HBB.out) ?_); exact rfl; exact rfl)
    | ((with_reducible refine wpList_loadM (g := pF) (off := 0) HOF.out ?_ ?_ (block_range HBF.out) ?_); exact rfl; exact rfl))
  have h1 := SM.same _ _ (some (.lk 0)) _ (some (.lk 0)) (HG.out _ HK.out) HB.out HF.out (by decide) (by decide)
  rw [show oSame (some (.lk 0)) (some (.lk 0)) = true from by decide] at h1
  refine h1.mono ?_; rintro e _ ⟨rfl, hk⟩
  clear h1
  replace HK := Lib.hid (HK.out.trans hk (FSub.refl _ _))
  try replace HF := Lib.hid (R.new_ HF.out hk)
  try replace HBF := Lib.hid (hk.heap HBF.out (by simp))
  try replace HD := Lib.hid (R.new_ HD.out hk)
  try replace HBD := Lib.hid (hk.heap HBD.out (by simp))
  try replace HB := Lib.hid (R.new_ HB.out hk)
  try replace HBB := Lib.hid (hk.heap HBB.out (by simp))
  try replace HQ := Lib.hid (R.new_ HQ.out hk)
  try replace HBQ := Lib.hid (hk.heap HBQ.out (by simp))
  try replace HR := Lib.hid (R.new_ HR.out hk)
  try replace HBR := Lib.hid (hk.heap HBR.out (by simp))
  try replace HM := Lib.hid (R.new_ HM.out hk)
  try replace HBM := Lib.hid (hk.heap HBM.out (by simp))
  try replace HZ := Lib.hid (R.new_ HZ.out hk)
  try replace HBZ := Lib.hid (hk.heap HBZ.out (by simp))
  try replace HX := Lib.hid (R.new_ HX.out hk)
  clear hk
  go_wp2_with (first
    | ((with_reducible refine wpList_loadM (g := pD) (off := 0) HOD.out ?_ ?_ (block_range HBD.out) ?_); exact rfl; exact rfl)
    | ((with_reducible refine wpList_loadM (g := pF) (off := 0) HOF.out ?_ ?_ (block_range HBF.out) ?_); exact rfl; exact rfl))
  have h1 := SM.same _ _ (some (.lk 4)) _ (some (.lk 0)) (HG.out _ HK.out) HD.out HF.out (by decide) (by decide)
  rw [show oSame (some (.lk 4)) (some (.lk 0)) = false from by decide] at h1
  refine h1.mono ?_; rintro e _ ⟨rfl, hk⟩
  clear h1
  replace HK := Lib.hid (HK.out.trans hk (FSub.refl _ _))
  try replace HF := Lib.hid (R.new_ HF.out hk)
  try replace HBF := Lib.hid (hk.heap HBF.out (by simp))
  try replace HD := Lib.hid (R.new_ HD.out hk)
  try replace HBD := Lib.hid (hk.heap HBD.out (by simp))
  try replace HB := Lib.hid (R.new_ HB.out hk)
  try replace HBB := Lib.hid (hk.heap HBB.out (by simp))
  try replace HQ := Lib.hid (R.new_ HQ.out hk)
  try replace HBQ := Lib.hid (hk.heap HBQ.out (by simp))
  try replace HR := Lib.hid (R.new_ HR.out hk)
  try replace HBR := Lib.hid (hk.heap HBR.out (by simp))
  try replace HM := Lib.hid (R.new_ HM.out hk)
  try replace HBM := Lib.hid (hk.heap HBM.out (by simp))
  try replace HZ := Lib.hid (R.new_ HZ.out hk)
  try replace HBZ := Lib.hid (hk.heap HBZ.out (by simp))
  try replace HX := Lib.hid (R.new_ HX.out hk)
  clear hk
  go_wp2_with ((with_reducible refine wpList_loadM (g := pQ) (off := 0) HOQ.out ?_ ?_ (block_range HBQ.out) ?_); exact rfl; exact rfl)
  have h1 := R.text _ _ (some (.qu [1, 2])) (HG.out _ HK.out) HQ.out (by decide)
  rw [show bs (oT (some (.qu [1, 2]))) = _ from mw_q] at h1
  refine h1.mono ?_; rintro e _ ⟨rfl, hk⟩
  clear h1
  replace HK := Lib.hid (HK.out.trans hk (FSub.refl _ _))
  try replace HF := Lib.hid (R.new_ HF.out hk)
  try replace HBF := Lib.hid (hk.heap HBF.out (by simp))
  try replace HD := Lib.hid (R.new_ HD.out hk)
  try replace HBD := Lib.hid (hk.heap HBD.out (by simp))
  try replace HB := Lib.hid (R.new_ HB.out hk)
  try replace HBB := Lib.hid (hk.heap HBB.out (by simp))
  try replace HQ := Lib.hid (R.new_ HQ.out hk)
  try replace HBQ := Lib.hid (hk.heap HBQ.out (by simp))
  try replace HR := Lib.hid (R.new_ HR.out hk)
  try replace HBR := Lib.hid (hk.heap HBR.out (by simp))
  try replace HM := Lib.hid (R.new_ HM.out hk)
  try replace HBM := Lib.hid (hk.heap HBM.out (by simp))
  try replace HZ := Lib.hid (R.new_ HZ.out hk)
  try replace HBZ := Lib.hid (hk.heap HBZ.out (by simp))
  try replace HX := Lib.hid (R.new_ HX.out hk)
  clear hk
  clear HB HBB HOB HD HBD HOD HQ HBQ HOQ
  go_wp2_with fail
  have h1 := DC.dec _ 0 [1, 2] (HG.out _ HK.out) (by decide) (by decide)
  rw [show mdD 0 [1, 2] = (some (.rg 258), 0) from rfl] at h1
  refine h1.mono ?_; rintro e w20 ⟨st, rfl, hat, hk, -⟩
  clear h1
  replace HK := Lib.hid (HK.out.trans hk (FSub.refl _ _))
  try replace HF := Lib.hid (R.new_ HF.out hk)
  try replace HBF := Lib.hid (hk.heap HBF.out (by simp))
  try replace HD := Lib.hid (R.new_ HD.out hk)
  try replace HBD := Lib.hid (hk.heap HBD.out (by simp))
  try replace HB := Lib.hid (R.new_ HB.out hk)
  try replace HBB := Lib.hid (hk.heap HBB.out (by simp))
  try replace HQ := Lib.hid (R.new_ HQ.out hk)
  try replace HBQ := Lib.hid (hk.heap HBQ.out (by simp))
  try replace HR := Lib.hid (R.new_ HR.out hk)
  try replace HBR := Lib.hid (hk.heap HBR.out (by simp))
  try replace HM := Lib.hid (R.new_ HM.out hk)
  try replace HBM := Lib.hid (hk.heap HBM.out (by simp))
  try replace HZ := Lib.hid (R.new_ HZ.out hk)
  try replace HBZ := Lib.hid (hk.heap HBZ.out (by simp))
  try replace HX := Lib.hid (R.new_ HX.out hk)
  obtain ⟨AR, rfl, hok⟩ := R.cells hat
  have HOR := Lib.hid hok
  have HR := Lib.hid hat
  clear hat hok hk
  have HNC := Lib.hid (show (w20.alloc (.cells mdZA 29)).heap[w20.heap.size]? = some (.cells mdZ.toArray 29 (0, 0)) from heap_alloc_new w20 _)
  have HNK := Lib.hid (show Keeps [] w20 (w20.alloc (.cells mdZA 29)) from (Keeps.refl _ _).alloc _)
  go_wp2_with ((with_reducible refine wpList_putM (g := w20.heap.size) (old := mdZ) (A := AR) HOR.out mdZ_ok ?_ ?_ HNC.out ?_); exact rfl; exact rfl)
  intro w21 hW hk2
  have hk := HNK.out.trans' hk2 (Nat.le_refl _)
  replace HK := Lib.hid (HK.out.trans hk (FSub.refl _ _))
  try replace HF := Lib.hid (R.new_ HF.out hk)
  try replace HBF := Lib.hid (hk.heap HBF.out (by simp))
  try replace HD := Lib.hid (R.new_ HD.out hk)
  try replace HBD := Lib.hid (hk.heap HBD.out (by simp))
  try replace HB := Lib.hid (R.new_ HB.out hk)
  try replace HBB := Lib.hid (hk.heap HBB.out (by simp))
  try replace HQ := Lib.hid (R.new_ HQ.out hk)
  try replace HBQ := Lib.hid (hk.heap HBQ.out (by simp))
  try replace HR := Lib.hid (R.new_ HR.out hk)
  try replace HBR := Lib.hid (hk.heap HBR.out (by simp))
  try replace HM := Lib.hid (R.new_ HM.out hk)
  try replace HBM := Lib.hid (hk.heap HBM.out (by simp))
  try replace HZ := Lib.hid (R.new_ HZ.out hk)
  try replace HBZ := Lib.hid (hk.heap HBZ.out (by simp))
  try replace HX := Lib.hid (R.new_ HX.out hk)
  have HBR := Lib.hid hW
  clear hk hW hk2 HNC HNK
  generalize w20.heap.size = pR at *
  go_wp2_with fail
  have h1 := DC.dec _ 0 [1] (HG.out _ HK.out) (by decide) (by decide)
  rw [show mdD 0 [1] = (none, 4) from rfl] at h1
  refine h1.mono ?_; rintro e w22 ⟨st, rfl, hat, hk, -⟩
  clear h1
  replace HK := Lib.hid (HK.out.trans hk (FSub.refl _ _))
  try replace HF := Lib.hid (R.new_ HF.out hk)
  try replace HBF := Lib.hid (hk.heap HBF.out (by simp))
  try replace HD := Lib.hid (R.new_ HD.out hk)
  try replace HBD := Lib.hid (hk.heap HBD.out (by simp))
  try replace HB := Lib.hid (R.new_ HB.out hk)
  try replace HBB := Lib.hid (hk.heap HBB.out (by simp))
  try replace HQ := Lib.hid (R.new_ HQ.out hk)
  try replace HBQ := Lib.hid (hk.heap HBQ.out (by simp))
  try replace HR := Lib.hid (R.new_ HR.out hk)
  try replace HBR := Lib.hid (hk.heap HBR.out (by simp))
  try replace HM := Lib.hid (R.new_ HM.out hk)
  try replace HBM := Lib.hid (hk.heap HBM.out (by simp))
  try replace HZ := Lib.hid (R.new_ HZ.out hk)
  try replace HBZ := Lib.hid (hk.heap HBZ.out (by simp))
  try replace HX := Lib.hid (R.new_ HX.out hk)
  obtain ⟨AX, rfl, hok⟩ := R.cells hat
  have HOX := Lib.hid hok
  clear hat hok hk
  have HNC := Lib.hid (show (w22.alloc (.cells mdZA 29)).heap[w22.heap.size]? = some (.cells mdZ.toArray 29 (0, 0)) from heap_alloc_new w22 _)
  have HNK := Lib.hid (show Keeps [] w22 (w22.alloc (.cells mdZA 29)) from (Keeps.refl _ _).alloc _)
  go_wp2_with ((with_reducible refine wpList_putM (g := w22.heap.size) (old := mdZ) (A := AX) HOX.out mdZ_ok ?_ ?_ HNC.out ?_); exact rfl; exact rfl)
  intro w23 hW hk2
  have hk := HNK.out.trans' hk2 (Nat.le_refl _)
  replace HK := Lib.hid (HK.out.trans hk (FSub.refl _ _))
  try replace HF := Lib.hid (R.new_ HF.out hk)
  try replace HBF := Lib.hid (hk.heap HBF.out (by simp))
  try replace HD := Lib.hid (R.new_ HD.out hk)
  try replace HBD := Lib.hid (hk.heap HBD.out (by simp))
  try replace HB := Lib.hid (R.new_ HB.out hk)
  try replace HBB := Lib.hid (hk.heap HBB.out (by simp))
  try replace HQ := Lib.hid (R.new_ HQ.out hk)
  try replace HBQ := Lib.hid (hk.heap HBQ.out (by simp))
  try replace HR := Lib.hid (R.new_ HR.out hk)
  try replace HBR := Lib.hid (hk.heap HBR.out (by simp))
  try replace HM := Lib.hid (R.new_ HM.out hk)
  try replace HBM := Lib.hid (hk.heap HBM.out (by simp))
  try replace HZ := Lib.hid (R.new_ HZ.out hk)
  try replace HBZ := Lib.hid (hk.heap HBZ.out (by simp))
  try replace HX := Lib.hid (R.new_ HX.out hk)
  clear hk hW hk2 HNC HNK HOX
  generalize w22.heap.size = pV at *
  go_wp2_with fail
  have h1 := DC.dec _ 9 [] (HG.out _ HK.out) (by decide) (by decide)
  rw [show mdD 9 [] = (none, 10) from rfl] at h1
  refine h1.mono ?_; rintro e w24 ⟨st, rfl, hat, hk, -⟩
  clear h1
  replace HK := Lib.hid (HK.out.trans hk (FSub.refl _ _))
  try replace HF := Lib.hid (R.new_ HF.out hk)
  try replace HBF := Lib.hid (hk.heap HBF.out (by simp))
  try replace HD := Lib.hid (R.new_ HD.out hk)
  try replace HBD := Lib.hid (hk.heap HBD.out (by simp))
  try replace HB := Lib.hid (R.new_ HB.out hk)
  try replace HBB := Lib.hid (hk.heap HBB.out (by simp))
  try replace HQ := Lib.hid (R.new_ HQ.out hk)
  try replace HBQ := Lib.hid (hk.heap HBQ.out (by simp))
  try replace HR := Lib.hid (R.new_ HR.out hk)
  try replace HBR := Lib.hid (hk.heap HBR.out (by simp))
  try replace HM := Lib.hid (R.new_ HM.out hk)
  try replace HBM := Lib.hid (hk.heap HBM.out (by simp))
  try replace HZ := Lib.hid (R.new_ HZ.out hk)
  try replace HBZ := Lib.hid (hk.heap HBZ.out (by simp))
  try replace HX := Lib.hid (R.new_ HX.out hk)
  obtain ⟨AX, rfl, hok⟩ := R.cells hat
  have HOX := Lib.hid hok
  clear hat hok hk
  have HNC := Lib.hid (show (w24.alloc (.cells mdZA 29)).heap[w24.heap.size]? = some (.cells mdZ.toArray 29 (0, 0)) from heap_alloc_new w24 _)
  have HNK := Lib.hid (show Keeps [] w24 (w24.alloc (.cells mdZA 29)) from (Keeps.refl _ _).alloc _)
  go_wp2_with ((with_reducible refine wpList_putM (g := w24.heap.size) (old := mdZ) (A := AX) HOX.out mdZ_ok ?_ ?_ HNC.out ?_); exact rfl; exact rfl)
  intro w25 hW hk2
  have hk := HNK.out.trans' hk2 (Nat.le_refl _)
  replace HK := Lib.hid (HK.out.trans hk (FSub.refl _ _))
  try replace HF := Lib.hid (R.new_ HF.out hk)
  try replace HBF := Lib.hid (hk.heap HBF.out (by simp))
  try replace HD := Lib.hid (R.new_ HD.out hk)
  try replace HBD := Lib.hid (hk.heap HBD.out (by simp))
  try replace HB := Lib.hid (R.new_ HB.out hk)
  try replace HBB := Lib.hid (hk.heap HBB.out (by simp))
  try replace HQ := Lib.hid (R.new_ HQ.out hk)
  try replace HBQ := Lib.hid (hk.heap HBQ.out (by simp))
  try replace HR := Lib.hid (R.new_ HR.out hk)
  try replace HBR := Lib.hid (hk.heap HBR.out (by simp))
  try replace HM := Lib.hid (R.new_ HM.out hk)
  try replace HBM := Lib.hid (hk.heap HBM.out (by simp))
  try replace HZ := Lib.hid (R.new_ HZ.out hk)
  try replace HBZ := Lib.hid (hk.heap HBZ.out (by simp))
  try replace HX := Lib.hid (R.new_ HX.out hk)
  clear hk hW hk2 HNC HNK HOX
  generalize w24.heap.size = pW at *
  go_wp2_with fail
  have h1 := DC.dec _ 1 [] (HG.out _ HK.out) (by decide) (by decide)
  rw [show mdD 1 [] = (some (.qu []), 0) from rfl] at h1
  refine h1.mono ?_; rintro e w26 ⟨st, rfl, hat, hk, -⟩
  clear h1
  replace HK := Lib.hid (HK.out.trans hk (FSub.refl _ _))
  try replace HF := Lib.hid (R.new_ HF.out hk)
  try replace HBF := Lib.hid (hk.heap HBF.out (by simp))
  try replace HD := Lib.hid (R.new_ HD.out hk)
  try replace HBD := Lib.hid (hk.heap HBD.out (by simp))
  try replace HB := Lib.hid (R.new_ HB.out hk)
  try replace HBB := Lib.hid (hk.heap HBB.out (by simp))
  try replace HQ := Lib.hid (R.new_ HQ.out hk)
  try replace HBQ := Lib.hid (hk.heap HBQ.out (by simp))
  try replace HR := Lib.hid (R.new_ HR.out hk)
  try replace HBR := Lib.hid (hk.heap HBR.out (by simp))
  try replace HM := Lib.hid (R.new_ HM.out hk)
  try replace HBM := Lib.hid (hk.heap HBM.out (by simp))
  try replace HZ := Lib.hid (R.new_ HZ.out hk)
  try replace HBZ := Lib.hid (hk.heap HBZ.out (by simp))
  try replace HX := Lib.hid (R.new_ HX.out hk)
  obtain ⟨AM, rfl, hok⟩ := R.cells hat
  have HOM := Lib.hid hok
  have HM := Lib.hid hat
  clear hat hok hk
  have HNC := Lib.hid (show (w26.alloc (.cells mdZA 29)).heap[w26.heap.size]? = some (.cells mdZ.toArray 29 (0, 0)) from heap_alloc_new w26 _)
  have HNK := Lib.hid (show Keeps [] w26 (w26.alloc (.cells mdZA 29)) from (Keeps.refl _ _).alloc _)
  go_wp2_with ((with_reducible refine wpList_putM (g := w26.heap.size) (old := mdZ) (A := AM) HOM.out mdZ_ok ?_ ?_ HNC.out ?_); exact rfl; exact rfl)
  intro w27 hW hk2
  have hk := HNK.out.trans' hk2 (Nat.le_refl _)
  replace HK := Lib.hid (HK.out.trans hk (FSub.refl _ _))
  try replace HF := Lib.hid (R.new_ HF.out hk)
  try replace HBF := Lib.hid (hk.heap HBF.out (by simp))
  try replace HD := Lib.hid (R.new_ HD.out hk)
  try replace HBD := Lib.hid (hk.heap HBD.out (by simp))
  try replace HB := Lib.hid (R.new_ HB.out hk)
  try replace HBB := Lib.hid (hk.heap HBB.out (by simp))
  try replace HQ := Lib.hid (R.new_ HQ.out hk)
  try replace HBQ := Lib.hid (hk.heap HBQ.out (by simp))
  try replace HR := Lib.hid (R.new_ HR.out hk)
  try replace HBR := Lib.hid (hk.heap HBR.out (by simp))
  try replace HM := Lib.hid (R.new_ HM.out hk)
  try replace HBM := Lib.hid (hk.heap HBM.out (by simp))
  try replace HZ := Lib.hid (R.new_ HZ.out hk)
  try replace HBZ := Lib.hid (hk.heap HBZ.out (by simp))
  try replace HX := Lib.hid (R.new_ HX.out hk)
  have HBM := Lib.hid hW
  clear hk hW hk2 HNC HNK
  generalize w26.heap.size = pM at *
  have HNC := Lib.hid (show (w27.alloc (.cells mdZA 29)).heap[w27.heap.size]? = some (.cells mdZ.toArray 29 (0, 0)) from heap_alloc_new w27 _)
  have HNK := Lib.hid (show Keeps [] w27 (w27.alloc (.cells mdZA 29)) from (Keeps.refl _ _).alloc _)
  go_wp2_with ((with_reducible refine wpList_putM (g := w27.heap.size) (old := mdZ) (A := mdZ) mdZ_ok mdZ_ok ?_ ?_ HNC.out ?_); exact rfl; exact rfl)
  intro w28 hW hk2
  have hk := HNK.out.trans' hk2 (Nat.le_refl _)
  replace HK := Lib.hid (HK.out.trans hk (FSub.refl _ _))
  try replace HF := Lib.hid (R.new_ HF.out hk)
  try replace HBF := Lib.hid (hk.heap HBF.out (by simp))
  try replace HD := Lib.hid (R.new_ HD.out hk)
  try replace HBD := Lib.hid (hk.heap HBD.out (by simp))
  try replace HB := Lib.hid (R.new_ HB.out hk)
  try replace HBB := Lib.hid (hk.heap HBB.out (by simp))
  try replace HQ := Lib.hid (R.new_ HQ.out hk)
  try replace HBQ := Lib.hid (hk.heap HBQ.out (by simp))
  try replace HR := Lib.hid (R.new_ HR.out hk)
  try replace HBR := Lib.hid (hk.heap HBR.out (by simp))
  try replace HM := Lib.hid (R.new_ HM.out hk)
  try replace HBM := Lib.hid (hk.heap HBM.out (by simp))
  try replace HZ := Lib.hid (R.new_ HZ.out hk)
  try replace HBZ := Lib.hid (hk.heap HBZ.out (by simp))
  try replace HX := Lib.hid (R.new_ HX.out hk)
  have HBZ := Lib.hid hW
  have HZ := Lib.hid (R.zero w28)
  have HOZ := Lib.hid mdZ_ok
  clear hk hW hk2 HNC HNK
  generalize w27.heap.size = pZ at *
  go_wp2_with ((with_reducible refine wpList_loadM (g := pZ) (off := 0) HOZ.out ?_ ?_ (block_range HBZ.out) ?_); exact rfl; exact rfl)
  have h1 := R.model w28 _ none (HG.out _ HK.out) HZ.out
  refine h1.mono ?_; rintro e w29 ⟨rfl, hk⟩
  clear h1
  rw [show oModel none = 0 from rfl, show (none : Option Md).isSome = false from rfl]
  replace HK := Lib.hid (HK.out.trans hk (FSub.refl _ _))
  try replace HF := Lib.hid (R.new_ HF.out hk)
  try replace HBF := Lib.hid (hk.heap HBF.out (by simp))
  try replace HD := Lib.hid (R.new_ HD.out hk)
  try replace HBD := Lib.hid (hk.heap HBD.out (by simp))
  try replace HB := Lib.hid (R.new_ HB.out hk)
  try replace HBB := Lib.hid (hk.heap HBB.out (by simp))
  try replace HQ := Lib.hid (R.new_ HQ.out hk)
  try replace HBQ := Lib.hid (hk.heap HBQ.out (by simp))
  try replace HR := Lib.hid (R.new_ HR.out hk)
  try replace HBR := Lib.hid (hk.heap HBR.out (by simp))
  try replace HM := Lib.hid (R.new_ HM.out hk)
  try replace HBM := Lib.hid (hk.heap HBM.out (by simp))
  try replace HZ := Lib.hid (R.new_ HZ.out hk)
  try replace HBZ := Lib.hid (hk.heap HBZ.out (by simp))
  try replace HX := Lib.hid (R.new_ HX.out hk)
  clear hk
  go_wp2_with ((with_reducible refine wpList_loadM (g := pZ) (off := 0) HOZ.out ?_ ?_ (block_range HBZ.out) ?_); exact rfl; exact rfl)
  have h1 := R.step w29 _ none 0 ⟨1, 0, 0, 0, 0⟩ (HG.out _ HK.out) HZ.out (by decide) (by decide) (op0 1 (by decide))
  rw [show oX none 0 ⟨1, 0, 0, 0, 0⟩ = (none, ⟨0, 0⟩, 1) from rfl] at h1
  refine h1.mono ?_; rintro e w30 ⟨st, rfl, hat, hk, -⟩
  clear h1
  replace HK := Lib.hid (HK.out.trans hk (FSub.refl _ _))
  try replace HF := Lib.hid (R.new_ HF.out hk)
  try replace HBF := Lib.hid (hk.heap HBF.out (by simp))
  try replace HD := Lib.hid (R.new_ HD.out hk)
  try replace HBD := Lib.hid (hk.heap HBD.out (by simp))
  try replace HB := Lib.hid (R.new_ HB.out hk)
  try replace HBB := Lib.hid (hk.heap HBB.out (by simp))
  try replace HQ := Lib.hid (R.new_ HQ.out hk)
  try replace HBQ := Lib.hid (hk.heap HBQ.out (by simp))
  try replace HR := Lib.hid (R.new_ HR.out hk)
  try replace HBR := Lib.hid (hk.heap HBR.out (by simp))
  try replace HM := Lib.hid (R.new_ HM.out hk)
  try replace HBM := Lib.hid (hk.heap HBM.out (by simp))
  try replace HZ := Lib.hid (R.new_ HZ.out hk)
  try replace HBZ := Lib.hid (hk.heap HBZ.out (by simp))
  try replace HX := Lib.hid (R.new_ HX.out hk)
  obtain ⟨AX, rfl, hok⟩ := R.cells hat
  have HOX := Lib.hid hok
  clear hat hok hk
  obtain ⟨-, hA', hC', hk'⟩ := two_vars w30 mdZA #[.int .u8 0, .int .u16 0] 29 25
  have HNA := Lib.hid (hA'.trans (show some (Obj.cells _ _ _) = some (Obj.cells mdZ.toArray 29 (0, 0)) from rfl))
  have HNC := Lib.hid (hC'.trans (show some (Obj.cells _ _ _) = some (Obj.cells (ansC ⟨0, 0⟩).toArray 25 (0, 0)) from rfl))
  have HNK := Lib.hid hk'
  clear hA' hC' hk'
  go_wp2_with ((with_reducible refine wpList_putM (g := w30.heap.size) (old := mdZ) (A := AX) HOX.out mdZ_ok ?_ ?_ HNA.out ?_); exact rfl; exact rfl)
  intro vb hW hk2
  have HNC2 := Lib.hid (hk2.heap HNC.out (by simp))
  have HNK2 := Lib.hid (HNK.out.trans' hk2 (Nat.le_refl _))
  clear hW hk2 HNA HNC HNK
  go_wp2_with ((with_reducible refine wpList_putR12 (g := w30.heap.size + 1) (old := ⟨0, 0⟩) ⟨0, 0⟩ ?_ ?_ HNC2.out ?_); exact rfl; exact rfl)
  intro w31 hW hk2
  have hk := HNK2.out.trans' hk2 (Nat.le_succ _)
  replace HK := Lib.hid (HK.out.trans hk (FSub.refl _ _))
  try replace HF := Lib.hid (R.new_ HF.out hk)
  try replace HBF := Lib.hid (hk.heap HBF.out (by simp))
  try replace HD := Lib.hid (R.new_ HD.out hk)
  try replace HBD := Lib.hid (hk.heap HBD.out (by simp))
  try replace HB := Lib.hid (R.new_ HB.out hk)
  try replace HBB := Lib.hid (hk.heap HBB.out (by simp))
  try replace HQ := Lib.hid (R.new_ HQ.out hk)
  try replace HBQ := Lib.hid (hk.heap HBQ.out (by simp))
  try replace HR := Lib.hid (R.new_ HR.out hk)
  try replace HBR := Lib.hid (hk.heap HBR.out (by simp))
  try replace HM := Lib.hid (R.new_ HM.out hk)
  try replace HBM := Lib.hid (hk.heap HBM.out (by simp))
  try replace HZ := Lib.hid (R.new_ HZ.out hk)
  try replace HBZ := Lib.hid (hk.heap HBZ.out (by simp))
  try replace HX := Lib.hid (R.new_ HX.out hk)
  clear hk hW hk2 HNC2 HNK2 HOX
  generalize w30.heap.size = pY at *
  refine wpList_assignE (.tmp 164) rfl ?_
  simp only [Act.put, Act.eval, List.setIfInBounds_toArray, List.set_cons_zero, List.set_cons_succ]
  (first | go_values | go_skip | go_guarded | go_step | go_upon)
  (first | go_values | go_skip | go_guarded | go_step | go_upon)
  (first | go_values | go_skip | go_guarded | go_step | go_upon)
  (first | go_values | go_skip | go_guarded | go_step | go_upon)
  simp only [List.append_eq, List.cons_append, List.nil_append]
  refine wp_region_lit ?_
  refine wpList_loadM (g := pR) (off := 0) HOR.out ?_ ?_ (block_range HBR.out) ?_
  · exact rfl
  · exact rfl
  simp only [Act.put, List.setIfInBounds_toArray, List.set_cons_zero, List.set_cons_succ]
  go_wp2_with fail
  have h1 := R.text _ _ (some (.rg 258)) (HG.out _ HK.out) HR.out (by decide)
  rw [show bs (oT (some (.rg 258))) = _ from mw_258] at h1
  refine h1.mono ?_; rintro e _ ⟨rfl, hk⟩
  clear h1
  replace HK := Lib.hid (HK.out.trans hk (FSub.refl _ _))
  try replace HF := Lib.hid (R.new_ HF.out hk)
  try replace HBF := Lib.hid (hk.heap HBF.out (by simp))
  try replace HD := Lib.hid (R.new_ HD.out hk)
  try replace HBD := Lib.hid (hk.heap HBD.out (by simp))
  try replace HB := Lib.hid (R.new_ HB.out hk)
  try replace HBB := Lib.hid (hk.heap HBB.out (by simp))
  try replace HQ := Lib.hid (R.new_ HQ.out hk)
  try replace HBQ := Lib.hid (hk.heap HBQ.out (by simp))
  try replace HR := Lib.hid (R.new_ HR.out hk)
  try replace HBR := Lib.hid (hk.heap HBR.out (by simp))
  try replace HM := Lib.hid (R.new_ HM.out hk)
  try replace HBM := Lib.hid (hk.heap HBM.out (by simp))
  try replace HZ := Lib.hid (R.new_ HZ.out hk)
  try replace HBZ := Lib.hid (hk.heap HBZ.out (by simp))
  try replace HX := Lib.hid (R.new_ HX.out hk)
  clear hk
  go_wp2_with ((with_reducible refine wpList_loadM (g := pM) (off := 0) HOM.out ?_ ?_ (block_range HBM.out) ?_); exact rfl; exact rfl)
  have h1 := R.text _ _ (some (.qu [])) (HG.out _ HK.out) HM.out (by decide)
  rw [show bs (oT (some (.qu []))) = _ from mw_none] at h1
  refine h1.mono ?_; rintro e _ ⟨rfl, hk⟩
  clear h1
  replace HK := Lib.hid (HK.out.trans hk (FSub.refl _ _))
  try replace HF := Lib.hid (R.new_ HF.out hk)
  try replace HBF := Lib.hid (hk.heap HBF.out (by simp))
  try replace HD := Lib.hid (R.new_ HD.out hk)
  try replace HBD := Lib.hid (hk.heap HBD.out (by simp))
  try replace HB := Lib.hid (R.new_ HB.out hk)
  try replace HBB := Lib.hid (hk.heap HBB.out (by simp))
  try replace HQ := Lib.hid (R.new_ HQ.out hk)
  try replace HBQ := Lib.hid (hk.heap HBQ.out (by simp))
  try replace HR := Lib.hid (R.new_ HR.out hk)
  try replace HBR := Lib.hid (hk.heap HBR.out (by simp))
  try replace HM := Lib.hid (R.new_ HM.out hk)
  try replace HBM := Lib.hid (hk.heap HBM.out (by simp))
  try replace HZ := Lib.hid (R.new_ HZ.out hk)
  try replace HBZ := Lib.hid (hk.heap HBZ.out (by simp))
  try replace HX := Lib.hid (R.new_ HX.out hk)
  clear hk
  go_wp2_with fail
  have h1 := IM.idle _ 2 6 (HG.out _ HK.out) (by decide) (by decide)
  rw [show mdIdle 2 6 = true from by decide] at h1
  refine h1.mono ?_; rintro e _ ⟨rfl, hk⟩
  clear h1
  replace HK := Lib.hid (HK.out.trans hk (FSub.refl _ _))
  try replace HF := Lib.hid (R.new_ HF.out hk)
  try replace HBF := Lib.hid (hk.heap HBF.out (by simp))
  try replace HD := Lib.hid (R.new_ HD.out hk)
  try replace HBD := Lib.hid (hk.heap HBD.out (by simp))
  try replace HB := Lib.hid (R.new_ HB.out hk)
  try replace HBB := Lib.hid (hk.heap HBB.out (by simp))
  try replace HQ := Lib.hid (R.new_ HQ.out hk)
  try replace HBQ := Lib.hid (hk.heap HBQ.out (by simp))
  try replace HR := Lib.hid (R.new_ HR.out hk)
  try replace HBR := Lib.hid (hk.heap HBR.out (by simp))
  try replace HM := Lib.hid (R.new_ HM.out hk)
  try replace HBM := Lib.hid (hk.heap HBM.out (by simp))
  try replace HZ := Lib.hid (R.new_ HZ.out hk)
  try replace HBZ := Lib.hid (hk.heap HBZ.out (by simp))
  try replace HX := Lib.hid (R.new_ HX.out hk)
  clear hk
  go_wp2_with fail
  have h1 := IM.idle _ 0 6 (HG.out _ HK.out) (by decide) (by decide)
  rw [show mdIdle 0 6 = false from by decide] at h1
  refine h1.mono ?_; rintro e _ ⟨rfl, hk⟩
  clear h1
  replace HK := Lib.hid (HK.out.trans hk (FSub.refl _ _))
  try replace HF := Lib.hid (R.new_ HF.out hk)
  try replace HBF := Lib.hid (hk.heap HBF.out (by simp))
  try replace HD := Lib.hid (R.new_ HD.out hk)
  try replace HBD := Lib.hid (hk.heap HBD.out (by simp))
  try replace HB := Lib.hid (R.new_ HB.out hk)
  try replace HBB := Lib.hid (hk.heap HBB.out (by simp))
  try replace HQ := Lib.hid (R.new_ HQ.out hk)
  try replace HBQ := Lib.hid (hk.heap HBQ.out (by simp))
  try replace HR := Lib.hid (R.new_ HR.out hk)
  try replace HBR := Lib.hid (hk.heap HBR.out (by simp))
  try replace HM := Lib.hid (R.new_ HM.out hk)
  try replace HBM := Lib.hid (hk.heap HBM.out (by simp))
  try replace HZ := Lib.hid (R.new_ HZ.out hk)
  try replace HBZ := Lib.hid (hk.heap HBZ.out (by simp))
  try replace HX := Lib.hid (R.new_ HX.out hk)
  clear hk
  go_wp2_with fail
  have h1 := IM.idle _ 1 5 (HG.out _ HK.out) (by decide) (by decide)
  rw [show mdIdle 1 5 = false from by decide] at h1
  refine h1.mono ?_; rintro e _ ⟨rfl, hk⟩
  clear h1
  replace HK := Lib.hid (HK.out.trans hk (FSub.refl _ _))
  try replace HF := Lib.hid (R.new_ HF.out hk)
  try replace HBF := Lib.hid (hk.heap HBF.out (by simp))
  try replace HD := Lib.hid (R.new_ HD.out hk)
  try replace HBD := Lib.hid (hk.heap HBD.out (by simp))
  try replace HB := Lib.hid (R.new_ HB.out hk)
  try replace HBB := Lib.hid (hk.heap HBB.out (by simp))
  try replace HQ := Lib.hid (R.new_ HQ.out hk)
  try replace HBQ := Lib.hid (hk.heap HBQ.out (by simp))
  try replace HR := Lib.hid (R.new_ HR.out hk)
  try replace HBR := Lib.hid (hk.heap HBR.out (by simp))
  try replace HM := Lib.hid (R.new_ HM.out hk)
  try replace HBM := Lib.hid (hk.heap HBM.out (by simp))
  try replace HZ := Lib.hid (R.new_ HZ.out hk)
  try replace HBZ := Lib.hid (hk.heap HBZ.out (by simp))
  try replace HX := Lib.hid (R.new_ HX.out hk)
  clear hk
  go_wp2_with fail
  have h1 := IM.idle _ 9 1 (HG.out _ HK.out) (by decide) (by decide)
  rw [show mdIdle 9 1 = false from by decide] at h1
  refine h1.mono ?_; rintro e _ ⟨rfl, hk⟩
  clear h1
  replace HK := Lib.hid (HK.out.trans hk (FSub.refl _ _))
  try replace HF := Lib.hid (R.new_ HF.out hk)
  try replace HBF := Lib.hid (hk.heap HBF.out (by simp))
  try replace HD := Lib.hid (R.new_ HD.out hk)
  try replace HBD := Lib.hid (hk.heap HBD.out (by simp))
  try replace HB := Lib.hid (R.new_ HB.out hk)
  try replace HBB := Lib.hid (hk.heap HBB.out (by simp))
  try replace HQ := Lib.hid (R.new_ HQ.out hk)
  try replace HBQ := Lib.hid (hk.heap HBQ.out (by simp))
  try replace HR := Lib.hid (R.new_ HR.out hk)
  try replace HBR := Lib.hid (hk.heap HBR.out (by simp))
  try replace HM := Lib.hid (R.new_ HM.out hk)
  try replace HBM := Lib.hid (hk.heap HBM.out (by simp))
  try replace HZ := Lib.hid (R.new_ HZ.out hk)
  try replace HBZ := Lib.hid (hk.heap HBZ.out (by simp))
  try replace HX := Lib.hid (R.new_ HX.out hk)
  clear hk
  go_wp2_with ((with_reducible refine wpList_loadM (g := pZ) (off := 0) HOZ.out ?_ ?_ (block_range HBZ.out) ?_); exact rfl; exact rfl)
  have h1 := R.enc _ _ none (HG.out _ HK.out) HZ.out (by decide)
  rw [show bs (oB none) = { data := #[] } from rfl] at h1
  refine h1.mono ?_; rintro e _ ⟨rfl, hk⟩
  clear h1
  replace HK := Lib.hid (HK.out.trans hk (FSub.refl _ _))
  try replace HF := Lib.hid (R.new_ HF.out hk)
  try replace HBF := Lib.hid (hk.heap HBF.out (by simp))
  try replace HD := Lib.hid (R.new_ HD.out hk)
  try replace HBD := Lib.hid (hk.heap HBD.out (by simp))
  try replace HB := Lib.hid (R.new_ HB.out hk)
  try replace HBB := Lib.hid (hk.heap HBB.out (by simp))
  try replace HQ := Lib.hid (R.new_ HQ.out hk)
  try replace HBQ := Lib.hid (hk.heap HBQ.out (by simp))
  try replace HR := Lib.hid (R.new_ HR.out hk)
  try replace HBR := Lib.hid (hk.heap HBR.out (by simp))
  try replace HM := Lib.hid (R.new_ HM.out hk)
  try replace HBM := Lib.hid (hk.heap HBM.out (by simp))
  try replace HZ := Lib.hid (R.new_ HZ.out hk)
  try replace HBZ := Lib.hid (hk.heap HBZ.out (by simp))
  try replace HX := Lib.hid (R.new_ HX.out hk)
  clear hk
  go_wp2_with ((with_reducible refine wpList_loadM (g := pZ) (off := 0) HOZ.out ?_ ?_ (block_range HBZ.out) ?_); exact rfl; exact rfl)
  have h1 := R.text _ _ none (HG.out _ HK.out) HZ.out (by decide)
  rw [show bs (oT none) = { data := #[] } from rfl] at h1
  refine h1.mono ?_; rintro e _ ⟨rfl, hk⟩
  clear h1
  replace HK := Lib.hid (HK.out.trans hk (FSub.refl _ _))
  try replace HF := Lib.hid (R.new_ HF.out hk)
  try replace HBF := Lib.hid (hk.heap HBF.out (by simp))
  try replace HD := Lib.hid (R.new_ HD.out hk)
  try replace HBD := Lib.hid (hk.heap HBD.out (by simp))
  try replace HB := Lib.hid (R.new_ HB.out hk)
  try replace HBB := Lib.hid (hk.heap HBB.out (by simp))
  try replace HQ := Lib.hid (R.new_ HQ.out hk)
  try replace HBQ := Lib.hid (hk.heap HBQ.out (by simp))
  try replace HR := Lib.hid (R.new_ HR.out hk)
  try replace HBR := Lib.hid (hk.heap HBR.out (by simp))
  try replace HM := Lib.hid (R.new_ HM.out hk)
  try replace HBM := Lib.hid (hk.heap HBM.out (by simp))
  try replace HZ := Lib.hid (R.new_ HZ.out hk)
  try replace HBZ := Lib.hid (hk.heap HBZ.out (by simp))
  try replace HX := Lib.hid (R.new_ HX.out hk)
  clear hk
  go_wp2_with ((with_reducible refine wpList_loadM (g := pZ) (off := 0) HOZ.out ?_ ?_ (block_range HBZ.out) ?_); exact rfl; exact rfl)
  have h1 := R.initial _ _ none (HG.out _ HK.out) HZ.out (by decide)
  rw [show oInit none = false from rfl] at h1
  refine h1.mono ?_; rintro e _ ⟨rfl, hk⟩
  clear h1
  replace HK := Lib.hid (HK.out.trans hk (FSub.refl _ _))
  try replace HF := Lib.hid (R.new_ HF.out hk)
  try replace HBF := Lib.hid (hk.heap HBF.out (by simp))
  try replace HD := Lib.hid (R.new_ HD.out hk)
  try replace HBD := Lib.hid (hk.heap HBD.out (by simp))
  try replace HB := Lib.hid (R.new_ HB.out hk)
  try replace HBB := Lib.hid (hk.heap HBB.out (by simp))
  try replace HQ := Lib.hid (R.new_ HQ.out hk)
  try replace HBQ := Lib.hid (hk.heap HBQ.out (by simp))
  try replace HR := Lib.hid (R.new_ HR.out hk)
  try replace HBR := Lib.hid (hk.heap HBR.out (by simp))
  try replace HM := Lib.hid (R.new_ HM.out hk)
  try replace HBM := Lib.hid (hk.heap HBM.out (by simp))
  try replace HZ := Lib.hid (R.new_ HZ.out hk)
  try replace HBZ := Lib.hid (hk.heap HBZ.out (by simp))
  try replace HX := Lib.hid (R.new_ HX.out hk)
  clear hk
  go_wp2_with ((with_reducible refine wpList_loadM (g := pZ) (off := 0) HOZ.out ?_ ?_ (block_range HBZ.out) ?_); exact rfl; exact rfl)
  have h1 := SM.same _ _ none _ none (HG.out _ HK.out) HZ.out HZ.out (by decide) (by decide)
  rw [show oSame none none = true from rfl] at h1
  refine h1.mono ?_; rintro e _ ⟨rfl, hk⟩
  clear h1
  replace HK := Lib.hid (HK.out.trans hk (FSub.refl _ _))
  try replace HF := Lib.hid (R.new_ HF.out hk)
  try replace HBF := Lib.hid (hk.heap HBF.out (by simp))
  try replace HD := Lib.hid (R.new_ HD.out hk)
  try replace HBD := Lib.hid (hk.heap HBD.out (by simp))
  try replace HB := Lib.hid (R.new_ HB.out hk)
  try replace HBB := Lib.hid (hk.heap HBB.out (by simp))
  try replace HQ := Lib.hid (R.new_ HQ.out hk)
  try replace HBQ := Lib.hid (hk.heap HBQ.out (by simp))
  try replace HR := Lib.hid (R.new_ HR.out hk)
  try replace HBR := Lib.hid (hk.heap HBR.out (by simp))
  try replace HM := Lib.hid (R.new_ HM.out hk)
  try replace HBM := Lib.hid (hk.heap HBM.out (by simp))
  try replace HZ := Lib.hid (R.new_ HZ.out hk)
  try replace HBZ := Lib.hid (hk.heap HBZ.out (by simp))
  try replace HX := Lib.hid (R.new_ HX.out hk)
  clear hk
  go_wp2_with (first
    | ((with_reducible refine wpList_loadM (g := pZ) (off := 0) HOZ.out ?_ ?_ (block_range HBZ.out) ?_); exact rfl; exact rfl)
    | ((with_reducible refine wpList_loadM (g := pF) (off := 0) HOF.out ?_ ?_ (block_range HBF.out) ?_); exact rfl; exact rfl))
  have h1 := SM.same _ _ none _ (some (.lk 0)) (HG.out _ HK.out) HZ.out HF.out (by decide) (by decide)
  rw [show oSame none (some (.lk 0)) = false from rfl] at h1
  refine h1.mono ?_; rintro e _ ⟨rfl, hk⟩
  clear h1
  replace HK := Lib.hid (HK.out.trans hk (FSub.refl _ _))
  try replace HF := Lib.hid (R.new_ HF.out hk)
  try replace HBF := Lib.hid (hk.heap HBF.out (by simp))
  try replace HD := Lib.hid (R.new_ HD.out hk)
  try replace HBD := Lib.hid (hk.heap HBD.out (by simp))
  try replace HB := Lib.hid (R.new_ HB.out hk)
  try replace HBB := Lib.hid (hk.heap HBB.out (by simp))
  try replace HQ := Lib.hid (R.new_ HQ.out hk)
  try replace HBQ := Lib.hid (hk.heap HBQ.out (by simp))
  try replace HR := Lib.hid (R.new_ HR.out hk)
  try replace HBR := Lib.hid (hk.heap HBR.out (by simp))
  try replace HM := Lib.hid (R.new_ HM.out hk)
  try replace HBM := Lib.hid (hk.heap HBM.out (by simp))
  try replace HZ := Lib.hid (R.new_ HZ.out hk)
  try replace HBZ := Lib.hid (hk.heap HBZ.out (by simp))
  try replace HX := Lib.hid (R.new_ HX.out hk)
  clear hk
  go_wp2_with fail
  refine (awake13_any R _ (HG.out _ HK.out)).mono ?_; rintro e w99 ⟨rfl, hk⟩
  go_wp2_with fail
  go_ret
  exact ⟨rfl, HK.out.trans hk (FSub.refl _ _)⟩
end Go.Proofs.YtdachaekcjbfmaaGreatDoor
