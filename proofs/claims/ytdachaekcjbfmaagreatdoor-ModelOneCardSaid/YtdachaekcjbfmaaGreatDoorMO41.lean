/-
  What a step of an object answers is one of its operation's answers; an idle operation; another client. No program.
-/
import Derived.Test.YtdachaekcjbfmaaGreatDoorMO36
import Derived.Test.YtdachaekcjbfmaaGreatDoorMO40
import Derived.Test.YtdachaekcjbfmaaGreatDoorMO28
set_option linter.unusedSimpArgs false
set_option linter.unusedVariables false
namespace Go.Proofs.YtdachaekcjbfmaaGreatDoor
open Go.RowKit
theorem mdX_idle {S : Md} (c : Int) {x : Opn} (h : mdIdle S.model x.f = true) : (mdX S c x).1 = S := by
  simp only [mdIdle, decide_eq_true_eq] at h
  unfold mdX
  split
  · rfl
  · split
    · cases S with
      | rg s =>
        have hf : x.f = 1 := by simp only [Md.model] at h; omega
        show Md.rg (rgX s x).1 = _
        simp [rgX, hf]
      | qu l => simp only [Md.model] at h; omega
      | mp m =>
        have hf : x.f = 6 := by simp only [Md.model] at h; omega
        show Md.mp (ksX m x).1 = _
        by_cases h7 : 7 < x.k
        · simp [ksX, hf, h7]
        · cases hq : m.getD x.k.toNat none <;> simp only [ksX, hf, h7, hq] <;> simp
      | lk s => simp only [Md.model] at h; omega
    · rfl
theorem mdX_client {S : Md} {c c2 : Int} {x : Opn} (h3 : S.model ≠ 3) (hc : c ≤ 15) (h2 : c2 ≤ 15) : mdX S c2 x = mdX S c x := by
  unfold mdX
  rw [if_neg (show ¬ 15 < c2 by omega), if_neg (show ¬ 15 < c by omega)]
  cases S with
  | lk s => exact absurd rfl h3
  | _ => rfl
theorem mdX_may {S : Md} (hS : S.In) {c : Int} {x : Opn} (h : (mdX S c x).2.2 = 0) : mayOf x.f (mdX S c x).2.1.k (mdX S c x).2.1.v = 0 := by
  obtain ⟨hc, ho, e⟩ := mdX_ok h
  rw [e]
  have hg : opGood x = true ∧ opM x.f = S.model := by
    unfold opChk at ho
    split at ho
    · rename_i hh; simpa using hh
    · cases ho
  have is := is_cases ((good_iff x).1 hg.1).is
  have hm := hg.2
  clear e h hg
  cases S with
  | rg s =>
    show mayOf x.f (rgX s x).2.1.k (rgX s x).2.1.v = 0
    simp only [Md.model] at hm
    rcases is with h | h | h | h | h | h | h | h | h | h | h <;> simp only [opM, h] at hm <;> (try (exfalso; revert hm; decide)) <;> simp only [rgX, h] <;> simp [mayOf, rsGood, kindsL]
    split <;> simp
  | qu l =>
    show mayOf x.f (quX l x).2.1.k (quX l x).2.1.v = 0
    simp only [Md.model] at hm
    have ho1 : opChk 1 x = 0 := ho
    rcases is with h | h | h | h | h | h | h | h | h | h | h <;> simp only [opM, h] at hm <;> (try (exfalso; revert hm; decide)) <;> simp only [quX, ho1, h] <;> (try (cases l)) <;> simp [mayOf, rsGood, kindsL]
  | mp m =>
    show mayOf x.f (ksX m x).2.1.k (ksX m x).2.1.v = 0
    simp only [Md.model] at hm
    have hk := ((good_iff x).1 (by
      have ho1 : opChk 2 x = 0 := ho
      unfold opChk at ho1
      split at ho1
      · rename_i hh; simp at hh; exact hh.1
      · cases ho1)).k
    have hk7 : ¬ 7 < x.k := by omega
    rcases is with h | h | h | h | h | h | h | h | h | h | h <;> simp only [opM, h] at hm <;> (try (exfalso; revert hm; decide)) <;> simp only [ksX, h, hk7] <;> (try (cases m.getD x.k.toNat none)) <;> (try simp [mayOf, rsGood, kindsL])
    all_goals (repeat' split) <;> simp_all
  | lk s =>
    show mayOf x.f (lkX s c x).2.1.k (lkX s c x).2.1.v = 0
    have ho1 : opChk 3 x = 0 := ho
    have hs : s ≤ 16 := hS.2
    rcases lkX_ways s c x with ⟨h, -⟩ | ⟨-, h, -⟩ | ⟨-, -, -, hf, -, h⟩ | ⟨-, -, -, hf, -, h⟩ | ⟨-, -, -, hf, -, h⟩ | ⟨-, -, -, hf, -, h⟩
    · omega
    · omega
    all_goals rw [h, hf]; simp [mayOf, rsGood, kindsL]
/-- An answer is within its kinds' bounds. -/
theorem mdX_ans {S : Md} (hS : S.In) (c : Int) (x : Opn) : (0 ≤ (mdX S c x).2.1.k ∧ (mdX S c x).2.1.k < 256) ∧ (0 ≤ (mdX S c x).2.1.v ∧ (mdX S c x).2.1.v < 65536) := by
  unfold mdX
  split
  · exact ⟨⟨by simp, by simp⟩, by simp, by simp⟩
  · split
    · cases S with
      | rg s =>
        have h : 0 ≤ s ∧ s < 65536 := hS
        show (0 ≤ (rgX s x).2.1.k ∧ (rgX s x).2.1.k < 256) ∧ (0 ≤ (rgX s x).2.1.v ∧ (rgX s x).2.1.v < 65536)
        unfold rgX
        repeat' split
        all_goals exact ⟨⟨by simp, by simp⟩, by first | exact h | exact ⟨by simp, by simp⟩⟩
      | qu l =>
        have h : U16s l := hS
        show (0 ≤ (quX l x).2.1.k ∧ (quX l x).2.1.k < 256) ∧ (0 ≤ (quX l x).2.1.v ∧ (quX l x).2.1.v < 65536)
        unfold quX
        split
        · split
          · exact ⟨⟨by simp, by simp⟩, by simp, by simp⟩
          · cases l with
            | nil => exact ⟨⟨by simp, by simp⟩, by simp, by simp⟩
            | cons v r => exact ⟨⟨by simp, by simp⟩, h v (by simp)⟩
        · exact ⟨⟨by simp, by simp⟩, by simp, by simp⟩
      | mp m =>
        have h : KvIn m := hS
        show (0 ≤ (ksX m x).2.1.k ∧ (ksX m x).2.1.k < 256) ∧ (0 ≤ (ksX m x).2.1.v ∧ (ksX m x).2.1.v < 65536)
        unfold ksX
        split
        · exact ⟨⟨by simp, by simp⟩, by simp, by simp⟩
        · split
          · exact ⟨⟨by simp, by simp⟩, by simp, by simp⟩
          · cases hq : m.getD x.k.toNat none with
            | none => simp only; split <;> exact ⟨⟨by simp, by simp⟩, by simp, by simp⟩
            | some v =>
              simp only
              repeat' split
              all_goals exact ⟨⟨by simp, by simp⟩, by first | exact h.get hq | exact ⟨by simp, by simp⟩⟩
      | lk s =>
        show (0 ≤ (lkX s c x).2.1.k ∧ (lkX s c x).2.1.k < 256) ∧ (0 ≤ (lkX s c x).2.1.v ∧ (lkX s c x).2.1.v < 65536)
        unfold lkX
        repeat' split
        all_goals exact ⟨⟨by simp, by simp⟩, by simp, by simp⟩
    · exact ⟨⟨by simp, by simp⟩, by simp, by simp⟩
end Go.Proofs.YtdachaekcjbfmaaGreatDoor
/-
  The law ModelEach, over any program's objects.
-/
namespace Go.Proofs.YtdachaekcjbfmaaGreatDoor
open Go.RowKit
set_option maxRecDepth 100000
set_option maxHeartbeats 8000000
/-- A call of client 0. -/
def one13 (f a : Int) : Cl := ⟨0, ⟨f, 0, 0, a, 0⟩⟩
theorem one13_in {f a : Int} (hf : 0 ≤ f ∧ f < 256) (ha : 0 ≤ a ∧ a < 65536) : (one13 f a).In := ⟨(by decide : (0 : Int) ≤ 0), (by decide : (0 : Int) < 256), ⟨hf.1, hf.2, (by decide : (0 : Int) ≤ 0), (by decide : (0 : Int) < 256), (by decide : (0 : Int) ≤ 0), (by decide : (0 : Int) < 256), ha.1, ha.2, (by decide : (0 : Int) ≤ 0), (by decide : (0 : Int) < 65536)⟩⟩
theorem one13_any (w : World) (f a : Int) : Calls Tryz.prog 48 #[.int .u8 f, .int .u16 a] w fun e w' => ∃ s, e = .returned s ∧ rkC13.In w'.heap.size w' s [one13 f a] ∧ Keeps [] w w' := by
  go_enter Tryz.func48, Tryz.ntmps48
  go_wp2_with ((with_reducible refine wpList_litC13 [one13 f a] ?_ ?_ ?_ ?_ ?_); exact rfl; exact rfl; exact (by simp); exact (by simp))
  intro W hz hk hi
  go_wp2_with fail
  go_ret
  exact ⟨_, rfl, hi, hk⟩
/-- What calls stand ahead, and the argument. -/
def AheadIs (f : Int) (r : Ans) (L : List Cl) (a : Int) : Prop := ∀ w : World, Calls Tryz.prog 29 #[.int .u8 f, .agg #[.int .u8 r.k, .int .u16 r.v]] w fun e w' => ∃ s, e = .returned (.tuple #[s, .int .u16 a]) ∧ rkC13.In w'.heap.size w' s L ∧ Keeps [] w w'
theorem ah_1 (v : Int) : AheadIs 1 ⟨1, v⟩ [one13 2 v] 0 := by
  intro w
  have hk : Keeps [] w (w.alloc (.cells #[.int .u8 (⟨1, v⟩ : Ans).k, .int .u16 (⟨1, v⟩ : Ans).v] 25)) := (Keeps.refl _ _).alloc _
  have HK := Lib.hid hk
  clear hk
  go_enter Tryz.func29, Tryz.ntmps29
  go_wp2_with fail
  refine (one13_any _ _ _).mono ?_; rintro e w1 ⟨s, rfl, hi, hk⟩
  have HI := Lib.hid hi
  have HK1 := Lib.hid (HK.out.trans hk (FSub.refl _ _))
  obtain ⟨sa, sc, rfl, -⟩ := id hi
  clear hi hk
  go_wp2_with fail
  go_ret2
  exact ⟨_, rfl, HI.out, HK1.out⟩
theorem ah_2 : AheadIs 2 ⟨0, 0⟩ [] 0 := by
  intro w
  have hk : Keeps [] w (w.alloc (.cells #[.int .u8 (⟨0, 0⟩ : Ans).k, .int .u16 (⟨0, 0⟩ : Ans).v] 25)) := (Keeps.refl _ _).alloc _
  go_enter Tryz.func29, Tryz.ntmps29
  go_wp2_with fail
  go_ret2
  exact ⟨_, rfl, nil_in _ _, hk⟩
theorem ah_3y : AheadIs 3 ⟨3, 0⟩ [one13 2 7] 7 := by
  intro w
  have hk : Keeps [] w (w.alloc (.cells #[.int .u8 (⟨3, 0⟩ : Ans).k, .int .u16 (⟨3, 0⟩ : Ans).v] 25)) := (Keeps.refl _ _).alloc _
  have HK := Lib.hid hk
  clear hk
  go_enter Tryz.func29, Tryz.ntmps29
  go_wp2_with fail
  refine (one13_any _ _ _).mono ?_; rintro e w1 ⟨s, rfl, hi, hk⟩
  have HI := Lib.hid hi
  have HK1 := Lib.hid (HK.out.trans hk (FSub.refl _ _))
  obtain ⟨sa, sc, rfl, -⟩ := id hi
  clear hi hk
  go_wp2_with fail
  go_ret2
  exact ⟨_, rfl, HI.out, HK1.out⟩
theorem ah_3n : AheadIs 3 ⟨4, 0⟩ [one13 2 7] 8 := by
  intro w
  have hk : Keeps [] w (w.alloc (.cells #[.int .u8 (⟨4, 0⟩ : Ans).k, .int .u16 (⟨4, 0⟩ : Ans).v] 25)) := (Keeps.refl _ _).alloc _
  have HK := Lib.hid hk
  clear hk
  go_enter Tryz.func29, Tryz.ntmps29
  go_wp2_with fail
  refine (one13_any _ _ _).mono ?_; rintro e w1 ⟨s, rfl, hi, hk⟩
  have HI := Lib.hid hi
  have HK1 := Lib.hid (HK.out.trans hk (FSub.refl _ _))
  obtain ⟨sa, sc, rfl, -⟩ := id hi
  clear hi hk
  go_wp2_with fail
  go_ret2
  exact ⟨_, rfl, HI.out, HK1.out⟩
theorem ah_4 : AheadIs 4 ⟨0, 0⟩ [] 0 := by
  intro w
  have hk : Keeps [] w (w.alloc (.cells #[.int .u8 (⟨0, 0⟩ : Ans).k, .int .u16 (⟨0, 0⟩ : Ans).v] 25)) := (Keeps.refl _ _).alloc _
  go_enter Tryz.func29, Tryz.ntmps29
  go_wp2_with fail
  go_ret2
  exact ⟨_, rfl, nil_in _ _, hk⟩
theorem ah_5v (v : Int) : AheadIs 5 ⟨1, v⟩ [one13 4 v] 0 := by
  intro w
  have hk : Keeps [] w (w.alloc (.cells #[.int .u8 (⟨1, v⟩ : Ans).k, .int .u16 (⟨1, v⟩ : Ans).v] 25)) := (Keeps.refl _ _).alloc _
  have HK := Lib.hid hk
  clear hk
  go_enter Tryz.func29, Tryz.ntmps29
  go_wp2_with fail
  refine (one13_any _ _ _).mono ?_; rintro e w1 ⟨s, rfl, hi, hk⟩
  have HI := Lib.hid hi
  have HK1 := Lib.hid (HK.out.trans hk (FSub.refl _ _))
  obtain ⟨sa, sc, rfl, -⟩ := id hi
  clear hi hk
  go_wp2_with fail
  go_ret2
  exact ⟨_, rfl, HI.out, HK1.out⟩
theorem ah_5n : AheadIs 5 ⟨2, 0⟩ [] 0 := by
  intro w
  have hk : Keeps [] w (w.alloc (.cells #[.int .u8 (⟨2, 0⟩ : Ans).k, .int .u16 (⟨2, 0⟩ : Ans).v] 25)) := (Keeps.refl _ _).alloc _
  go_enter Tryz.func29, Tryz.ntmps29
  go_wp2_with fail
  go_ret2
  exact ⟨_, rfl, nil_in _ _, hk⟩
theorem ah_6v (v : Int) : AheadIs 6 ⟨1, v⟩ [one13 7 v] 0 := by
  intro w
  have hk : Keeps [] w (w.alloc (.cells #[.int .u8 (⟨1, v⟩ : Ans).k, .int .u16 (⟨1, v⟩ : Ans).v] 25)) := (Keeps.refl _ _).alloc _
  have HK := Lib.hid hk
  clear hk
  go_enter Tryz.func29, Tryz.ntmps29
  go_wp2_with fail
  refine (one13_any _ _ _).mono ?_; rintro e w1 ⟨s, rfl, hi, hk⟩
  have HI := Lib.hid hi
  have HK1 := Lib.hid (HK.out.trans hk (FSub.refl _ _))
  obtain ⟨sa, sc, rfl, -⟩ := id hi
  clear hi hk
  go_wp2_with fail
  go_ret2
  exact ⟨_, rfl, HI.out, HK1.out⟩
theorem ah_6n : AheadIs 6 ⟨2, 0⟩ [] 0 := by
  intro w
  have hk : Keeps [] w (w.alloc (.cells #[.int .u8 (⟨2, 0⟩ : Ans).k, .int .u16 (⟨2, 0⟩ : Ans).v] 25)) := (Keeps.refl _ _).alloc _
  go_enter Tryz.func29, Tryz.ntmps29
  go_wp2_with fail
  go_ret2
  exact ⟨_, rfl, nil_in _ _, hk⟩
theorem ah_7 : AheadIs 7 ⟨0, 0⟩ [] 0 := by
  intro w
  have hk : Keeps [] w (w.alloc (.cells #[.int .u8 (⟨0, 0⟩ : Ans).k, .int .u16 (⟨0, 0⟩ : Ans).v] 25)) := (Keeps.refl _ _).alloc _
  go_enter Tryz.func29, Tryz.ntmps29
  go_wp2_with fail
  go_ret2
  exact ⟨_, rfl, nil_in _ _, hk⟩
theorem ah_8y : AheadIs 8 ⟨3, 0⟩ [one13 7 1] 0 := by
  intro w
  have hk : Keeps [] w (w.alloc (.cells #[.int .u8 (⟨3, 0⟩ : Ans).k, .int .u16 (⟨3, 0⟩ : Ans).v] 25)) := (Keeps.refl _ _).alloc _
  have HK := Lib.hid hk
  clear hk
  go_enter Tryz.func29, Tryz.ntmps29
  go_wp2_with fail
  refine (one13_any _ _ _).mono ?_; rintro e w1 ⟨s, rfl, hi, hk⟩
  have HI := Lib.hid hi
  have HK1 := Lib.hid (HK.out.trans hk (FSub.refl _ _))
  obtain ⟨sa, sc, rfl, -⟩ := id hi
  clear hi hk
  go_wp2_with fail
  go_ret2
  exact ⟨_, rfl, HI.out, HK1.out⟩
theorem ah_8n : AheadIs 8 ⟨4, 0⟩ [] 0 := by
  intro w
  have hk : Keeps [] w (w.alloc (.cells #[.int .u8 (⟨4, 0⟩ : Ans).k, .int .u16 (⟨4, 0⟩ : Ans).v] 25)) := (Keeps.refl _ _).alloc _
  go_enter Tryz.func29, Tryz.ntmps29
  go_wp2_with fail
  go_ret2
  exact ⟨_, rfl, nil_in _ _, hk⟩
theorem ah_9y : AheadIs 9 ⟨3, 0⟩ [one13 7 7] 7 := by
  intro w
  have hk : Keeps [] w (w.alloc (.cells #[.int .u8 (⟨3, 0⟩ : Ans).k, .int .u16 (⟨3, 0⟩ : Ans).v] 25)) := (Keeps.refl _ _).alloc _
  have HK := Lib.hid hk
  clear hk
  go_enter Tryz.func29, Tryz.ntmps29
  go_wp2_with fail
  refine (one13_any _ _ _).mono ?_; rintro e w1 ⟨s, rfl, hi, hk⟩
  have HI := Lib.hid hi
  have HK1 := Lib.hid (HK.out.trans hk (FSub.refl _ _))
  obtain ⟨sa, sc, rfl, -⟩ := id hi
  clear hi hk
  go_wp2_with fail
  go_ret2
  exact ⟨_, rfl, HI.out, HK1.out⟩
theorem ah_9n : AheadIs 9 ⟨4, 0⟩ [one13 7 7] 8 := by
  intro w
  have hk : Keeps [] w (w.alloc (.cells #[.int .u8 (⟨4, 0⟩ : Ans).k, .int .u16 (⟨4, 0⟩ : Ans).v] 25)) := (Keeps.refl _ _).alloc _
  have HK := Lib.hid hk
  clear hk
  go_enter Tryz.func29, Tryz.ntmps29
  go_wp2_with fail
  refine (one13_any _ _ _).mono ?_; rintro e w1 ⟨s, rfl, hi, hk⟩
  have HI := Lib.hid hi
  have HK1 := Lib.hid (HK.out.trans hk (FSub.refl _ _))
  obtain ⟨sa, sc, rfl, -⟩ := id hi
  clear hi hk
  go_wp2_with fail
  go_ret2
  exact ⟨_, rfl, HI.out, HK1.out⟩
theorem ah_10y : AheadIs 10 ⟨3, 0⟩ [] 0 := by
  intro w
  have hk : Keeps [] w (w.alloc (.cells #[.int .u8 (⟨3, 0⟩ : Ans).k, .int .u16 (⟨3, 0⟩ : Ans).v] 25)) := (Keeps.refl _ _).alloc _
  go_enter Tryz.func29, Tryz.ntmps29
  go_wp2_with fail
  go_ret2
  exact ⟨_, rfl, nil_in _ _, hk⟩
theorem ah_10n : AheadIs 10 ⟨4, 0⟩ [one13 10 0] 0 := by
  intro w
  have hk : Keeps [] w (w.alloc (.cells #[.int .u8 (⟨4, 0⟩ : Ans).k, .int .u16 (⟨4, 0⟩ : Ans).v] 25)) := (Keeps.refl _ _).alloc _
  have HK := Lib.hid hk
  clear hk
  go_enter Tryz.func29, Tryz.ntmps29
  go_wp2_with fail
  refine (one13_any _ _ _).mono ?_; rintro e w1 ⟨s, rfl, hi, hk⟩
  have HI := Lib.hid hi
  have HK1 := Lib.hid (HK.out.trans hk (FSub.refl _ _))
  obtain ⟨sa, sc, rfl, -⟩ := id hi
  clear hi hk
  go_wp2_with fail
  go_ret2
  exact ⟨_, rfl, HI.out, HK1.out⟩
theorem ah_11y : AheadIs 11 ⟨3, 0⟩ [one13 10 0] 0 := by
  intro w
  have hk : Keeps [] w (w.alloc (.cells #[.int .u8 (⟨3, 0⟩ : Ans).k, .int .u16 (⟨3, 0⟩ : Ans).v] 25)) := (Keeps.refl _ _).alloc _
  have HK := Lib.hid hk
  clear hk
  go_enter Tryz.func29, Tryz.ntmps29
  go_wp2_with fail
  refine (one13_any _ _ _).mono ?_; rintro e w1 ⟨s, rfl, hi, hk⟩
  have HI := Lib.hid hi
  have HK1 := Lib.hid (HK.out.trans hk (FSub.refl _ _))
  obtain ⟨sa, sc, rfl, -⟩ := id hi
  clear hi hk
  go_wp2_with fail
  go_ret2
  exact ⟨_, rfl, HI.out, HK1.out⟩
theorem ah_11n : AheadIs 11 ⟨4, 0⟩ [] 0 := by
  intro w
  have hk : Keeps [] w (w.alloc (.cells #[.int .u8 (⟨4, 0⟩ : Ans).k, .int .u16 (⟨4, 0⟩ : Ans).v] 25)) := (Keeps.refl _ _).alloc _
  go_enter Tryz.func29, Tryz.ntmps29
  go_wp2_with fail
  go_ret2
  exact ⟨_, rfl, nil_in _ _, hk⟩
/-- The ways of an answer that may be. -/
theorem may_ways {f k v : Int} (h : mayOf f k v = 0) : (f = 1 ∧ k = 1) ∨ ((f = 5 ∨ f = 6) ∧ k = 1) ∨ (v = 0 ∧ (((f = 2 ∨ f = 4 ∨ f = 7) ∧ k = 0) ∨ ((f = 5 ∨ f = 6) ∧ k = 2) ∨ ((f = 3 ∨ f = 8 ∨ f = 9 ∨ f = 10 ∨ f = 11) ∧ (k = 3 ∨ k = 4)))) := by
  unfold mayOf at h
  split at h
  · rename_i hg
    split at h
    · rename_i hk
      have hv : k = 1 ∨ v = 0 := by
        simp only [rsGood, Bool.or_eq_true, beq_iff_eq, Bool.and_eq_true, decide_eq_true_eq] at hg
        rcases hg with h | h
        · exact .inl h
        · exact .inr h.2
      rcases f_cases f with rfl | rfl | rfl | rfl | rfl | rfl | rfl | rfl | rfl | rfl | rfl | hn
      all_goals first
        | (simp [kindsL] at hk; omega)
        | (rw [kindsL_none hn] at hk; cases hk)
    · cases h
  · cases h
/-- What an operation of F and A answers behind the calls. -/
def EachIs (f : Int) (r : Ans) (L : List Cl) (a : Int) : Prop := (mdX (bhS (mdInit (opM f)) L) 0 ⟨f, 0, 0, a, 0⟩).2.2 = 0 ∧ (mdX (bhS (mdInit (opM f)) L) 0 ⟨f, 0, 0, a, 0⟩).2.1 = r
theorem ways {f : Int} {r : Ans} (hr : 0 ≤ r.v ∧ r.v < 65536) (h : mayOf f r.k r.v = 0) : ∃ L a, AheadIs f r L a ∧ EachIs f r L a ∧ (∀ y ∈ L, y.In) ∧ L.length ≤ 1 ∧ (0 ≤ a ∧ a < 65536) := by
  obtain ⟨k, v⟩ := r
  have h0 := may_ways h
  simp only at h0 hr
  clear h
  rcases h0 with ⟨rfl, rfl⟩ | ⟨rfl | rfl, rfl⟩ | ⟨rfl, ⟨rfl | rfl | rfl, rfl⟩ | ⟨rfl | rfl, rfl⟩ | ⟨rfl | rfl | rfl | rfl | rfl, rfl | rfl⟩⟩
  · exact ⟨_, _, ah_1 v, ⟨rfl, rfl⟩, fun y hy => by simp at hy; subst hy; exact one13_in (by decide) hr, Nat.le_refl _, by decide⟩
  · exact ⟨_, _, ah_5v v, ⟨rfl, rfl⟩, fun y hy => by simp at hy; subst hy; exact one13_in (by decide) hr, Nat.le_refl _, by decide⟩
  · exact ⟨_, _, ah_6v v, ⟨rfl, rfl⟩, fun y hy => by simp at hy; subst hy; exact one13_in (by decide) hr, Nat.le_refl _, by decide⟩
  · exact ⟨_, _, ah_2, ⟨rfl, rfl⟩, (fun y hy => by cases hy), by decide, by decide⟩
  · exact ⟨_, _, ah_4, ⟨rfl, rfl⟩, (fun y hy => by cases hy), by decide, by decide⟩
  · exact ⟨_, _, ah_7, ⟨rfl, rfl⟩, (fun y hy => by cases hy), by decide, by decide⟩
  · exact ⟨_, _, ah_5n, ⟨rfl, rfl⟩, (fun y hy => by cases hy), by decide, by decide⟩
  · exact ⟨_, _, ah_6n, ⟨rfl, rfl⟩, (fun y hy => by cases hy), by decide, by decide⟩
  · exact ⟨_, _, ah_3y, ⟨rfl, rfl⟩, fun y hy => by simp at hy; subst hy; exact one13_in (by decide) (by decide), Nat.le_refl _, by decide⟩
  · exact ⟨_, _, ah_3n, ⟨rfl, rfl⟩, fun y hy => by simp at hy; subst hy; exact one13_in (by decide) (by decide), Nat.le_refl _, by decide⟩
  · exact ⟨_, _, ah_8y, ⟨rfl, rfl⟩, fun y hy => by simp at hy; subst hy; exact one13_in (by decide) (by decide), Nat.le_refl _, by decide⟩
  · exact ⟨_, _, ah_8n, ⟨rfl, rfl⟩, (fun y hy => by cases hy), by decide, by decide⟩
  · exact ⟨_, _, ah_9y, ⟨rfl, rfl⟩, fun y hy => by simp at hy; subst hy; exact one13_in (by decide) (by decide), Nat.le_refl _, by decide⟩
  · exact ⟨_, _, ah_9n, ⟨rfl, rfl⟩, fun y hy => by simp at hy; subst hy; exact one13_in (by decide) (by decide), Nat.le_refl _, by decide⟩
  · exact ⟨_, _, ah_10y, ⟨rfl, rfl⟩, (fun y hy => by cases hy), by decide, by decide⟩
  · exact ⟨_, _, ah_10n, ⟨rfl, rfl⟩, fun y hy => by simp at hy; subst hy; exact one13_in (by decide) (by decide), Nat.le_refl _, by decide⟩
  · exact ⟨_, _, ah_11y, ⟨rfl, rfl⟩, fun y hy => by simp at hy; subst hy; exact one13_in (by decide) (by decide), Nat.le_refl _, by decide⟩
  · exact ⟨_, _, ah_11n, ⟨rfl, rfl⟩, (fun y hy => by cases hy), by decide, by decide⟩
section
variable {ops : Array Oper} {rest : List Oper} {a : Act} {w : World} {Q : Exit → Act → World → Prop}
end
variable {G : World → Prop}
end Go.Proofs.YtdachaekcjbfmaaGreatDoor
