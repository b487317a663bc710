/-
  Is an operation valid? The program's and the document's answer.
-/
import Derived.Test.YtiljdehhjiahdaaGreatDoorG05
set_option linter.unusedSimpArgs false
set_option linter.unusedVariables false
namespace Go.Proofs.YtiljdehhjiahdaaGreatDoor
open Go.RowKit
/-- The ways in which an operation is, or is not, valid. -/
theorem good_ways (f o k a b : Int) (P : Prop)
    (h1 : opIs f = false → opGood ⟨f, o, k, a, b⟩ = false → P)
    (h2 : opIs f = true → ¬ o < 8 → opGood ⟨f, o, k, a, b⟩ = false → P)
    (h3 : opIs f = true → o < 8 → ¬ k < 8 → opGood ⟨f, o, k, a, b⟩ = false → P)
    (h4 : opIs f = true → o < 8 → k < 8 → opK f = false → (k == 0) = false → opGood ⟨f, o, k, a, b⟩ = false → P)
    (h5 : opIs f = true → o < 8 → k < 8 → (opK f = true ∨ (opK f = false ∧ (k == 0) = true)) → opA f = false → (a == 0) = false → opGood ⟨f, o, k, a, b⟩ = false → P)
    (h6 : opIs f = true → o < 8 → k < 8 → (opK f = true ∨ (opK f = false ∧ (k == 0) = true)) → (opA f = true ∨ (opA f = false ∧ (a == 0) = true)) → opB f = false → (b == 0) = false → opGood ⟨f, o, k, a, b⟩ = false → P)
    (h7 : opIs f = true → o < 8 → k < 8 → (opK f = true ∨ (opK f = false ∧ (k == 0) = true)) → (opA f = true ∨ (opA f = false ∧ (a == 0) = true)) → (opB f = true ∨ (opB f = false ∧ (b == 0) = true)) → opGood ⟨f, o, k, a, b⟩ = true → P) : P := by
  rcases bool_two (opIs f) with i1 | i1
  · by_cases i2 : o < 8
    · by_cases i3 : k < 8
      · have part : ∀ (K : Bool) (x : Int), (K = true ∨ (K = false ∧ (x == 0) = true)) ∨ (K = false ∧ (x == 0) = false) := fun K x => by
          rcases bool_two K with h | h <;> rcases bool_two (x == 0) with h' | h' <;> simp [h, h']
        rcases part (opK f) k with i4 | ⟨i4, i4'⟩
        · rcases part (opA f) a with i5 | ⟨i5, i5'⟩
          · rcases part (opB f) b with i6 | ⟨i6, i6'⟩
            · refine h7 i1 i2 i3 i4 i5 i6 ?_
              rw [good_iff]
              refine ⟨i1, i2, i3, ?_, ?_, ?_⟩
              · rcases i4 with h | ⟨_, h⟩; exact .inl h; exact .inr (by simpa using h)
              · rcases i5 with h | ⟨_, h⟩; exact .inl h; exact .inr (by simpa using h)
              · rcases i6 with h | ⟨_, h⟩; exact .inl h; exact .inr (by simpa using h)
            · exact h6 i1 i2 i3 i4 i5 i6 i6' (by simp [opGood, i6]; intros; simpa using i6')
          · exact h5 i1 i2 i3 i4 i5 i5' (by simp [opGood, i5]; intros; simp at i5'; omega)
        · exact h4 i1 i2 i3 i4 i4' (by simp [opGood, i4]; intros; simp at i4'; omega)
      · exact h3 i1 i2 i3 (by simp [opGood]; intros; omega)
    · exact h2 i1 i2 (by simp [opGood]; intros; omega)
  · exact h1 i1 (by simp [opGood, i1])
set_option maxHeartbeats 4000000 in
theorem valid_any (w : World) (hG : Glob4 w) (f o k a b : Int) (hx : (⟨f, o, k, a, b⟩ : Opn).In) : Calls Tryz.prog 104 #[.agg #[.int .u8 f, .int .u8 o, .int .u8 k, .int .u16 a, .int .u16 b]] w fun e w' =>
    e = .returned (.bool (opGood ⟨f, o, k, a, b⟩)) ∧ Keeps [] w w' := by
  obtain ⟨f0, f1, o0, o1, k0, k1, a0, a1, b0, b1⟩ := hx
  simp only at f0 f1 o0 o1 k0 k1 a0 a1 b0 b1
  have hc := fun w hG => find_any w hG f f0 f1
  have key : ∀ (G : Bool), opGood ⟨f, o, k, a, b⟩ = G → Calls Tryz.prog 104 #[.agg #[.int .u8 f, .int .u8 o, .int .u8 k, .int .u16 a, .int .u16 b]] w fun e w' =>
    e = .returned (.bool G) ∧ Keeps [] w w' := by
    intro G hg
    have hk0 := (Keeps.refl [] w).alloc (.cells #[.int .u8 f, .int .u8 o, .int .u8 k, .int .u16 a, .int .u16 b] 24)
    apply good_ways f o k a b
    · intro i1 hg2
      obtain rfl := hg.symm.trans hg2
      rw [i1] at hc
      clear hg hg2
      go_enter Tryz.func104, Tryz.ntmps104
      go_wp2_with fail
      refine (hc _ (hG.new hk0)).mono ?_; rintro e w1 ⟨rfl, hk1⟩
      have hb := boxed5 hk1
      replace hk1 := hk0.trans hk1 (FSub.refl _ _)
      obtain ⟨c0, c1, c2, c3, c4, cl⟩ := cell5 hb
      clear hb
      go_wp2_with fail
      go_ret
      exact ⟨rfl, hk1.alloc _⟩
    · intro i1 i2 hg2
      obtain rfl := hg.symm.trans hg2
      rw [i1] at hc
      clear hg hg2
      go_enter Tryz.func104, Tryz.ntmps104
      go_wp2_with fail
      refine (hc _ (hG.new hk0)).mono ?_; rintro e w1 ⟨rfl, hk1⟩
      have hb := boxed5 hk1
      replace hk1 := hk0.trans hk1 (FSub.refl _ _)
      obtain ⟨c0, c1, c2, c3, c4, cl⟩ := cell5 hb
      clear hb
      go_wp2_with fail
      go_ret
      exact ⟨rfl, hk1.alloc _⟩
    · intro i1 i2 i3 hg2
      obtain rfl := hg.symm.trans hg2
      rw [i1] at hc
      clear hg hg2
      go_enter Tryz.func104, Tryz.ntmps104
      go_wp2_with fail
      refine (hc _ (hG.new hk0)).mono ?_; rintro e w1 ⟨rfl, hk1⟩
      have hb := boxed5 hk1
      replace hk1 := hk0.trans hk1 (FSub.refl _ _)
      obtain ⟨c0, c1, c2, c3, c4, cl⟩ := cell5 hb
      clear hb
      go_wp2_with fail
      go_ret
      exact ⟨rfl, hk1.alloc _⟩
    · intro i1 i2 i3 i4 i4' hg2
      obtain rfl := hg.symm.trans hg2
      rw [i1, i4] at hc
      clear hg hg2
      go_enter Tryz.func104, Tryz.ntmps104
      go_wp2_with fail
      refine (hc _ (hG.new hk0)).mono ?_; rintro e w1 ⟨rfl, hk1⟩
      have hb := boxed5 hk1
      replace hk1 := hk0.trans hk1 (FSub.refl _ _)
      obtain ⟨c0, c1, c2, c3, c4, cl⟩ := cell5 hb
      clear hb
      go_wp2_with fail
      go_ret
      exact ⟨rfl, hk1.alloc _⟩
    · intro i1 i2 i3 i4 i5 i5' hg2
      obtain rfl := hg.symm.trans hg2
      clear hg hg2
      rcases i4 with i4 | ⟨i4, i4'⟩ <;> rw [i1, i4, i5] at hc
      all_goals
        go_enter Tryz.func104, Tryz.ntmps104
        go_wp2_with fail
        refine (hc _ (hG.new hk0)).mono ?_; rintro e w1 ⟨rfl, hk1⟩
        have hb := boxed5 hk1
        replace hk1 := hk0.trans hk1 (FSub.refl _ _)
        obtain ⟨c0, c1, c2, c3, c4, cl⟩ := cell5 hb
        clear hb
        go_wp2_with fail
        go_ret
        exact ⟨rfl, hk1.alloc _⟩
    · intro i1 i2 i3 i4 i5 i6 i6' hg2
      obtain rfl := hg.symm.trans hg2
      clear hg hg2
      rcases i4 with i4 | ⟨i4, i4'⟩ <;> rcases i5 with i5 | ⟨i5, i5'⟩ <;> rw [i1, i4, i5, i6] at hc
      all_goals
        go_enter Tryz.func104, Tryz.ntmps104
        go_wp2_with fail
        refine (hc _ (hG.new hk0)).mono ?_; rintro e w1 ⟨rfl, hk1⟩
        have hb := boxed5 hk1
        replace hk1 := hk0.trans hk1 (FSub.refl _ _)
        obtain ⟨c0, c1, c2, c3, c4, cl⟩ := cell5 hb
        clear hb
        go_wp2_with fail
        go_ret
        exact ⟨rfl, hk1.alloc _⟩
    · intro i1 i2 i3 i4 i5 i6 hg2
      obtain rfl := hg.symm.trans hg2
      clear hg hg2
      rcases i4 with i4 | ⟨i4, i4'⟩ <;> rcases i5 with i5 | ⟨i5, i5'⟩ <;> rcases i6 with i6 | ⟨i6, i6'⟩ <;> rw [i1, i4, i5, i6] at hc
      all_goals
        go_enter Tryz.func104, Tryz.ntmps104
        go_wp2_with fail
        refine (hc _ (hG.new hk0)).mono ?_; rintro e w1 ⟨rfl, hk1⟩
        have hb := boxed5 hk1
        replace hk1 := hk0.trans hk1 (FSub.refl _ _)
        obtain ⟨c0, c1, c2, c3, c4, cl⟩ := cell5 hb
        clear hb
        go_wp2_with fail
        go_ret
        exact ⟨rfl, hk1.alloc _⟩
  exact key _ rfl
end Go.Proofs.YtiljdehhjiahdaaGreatDoor
