/-
  The program's Check; the document's Check and Put; a number's two bytes.
-/
import Derived.Test.YtmjllfohdoiilaaDoorOe
namespace Go.Proofs.YtmjllfohdoiilaaDoor
open Go.RowKit
def opChk (m : Int) (x : Opn) : Int := if opGood x && opM x.f == m then 0 else 10
set_option maxHeartbeats 4000000 in
set_option maxRecDepth 100000 in
theorem Check4_any (w : World) (hG : Glob4 w) (m f o k a b : Int) (m0 : 0 ≤ m) (m1 : m < 256) (hx : (⟨f, o, k, a, b⟩ : Opn).In) :
    Calls Tryd.prog 12 #[.int .u8 m, .agg #[.int .u8 f, .int .u8 o, .int .u8 k, .int .u16 a, .int .u16 b]] w fun e w' => e = .returned (.int .i64 (opChk m ⟨f, o, k, a, b⟩)) ∧ Keeps [] w w' := by
  have hv := fun w hG => valid_any w hG f o k a b hx
  have hk0 := (Keeps.refl [] w).alloc (.cells #[.int .u8 f, .int .u8 o, .int .u8 k, .int .u16 a, .int .u16 b] 24)
  rcases bool_two (opGood ⟨f, o, k, a, b⟩) with hg | hg
  · have is := ((good_iff _).1 hg).is
    obtain ⟨f, rfl⟩ := Int.eq_ofNat_of_zero_le hx.f0
    have hf : f < 12 := by simp [opIs] at is; omega
    have hrow := fun (w : World) (hG : Glob4 w) => hG.row f hf
    have ec : opChk m ⟨f, o, k, a, b⟩ = if opM f = m then 0 else 10 := by simp [opChk, hg]
    rw [ec]
    rw [hg] at hv
    have hM := opM_b f
    clear ec is hg hx
    generalize opM f = M at *
    generalize bs (opNm f) = NM at *
    generalize opK f = K at *
    generalize opA f = A at *
    generalize opB f = BB at *
    by_cases hm : M = m
    · rw [if_pos hm]
      subst hm
      go_enter Tryd.func12, Tryd.ntmps12
      go_wp2_with fail
      refine (hv _ (hG.new hk0)).mono ?_; rintro e w1 ⟨rfl, hk1⟩
      have hb := boxed5 hk1
      replace hk1 := hk0.trans hk1 (FSub.refl _ _)
      obtain ⟨c0, c1, c2, c3, c4, cl⟩ := cell5 hb
      obtain ⟨r0, r1, r2, r3, r4⟩ := hrow _ (hG.new hk1)
      clear hb hrow hv
      go_wp2_with fail
      go_ret
      exact ⟨rfl, hk1⟩
    · rw [if_neg hm]
      have hm2 : (M == m) = false := by simpa using hm
      go_enter Tryd.func12, Tryd.ntmps12
      go_wp2_with fail
      refine (hv _ (hG.new hk0)).mono ?_; rintro e w1 ⟨rfl, hk1⟩
      have hb := boxed5 hk1
      replace hk1 := hk0.trans hk1 (FSub.refl _ _)
      obtain ⟨c0, c1, c2, c3, c4, cl⟩ := cell5 hb
      obtain ⟨r0, r1, r2, r3, r4⟩ := hrow _ (hG.new hk1)
      clear hb hrow hv
      go_wp2_with fail
      go_ret
      exact ⟨rfl, hk1⟩
  · have ec : opChk m ⟨f, o, k, a, b⟩ = 10 := by simp [opChk, hg]
    rw [ec]
    rw [hg] at hv
    go_enter Tryd.func12, Tryd.ntmps12
    go_wp2_with fail
    refine (hv _ (hG.new hk0)).mono ?_; rintro e w1 ⟨rfl, hk1⟩
    go_wp2_with fail
    go_ret
    exact ⟨rfl, hk0.trans hk1 (FSub.refl _ _)⟩
set_option maxHeartbeats 4000000 in
set_option maxRecDepth 100000 in
theorem r4Check_any (w : World) (m f o k a b : Int) (m0 : 0 ≤ m) (m1 : m < 256) (hx : (⟨f, o, k, a, b⟩ : Opn).In) :
    Calls Tryd.prog 13 #[.int .u8 m, .agg #[.int .u8 f, .int .u8 o, .int .u8 k, .int .u16 a, .int .u16 b]] w fun e w' => e = .returned (.int .i64 (opChk m ⟨f, o, k, a, b⟩)) ∧ Keeps [] w w' := by
  have hv := fun w => May_any w f o k a b hx
  have hc := fun w => Of_any w f hx.f0 hx.f1
  have hk0 := (Keeps.refl [] w).alloc (.cells #[.int .u8 f, .int .u8 o, .int .u8 k, .int .u16 a, .int .u16 b] 24)
  have ec : opChk m ⟨f, o, k, a, b⟩ = if opGood ⟨f, o, k, a, b⟩ = true ∧ opM f = m then 0 else 10 := by simp [opChk]
  rw [ec]
  clear ec hx
  have hM := opM_b f
  generalize opGood ⟨f, o, k, a, b⟩ = G at *
  generalize opM f = M at *
  generalize bs (opNm f) = NM at *
  generalize opK f = K at *
  generalize opA f = A at *
  generalize opB f = BB at *
  generalize opIs f = I at *
  have ways : (G = false ∧ (if G = true ∧ M = m then (0 : Int) else 10) = 10) ∨ (G = true ∧ (M == m) = false ∧ (if G = true ∧ M = m then (0 : Int) else 10) = 10) ∨ (G = true ∧ M = m ∧ (if G = true ∧ M = m then (0 : Int) else 10) = 0) := by
    rcases bool_two G with h | h
    · by_cases hm : M = m
      · exact .inr (.inr ⟨h, hm, by simp [h, hm]⟩)
      · exact .inr (.inl ⟨h, by simpa using hm, by simp [h, hm]⟩)
    · exact .inl ⟨h, by simp [h]⟩
  rcases ways with ⟨rfl, e⟩ | ⟨rfl, hm, e⟩ | ⟨rfl, rfl, e⟩ <;> rw [e] <;> clear e
  all_goals
    go_enter Tryd.func13, Tryd.ntmps13
    go_wp2_with fail
    refine (hc _).mono ?_; rintro e w1 ⟨rfl, hk1⟩
    have hb := boxed5 hk1
    replace hk1 := hk0.trans hk1 (FSub.refl _ _)
    obtain ⟨c0, c1, c2, c3, c4, cl⟩ := cell5 hb
    go_wp2_with fail
    refine (hv _).mono ?_; rintro e w2 ⟨rfl, hk2⟩
    have hq := boxed5 hk2
    obtain ⟨q0, q1, q2, q3, q4, ql⟩ := cell5 hq
    replace hk2 := (hk1.alloc _).trans hk2 (FSub.refl _ _)
    clear hc hv hb hq
    go_wp2_with fail
    go_ret
    exact ⟨rfl, hk2⟩
end Go.Proofs.YtmjllfohdoiilaaDoor
