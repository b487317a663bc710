/-
  OpOne, walked.
-/
import Derived.Test.YtmjllfohdoiilaaDoorOw
import Derived.Test.YtmjllfohdoiilaaDoorOh
namespace Go.Proofs.YtmjllfohdoiilaaDoor
open Go.RowKit
theorem wrap8_id (z : Int) (h0 : 0 ≤ z) (h1 : z < 256) : IntKind.u8.wrap z = z := by
  simp [IntKind.wrap, IntKind.bits, IntKind.signed]; omega
set_option maxHeartbeats 8000000 in
set_option maxRecDepth 100000 in
theorem one4_true (w : World) (hG : Glob4 w) (f o k a b : Int) (hx : (⟨f, o, k, a, b⟩ : Opn).In) :
    Calls Tryd.prog 6 #[.agg #[.int .u8 f, .int .u8 o, .int .u8 k, .int .u16 a, .int .u16 b]] w fun e w' => e = .returned (.bool true) ∧ Keeps [] w w' := by
  have hcheck := fun (m : Int) (m0 : 0 ≤ m) (m1 : m < 256) w hG => Check4_any w hG m f o k a b m0 m1 hx
  have hmodel := fun w hG => Model_any w hG f hx.f0 hx.f1
  have hput := fun w hG => opPut_any w hG f o k a b hx
  have hM := opM_b f
  have hgi : opGood ⟨f, o, k, a, b⟩ = true → opIs f = true := fun h => ((good_iff _).1 h).is
  have hck : ∀ m : Int, opChk m ⟨f, o, k, a, b⟩ = if opGood ⟨f, o, k, a, b⟩ = true ∧ opM f = m then 0 else 10 := fun m => by simp [opChk]
  simp only [hck] at hcheck
  unfold opPutE at hput
  clear hck
  generalize (if opGood ⟨f, o, k, a, b⟩ = true then strOfNums (opPut ⟨f, o, k, a, b⟩) else ⟨#[]⟩ : ByteArray) = SP at *
  generalize opGood ⟨f, o, k, a, b⟩ = G at *
  generalize opM f = M at *
  generalize opIs f = IS at *
  obtain ⟨M0, M1⟩ := hM
  have hk0 := (Keeps.refl [] w).alloc (.cells #[.int .u8 f, .int .u8 o, .int .u8 k, .int .u16 a, .int .u16 b] 24)
  have hb0 := heap_alloc_new w (.cells #[.int .u8 f, .int .u8 o, .int .u8 k, .int .u16 a, .int .u16 b] 24)
  have HGI := Lib.hid hgi; have HK0 := Lib.hid hk0; have HB0 := Lib.hid hb0; have HC := Lib.hid hcheck; have HMo := Lib.hid hmodel; have HP := Lib.hid hput
  clear hx hgi hk0 hb0 hcheck hmodel hput
  go_enter Tryd.func6, Tryd.ntmps6
  go_wp2_with fail
  go_loopw [3, 4] (fun n i wr => ∃ m : Nat, m ≤ 256 ∧ n = .int .i64 (if G = true ∧ M < (m : Int) then 1 else 0) ∧ i = .int .i64 m ∧ wr.heap[w.heap.size]? = some (.cells #[.int .u8 f, .int .u8 o, .int .u8 k, .int .u16 a, .int .u16 b] 24 (0, 0)) ∧ Keeps [] w wr) (fun _ i _ => 256 - (intOf i).toNat)
  case atStart => exact ⟨0, by omega, by rw [if_neg (by omega)], rfl, HB0.out, HK0.out⟩
  case round =>
    obtain ⟨m, hm, rfl, rfl, hb, hkp⟩ := hrel
    obtain ⟨c0, c1, c2, c3, c4, cl⟩ := cell5 hb
    have HB := Lib.hid hb; clear hb
    by_cases hlt : m < 256
    · have hc := HC.out (m : Int) (by omega) (by omega) wr (hG.new hkp)
      have hw8 := wrap8_id (m : Int) (by omega) (by omega)
      by_cases heq : G = true ∧ M = (m : Int)
      · rw [if_pos heq] at hc
        obtain ⟨rfl, hMm⟩ := heq
        have e0 : (if true = true ∧ M < (m : Int) then (1 : Int) else 0) = 0 := if_neg (fun h => by have := h.2; omega)
        have e1 : (if true = true ∧ M < ((m + 1 : Nat) : Int) then (1 : Int) else 0) = 1 := if_pos ⟨rfl, by omega⟩
        have hI := HGI.out rfl
        rw [e0]
        have hmo := fun w hG => HMo.out w hG
        rw [hI, hMm] at hmo
        have hMo := Lib.hid hmo
        have E1 := Lib.hid e1
        clear e0 e1 HMo HGI hI hmo
        go_wp2_with fail
        refine hc.mono ?_; rintro e w2 ⟨rfl, hk2⟩
        have hb2 := hk2.heap HB.out (by simp)
        have hkk := hkp.trans hk2 (FSub.refl _ _)
        clear c0 c1 c2 c3 c4 cl hc HB hk2
        obtain ⟨c0, c1, c2, c3, c4, cl⟩ := cell5 hb2
        have HB := Lib.hid hb2; clear hb2
        go_wp2_with fail
        refine (hMo.out _ (hG.new hkk)).mono ?_; rintro e w3 ⟨rfl, hk3⟩
        have hb3 := hk3.heap HB.out (by simp)
        have hkk3 := hkk.trans hk3 (FSub.refl _ _)
        clear c0 c1 c2 c3 c4 cl HB hk3
        have HB := Lib.hid hb3; clear hb3
        go_wp2_with fail
        go_roundw
        case rel => exact ⟨m + 1, by omega, by rw [E1.out], by go_num, HB.out, hkk3⟩
        case measure => simp [intOf]; omega
      · rw [if_neg heq] at hc
        have e1 : (if G = true ∧ M < (m : Int) then (1 : Int) else 0) = (if G = true ∧ M < ((m + 1 : Nat) : Int) then (1 : Int) else 0) := by
          by_cases hG2 : G = true
          · have : M ≠ (m : Int) := fun h => heq ⟨hG2, h⟩
            by_cases h3 : M < (m : Int)
            · rw [if_pos ⟨hG2, h3⟩, if_pos ⟨hG2, by omega⟩]
            · rw [if_neg (fun h => h3 h.2), if_neg (fun h => by omega)]
          · rw [if_neg (fun h => hG2 h.1), if_neg (fun h => hG2 h.1)]
        have HEQ := Lib.hid heq
        have E1 := Lib.hid e1
        clear heq e1
        generalize hN : (if G = true ∧ M < (m : Int) then (1 : Int) else 0) = NN at *
        clear hN
        go_wp2_with fail
        refine hc.mono ?_; rintro e w2 ⟨rfl, hk2⟩
        have hb2 := hk2.heap HB.out (by simp)
        have hkk := hkp.trans hk2 (FSub.refl _ _)
        clear c0 c1 c2 c3 c4 cl hc HB hk2
        have HB := Lib.hid hb2; clear hb2
        go_wp2_with fail
        go_roundw
        case rel => exact ⟨m + 1, by omega, by rw [E1.out], by go_num, HB.out, hkk⟩
        case measure => simp [intOf]; omega
    · obtain rfl : m = 256 := by omega
      have e0 : (if G = true ∧ M < ((256 : Nat) : Int) then (1 : Int) else 0) = if G = true then 1 else 0 := by
        by_cases hG2 : G = true
        · rw [if_pos ⟨hG2, by omega⟩, if_pos hG2]
        · rw [if_neg (fun h => hG2 h.1), if_neg hG2]
      rw [e0]
      have hp := HP.out _ (hG.new hkp)
      clear e0 HP HC HMo HGI HB
      cases G
      · simp only [Bool.false_eq_true, if_false] at hp ⊢
        go_wp2_with fail
        refine hp.mono ?_; rintro e w2 ⟨rfl, hk2⟩
        have hkk := hkp.trans hk2 (FSub.refl _ _)
        clear c0 c1 c2 c3 c4 cl hp
        go_wp2_with fail
        refine (works4_true _ (hG.new hkk)).mono ?_; rintro e w3 ⟨rfl, hk3⟩
        replace hkk := hkk.trans hk3 (FSub.refl _ _)
        go_wp2_with fail
        go_ret
        exact ⟨rfl, hkk⟩
      · simp only [if_true] at hp ⊢
        go_wp2_with fail
        refine hp.mono ?_; rintro e w2 ⟨rfl, hk2⟩
        have hkk := hkp.trans hk2 (FSub.refl _ _)
        clear c0 c1 c2 c3 c4 cl hp
        go_wp2_with fail
        refine (works4_true _ (hG.new hkk)).mono ?_; rintro e w3 ⟨rfl, hk3⟩
        replace hkk := hkk.trans hk3 (FSub.refl _ _)
        go_wp2_with fail
        go_ret
        exact ⟨rfl, hkk⟩
end Go.Proofs.YtmjllfohdoiilaaDoor
