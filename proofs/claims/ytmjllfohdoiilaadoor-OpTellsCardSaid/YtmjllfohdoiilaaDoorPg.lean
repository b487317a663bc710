/-
  OpTells, walked.
-/
import Derived.Test.YtmjllfohdoiilaaDoorPd
import Derived.Test.YtmjllfohdoiilaaDoorOi
import Derived.Test.YtmjllfohdoiilaaDoorOk
import Derived.Test.YtmjllfohdoiilaaDoorOw
import Derived.Deep.RegionWith
import Derived.Deep.RegionHeld3
namespace Go.Proofs.YtmjllfohdoiilaaDoor
open Go.RowKit
set_option maxHeartbeats 16000000 in
set_option maxRecDepth 100000 in
theorem tells4_true (w : World) (hG : Glob4 w) (f o k a b : Int) (hx : (⟨f, o, k, a, b⟩ : Opn).In) (m : Int) (m0 : 0 ≤ m) (m1 : m < 256) :
    Calls Tryd.prog 3 #[.agg #[.int .u8 f, .int .u8 o, .int .u8 k, .int .u16 a, .int .u16 b], .int .u8 m] w fun e w' => e = .returned (.bool true) ∧ Keeps [] w w' := by
  have hmo := fun w hG => Model_any w hG f hx.f0 hx.f1
  have hof := fun w => Of_any w f hx.f0 hx.f1
  have hp1 := fun w hG => opPut_any w hG f o k a b hx
  have hp2 := fun w => r4Put_any w f o k a b hx
  have hc1 := fun w hG => Check4_any w hG m f o k a b m0 m1 hx
  have hc2 := fun w => r4Check_any w m f o k a b m0 m1 hx
  have hw1 := fun w hG => opWords_any w hG ⟨f, o, k, a, b⟩ hx
  have hw2 := fun w => r4Words_any w ⟨f, o, k, a, b⟩ hx
  simp only [Opn.val] at hw1 hw2
  have hM := opM_b f
  unfold opPutE at hp1
  have hx2 := hx
  obtain ⟨f0, f1, o0, o1, k0, k1, a0, a1, b0, b1⟩ := hx2
  simp only at f0 f1 o0 o1 k0 k1 a0 a1 b0 b1
  clear hx
  generalize (if opGood ⟨f, o, k, a, b⟩ = true then strOfNums (opPut ⟨f, o, k, a, b⟩) else ⟨#[]⟩ : ByteArray) = SP at *
  generalize (if opGood ⟨f, o, k, a, b⟩ = true then (0 : Int) else 4) = PE at *
  generalize opChk m ⟨f, o, k, a, b⟩ = RC at *
  generalize wordsOf ⟨f, o, k, a, b⟩ = WL at *
  generalize opM f = M at *
  generalize bs (opNm f) = NM at *
  generalize opK f = K at *
  generalize opA f = A at *
  generalize opB f = BB at *
  generalize opIs f = IS at *
  obtain ⟨M0, M1⟩ := hM
  have t1 : (SP.toList == SP.toList) = true := by simp
  have hwM : IntKind.i64.wrap M = M := by simp [IntKind.wrap, IntKind.bits, IntKind.signed]; omega
  have hb0 := heap_alloc_new w (.cells #[.int .u8 f, .int .u8 o, .int .u8 k, .int .u16 a, .int .u16 b] 24)
  have hk0 := (Keeps.refl [] w).alloc (.cells #[.int .u8 f, .int .u8 o, .int .u8 k, .int .u16 a, .int .u16 b] 24)
  have HB := Lib.hid hb0; have HK := Lib.hid hk0; clear hb0 hk0
  have HC1 := Lib.hid hc1; have HC2 := Lib.hid hc2; have HW1 := Lib.hid hw1; have HW2 := Lib.hid hw2
  clear hc1 hc2 hw1 hw2
  go_enter Tryd.func3, Tryd.ntmps3
  go_wp2_with fail
  refine (hmo _ (hG.new HK.out)).mono ?_; rintro e w1 ⟨rfl, hk1⟩
  have hb := hk1.heap HB.out (by simp)
  have hK := HK.out.trans hk1 (FSub.refl _ _)
  obtain ⟨c0, c1, c2, c3, c4, cl⟩ := cell5 hb
  clear HB HK hk1 hmo
  have HB := Lib.hid hb; have HK := Lib.hid hK; clear hb hK
  go_wp2_with fail
  refine (hof _).mono ?_; rintro e w2 ⟨rfl, hk2⟩
  have hb := heap_alloc_lt (o := .cells #[.int .i64 M, .string NM, .bool K, .bool A, .bool BB] 28) (hk2.heap HB.out (by simp))
  have hq := heap_alloc_new w2 (.cells #[.int .i64 M, .string NM, .bool K, .bool A, .bool BB] 28)
  have hK := (HK.out.trans hk2 (FSub.refl _ _)).alloc (.cells #[.int .i64 M, .string NM, .bool K, .bool A, .bool BB] 28)
  clear HB HK hk2 hof c0 c1 c2 c3 c4 cl
  obtain ⟨c0, c1, c2, c3, c4, cl⟩ := cell5 hb
  have HB := Lib.hid hb; have HQ := Lib.hid hq; have HK := Lib.hid hK; clear hb hq hK
  go_wp2_with fail
  clear c0 c1 c2 c3 c4 cl
  generalize w2.alloc (.cells #[.int .i64 M, .string NM, .bool K, .bool A, .bool BB] 28) = W2 at *
  generalize w2.heap.size = Q at *
  refine (hp1 _ (hG.new HK.out)).mono ?_; rintro e w3 ⟨rfl, hk3⟩
  have hb := hk3.heap HB.out (by simp)
  have hq := hk3.heap HQ.out (by simp)
  have hK := HK.out.trans hk3 (FSub.refl _ _)
  obtain ⟨c0, c1, c2, c3, c4, cl⟩ := cell5 hb
  clear HB HQ HK hk3 hp1
  have HB := Lib.hid hb; have HQ := Lib.hid hq; have HK := Lib.hid hK; clear hb hq hK
  go_wp2_with fail
  refine (hp2 _).mono ?_; rintro e w4 ⟨rfl, hk4⟩
  have hb := hk4.heap HB.out (by simp)
  have hq := hk4.heap HQ.out (by simp)
  have hK := HK.out.trans hk4 (FSub.refl _ _)
  clear HB HQ HK hk4 hp2 c0 c1 c2 c3 c4 cl
  obtain ⟨c0, c1, c2, c3, c4, cl⟩ := cell5 hb
  obtain ⟨q0, q1, q2, q3, q4, ql⟩ := cell5 hq
  have HB := Lib.hid hb; have HK := Lib.hid hK; clear hb hq hK q1 q2 q3 q4
  have g0 : Glob4 w4.drew := hG.new HK.out.drew
  have hbD : w4.drew.heap[w.heap.size]? = some (.cells #[.int .u8 f, .int .u8 o, .int .u8 k, .int .u16 a, .int .u16 b] 24 (0, 0)) := HB.out
  have HBD := Lib.hid hbD; clear hbD
  have q0D : w4.drew.cell? ⟨Q, 0, none⟩ = some (.int .i64 M) := q0
  have HQD := Lib.hid q0D; clear q0D
  go_wp2_with fail
  go_region_held3 (fun w' => w'.cell? ⟨w.heap.size, 0, none⟩ = some (.int .u8 f) ∧ w'.cell? ⟨w.heap.size, 1, none⟩ = some (.int .u8 o) ∧ w'.cell? ⟨w.heap.size, 2, none⟩ = some (.int .u8 k) ∧ w'.cell? ⟨w.heap.size, 3, none⟩ = some (.int .u16 a) ∧ w'.cell? ⟨w.heap.size, 4, none⟩ = some (.int .u16 b) ∧ w'.cell? ⟨Q, 0, none⟩ = some (.int .i64 M))
    (refine ⟨?_, ?_, ?_, ?_, ?_, ?_⟩ <;> assumption)
    (first
      | (go_at_call 12; (with_reducible refine (HC1.out _ g0).mono ?_); rintro e wA ⟨rfl, hkA⟩; have gA := g0.new hkA; have hbA := hkA.heap HBD.out (by simp); have qA := hkA.cell HQD.out (by simp); obtain ⟨a0', a1', a2', a3', a4', al'⟩ := cell5 hbA)
      | (go_at_call 13; (with_reducible refine (HC2.out _).mono ?_); rintro e wB ⟨rfl, hkB⟩; have gB := gA.new hkB; have hbB := hkB.heap hbA (by simp); have qB := hkB.cell qA (by simp); obtain ⟨b0', b1', b2', b3', b4', bl'⟩ := cell5 hbB)
      | (go_at_call 15; (with_reducible refine (HW1.out _ gB).mono ?_); rintro e wC ⟨v1, rfl, hr1, hkC, hfC⟩; have hbC := hkC.heap hbB (by simp); have qC := hkC.cell qB (by simp); obtain ⟨c0', c1', c2', c3', c4', cl'⟩ := cell5 hbC)
      | (go_at_call 16; (with_reducible refine (HW2.out _).mono ?_); rintro e wD ⟨v2, rfl, hr2, hkD, hfD⟩; have gD := (gB.new hkC).new hkD; have hbD := hkD.heap hbC (by simp); have qD := hkD.cell qC (by simp); obtain ⟨d0', d1', d2', d3', d4', dl'⟩ := cell5 hbD; have hsm := same4_any wD v1 v2 WL ((Strs.row hr1).keeps hkD) (Strs.row hr2))
      | (go_at_call 14; (with_reducible refine hsm.mono ?_); rintro e wE ⟨rfl, hkE⟩; have gE := gD.new hkE; have hbE := hkE.heap hbD (by simp); have qE := hkE.cell qD (by simp); obtain ⟨e0', e1', e2', e3', e4', el'⟩ := cell5 hbE)
      | (go_at_call 17; (with_reducible refine (works4_true _ gE).mono ?_); rintro e wF ⟨rfl, hkF⟩; have hbF := hkF.heap hbE (by simp); have qF := hkF.cell qE (by simp); obtain ⟨f0', f1', f2', f3', f4', fl'⟩ := cell5 hbF))
  have hKF : Keeps [] w wF := HK.out.drew.trans (hkA.trans (hkB.trans (hkC.trans (hkD.trans (hkE.trans hkF (FSub.refl _ _)) (FSub.refl _ _)) (FSub.refl _ _)) (FSub.refl _ _)) (FSub.refl _ _)) (FSub.refl _ _)
  go_wp2_with fail
  go_ret
  exact ⟨rfl, hKF⟩
end Go.Proofs.YtmjllfohdoiilaaDoor
