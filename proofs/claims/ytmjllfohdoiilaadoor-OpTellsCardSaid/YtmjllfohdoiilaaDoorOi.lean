/-
  The document's Put.
-/
import Derived.Test.YtmjllfohdoiilaaDoorOh
import Derived.Test.YtmjllfohdoiilaaDoorOj
namespace Go.Proofs.YtmjllfohdoiilaaDoor
open Go.RowKit
theorem nums_join (xs ys : List Int) : strOfNums (xs ++ ys) = strOfNums xs ++ strOfNums ys := by
  apply ByteArray.ext; rw [ByteArray.data_append]; simp [strOfNums]
set_option maxHeartbeats 1000000 in
set_option maxRecDepth 100000 in
theorem two4_any (w : World) (n : Int) (n0 : 0 ≤ n) (n1 : n < 65536) : Calls Tryd.prog 29 #[.int .u16 n] w fun e w' => e = .returned (.string (strOfNums [n / 256, n % 256])) ∧ Keeps [] w w' := by
  obtain ⟨m, rfl⟩ := Int.eq_ofNat_of_zero_le n0
  have hcv := fun (W : World) => text2_at (W := W) rfl ((m : Int) / 256) ((m : Int) % 256)
  go_enter Tryd.func29, Tryd.ntmps29
  go_wp2
  go_ret
  exact ⟨rfl, (Keeps.refl _ _).alloc _⟩
set_option maxHeartbeats 4000000 in
set_option maxRecDepth 100000 in
theorem r4Put_000 (w : World) (f o k a b : Int) (hx : (⟨f, o, k, a, b⟩ : Opn).In) (hg : opGood ⟨f, o, k, a, b⟩ = true) (hK : opK f = false) (hA : opA f = false) (hB : opB f = false) :
    Calls Tryd.prog 11 #[.agg #[.int .u8 f, .int .u8 o, .int .u8 k, .int .u16 a, .int .u16 b]] w fun e w' =>
    e = .returned (.tuple #[.string (strOfNums [f, o]), .int .i64 0]) ∧ Keeps [] w w' := by
  have hv := fun w => May_any w f o k a b hx
  have hc := fun w => Of_any w f hx.f0 hx.f1
  rw [hg] at hv
  rw [hK, hA, hB] at hc
  obtain ⟨f0, f1, o0, o1, k0, k1, a0, a1, b0, b1⟩ := hx
  simp only at f0 f1 o0 o1 k0 k1 a0 a1 b0 b1
  have ht1 := fun w => two4_any w a a0 a1
  have ht2 := fun w => two4_any w b b0 b1
  have z1 : (strOfNums [f, o]).size = 2 := strOfNums_size _
  have z2 : (strOfNums [k]).size = 1 := strOfNums_size _
  have z3 : (strOfNums [a / 256, a % 256]).size = 2 := strOfNums_size _
  have z4 : (strOfNums [b / 256, b % 256]).size = 2 := strOfNums_size _
  have hk0 := (Keeps.refl [] w).alloc (.cells #[.int .u8 f, .int .u8 o, .int .u8 k, .int .u16 a, .int .u16 b] 24)
  clear hK hA hB hg
  generalize opM f = M at *
  generalize bs (opNm f) = NM at *
  generalize opIs f = I at *
  generalize strOfNums [a / 256, a % 256] = TA at *
  generalize strOfNums [b / 256, b % 256] = TB at *
  generalize hT0 : strOfNums [f, o] = T0 at *
  generalize hTK : strOfNums [k] = TK at *
  go_enter Tryd.func11, Tryd.ntmps11
  go_wp2_with fail
  refine (hv _).mono ?_; rintro e w1 ⟨rfl, hk1⟩
  have hb := boxed5 hk1
  replace hk1 := hk0.trans hk1 (FSub.refl _ _)
  obtain ⟨c0, c1, c2, c3, c4, cl⟩ := cell5 hb
  go_wp2_with fail
  refine (hc _).mono ?_; rintro e w2 ⟨rfl, hk2⟩
  have hb2 := hk2.heap hb (by simp)
  replace hk2 := hk1.trans hk2 (FSub.refl _ _)
  clear c0 c1 c2 c3 c4 cl hb hk1 hv hc hk0
  obtain ⟨c0, c1, c2, c3, c4, cl⟩ := cell5 hb2
  have hcv := text2_at (W := w2.alloc (.cells #[.int .i64 M, .string NM, .bool false, .bool false, .bool false] 28)) (b := w2.heap.size + 1) (by simp) f o
  rw [hT0] at hcv
  go_wp2_with fail
  go_ret2
  exact ⟨rfl, ((hk2.alloc _).alloc _)⟩
set_option maxHeartbeats 4000000 in
set_option maxRecDepth 100000 in
theorem r4Put_010 (w : World) (f o k a b : Int) (hx : (⟨f, o, k, a, b⟩ : Opn).In) (hg : opGood ⟨f, o, k, a, b⟩ = true) (hK : opK f = false) (hA : opA f = true) (hB : opB f = false) :
    Calls Tryd.prog 11 #[.agg #[.int .u8 f, .int .u8 o, .int .u8 k, .int .u16 a, .int .u16 b]] w fun e w' =>
    e = .returned (.tuple #[.string ((strOfNums [f, o] ++ strOfNums [a / 256, a % 256])), .int .i64 0]) ∧ Keeps [] w w' := by
  have hv := fun w => May_any w f o k a b hx
  have hc := fun w => Of_any w f hx.f0 hx.f1
  rw [hg] at hv
  rw [hK, hA, hB] at hc
  obtain ⟨f0, f1, o0, o1, k0, k1, a0, a1, b0, b1⟩ := hx
  simp only at f0 f1 o0 o1 k0 k1 a0 a1 b0 b1
  have ht1 := fun w => two4_any w a a0 a1
  have ht2 := fun w => two4_any w b b0 b1
  have z1 : (strOfNums [f, o]).size = 2 := strOfNums_size _
  have z2 : (strOfNums [k]).size = 1 := strOfNums_size _
  have z3 : (strOfNums [a / 256, a % 256]).size = 2 := strOfNums_size _
  have z4 : (strOfNums [b / 256, b % 256]).size = 2 := strOfNums_size _
  have hk0 := (Keeps.refl [] w).alloc (.cells #[.int .u8 f, .int .u8 o, .int .u8 k, .int .u16 a, .int .u16 b] 24)
  clear hK hA hB hg
  generalize opM f = M at *
  generalize bs (opNm f) = NM at *
  generalize opIs f = I at *
  generalize strOfNums [a / 256, a % 256] = TA at *
  generalize strOfNums [b / 256, b % 256] = TB at *
  generalize hT0 : strOfNums [f, o] = T0 at *
  generalize hTK : strOfNums [k] = TK at *
  go_enter Tryd.func11, Tryd.ntmps11
  go_wp2_with fail
  refine (hv _).mono ?_; rintro e w1 ⟨rfl, hk1⟩
  have hb := boxed5 hk1
  replace hk1 := hk0.trans hk1 (FSub.refl _ _)
  obtain ⟨c0, c1, c2, c3, c4, cl⟩ := cell5 hb
  go_wp2_with fail
  refine (hc _).mono ?_; rintro e w2 ⟨rfl, hk2⟩
  have hb2 := hk2.heap hb (by simp)
  replace hk2 := hk1.trans hk2 (FSub.refl _ _)
  clear c0 c1 c2 c3 c4 cl hb hk1 hv hc hk0
  obtain ⟨c0, c1, c2, c3, c4, cl⟩ := cell5 hb2
  have hcv := text2_at (W := w2.alloc (.cells #[.int .i64 M, .string NM, .bool false, .bool true, .bool false] 28)) (b := w2.heap.size + 1) (by simp) f o
  rw [hT0] at hcv
  go_wp2_with fail
  refine (ht1 _).mono ?_; rintro e w3 ⟨rfl, hk3⟩
  have hx3 := hk3.heap (heap_alloc_lt (heap_alloc_lt hb2)) (by simp)
  have hq3 := hk3.heap (heap_alloc_lt (heap_alloc_new w2 _)) (by simp)
  replace hk3 := (((hk2.alloc _).alloc _)).trans hk3 (FSub.refl _ _)
  obtain ⟨c0, c1, c2, c3, c4, cl⟩ := cell5 hx3
  obtain ⟨q0, q1, q2, q3, q4, ql⟩ := cell5 hq3
  go_wp2_with fail
  go_ret2
  exact ⟨rfl, hk3⟩
set_option maxHeartbeats 4000000 in
set_option maxRecDepth 100000 in
theorem r4Put_011 (w : World) (f o k a b : Int) (hx : (⟨f, o, k, a, b⟩ : Opn).In) (hg : opGood ⟨f, o, k, a, b⟩ = true) (hK : opK f = false) (hA : opA f = true) (hB : opB f = true) :
    Calls Tryd.prog 11 #[.agg #[.int .u8 f, .int .u8 o, .int .u8 k, .int .u16 a, .int .u16 b]] w fun e w' =>
    e = .returned (.tuple #[.string (((strOfNums [f, o] ++ strOfNums [a / 256, a % 256]) ++ strOfNums [b / 256, b % 256])), .int .i64 0]) ∧ Keeps [] w w' := by
  have hv := fun w => May_any w f o k a b hx
  have hc := fun w => Of_any w f hx.f0 hx.f1
  rw [hg] at hv
  rw [hK, hA, hB] at hc
  obtain ⟨f0, f1, o0, o1, k0, k1, a0, a1, b0, b1⟩ := hx
  simp only at f0 f1 o0 o1 k0 k1 a0 a1 b0 b1
  have ht1 := fun w => two4_any w a a0 a1
  have ht2 := fun w => two4_any w b b0 b1
  have z1 : (strOfNums [f, o]).size = 2 := strOfNums_size _
  have z2 : (strOfNums [k]).size = 1 := strOfNums_size _
  have z3 : (strOfNums [a / 256, a % 256]).size = 2 := strOfNums_size _
  have z4 : (strOfNums [b / 256, b % 256]).size = 2 := strOfNums_size _
  have hk0 := (Keeps.refl [] w).alloc (.cells #[.int .u8 f, .int .u8 o, .int .u8 k, .int .u16 a, .int .u16 b] 24)
  clear hK hA hB hg
  generalize opM f = M at *
  generalize bs (opNm f) = NM at *
  generalize opIs f = I at *
  generalize strOfNums [a / 256, a % 256] = TA at *
  generalize strOfNums [b / 256, b % 256] = TB at *
  generalize hT0 : strOfNums [f, o] = T0 at *
  generalize hTK : strOfNums [k] = TK at *
  go_enter Tryd.func11, Tryd.ntmps11
  go_wp2_with fail
  refine (hv _).mono ?_; rintro e w1 ⟨rfl, hk1⟩
  have hb := boxed5 hk1
  replace hk1 := hk0.trans hk1 (FSub.refl _ _)
  obtain ⟨c0, c1, c2, c3, c4, cl⟩ := cell5 hb
  go_wp2_with fail
  refine (hc _).mono ?_; rintro e w2 ⟨rfl, hk2⟩
  have hb2 := hk2.heap hb (by simp)
  replace hk2 := hk1.trans hk2 (FSub.refl _ _)
  clear c0 c1 c2 c3 c4 cl hb hk1 hv hc hk0
  obtain ⟨c0, c1, c2, c3, c4, cl⟩ := cell5 hb2
  have hcv := text2_at (W := w2.alloc (.cells #[.int .i64 M, .string NM, .bool false, .bool true, .bool true] 28)) (b := w2.heap.size + 1) (by simp) f o
  rw [hT0] at hcv
  go_wp2_with fail
  refine (ht1 _).mono ?_; rintro e w3 ⟨rfl, hk3⟩
  have hx3 := hk3.heap (heap_alloc_lt (heap_alloc_lt hb2)) (by simp)
  have hq3 := hk3.heap (heap_alloc_lt (heap_alloc_new w2 _)) (by simp)
  replace hk3 := (((hk2.alloc _).alloc _)).trans hk3 (FSub.refl _ _)
  obtain ⟨c0, c1, c2, c3, c4, cl⟩ := cell5 hx3
  obtain ⟨q0, q1, q2, q3, q4, ql⟩ := cell5 hq3
  go_wp2_with fail
  refine (ht2 _).mono ?_; rintro e w4 ⟨rfl, hk4⟩
  have hx4 := hk4.heap hx3 (by simp)
  have hq4 := hk4.heap hq3 (by simp)
  replace hk4 := (hk3).trans hk4 (FSub.refl _ _)
  obtain ⟨c0, c1, c2, c3, c4, cl⟩ := cell5 hx4
  obtain ⟨q0, q1, q2, q3, q4, ql⟩ := cell5 hq4
  go_wp2_with fail
  go_ret2
  exact ⟨rfl, hk4⟩
set_option maxHeartbeats 4000000 in
set_option maxRecDepth 100000 in
theorem r4Put_100 (w : World) (f o k a b : Int) (hx : (⟨f, o, k, a, b⟩ : Opn).In) (hg : opGood ⟨f, o, k, a, b⟩ = true) (hK : opK f = true) (hA : opA f = false) (hB : opB f = false) :
    Calls Tryd.prog 11 #[.agg #[.int .u8 f, .int .u8 o, .int .u8 k, .int .u16 a, .int .u16 b]] w fun e w' =>
    e = .returned (.tuple #[.string ((strOfNums [f, o] ++ strOfNums [k])), .int .i64 0]) ∧ Keeps [] w w' := by
  have hv := fun w => May_any w f o k a b hx
  have hc := fun w => Of_any w f hx.f0 hx.f1
  rw [hg] at hv
  rw [hK, hA, hB] at hc
  obtain ⟨f0, f1, o0, o1, k0, k1, a0, a1, b0, b1⟩ := hx
  simp only at f0 f1 o0 o1 k0 k1 a0 a1 b0 b1
  have ht1 := fun w => two4_any w a a0 a1
  have ht2 := fun w => two4_any w b b0 b1
  have z1 : (strOfNums [f, o]).size = 2 := strOfNums_size _
  have z2 : (strOfNums [k]).size = 1 := strOfNums_size _
  have z3 : (strOfNums [a / 256, a % 256]).size = 2 := strOfNums_size _
  have z4 : (strOfNums [b / 256, b % 256]).size = 2 := strOfNums_size _
  have hk0 := (Keeps.refl [] w).alloc (.cells #[.int .u8 f, .int .u8 o, .int .u8 k, .int .u16 a, .int .u16 b] 24)
  clear hK hA hB hg
  generalize opM f = M at *
  generalize bs (opNm f) = NM at *
  generalize opIs f = I at *
  generalize strOfNums [a / 256, a % 256] = TA at *
  generalize strOfNums [b / 256, b % 256] = TB at *
  generalize hT0 : strOfNums [f, o] = T0 at *
  generalize hTK : strOfNums [k] = TK at *
  go_enter Tryd.func11, Tryd.ntmps11
  go_wp2_with fail
  refine (hv _).mono ?_; rintro e w1 ⟨rfl, hk1⟩
  have hb := boxed5 hk1
  replace hk1 := hk0.trans hk1 (FSub.refl _ _)
  obtain ⟨c0, c1, c2, c3, c4, cl⟩ := cell5 hb
  go_wp2_with fail
  refine (hc _).mono ?_; rintro e w2 ⟨rfl, hk2⟩
  have hb2 := hk2.heap hb (by simp)
  replace hk2 := hk1.trans hk2 (FSub.refl _ _)
  clear c0 c1 c2 c3 c4 cl hb hk1 hv hc hk0
  obtain ⟨c0, c1, c2, c3, c4, cl⟩ := cell5 hb2
  have hcv := text2_at (W := w2.alloc (.cells #[.int .i64 M, .string NM, .bool true, .bool false, .bool false] 28)) (b := w2.heap.size + 1) (by simp) f o
  rw [hT0] at hcv
  have hcv2 := text1_at (W := ((w2.alloc (.cells #[.int .i64 M, .string NM, .bool true, .bool false, .bool false] 28)).alloc (.cells #[.int .u8 f, .int .u8 o] 5))) (b := w2.heap.size + 1 + 1) (by simp) k
  rw [hTK] at hcv2
  obtain ⟨d0, d1, d2, d3, d4, dl⟩ := cell5 (heap_alloc_lt (o := .cells #[.int .u8 k] 5) (heap_alloc_lt (o := .cells #[.int .u8 f, .int .u8 o] 5) (heap_alloc_lt (o := .cells #[.int .i64 M, .string NM, .bool true, .bool false, .bool false] 28) hb2)))
  obtain ⟨g0, g1, g2, g3, g4, gl⟩ := cell5 (heap_alloc_lt (o := .cells #[.int .u8 k] 5) (heap_alloc_lt (o := .cells #[.int .u8 f, .int .u8 o] 5) (heap_alloc_new w2 (.cells #[.int .i64 M, .string NM, .bool true, .bool false, .bool false] 28))))
  go_wp2_with fail
  go_ret2
  exact ⟨rfl, (((hk2.alloc _).alloc _).alloc _)⟩
set_option maxHeartbeats 4000000 in
set_option maxRecDepth 100000 in
theorem r4Put_110 (w : World) (f o k a b : Int) (hx : (⟨f, o, k, a, b⟩ : Opn).In) (hg : opGood ⟨f, o, k, a, b⟩ = true) (hK : opK f = true) (hA : opA f = true) (hB : opB f = false) :
    Calls Tryd.prog 11 #[.agg #[.int .u8 f, .int .u8 o, .int .u8 k, .int .u16 a, .int .u16 b]] w fun e w' =>
    e = .returned (.tuple #[.string (((strOfNums [f, o] ++ strOfNums [k]) ++ strOfNums [a / 256, a % 256])), .int .i64 0]) ∧ Keeps [] w w' := by
  have hv := fun w => May_any w f o k a b hx
  have hc := fun w => Of_any w f hx.f0 hx.f1
  rw [hg] at hv
  rw [hK, hA, hB] at hc
  obtain ⟨f0, f1, o0, o1, k0, k1, a0, a1, b0, b1⟩ := hx
  simp only at f0 f1 o0 o1 k0 k1 a0 a1 b0 b1
  have ht1 := fun w => two4_any w a a0 a1
  have ht2 := fun w => two4_any w b b0 b1
  have z1 : (strOfNums [f, o]).size = 2 := strOfNums_size _
  have z2 : (strOfNums [k]).size = 1 := strOfNums_size _
  have z3 : (strOfNums [a / 256, a % 256]).size = 2 := strOfNums_size _
  have z4 : (strOfNums [b / 256, b % 256]).size = 2 := strOfNums_size _
  have hk0 := (Keeps.refl [] w).alloc (.cells #[.int .u8 f, .int .u8 o, .int .u8 k, .int .u16 a, .int .u16 b] 24)
  clear hK hA hB hg
  generalize opM f = M at *
  generalize bs (opNm f) = NM at *
  generalize opIs f = I at *
  generalize strOfNums [a / 256, a % 256] = TA at *
  generalize strOfNums [b / 256, b % 256] = TB at *
  generalize hT0 : strOfNums [f, o] = T0 at *
  generalize hTK : strOfNums [k] = TK at *
  go_enter Tryd.func11, Tryd.ntmps11
  go_wp2_with fail
  refine (hv _).mono ?_; rintro e w1 ⟨rfl, hk1⟩
  have hb := boxed5 hk1
  replace hk1 := hk0.trans hk1 (FSub.refl _ _)
  obtain ⟨c0, c1, c2, c3, c4, cl⟩ := cell5 hb
  go_wp2_with fail
  refine (hc _).mono ?_; rintro e w2 ⟨rfl, hk2⟩
  have hb2 := hk2.heap hb (by simp)
  replace hk2 := hk1.trans hk2 (FSub.refl _ _)
  clear c0 c1 c2 c3 c4 cl hb hk1 hv hc hk0
  obtain ⟨c0, c1, c2, c3, c4, cl⟩ := cell5 hb2
  have hcv := text2_at (W := w2.alloc (.cells #[.int .i64 M, .string NM, .bool true, .bool true, .bool false] 28)) (b := w2.heap.size + 1) (by simp) f o
  rw [hT0] at hcv
  have hcv2 := text1_at (W := ((w2.alloc (.cells #[.int .i64 M, .string NM, .bool true, .bool true, .bool false] 28)).alloc (.cells #[.int .u8 f, .int .u8 o] 5))) (b := w2.heap.size + 1 + 1) (by simp) k
  rw [hTK] at hcv2
  obtain ⟨d0, d1, d2, d3, d4, dl⟩ := cell5 (heap_alloc_lt (o := .cells #[.int .u8 k] 5) (heap_alloc_lt (o := .cells #[.int .u8 f, .int .u8 o] 5) (heap_alloc_lt (o := .cells #[.int .i64 M, .string NM, .bool true, .bool true, .bool false] 28) hb2)))
  obtain ⟨g0, g1, g2, g3, g4, gl⟩ := cell5 (heap_alloc_lt (o := .cells #[.int .u8 k] 5) (heap_alloc_lt (o := .cells #[.int .u8 f, .int .u8 o] 5) (heap_alloc_new w2 (.cells #[.int .i64 M, .string NM, .bool true, .bool true, .bool false] 28))))
  go_wp2_with fail
  refine (ht1 _).mono ?_; rintro e w3 ⟨rfl, hk3⟩
  have hx3 := hk3.heap (heap_alloc_lt (heap_alloc_lt (heap_alloc_lt hb2))) (by simp)
  have hq3 := hk3.heap (heap_alloc_lt (heap_alloc_lt (heap_alloc_new w2 _))) (by simp)
  replace hk3 := ((((hk2.alloc _).alloc _).alloc _)).trans hk3 (FSub.refl _ _)
  obtain ⟨c0, c1, c2, c3, c4, cl⟩ := cell5 hx3
  obtain ⟨q0, q1, q2, q3, q4, ql⟩ := cell5 hq3
  go_wp2_with fail
  go_ret2
  exact ⟨rfl, hk3⟩
set_option maxHeartbeats 4000000 in
set_option maxRecDepth 100000 in
theorem r4Put_111 (w : World) (f o k a b : Int) (hx : (⟨f, o, k, a, b⟩ : Opn).In) (hg : opGood ⟨f, o, k, a, b⟩ = true) (hK : opK f = true) (hA : opA f = true) (hB : opB f = true) :
    Calls Tryd.prog 11 #[.agg #[.int .u8 f, .int .u8 o, .int .u8 k, .int .u16 a, .int .u16 b]] w fun e w' =>
    e = .returned (.tuple #[.string ((((strOfNums [f, o] ++ strOfNums [k]) ++ strOfNums [a / 256, a % 256]) ++ strOfNums [b / 256, b % 256])), .int .i64 0]) ∧ Keeps [] w w' := by
  have hv := fun w => May_any w f o k a b hx
  have hc := fun w => Of_any w f hx.f0 hx.f1
  rw [hg] at hv
  rw [hK, hA, hB] at hc
  obtain ⟨f0, f1, o0, o1, k0, k1, a0, a1, b0, b1⟩ := hx
  simp only at f0 f1 o0 o1 k0 k1 a0 a1 b0 b1
  have ht1 := fun w => two4_any w a a0 a1
  have ht2 := fun w => two4_any w b b0 b1
  have z1 : (strOfNums [f, o]).size = 2 := strOfNums_size _
  have z2 : (strOfNums [k]).size = 1 := strOfNums_size _
  have z3 : (strOfNums [a / 256, a % 256]).size = 2 := strOfNums_size _
  have z4 : (strOfNums [b / 256, b % 256]).size = 2 := strOfNums_size _
  have hk0 := (Keeps.refl [] w).alloc (.cells #[.int .u8 f, .int .u8 o, .int .u8 k, .int .u16 a, .int .u16 b] 24)
  clear hK hA hB hg
  generalize opM f = M at *
  generalize bs (opNm f) = NM at *
  generalize opIs f = I at *
  generalize strOfNums [a / 256, a % 256] = TA at *
  generalize strOfNums [b / 256, b % 256] = TB at *
  generalize hT0 : strOfNums [f, o] = T0 at *
  generalize hTK : strOfNums [k] = TK at *
  go_enter Tryd.func11, Tryd.ntmps11
  go_wp2_with fail
  refine (hv _).mono ?_; rintro e w1 ⟨rfl, hk1⟩
  have hb := boxed5 hk1
  replace hk1 := hk0.trans hk1 (FSub.refl _ _)
  obtain ⟨c0, c1, c2, c3, c4, cl⟩ := cell5 hb
  go_wp2_with fail
  refine (hc _).mono ?_; rintro e w2 ⟨rfl, hk2⟩
  have hb2 := hk2.heap hb (by simp)
  replace hk2 := hk1.trans hk2 (FSub.refl _ _)
  clear c0 c1 c2 c3 c4 cl hb hk1 hv hc hk0
  obtain ⟨c0, c1, c2, c3, c4, cl⟩ := cell5 hb2
  have hcv := text2_at (W := w2.alloc (.cells #[.int .i64 M, .string NM, .bool true, .bool true, .bool true] 28)) (b := w2.heap.size + 1) (by simp) f o
  rw [hT0] at hcv
  have hcv2 := text1_at (W := ((w2.alloc (.cells #[.int .i64 M, .string NM, .bool true, .bool true, .bool true] 28)).alloc (.cells #[.int .u8 f, .int .u8 o] 5))) (b := w2.heap.size + 1 + 1) (by simp) k
  rw [hTK] at hcv2
  obtain ⟨d0, d1, d2, d3, d4, dl⟩ := cell5 (heap_alloc_lt (o := .cells #[.int .u8 k] 5) (heap_alloc_lt (o := .cells #[.int .u8 f, .int .u8 o] 5) (heap_alloc_lt (o := .cells #[.int .i64 M, .string NM, .bool true, .bool true, .bool true] 28) hb2)))
  obtain ⟨g0, g1, g2, g3, g4, gl⟩ := cell5 (heap_alloc_lt (o := .cells #[.int .u8 k] 5) (heap_alloc_lt (o := .cells #[.int .u8 f, .int .u8 o] 5) (heap_alloc_new w2 (.cells #[.int .i64 M, .string NM, .bool true, .bool true, .bool true] 28))))
  go_wp2_with fail
  refine (ht1 _).mono ?_; rintro e w3 ⟨rfl, hk3⟩
  have hx3 := hk3.heap (heap_alloc_lt (heap_alloc_lt (heap_alloc_lt hb2))) (by simp)
  have hq3 := hk3.heap (heap_alloc_lt (heap_alloc_lt (heap_alloc_new w2 _))) (by simp)
  replace hk3 := ((((hk2.alloc _).alloc _).alloc _)).trans hk3 (FSub.refl _ _)
  obtain ⟨c0, c1, c2, c3, c4, cl⟩ := cell5 hx3
  obtain ⟨q0, q1, q2, q3, q4, ql⟩ := cell5 hq3
  go_wp2_with fail
  refine (ht2 _).mono ?_; rintro e w4 ⟨rfl, hk4⟩
  have hx4 := hk4.heap hx3 (by simp)
  have hq4 := hk4.heap hq3 (by simp)
  replace hk4 := (hk3).trans hk4 (FSub.refl _ _)
  obtain ⟨c0, c1, c2, c3, c4, cl⟩ := cell5 hx4
  obtain ⟨q0, q1, q2, q3, q4, ql⟩ := cell5 hq4
  go_wp2_with fail
  go_ret2
  exact ⟨rfl, hk4⟩
theorem r4Put_good (w : World) (f o k a b : Int) (hx : (⟨f, o, k, a, b⟩ : Opn).In) (hg : opGood ⟨f, o, k, a, b⟩ = true) :
    Calls Tryd.prog 11 #[.agg #[.int .u8 f, .int .u8 o, .int .u8 k, .int .u16 a, .int .u16 b]] w fun e w' =>
    e = .returned (.tuple #[.string (strOfNums (opPut ⟨f, o, k, a, b⟩)), .int .i64 0]) ∧ Keeps [] w w' := by
  rcases need_ways ((good_iff _).1 hg).is with ⟨hK, hA, hB⟩ | ⟨hK, hA, hB⟩ | ⟨hK, hA, hB⟩ | ⟨hK, hA, hB⟩ | ⟨hK, hA, hB⟩ | ⟨hK, hA, hB⟩
  · have h := r4Put_000 w f o k a b hx hg hK hA hB
    have e : opPut ⟨f, o, k, a, b⟩ = [f, o] := by simp only [opPut, hK, hA, hB]; rfl
    rw [e]
    try simp only [nums_join]
    exact h
  · have h := r4Put_010 w f o k a b hx hg hK hA hB
    have e : opPut ⟨f, o, k, a, b⟩ = [f, o] ++ [a / 256, a % 256] := by simp only [opPut, hK, hA, hB]; rfl
    rw [e]
    try simp only [nums_join]
    exact h
  · have h := r4Put_011 w f o k a b hx hg hK hA hB
    have e : opPut ⟨f, o, k, a, b⟩ = [f, o] ++ [a / 256, a % 256] ++ [b / 256, b % 256] := by simp only [opPut, hK, hA, hB]; rfl
    rw [e]
    try simp only [nums_join]
    exact h
  · have h := r4Put_100 w f o k a b hx hg hK hA hB
    have e : opPut ⟨f, o, k, a, b⟩ = [f, o] ++ [k] := by simp only [opPut, hK, hA, hB]; rfl
    rw [e]
    try simp only [nums_join]
    exact h
  · have h := r4Put_110 w f o k a b hx hg hK hA hB
    have e : opPut ⟨f, o, k, a, b⟩ = [f, o] ++ [k] ++ [a / 256, a % 256] := by simp only [opPut, hK, hA, hB]; rfl
    rw [e]
    try simp only [nums_join]
    exact h
  · have h := r4Put_111 w f o k a b hx hg hK hA hB
    have e : opPut ⟨f, o, k, a, b⟩ = [f, o] ++ [k] ++ [a / 256, a % 256] ++ [b / 256, b % 256] := by simp only [opPut, hK, hA, hB]; rfl
    rw [e]
    try simp only [nums_join]
    exact h
theorem r4Put_bad (w : World) (f o k a b : Int) (hx : (⟨f, o, k, a, b⟩ : Opn).In) (hg : opGood ⟨f, o, k, a, b⟩ = false) :
    Calls Tryd.prog 11 #[.agg #[.int .u8 f, .int .u8 o, .int .u8 k, .int .u16 a, .int .u16 b]] w fun e w' =>
    e = .returned (.tuple #[.string ⟨#[]⟩, .int .i64 4]) ∧ Keeps [] w w' := by
  have hv := fun w => May_any w f o k a b hx
  rw [hg] at hv
  have hk0 := (Keeps.refl [] w).alloc (.cells #[.int .u8 f, .int .u8 o, .int .u8 k, .int .u16 a, .int .u16 b] 24)
  go_enter Tryd.func11, Tryd.ntmps11
  go_wp2_with fail
  refine (hv _).mono ?_; rintro e w1 ⟨rfl, hk1⟩
  go_wp2_with fail
  go_ret2
  exact ⟨rfl, hk0.trans hk1 (FSub.refl _ _)⟩
theorem r4Put_any (w : World) (f o k a b : Int) (hx : (⟨f, o, k, a, b⟩ : Opn).In) :
    Calls Tryd.prog 11 #[.agg #[.int .u8 f, .int .u8 o, .int .u8 k, .int .u16 a, .int .u16 b]] w fun e w' =>
    e = .returned (.tuple #[.string (if opGood ⟨f, o, k, a, b⟩ then strOfNums (opPut ⟨f, o, k, a, b⟩) else ⟨#[]⟩), .int .i64 (if opGood ⟨f, o, k, a, b⟩ then 0 else 4)]) ∧ Keeps [] w w' := by
  rcases bool_two (opGood ⟨f, o, k, a, b⟩) with hg | hg
  · have h := r4Put_good w f o k a b hx hg
    simp only [hg, if_true]; exact h
  · have h := r4Put_bad w f o k a b hx hg
    simp only [hg, if_false, Bool.false_eq_true]; exact h
end Go.Proofs.YtmjllfohdoiilaaDoor
