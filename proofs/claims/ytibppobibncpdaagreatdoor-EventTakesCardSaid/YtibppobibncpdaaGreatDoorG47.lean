/-
  The document's Take.
-/
import Derived.Test.YtibppobibncpdaaGreatDoorG21
set_option linter.unusedSimpArgs false
set_option linter.unusedVariables false
namespace Go.Proofs.YtibppobibncpdaaGreatDoor
open Go.RowKit
set_option maxHeartbeats 8000000 in
set_option maxRecDepth 100000 in
theorem rtake_000 (w : World) (S RL : ByteArray) (y0 y1 : Int) (G : Bool) (hS : S.size = 2 + RL.size) (hmax : RL.size ≤ 1000000)
    (hi0 : 0 < S.size) (hb0 : ((S[0]'hi0).toNat : Int) = y0) (l0 : 0 ≤ y0) (u0 : y0 < 256) (hi1 : 1 < S.size) (hb1 : ((S[1]'hi1).toNat : Int) = y1) (l1 : 0 ≤ y1) (u1 : y1 < 256) (hrest : S.extract 2 S.size = RL)
    (is : opIs y0 = true) (hK : opK y0 = false) (hA : opA y0 = false) (hB : opB y0 = false) (hG : opGood ⟨y0, y1, 0, 0, 0⟩ = G)
    (R5 : Opn) (RR : ByteArray) (E : Int) (h2 : G = true → R5 = ⟨y0, y1, 0, 0, 0⟩ ∧ RR = RL ∧ E = 0) (h3 : G = false → R5 = opZero ∧ RR = ⟨#[]⟩ ∧ E = 4) :
    Calls Tryz.prog 46 #[.string S] w fun e w' => e = .returned (.tuple #[R5.val, .string RR, .int .i64 E]) ∧ Keeps [] w w' := by
  have hin : (⟨y0, y1, 0, 0, 0⟩ : Opn).In := by refine ⟨?_, ?_, ?_, ?_, ?_, ?_, ?_, ?_, ?_, ?_⟩ <;> simp only <;> omega
  have hv := fun w => May_any w y0 y1 0 0 0 hin
  rw [hG] at hv
  have hf := fun w => Of_any w y0 l0 u0
  rw [is, hK, hA, hB] at hf
  have z0 : ¬ (S.size : Int) < 2 := by omega
  have z1 : (S.size : Int) ≤ 2000000 := by omega
  have z2 : ((S.size : Int) == 0) = false := by rw [beq_eq_false_iff_ne]; omega
  have z3 : 2 ≤ S.size := by omega
  generalize opM y0 = M at *
  generalize bs (opNm y0) = NM at *
  have H2 := Lib.hid h2; have H3 := Lib.hid h3
  have hk0 := (Keeps.refl [] w).alloc (.cells #[.int .u8 0, .int .u8 0, .int .u8 0, .int .u16 0, .int .u16 0] 24)
  have hb0' := heap_alloc_new w (.cells #[.int .u8 0, .int .u8 0, .int .u8 0, .int .u16 0, .int .u16 0] 24)
  clear h2 h3 is hK hA hB hG hin hS
  go_enter Tryz.func46, Tryz.ntmps46
  go_wp2_with fail
  refine (hf _).mono ?_; rintro e w1 ⟨rfl, hk1⟩
  have hD := hk1.heap hb0' (by simp)
  have hKK := hk0.trans hk1 (FSub.refl _ _)
  obtain ⟨c0, c1, c2, c3, c4, cl⟩ := cell5 hD
  clear hb0' hk0 hk1 hf
  go_wp2_with fail
  go_region
  clear c0 c1 c2 c3 c4 cl
  go_wp2_with fail
  have e1 : (w1.alloc (.cells #[.int .i64 M, .string NM, .bool false, .bool false, .bool false] 97)).heap.size = w1.heap.size + 1 := by simp
  have hX : (((w1.alloc (.cells #[.int .i64 M, .string NM, .bool false, .bool false, .bool false] 97)).alloc (.cells #[.int .u8 y0, .int .u8 y1, .int .u8 0, .int .u16 0, .int .u16 0] 24)).drew).heap[w1.heap.size + 1]? = some (.cells #[.int .u8 y0, .int .u8 y1, .int .u8 0, .int .u16 0, .int .u16 0] 24 (0, 0)) := by rw [← e1]; exact heap_alloc_new _ _
  have hQ : (((w1.alloc (.cells #[.int .i64 M, .string NM, .bool false, .bool false, .bool false] 97)).alloc (.cells #[.int .u8 y0, .int .u8 y1, .int .u8 0, .int .u16 0, .int .u16 0] 24)).drew).heap[w1.heap.size]? = some (.cells #[.int .i64 M, .string NM, .bool false, .bool false, .bool false] 97 (0, 0)) := heap_alloc_lt (heap_alloc_new w1 _)
  have hD2 : (((w1.alloc (.cells #[.int .i64 M, .string NM, .bool false, .bool false, .bool false] 97)).alloc (.cells #[.int .u8 y0, .int .u8 y1, .int .u8 0, .int .u16 0, .int .u16 0] 24)).drew).heap[w.heap.size]? = some (.cells #[.int .u8 0, .int .u8 0, .int .u8 0, .int .u16 0, .int .u16 0] 24 (0, 0)) := heap_alloc_lt (heap_alloc_lt hD)
  have hK2 : Keeps [] w (((w1.alloc (.cells #[.int .i64 M, .string NM, .bool false, .bool false, .bool false] 97)).alloc (.cells #[.int .u8 y0, .int .u8 y1, .int .u8 0, .int .u16 0, .int .u16 0] 24)).drew) := ((hKK.alloc _).alloc _).drew
  have hXQ : w1.heap.size + 1 ≠ w1.heap.size := by omega
  have hXD : w1.heap.size + 1 ≠ w.heap.size := by have := lt_of_block hD; omega
  have hDX : w.heap.size ≠ w1.heap.size + 1 := by omega
  have hle : w.heap.size ≤ w1.heap.size + 1 := by have := lt_of_block hD; omega
  clear e1 hD hKK
  generalize ((w1.alloc (.cells #[.int .i64 M, .string NM, .bool false, .bool false, .bool false] 97)).alloc (.cells #[.int .u8 y0, .int .u8 y1, .int .u8 0, .int .u16 0, .int .u16 0] 24)).drew = W at *
  generalize w1.heap.size + 1 = X at *
  generalize w1.heap.size = Q at *
  refine (hv _).mono ?_; rintro e w8 ⟨rfl, hk8⟩
  have hX8 := hk8.heap hX (by simp)
  have hD8 := hk8.heap hD2 (by simp)
  have hK8 := hK2.trans hk8 (FSub.refl _ _)
  obtain ⟨c0, c1, c2, c3, c4, cl⟩ := cell5 hX8
  obtain ⟨y0', y1', y2', y3', y4', yl⟩ := cell5 hD8
  obtain ⟨d0, d1, d2, d3, d4⟩ := thaw5 hD8
  clear hX hQ hD2 hK2 hk8 hX8 hv
  cases G with
  | true =>
    obtain ⟨rfl, rfl, rfl⟩ := H2.out rfl
    have hr := put5 hD8 (.int .u8 y0) (.int .u8 y1) (.int .u8 0) (.int .u16 0) (.int .u16 0)
    have hkk := hK8.set5 (b := w.heap.size) (.inr (Nat.le_refl _)) (.int .u8 y0) (.int .u8 y1) (.int .u8 0) (.int .u16 0) (.int .u16 0)
    have HR := Lib.hid hr; have HKK := Lib.hid hkk
    clear hr hkk hD8 hK8 H2 H3
    go_wp2_with fail
    go_region
    go_wp2_with fail
    try simp only [Exit.inBlock, Exit.then]
    exact bodyPost_ret (results_op3 rfl _ _ _ rfl (heap_drew HR.out)) rfl ⟨rfl, HKK.out.drew⟩
  | false =>
    obtain ⟨rfl, rfl, rfl⟩ := H3.out rfl
    have hr := put5 hD8 (.int .u8 0) (.int .u8 0) (.int .u8 0) (.int .u16 0) (.int .u16 0)
    have hkk := hK8.set5 (b := w.heap.size) (.inr (Nat.le_refl _)) (.int .u8 0) (.int .u8 0) (.int .u8 0) (.int .u16 0) (.int .u16 0)
    have HR := Lib.hid hr; have HKK := Lib.hid hkk
    clear hr hkk hD8 hK8 H2 H3
    go_wp2_with fail
    try simp only [Exit.inBlock, Exit.then]
    exact bodyPost_ret (results_op3 rfl _ _ _ rfl HR.out) rfl ⟨rfl, HKK.out⟩
set_option maxHeartbeats 8000000 in
set_option maxRecDepth 100000 in
theorem rshort_000 (w : World) (S : ByteArray) (y0 : Int) (hS : S.size < 2) (hi0 : 0 < S.size) (hb0 : ((S[0]'hi0).toNat : Int) = y0) (l0 : 0 ≤ y0) (u0 : y0 < 256)
    (is : opIs y0 = true) (hK : opK y0 = false) (hA : opA y0 = false) (hB : opB y0 = false) :
    Calls Tryz.prog 46 #[.string S] w fun e w' => e = .returned (.tuple #[opZero.val, .string ⟨#[]⟩, .int .i64 5]) ∧ Keeps [] w w' := by
  have hf := fun w => Of_any w y0 l0 u0
  rw [is, hK, hA, hB] at hf
  have z0 : (S.size : Int) < 2 := by omega
  have z1 : (S.size : Int) ≤ 2000000 := by omega
  have z2 : ((S.size : Int) == 0) = false := by rw [beq_eq_false_iff_ne]; omega
  generalize opM y0 = M at *
  generalize bs (opNm y0) = NM at *
  have hk0 := (Keeps.refl [] w).alloc (.cells #[.int .u8 0, .int .u8 0, .int .u8 0, .int .u16 0, .int .u16 0] 24)
  have hb0' := heap_alloc_new w (.cells #[.int .u8 0, .int .u8 0, .int .u8 0, .int .u16 0, .int .u16 0] 24)
  clear is hK hA hB hS
  go_enter Tryz.func46, Tryz.ntmps46
  go_wp2_with fail
  refine (hf _).mono ?_; rintro e w1 ⟨rfl, hk1⟩
  have hD := heap_alloc_lt (o := .cells #[.int .i64 M, .string NM, .bool false, .bool false, .bool false] 97) (hk1.heap hb0' (by simp))
  have hKK := (hk0.trans hk1 (FSub.refl _ _)).alloc (.cells #[.int .i64 M, .string NM, .bool false, .bool false, .bool false] 97)
  have hQ := heap_alloc_new w1 (.cells #[.int .i64 M, .string NM, .bool false, .bool false, .bool false] 97)
  obtain ⟨c0, c1, c2, c3, c4, cl⟩ := cell5 hD
  obtain ⟨d0, d1, d2, d3, d4⟩ := thaw5 hD
  obtain ⟨q0, q1, q2, q3, q4, ql⟩ := cell5 hQ
  have hr := put5 hD (.int .u8 0) (.int .u8 0) (.int .u8 0) (.int .u16 0) (.int .u16 0)
  have hkk := hKK.set5 (b := w.heap.size) (.inr (Nat.le_refl _)) (.int .u8 0) (.int .u8 0) (.int .u8 0) (.int .u16 0) (.int .u16 0)
  have HR := Lib.hid hr; have HKK := Lib.hid hkk
  clear hb0' hk0 hk1 hf hD hKK hr hkk hQ
  go_wp2_with fail
  try simp only [Exit.inBlock, Exit.then]
  exact bodyPost_ret (results_op3 rfl _ _ _ rfl HR.out) rfl ⟨rfl, HKK.out⟩
set_option maxHeartbeats 8000000 in
set_option maxRecDepth 100000 in
theorem rtake_010 (w : World) (S RL : ByteArray) (y0 y1 y2 y3 : Int) (G : Bool) (hS : S.size = 4 + RL.size) (hmax : RL.size ≤ 1000000)
    (hi0 : 0 < S.size) (hb0 : ((S[0]'hi0).toNat : Int) = y0) (l0 : 0 ≤ y0) (u0 : y0 < 256) (hi1 : 1 < S.size) (hb1 : ((S[1]'hi1).toNat : Int) = y1) (l1 : 0 ≤ y1) (u1 : y1 < 256) (hi2 : 2 < S.size) (hb2 : ((S[2]'hi2).toNat : Int) = y2) (_l2 : 0 ≤ y2) (u2 : y2 < 256) (hi3 : 3 < S.size) (hb3 : ((S[3]'hi3).toNat : Int) = y3) (_l3 : 0 ≤ y3) (u3 : y3 < 256) (hrest : S.extract 4 S.size = RL)
    (is : opIs y0 = true) (hK : opK y0 = false) (hA : opA y0 = true) (hB : opB y0 = false) (hG : opGood ⟨y0, y1, 0, (y2 * 256 + y3), 0⟩ = G)
    (R5 : Opn) (RR : ByteArray) (E : Int) (h2 : G = true → R5 = ⟨y0, y1, 0, (y2 * 256 + y3), 0⟩ ∧ RR = RL ∧ E = 0) (h3 : G = false → R5 = opZero ∧ RR = ⟨#[]⟩ ∧ E = 4) :
    Calls Tryz.prog 46 #[.string S] w fun e w' => e = .returned (.tuple #[R5.val, .string RR, .int .i64 E]) ∧ Keeps [] w w' := by
  have hin : (⟨y0, y1, 0, (y2 * 256 + y3), 0⟩ : Opn).In := by refine ⟨?_, ?_, ?_, ?_, ?_, ?_, ?_, ?_, ?_, ?_⟩ <;> simp only <;> omega
  have hv := fun w => May_any w y0 y1 0 (y2 * 256 + y3) 0 hin
  rw [hG] at hv
  have hf := fun w => Of_any w y0 l0 u0
  rw [is, hK, hA, hB] at hf
  have z0 : ¬ (S.size : Int) < 4 := by omega
  have z1 : (S.size : Int) ≤ 2000000 := by omega
  have z2 : ((S.size : Int) == 0) = false := by rw [beq_eq_false_iff_ne]; omega
  have z3 : 4 ≤ S.size := by omega
  generalize opM y0 = M at *
  generalize bs (opNm y0) = NM at *
  have H2 := Lib.hid h2; have H3 := Lib.hid h3
  have hk0 := (Keeps.refl [] w).alloc (.cells #[.int .u8 0, .int .u8 0, .int .u8 0, .int .u16 0, .int .u16 0] 24)
  have hb0' := heap_alloc_new w (.cells #[.int .u8 0, .int .u8 0, .int .u8 0, .int .u16 0, .int .u16 0] 24)
  clear h2 h3 is hK hA hB hG hin hS
  go_enter Tryz.func46, Tryz.ntmps46
  go_wp2_with fail
  refine (hf _).mono ?_; rintro e w1 ⟨rfl, hk1⟩
  have hD := hk1.heap hb0' (by simp)
  have hKK := hk0.trans hk1 (FSub.refl _ _)
  obtain ⟨c0, c1, c2, c3, c4, cl⟩ := cell5 hD
  clear hb0' hk0 hk1 hf
  go_wp2_with fail
  go_region
  clear c0 c1 c2 c3 c4 cl
  go_wp2_with fail
  have e1 : (w1.alloc (.cells #[.int .i64 M, .string NM, .bool false, .bool true, .bool false] 97)).heap.size = w1.heap.size + 1 := by simp
  have hX : (((w1.alloc (.cells #[.int .i64 M, .string NM, .bool false, .bool true, .bool false] 97)).alloc (.cells #[.int .u8 y0, .int .u8 y1, .int .u8 0, .int .u16 0, .int .u16 0] 24)).drew).heap[w1.heap.size + 1]? = some (.cells #[.int .u8 y0, .int .u8 y1, .int .u8 0, .int .u16 0, .int .u16 0] 24 (0, 0)) := by rw [← e1]; exact heap_alloc_new _ _
  have hQ : (((w1.alloc (.cells #[.int .i64 M, .string NM, .bool false, .bool true, .bool false] 97)).alloc (.cells #[.int .u8 y0, .int .u8 y1, .int .u8 0, .int .u16 0, .int .u16 0] 24)).drew).heap[w1.heap.size]? = some (.cells #[.int .i64 M, .string NM, .bool false, .bool true, .bool false] 97 (0, 0)) := heap_alloc_lt (heap_alloc_new w1 _)
  have hD2 : (((w1.alloc (.cells #[.int .i64 M, .string NM, .bool false, .bool true, .bool false] 97)).alloc (.cells #[.int .u8 y0, .int .u8 y1, .int .u8 0, .int .u16 0, .int .u16 0] 24)).drew).heap[w.heap.size]? = some (.cells #[.int .u8 0, .int .u8 0, .int .u8 0, .int .u16 0, .int .u16 0] 24 (0, 0)) := heap_alloc_lt (heap_alloc_lt hD)
  have hK2 : Keeps [] w (((w1.alloc (.cells #[.int .i64 M, .string NM, .bool false, .bool true, .bool false] 97)).alloc (.cells #[.int .u8 y0, .int .u8 y1, .int .u8 0, .int .u16 0, .int .u16 0] 24)).drew) := ((hKK.alloc _).alloc _).drew
  have hXQ : w1.heap.size + 1 ≠ w1.heap.size := by omega
  have hXD : w1.heap.size + 1 ≠ w.heap.size := by have := lt_of_block hD; omega
  have hDX : w.heap.size ≠ w1.heap.size + 1 := by omega
  have hle : w.heap.size ≤ w1.heap.size + 1 := by have := lt_of_block hD; omega
  clear e1 hD hKK
  generalize ((w1.alloc (.cells #[.int .i64 M, .string NM, .bool false, .bool true, .bool false] 97)).alloc (.cells #[.int .u8 y0, .int .u8 y1, .int .u8 0, .int .u16 0, .int .u16 0] 24)).drew = W at *
  generalize w1.heap.size + 1 = X at *
  generalize w1.heap.size = Q at *
  obtain ⟨c0, c1, c2, c3, c4, cl⟩ := cell5 hX
  obtain ⟨d0, d1, d2, d3, d4⟩ := thaw5 hX
  obtain ⟨q0, q1, q2, q3, q4, ql⟩ := cell5 hQ
  have m1 : 0 ≤ y2 * 256 := by omega
  have m2 : y2 * 256 < 65536 := by omega
  have m3 : 0 ≤ y2 * 256 + y3 := by omega
  have m4 : y2 * 256 + y3 < 65536 := by omega
  have hX2 := heap_drew (set5_3 hX (.int .u16 (y2 * 256 + y3)))
  have hQ2 := heap_drew (heap_set_other (i := 3) hQ hXQ (.int .u16 (y2 * 256 + y3)))
  have hD3 := heap_drew (heap_set_other (i := 3) hD2 hXD (.int .u16 (y2 * 256 + y3)))
  have hK3 := (hK2.setCell ⟨X, 3, none⟩ (.int .u16 (y2 * 256 + y3)) (.inr hle)).drew
  obtain ⟨g0, g1, g2, g3, g4, gl⟩ := cell5 hX2
  obtain ⟨p0, p1, p2, p3, p4, pl⟩ := cell5 hQ2
  have HX2 := Lib.hid hX2; have HQ2 := Lib.hid hQ2; have HD3 := Lib.hid hD3; have HK3 := Lib.hid hK3
  clear hX hQ hD2 hK2 hX2 hQ2 hD3 hK3
  go_region
  go_wp2_with fail
  have hX := HX2.out; have hQ := HQ2.out; have hD2 := HD3.out; have hK2 := HK3.out
  clear HX2 HQ2 HD3 HK3 c0 c1 c2 c3 c4 cl d0 d1 d2 d3 d4 q0 q1 q2 q3 q4 ql g0 g1 g2 g3 g4 gl p0 p1 p2 p3 p4 pl m1 m2 m3 m4
  generalize (W.setCell ⟨X, 3, none⟩ (.int .u16 (y2 * 256 + y3))).drew = W3 at *
  refine (hv _).mono ?_; rintro e w8 ⟨rfl, hk8⟩
  have hX8 := hk8.heap hX (by simp)
  have hD8 := hk8.heap hD2 (by simp)
  have hK8 := hK2.trans hk8 (FSub.refl _ _)
  obtain ⟨c0, c1, c2, c3, c4, cl⟩ := cell5 hX8
  obtain ⟨y0', y1', y2', y3', y4', yl⟩ := cell5 hD8
  obtain ⟨d0, d1, d2, d3, d4⟩ := thaw5 hD8
  clear hX hQ hD2 hK2 hk8 hX8 hv
  cases G with
  | true =>
    obtain ⟨rfl, rfl, rfl⟩ := H2.out rfl
    have hr := put5 hD8 (.int .u8 y0) (.int .u8 y1) (.int .u8 0) (.int .u16 (y2 * 256 + y3)) (.int .u16 0)
    have hkk := hK8.set5 (b := w.heap.size) (.inr (Nat.le_refl _)) (.int .u8 y0) (.int .u8 y1) (.int .u8 0) (.int .u16 (y2 * 256 + y3)) (.int .u16 0)
    have HR := Lib.hid hr; have HKK := Lib.hid hkk
    clear hr hkk hD8 hK8 H2 H3
    go_wp2_with fail
    go_region
    go_wp2_with fail
    try simp only [Exit.inBlock, Exit.then]
    exact bodyPost_ret (results_op3 rfl _ _ _ rfl (heap_drew HR.out)) rfl ⟨rfl, HKK.out.drew⟩
  | false =>
    obtain ⟨rfl, rfl, rfl⟩ := H3.out rfl
    have hr := put5 hD8 (.int .u8 0) (.int .u8 0) (.int .u8 0) (.int .u16 0) (.int .u16 0)
    have hkk := hK8.set5 (b := w.heap.size) (.inr (Nat.le_refl _)) (.int .u8 0) (.int .u8 0) (.int .u8 0) (.int .u16 0) (.int .u16 0)
    have HR := Lib.hid hr; have HKK := Lib.hid hkk
    clear hr hkk hD8 hK8 H2 H3
    go_wp2_with fail
    try simp only [Exit.inBlock, Exit.then]
    exact bodyPost_ret (results_op3 rfl _ _ _ rfl HR.out) rfl ⟨rfl, HKK.out⟩
set_option maxHeartbeats 8000000 in
set_option maxRecDepth 100000 in
theorem rshort_010 (w : World) (S : ByteArray) (y0 : Int) (hS : S.size < 4) (hi0 : 0 < S.size) (hb0 : ((S[0]'hi0).toNat : Int) = y0) (l0 : 0 ≤ y0) (u0 : y0 < 256)
    (is : opIs y0 = true) (hK : opK y0 = false) (hA : opA y0 = true) (hB : opB y0 = false) :
    Calls Tryz.prog 46 #[.string S] w fun e w' => e = .returned (.tuple #[opZero.val, .string ⟨#[]⟩, .int .i64 5]) ∧ Keeps [] w w' := by
  have hf := fun w => Of_any w y0 l0 u0
  rw [is, hK, hA, hB] at hf
  have z0 : (S.size : Int) < 4 := by omega
  have z1 : (S.size : Int) ≤ 2000000 := by omega
  have z2 : ((S.size : Int) == 0) = false := by rw [beq_eq_false_iff_ne]; omega
  generalize opM y0 = M at *
  generalize bs (opNm y0) = NM at *
  have hk0 := (Keeps.refl [] w).alloc (.cells #[.int .u8 0, .int .u8 0, .int .u8 0, .int .u16 0, .int .u16 0] 24)
  have hb0' := heap_alloc_new w (.cells #[.int .u8 0, .int .u8 0, .int .u8 0, .int .u16 0, .int .u16 0] 24)
  clear is hK hA hB hS
  go_enter Tryz.func46, Tryz.ntmps46
  go_wp2_with fail
  refine (hf _).mono ?_; rintro e w1 ⟨rfl, hk1⟩
  have hD := heap_alloc_lt (o := .cells #[.int .i64 M, .string NM, .bool false, .bool true, .bool false] 97) (hk1.heap hb0' (by simp))
  have hKK := (hk0.trans hk1 (FSub.refl _ _)).alloc (.cells #[.int .i64 M, .string NM, .bool false, .bool true, .bool false] 97)
  have hQ := heap_alloc_new w1 (.cells #[.int .i64 M, .string NM, .bool false, .bool true, .bool false] 97)
  obtain ⟨c0, c1, c2, c3, c4, cl⟩ := cell5 hD
  obtain ⟨d0, d1, d2, d3, d4⟩ := thaw5 hD
  obtain ⟨q0, q1, q2, q3, q4, ql⟩ := cell5 hQ
  have hr := put5 hD (.int .u8 0) (.int .u8 0) (.int .u8 0) (.int .u16 0) (.int .u16 0)
  have hkk := hKK.set5 (b := w.heap.size) (.inr (Nat.le_refl _)) (.int .u8 0) (.int .u8 0) (.int .u8 0) (.int .u16 0) (.int .u16 0)
  have HR := Lib.hid hr; have HKK := Lib.hid hkk
  clear hb0' hk0 hk1 hf hD hKK hr hkk hQ
  go_wp2_with fail
  try simp only [Exit.inBlock, Exit.then]
  exact bodyPost_ret (results_op3 rfl _ _ _ rfl HR.out) rfl ⟨rfl, HKK.out⟩
set_option maxHeartbeats 8000000 in
set_option maxRecDepth 100000 in
theorem rtake_011 (w : World) (S RL : ByteArray) (y0 y1 y2 y3 y4 y5 : Int) (G : Bool) (hS : S.size = 6 + RL.size) (hmax : RL.size ≤ 1000000)
    (hi0 : 0 < S.size) (hb0 : ((S[0]'hi0).toNat : Int) = y0) (l0 : 0 ≤ y0) (u0 : y0 < 256) (hi1 : 1 < S.size) (hb1 : ((S[1]'hi1).toNat : Int) = y1) (l1 : 0 ≤ y1) (u1 : y1 < 256) (hi2 : 2 < S.size) (hb2 : ((S[2]'hi2).toNat : Int) = y2) (_l2 : 0 ≤ y2) (u2 : y2 < 256) (hi3 : 3 < S.size) (hb3 : ((S[3]'hi3).toNat : Int) = y3) (_l3 : 0 ≤ y3) (u3 : y3 < 256) (hi4 : 4 < S.size) (hb4 : ((S[4]'hi4).toNat : Int) = y4) (_l4 : 0 ≤ y4) (u4 : y4 < 256) (hi5 : 5 < S.size) (hb5 : ((S[5]'hi5).toNat : Int) = y5) (_l5 : 0 ≤ y5) (u5 : y5 < 256) (hrest : S.extract 6 S.size = RL)
    (is : opIs y0 = true) (hK : opK y0 = false) (hA : opA y0 = true) (hB : opB y0 = true) (hG : opGood ⟨y0, y1, 0, (y2 * 256 + y3), (y4 * 256 + y5)⟩ = G)
    (R5 : Opn) (RR : ByteArray) (E : Int) (h2 : G = true → R5 = ⟨y0, y1, 0, (y2 * 256 + y3), (y4 * 256 + y5)⟩ ∧ RR = RL ∧ E = 0) (h3 : G = false → R5 = opZero ∧ RR = ⟨#[]⟩ ∧ E = 4) :
    Calls Tryz.prog 46 #[.string S] w fun e w' => e = .returned (.tuple #[R5.val, .string RR, .int .i64 E]) ∧ Keeps [] w w' := by
  have hin : (⟨y0, y1, 0, (y2 * 256 + y3), (y4 * 256 + y5)⟩ : Opn).In := by refine ⟨?_, ?_, ?_, ?_, ?_, ?_, ?_, ?_, ?_, ?_⟩ <;> simp only <;> omega
  have hv := fun w => May_any w y0 y1 0 (y2 * 256 + y3) (y4 * 256 + y5) hin
  rw [hG] at hv
  have hf := fun w => Of_any w y0 l0 u0
  rw [is, hK, hA, hB] at hf
  have z0 : ¬ (S.size : Int) < 6 := by omega
  have z1 : (S.size : Int) ≤ 2000000 := by omega
  have z2 : ((S.size : Int) == 0) = false := by rw [beq_eq_false_iff_ne]; omega
  have z3 : 6 ≤ S.size := by omega
  generalize opM y0 = M at *
  generalize bs (opNm y0) = NM at *
  have H2 := Lib.hid h2; have H3 := Lib.hid h3
  have hk0 := (Keeps.refl [] w).alloc (.cells #[.int .u8 0, .int .u8 0, .int .u8 0, .int .u16 0, .int .u16 0] 24)
  have hb0' := heap_alloc_new w (.cells #[.int .u8 0, .int .u8 0, .int .u8 0, .int .u16 0, .int .u16 0] 24)
  clear h2 h3 is hK hA hB hG hin hS
  go_enter Tryz.func46, Tryz.ntmps46
  go_wp2_with fail
  refine (hf _).mono ?_; rintro e w1 ⟨rfl, hk1⟩
  have hD := hk1.heap hb0' (by simp)
  have hKK := hk0.trans hk1 (FSub.refl _ _)
  obtain ⟨c0, c1, c2, c3, c4, cl⟩ := cell5 hD
  clear hb0' hk0 hk1 hf
  go_wp2_with fail
  go_region
  clear c0 c1 c2 c3 c4 cl
  go_wp2_with fail
  have e1 : (w1.alloc (.cells #[.int .i64 M, .string NM, .bool false, .bool true, .bool true] 97)).heap.size = w1.heap.size + 1 := by simp
  have hX : (((w1.alloc (.cells #[.int .i64 M, .string NM, .bool false, .bool true, .bool true] 97)).alloc (.cells #[.int .u8 y0, .int .u8 y1, .int .u8 0, .int .u16 0, .int .u16 0] 24)).drew).heap[w1.heap.size + 1]? = some (.cells #[.int .u8 y0, .int .u8 y1, .int .u8 0, .int .u16 0, .int .u16 0] 24 (0, 0)) := by rw [← e1]; exact heap_alloc_new _ _
  have hQ : (((w1.alloc (.cells #[.int .i64 M, .string NM, .bool false, .bool true, .bool true] 97)).alloc (.cells #[.int .u8 y0, .int .u8 y1, .int .u8 0, .int .u16 0, .int .u16 0] 24)).drew).heap[w1.heap.size]? = some (.cells #[.int .i64 M, .string NM, .bool false, .bool true, .bool true] 97 (0, 0)) := heap_alloc_lt (heap_alloc_new w1 _)
  have hD2 : (((w1.alloc (.cells #[.int .i64 M, .string NM, .bool false, .bool true, .bool true] 97)).alloc (.cells #[.int .u8 y0, .int .u8 y1, .int .u8 0, .int .u16 0, .int .u16 0] 24)).drew).heap[w.heap.size]? = some (.cells #[.int .u8 0, .int .u8 0, .int .u8 0, .int .u16 0, .int .u16 0] 24 (0, 0)) := heap_alloc_lt (heap_alloc_lt hD)
  have hK2 : Keeps [] w (((w1.alloc (.cells #[.int .i64 M, .string NM, .bool false, .bool true, .bool true] 97)).alloc (.cells #[.int .u8 y0, .int .u8 y1, .int .u8 0, .int .u16 0, .int .u16 0] 24)).drew) := ((hKK.alloc _).alloc _).drew
  have hXQ : w1.heap.size + 1 ≠ w1.heap.size := by omega
  have hXD : w1.heap.size + 1 ≠ w.heap.size := by have := lt_of_block hD; omega
  have hDX : w.heap.size ≠ w1.heap.size + 1 := by omega
  have hle : w.heap.size ≤ w1.heap.size + 1 := by have := lt_of_block hD; omega
  clear e1 hD hKK
  generalize ((w1.alloc (.cells #[.int .i64 M, .string NM, .bool false, .bool true, .bool true] 97)).alloc (.cells #[.int .u8 y0, .int .u8 y1, .int .u8 0, .int .u16 0, .int .u16 0] 24)).drew = W at *
  generalize w1.heap.size + 1 = X at *
  generalize w1.heap.size = Q at *
  obtain ⟨c0, c1, c2, c3, c4, cl⟩ := cell5 hX
  obtain ⟨d0, d1, d2, d3, d4⟩ := thaw5 hX
  obtain ⟨q0, q1, q2, q3, q4, ql⟩ := cell5 hQ
  have m1 : 0 ≤ y2 * 256 := by omega
  have m2 : y2 * 256 < 65536 := by omega
  have m3 : 0 ≤ y2 * 256 + y3 := by omega
  have m4 : y2 * 256 + y3 < 65536 := by omega
  have hX2 := heap_drew (set5_3 hX (.int .u16 (y2 * 256 + y3)))
  have hQ2 := heap_drew (heap_set_other (i := 3) hQ hXQ (.int .u16 (y2 * 256 + y3)))
  have hD3 := heap_drew (heap_set_other (i := 3) hD2 hXD (.int .u16 (y2 * 256 + y3)))
  have hK3 := (hK2.setCell ⟨X, 3, none⟩ (.int .u16 (y2 * 256 + y3)) (.inr hle)).drew
  obtain ⟨g0, g1, g2, g3, g4, gl⟩ := cell5 hX2
  obtain ⟨p0, p1, p2, p3, p4, pl⟩ := cell5 hQ2
  have HX2 := Lib.hid hX2; have HQ2 := Lib.hid hQ2; have HD3 := Lib.hid hD3; have HK3 := Lib.hid hK3
  clear hX hQ hD2 hK2 hX2 hQ2 hD3 hK3
  go_region
  go_wp2_with fail
  have hX := HX2.out; have hQ := HQ2.out; have hD2 := HD3.out; have hK2 := HK3.out
  clear HX2 HQ2 HD3 HK3 c0 c1 c2 c3 c4 cl d0 d1 d2 d3 d4 q0 q1 q2 q3 q4 ql g0 g1 g2 g3 g4 gl p0 p1 p2 p3 p4 pl m1 m2 m3 m4
  generalize (W.setCell ⟨X, 3, none⟩ (.int .u16 (y2 * 256 + y3))).drew = W3 at *
  obtain ⟨c0, c1, c2, c3, c4, cl⟩ := cell5 hX
  obtain ⟨d0, d1, d2, d3, d4⟩ := thaw5 hX
  obtain ⟨q0, q1, q2, q3, q4, ql⟩ := cell5 hQ
  have m1 : 0 ≤ y4 * 256 := by omega
  have m2 : y4 * 256 < 65536 := by omega
  have m3 : 0 ≤ y4 * 256 + y5 := by omega
  have m4 : y4 * 256 + y5 < 65536 := by omega
  have hX2 := heap_drew (set5_4 hX (.int .u16 (y4 * 256 + y5)))
  have hQ2 := heap_drew (heap_set_other (i := 4) hQ hXQ (.int .u16 (y4 * 256 + y5)))
  have hD3 := heap_drew (heap_set_other (i := 4) hD2 hXD (.int .u16 (y4 * 256 + y5)))
  have hK3 := (hK2.setCell ⟨X, 4, none⟩ (.int .u16 (y4 * 256 + y5)) (.inr hle)).drew
  obtain ⟨g0, g1, g2, g3, g4, gl⟩ := cell5 hX2
  obtain ⟨p0, p1, p2, p3, p4, pl⟩ := cell5 hQ2
  have HX2 := Lib.hid hX2; have HQ2 := Lib.hid hQ2; have HD3 := Lib.hid hD3; have HK3 := Lib.hid hK3
  clear hX hQ hD2 hK2 hX2 hQ2 hD3 hK3
  go_region
  go_wp2_with fail
  have hX := HX2.out; have hQ := HQ2.out; have hD2 := HD3.out; have hK2 := HK3.out
  clear HX2 HQ2 HD3 HK3 c0 c1 c2 c3 c4 cl d0 d1 d2 d3 d4 q0 q1 q2 q3 q4 ql g0 g1 g2 g3 g4 gl p0 p1 p2 p3 p4 pl m1 m2 m3 m4
  generalize (W3.setCell ⟨X, 4, none⟩ (.int .u16 (y4 * 256 + y5))).drew = W4 at *
  refine (hv _).mono ?_; rintro e w8 ⟨rfl, hk8⟩
  have hX8 := hk8.heap hX (by simp)
  have hD8 := hk8.heap hD2 (by simp)
  have hK8 := hK2.trans hk8 (FSub.refl _ _)
  obtain ⟨c0, c1, c2, c3, c4, cl⟩ := cell5 hX8
  obtain ⟨y0', y1', y2', y3', y4', yl⟩ := cell5 hD8
  obtain ⟨d0, d1, d2, d3, d4⟩ := thaw5 hD8
  clear hX hQ hD2 hK2 hk8 hX8 hv
  cases G with
  | true =>
    obtain ⟨rfl, rfl, rfl⟩ := H2.out rfl
    have hr := put5 hD8 (.int .u8 y0) (.int .u8 y1) (.int .u8 0) (.int .u16 (y2 * 256 + y3)) (.int .u16 (y4 * 256 + y5))
    have hkk := hK8.set5 (b := w.heap.size) (.inr (Nat.le_refl _)) (.int .u8 y0) (.int .u8 y1) (.int .u8 0) (.int .u16 (y2 * 256 + y3)) (.int .u16 (y4 * 256 + y5))
    have HR := Lib.hid hr; have HKK := Lib.hid hkk
    clear hr hkk hD8 hK8 H2 H3
    go_wp2_with fail
    go_region
    go_wp2_with fail
    try simp only [Exit.inBlock, Exit.then]
    exact bodyPost_ret (results_op3 rfl _ _ _ rfl (heap_drew HR.out)) rfl ⟨rfl, HKK.out.drew⟩
  | false =>
    obtain ⟨rfl, rfl, rfl⟩ := H3.out rfl
    have hr := put5 hD8 (.int .u8 0) (.int .u8 0) (.int .u8 0) (.int .u16 0) (.int .u16 0)
    have hkk := hK8.set5 (b := w.heap.size) (.inr (Nat.le_refl _)) (.int .u8 0) (.int .u8 0) (.int .u8 0) (.int .u16 0) (.int .u16 0)
    have HR := Lib.hid hr; have HKK := Lib.hid hkk
    clear hr hkk hD8 hK8 H2 H3
    go_wp2_with fail
    try simp only [Exit.inBlock, Exit.then]
    exact bodyPost_ret (results_op3 rfl _ _ _ rfl HR.out) rfl ⟨rfl, HKK.out⟩
set_option maxHeartbeats 8000000 in
set_option maxRecDepth 100000 in
theorem rshort_011 (w : World) (S : ByteArray) (y0 : Int) (hS : S.size < 6) (hi0 : 0 < S.size) (hb0 : ((S[0]'hi0).toNat : Int) = y0) (l0 : 0 ≤ y0) (u0 : y0 < 256)
    (is : opIs y0 = true) (hK : opK y0 = false) (hA : opA y0 = true) (hB : opB y0 = true) :
    Calls Tryz.prog 46 #[.string S] w fun e w' => e = .returned (.tuple #[opZero.val, .string ⟨#[]⟩, .int .i64 5]) ∧ Keeps [] w w' := by
  have hf := fun w => Of_any w y0 l0 u0
  rw [is, hK, hA, hB] at hf
  have z0 : (S.size : Int) < 6 := by omega
  have z1 : (S.size : Int) ≤ 2000000 := by omega
  have z2 : ((S.size : Int) == 0) = false := by rw [beq_eq_false_iff_ne]; omega
  generalize opM y0 = M at *
  generalize bs (opNm y0) = NM at *
  have hk0 := (Keeps.refl [] w).alloc (.cells #[.int .u8 0, .int .u8 0, .int .u8 0, .int .u16 0, .int .u16 0] 24)
  have hb0' := heap_alloc_new w (.cells #[.int .u8 0, .int .u8 0, .int .u8 0, .int .u16 0, .int .u16 0] 24)
  clear is hK hA hB hS
  go_enter Tryz.func46, Tryz.ntmps46
  go_wp2_with fail
  refine (hf _).mono ?_; rintro e w1 ⟨rfl, hk1⟩
  have hD := heap_alloc_lt (o := .cells #[.int .i64 M, .string NM, .bool false, .bool true, .bool true] 97) (hk1.heap hb0' (by simp))
  have hKK := (hk0.trans hk1 (FSub.refl _ _)).alloc (.cells #[.int .i64 M, .string NM, .bool false, .bool true, .bool true] 97)
  have hQ := heap_alloc_new w1 (.cells #[.int .i64 M, .string NM, .bool false, .bool true, .bool true] 97)
  obtain ⟨c0, c1, c2, c3, c4, cl⟩ := cell5 hD
  obtain ⟨d0, d1, d2, d3, d4⟩ := thaw5 hD
  obtain ⟨q0, q1, q2, q3, q4, ql⟩ := cell5 hQ
  have hr := put5 hD (.int .u8 0) (.int .u8 0) (.int .u8 0) (.int .u16 0) (.int .u16 0)
  have hkk := hKK.set5 (b := w.heap.size) (.inr (Nat.le_refl _)) (.int .u8 0) (.int .u8 0) (.int .u8 0) (.int .u16 0) (.int .u16 0)
  have HR := Lib.hid hr; have HKK := Lib.hid hkk
  clear hb0' hk0 hk1 hf hD hKK hr hkk hQ
  go_wp2_with fail
  try simp only [Exit.inBlock, Exit.then]
  exact bodyPost_ret (results_op3 rfl _ _ _ rfl HR.out) rfl ⟨rfl, HKK.out⟩
set_option maxHeartbeats 8000000 in
set_option maxRecDepth 100000 in
theorem rtake_100 (w : World) (S RL : ByteArray) (y0 y1 y2 : Int) (G : Bool) (hS : S.size = 3 + RL.size) (hmax : RL.size ≤ 1000000)
    (hi0 : 0 < S.size) (hb0 : ((S[0]'hi0).toNat : Int) = y0) (l0 : 0 ≤ y0) (u0 : y0 < 256) (hi1 : 1 < S.size) (hb1 : ((S[1]'hi1).toNat : Int) = y1) (l1 : 0 ≤ y1) (u1 : y1 < 256) (hi2 : 2 < S.size) (hb2 : ((S[2]'hi2).toNat : Int) = y2) (l2 : 0 ≤ y2) (u2 : y2 < 256) (hrest : S.extract 3 S.size = RL)
    (is : opIs y0 = true) (hK : opK y0 = true) (hA : opA y0 = false) (hB : opB y0 = false) (hG : opGood ⟨y0, y1, y2, 0, 0⟩ = G)
    (R5 : Opn) (RR : ByteArray) (E : Int) (h2 : G = true → R5 = ⟨y0, y1, y2, 0, 0⟩ ∧ RR = RL ∧ E = 0) (h3 : G = false → R5 = opZero ∧ RR = ⟨#[]⟩ ∧ E = 4) :
    Calls Tryz.prog 46 #[.string S] w fun e w' => e = .returned (.tuple #[R5.val, .string RR, .int .i64 E]) ∧ Keeps [] w w' := by
  have hin : (⟨y0, y1, y2, 0, 0⟩ : Opn).In := by refine ⟨?_, ?_, ?_, ?_, ?_, ?_, ?_, ?_, ?_, ?_⟩ <;> simp only <;> omega
  have hv := fun w => May_any w y0 y1 y2 0 0 hin
  rw [hG] at hv
  have hf := fun w => Of_any w y0 l0 u0
  rw [is, hK, hA, hB] at hf
  have z0 : ¬ (S.size : Int) < 3 := by omega
  have z1 : (S.size : Int) ≤ 2000000 := by omega
  have z2 : ((S.size : Int) == 0) = false := by rw [beq_eq_false_iff_ne]; omega
  have z3 : 3 ≤ S.size := by omega
  generalize opM y0 = M at *
  generalize bs (opNm y0) = NM at *
  have H2 := Lib.hid h2; have H3 := Lib.hid h3
  have hk0 := (Keeps.refl [] w).alloc (.cells #[.int .u8 0, .int .u8 0, .int .u8 0, .int .u16 0, .int .u16 0] 24)
  have hb0' := heap_alloc_new w (.cells #[.int .u8 0, .int .u8 0, .int .u8 0, .int .u16 0, .int .u16 0] 24)
  clear h2 h3 is hK hA hB hG hin hS
  go_enter Tryz.func46, Tryz.ntmps46
  go_wp2_with fail
  refine (hf _).mono ?_; rintro e w1 ⟨rfl, hk1⟩
  have hD := hk1.heap hb0' (by simp)
  have hKK := hk0.trans hk1 (FSub.refl _ _)
  obtain ⟨c0, c1, c2, c3, c4, cl⟩ := cell5 hD
  clear hb0' hk0 hk1 hf
  go_wp2_with fail
  go_region
  clear c0 c1 c2 c3 c4 cl
  go_wp2_with fail
  have e1 : (w1.alloc (.cells #[.int .i64 M, .string NM, .bool true, .bool false, .bool false] 97)).heap.size = w1.heap.size + 1 := by simp
  have hX : (((w1.alloc (.cells #[.int .i64 M, .string NM, .bool true, .bool false, .bool false] 97)).alloc (.cells #[.int .u8 y0, .int .u8 y1, .int .u8 y2, .int .u16 0, .int .u16 0] 24)).drew).heap[w1.heap.size + 1]? = some (.cells #[.int .u8 y0, .int .u8 y1, .int .u8 y2, .int .u16 0, .int .u16 0] 24 (0, 0)) := by rw [← e1]; exact heap_alloc_new _ _
  have hQ : (((w1.alloc (.cells #[.int .i64 M, .string NM, .bool true, .bool false, .bool false] 97)).alloc (.cells #[.int .u8 y0, .int .u8 y1, .int .u8 y2, .int .u16 0, .int .u16 0] 24)).drew).heap[w1.heap.size]? = some (.cells #[.int .i64 M, .string NM, .bool true, .bool false, .bool false] 97 (0, 0)) := heap_alloc_lt (heap_alloc_new w1 _)
  have hD2 : (((w1.alloc (.cells #[.int .i64 M, .string NM, .bool true, .bool false, .bool false] 97)).alloc (.cells #[.int .u8 y0, .int .u8 y1, .int .u8 y2, .int .u16 0, .int .u16 0] 24)).drew).heap[w.heap.size]? = some (.cells #[.int .u8 0, .int .u8 0, .int .u8 0, .int .u16 0, .int .u16 0] 24 (0, 0)) := heap_alloc_lt (heap_alloc_lt hD)
  have hK2 : Keeps [] w (((w1.alloc (.cells #[.int .i64 M, .string NM, .bool true, .bool false, .bool false] 97)).alloc (.cells #[.int .u8 y0, .int .u8 y1, .int .u8 y2, .int .u16 0, .int .u16 0] 24)).drew) := ((hKK.alloc _).alloc _).drew
  have hXQ : w1.heap.size + 1 ≠ w1.heap.size := by omega
  have hXD : w1.heap.size + 1 ≠ w.heap.size := by have := lt_of_block hD; omega
  have hDX : w.heap.size ≠ w1.heap.size + 1 := by omega
  have hle : w.heap.size ≤ w1.heap.size + 1 := by have := lt_of_block hD; omega
  clear e1 hD hKK
  generalize ((w1.alloc (.cells #[.int .i64 M, .string NM, .bool true, .bool false, .bool false] 97)).alloc (.cells #[.int .u8 y0, .int .u8 y1, .int .u8 y2, .int .u16 0, .int .u16 0] 24)).drew = W at *
  generalize w1.heap.size + 1 = X at *
  generalize w1.heap.size = Q at *
  refine (hv _).mono ?_; rintro e w8 ⟨rfl, hk8⟩
  have hX8 := hk8.heap hX (by simp)
  have hD8 := hk8.heap hD2 (by simp)
  have hK8 := hK2.trans hk8 (FSub.refl _ _)
  obtain ⟨c0, c1, c2, c3, c4, cl⟩ := cell5 hX8
  obtain ⟨y0', y1', y2', y3', y4', yl⟩ := cell5 hD8
  obtain ⟨d0, d1, d2, d3, d4⟩ := thaw5 hD8
  clear hX hQ hD2 hK2 hk8 hX8 hv
  cases G with
  | true =>
    obtain ⟨rfl, rfl, rfl⟩ := H2.out rfl
    have hr := put5 hD8 (.int .u8 y0) (.int .u8 y1) (.int .u8 y2) (.int .u16 0) (.int .u16 0)
    have hkk := hK8.set5 (b := w.heap.size) (.inr (Nat.le_refl _)) (.int .u8 y0) (.int .u8 y1) (.int .u8 y2) (.int .u16 0) (.int .u16 0)
    have HR := Lib.hid hr; have HKK := Lib.hid hkk
    clear hr hkk hD8 hK8 H2 H3
    go_wp2_with fail
    go_region
    go_wp2_with fail
    try simp only [Exit.inBlock, Exit.then]
    exact bodyPost_ret (results_op3 rfl _ _ _ rfl (heap_drew HR.out)) rfl ⟨rfl, HKK.out.drew⟩
  | false =>
    obtain ⟨rfl, rfl, rfl⟩ := H3.out rfl
    have hr := put5 hD8 (.int .u8 0) (.int .u8 0) (.int .u8 0) (.int .u16 0) (.int .u16 0)
    have hkk := hK8.set5 (b := w.heap.size) (.inr (Nat.le_refl _)) (.int .u8 0) (.int .u8 0) (.int .u8 0) (.int .u16 0) (.int .u16 0)
    have HR := Lib.hid hr; have HKK := Lib.hid hkk
    clear hr hkk hD8 hK8 H2 H3
    go_wp2_with fail
    try simp only [Exit.inBlock, Exit.then]
    exact bodyPost_ret (results_op3 rfl _ _ _ rfl HR.out) rfl ⟨rfl, HKK.out⟩
set_option maxHeartbeats 8000000 in
set_option maxRecDepth 100000 in
theorem rshort_100 (w : World) (S : ByteArray) (y0 : Int) (hS : S.size < 3) (hi0 : 0 < S.size) (hb0 : ((S[0]'hi0).toNat : Int) = y0) (l0 : 0 ≤ y0) (u0 : y0 < 256)
    (is : opIs y0 = true) (hK : opK y0 = true) (hA : opA y0 = false) (hB : opB y0 = false) :
    Calls Tryz.prog 46 #[.string S] w fun e w' => e = .returned (.tuple #[opZero.val, .string ⟨#[]⟩, .int .i64 5]) ∧ Keeps [] w w' := by
  have hf := fun w => Of_any w y0 l0 u0
  rw [is, hK, hA, hB] at hf
  have z0 : (S.size : Int) < 3 := by omega
  have z1 : (S.size : Int) ≤ 2000000 := by omega
  have z2 : ((S.size : Int) == 0) = false := by rw [beq_eq_false_iff_ne]; omega
  generalize opM y0 = M at *
  generalize bs (opNm y0) = NM at *
  have hk0 := (Keeps.refl [] w).alloc (.cells #[.int .u8 0, .int .u8 0, .int .u8 0, .int .u16 0, .int .u16 0] 24)
  have hb0' := heap_alloc_new w (.cells #[.int .u8 0, .int .u8 0, .int .u8 0, .int .u16 0, .int .u16 0] 24)
  clear is hK hA hB hS
  go_enter Tryz.func46, Tryz.ntmps46
  go_wp2_with fail
  refine (hf _).mono ?_; rintro e w1 ⟨rfl, hk1⟩
  have hD := heap_alloc_lt (o := .cells #[.int .i64 M, .string NM, .bool true, .bool false, .bool false] 97) (hk1.heap hb0' (by simp))
  have hKK := (hk0.trans hk1 (FSub.refl _ _)).alloc (.cells #[.int .i64 M, .string NM, .bool true, .bool false, .bool false] 97)
  have hQ := heap_alloc_new w1 (.cells #[.int .i64 M, .string NM, .bool true, .bool false, .bool false] 97)
  obtain ⟨c0, c1, c2, c3, c4, cl⟩ := cell5 hD
  obtain ⟨d0, d1, d2, d3, d4⟩ := thaw5 hD
  obtain ⟨q0, q1, q2, q3, q4, ql⟩ := cell5 hQ
  have hr := put5 hD (.int .u8 0) (.int .u8 0) (.int .u8 0) (.int .u16 0) (.int .u16 0)
  have hkk := hKK.set5 (b := w.heap.size) (.inr (Nat.le_refl _)) (.int .u8 0) (.int .u8 0) (.int .u8 0) (.int .u16 0) (.int .u16 0)
  have HR := Lib.hid hr; have HKK := Lib.hid hkk
  clear hb0' hk0 hk1 hf hD hKK hr hkk hQ
  go_wp2_with fail
  try simp only [Exit.inBlock, Exit.then]
  exact bodyPost_ret (results_op3 rfl _ _ _ rfl HR.out) rfl ⟨rfl, HKK.out⟩
set_option maxHeartbeats 8000000 in
set_option maxRecDepth 100000 in
theorem rtake_110 (w : World) (S RL : ByteArray) (y0 y1 y2 y3 y4 : Int) (G : Bool) (hS : S.size = 5 + RL.size) (hmax : RL.size ≤ 1000000)
    (hi0 : 0 < S.size) (hb0 : ((S[0]'hi0).toNat : Int) = y0) (l0 : 0 ≤ y0) (u0 : y0 < 256) (hi1 : 1 < S.size) (hb1 : ((S[1]'hi1).toNat : Int) = y1) (l1 : 0 ≤ y1) (u1 : y1 < 256) (hi2 : 2 < S.size) (hb2 : ((S[2]'hi2).toNat : Int) = y2) (l2 : 0 ≤ y2) (u2 : y2 < 256) (hi3 : 3 < S.size) (hb3 : ((S[3]'hi3).toNat : Int) = y3) (_l3 : 0 ≤ y3) (u3 : y3 < 256) (hi4 : 4 < S.size) (hb4 : ((S[4]'hi4).toNat : Int) = y4) (_l4 : 0 ≤ y4) (u4 : y4 < 256) (hrest : S.extract 5 S.size = RL)
    (is : opIs y0 = true) (hK : opK y0 = true) (hA : opA y0 = true) (hB : opB y0 = false) (hG : opGood ⟨y0, y1, y2, (y3 * 256 + y4), 0⟩ = G)
    (R5 : Opn) (RR : ByteArray) (E : Int) (h2 : G = true → R5 = ⟨y0, y1, y2, (y3 * 256 + y4), 0⟩ ∧ RR = RL ∧ E = 0) (h3 : G = false → R5 = opZero ∧ RR = ⟨#[]⟩ ∧ E = 4) :
    Calls Tryz.prog 46 #[.string S] w fun e w' => e = .returned (.tuple #[R5.val, .string RR, .int .i64 E]) ∧ Keeps [] w w' := by
  have hin : (⟨y0, y1, y2, (y3 * 256 + y4), 0⟩ : Opn).In := by refine ⟨?_, ?_, ?_, ?_, ?_, ?_, ?_, ?_, ?_, ?_⟩ <;> simp only <;> omega
  have hv := fun w => May_any w y0 y1 y2 (y3 * 256 + y4) 0 hin
  rw [hG] at hv
  have hf := fun w => Of_any w y0 l0 u0
  rw [is, hK, hA, hB] at hf
  have z0 : ¬ (S.size : Int) < 5 := by omega
  have z1 : (S.size : Int) ≤ 2000000 := by omega
  have z2 : ((S.size : Int) == 0) = false := by rw [beq_eq_false_iff_ne]; omega
  have z3 : 5 ≤ S.size := by omega
  generalize opM y0 = M at *
  generalize bs (opNm y0) = NM at *
  have H2 := Lib.hid h2; have H3 := Lib.hid h3
  have hk0 := (Keeps.refl [] w).alloc (.cells #[.int .u8 0, .int .u8 0, .int .u8 0, .int .u16 0, .int .u16 0] 24)
  have hb0' := heap_alloc_new w (.cells #[.int .u8 0, .int .u8 0, .int .u8 0, .int .u16 0, .int .u16 0] 24)
  clear h2 h3 is hK hA hB hG hin hS
  go_enter Tryz.func46, Tryz.ntmps46
  go_wp2_with fail
  refine (hf _).mono ?_; rintro e w1 ⟨rfl, hk1⟩
  have hD := hk1.heap hb0' (by simp)
  have hKK := hk0.trans hk1 (FSub.refl _ _)
  obtain ⟨c0, c1, c2, c3, c4, cl⟩ := cell5 hD
  clear hb0' hk0 hk1 hf
  go_wp2_with fail
  go_region
  clear c0 c1 c2 c3 c4 cl
  go_wp2_with fail
  have e1 : (w1.alloc (.cells #[.int .i64 M, .string NM, .bool true, .bool true, .bool false] 97)).heap.size = w1.heap.size + 1 := by simp
  have hX : (((w1.alloc (.cells #[.int .i64 M, .string NM, .bool true, .bool true, .bool false] 97)).alloc (.cells #[.int .u8 y0, .int .u8 y1, .int .u8 y2, .int .u16 0, .int .u16 0] 24)).drew).heap[w1.heap.size + 1]? = some (.cells #[.int .u8 y0, .int .u8 y1, .int .u8 y2, .int .u16 0, .int .u16 0] 24 (0, 0)) := by rw [← e1]; exact heap_alloc_new _ _
  have hQ : (((w1.alloc (.cells #[.int .i64 M, .string NM, .bool true, .bool true, .bool false] 97)).alloc (.cells #[.int .u8 y0, .int .u8 y1, .int .u8 y2, .int .u16 0, .int .u16 0] 24)).drew).heap[w1.heap.size]? = some (.cells #[.int .i64 M, .string NM, .bool true, .bool true, .bool false] 97 (0, 0)) := heap_alloc_lt (heap_alloc_new w1 _)
  have hD2 : (((w1.alloc (.cells #[.int .i64 M, .string NM, .bool true, .bool true, .bool false] 97)).alloc (.cells #[.int .u8 y0, .int .u8 y1, .int .u8 y2, .int .u16 0, .int .u16 0] 24)).drew).heap[w.heap.size]? = some (.cells #[.int .u8 0, .int .u8 0, .int .u8 0, .int .u16 0, .int .u16 0] 24 (0, 0)) := heap_alloc_lt (heap_alloc_lt hD)
  have hK2 : Keeps [] w (((w1.alloc (.cells #[.int .i64 M, .string NM, .bool true, .bool true, .bool false] 97)).alloc (.cells #[.int .u8 y0, .int .u8 y1, .int .u8 y2, .int .u16 0, .int .u16 0] 24)).drew) := ((hKK.alloc _).alloc _).drew
  have hXQ : w1.heap.size + 1 ≠ w1.heap.size := by omega
  have hXD : w1.heap.size + 1 ≠ w.heap.size := by have := lt_of_block hD; omega
  have hDX : w.heap.size ≠ w1.heap.size + 1 := by omega
  have hle : w.heap.size ≤ w1.heap.size + 1 := by have := lt_of_block hD; omega
  clear e1 hD hKK
  generalize ((w1.alloc (.cells #[.int .i64 M, .string NM, .bool true, .bool true, .bool false] 97)).alloc (.cells #[.int .u8 y0, .int .u8 y1, .int .u8 y2, .int .u16 0, .int .u16 0] 24)).drew = W at *
  generalize w1.heap.size + 1 = X at *
  generalize w1.heap.size = Q at *
  obtain ⟨c0, c1, c2, c3, c4, cl⟩ := cell5 hX
  obtain ⟨d0, d1, d2, d3, d4⟩ := thaw5 hX
  obtain ⟨q0, q1, q2, q3, q4, ql⟩ := cell5 hQ
  have m1 : 0 ≤ y3 * 256 := by omega
  have m2 : y3 * 256 < 65536 := by omega
  have m3 : 0 ≤ y3 * 256 + y4 := by omega
  have m4 : y3 * 256 + y4 < 65536 := by omega
  have hX2 := heap_drew (set5_3 hX (.int .u16 (y3 * 256 + y4)))
  have hQ2 := heap_drew (heap_set_other (i := 3) hQ hXQ (.int .u16 (y3 * 256 + y4)))
  have hD3 := heap_drew (heap_set_other (i := 3) hD2 hXD (.int .u16 (y3 * 256 + y4)))
  have hK3 := (hK2.setCell ⟨X, 3, none⟩ (.int .u16 (y3 * 256 + y4)) (.inr hle)).drew
  obtain ⟨g0, g1, g2, g3, g4, gl⟩ := cell5 hX2
  obtain ⟨p0, p1, p2, p3, p4, pl⟩ := cell5 hQ2
  have HX2 := Lib.hid hX2; have HQ2 := Lib.hid hQ2; have HD3 := Lib.hid hD3; have HK3 := Lib.hid hK3
  clear hX hQ hD2 hK2 hX2 hQ2 hD3 hK3
  go_region
  go_wp2_with fail
  have hX := HX2.out; have hQ := HQ2.out; have hD2 := HD3.out; have hK2 := HK3.out
  clear HX2 HQ2 HD3 HK3 c0 c1 c2 c3 c4 cl d0 d1 d2 d3 d4 q0 q1 q2 q3 q4 ql g0 g1 g2 g3 g4 gl p0 p1 p2 p3 p4 pl m1 m2 m3 m4
  generalize (W.setCell ⟨X, 3, none⟩ (.int .u16 (y3 * 256 + y4))).drew = W3 at *
  refine (hv _).mono ?_; rintro e w8 ⟨rfl, hk8⟩
  have hX8 := hk8.heap hX (by simp)
  have hD8 := hk8.heap hD2 (by simp)
  have hK8 := hK2.trans hk8 (FSub.refl _ _)
  obtain ⟨c0, c1, c2, c3, c4, cl⟩ := cell5 hX8
  obtain ⟨y0', y1', y2', y3', y4', yl⟩ := cell5 hD8
  obtain ⟨d0, d1, d2, d3, d4⟩ := thaw5 hD8
  clear hX hQ hD2 hK2 hk8 hX8 hv
  cases G with
  | true =>
    obtain ⟨rfl, rfl, rfl⟩ := H2.out rfl
    have hr := put5 hD8 (.int .u8 y0) (.int .u8 y1) (.int .u8 y2) (.int .u16 (y3 * 256 + y4)) (.int .u16 0)
    have hkk := hK8.set5 (b := w.heap.size) (.inr (Nat.le_refl _)) (.int .u8 y0) (.int .u8 y1) (.int .u8 y2) (.int .u16 (y3 * 256 + y4)) (.int .u16 0)
    have HR := Lib.hid hr; have HKK := Lib.hid hkk
    clear hr hkk hD8 hK8 H2 H3
    go_wp2_with fail
    go_region
    go_wp2_with fail
    try simp only [Exit.inBlock, Exit.then]
    exact bodyPost_ret (results_op3 rfl _ _ _ rfl (heap_drew HR.out)) rfl ⟨rfl, HKK.out.drew⟩
  | false =>
    obtain ⟨rfl, rfl, rfl⟩ := H3.out rfl
    have hr := put5 hD8 (.int .u8 0) (.int .u8 0) (.int .u8 0) (.int .u16 0) (.int .u16 0)
    have hkk := hK8.set5 (b := w.heap.size) (.inr (Nat.le_refl _)) (.int .u8 0) (.int .u8 0) (.int .u8 0) (.int .u16 0) (.int .u16 0)
    have HR := Lib.hid hr; have HKK := Lib.hid hkk
    clear hr hkk hD8 hK8 H2 H3
    go_wp2_with fail
    try simp only [Exit.inBlock, Exit.then]
    exact bodyPost_ret (results_op3 rfl _ _ _ rfl HR.out) rfl ⟨rfl, HKK.out⟩
set_option maxHeartbeats 8000000 in
set_option maxRecDepth 100000 in
theorem rshort_110 (w : World) (S : ByteArray) (y0 : Int) (hS : S.size < 5) (hi0 : 0 < S.size) (hb0 : ((S[0]'hi0).toNat : Int) = y0) (l0 : 0 ≤ y0) (u0 : y0 < 256)
    (is : opIs y0 = true) (hK : opK y0 = true) (hA : opA y0 = true) (hB : opB y0 = false) :
    Calls Tryz.prog 46 #[.string S] w fun e w' => e = .returned (.tuple #[opZero.val, .string ⟨#[]⟩, .int .i64 5]) ∧ Keeps [] w w' := by
  have hf := fun w => Of_any w y0 l0 u0
  rw [is, hK, hA, hB] at hf
  have z0 : (S.size : Int) < 5 := by omega
  have z1 : (S.size : Int) ≤ 2000000 := by omega
  have z2 : ((S.size : Int) == 0) = false := by rw [beq_eq_false_iff_ne]; omega
  generalize opM y0 = M at *
  generalize bs (opNm y0) = NM at *
  have hk0 := (Keeps.refl [] w).alloc (.cells #[.int .u8 0, .int .u8 0, .int .u8 0, .int .u16 0, .int .u16 0] 24)
  have hb0' := heap_alloc_new w (.cells #[.int .u8 0, .int .u8 0, .int .u8 0, .int .u16 0, .int .u16 0] 24)
  clear is hK hA hB hS
  go_enter Tryz.func46, Tryz.ntmps46
  go_wp2_with fail
  refine (hf _).mono ?_; rintro e w1 ⟨rfl, hk1⟩
  have hD := heap_alloc_lt (o := .cells #[.int .i64 M, .string NM, .bool true, .bool true, .bool false] 97) (hk1.heap hb0' (by simp))
  have hKK := (hk0.trans hk1 (FSub.refl _ _)).alloc (.cells #[.int .i64 M, .string NM, .bool true, .bool true, .bool false] 97)
  have hQ := heap_alloc_new w1 (.cells #[.int .i64 M, .string NM, .bool true, .bool true, .bool false] 97)
  obtain ⟨c0, c1, c2, c3, c4, cl⟩ := cell5 hD
  obtain ⟨d0, d1, d2, d3, d4⟩ := thaw5 hD
  obtain ⟨q0, q1, q2, q3, q4, ql⟩ := cell5 hQ
  have hr := put5 hD (.int .u8 0) (.int .u8 0) (.int .u8 0) (.int .u16 0) (.int .u16 0)
  have hkk := hKK.set5 (b := w.heap.size) (.inr (Nat.le_refl _)) (.int .u8 0) (.int .u8 0) (.int .u8 0) (.int .u16 0) (.int .u16 0)
  have HR := Lib.hid hr; have HKK := Lib.hid hkk
  clear hb0' hk0 hk1 hf hD hKK hr hkk hQ
  go_wp2_with fail
  try simp only [Exit.inBlock, Exit.then]
  exact bodyPost_ret (results_op3 rfl _ _ _ rfl HR.out) rfl ⟨rfl, HKK.out⟩
set_option maxHeartbeats 8000000 in
set_option maxRecDepth 100000 in
theorem rtake_111 (w : World) (S RL : ByteArray) (y0 y1 y2 y3 y4 y5 y6 : Int) (G : Bool) (hS : S.size = 7 + RL.size) (hmax : RL.size ≤ 1000000)
    (hi0 : 0 < S.size) (hb0 : ((S[0]'hi0).toNat : Int) = y0) (l0 : 0 ≤ y0) (u0 : y0 < 256) (hi1 : 1 < S.size) (hb1 : ((S[1]'hi1).toNat : Int) = y1) (l1 : 0 ≤ y1) (u1 : y1 < 256) (hi2 : 2 < S.size) (hb2 : ((S[2]'hi2).toNat : Int) = y2) (l2 : 0 ≤ y2) (u2 : y2 < 256) (hi3 : 3 < S.size) (hb3 : ((S[3]'hi3).toNat : Int) = y3) (_l3 : 0 ≤ y3) (u3 : y3 < 256) (hi4 : 4 < S.size) (hb4 : ((S[4]'hi4).toNat : Int) = y4) (_l4 : 0 ≤ y4) (u4 : y4 < 256) (hi5 : 5 < S.size) (hb5 : ((S[5]'hi5).toNat : Int) = y5) (_l5 : 0 ≤ y5) (u5 : y5 < 256) (hi6 : 6 < S.size) (hb6 : ((S[6]'hi6).toNat : Int) = y6) (_l6 : 0 ≤ y6) (u6 : y6 < 256) (hrest : S.extract 7 S.size = RL)
    (is : opIs y0 = true) (hK : opK y0 = true) (hA : opA y0 = true) (hB : opB y0 = true) (hG : opGood ⟨y0, y1, y2, (y3 * 256 + y4), (y5 * 256 + y6)⟩ = G)
    (R5 : Opn) (RR : ByteArray) (E : Int) (h2 : G = true → R5 = ⟨y0, y1, y2, (y3 * 256 + y4), (y5 * 256 + y6)⟩ ∧ RR = RL ∧ E = 0) (h3 : G = false → R5 = opZero ∧ RR = ⟨#[]⟩ ∧ E = 4) :
    Calls Tryz.prog 46 #[.string S] w fun e w' => e = .returned (.tuple #[R5.val, .string RR, .int .i64 E]) ∧ Keeps [] w w' := by
  have hin : (⟨y0, y1, y2, (y3 * 256 + y4), (y5 * 256 + y6)⟩ : Opn).In := by refine ⟨?_, ?_, ?_, ?_, ?_, ?_, ?_, ?_, ?_, ?_⟩ <;> simp only <;> omega
  have hv := fun w => May_any w y0 y1 y2 (y3 * 256 + y4) (y5 * 256 + y6) hin
  rw [hG] at hv
  have hf := fun w => Of_any w y0 l0 u0
  rw [is, hK, hA, hB] at hf
  have z0 : ¬ (S.size : Int) < 7 := by omega
  have z1 : (S.size : Int) ≤ 2000000 := by omega
  have z2 : ((S.size : Int) == 0) = false := by rw [beq_eq_false_iff_ne]; omega
  have z3 : 7 ≤ S.size := by omega
  generalize opM y0 = M at *
  generalize bs (opNm y0) = NM at *
  have H2 := Lib.hid h2; have H3 := Lib.hid h3
  have hk0 := (Keeps.refl [] w).alloc (.cells #[.int .u8 0, .int .u8 0, .int .u8 0, .int .u16 0, .int .u16 0] 24)
  have hb0' := heap_alloc_new w (.cells #[.int .u8 0, .int .u8 0, .int .u8 0, .int .u16 0, .int .u16 0] 24)
  clear h2 h3 is hK hA hB hG hin hS
  go_enter Tryz.func46, Tryz.ntmps46
  go_wp2_with fail
  refine (hf _).mono ?_; rintro e w1 ⟨rfl, hk1⟩
  have hD := hk1.heap hb0' (by simp)
  have hKK := hk0.trans hk1 (FSub.refl _ _)
  obtain ⟨c0, c1, c2, c3, c4, cl⟩ := cell5 hD
  clear hb0' hk0 hk1 hf
  go_wp2_with fail
  go_region
  clear c0 c1 c2 c3 c4 cl
  go_wp2_with fail
  have e1 : (w1.alloc (.cells #[.int .i64 M, .string NM, .bool true, .bool true, .bool true] 97)).heap.size = w1.heap.size + 1 := by simp
  have hX : (((w1.alloc (.cells #[.int .i64 M, .string NM, .bool true, .bool true, .bool true] 97)).alloc (.cells #[.int .u8 y0, .int .u8 y1, .int .u8 y2, .int .u16 0, .int .u16 0] 24)).drew).heap[w1.heap.size + 1]? = some (.cells #[.int .u8 y0, .int .u8 y1, .int .u8 y2, .int .u16 0, .int .u16 0] 24 (0, 0)) := by rw [← e1]; exact heap_alloc_new _ _
  have hQ : (((w1.alloc (.cells #[.int .i64 M, .string NM, .bool true, .bool true, .bool true] 97)).alloc (.cells #[.int .u8 y0, .int .u8 y1, .int .u8 y2, .int .u16 0, .int .u16 0] 24)).drew).heap[w1.heap.size]? = some (.cells #[.int .i64 M, .string NM, .bool true, .bool true, .bool true] 97 (0, 0)) := heap_alloc_lt (heap_alloc_new w1 _)
  have hD2 : (((w1.alloc (.cells #[.int .i64 M, .string NM, .bool true, .bool true, .bool true] 97)).alloc (.cells #[.int .u8 y0, .int .u8 y1, .int .u8 y2, .int .u16 0, .int .u16 0] 24)).drew).heap[w.heap.size]? = some (.cells #[.int .u8 0, .int .u8 0, .int .u8 0, .int .u16 0, .int .u16 0] 24 (0, 0)) := heap_alloc_lt (heap_alloc_lt hD)
  have hK2 : Keeps [] w (((w1.alloc (.cells #[.int .i64 M, .string NM, .bool true, .bool true, .bool true] 97)).alloc (.cells #[.int .u8 y0, .int .u8 y1, .int .u8 y2, .int .u16 0, .int .u16 0] 24)).drew) := ((hKK.alloc _).alloc _).drew
  have hXQ : w1.heap.size + 1 ≠ w1.heap.size := by omega
  have hXD : w1.heap.size + 1 ≠ w.heap.size := by have := lt_of_block hD; omega
  have hDX : w.heap.size ≠ w1.heap.size + 1 := by omega
  have hle : w.heap.size ≤ w1.heap.size + 1 := by have := lt_of_block hD; omega
  clear e1 hD hKK
  generalize ((w1.alloc (.cells #[.int .i64 M, .string NM, .bool true, .bool true, .bool true] 97)).alloc (.cells #[.int .u8 y0, .int .u8 y1, .int .u8 y2, .int .u16 0, .int .u16 0] 24)).drew = W at *
  generalize w1.heap.size + 1 = X at *
  generalize w1.heap.size = Q at *
  obtain ⟨c0, c1, c2, c3, c4, cl⟩ := cell5 hX
  obtain ⟨d0, d1, d2, d3, d4⟩ := thaw5 hX
  obtain ⟨q0, q1, q2, q3, q4, ql⟩ := cell5 hQ
  have m1 : 0 ≤ y3 * 256 := by omega
  have m2 : y3 * 256 < 65536 := by omega
  have m3 : 0 ≤ y3 * 256 + y4 := by omega
  have m4 : y3 * 256 + y4 < 65536 := by omega
  have hX2 := heap_drew (set5_3 hX (.int .u16 (y3 * 256 + y4)))
  have hQ2 := heap_drew (heap_set_other (i := 3) hQ hXQ (.int .u16 (y3 * 256 + y4)))
  have hD3 := heap_drew (heap_set_other (i := 3) hD2 hXD (.int .u16 (y3 * 256 + y4)))
  have hK3 := (hK2.setCell ⟨X, 3, none⟩ (.int .u16 (y3 * 256 + y4)) (.inr hle)).drew
  obtain ⟨g0, g1, g2, g3, g4, gl⟩ := cell5 hX2
  obtain ⟨p0, p1, p2, p3, p4, pl⟩ := cell5 hQ2
  have HX2 := Lib.hid hX2; have HQ2 := Lib.hid hQ2; have HD3 := Lib.hid hD3; have HK3 := Lib.hid hK3
  clear hX hQ hD2 hK2 hX2 hQ2 hD3 hK3
  go_region
  go_wp2_with fail
  have hX := HX2.out; have hQ := HQ2.out; have hD2 := HD3.out; have hK2 := HK3.out
  clear HX2 HQ2 HD3 HK3 c0 c1 c2 c3 c4 cl d0 d1 d2 d3 d4 q0 q1 q2 q3 q4 ql g0 g1 g2 g3 g4 gl p0 p1 p2 p3 p4 pl m1 m2 m3 m4
  generalize (W.setCell ⟨X, 3, none⟩ (.int .u16 (y3 * 256 + y4))).drew = W3 at *
  obtain ⟨c0, c1, c2, c3, c4, cl⟩ := cell5 hX
  obtain ⟨d0, d1, d2, d3, d4⟩ := thaw5 hX
  obtain ⟨q0, q1, q2, q3, q4, ql⟩ := cell5 hQ
  have m1 : 0 ≤ y5 * 256 := by omega
  have m2 : y5 * 256 < 65536 := by omega
  have m3 : 0 ≤ y5 * 256 + y6 := by omega
  have m4 : y5 * 256 + y6 < 65536 := by omega
  have hX2 := heap_drew (set5_4 hX (.int .u16 (y5 * 256 + y6)))
  have hQ2 := heap_drew (heap_set_other (i := 4) hQ hXQ (.int .u16 (y5 * 256 + y6)))
  have hD3 := heap_drew (heap_set_other (i := 4) hD2 hXD (.int .u16 (y5 * 256 + y6)))
  have hK3 := (hK2.setCell ⟨X, 4, none⟩ (.int .u16 (y5 * 256 + y6)) (.inr hle)).drew
  obtain ⟨g0, g1, g2, g3, g4, gl⟩ := cell5 hX2
  obtain ⟨p0, p1, p2, p3, p4, pl⟩ := cell5 hQ2
  have HX2 := Lib.hid hX2; have HQ2 := Lib.hid hQ2; have HD3 := Lib.hid hD3; have HK3 := Lib.hid hK3
  clear hX hQ hD2 hK2 hX2 hQ2 hD3 hK3
  go_region
  go_wp2_with fail
  have hX := HX2.out; have hQ := HQ2.out; have hD2 := HD3.out; have hK2 := HK3.out
  clear HX2 HQ2 HD3 HK3 c0 c1 c2 c3 c4 cl d0 d1 d2 d3 d4 q0 q1 q2 q3 q4 ql g0 g1 g2 g3 g4 gl p0 p1 p2 p3 p4 pl m1 m2 m3 m4
  generalize (W3.setCell ⟨X, 4, none⟩ (.int .u16 (y5 * 256 + y6))).drew = W4 at *
  refine (hv _).mono ?_; rintro e w8 ⟨rfl, hk8⟩
  have hX8 := hk8.heap hX (by simp)
  have hD8 := hk8.heap hD2 (by simp)
  have hK8 := hK2.trans hk8 (FSub.refl _ _)
  obtain ⟨c0, c1, c2, c3, c4, cl⟩ := cell5 hX8
  obtain ⟨y0', y1', y2', y3', y4', yl⟩ := cell5 hD8
  obtain ⟨d0, d1, d2, d3, d4⟩ := thaw5 hD8
  clear hX hQ hD2 hK2 hk8 hX8 hv
  cases G with
  | true =>
    obtain ⟨rfl, rfl, rfl⟩ := H2.out rfl
    have hr := put5 hD8 (.int .u8 y0) (.int .u8 y1) (.int .u8 y2) (.int .u16 (y3 * 256 + y4)) (.int .u16 (y5 * 256 + y6))
    have hkk := hK8.set5 (b := w.heap.size) (.inr (Nat.le_refl _)) (.int .u8 y0) (.int .u8 y1) (.int .u8 y2) (.int .u16 (y3 * 256 + y4)) (.int .u16 (y5 * 256 + y6))
    have HR := Lib.hid hr; have HKK := Lib.hid hkk
    clear hr hkk hD8 hK8 H2 H3
    go_wp2_with fail
    go_region
    go_wp2_with fail
    try simp only [Exit.inBlock, Exit.then]
    exact bodyPost_ret (results_op3 rfl _ _ _ rfl (heap_drew HR.out)) rfl ⟨rfl, HKK.out.drew⟩
  | false =>
    obtain ⟨rfl, rfl, rfl⟩ := H3.out rfl
    have hr := put5 hD8 (.int .u8 0) (.int .u8 0) (.int .u8 0) (.int .u16 0) (.int .u16 0)
    have hkk := hK8.set5 (b := w.heap.size) (.inr (Nat.le_refl _)) (.int .u8 0) (.int .u8 0) (.int .u8 0) (.int .u16 0) (.int .u16 0)
    have HR := Lib.hid hr; have HKK := Lib.hid hkk
    clear hr hkk hD8 hK8 H2 H3
    go_wp2_with fail
    try simp only [Exit.inBlock, Exit.then]
    exact bodyPost_ret (results_op3 rfl _ _ _ rfl HR.out) rfl ⟨rfl, HKK.out⟩
set_option maxHeartbeats 8000000 in
set_option maxRecDepth 100000 in
theorem rshort_111 (w : World) (S : ByteArray) (y0 : Int) (hS : S.size < 7) (hi0 : 0 < S.size) (hb0 : ((S[0]'hi0).toNat : Int) = y0) (l0 : 0 ≤ y0) (u0 : y0 < 256)
    (is : opIs y0 = true) (hK : opK y0 = true) (hA : opA y0 = true) (hB : opB y0 = true) :
    Calls Tryz.prog 46 #[.string S] w fun e w' => e = .returned (.tuple #[opZero.val, .string ⟨#[]⟩, .int .i64 5]) ∧ Keeps [] w w' := by
  have hf := fun w => Of_any w y0 l0 u0
  rw [is, hK, hA, hB] at hf
  have z0 : (S.size : Int) < 7 := by omega
  have z1 : (S.size : Int) ≤ 2000000 := by omega
  have z2 : ((S.size : Int) == 0) = false := by rw [beq_eq_false_iff_ne]; omega
  generalize opM y0 = M at *
  generalize bs (opNm y0) = NM at *
  have hk0 := (Keeps.refl [] w).alloc (.cells #[.int .u8 0, .int .u8 0, .int .u8 0, .int .u16 0, .int .u16 0] 24)
  have hb0' := heap_alloc_new w (.cells #[.int .u8 0, .int .u8 0, .int .u8 0, .int .u16 0, .int .u16 0] 24)
  clear is hK hA hB hS
  go_enter Tryz.func46, Tryz.ntmps46
  go_wp2_with fail
  refine (hf _).mono ?_; rintro e w1 ⟨rfl, hk1⟩
  have hD := heap_alloc_lt (o := .cells #[.int .i64 M, .string NM, .bool true, .bool true, .bool true] 97) (hk1.heap hb0' (by simp))
  have hKK := (hk0.trans hk1 (FSub.refl _ _)).alloc (.cells #[.int .i64 M, .string NM, .bool true, .bool true, .bool true] 97)
  have hQ := heap_alloc_new w1 (.cells #[.int .i64 M, .string NM, .bool true, .bool true, .bool true] 97)
  obtain ⟨c0, c1, c2, c3, c4, cl⟩ := cell5 hD
  obtain ⟨d0, d1, d2, d3, d4⟩ := thaw5 hD
  obtain ⟨q0, q1, q2, q3, q4, ql⟩ := cell5 hQ
  have hr := put5 hD (.int .u8 0) (.int .u8 0) (.int .u8 0) (.int .u16 0) (.int .u16 0)
  have hkk := hKK.set5 (b := w.heap.size) (.inr (Nat.le_refl _)) (.int .u8 0) (.int .u8 0) (.int .u8 0) (.int .u16 0) (.int .u16 0)
  have HR := Lib.hid hr; have HKK := Lib.hid hkk
  clear hb0' hk0 hk1 hf hD hKK hr hkk hQ
  go_wp2_with fail
  try simp only [Exit.inBlock, Exit.then]
  exact bodyPost_ret (results_op3 rfl _ _ _ rfl HR.out) rfl ⟨rfl, HKK.out⟩
set_option maxHeartbeats 8000000 in
set_option maxRecDepth 100000 in
theorem rtake_no (w : World) (S : ByteArray) (y0 : Int) (hmax : S.size ≤ 2000000) (hi0 : 0 < S.size) (hb0 : ((S[0]'hi0).toNat : Int) = y0) (l0 : 0 ≤ y0) (u0 : y0 < 256) (is : opIs y0 = false) :
    Calls Tryz.prog 46 #[.string S] w fun e w' => e = .returned (.tuple #[opZero.val, .string ⟨#[]⟩, .int .i64 4]) ∧ Keeps [] w w' := by
  have hf := fun w => Of_any w y0 l0 u0
  rw [is] at hf
  have z1 : (S.size : Int) ≤ 2000000 := by omega
  have z2 : ((S.size : Int) == 0) = false := by rw [beq_eq_false_iff_ne]; omega
  generalize opM y0 = M at *
  generalize bs (opNm y0) = NM at *
  generalize opK y0 = K at *
  generalize opA y0 = A at *
  generalize opB y0 = BB at *
  have hk0 := (Keeps.refl [] w).alloc (.cells #[.int .u8 0, .int .u8 0, .int .u8 0, .int .u16 0, .int .u16 0] 24)
  have hb0' := heap_alloc_new w (.cells #[.int .u8 0, .int .u8 0, .int .u8 0, .int .u16 0, .int .u16 0] 24)
  clear is
  go_enter Tryz.func46, Tryz.ntmps46
  go_wp2_with fail
  refine (hf _).mono ?_; rintro e w1 ⟨rfl, hk1⟩
  have hD := heap_alloc_lt (o := .cells #[.int .i64 M, .string NM, .bool K, .bool A, .bool BB] 97) (hk1.heap hb0' (by simp))
  have hKK := (hk0.trans hk1 (FSub.refl _ _)).alloc (.cells #[.int .i64 M, .string NM, .bool K, .bool A, .bool BB] 97)
  obtain ⟨c0, c1, c2, c3, c4, cl⟩ := cell5 hD
  obtain ⟨d0, d1, d2, d3, d4⟩ := thaw5 hD
  have hr := put5 hD (.int .u8 0) (.int .u8 0) (.int .u8 0) (.int .u16 0) (.int .u16 0)
  have hkk := hKK.set5 (b := w.heap.size) (.inr (Nat.le_refl _)) (.int .u8 0) (.int .u8 0) (.int .u8 0) (.int .u16 0) (.int .u16 0)
  have HR := Lib.hid hr; have HKK := Lib.hid hkk
  clear hb0' hk0 hk1 hf hD hKK hr hkk
  go_wp2_with fail
  try simp only [Exit.inBlock, Exit.then]
  exact bodyPost_ret (results_op3 rfl _ _ _ rfl HR.out) rfl ⟨rfl, HKK.out⟩
set_option maxHeartbeats 8000000 in
set_option maxRecDepth 100000 in
theorem rtake_none (w : World) : Calls Tryz.prog 46 #[.string ⟨#[]⟩] w fun e w' => e = .returned (.tuple #[opZero.val, .string ⟨#[]⟩, .int .i64 5]) ∧ Keeps [] w w' := by
  have hk0 := (Keeps.refl [] w).alloc (.cells #[.int .u8 0, .int .u8 0, .int .u8 0, .int .u16 0, .int .u16 0] 24)
  have hb0' := heap_alloc_new w (.cells #[.int .u8 0, .int .u8 0, .int .u8 0, .int .u16 0, .int .u16 0] 24)
  go_enter Tryz.func46, Tryz.ntmps46
  go_wp2_with fail
  try simp only [Exit.inBlock, Exit.then]
  exact bodyPost_ret (results_op3 rfl _ _ _ rfl hb0') rfl ⟨rfl, hk0⟩
end Go.Proofs.YtibppobibncpdaaGreatDoor
