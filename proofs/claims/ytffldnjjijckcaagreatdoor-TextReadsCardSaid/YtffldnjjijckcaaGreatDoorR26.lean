/-
  The document's digits and Words.
-/
import Derived.Test.YtffldnjjijckcaaGreatDoorR18
set_option linter.unusedSimpArgs false
set_option linter.unusedVariables false
namespace Go.Proofs.YtffldnjjijckcaaGreatDoor
open Go.RowKit
theorem one_digit4 (c : Nat) : strOfNums [48 + (c : Int) % 10] = bs [UInt8.ofNat (48 + c % 10)] := by
  have : (48 + (c : Int) % 10).toNat = 48 + c % 10 := by omega
  simp [strOfNums, bs, this]
set_option maxHeartbeats 1000000 in
theorem Digits4_nat (w : World) (m : Nat) (hm : m < 65536) : Calls Tryz.prog 63 #[.int .u16 m] w fun e w' => e = .returned (.string (bs (Lib.decDigits m))) ∧ Keeps [] w w' := by
  have hlen := dec_length_le 4 m (by omega)
  go_enter Tryz.func63, Tryz.ntmps63
  go_wp2_with fail
  go_loopw [0, 3] (fun n s wr => ∃ (c : Nat) (t : List UInt8), n = .int .u16 c ∧ s = .string (bs t) ∧ Lib.decDigits c ++ t = Lib.decDigits m ∧ c ≤ m ∧ Keeps [] w wr) (fun n _ _ => (intOf n).toNat)
  case atStart => exact ⟨m, [], rfl, rfl, by simp, Nat.le_refl _, Keeps.refl _ _⟩
  case round =>
    obtain ⟨c, t, rfl, rfl, ht, hcm, hk⟩ := hrel
    have htl : t.length ≤ 10 := by have := congrArg List.length ht; rw [List.length_append] at this; omega
    have hs1 : (bs t).size ≤ 10 := by rw [bs_size]; exact htl
    have hcv := text1_at (W := wr) rfl (48 + (c : Int) % 10)
    have hs2 : (strOfNums [48 + (c : Int) % 10]).size ≤ 1 := by rw [strOfNums_size]; simp
    have e2 : strOfNums [48 + (c : Int) % 10] ++ bs t = bs (UInt8.ofNat (48 + c % 10) :: t) := by rw [one_digit4, bs_app]; rfl
    have E2 := Lib.hid e2; clear e2
    generalize hT : strOfNums [48 + (c : Int) % 10] = T at *
    generalize hS : bs t = S at *
    clear hT hS
    by_cases hlt : c < 10
    · have e3 : UInt8.ofNat (48 + c % 10) :: t = Lib.decDigits m := by rw [← ht, dec_small hlt]; rfl
      rw [e3] at E2
      have hq : (c : Int) / 10 = 0 := by omega
      clear e3
      go_wp2_with fail
      go_ret
      exact ⟨by rw [← E2.out]; rfl, hk.alloc _⟩
    · have e3 : Lib.decDigits (c / 10) ++ (UInt8.ofNat (48 + c % 10) :: t) = Lib.decDigits m := by rw [← ht, dec_big hlt]; simp
      have hq : ((c : Int) / 10 == 0) = false := by simp; omega
      go_wp2_with fail
      go_roundw
      case rel => exact ⟨c / 10, _, by congr 1, by rw [← E2.out], e3, by omega, hk.alloc _⟩
      case measure => simp [intOf]; omega
theorem Digits4_any (w : World) (n : Int) (n0 : 0 ≤ n) (n1 : n < 65536) : Calls Tryz.prog 63 #[.int .u16 n] w fun e w' => e = .returned (.string (bs (dec n))) ∧ Keeps [] w w' := by
  obtain ⟨m, rfl⟩ := Int.eq_ofNat_of_zero_le n0
  exact Digits4_nat w m (by omega)
set_option maxHeartbeats 4000000 in
set_option maxRecDepth 100000 in
theorem r4Words_000 (w : World) (f : Int) (o k a b : Int) (hx : (⟨f, o, k, a, b⟩ : Opn).In) (hg : opGood ⟨f, o, k, a, b⟩ = true) (hK : opK f = false) (hA : opA f = false) (hB : opB f = false) (NM O _TK _TA _TB : ByteArray) (hNM : bs (opNm f) = NM)
    (hO : ∀ w, Calls Tryz.prog 63 #[.int .u16 o] w fun e w' => e = .returned (.string O) ∧ Keeps [] w w') :
    Calls Tryz.prog 26 #[.agg #[.int .u8 f, .int .u8 o, .int .u8 k, .int .u16 a, .int .u16 b]] w fun e w' =>
    ∃ v, e = .returned v ∧ w'.ownsRow 0 9 1 v 2 [.string O, .string NM] ∧ Keeps [] w w' ∧ FSub (own v) [] w.heap.size := by
  have hv := fun w => May_any w f o k a b hx
  rw [hg] at hv
  have hc := fun w => Of_any w f hx.f0 hx.f1
  rw [hK, hA, hB, hNM] at hc
  generalize opIs f = I at *
  obtain ⟨f0, f1, o0, o1, k0, k1, a0, a1, b0, b1⟩ := hx
  simp only at f0 f1 o0 o1 k0 k1 a0 a1 b0 b1
  clear hK hA hB hg hNM
  generalize opM f = M at *
  obtain ⟨i0, hi, hz0, hz1, hz2⟩ := info_parts Tryz.infoS
  have hk0 := (Keeps.refl [] w).alloc (.cells #[.int .u8 f, .int .u8 o, .int .u8 k, .int .u16 a, .int .u16 b] 24)
  go_enter Tryz.func26, Tryz.ntmps26
  go_wp2_with fail
  refine (hv _).mono ?_; rintro e w1 ⟨rfl, hk1⟩
  have hb := boxed5 hk1
  replace hk1 := hk0.trans hk1 (FSub.refl _ _)
  obtain ⟨c0, c1, c2, c3, c4, cl⟩ := cell5 hb
  clear hv hk0
  go_wp2_with fail
  refine (hc _).mono ?_; rintro e w1' ⟨rfl, hk1'⟩
  replace hb := hk1'.heap hb (by simp)
  replace hk1 := hk1.trans hk1' (FSub.refl _ _)
  clear hc hk1' c0 c1 c2 c3 c4 cl
  clear w1
  obtain ⟨c0, c1, c2, c3, c4, cl⟩ := cell5 hb
  go_wp2_with fail
  have hQ := heap_alloc_new w1' (.cells #[.int .i64 M, .string NM, .bool false, .bool false, .bool false] 116)
  have hX := heap_alloc_lt (o := .cells #[.int .i64 M, .string NM, .bool false, .bool false, .bool false] 116) hb
  have hk2 := hk1.alloc (.cells #[.int .i64 M, .string NM, .bool false, .bool false, .bool false] 116)
  have e1 : (w1'.alloc (.cells #[.int .i64 M, .string NM, .bool false, .bool false, .bool false] 116)).heap.size = w1'.heap.size + 1 := by simp
  obtain ⟨q0, q1, q2, q3, q4, ql⟩ := cell5 hQ
  obtain ⟨d0, d1, d2, d3, d4, dl⟩ := cell5 hX
  clear c0 c1 c2 c3 c4 hk1
  have HX := Lib.hid hX; have HQ := Lib.hid hQ; have HK := Lib.hid hk2; have HB := Lib.hid hb
  clear hX hQ hk2 hb
  generalize w1'.alloc (.cells #[.int .i64 M, .string NM, .bool false, .bool false, .bool false] 116) = W at *
  have hwo : IntKind.u16.wrap o = o := by simp [IntKind.wrap, IntKind.bits, IntKind.signed]; omega
  go_region_with (go_at_call 63; refine (hO _).mono ?_; rintro e w2 ⟨rfl, hk3⟩; have p1 := hk3.cell q1 (by simp))
  all_goals
    have HP := Lib.hid (PAt.begin3 (e := 9) (w := w) (w1 := w1') (hk3.heap HX.out (by simp)) (hk3.heap HQ.out (by simp)) (HK.out.drew.trans hk3 (FSub.refl _ _)) cl (.string O) (.string NM))
    clear HX HQ HK HB hO hwo q0 q1 q2 q3 q4 ql d0 d1 d2 d3 d4 dl p1 hk3
    obtain ⟨c0, c1, c2, c3, c4, cl2⟩ := cell5 HP.out.xb
    obtain ⟨q0, q1, q2, q3, q4, ql⟩ := cell5 HP.out.qb
    go_wp2_with fail
    go_ret
    exact ⟨_, rfl, HP.out.row, HP.out.keeps, fun g hg => .inr (by have h1 := HP.out.free g hg; have h2 := HP.out.lt; omega)⟩
set_option maxHeartbeats 4000000 in
set_option maxRecDepth 100000 in
theorem r4Words_010 (w : World) (f : Int) (o k a b : Int) (hx : (⟨f, o, k, a, b⟩ : Opn).In) (hg : opGood ⟨f, o, k, a, b⟩ = true) (hK : opK f = false) (hA : opA f = true) (hB : opB f = false) (NM O _TK TA _TB : ByteArray) (hNM : bs (opNm f) = NM)
    (hO : ∀ w, Calls Tryz.prog 63 #[.int .u16 o] w fun e w' => e = .returned (.string O) ∧ Keeps [] w w') (hTA : ∀ w, Calls Tryz.prog 63 #[.int .u16 a] w fun e w' => e = .returned (.string TA) ∧ Keeps [] w w') :
    Calls Tryz.prog 26 #[.agg #[.int .u8 f, .int .u8 o, .int .u8 k, .int .u16 a, .int .u16 b]] w fun e w' =>
    ∃ v, e = .returned v ∧ w'.ownsRow 0 9 1 v 3 [.string O, .string NM, .string TA] ∧ Keeps [] w w' ∧ FSub (own v) [] w.heap.size := by
  have hv := fun w => May_any w f o k a b hx
  rw [hg] at hv
  have hc := fun w => Of_any w f hx.f0 hx.f1
  rw [hK, hA, hB, hNM] at hc
  generalize opIs f = I at *
  obtain ⟨f0, f1, o0, o1, k0, k1, a0, a1, b0, b1⟩ := hx
  simp only at f0 f1 o0 o1 k0 k1 a0 a1 b0 b1
  clear hK hA hB hg hNM
  generalize opM f = M at *
  obtain ⟨i0, hi, hz0, hz1, hz2⟩ := info_parts Tryz.infoS
  have hk0 := (Keeps.refl [] w).alloc (.cells #[.int .u8 f, .int .u8 o, .int .u8 k, .int .u16 a, .int .u16 b] 24)
  go_enter Tryz.func26, Tryz.ntmps26
  go_wp2_with fail
  refine (hv _).mono ?_; rintro e w1 ⟨rfl, hk1⟩
  have hb := boxed5 hk1
  replace hk1 := hk0.trans hk1 (FSub.refl _ _)
  obtain ⟨c0, c1, c2, c3, c4, cl⟩ := cell5 hb
  clear hv hk0
  go_wp2_with fail
  refine (hc _).mono ?_; rintro e w1' ⟨rfl, hk1'⟩
  replace hb := hk1'.heap hb (by simp)
  replace hk1 := hk1.trans hk1' (FSub.refl _ _)
  clear hc hk1' c0 c1 c2 c3 c4 cl
  clear w1
  obtain ⟨c0, c1, c2, c3, c4, cl⟩ := cell5 hb
  go_wp2_with fail
  have hQ := heap_alloc_new w1' (.cells #[.int .i64 M, .string NM, .bool false, .bool true, .bool false] 116)
  have hX := heap_alloc_lt (o := .cells #[.int .i64 M, .string NM, .bool false, .bool true, .bool false] 116) hb
  have hk2 := hk1.alloc (.cells #[.int .i64 M, .string NM, .bool false, .bool true, .bool false] 116)
  have e1 : (w1'.alloc (.cells #[.int .i64 M, .string NM, .bool false, .bool true, .bool false] 116)).heap.size = w1'.heap.size + 1 := by simp
  obtain ⟨q0, q1, q2, q3, q4, ql⟩ := cell5 hQ
  obtain ⟨d0, d1, d2, d3, d4, dl⟩ := cell5 hX
  clear c0 c1 c2 c3 c4 hk1
  have HX := Lib.hid hX; have HQ := Lib.hid hQ; have HK := Lib.hid hk2; have HB := Lib.hid hb
  clear hX hQ hk2 hb
  generalize w1'.alloc (.cells #[.int .i64 M, .string NM, .bool false, .bool true, .bool false] 116) = W at *
  have hwo : IntKind.u16.wrap o = o := by simp [IntKind.wrap, IntKind.bits, IntKind.signed]; omega
  go_region_with (go_at_call 63; refine (hO _).mono ?_; rintro e w2 ⟨rfl, hk3⟩; have p1 := hk3.cell q1 (by simp))
  all_goals
    have HP := Lib.hid (PAt.begin3 (e := 9) (w := w) (w1 := w1') (hk3.heap HX.out (by simp)) (hk3.heap HQ.out (by simp)) (HK.out.drew.trans hk3 (FSub.refl _ _)) cl (.string O) (.string NM))
    clear HX HQ HK HB hO hwo q0 q1 q2 q3 q4 ql d0 d1 d2 d3 d4 dl p1 hk3
    obtain ⟨c0, c1, c2, c3, c4, cl2⟩ := cell5 HP.out.xb
    obtain ⟨q0, q1, q2, q3, q4, ql⟩ := cell5 HP.out.qb
    go_wp2_with fail
    refine (hTA _).mono ?_; rintro e w3 ⟨rfl, hk⟩
    replace HP := Lib.hid (HP.out.keep hk)
    clear hk hTA
    obtain ⟨c0, c1, c2, c3, c4, cl2⟩ := cell5 HP.out.xb
    obtain ⟨q0, q1, q2, q3, q4, ql⟩ := cell5 HP.out.qb
    go_wp2_with (at_builtin; refine wpList_append_sharp _ rfl _ _ 63 rfl 9 i0 (.string ⟨#[]⟩) 16 Tryz.underlying63 hi hz0 hz1 hz2 rfl _ 2 [.string O, .string NM] rfl (HP.out.row.alloc _) ⟨_, 0, none⟩ 1 1 [.string TA] rfl rfl ?c1 ?c2 ?c3 ?c4 ?_)
    case c1 => exact one_at (by simp) _ _
    case c2 => intro u hu; simp at hu; subst hu; rfl
    case c3 => unfold maxLen; omega
    case c4 => omega
    intro v2 w4 ho hq hs hn
    replace HP := Lib.hid (HP.out.step2 hq ho hs (by simp))
    clear ho hq hs hn
    obtain ⟨c0, c1, c2, c3, c4, cl2⟩ := cell5 HP.out.xb
    obtain ⟨q0, q1, q2, q3, q4, ql⟩ := cell5 HP.out.qb
    go_wp2_with fail
    go_ret
    exact ⟨_, rfl, HP.out.row, HP.out.keeps, fun g hg => .inr (by have h1 := HP.out.free g hg; have h2 := HP.out.lt; omega)⟩
set_option maxHeartbeats 4000000 in
set_option maxRecDepth 100000 in
theorem r4Words_011 (w : World) (f : Int) (o k a b : Int) (hx : (⟨f, o, k, a, b⟩ : Opn).In) (hg : opGood ⟨f, o, k, a, b⟩ = true) (hK : opK f = false) (hA : opA f = true) (hB : opB f = true) (NM O _TK TA TB : ByteArray) (hNM : bs (opNm f) = NM)
    (hO : ∀ w, Calls Tryz.prog 63 #[.int .u16 o] w fun e w' => e = .returned (.string O) ∧ Keeps [] w w') (hTA : ∀ w, Calls Tryz.prog 63 #[.int .u16 a] w fun e w' => e = .returned (.string TA) ∧ Keeps [] w w') (hTB : ∀ w, Calls Tryz.prog 63 #[.int .u16 b] w fun e w' => e = .returned (.string TB) ∧ Keeps [] w w') :
    Calls Tryz.prog 26 #[.agg #[.int .u8 f, .int .u8 o, .int .u8 k, .int .u16 a, .int .u16 b]] w fun e w' =>
    ∃ v, e = .returned v ∧ w'.ownsRow 0 9 1 v 4 [.string O, .string NM, .string TA, .string TB] ∧ Keeps [] w w' ∧ FSub (own v) [] w.heap.size := by
  have hv := fun w => May_any w f o k a b hx
  rw [hg] at hv
  have hc := fun w => Of_any w f hx.f0 hx.f1
  rw [hK, hA, hB, hNM] at hc
  generalize opIs f = I at *
  obtain ⟨f0, f1, o0, o1, k0, k1, a0, a1, b0, b1⟩ := hx
  simp only at f0 f1 o0 o1 k0 k1 a0 a1 b0 b1
  clear hK hA hB hg hNM
  generalize opM f = M at *
  obtain ⟨i0, hi, hz0, hz1, hz2⟩ := info_parts Tryz.infoS
  have hk0 := (Keeps.refl [] w).alloc (.cells #[.int .u8 f, .int .u8 o, .int .u8 k, .int .u16 a, .int .u16 b] 24)
  go_enter Tryz.func26, Tryz.ntmps26
  go_wp2_with fail
  refine (hv _).mono ?_; rintro e w1 ⟨rfl, hk1⟩
  have hb := boxed5 hk1
  replace hk1 := hk0.trans hk1 (FSub.refl _ _)
  obtain ⟨c0, c1, c2, c3, c4, cl⟩ := cell5 hb
  clear hv hk0
  go_wp2_with fail
  refine (hc _).mono ?_; rintro e w1' ⟨rfl, hk1'⟩
  replace hb := hk1'.heap hb (by simp)
  replace hk1 := hk1.trans hk1' (FSub.refl _ _)
  clear hc hk1' c0 c1 c2 c3 c4 cl
  clear w1
  obtain ⟨c0, c1, c2, c3, c4, cl⟩ := cell5 hb
  go_wp2_with fail
  have hQ := heap_alloc_new w1' (.cells #[.int .i64 M, .string NM, .bool false, .bool true, .bool true] 116)
  have hX := heap_alloc_lt (o := .cells #[.int .i64 M, .string NM, .bool false, .bool true, .bool true] 116) hb
  have hk2 := hk1.alloc (.cells #[.int .i64 M, .string NM, .bool false, .bool true, .bool true] 116)
  have e1 : (w1'.alloc (.cells #[.int .i64 M, .string NM, .bool false, .bool true, .bool true] 116)).heap.size = w1'.heap.size + 1 := by simp
  obtain ⟨q0, q1, q2, q3, q4, ql⟩ := cell5 hQ
  obtain ⟨d0, d1, d2, d3, d4, dl⟩ := cell5 hX
  clear c0 c1 c2 c3 c4 hk1
  have HX := Lib.hid hX; have HQ := Lib.hid hQ; have HK := Lib.hid hk2; have HB := Lib.hid hb
  clear hX hQ hk2 hb
  generalize w1'.alloc (.cells #[.int .i64 M, .string NM, .bool false, .bool true, .bool true] 116) = W at *
  have hwo : IntKind.u16.wrap o = o := by simp [IntKind.wrap, IntKind.bits, IntKind.signed]; omega
  go_region_with (go_at_call 63; refine (hO _).mono ?_; rintro e w2 ⟨rfl, hk3⟩; have p1 := hk3.cell q1 (by simp))
  all_goals
    have HP := Lib.hid (PAt.begin3 (e := 9) (w := w) (w1 := w1') (hk3.heap HX.out (by simp)) (hk3.heap HQ.out (by simp)) (HK.out.drew.trans hk3 (FSub.refl _ _)) cl (.string O) (.string NM))
    clear HX HQ HK HB hO hwo q0 q1 q2 q3 q4 ql d0 d1 d2 d3 d4 dl p1 hk3
    obtain ⟨c0, c1, c2, c3, c4, cl2⟩ := cell5 HP.out.xb
    obtain ⟨q0, q1, q2, q3, q4, ql⟩ := cell5 HP.out.qb
    go_wp2_with fail
    refine (hTA _).mono ?_; rintro e w3 ⟨rfl, hk⟩
    replace HP := Lib.hid (HP.out.keep hk)
    clear hk hTA
    obtain ⟨c0, c1, c2, c3, c4, cl2⟩ := cell5 HP.out.xb
    obtain ⟨q0, q1, q2, q3, q4, ql⟩ := cell5 HP.out.qb
    go_wp2_with (at_builtin; refine wpList_append_sharp _ rfl _ _ 63 rfl 9 i0 (.string ⟨#[]⟩) 16 Tryz.underlying63 hi hz0 hz1 hz2 rfl _ 2 [.string O, .string NM] rfl (HP.out.row.alloc _) ⟨_, 0, none⟩ 1 1 [.string TA] rfl rfl ?c1 ?c2 ?c3 ?c4 ?_)
    case c1 => exact one_at (by simp) _ _
    case c2 => intro u hu; simp at hu; subst hu; rfl
    case c3 => unfold maxLen; omega
    case c4 => omega
    intro v2 w4 ho hq hs hn
    replace HP := Lib.hid (HP.out.step2 hq ho hs (by simp))
    clear ho hq hs hn
    obtain ⟨c0, c1, c2, c3, c4, cl2⟩ := cell5 HP.out.xb
    obtain ⟨q0, q1, q2, q3, q4, ql⟩ := cell5 HP.out.qb
    go_wp2_with fail
    refine (hTB _).mono ?_; rintro e w5 ⟨rfl, hk⟩
    replace HP := Lib.hid (HP.out.keep hk)
    clear hk hTB
    obtain ⟨c0, c1, c2, c3, c4, cl2⟩ := cell5 HP.out.xb
    obtain ⟨q0, q1, q2, q3, q4, ql⟩ := cell5 HP.out.qb
    go_wp2_with (at_builtin; refine wpList_append_sharp _ rfl _ _ 63 rfl 9 i0 (.string ⟨#[]⟩) 16 Tryz.underlying63 hi hz0 hz1 hz2 rfl _ 3 [.string O, .string NM, .string TA] rfl (HP.out.row.alloc _) ⟨_, 0, none⟩ 1 1 [.string TB] rfl rfl ?c1 ?c2 ?c3 ?c4 ?_)
    case c1 => exact one_at (by simp) _ _
    case c2 => intro u hu; simp at hu; subst hu; rfl
    case c3 => unfold maxLen; omega
    case c4 => omega
    intro v3 w6 ho hq hs hn
    replace HP := Lib.hid (HP.out.step2 hq ho hs (by simp))
    clear ho hq hs hn
    obtain ⟨c0, c1, c2, c3, c4, cl2⟩ := cell5 HP.out.xb
    obtain ⟨q0, q1, q2, q3, q4, ql⟩ := cell5 HP.out.qb
    go_wp2_with fail
    go_ret
    exact ⟨_, rfl, HP.out.row, HP.out.keeps, fun g hg => .inr (by have h1 := HP.out.free g hg; have h2 := HP.out.lt; omega)⟩
set_option maxHeartbeats 4000000 in
set_option maxRecDepth 100000 in
theorem r4Words_100 (w : World) (f : Int) (o k a b : Int) (hx : (⟨f, o, k, a, b⟩ : Opn).In) (hg : opGood ⟨f, o, k, a, b⟩ = true) (hK : opK f = true) (hA : opA f = false) (hB : opB f = false) (NM O TK _TA _TB : ByteArray) (hNM : bs (opNm f) = NM)
    (hO : ∀ w, Calls Tryz.prog 63 #[.int .u16 o] w fun e w' => e = .returned (.string O) ∧ Keeps [] w w') (hTK : ∀ w, Calls Tryz.prog 63 #[.int .u16 k] w fun e w' => e = .returned (.string TK) ∧ Keeps [] w w') :
    Calls Tryz.prog 26 #[.agg #[.int .u8 f, .int .u8 o, .int .u8 k, .int .u16 a, .int .u16 b]] w fun e w' =>
    ∃ v, e = .returned v ∧ w'.ownsRow 0 9 1 v 3 [.string O, .string NM, .string TK] ∧ Keeps [] w w' ∧ FSub (own v) [] w.heap.size := by
  have hv := fun w => May_any w f o k a b hx
  rw [hg] at hv
  have hc := fun w => Of_any w f hx.f0 hx.f1
  rw [hK, hA, hB, hNM] at hc
  generalize opIs f = I at *
  obtain ⟨f0, f1, o0, o1, k0, k1, a0, a1, b0, b1⟩ := hx
  simp only at f0 f1 o0 o1 k0 k1 a0 a1 b0 b1
  clear hK hA hB hg hNM
  generalize opM f = M at *
  obtain ⟨i0, hi, hz0, hz1, hz2⟩ := info_parts Tryz.infoS
  have hk0 := (Keeps.refl [] w).alloc (.cells #[.int .u8 f, .int .u8 o, .int .u8 k, .int .u16 a, .int .u16 b] 24)
  go_enter Tryz.func26, Tryz.ntmps26
  go_wp2_with fail
  refine (hv _).mono ?_; rintro e w1 ⟨rfl, hk1⟩
  have hb := boxed5 hk1
  replace hk1 := hk0.trans hk1 (FSub.refl _ _)
  obtain ⟨c0, c1, c2, c3, c4, cl⟩ := cell5 hb
  clear hv hk0
  go_wp2_with fail
  refine (hc _).mono ?_; rintro e w1' ⟨rfl, hk1'⟩
  replace hb := hk1'.heap hb (by simp)
  replace hk1 := hk1.trans hk1' (FSub.refl _ _)
  clear hc hk1' c0 c1 c2 c3 c4 cl
  clear w1
  obtain ⟨c0, c1, c2, c3, c4, cl⟩ := cell5 hb
  go_wp2_with fail
  have hQ := heap_alloc_new w1' (.cells #[.int .i64 M, .string NM, .bool true, .bool false, .bool false] 116)
  have hX := heap_alloc_lt (o := .cells #[.int .i64 M, .string NM, .bool true, .bool false, .bool false] 116) hb
  have hk2 := hk1.alloc (.cells #[.int .i64 M, .string NM, .bool true, .bool false, .bool false] 116)
  have e1 : (w1'.alloc (.cells #[.int .i64 M, .string NM, .bool true, .bool false, .bool false] 116)).heap.size = w1'.heap.size + 1 := by simp
  obtain ⟨q0, q1, q2, q3, q4, ql⟩ := cell5 hQ
  obtain ⟨d0, d1, d2, d3, d4, dl⟩ := cell5 hX
  clear c0 c1 c2 c3 c4 hk1
  have HX := Lib.hid hX; have HQ := Lib.hid hQ; have HK := Lib.hid hk2; have HB := Lib.hid hb
  clear hX hQ hk2 hb
  generalize w1'.alloc (.cells #[.int .i64 M, .string NM, .bool true, .bool false, .bool false] 116) = W at *
  have hwo : IntKind.u16.wrap o = o := by simp [IntKind.wrap, IntKind.bits, IntKind.signed]; omega
  go_region_with (go_at_call 63; refine (hO _).mono ?_; rintro e w2 ⟨rfl, hk3⟩; have p1 := hk3.cell q1 (by simp))
  all_goals
    have HP := Lib.hid (PAt.begin3 (e := 9) (w := w) (w1 := w1') (hk3.heap HX.out (by simp)) (hk3.heap HQ.out (by simp)) (HK.out.drew.trans hk3 (FSub.refl _ _)) cl (.string O) (.string NM))
    clear HX HQ HK HB hO hwo q0 q1 q2 q3 q4 ql d0 d1 d2 d3 d4 dl p1 hk3
    obtain ⟨c0, c1, c2, c3, c4, cl2⟩ := cell5 HP.out.xb
    obtain ⟨q0, q1, q2, q3, q4, ql⟩ := cell5 HP.out.qb
    go_wp2_with fail
    refine (hTK _).mono ?_; rintro e w3 ⟨rfl, hk⟩
    replace HP := Lib.hid (HP.out.keep hk)
    clear hk hTK
    obtain ⟨c0, c1, c2, c3, c4, cl2⟩ := cell5 HP.out.xb
    obtain ⟨q0, q1, q2, q3, q4, ql⟩ := cell5 HP.out.qb
    go_wp2_with (at_builtin; refine wpList_append_sharp _ rfl _ _ 63 rfl 9 i0 (.string ⟨#[]⟩) 16 Tryz.underlying63 hi hz0 hz1 hz2 rfl _ 2 [.string O, .string NM] rfl (HP.out.row.alloc _) ⟨_, 0, none⟩ 1 1 [.string TK] rfl rfl ?c1 ?c2 ?c3 ?c4 ?_)
    case c1 => exact one_at (by simp) _ _
    case c2 => intro u hu; simp at hu; subst hu; rfl
    case c3 => unfold maxLen; omega
    case c4 => omega
    intro v2 w4 ho hq hs hn
    replace HP := Lib.hid (HP.out.step2 hq ho hs (by simp))
    clear ho hq hs hn
    obtain ⟨c0, c1, c2, c3, c4, cl2⟩ := cell5 HP.out.xb
    obtain ⟨q0, q1, q2, q3, q4, ql⟩ := cell5 HP.out.qb
    go_wp2_with fail
    go_ret
    exact ⟨_, rfl, HP.out.row, HP.out.keeps, fun g hg => .inr (by have h1 := HP.out.free g hg; have h2 := HP.out.lt; omega)⟩
set_option maxHeartbeats 4000000 in
set_option maxRecDepth 100000 in
theorem r4Words_110 (w : World) (f : Int) (o k a b : Int) (hx : (⟨f, o, k, a, b⟩ : Opn).In) (hg : opGood ⟨f, o, k, a, b⟩ = true) (hK : opK f = true) (hA : opA f = true) (hB : opB f = false) (NM O TK TA _TB : ByteArray) (hNM : bs (opNm f) = NM)
    (hO : ∀ w, Calls Tryz.prog 63 #[.int .u16 o] w fun e w' => e = .returned (.string O) ∧ Keeps [] w w') (hTK : ∀ w, Calls Tryz.prog 63 #[.int .u16 k] w fun e w' => e = .returned (.string TK) ∧ Keeps [] w w') (hTA : ∀ w, Calls Tryz.prog 63 #[.int .u16 a] w fun e w' => e = .returned (.string TA) ∧ Keeps [] w w') :
    Calls Tryz.prog 26 #[.agg #[.int .u8 f, .int .u8 o, .int .u8 k, .int .u16 a, .int .u16 b]] w fun e w' =>
    ∃ v, e = .returned v ∧ w'.ownsRow 0 9 1 v 4 [.string O, .string NM, .string TK, .string TA] ∧ Keeps [] w w' ∧ FSub (own v) [] w.heap.size := by
  have hv := fun w => May_any w f o k a b hx
  rw [hg] at hv
  have hc := fun w => Of_any w f hx.f0 hx.f1
  rw [hK, hA, hB, hNM] at hc
  generalize opIs f = I at *
  obtain ⟨f0, f1, o0, o1, k0, k1, a0, a1, b0, b1⟩ := hx
  simp only at f0 f1 o0 o1 k0 k1 a0 a1 b0 b1
  clear hK hA hB hg hNM
  generalize opM f = M at *
  obtain ⟨i0, hi, hz0, hz1, hz2⟩ := info_parts Tryz.infoS
  have hk0 := (Keeps.refl [] w).alloc (.cells #[.int .u8 f, .int .u8 o, .int .u8 k, .int .u16 a, .int .u16 b] 24)
  go_enter Tryz.func26, Tryz.ntmps26
  go_wp2_with fail
  refine (hv _).mono ?_; rintro e w1 ⟨rfl, hk1⟩
  have hb := boxed5 hk1
  replace hk1 := hk0.trans hk1 (FSub.refl _ _)
  obtain ⟨c0, c1, c2, c3, c4, cl⟩ := cell5 hb
  clear hv hk0
  go_wp2_with fail
  refine (hc _).mono ?_; rintro e w1' ⟨rfl, hk1'⟩
  replace hb := hk1'.heap hb (by simp)
  replace hk1 := hk1.trans hk1' (FSub.refl _ _)
  clear hc hk1' c0 c1 c2 c3 c4 cl
  clear w1
  obtain ⟨c0, c1, c2, c3, c4, cl⟩ := cell5 hb
  go_wp2_with fail
  have hQ := heap_alloc_new w1' (.cells #[.int .i64 M, .string NM, .bool true, .bool true, .bool false] 116)
  have hX := heap_alloc_lt (o := .cells #[.int .i64 M, .string NM, .bool true, .bool true, .bool false] 116) hb
  have hk2 := hk1.alloc (.cells #[.int .i64 M, .string NM, .bool true, .bool true, .bool false] 116)
  have e1 : (w1'.alloc (.cells #[.int .i64 M, .string NM, .bool true, .bool true, .bool false] 116)).heap.size = w1'.heap.size + 1 := by simp
  obtain ⟨q0, q1, q2, q3, q4, ql⟩ := cell5 hQ
  obtain ⟨d0, d1, d2, d3, d4, dl⟩ := cell5 hX
  clear c0 c1 c2 c3 c4 hk1
  have HX := Lib.hid hX; have HQ := Lib.hid hQ; have HK := Lib.hid hk2; have HB := Lib.hid hb
  clear hX hQ hk2 hb
  generalize w1'.alloc (.cells #[.int .i64 M, .string NM, .bool true, .bool true, .bool false] 116) = W at *
  have hwo : IntKind.u16.wrap o = o := by simp [IntKind.wrap, IntKind.bits, IntKind.signed]; omega
  go_region_with (go_at_call 63; refine (hO _).mono ?_; rintro e w2 ⟨rfl, hk3⟩; have p1 := hk3.cell q1 (by simp))
  all_goals
    have HP := Lib.hid (PAt.begin3 (e := 9) (w := w) (w1 := w1') (hk3.heap HX.out (by simp)) (hk3.heap HQ.out (by simp)) (HK.out.drew.trans hk3 (FSub.refl _ _)) cl (.string O) (.string NM))
    clear HX HQ HK HB hO hwo q0 q1 q2 q3 q4 ql d0 d1 d2 d3 d4 dl p1 hk3
    obtain ⟨c0, c1, c2, c3, c4, cl2⟩ := cell5 HP.out.xb
    obtain ⟨q0, q1, q2, q3, q4, ql⟩ := cell5 HP.out.qb
    go_wp2_with fail
    refine (hTK _).mono ?_; rintro e w3 ⟨rfl, hk⟩
    replace HP := Lib.hid (HP.out.keep hk)
    clear hk hTK
    obtain ⟨c0, c1, c2, c3, c4, cl2⟩ := cell5 HP.out.xb
    obtain ⟨q0, q1, q2, q3, q4, ql⟩ := cell5 HP.out.qb
    go_wp2_with (at_builtin; refine wpList_append_sharp _ rfl _ _ 63 rfl 9 i0 (.string ⟨#[]⟩) 16 Tryz.underlying63 hi hz0 hz1 hz2 rfl _ 2 [.string O, .string NM] rfl (HP.out.row.alloc _) ⟨_, 0, none⟩ 1 1 [.string TK] rfl rfl ?c1 ?c2 ?c3 ?c4 ?_)
    case c1 => exact one_at (by simp) _ _
    case c2 => intro u hu; simp at hu; subst hu; rfl
    case c3 => unfold maxLen; omega
    case c4 => omega
    intro v2 w4 ho hq hs hn
    replace HP := Lib.hid (HP.out.step2 hq ho hs (by simp))
    clear ho hq hs hn
    obtain ⟨c0, c1, c2, c3, c4, cl2⟩ := cell5 HP.out.xb
    obtain ⟨q0, q1, q2, q3, q4, ql⟩ := cell5 HP.out.qb
    go_wp2_with fail
    refine (hTA _).mono ?_; rintro e w5 ⟨rfl, hk⟩
    replace HP := Lib.hid (HP.out.keep hk)
    clear hk hTA
    obtain ⟨c0, c1, c2, c3, c4, cl2⟩ := cell5 HP.out.xb
    obtain ⟨q0, q1, q2, q3, q4, ql⟩ := cell5 HP.out.qb
    go_wp2_with (at_builtin; refine wpList_append_sharp _ rfl _ _ 63 rfl 9 i0 (.string ⟨#[]⟩) 16 Tryz.underlying63 hi hz0 hz1 hz2 rfl _ 3 [.string O, .string NM, .string TK] rfl (HP.out.row.alloc _) ⟨_, 0, none⟩ 1 1 [.string TA] rfl rfl ?c1 ?c2 ?c3 ?c4 ?_)
    case c1 => exact one_at (by simp) _ _
    case c2 => intro u hu; simp at hu; subst hu; rfl
    case c3 => unfold maxLen; omega
    case c4 => omega
    intro v3 w6 ho hq hs hn
    replace HP := Lib.hid (HP.out.step2 hq ho hs (by simp))
    clear ho hq hs hn
    obtain ⟨c0, c1, c2, c3, c4, cl2⟩ := cell5 HP.out.xb
    obtain ⟨q0, q1, q2, q3, q4, ql⟩ := cell5 HP.out.qb
    go_wp2_with fail
    go_ret
    exact ⟨_, rfl, HP.out.row, HP.out.keeps, fun g hg => .inr (by have h1 := HP.out.free g hg; have h2 := HP.out.lt; omega)⟩
set_option maxHeartbeats 4000000 in
set_option maxRecDepth 100000 in
theorem r4Words_111 (w : World) (f : Int) (o k a b : Int) (hx : (⟨f, o, k, a, b⟩ : Opn).In) (hg : opGood ⟨f, o, k, a, b⟩ = true) (hK : opK f = true) (hA : opA f = true) (hB : opB f = true) (NM O TK TA TB : ByteArray) (hNM : bs (opNm f) = NM)
    (hO : ∀ w, Calls Tryz.prog 63 #[.int .u16 o] w fun e w' => e = .returned (.string O) ∧ Keeps [] w w') (hTK : ∀ w, Calls Tryz.prog 63 #[.int .u16 k] w fun e w' => e = .returned (.string TK) ∧ Keeps [] w w') (hTA : ∀ w, Calls Tryz.prog 63 #[.int .u16 a] w fun e w' => e = .returned (.string TA) ∧ Keeps [] w w') (hTB : ∀ w, Calls Tryz.prog 63 #[.int .u16 b] w fun e w' => e = .returned (.string TB) ∧ Keeps [] w w') :
    Calls Tryz.prog 26 #[.agg #[.int .u8 f, .int .u8 o, .int .u8 k, .int .u16 a, .int .u16 b]] w fun e w' =>
    ∃ v, e = .returned v ∧ w'.ownsRow 0 9 1 v 5 [.string O, .string NM, .string TK, .string TA, .string TB] ∧ Keeps [] w w' ∧ FSub (own v) [] w.heap.size := by
  have hv := fun w => May_any w f o k a b hx
  rw [hg] at hv
  have hc := fun w => Of_any w f hx.f0 hx.f1
  rw [hK, hA, hB, hNM] at hc
  generalize opIs f = I at *
  obtain ⟨f0, f1, o0, o1, k0, k1, a0, a1, b0, b1⟩ := hx
  simp only at f0 f1 o0 o1 k0 k1 a0 a1 b0 b1
  clear hK hA hB hg hNM
  generalize opM f = M at *
  obtain ⟨i0, hi, hz0, hz1, hz2⟩ := info_parts Tryz.infoS
  have hk0 := (Keeps.refl [] w).alloc (.cells #[.int .u8 f, .int .u8 o, .int .u8 k, .int .u16 a, .int .u16 b] 24)
  go_enter Tryz.func26, Tryz.ntmps26
  go_wp2_with fail
  refine (hv _).mono ?_; rintro e w1 ⟨rfl, hk1⟩
  have hb := boxed5 hk1
  replace hk1 := hk0.trans hk1 (FSub.refl _ _)
  obtain ⟨c0, c1, c2, c3, c4, cl⟩ := cell5 hb
  clear hv hk0
  go_wp2_with fail
  refine (hc _).mono ?_; rintro e w1' ⟨rfl, hk1'⟩
  replace hb := hk1'.heap hb (by simp)
  replace hk1 := hk1.trans hk1' (FSub.refl _ _)
  clear hc hk1' c0 c1 c2 c3 c4 cl
  clear w1
  obtain ⟨c0, c1, c2, c3, c4, cl⟩ := cell5 hb
  go_wp2_with fail
  have hQ := heap_alloc_new w1' (.cells #[.int .i64 M, .string NM, .bool true, .bool true, .bool true] 116)
  have hX := heap_alloc_lt (o := .cells #[.int .i64 M, .string NM, .bool true, .bool true, .bool true] 116) hb
  have hk2 := hk1.alloc (.cells #[.int .i64 M, .string NM, .bool true, .bool true, .bool true] 116)
  have e1 : (w1'.alloc (.cells #[.int .i64 M, .string NM, .bool true, .bool true, .bool true] 116)).heap.size = w1'.heap.size + 1 := by simp
  obtain ⟨q0, q1, q2, q3, q4, ql⟩ := cell5 hQ
  obtain ⟨d0, d1, d2, d3, d4, dl⟩ := cell5 hX
  clear c0 c1 c2 c3 c4 hk1
  have HX := Lib.hid hX; have HQ := Lib.hid hQ; have HK := Lib.hid hk2; have HB := Lib.hid hb
  clear hX hQ hk2 hb
  generalize w1'.alloc (.cells #[.int .i64 M, .string NM, .bool true, .bool true, .bool true] 116) = W at *
  have hwo : IntKind.u16.wrap o = o := by simp [IntKind.wrap, IntKind.bits, IntKind.signed]; omega
  go_region_with (go_at_call 63; refine (hO _).mono ?_; rintro e w2 ⟨rfl, hk3⟩; have p1 := hk3.cell q1 (by simp))
  all_goals
    have HP := Lib.hid (PAt.begin3 (e := 9) (w := w) (w1 := w1') (hk3.heap HX.out (by simp)) (hk3.heap HQ.out (by simp)) (HK.out.drew.trans hk3 (FSub.refl _ _)) cl (.string O) (.string NM))
    clear HX HQ HK HB hO hwo q0 q1 q2 q3 q4 ql d0 d1 d2 d3 d4 dl p1 hk3
    obtain ⟨c0, c1, c2, c3, c4, cl2⟩ := cell5 HP.out.xb
    obtain ⟨q0, q1, q2, q3, q4, ql⟩ := cell5 HP.out.qb
    go_wp2_with fail
    refine (hTK _).mono ?_; rintro e w3 ⟨rfl, hk⟩
    replace HP := Lib.hid (HP.out.keep hk)
    clear hk hTK
    obtain ⟨c0, c1, c2, c3, c4, cl2⟩ := cell5 HP.out.xb
    obtain ⟨q0, q1, q2, q3, q4, ql⟩ := cell5 HP.out.qb
    go_wp2_with (at_builtin; refine wpList_append_sharp _ rfl _ _ 63 rfl 9 i0 (.string ⟨#[]⟩) 16 Tryz.underlying63 hi hz0 hz1 hz2 rfl _ 2 [.string O, .string NM] rfl (HP.out.row.alloc _) ⟨_, 0, none⟩ 1 1 [.string TK] rfl rfl ?c1 ?c2 ?c3 ?c4 ?_)
    case c1 => exact one_at (by simp) _ _
    case c2 => intro u hu; simp at hu; subst hu; rfl
    case c3 => unfold maxLen; omega
    case c4 => omega
    intro v2 w4 ho hq hs hn
    replace HP := Lib.hid (HP.out.step2 hq ho hs (by simp))
    clear ho hq hs hn
    obtain ⟨c0, c1, c2, c3, c4, cl2⟩ := cell5 HP.out.xb
    obtain ⟨q0, q1, q2, q3, q4, ql⟩ := cell5 HP.out.qb
    go_wp2_with fail
    refine (hTA _).mono ?_; rintro e w5 ⟨rfl, hk⟩
    replace HP := Lib.hid (HP.out.keep hk)
    clear hk hTA
    obtain ⟨c0, c1, c2, c3, c4, cl2⟩ := cell5 HP.out.xb
    obtain ⟨q0, q1, q2, q3, q4, ql⟩ := cell5 HP.out.qb
    go_wp2_with (at_builtin; refine wpList_append_sharp _ rfl _ _ 63 rfl 9 i0 (.string ⟨#[]⟩) 16 Tryz.underlying63 hi hz0 hz1 hz2 rfl _ 3 [.string O, .string NM, .string TK] rfl (HP.out.row.alloc _) ⟨_, 0, none⟩ 1 1 [.string TA] rfl rfl ?c1 ?c2 ?c3 ?c4 ?_)
    case c1 => exact one_at (by simp) _ _
    case c2 => intro u hu; simp at hu; subst hu; rfl
    case c3 => unfold maxLen; omega
    case c4 => omega
    intro v3 w6 ho hq hs hn
    replace HP := Lib.hid (HP.out.step2 hq ho hs (by simp))
    clear ho hq hs hn
    obtain ⟨c0, c1, c2, c3, c4, cl2⟩ := cell5 HP.out.xb
    obtain ⟨q0, q1, q2, q3, q4, ql⟩ := cell5 HP.out.qb
    go_wp2_with fail
    refine (hTB _).mono ?_; rintro e w7 ⟨rfl, hk⟩
    replace HP := Lib.hid (HP.out.keep hk)
    clear hk hTB
    obtain ⟨c0, c1, c2, c3, c4, cl2⟩ := cell5 HP.out.xb
    obtain ⟨q0, q1, q2, q3, q4, ql⟩ := cell5 HP.out.qb
    go_wp2_with (at_builtin; refine wpList_append_sharp _ rfl _ _ 63 rfl 9 i0 (.string ⟨#[]⟩) 16 Tryz.underlying63 hi hz0 hz1 hz2 rfl _ 4 [.string O, .string NM, .string TK, .string TA] rfl (HP.out.row.alloc _) ⟨_, 0, none⟩ 1 1 [.string TB] rfl rfl ?c1 ?c2 ?c3 ?c4 ?_)
    case c1 => exact one_at (by simp) _ _
    case c2 => intro u hu; simp at hu; subst hu; rfl
    case c3 => unfold maxLen; omega
    case c4 => omega
    intro v4 w8 ho hq hs hn
    replace HP := Lib.hid (HP.out.step2 hq ho hs (by simp))
    clear ho hq hs hn
    obtain ⟨c0, c1, c2, c3, c4, cl2⟩ := cell5 HP.out.xb
    obtain ⟨q0, q1, q2, q3, q4, ql⟩ := cell5 HP.out.qb
    go_wp2_with fail
    go_ret
    exact ⟨_, rfl, HP.out.row, HP.out.keeps, fun g hg => .inr (by have h1 := HP.out.free g hg; have h2 := HP.out.lt; omega)⟩
theorem r4Words_good (w : World) (f o k a b : Int) (hx : (⟨f, o, k, a, b⟩ : Opn).In) (hg : opGood ⟨f, o, k, a, b⟩ = true) :
    Calls Tryz.prog 26 #[.agg #[.int .u8 f, .int .u8 o, .int .u8 k, .int .u16 a, .int .u16 b]] w fun e w' =>
    ∃ v, e = .returned v ∧ w'.ownsRow 0 9 1 v (opWords ⟨f, o, k, a, b⟩).length ((opWords ⟨f, o, k, a, b⟩).map fun s => .string (bs s)) ∧ Keeps [] w w' ∧ FSub (own v) [] w.heap.size := by
  have is := ((good_iff _).1 hg).is
  have hx2 := hx
  obtain ⟨f0, f1, o0, o1, k0, k1, a0, a1, b0, b1⟩ := hx2
  simp only at f0 f1 o0 o1 k0 k1 a0 a1 b0 b1
  rcases need_ways is with ⟨hK, hA, hB⟩ | ⟨hK, hA, hB⟩ | ⟨hK, hA, hB⟩ | ⟨hK, hA, hB⟩ | ⟨hK, hA, hB⟩ | ⟨hK, hA, hB⟩
  · have h := r4Words_000 w f o k a b hx hg hK hA hB _ _ (bs (dec k)) (bs (dec a)) (bs (dec b)) rfl (fun w => Digits4_any w o o0 (by omega))
    have e : opWords ⟨f, o, k, a, b⟩ = [dec o, opNm f] := by simp only [opWords, hK, hA, hB]; rfl
    rw [e]; exact h
  · have h := r4Words_010 w f o k a b hx hg hK hA hB _ _ (bs (dec k)) (bs (dec a)) (bs (dec b)) rfl (fun w => Digits4_any w o o0 (by omega)) (fun w => Digits4_any w a a0 a1)
    have e : opWords ⟨f, o, k, a, b⟩ = [dec o, opNm f, dec a] := by simp only [opWords, hK, hA, hB]; rfl
    rw [e]; exact h
  · have h := r4Words_011 w f o k a b hx hg hK hA hB _ _ (bs (dec k)) (bs (dec a)) (bs (dec b)) rfl (fun w => Digits4_any w o o0 (by omega)) (fun w => Digits4_any w a a0 a1) (fun w => Digits4_any w b b0 b1)
    have e : opWords ⟨f, o, k, a, b⟩ = [dec o, opNm f, dec a, dec b] := by simp only [opWords, hK, hA, hB]; rfl
    rw [e]; exact h
  · have h := r4Words_100 w f o k a b hx hg hK hA hB _ _ (bs (dec k)) (bs (dec a)) (bs (dec b)) rfl (fun w => Digits4_any w o o0 (by omega)) (fun w => Digits4_any w k k0 (by omega))
    have e : opWords ⟨f, o, k, a, b⟩ = [dec o, opNm f, dec k] := by simp only [opWords, hK, hA, hB]; rfl
    rw [e]; exact h
  · have h := r4Words_110 w f o k a b hx hg hK hA hB _ _ (bs (dec k)) (bs (dec a)) (bs (dec b)) rfl (fun w => Digits4_any w o o0 (by omega)) (fun w => Digits4_any w k k0 (by omega)) (fun w => Digits4_any w a a0 a1)
    have e : opWords ⟨f, o, k, a, b⟩ = [dec o, opNm f, dec k, dec a] := by simp only [opWords, hK, hA, hB]; rfl
    rw [e]; exact h
  · have h := r4Words_111 w f o k a b hx hg hK hA hB _ _ (bs (dec k)) (bs (dec a)) (bs (dec b)) rfl (fun w => Digits4_any w o o0 (by omega)) (fun w => Digits4_any w k k0 (by omega)) (fun w => Digits4_any w a a0 a1) (fun w => Digits4_any w b b0 b1)
    have e : opWords ⟨f, o, k, a, b⟩ = [dec o, opNm f, dec k, dec a, dec b] := by simp only [opWords, hK, hA, hB]; rfl
    rw [e]; exact h
theorem r4Words_bad (w : World) (f o k a b : Int) (hx : (⟨f, o, k, a, b⟩ : Opn).In) (hg : opGood ⟨f, o, k, a, b⟩ = false) :
    Calls Tryz.prog 26 #[.agg #[.int .u8 f, .int .u8 o, .int .u8 k, .int .u16 a, .int .u16 b]] w fun e w' =>
    e = .returned (.slice none 0 0) ∧ Keeps [] w w' := by
  have hv := fun w => May_any w f o k a b hx
  rw [hg] at hv
  have hk0 := (Keeps.refl [] w).alloc (.cells #[.int .u8 f, .int .u8 o, .int .u8 k, .int .u16 a, .int .u16 b] 24)
  go_enter Tryz.func26, Tryz.ntmps26
  go_wp2_with fail
  refine (hv _).mono ?_; rintro e w1 ⟨rfl, hk1⟩
  go_wp2_with fail
  go_ret
  exact ⟨rfl, hk0.trans hk1 (FSub.refl _ _)⟩
theorem r4Words_any (w : World) (x : Opn) (hx : x.In) :
    Calls Tryz.prog 26 #[x.val] w fun e w' =>
    ∃ v, e = .returned v ∧ w'.ownsRow 0 9 1 v (wordsOf x).length ((wordsOf x).map fun s => .string (bs s)) ∧ Keeps [] w w' ∧ FSub (own v) [] w.heap.size := by
  obtain ⟨f, o, k, a, b⟩ := x
  rcases bool_two (opGood ⟨f, o, k, a, b⟩) with hg | hg
  · have h := r4Words_good w f o k a b hx hg
    simp only [wordsOf, hg, if_true]; exact h
  · refine (r4Words_bad w f o k a b hx hg).mono ?_
    rintro e w' ⟨rfl, hk⟩
    simp only [wordsOf, hg, if_false, Bool.false_eq_true]
    exact ⟨_, rfl, World.ownsRow_nil _ _ _ _, hk, fun g hg => by simp [own, Value.ownBlock] at hg⟩
end Go.Proofs.YtffldnjjijckcaaGreatDoor
