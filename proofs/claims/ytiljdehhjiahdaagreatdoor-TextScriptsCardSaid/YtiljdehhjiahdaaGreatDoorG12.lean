/-
  The program's Put.
-/
import Derived.Test.YtiljdehhjiahdaaGreatDoorG11
import Derived.Test.YtiljdehhjiahdaaGreatDoorG03
set_option linter.unusedSimpArgs false
set_option linter.unusedVariables false
namespace Go.Proofs.YtiljdehhjiahdaaGreatDoor
open Go.RowKit
set_option maxHeartbeats 4000000 in
set_option maxRecDepth 100000 in
theorem opPut_000 (w : World) (hG : Glob4 w) (f : Nat) (hf : f < 12) (o k a b : Int) (hx : (⟨f, o, k, a, b⟩ : Opn).In) (hg : opGood ⟨f, o, k, a, b⟩ = true) (hK : opK f = false) (hA : opA f = false) (hB : opB f = false) :
    Calls Tryz.prog 120 #[.agg #[.int .u8 f, .int .u8 o, .int .u8 k, .int .u16 a, .int .u16 b]] w fun e w' =>
    e = .returned (.tuple #[.string (strOfNums ([(f : Int), o])), .int .i64 0]) ∧ Keeps [] w w' := by
  have hv := fun w hG => valid_any w hG f o k a b hx
  rw [hg] at hv
  have hrow := fun (w : World) (hG : Glob4 w) => hG.row f hf
  rw [hK, hA, hB] at hrow
  obtain ⟨f0, f1, o0, o1, k0, k1, a0, a1, b0, b1⟩ := hx
  simp only at f0 f1 o0 o1 k0 k1 a0 a1 b0 b1
  clear hK hA hB hg
  generalize opM f = M at *
  generalize bs (opNm f) = NM at *
  obtain ⟨i0, hi, hz0, hz1, hz2⟩ := info_parts Tryz.info8
  have hk0 := (Keeps.refl [] w).alloc (.cells #[.int .u8 f, .int .u8 o, .int .u8 k, .int .u16 a, .int .u16 b] 24)
  generalize hS : strOfNums ([(f : Int), o]) = S at *
  have HS := Lib.hid hS; clear hS
  go_enter Tryz.func120, Tryz.ntmps120
  go_wp2_with fail
  refine (hv _ (hG.new hk0)).mono ?_; rintro e w1 ⟨rfl, hk1⟩
  have hb := boxed5 hk1
  replace hk1 := hk0.trans hk1 (FSub.refl _ _)
  obtain ⟨c0, c1, c2, c3, c4, cl⟩ := cell5 hb
  obtain ⟨r0, r1, r2, r3, r4⟩ := hrow _ (hG.new hk1)
  have HP := Lib.hid (PAt.begin2 (e := 5) (qb := .cells #[.int .u8 M, .string NM, .bool false, .bool false, .bool false] 124) hb hk1 (.int .u8 f) (.int .u8 o))
  clear hrow hv hk0 hb hk1
  have hcv := row_text (xs := [(f : Int), o]) HP.out.row
  rw [HS.out] at hcv
  go_wp2_with fail
  go_ret2
  exact ⟨rfl, HP.out.keeps⟩
set_option maxHeartbeats 4000000 in
set_option maxRecDepth 100000 in
theorem opPut_010 (w : World) (hG : Glob4 w) (f : Nat) (hf : f < 12) (o k a b : Int) (hx : (⟨f, o, k, a, b⟩ : Opn).In) (hg : opGood ⟨f, o, k, a, b⟩ = true) (hK : opK f = false) (hA : opA f = true) (hB : opB f = false) :
    Calls Tryz.prog 120 #[.agg #[.int .u8 f, .int .u8 o, .int .u8 k, .int .u16 a, .int .u16 b]] w fun e w' =>
    e = .returned (.tuple #[.string (strOfNums ([(f : Int), o] ++ [a / 256, a % 256])), .int .i64 0]) ∧ Keeps [] w w' := by
  have hv := fun w hG => valid_any w hG f o k a b hx
  rw [hg] at hv
  have hrow := fun (w : World) (hG : Glob4 w) => hG.row f hf
  rw [hK, hA, hB] at hrow
  obtain ⟨f0, f1, o0, o1, k0, k1, a0, a1, b0, b1⟩ := hx
  simp only at f0 f1 o0 o1 k0 k1 a0 a1 b0 b1
  clear hK hA hB hg
  generalize opM f = M at *
  generalize bs (opNm f) = NM at *
  obtain ⟨i0, hi, hz0, hz1, hz2⟩ := info_parts Tryz.info8
  have hk0 := (Keeps.refl [] w).alloc (.cells #[.int .u8 f, .int .u8 o, .int .u8 k, .int .u16 a, .int .u16 b] 24)
  generalize hS : strOfNums ([(f : Int), o] ++ [a / 256, a % 256]) = S at *
  have HS := Lib.hid hS; clear hS
  go_enter Tryz.func120, Tryz.ntmps120
  go_wp2_with fail
  refine (hv _ (hG.new hk0)).mono ?_; rintro e w1 ⟨rfl, hk1⟩
  have hb := boxed5 hk1
  replace hk1 := hk0.trans hk1 (FSub.refl _ _)
  obtain ⟨c0, c1, c2, c3, c4, cl⟩ := cell5 hb
  obtain ⟨r0, r1, r2, r3, r4⟩ := hrow _ (hG.new hk1)
  have HP := Lib.hid (PAt.begin2 (e := 5) (qb := .cells #[.int .u8 M, .string NM, .bool false, .bool true, .bool false] 124) hb hk1 (.int .u8 f) (.int .u8 o))
  clear hrow hv hk0 hb hk1
  go_wp2_with (at_builtin; refine wpList_append_sharp _ rfl _ _ 84 rfl 5 i0 (.int .u8 0) 1 Tryz.underlying84 hi hz0 hz1 hz2 rfl _ 2 [.int .u8 f, .int .u8 o] rfl (HP.out.row.alloc _) ⟨_, 0, none⟩ 2 2 [.int .u8 (a / 256), .int .u8 (a % 256)] rfl rfl ?c1 ?c2 ?c3 ?c4 ?_)
  case c1 => exact two_at (by simp) _ _ _
  case c2 => intro u hu; simp at hu; first | (subst hu; rfl) | (rcases hu with rfl | rfl <;> rfl)
  case c3 => unfold maxLen; omega
  case c4 => omega
  intro v1 w2 ho1 hq1 hs1 hn1
  replace HP := Lib.hid (HP.out.step2 hq1 ho1 hs1 (by simp))
  clear ho1 hq1 hs1 hn1
  obtain ⟨c0, c1, c2, c3, c4, cl⟩ := cell5 HP.out.xb
  obtain ⟨q0, q1, q2, q3, q4, ql⟩ := cell5 HP.out.qb
  have hcv := row_text (xs := [(f : Int), o] ++ [a / 256, a % 256]) HP.out.row
  rw [HS.out] at hcv
  go_wp2_with fail
  go_ret2
  exact ⟨rfl, HP.out.keeps⟩
set_option maxHeartbeats 4000000 in
set_option maxRecDepth 100000 in
theorem opPut_011 (w : World) (hG : Glob4 w) (f : Nat) (hf : f < 12) (o k a b : Int) (hx : (⟨f, o, k, a, b⟩ : Opn).In) (hg : opGood ⟨f, o, k, a, b⟩ = true) (hK : opK f = false) (hA : opA f = true) (hB : opB f = true) :
    Calls Tryz.prog 120 #[.agg #[.int .u8 f, .int .u8 o, .int .u8 k, .int .u16 a, .int .u16 b]] w fun e w' =>
    e = .returned (.tuple #[.string (strOfNums ([(f : Int), o] ++ [a / 256, a % 256] ++ [b / 256, b % 256])), .int .i64 0]) ∧ Keeps [] w w' := by
  have hv := fun w hG => valid_any w hG f o k a b hx
  rw [hg] at hv
  have hrow := fun (w : World) (hG : Glob4 w) => hG.row f hf
  rw [hK, hA, hB] at hrow
  obtain ⟨f0, f1, o0, o1, k0, k1, a0, a1, b0, b1⟩ := hx
  simp only at f0 f1 o0 o1 k0 k1 a0 a1 b0 b1
  clear hK hA hB hg
  generalize opM f = M at *
  generalize bs (opNm f) = NM at *
  obtain ⟨i0, hi, hz0, hz1, hz2⟩ := info_parts Tryz.info8
  have hk0 := (Keeps.refl [] w).alloc (.cells #[.int .u8 f, .int .u8 o, .int .u8 k, .int .u16 a, .int .u16 b] 24)
  generalize hS : strOfNums ([(f : Int), o] ++ [a / 256, a % 256] ++ [b / 256, b % 256]) = S at *
  have HS := Lib.hid hS; clear hS
  go_enter Tryz.func120, Tryz.ntmps120
  go_wp2_with fail
  refine (hv _ (hG.new hk0)).mono ?_; rintro e w1 ⟨rfl, hk1⟩
  have hb := boxed5 hk1
  replace hk1 := hk0.trans hk1 (FSub.refl _ _)
  obtain ⟨c0, c1, c2, c3, c4, cl⟩ := cell5 hb
  obtain ⟨r0, r1, r2, r3, r4⟩ := hrow _ (hG.new hk1)
  have HP := Lib.hid (PAt.begin2 (e := 5) (qb := .cells #[.int .u8 M, .string NM, .bool false, .bool true, .bool true] 124) hb hk1 (.int .u8 f) (.int .u8 o))
  clear hrow hv hk0 hb hk1
  go_wp2_with (at_builtin; refine wpList_append_sharp _ rfl _ _ 84 rfl 5 i0 (.int .u8 0) 1 Tryz.underlying84 hi hz0 hz1 hz2 rfl _ 2 [.int .u8 f, .int .u8 o] rfl (HP.out.row.alloc _) ⟨_, 0, none⟩ 2 2 [.int .u8 (a / 256), .int .u8 (a % 256)] rfl rfl ?c1 ?c2 ?c3 ?c4 ?_)
  case c1 => exact two_at (by simp) _ _ _
  case c2 => intro u hu; simp at hu; first | (subst hu; rfl) | (rcases hu with rfl | rfl <;> rfl)
  case c3 => unfold maxLen; omega
  case c4 => omega
  intro v1 w2 ho1 hq1 hs1 hn1
  replace HP := Lib.hid (HP.out.step2 hq1 ho1 hs1 (by simp))
  clear ho1 hq1 hs1 hn1
  obtain ⟨c0, c1, c2, c3, c4, cl⟩ := cell5 HP.out.xb
  obtain ⟨q0, q1, q2, q3, q4, ql⟩ := cell5 HP.out.qb
  go_wp2_with (at_builtin; refine wpList_append_sharp _ rfl _ _ 84 rfl 5 i0 (.int .u8 0) 1 Tryz.underlying84 hi hz0 hz1 hz2 rfl _ 4 [.int .u8 f, .int .u8 o, .int .u8 (a / 256), .int .u8 (a % 256)] rfl (HP.out.row.alloc _) ⟨_, 0, none⟩ 2 2 [.int .u8 (b / 256), .int .u8 (b % 256)] rfl rfl ?c1 ?c2 ?c3 ?c4 ?_)
  case c1 => exact two_at (by simp) _ _ _
  case c2 => intro u hu; simp at hu; first | (subst hu; rfl) | (rcases hu with rfl | rfl <;> rfl)
  case c3 => unfold maxLen; omega
  case c4 => omega
  intro v2 w3 ho2 hq2 hs2 hn2
  replace HP := Lib.hid (HP.out.step2 hq2 ho2 hs2 (by simp))
  clear ho2 hq2 hs2 hn2
  obtain ⟨c0, c1, c2, c3, c4, cl⟩ := cell5 HP.out.xb
  obtain ⟨q0, q1, q2, q3, q4, ql⟩ := cell5 HP.out.qb
  have hcv := row_text (xs := [(f : Int), o] ++ [a / 256, a % 256] ++ [b / 256, b % 256]) HP.out.row
  rw [HS.out] at hcv
  go_wp2_with fail
  go_ret2
  exact ⟨rfl, HP.out.keeps⟩
set_option maxHeartbeats 4000000 in
set_option maxRecDepth 100000 in
theorem opPut_100 (w : World) (hG : Glob4 w) (f : Nat) (hf : f < 12) (o k a b : Int) (hx : (⟨f, o, k, a, b⟩ : Opn).In) (hg : opGood ⟨f, o, k, a, b⟩ = true) (hK : opK f = true) (hA : opA f = false) (hB : opB f = false) :
    Calls Tryz.prog 120 #[.agg #[.int .u8 f, .int .u8 o, .int .u8 k, .int .u16 a, .int .u16 b]] w fun e w' =>
    e = .returned (.tuple #[.string (strOfNums ([(f : Int), o] ++ [k])), .int .i64 0]) ∧ Keeps [] w w' := by
  have hv := fun w hG => valid_any w hG f o k a b hx
  rw [hg] at hv
  have hrow := fun (w : World) (hG : Glob4 w) => hG.row f hf
  rw [hK, hA, hB] at hrow
  obtain ⟨f0, f1, o0, o1, k0, k1, a0, a1, b0, b1⟩ := hx
  simp only at f0 f1 o0 o1 k0 k1 a0 a1 b0 b1
  clear hK hA hB hg
  generalize opM f = M at *
  generalize bs (opNm f) = NM at *
  obtain ⟨i0, hi, hz0, hz1, hz2⟩ := info_parts Tryz.info8
  have hk0 := (Keeps.refl [] w).alloc (.cells #[.int .u8 f, .int .u8 o, .int .u8 k, .int .u16 a, .int .u16 b] 24)
  generalize hS : strOfNums ([(f : Int), o] ++ [k]) = S at *
  have HS := Lib.hid hS; clear hS
  go_enter Tryz.func120, Tryz.ntmps120
  go_wp2_with fail
  refine (hv _ (hG.new hk0)).mono ?_; rintro e w1 ⟨rfl, hk1⟩
  have hb := boxed5 hk1
  replace hk1 := hk0.trans hk1 (FSub.refl _ _)
  obtain ⟨c0, c1, c2, c3, c4, cl⟩ := cell5 hb
  obtain ⟨r0, r1, r2, r3, r4⟩ := hrow _ (hG.new hk1)
  have HP := Lib.hid (PAt.begin2 (e := 5) (qb := .cells #[.int .u8 M, .string NM, .bool true, .bool false, .bool false] 124) hb hk1 (.int .u8 f) (.int .u8 o))
  clear hrow hv hk0 hb hk1
  go_wp2_with (at_builtin; refine wpList_append_sharp _ rfl _ _ 84 rfl 5 i0 (.int .u8 0) 1 Tryz.underlying84 hi hz0 hz1 hz2 rfl _ 2 [.int .u8 f, .int .u8 o] rfl (HP.out.row.alloc _) ⟨_, 0, none⟩ 1 1 [.int .u8 k] rfl rfl ?c1 ?c2 ?c3 ?c4 ?_)
  case c1 => exact one_at (by simp) _ _
  case c2 => intro u hu; simp at hu; first | (subst hu; rfl) | (rcases hu with rfl | rfl <;> rfl)
  case c3 => unfold maxLen; omega
  case c4 => omega
  intro v1 w2 ho1 hq1 hs1 hn1
  replace HP := Lib.hid (HP.out.step2 hq1 ho1 hs1 (by simp))
  clear ho1 hq1 hs1 hn1
  obtain ⟨c0, c1, c2, c3, c4, cl⟩ := cell5 HP.out.xb
  obtain ⟨q0, q1, q2, q3, q4, ql⟩ := cell5 HP.out.qb
  have hcv := row_text (xs := [(f : Int), o] ++ [k]) HP.out.row
  rw [HS.out] at hcv
  go_wp2_with fail
  go_ret2
  exact ⟨rfl, HP.out.keeps⟩
set_option maxHeartbeats 4000000 in
set_option maxRecDepth 100000 in
theorem opPut_110 (w : World) (hG : Glob4 w) (f : Nat) (hf : f < 12) (o k a b : Int) (hx : (⟨f, o, k, a, b⟩ : Opn).In) (hg : opGood ⟨f, o, k, a, b⟩ = true) (hK : opK f = true) (hA : opA f = true) (hB : opB f = false) :
    Calls Tryz.prog 120 #[.agg #[.int .u8 f, .int .u8 o, .int .u8 k, .int .u16 a, .int .u16 b]] w fun e w' =>
    e = .returned (.tuple #[.string (strOfNums ([(f : Int), o] ++ [k] ++ [a / 256, a % 256])), .int .i64 0]) ∧ Keeps [] w w' := by
  have hv := fun w hG => valid_any w hG f o k a b hx
  rw [hg] at hv
  have hrow := fun (w : World) (hG : Glob4 w) => hG.row f hf
  rw [hK, hA, hB] at hrow
  obtain ⟨f0, f1, o0, o1, k0, k1, a0, a1, b0, b1⟩ := hx
  simp only at f0 f1 o0 o1 k0 k1 a0 a1 b0 b1
  clear hK hA hB hg
  generalize opM f = M at *
  generalize bs (opNm f) = NM at *
  obtain ⟨i0, hi, hz0, hz1, hz2⟩ := info_parts Tryz.info8
  have hk0 := (Keeps.refl [] w).alloc (.cells #[.int .u8 f, .int .u8 o, .int .u8 k, .int .u16 a, .int .u16 b] 24)
  generalize hS : strOfNums ([(f : Int), o] ++ [k] ++ [a / 256, a % 256]) = S at *
  have HS := Lib.hid hS; clear hS
  go_enter Tryz.func120, Tryz.ntmps120
  go_wp2_with fail
  refine (hv _ (hG.new hk0)).mono ?_; rintro e w1 ⟨rfl, hk1⟩
  have hb := boxed5 hk1
  replace hk1 := hk0.trans hk1 (FSub.refl _ _)
  obtain ⟨c0, c1, c2, c3, c4, cl⟩ := cell5 hb
  obtain ⟨r0, r1, r2, r3, r4⟩ := hrow _ (hG.new hk1)
  have HP := Lib.hid (PAt.begin2 (e := 5) (qb := .cells #[.int .u8 M, .string NM, .bool true, .bool true, .bool false] 124) hb hk1 (.int .u8 f) (.int .u8 o))
  clear hrow hv hk0 hb hk1
  go_wp2_with (at_builtin; refine wpList_append_sharp _ rfl _ _ 84 rfl 5 i0 (.int .u8 0) 1 Tryz.underlying84 hi hz0 hz1 hz2 rfl _ 2 [.int .u8 f, .int .u8 o] rfl (HP.out.row.alloc _) ⟨_, 0, none⟩ 1 1 [.int .u8 k] rfl rfl ?c1 ?c2 ?c3 ?c4 ?_)
  case c1 => exact one_at (by simp) _ _
  case c2 => intro u hu; simp at hu; first | (subst hu; rfl) | (rcases hu with rfl | rfl <;> rfl)
  case c3 => unfold maxLen; omega
  case c4 => omega
  intro v1 w2 ho1 hq1 hs1 hn1
  replace HP := Lib.hid (HP.out.step2 hq1 ho1 hs1 (by simp))
  clear ho1 hq1 hs1 hn1
  obtain ⟨c0, c1, c2, c3, c4, cl⟩ := cell5 HP.out.xb
  obtain ⟨q0, q1, q2, q3, q4, ql⟩ := cell5 HP.out.qb
  go_wp2_with (at_builtin; refine wpList_append_sharp _ rfl _ _ 84 rfl 5 i0 (.int .u8 0) 1 Tryz.underlying84 hi hz0 hz1 hz2 rfl _ 3 [.int .u8 f, .int .u8 o, .int .u8 k] rfl (HP.out.row.alloc _) ⟨_, 0, none⟩ 2 2 [.int .u8 (a / 256), .int .u8 (a % 256)] rfl rfl ?c1 ?c2 ?c3 ?c4 ?_)
  case c1 => exact two_at (by simp) _ _ _
  case c2 => intro u hu; simp at hu; first | (subst hu; rfl) | (rcases hu with rfl | rfl <;> rfl)
  case c3 => unfold maxLen; omega
  case c4 => omega
  intro v2 w3 ho2 hq2 hs2 hn2
  replace HP := Lib.hid (HP.out.step2 hq2 ho2 hs2 (by simp))
  clear ho2 hq2 hs2 hn2
  obtain ⟨c0, c1, c2, c3, c4, cl⟩ := cell5 HP.out.xb
  obtain ⟨q0, q1, q2, q3, q4, ql⟩ := cell5 HP.out.qb
  have hcv := row_text (xs := [(f : Int), o] ++ [k] ++ [a / 256, a % 256]) HP.out.row
  rw [HS.out] at hcv
  go_wp2_with fail
  go_ret2
  exact ⟨rfl, HP.out.keeps⟩
set_option maxHeartbeats 4000000 in
set_option maxRecDepth 100000 in
theorem opPut_111 (w : World) (hG : Glob4 w) (f : Nat) (hf : f < 12) (o k a b : Int) (hx : (⟨f, o, k, a, b⟩ : Opn).In) (hg : opGood ⟨f, o, k, a, b⟩ = true) (hK : opK f = true) (hA : opA f = true) (hB : opB f = true) :
    Calls Tryz.prog 120 #[.agg #[.int .u8 f, .int .u8 o, .int .u8 k, .int .u16 a, .int .u16 b]] w fun e w' =>
    e = .returned (.tuple #[.string (strOfNums ([(f : Int), o] ++ [k] ++ [a / 256, a % 256] ++ [b / 256, b % 256])), .int .i64 0]) ∧ Keeps [] w w' := by
  have hv := fun w hG => valid_any w hG f o k a b hx
  rw [hg] at hv
  have hrow := fun (w : World) (hG : Glob4 w) => hG.row f hf
  rw [hK, hA, hB] at hrow
  obtain ⟨f0, f1, o0, o1, k0, k1, a0, a1, b0, b1⟩ := hx
  simp only at f0 f1 o0 o1 k0 k1 a0 a1 b0 b1
  clear hK hA hB hg
  generalize opM f = M at *
  generalize bs (opNm f) = NM at *
  obtain ⟨i0, hi, hz0, hz1, hz2⟩ := info_parts Tryz.info8
  have hk0 := (Keeps.refl [] w).alloc (.cells #[.int .u8 f, .int .u8 o, .int .u8 k, .int .u16 a, .int .u16 b] 24)
  generalize hS : strOfNums ([(f : Int), o] ++ [k] ++ [a / 256, a % 256] ++ [b / 256, b % 256]) = S at *
  have HS := Lib.hid hS; clear hS
  go_enter Tryz.func120, Tryz.ntmps120
  go_wp2_with fail
  refine (hv _ (hG.new hk0)).mono ?_; rintro e w1 ⟨rfl, hk1⟩
  have hb := boxed5 hk1
  replace hk1 := hk0.trans hk1 (FSub.refl _ _)
  obtain ⟨c0, c1, c2, c3, c4, cl⟩ := cell5 hb
  obtain ⟨r0, r1, r2, r3, r4⟩ := hrow _ (hG.new hk1)
  have HP := Lib.hid (PAt.begin2 (e := 5) (qb := .cells #[.int .u8 M, .string NM, .bool true, .bool true, .bool true] 124) hb hk1 (.int .u8 f) (.int .u8 o))
  clear hrow hv hk0 hb hk1
  go_wp2_with (at_builtin; refine wpList_append_sharp _ rfl _ _ 84 rfl 5 i0 (.int .u8 0) 1 Tryz.underlying84 hi hz0 hz1 hz2 rfl _ 2 [.int .u8 f, .int .u8 o] rfl (HP.out.row.alloc _) ⟨_, 0, none⟩ 1 1 [.int .u8 k] rfl rfl ?c1 ?c2 ?c3 ?c4 ?_)
  case c1 => exact one_at (by simp) _ _
  case c2 => intro u hu; simp at hu; first | (subst hu; rfl) | (rcases hu with rfl | rfl <;> rfl)
  case c3 => unfold maxLen; omega
  case c4 => omega
  intro v1 w2 ho1 hq1 hs1 hn1
  replace HP := Lib.hid (HP.out.step2 hq1 ho1 hs1 (by simp))
  clear ho1 hq1 hs1 hn1
  obtain ⟨c0, c1, c2, c3, c4, cl⟩ := cell5 HP.out.xb
  obtain ⟨q0, q1, q2, q3, q4, ql⟩ := cell5 HP.out.qb
  go_wp2_with (at_builtin; refine wpList_append_sharp _ rfl _ _ 84 rfl 5 i0 (.int .u8 0) 1 Tryz.underlying84 hi hz0 hz1 hz2 rfl _ 3 [.int .u8 f, .int .u8 o, .int .u8 k] rfl (HP.out.row.alloc _) ⟨_, 0, none⟩ 2 2 [.int .u8 (a / 256), .int .u8 (a % 256)] rfl rfl ?c1 ?c2 ?c3 ?c4 ?_)
  case c1 => exact two_at (by simp) _ _ _
  case c2 => intro u hu; simp at hu; first | (subst hu; rfl) | (rcases hu with rfl | rfl <;> rfl)
  case c3 => unfold maxLen; omega
  case c4 => omega
  intro v2 w3 ho2 hq2 hs2 hn2
  replace HP := Lib.hid (HP.out.step2 hq2 ho2 hs2 (by simp))
  clear ho2 hq2 hs2 hn2
  obtain ⟨c0, c1, c2, c3, c4, cl⟩ := cell5 HP.out.xb
  obtain ⟨q0, q1, q2, q3, q4, ql⟩ := cell5 HP.out.qb
  go_wp2_with (at_builtin; refine wpList_append_sharp _ rfl _ _ 84 rfl 5 i0 (.int .u8 0) 1 Tryz.underlying84 hi hz0 hz1 hz2 rfl _ 5 [.int .u8 f, .int .u8 o, .int .u8 k, .int .u8 (a / 256), .int .u8 (a % 256)] rfl (HP.out.row.alloc _) ⟨_, 0, none⟩ 2 2 [.int .u8 (b / 256), .int .u8 (b % 256)] rfl rfl ?c1 ?c2 ?c3 ?c4 ?_)
  case c1 => exact two_at (by simp) _ _ _
  case c2 => intro u hu; simp at hu; first | (subst hu; rfl) | (rcases hu with rfl | rfl <;> rfl)
  case c3 => unfold maxLen; omega
  case c4 => omega
  intro v3 w4 ho3 hq3 hs3 hn3
  replace HP := Lib.hid (HP.out.step2 hq3 ho3 hs3 (by simp))
  clear ho3 hq3 hs3 hn3
  obtain ⟨c0, c1, c2, c3, c4, cl⟩ := cell5 HP.out.xb
  obtain ⟨q0, q1, q2, q3, q4, ql⟩ := cell5 HP.out.qb
  have hcv := row_text (xs := [(f : Int), o] ++ [k] ++ [a / 256, a % 256] ++ [b / 256, b % 256]) HP.out.row
  rw [HS.out] at hcv
  go_wp2_with fail
  go_ret2
  exact ⟨rfl, HP.out.keeps⟩
theorem opPut_good (w : World) (hG : Glob4 w) (f : Nat) (o k a b : Int) (hx : (⟨f, o, k, a, b⟩ : Opn).In) (hg : opGood ⟨f, o, k, a, b⟩ = true) :
    Calls Tryz.prog 120 #[.agg #[.int .u8 f, .int .u8 o, .int .u8 k, .int .u16 a, .int .u16 b]] w fun e w' =>
    e = .returned (.tuple #[.string (strOfNums (opPut ⟨f, o, k, a, b⟩)), .int .i64 0]) ∧ Keeps [] w w' := by
  have is := ((good_iff _).1 hg).is
  have hf : f < 12 := by simp [opIs] at is; omega
  have ways : (opK f = false ∧ opA f = false ∧ opB f = false) ∨ (opK f = false ∧ opA f = true ∧ opB f = false) ∨ (opK f = false ∧ opA f = true ∧ opB f = true) ∨ (opK f = true ∧ opA f = false ∧ opB f = false) ∨ (opK f = true ∧ opA f = true ∧ opB f = false) ∨ (opK f = true ∧ opA f = true ∧ opB f = true) := by
    have is2 : 1 ≤ f := by simp [opIs] at is; omega
    rcases (by omega : f = 1 ∨ f = 2 ∨ f = 3 ∨ f = 4 ∨ f = 5 ∨ f = 6 ∨ f = 7 ∨ f = 8 ∨ f = 9 ∨ f = 10 ∨ f = 11) with rfl | rfl | rfl | rfl | rfl | rfl | rfl | rfl | rfl | rfl | rfl <;> decide
  rcases ways with ⟨hK, hA, hB⟩ | ⟨hK, hA, hB⟩ | ⟨hK, hA, hB⟩ | ⟨hK, hA, hB⟩ | ⟨hK, hA, hB⟩ | ⟨hK, hA, hB⟩
  · have h := opPut_000 w hG f hf o k a b hx hg hK hA hB
    have e : opPut ⟨f, o, k, a, b⟩ = [(f : Int), o] := by simp only [opPut, hK, hA, hB]; rfl
    rw [e]; exact h
  · have h := opPut_010 w hG f hf o k a b hx hg hK hA hB
    have e : opPut ⟨f, o, k, a, b⟩ = [(f : Int), o] ++ [a / 256, a % 256] := by simp only [opPut, hK, hA, hB]; rfl
    rw [e]; exact h
  · have h := opPut_011 w hG f hf o k a b hx hg hK hA hB
    have e : opPut ⟨f, o, k, a, b⟩ = [(f : Int), o] ++ [a / 256, a % 256] ++ [b / 256, b % 256] := by simp only [opPut, hK, hA, hB]; rfl
    rw [e]; exact h
  · have h := opPut_100 w hG f hf o k a b hx hg hK hA hB
    have e : opPut ⟨f, o, k, a, b⟩ = [(f : Int), o] ++ [k] := by simp only [opPut, hK, hA, hB]; rfl
    rw [e]; exact h
  · have h := opPut_110 w hG f hf o k a b hx hg hK hA hB
    have e : opPut ⟨f, o, k, a, b⟩ = [(f : Int), o] ++ [k] ++ [a / 256, a % 256] := by simp only [opPut, hK, hA, hB]; rfl
    rw [e]; exact h
  · have h := opPut_111 w hG f hf o k a b hx hg hK hA hB
    have e : opPut ⟨f, o, k, a, b⟩ = [(f : Int), o] ++ [k] ++ [a / 256, a % 256] ++ [b / 256, b % 256] := by simp only [opPut, hK, hA, hB]; rfl
    rw [e]; exact h
theorem opPut_bad (w : World) (hG : Glob4 w) (f o k a b : Int) (hx : (⟨f, o, k, a, b⟩ : Opn).In) (hg : opGood ⟨f, o, k, a, b⟩ = false) :
    Calls Tryz.prog 120 #[.agg #[.int .u8 f, .int .u8 o, .int .u8 k, .int .u16 a, .int .u16 b]] w fun e w' =>
    e = .returned (.tuple #[.string ⟨#[]⟩, .int .i64 4]) ∧ Keeps [] w w' := by
  have hv := fun w hG => valid_any w hG f o k a b hx
  rw [hg] at hv
  have hk0 := (Keeps.refl [] w).alloc (.cells #[.int .u8 f, .int .u8 o, .int .u8 k, .int .u16 a, .int .u16 b] 24)
  go_enter Tryz.func120, Tryz.ntmps120
  go_wp2_with fail
  refine (hv _ (hG.new hk0)).mono ?_; rintro e w1 ⟨rfl, hk1⟩
  go_wp2_with fail
  go_ret2
  exact ⟨rfl, hk0.trans hk1 (FSub.refl _ _)⟩
def opPutE (x : Opn) : Int := if opGood x then 0 else 4
theorem opPut_any (w : World) (hG : Glob4 w) (f o k a b : Int) (hx : (⟨f, o, k, a, b⟩ : Opn).In) :
    Calls Tryz.prog 120 #[.agg #[.int .u8 f, .int .u8 o, .int .u8 k, .int .u16 a, .int .u16 b]] w fun e w' =>
    e = .returned (.tuple #[.string (if opGood ⟨f, o, k, a, b⟩ then strOfNums (opPut ⟨f, o, k, a, b⟩) else ⟨#[]⟩), .int .i64 (opPutE ⟨f, o, k, a, b⟩)]) ∧ Keeps [] w w' := by
  rcases bool_two (opGood ⟨f, o, k, a, b⟩) with hg | hg
  · obtain ⟨f, rfl⟩ := Int.eq_ofNat_of_zero_le hx.f0
    have h := opPut_good w hG f o k a b hx hg
    simp only [opPutE, hg, if_true]; exact h
  · have h := opPut_bad w hG f o k a b hx hg
    simp only [opPutE, hg, if_false, Bool.false_eq_true]; exact h
end Go.Proofs.YtiljdehhjiahdaaGreatDoor
