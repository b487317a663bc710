/-
  The program's Words.
-/
import Derived.Test.YtffldnjjijckcaaGreatDoorR05
import Derived.Test.YtffldnjjijckcaaGreatDoorR03
set_option linter.unusedSimpArgs false
set_option linter.unusedVariables false
namespace Go.Proofs.YtffldnjjijckcaaGreatDoor
open Go.RowKit
theorem Tryz.infoS : (Tryz.prog.info? 9).map (fun i => (i.zero, i.size, i.bytes)) = some (some (.string ⟨#[]⟩), 1, 16) := by kernel_rfl
theorem Itoa4_any (w : World) (hg : Glob4 w) (v : Int) (v0 : 0 ≤ v) (v1 : v < 65536) : Calls Tryz.prog 75 #[.int .i64 v] w fun e w' => e = .returned (.string (bs (dec v))) ∧ Keeps [] w w' := by
  refine (Tryz.strconv_Itoa v (by omega) (by omega) w hg.tab).mono ?_
  rintro e w' ⟨rfl, k, os, rfl⟩
  refine ⟨?_, ?_⟩
  · rw [Lib.itoa, if_neg (by omega)]; rfl
  · refine ⟨rfl, rfl, rfl, ?_, fun j hj _ => ?_⟩
    · show w.heap.size ≤ (w.heap ++ os).size
      simp
    · show (w.heap ++ os)[j]? = w.heap[j]?
      simp [Array.getElem?_append, hj]
theorem PAt.begin3 {w w1 wc : World} {e : TypeId} {xb qb : Obj} (hx : wc.heap[w.heap.size]? = some xb) (hq : wc.heap[w1.heap.size]? = some qb) (hk : Keeps [] w wc) (hlt : w.heap.size < w1.heap.size) (u v : Value) :
    PAt w w1 (wc.alloc (.cells #[u, v] e)) e xb qb (.slice (some ⟨wc.heap.size, 0, none⟩) 2 2) [u, v] :=
  ⟨heap_alloc_lt hx, heap_alloc_lt hq, hk.alloc _, by have := World.ownsRow_lit (base := 0) (e := e) (size := 1) wc #[u, v] 2 (by omega) (by decide) rfl; simpa using this,
    fun g hg => by have := lt_of_block hq; simp [own, Value.ownBlock] at hg; omega, hlt⟩
def wordsOf (x : Opn) : List (List UInt8) := if opGood x then opWords x else []
theorem need_ways {f : Int} (is : opIs f = true) : (opK f = false ∧ opA f = false ∧ opB f = false) ∨ (opK f = false ∧ opA f = true ∧ opB f = false) ∨ (opK f = false ∧ opA f = true ∧ opB f = true) ∨ (opK f = true ∧ opA f = false ∧ opB f = false) ∨ (opK f = true ∧ opA f = true ∧ opB f = false) ∨ (opK f = true ∧ opA f = true ∧ opB f = true) := by
  rcases is_cases is with rfl | rfl | rfl | rfl | rfl | rfl | rfl | rfl | rfl | rfl | rfl <;> decide
set_option maxHeartbeats 4000000 in
set_option maxRecDepth 100000 in
theorem opWords_000 (w : World) (hG : Glob4 w) (f : Nat) (hf : f < 12) (o k a b : Int) (hx : (⟨f, o, k, a, b⟩ : Opn).In) (hg : opGood ⟨f, o, k, a, b⟩ = true) (hK : opK f = false) (hA : opA f = false) (hB : opB f = false) (NM O _TK _TA _TB : ByteArray) (hNM : bs (opNm f) = NM)
    (hO : ∀ w, Glob4 w → Calls Tryz.prog 75 #[.int .i64 o] w fun e w' => e = .returned (.string O) ∧ Keeps [] w w') :
    Calls Tryz.prog 79 #[.agg #[.int .u8 f, .int .u8 o, .int .u8 k, .int .u16 a, .int .u16 b]] w fun e w' =>
    ∃ v, e = .returned v ∧ w'.ownsRow 0 9 1 v 2 [.string O, .string NM] ∧ Keeps [] w w' ∧ FSub (own v) [] w.heap.size := by
  have hv := fun w hG => valid_any w hG f o k a b hx
  rw [hg] at hv
  have hrow := fun (w : World) (hG : Glob4 w) => hG.row f hf
  rw [hK, hA, hB, hNM] at hrow
  obtain ⟨f0, f1, o0, o1, k0, k1, a0, a1, b0, b1⟩ := hx
  simp only at f0 f1 o0 o1 k0 k1 a0 a1 b0 b1
  clear hK hA hB hg hNM
  generalize opM f = M at *
  obtain ⟨i0, hi, hz0, hz1, hz2⟩ := info_parts Tryz.infoS
  have hk0 := (Keeps.refl [] w).alloc (.cells #[.int .u8 f, .int .u8 o, .int .u8 k, .int .u16 a, .int .u16 b] 24)
  go_enter Tryz.func79, Tryz.ntmps79
  go_wp2_with fail
  refine (hv _ (hG.new hk0)).mono ?_; rintro e w1 ⟨rfl, hk1⟩
  have hb := boxed5 hk1
  replace hk1 := hk0.trans hk1 (FSub.refl _ _)
  obtain ⟨c0, c1, c2, c3, c4, cl⟩ := cell5 hb
  obtain ⟨r0, r1, r2, r3, r4⟩ := hrow _ (hG.new hk1)
  clear hrow hv hk0
  go_wp2_with fail
  have hQ := heap_alloc_new w1 (.cells #[.int .u8 M, .string NM, .bool false, .bool false, .bool false] 144)
  have hX := heap_alloc_lt (o := .cells #[.int .u8 M, .string NM, .bool false, .bool false, .bool false] 144) hb
  have hk2 := hk1.alloc (.cells #[.int .u8 M, .string NM, .bool false, .bool false, .bool false] 144)
  have e1 : (w1.alloc (.cells #[.int .u8 M, .string NM, .bool false, .bool false, .bool false] 144)).heap.size = w1.heap.size + 1 := by simp
  obtain ⟨q0, q1, q2, q3, q4, ql⟩ := cell5 hQ
  obtain ⟨d0, d1, d2, d3, d4, dl⟩ := cell5 hX
  clear c0 c1 c2 c3 c4 hk1
  have HX := Lib.hid hX; have HQ := Lib.hid hQ; have HK := Lib.hid hk2; have HB := Lib.hid hb
  clear hX hQ hk2 hb
  generalize w1.alloc (.cells #[.int .u8 M, .string NM, .bool false, .bool false, .bool false] 144) = W at *
  have hwo : IntKind.i64.wrap o = o := by simp [IntKind.wrap, IntKind.bits, IntKind.signed]; omega
  go_region_with (go_at_call 75; refine (hO _ (hG.new HK.out.drew)).mono ?_; rintro e w2 ⟨rfl, hk3⟩; have p1 := hk3.cell q1 (by simp))
  all_goals
    have HP := Lib.hid (PAt.begin3 (e := 9) (w := w) (w1 := w1) (hk3.heap HX.out (by simp)) (hk3.heap HQ.out (by simp)) (HK.out.drew.trans hk3 (FSub.refl _ _)) cl (.string O) (.string NM))
    clear HX HQ HK HB hO hwo q0 q1 q2 q3 q4 ql d0 d1 d2 d3 d4 dl p1 hk3
    obtain ⟨c0, c1, c2, c3, c4, cl2⟩ := cell5 HP.out.xb
    obtain ⟨q0, q1, q2, q3, q4, ql⟩ := cell5 HP.out.qb
    go_wp2_with fail
    go_ret
    exact ⟨_, rfl, HP.out.row, HP.out.keeps, fun g hg => .inr (by have h1 := HP.out.free g hg; have h2 := HP.out.lt; omega)⟩
set_option maxHeartbeats 4000000 in
set_option maxRecDepth 100000 in
theorem opWords_010 (w : World) (hG : Glob4 w) (f : Nat) (hf : f < 12) (o k a b : Int) (hx : (⟨f, o, k, a, b⟩ : Opn).In) (hg : opGood ⟨f, o, k, a, b⟩ = true) (hK : opK f = false) (hA : opA f = true) (hB : opB f = false) (NM O _TK TA _TB : ByteArray) (hNM : bs (opNm f) = NM)
    (hO : ∀ w, Glob4 w → Calls Tryz.prog 75 #[.int .i64 o] w fun e w' => e = .returned (.string O) ∧ Keeps [] w w') (hTA : ∀ w, Glob4 w → Calls Tryz.prog 75 #[.int .i64 a] w fun e w' => e = .returned (.string TA) ∧ Keeps [] w w') :
    Calls Tryz.prog 79 #[.agg #[.int .u8 f, .int .u8 o, .int .u8 k, .int .u16 a, .int .u16 b]] w fun e w' =>
    ∃ v, e = .returned v ∧ w'.ownsRow 0 9 1 v 3 [.string O, .string NM, .string TA] ∧ Keeps [] w w' ∧ FSub (own v) [] w.heap.size := by
  have hv := fun w hG => valid_any w hG f o k a b hx
  rw [hg] at hv
  have hrow := fun (w : World) (hG : Glob4 w) => hG.row f hf
  rw [hK, hA, hB, hNM] at hrow
  obtain ⟨f0, f1, o0, o1, k0, k1, a0, a1, b0, b1⟩ := hx
  simp only at f0 f1 o0 o1 k0 k1 a0 a1 b0 b1
  clear hK hA hB hg hNM
  generalize opM f = M at *
  obtain ⟨i0, hi, hz0, hz1, hz2⟩ := info_parts Tryz.infoS
  have hk0 := (Keeps.refl [] w).alloc (.cells #[.int .u8 f, .int .u8 o, .int .u8 k, .int .u16 a, .int .u16 b] 24)
  go_enter Tryz.func79, Tryz.ntmps79
  go_wp2_with fail
  refine (hv _ (hG.new hk0)).mono ?_; rintro e w1 ⟨rfl, hk1⟩
  have hb := boxed5 hk1
  replace hk1 := hk0.trans hk1 (FSub.refl _ _)
  obtain ⟨c0, c1, c2, c3, c4, cl⟩ := cell5 hb
  obtain ⟨r0, r1, r2, r3, r4⟩ := hrow _ (hG.new hk1)
  clear hrow hv hk0
  go_wp2_with fail
  have hQ := heap_alloc_new w1 (.cells #[.int .u8 M, .string NM, .bool false, .bool true, .bool false] 144)
  have hX := heap_alloc_lt (o := .cells #[.int .u8 M, .string NM, .bool false, .bool true, .bool false] 144) hb
  have hk2 := hk1.alloc (.cells #[.int .u8 M, .string NM, .bool false, .bool true, .bool false] 144)
  have e1 : (w1.alloc (.cells #[.int .u8 M, .string NM, .bool false, .bool true, .bool false] 144)).heap.size = w1.heap.size + 1 := by simp
  obtain ⟨q0, q1, q2, q3, q4, ql⟩ := cell5 hQ
  obtain ⟨d0, d1, d2, d3, d4, dl⟩ := cell5 hX
  clear c0 c1 c2 c3 c4 hk1
  have HX := Lib.hid hX; have HQ := Lib.hid hQ; have HK := Lib.hid hk2; have HB := Lib.hid hb
  clear hX hQ hk2 hb
  generalize w1.alloc (.cells #[.int .u8 M, .string NM, .bool false, .bool true, .bool false] 144) = W at *
  have hwo : IntKind.i64.wrap o = o := by simp [IntKind.wrap, IntKind.bits, IntKind.signed]; omega
  go_region_with (go_at_call 75; refine (hO _ (hG.new HK.out.drew)).mono ?_; rintro e w2 ⟨rfl, hk3⟩; have p1 := hk3.cell q1 (by simp))
  all_goals
    have HP := Lib.hid (PAt.begin3 (e := 9) (w := w) (w1 := w1) (hk3.heap HX.out (by simp)) (hk3.heap HQ.out (by simp)) (HK.out.drew.trans hk3 (FSub.refl _ _)) cl (.string O) (.string NM))
    clear HX HQ HK HB hO hwo q0 q1 q2 q3 q4 ql d0 d1 d2 d3 d4 dl p1 hk3
    obtain ⟨c0, c1, c2, c3, c4, cl2⟩ := cell5 HP.out.xb
    obtain ⟨q0, q1, q2, q3, q4, ql⟩ := cell5 HP.out.qb
    go_wp2_with fail
    refine (hTA _ (hG.new HP.out.keeps)).mono ?_; rintro e w3 ⟨rfl, hk⟩
    replace HP := Lib.hid (HP.out.keep hk)
    clear hk hTA
    obtain ⟨c0, c1, c2, c3, c4, cl2⟩ := cell5 HP.out.xb
    obtain ⟨q0, q1, q2, q3, q4, ql⟩ := cell5 HP.out.qb
    go_wp2_with (at_builtin; refine wpList_append_sharp _ rfl _ _ 63 rfl 9 i0 (.string ⟨#[]⟩) 16 Tryz.underlying63 hi hz0 hz1 hz2 rfl _ 2 [.string O, .string NM] rfl (HP.out.row.alloc _) ⟨_, 0, none⟩ 1 1 [.string TA] rfl rfl ?c1 ?c2 ?c3 ?c4 ?_)
    case c1 => exact one_at (by simp) _ _
    case c2 => intro u hu; simp at hu; subst hu; rfl
    case c3 => unfold maxLen; omega
    case c4 => omega
    intro v2 w4 ho hq hs hn
    replace HP := Lib.hid (HP.out.step2 hq ho hs (by simp))
    clear ho hq hs hn
    obtain ⟨c0, c1, c2, c3, c4, cl2⟩ := cell5 HP.out.xb
    obtain ⟨q0, q1, q2, q3, q4, ql⟩ := cell5 HP.out.qb
    go_wp2_with fail
    go_ret
    exact ⟨_, rfl, HP.out.row, HP.out.keeps, fun g hg => .inr (by have h1 := HP.out.free g hg; have h2 := HP.out.lt; omega)⟩
set_option maxHeartbeats 4000000 in
set_option maxRecDepth 100000 in
theorem opWords_011 (w : World) (hG : Glob4 w) (f : Nat) (hf : f < 12) (o k a b : Int) (hx : (⟨f, o, k, a, b⟩ : Opn).In) (hg : opGood ⟨f, o, k, a, b⟩ = true) (hK : opK f = false) (hA : opA f = true) (hB : opB f = true) (NM O _TK TA TB : ByteArray) (hNM : bs (opNm f) = NM)
    (hO : ∀ w, Glob4 w → Calls Tryz.prog 75 #[.int .i64 o] w fun e w' => e = .returned (.string O) ∧ Keeps [] w w') (hTA : ∀ w, Glob4 w → Calls Tryz.prog 75 #[.int .i64 a] w fun e w' => e = .returned (.string TA) ∧ Keeps [] w w') (hTB : ∀ w, Glob4 w → Calls Tryz.prog 75 #[.int .i64 b] w fun e w' => e = .returned (.string TB) ∧ Keeps [] w w') :
    Calls Tryz.prog 79 #[.agg #[.int .u8 f, .int .u8 o, .int .u8 k, .int .u16 a, .int .u16 b]] w fun e w' =>
    ∃ v, e = .returned v ∧ w'.ownsRow 0 9 1 v 4 [.string O, .string NM, .string TA, .string TB] ∧ Keeps [] w w' ∧ FSub (own v) [] w.heap.size := by
  have hv := fun w hG => valid_any w hG f o k a b hx
  rw [hg] at hv
  have hrow := fun (w : World) (hG : Glob4 w) => hG.row f hf
  rw [hK, hA, hB, hNM] at hrow
  obtain ⟨f0, f1, o0, o1, k0, k1, a0, a1, b0, b1⟩ := hx
  simp only at f0 f1 o0 o1 k0 k1 a0 a1 b0 b1
  clear hK hA hB hg hNM
  generalize opM f = M at *
  obtain ⟨i0, hi, hz0, hz1, hz2⟩ := info_parts Tryz.infoS
  have hk0 := (Keeps.refl [] w).alloc (.cells #[.int .u8 f, .int .u8 o, .int .u8 k, .int .u16 a, .int .u16 b] 24)
  go_enter Tryz.func79, Tryz.ntmps79
  go_wp2_with fail
  refine (hv _ (hG.new hk0)).mono ?_; rintro e w1 ⟨rfl, hk1⟩
  have hb := boxed5 hk1
  replace hk1 := hk0.trans hk1 (FSub.refl _ _)
  obtain ⟨c0, c1, c2, c3, c4, cl⟩ := cell5 hb
  obtain ⟨r0, r1, r2, r3, r4⟩ := hrow _ (hG.new hk1)
  clear hrow hv hk0
  go_wp2_with fail
  have hQ := heap_alloc_new w1 (.cells #[.int .u8 M, .string NM, .bool false, .bool true, .bool true] 144)
  have hX := heap_alloc_lt (o := .cells #[.int .u8 M, .string NM, .bool false, .bool true, .bool true] 144) hb
  have hk2 := hk1.alloc (.cells #[.int .u8 M, .string NM, .bool false, .bool true, .bool true] 144)
  have e1 : (w1.alloc (.cells #[.int .u8 M, .string NM, .bool false, .bool true, .bool true] 144)).heap.size = w1.heap.size + 1 := by simp
  obtain ⟨q0, q1, q2, q3, q4, ql⟩ := cell5 hQ
  obtain ⟨d0, d1, d2, d3, d4, dl⟩ := cell5 hX
  clear c0 c1 c2 c3 c4 hk1
  have HX := Lib.hid hX; have HQ := Lib.hid hQ; have HK := Lib.hid hk2; have HB := Lib.hid hb
  clear hX hQ hk2 hb
  generalize w1.alloc (.cells #[.int .u8 M, .string NM, .bool false, .bool true, .bool true] 144) = W at *
  have hwo : IntKind.i64.wrap o = o := by simp [IntKind.wrap, IntKind.bits, IntKind.signed]; omega
  go_region_with (go_at_call 75; refine (hO _ (hG.new HK.out.drew)).mono ?_; rintro e w2 ⟨rfl, hk3⟩; have p1 := hk3.cell q1 (by simp))
  all_goals
    have HP := Lib.hid (PAt.begin3 (e := 9) (w := w) (w1 := w1) (hk3.heap HX.out (by simp)) (hk3.heap HQ.out (by simp)) (HK.out.drew.trans hk3 (FSub.refl _ _)) cl (.string O) (.string NM))
    clear HX HQ HK HB hO hwo q0 q1 q2 q3 q4 ql d0 d1 d2 d3 d4 dl p1 hk3
    obtain ⟨c0, c1, c2, c3, c4, cl2⟩ := cell5 HP.out.xb
    obtain ⟨q0, q1, q2, q3, q4, ql⟩ := cell5 HP.out.qb
    go_wp2_with fail
    refine (hTA _ (hG.new HP.out.keeps)).mono ?_; rintro e w3 ⟨rfl, hk⟩
    replace HP := Lib.hid (HP.out.keep hk)
    clear hk hTA
    obtain ⟨c0, c1, c2, c3, c4, cl2⟩ := cell5 HP.out.xb
    obtain ⟨q0, q1, q2, q3, q4, ql⟩ := cell5 HP.out.qb
    go_wp2_with (at_builtin; refine wpList_append_sharp _ rfl _ _ 63 rfl 9 i0 (.string ⟨#[]⟩) 16 Tryz.underlying63 hi hz0 hz1 hz2 rfl _ 2 [.string O, .string NM] rfl (HP.out.row.alloc _) ⟨_, 0, none⟩ 1 1 [.string TA] rfl rfl ?c1 ?c2 ?c3 ?c4 ?_)
    case c1 => exact one_at (by simp) _ _
    case c2 => intro u hu; simp at hu; subst hu; rfl
    case c3 => unfold maxLen; omega
    case c4 => omega
    intro v2 w4 ho hq hs hn
    replace HP := Lib.hid (HP.out.step2 hq ho hs (by simp))
    clear ho hq hs hn
    obtain ⟨c0, c1, c2, c3, c4, cl2⟩ := cell5 HP.out.xb
    obtain ⟨q0, q1, q2, q3, q4, ql⟩ := cell5 HP.out.qb
    go_wp2_with fail
    refine (hTB _ (hG.new HP.out.keeps)).mono ?_; rintro e w5 ⟨rfl, hk⟩
    replace HP := Lib.hid (HP.out.keep hk)
    clear hk hTB
    obtain ⟨c0, c1, c2, c3, c4, cl2⟩ := cell5 HP.out.xb
    obtain ⟨q0, q1, q2, q3, q4, ql⟩ := cell5 HP.out.qb
    go_wp2_with (at_builtin; refine wpList_append_sharp _ rfl _ _ 63 rfl 9 i0 (.string ⟨#[]⟩) 16 Tryz.underlying63 hi hz0 hz1 hz2 rfl _ 3 [.string O, .string NM, .string TA] rfl (HP.out.row.alloc _) ⟨_, 0, none⟩ 1 1 [.string TB] rfl rfl ?c1 ?c2 ?c3 ?c4 ?_)
    case c1 => exact one_at (by simp) _ _
    case c2 => intro u hu; simp at hu; subst hu; rfl
    case c3 => unfold maxLen; omega
    case c4 => omega
    intro v3 w6 ho hq hs hn
    replace HP := Lib.hid (HP.out.step2 hq ho hs (by simp))
    clear ho hq hs hn
    obtain ⟨c0, c1, c2, c3, c4, cl2⟩ := cell5 HP.out.xb
    obtain ⟨q0, q1, q2, q3, q4, ql⟩ := cell5 HP.out.qb
    go_wp2_with fail
    go_ret
    exact ⟨_, rfl, HP.out.row, HP.out.keeps, fun g hg => .inr (by have h1 := HP.out.free g hg; have h2 := HP.out.lt; omega)⟩
set_option maxHeartbeats 4000000 in
set_option maxRecDepth 100000 in
theorem opWords_100 (w : World) (hG : Glob4 w) (f : Nat) (hf : f < 12) (o k a b : Int) (hx : (⟨f, o, k, a, b⟩ : Opn).In) (hg : opGood ⟨f, o, k, a, b⟩ = true) (hK : opK f = true) (hA : opA f = false) (hB : opB f = false) (NM O TK _TA _TB : ByteArray) (hNM : bs (opNm f) = NM)
    (hO : ∀ w, Glob4 w → Calls Tryz.prog 75 #[.int .i64 o] w fun e w' => e = .returned (.string O) ∧ Keeps [] w w') (hTK : ∀ w, Glob4 w → Calls Tryz.prog 75 #[.int .i64 k] w fun e w' => e = .returned (.string TK) ∧ Keeps [] w w') :
    Calls Tryz.prog 79 #[.agg #[.int .u8 f, .int .u8 o, .int .u8 k, .int .u16 a, .int .u16 b]] w fun e w' =>
    ∃ v, e = .returned v ∧ w'.ownsRow 0 9 1 v 3 [.string O, .string NM, .string TK] ∧ Keeps [] w w' ∧ FSub (own v) [] w.heap.size := by
  have hv := fun w hG => valid_any w hG f o k a b hx
  rw [hg] at hv
  have hrow := fun (w : World) (hG : Glob4 w) => hG.row f hf
  rw [hK, hA, hB, hNM] at hrow
  obtain ⟨f0, f1, o0, o1, k0, k1, a0, a1, b0, b1⟩ := hx
  simp only at f0 f1 o0 o1 k0 k1 a0 a1 b0 b1
  clear hK hA hB hg hNM
  generalize opM f = M at *
  obtain ⟨i0, hi, hz0, hz1, hz2⟩ := info_parts Tryz.infoS
  have hk0 := (Keeps.refl [] w).alloc (.cells #[.int .u8 f, .int .u8 o, .int .u8 k, .int .u16 a, .int .u16 b] 24)
  go_enter Tryz.func79, Tryz.ntmps79
  go_wp2_with fail
  refine (hv _ (hG.new hk0)).mono ?_; rintro e w1 ⟨rfl, hk1⟩
  have hb := boxed5 hk1
  replace hk1 := hk0.trans hk1 (FSub.refl _ _)
  obtain ⟨c0, c1, c2, c3, c4, cl⟩ := cell5 hb
  obtain ⟨r0, r1, r2, r3, r4⟩ := hrow _ (hG.new hk1)
  clear hrow hv hk0
  go_wp2_with fail
  have hQ := heap_alloc_new w1 (.cells #[.int .u8 M, .string NM, .bool true, .bool false, .bool false] 144)
  have hX := heap_alloc_lt (o := .cells #[.int .u8 M, .string NM, .bool true, .bool false, .bool false] 144) hb
  have hk2 := hk1.alloc (.cells #[.int .u8 M, .string NM, .bool true, .bool false, .bool false] 144)
  have e1 : (w1.alloc (.cells #[.int .u8 M, .string NM, .bool true, .bool false, .bool false] 144)).heap.size = w1.heap.size + 1 := by simp
  obtain ⟨q0, q1, q2, q3, q4, ql⟩ := cell5 hQ
  obtain ⟨d0, d1, d2, d3, d4, dl⟩ := cell5 hX
  clear c0 c1 c2 c3 c4 hk1
  have HX := Lib.hid hX; have HQ := Lib.hid hQ; have HK := Lib.hid hk2; have HB := Lib.hid hb
  clear hX hQ hk2 hb
  generalize w1.alloc (.cells #[.int .u8 M, .string NM, .bool true, .bool false, .bool false] 144) = W at *
  have hwo : IntKind.i64.wrap o = o := by simp [IntKind.wrap, IntKind.bits, IntKind.signed]; omega
  go_region_with (go_at_call 75; refine (hO _ (hG.new HK.out.drew)).mono ?_; rintro e w2 ⟨rfl, hk3⟩; have p1 := hk3.cell q1 (by simp))
  all_goals
    have HP := Lib.hid (PAt.begin3 (e := 9) (w := w) (w1 := w1) (hk3.heap HX.out (by simp)) (hk3.heap HQ.out (by simp)) (HK.out.drew.trans hk3 (FSub.refl _ _)) cl (.string O) (.string NM))
    clear HX HQ HK HB hO hwo q0 q1 q2 q3 q4 ql d0 d1 d2 d3 d4 dl p1 hk3
    obtain ⟨c0, c1, c2, c3, c4, cl2⟩ := cell5 HP.out.xb
    obtain ⟨q0, q1, q2, q3, q4, ql⟩ := cell5 HP.out.qb
    go_wp2_with fail
    refine (hTK _ (hG.new HP.out.keeps)).mono ?_; rintro e w3 ⟨rfl, hk⟩
    replace HP := Lib.hid (HP.out.keep hk)
    clear hk hTK
    obtain ⟨c0, c1, c2, c3, c4, cl2⟩ := cell5 HP.out.xb
    obtain ⟨q0, q1, q2, q3, q4, ql⟩ := cell5 HP.out.qb
    go_wp2_with (at_builtin; refine wpList_append_sharp _ rfl _ _ 63 rfl 9 i0 (.string ⟨#[]⟩) 16 Tryz.underlying63 hi hz0 hz1 hz2 rfl _ 2 [.string O, .string NM] rfl (HP.out.row.alloc _) ⟨_, 0, none⟩ 1 1 [.string TK] rfl rfl ?c1 ?c2 ?c3 ?c4 ?_)
    case c1 => exact one_at (by simp) _ _
    case c2 => intro u hu; simp at hu; subst hu; rfl
    case c3 => unfold maxLen; omega
    case c4 => omega
    intro v2 w4 ho hq hs hn
    replace HP := Lib.hid (HP.out.step2 hq ho hs (by simp))
    clear ho hq hs hn
    obtain ⟨c0, c1, c2, c3, c4, cl2⟩ := cell5 HP.out.xb
    obtain ⟨q0, q1, q2, q3, q4, ql⟩ := cell5 HP.out.qb
    go_wp2_with fail
    go_ret
    exact ⟨_, rfl, HP.out.row, HP.out.keeps, fun g hg => .inr (by have h1 := HP.out.free g hg; have h2 := HP.out.lt; omega)⟩
set_option maxHeartbeats 4000000 in
set_option maxRecDepth 100000 in
theorem opWords_110 (w : World) (hG : Glob4 w) (f : Nat) (hf : f < 12) (o k a b : Int) (hx : (⟨f, o, k, a, b⟩ : Opn).In) (hg : opGood ⟨f, o, k, a, b⟩ = true) (hK : opK f = true) (hA : opA f = true) (hB : opB f = false) (NM O TK TA _TB : ByteArray) (hNM : bs (opNm f) = NM)
    (hO : ∀ w, Glob4 w → Calls Tryz.prog 75 #[.int .i64 o] w fun e w' => e = .returned (.string O) ∧ Keeps [] w w') (hTK : ∀ w, Glob4 w → Calls Tryz.prog 75 #[.int .i64 k] w fun e w' => e = .returned (.string TK) ∧ Keeps [] w w') (hTA : ∀ w, Glob4 w → Calls Tryz.prog 75 #[.int .i64 a] w fun e w' => e = .returned (.string TA) ∧ Keeps [] w w') :
    Calls Tryz.prog 79 #[.agg #[.int .u8 f, .int .u8 o, .int .u8 k, .int .u16 a, .int .u16 b]] w fun e w' =>
    ∃ v, e = .returned v ∧ w'.ownsRow 0 9 1 v 4 [.string O, .string NM, .string TK, .string TA] ∧ Keeps [] w w' ∧ FSub (own v) [] w.heap.size := by
  have hv := fun w hG => valid_any w hG f o k a b hx
  rw [hg] at hv
  have hrow := fun (w : World) (hG : Glob4 w) => hG.row f hf
  rw [hK, hA, hB, hNM] at hrow
  obtain ⟨f0, f1, o0, o1, k0, k1, a0, a1, b0, b1⟩ := hx
  simp only at f0 f1 o0 o1 k0 k1 a0 a1 b0 b1
  clear hK hA hB hg hNM
  generalize opM f = M at *
  obtain ⟨i0, hi, hz0, hz1, hz2⟩ := info_parts Tryz.infoS
  have hk0 := (Keeps.refl [] w).alloc (.cells #[.int .u8 f, .int .u8 o, .int .u8 k, .int .u16 a, .int .u16 b] 24)
  go_enter Tryz.func79, Tryz.ntmps79
  go_wp2_with fail
  refine (hv _ (hG.new hk0)).mono ?_; rintro e w1 ⟨rfl, hk1⟩
  have hb := boxed5 hk1
  replace hk1 := hk0.trans hk1 (FSub.refl _ _)
  obtain ⟨c0, c1, c2, c3, c4, cl⟩ := cell5 hb
  obtain ⟨r0, r1, r2, r3, r4⟩ := hrow _ (hG.new hk1)
  clear hrow hv hk0
  go_wp2_with fail
  have hQ := heap_alloc_new w1 (.cells #[.int .u8 M, .string NM, .bool true, .bool true, .bool false] 144)
  have hX := heap_alloc_lt (o := .cells #[.int .u8 M, .string NM, .bool true, .bool true, .bool false] 144) hb
  have hk2 := hk1.alloc (.cells #[.int .u8 M, .string NM, .bool true, .bool true, .bool false] 144)
  have e1 : (w1.alloc (.cells #[.int .u8 M, .string NM, .bool true, .bool true, .bool false] 144)).heap.size = w1.heap.size + 1 := by simp
  obtain ⟨q0, q1, q2, q3, q4, ql⟩ := cell5 hQ
  obtain ⟨d0, d1, d2, d3, d4, dl⟩ := cell5 hX
  clear c0 c1 c2 c3 c4 hk1
  have HX := Lib.hid hX; have HQ := Lib.hid hQ; have HK := Lib.hid hk2; have HB := Lib.hid hb
  clear hX hQ hk2 hb
  generalize w1.alloc (.cells #[.int .u8 M, .string NM, .bool true, .bool true, .bool false] 144) = W at *
  have hwo : IntKind.i64.wrap o = o := by simp [IntKind.wrap, IntKind.bits, IntKind.signed]; omega
  go_region_with (go_at_call 75; refine (hO _ (hG.new HK.out.drew)).mono ?_; rintro e w2 ⟨rfl, hk3⟩; have p1 := hk3.cell q1 (by simp))
  all_goals
    have HP := Lib.hid (PAt.begin3 (e := 9) (w := w) (w1 := w1) (hk3.heap HX.out (by simp)) (hk3.heap HQ.out (by simp)) (HK.out.drew.trans hk3 (FSub.refl _ _)) cl (.string O) (.string NM))
    clear HX HQ HK HB hO hwo q0 q1 q2 q3 q4 ql d0 d1 d2 d3 d4 dl p1 hk3
    obtain ⟨c0, c1, c2, c3, c4, cl2⟩ := cell5 HP.out.xb
    obtain ⟨q0, q1, q2, q3, q4, ql⟩ := cell5 HP.out.qb
    go_wp2_with fail
    refine (hTK _ (hG.new HP.out.keeps)).mono ?_; rintro e w3 ⟨rfl, hk⟩
    replace HP := Lib.hid (HP.out.keep hk)
    clear hk hTK
    obtain ⟨c0, c1, c2, c3, c4, cl2⟩ := cell5 HP.out.xb
    obtain ⟨q0, q1, q2, q3, q4, ql⟩ := cell5 HP.out.qb
    go_wp2_with (at_builtin; refine wpList_append_sharp _ rfl _ _ 63 rfl 9 i0 (.string ⟨#[]⟩) 16 Tryz.underlying63 hi hz0 hz1 hz2 rfl _ 2 [.string O, .string NM] rfl (HP.out.row.alloc _) ⟨_, 0, none⟩ 1 1 [.string TK] rfl rfl ?c1 ?c2 ?c3 ?c4 ?_)
    case c1 => exact one_at (by simp) _ _
    case c2 => intro u hu; simp at hu; subst hu; rfl
    case c3 => unfold maxLen; omega
    case c4 => omega
    intro v2 w4 ho hq hs hn
    replace HP := Lib.hid (HP.out.step2 hq ho hs (by simp))
    clear ho hq hs hn
    obtain ⟨c0, c1, c2, c3, c4, cl2⟩ := cell5 HP.out.xb
    obtain ⟨q0, q1, q2, q3, q4, ql⟩ := cell5 HP.out.qb
    go_wp2_with fail
    refine (hTA _ (hG.new HP.out.keeps)).mono ?_; rintro e w5 ⟨rfl, hk⟩
    replace HP := Lib.hid (HP.out.keep hk)
    clear hk hTA
    obtain ⟨c0, c1, c2, c3, c4, cl2⟩ := cell5 HP.out.xb
    obtain ⟨q0, q1, q2, q3, q4, ql⟩ := cell5 HP.out.qb
    go_wp2_with (at_builtin; refine wpList_append_sharp _ rfl _ _ 63 rfl 9 i0 (.string ⟨#[]⟩) 16 Tryz.underlying63 hi hz0 hz1 hz2 rfl _ 3 [.string O, .string NM, .string TK] rfl (HP.out.row.alloc _) ⟨_, 0, none⟩ 1 1 [.string TA] rfl rfl ?c1 ?c2 ?c3 ?c4 ?_)
    case c1 => exact one_at (by simp) _ _
    case c2 => intro u hu; simp at hu; subst hu; rfl
    case c3 => unfold maxLen; omega
    case c4 => omega
    intro v3 w6 ho hq hs hn
    replace HP := Lib.hid (HP.out.step2 hq ho hs (by simp))
    clear ho hq hs hn
    obtain ⟨c0, c1, c2, c3, c4, cl2⟩ := cell5 HP.out.xb
    obtain ⟨q0, q1, q2, q3, q4, ql⟩ := cell5 HP.out.qb
    go_wp2_with fail
    go_ret
    exact ⟨_, rfl, HP.out.row, HP.out.keeps, fun g hg => .inr (by have h1 := HP.out.free g hg; have h2 := HP.out.lt; omega)⟩
set_option maxHeartbeats 4000000 in
set_option maxRecDepth 100000 in
theorem opWords_111 (w : World) (hG : Glob4 w) (f : Nat) (hf : f < 12) (o k a b : Int) (hx : (⟨f, o, k, a, b⟩ : Opn).In) (hg : opGood ⟨f, o, k, a, b⟩ = true) (hK : opK f = true) (hA : opA f = true) (hB : opB f = true) (NM O TK TA TB : ByteArray) (hNM : bs (opNm f) = NM)
    (hO : ∀ w, Glob4 w → Calls Tryz.prog 75 #[.int .i64 o] w fun e w' => e = .returned (.string O) ∧ Keeps [] w w') (hTK : ∀ w, Glob4 w → Calls Tryz.prog 75 #[.int .i64 k] w fun e w' => e = .returned (.string TK) ∧ Keeps [] w w') (hTA : ∀ w, Glob4 w → Calls Tryz.prog 75 #[.int .i64 a] w fun e w' => e = .returned (.string TA) ∧ Keeps [] w w') (hTB : ∀ w, Glob4 w → Calls Tryz.prog 75 #[.int .i64 b] w fun e w' => e = .returned (.string TB) ∧ Keeps [] w w') :
    Calls Tryz.prog 79 #[.agg #[.int .u8 f, .int .u8 o, .int .u8 k, .int .u16 a, .int .u16 b]] w fun e w' =>
    ∃ v, e = .returned v ∧ w'.ownsRow 0 9 1 v 5 [.string O, .string NM, .string TK, .string TA, .string TB] ∧ Keeps [] w w' ∧ FSub (own v) [] w.heap.size := by
  have hv := fun w hG => valid_any w hG f o k a b hx
  rw [hg] at hv
  have hrow := fun (w : World) (hG : Glob4 w) => hG.row f hf
  rw [hK, hA, hB, hNM] at hrow
  obtain ⟨f0, f1, o0, o1, k0, k1, a0, a1, b0, b1⟩ := hx
  simp only at f0 f1 o0 o1 k0 k1 a0 a1 b0 b1
  clear hK hA hB hg hNM
  generalize opM f = M at *
  obtain ⟨i0, hi, hz0, hz1, hz2⟩ := info_parts Tryz.infoS
  have hk0 := (Keeps.refl [] w).alloc (.cells #[.int .u8 f, .int .u8 o, .int .u8 k, .int .u16 a, .int .u16 b] 24)
  go_enter Tryz.func79, Tryz.ntmps79
  go_wp2_with fail
  refine (hv _ (hG.new hk0)).mono ?_; rintro e w1 ⟨rfl, hk1⟩
  have hb := boxed5 hk1
  replace hk1 := hk0.trans hk1 (FSub.refl _ _)
  obtain ⟨c0, c1, c2, c3, c4, cl⟩ := cell5 hb
  obtain ⟨r0, r1, r2, r3, r4⟩ := hrow _ (hG.new hk1)
  clear hrow hv hk0
  go_wp2_with fail
  have hQ := heap_alloc_new w1 (.cells #[.int .u8 M, .string NM, .bool true, .bool true, .bool true] 144)
  have hX := heap_alloc_lt (o := .cells #[.int .u8 M, .string NM, .bool true, .bool true, .bool true] 144) hb
  have hk2 := hk1.alloc (.cells #[.int .u8 M, .string NM, .bool true, .bool true, .bool true] 144)
  have e1 : (w1.alloc (.cells #[.int .u8 M, .string NM, .bool true, .bool true, .bool true] 144)).heap.size = w1.heap.size + 1 := by simp
  obtain ⟨q0, q1, q2, q3, q4, ql⟩ := cell5 hQ
  obtain ⟨d0, d1, d2, d3, d4, dl⟩ := cell5 hX
  clear c0 c1 c2 c3 c4 hk1
  have HX := Lib.hid hX; have HQ := Lib.hid hQ; have HK := Lib.hid hk2; have HB := Lib.hid hb
  clear hX hQ hk2 hb
  generalize w1.alloc (.cells #[.int .u8 M, .string NM, .bool true, .bool true, .bool true] 144) = W at *
  have hwo : IntKind.i64.wrap o = o := by simp [IntKind.wrap, IntKind.bits, IntKind.signed]; omega
  go_region_with (go_at_call 75; refine (hO _ (hG.new HK.out.drew)).mono ?_; rintro e w2 ⟨rfl, hk3⟩; have p1 := hk3.cell q1 (by simp))
  all_goals
    have HP := Lib.hid (PAt.begin3 (e := 9) (w := w) (w1 := w1) (hk3.heap HX.out (by simp)) (hk3.heap HQ.out (by simp)) (HK.out.drew.trans hk3 (FSub.refl _ _)) cl (.string O) (.string NM))
    clear HX HQ HK HB hO hwo q0 q1 q2 q3 q4 ql d0 d1 d2 d3 d4 dl p1 hk3
    obtain ⟨c0, c1, c2, c3, c4, cl2⟩ := cell5 HP.out.xb
    obtain ⟨q0, q1, q2, q3, q4, ql⟩ := cell5 HP.out.qb
    go_wp2_with fail
    refine (hTK _ (hG.new HP.out.keeps)).mono ?_; rintro e w3 ⟨rfl, hk⟩
    replace HP := Lib.hid (HP.out.keep hk)
    clear hk hTK
    obtain ⟨c0, c1, c2, c3, c4, cl2⟩ := cell5 HP.out.xb
    obtain ⟨q0, q1, q2, q3, q4, ql⟩ := cell5 HP.out.qb
    go_wp2_with (at_builtin; refine wpList_append_sharp _ rfl _ _ 63 rfl 9 i0 (.string ⟨#[]⟩) 16 Tryz.underlying63 hi hz0 hz1 hz2 rfl _ 2 [.string O, .string NM] rfl (HP.out.row.alloc _) ⟨_, 0, none⟩ 1 1 [.string TK] rfl rfl ?c1 ?c2 ?c3 ?c4 ?_)
    case c1 => exact one_at (by simp) _ _
    case c2 => intro u hu; simp at hu; subst hu; rfl
    case c3 => unfold maxLen; omega
    case c4 => omega
    intro v2 w4 ho hq hs hn
    replace HP := Lib.hid (HP.out.step2 hq ho hs (by simp))
    clear ho hq hs hn
    obtain ⟨c0, c1, c2, c3, c4, cl2⟩ := cell5 HP.out.xb
    obtain ⟨q0, q1, q2, q3, q4, ql⟩ := cell5 HP.out.qb
    go_wp2_with fail
    refine (hTA _ (hG.new HP.out.keeps)).mono ?_; rintro e w5 ⟨rfl, hk⟩
    replace HP := Lib.hid (HP.out.keep hk)
    clear hk hTA
    obtain ⟨c0, c1, c2, c3, c4, cl2⟩ := cell5 HP.out.xb
    obtain ⟨q0, q1, q2, q3, q4, ql⟩ := cell5 HP.out.qb
    go_wp2_with (at_builtin; refine wpList_append_sharp _ rfl _ _ 63 rfl 9 i0 (.string ⟨#[]⟩) 16 Tryz.underlying63 hi hz0 hz1 hz2 rfl _ 3 [.string O, .string NM, .string TK] rfl (HP.out.row.alloc _) ⟨_, 0, none⟩ 1 1 [.string TA] rfl rfl ?c1 ?c2 ?c3 ?c4 ?_)
    case c1 => exact one_at (by simp) _ _
    case c2 => intro u hu; simp at hu; subst hu; rfl
    case c3 => unfold maxLen; omega
    case c4 => omega
    intro v3 w6 ho hq hs hn
    replace HP := Lib.hid (HP.out.step2 hq ho hs (by simp))
    clear ho hq hs hn
    obtain ⟨c0, c1, c2, c3, c4, cl2⟩ := cell5 HP.out.xb
    obtain ⟨q0, q1, q2, q3, q4, ql⟩ := cell5 HP.out.qb
    go_wp2_with fail
    refine (hTB _ (hG.new HP.out.keeps)).mono ?_; rintro e w7 ⟨rfl, hk⟩
    replace HP := Lib.hid (HP.out.keep hk)
    clear hk hTB
    obtain ⟨c0, c1, c2, c3, c4, cl2⟩ := cell5 HP.out.xb
    obtain ⟨q0, q1, q2, q3, q4, ql⟩ := cell5 HP.out.qb
    go_wp2_with (at_builtin; refine wpList_append_sharp _ rfl _ _ 63 rfl 9 i0 (.string ⟨#[]⟩) 16 Tryz.underlying63 hi hz0 hz1 hz2 rfl _ 4 [.string O, .string NM, .string TK, .string TA] rfl (HP.out.row.alloc _) ⟨_, 0, none⟩ 1 1 [.string TB] rfl rfl ?c1 ?c2 ?c3 ?c4 ?_)
    case c1 => exact one_at (by simp) _ _
    case c2 => intro u hu; simp at hu; subst hu; rfl
    case c3 => unfold maxLen; omega
    case c4 => omega
    intro v4 w8 ho hq hs hn
    replace HP := Lib.hid (HP.out.step2 hq ho hs (by simp))
    clear ho hq hs hn
    obtain ⟨c0, c1, c2, c3, c4, cl2⟩ := cell5 HP.out.xb
    obtain ⟨q0, q1, q2, q3, q4, ql⟩ := cell5 HP.out.qb
    go_wp2_with fail
    go_ret
    exact ⟨_, rfl, HP.out.row, HP.out.keeps, fun g hg => .inr (by have h1 := HP.out.free g hg; have h2 := HP.out.lt; omega)⟩
theorem opWords_good (w : World) (hG : Glob4 w) (f o k a b : Int) (hx : (⟨f, o, k, a, b⟩ : Opn).In) (hg : opGood ⟨f, o, k, a, b⟩ = true) :
    Calls Tryz.prog 79 #[.agg #[.int .u8 f, .int .u8 o, .int .u8 k, .int .u16 a, .int .u16 b]] w fun e w' =>
    ∃ v, e = .returned v ∧ w'.ownsRow 0 9 1 v (opWords ⟨f, o, k, a, b⟩).length ((opWords ⟨f, o, k, a, b⟩).map fun s => .string (bs s)) ∧ Keeps [] w w' ∧ FSub (own v) [] w.heap.size := by
  have is := ((good_iff _).1 hg).is
  have hx2 := hx
  obtain ⟨f0, f1, o0, o1, k0, k1, a0, a1, b0, b1⟩ := hx2
  simp only at f0 f1 o0 o1 k0 k1 a0 a1 b0 b1
  have hf : f < 12 := by simp [opIs] at is; omega
  obtain ⟨f, rfl⟩ := Int.eq_ofNat_of_zero_le f0
  rcases need_ways is with ⟨hK, hA, hB⟩ | ⟨hK, hA, hB⟩ | ⟨hK, hA, hB⟩ | ⟨hK, hA, hB⟩ | ⟨hK, hA, hB⟩ | ⟨hK, hA, hB⟩
  · have h := opWords_000 w hG f (by omega) o k a b hx hg hK hA hB _ _ (bs (dec k)) (bs (dec a)) (bs (dec b)) rfl (fun w hG => Itoa4_any w hG o o0 (by omega))
    have e : opWords ⟨f, o, k, a, b⟩ = [dec o, opNm (f : Int)] := by simp only [opWords, hK, hA, hB]; rfl
    rw [e]; exact h
  · have h := opWords_010 w hG f (by omega) o k a b hx hg hK hA hB _ _ (bs (dec k)) (bs (dec a)) (bs (dec b)) rfl (fun w hG => Itoa4_any w hG o o0 (by omega)) (fun w hG => Itoa4_any w hG a a0 a1)
    have e : opWords ⟨f, o, k, a, b⟩ = [dec o, opNm (f : Int), dec a] := by simp only [opWords, hK, hA, hB]; rfl
    rw [e]; exact h
  · have h := opWords_011 w hG f (by omega) o k a b hx hg hK hA hB _ _ (bs (dec k)) (bs (dec a)) (bs (dec b)) rfl (fun w hG => Itoa4_any w hG o o0 (by omega)) (fun w hG => Itoa4_any w hG a a0 a1) (fun w hG => Itoa4_any w hG b b0 b1)
    have e : opWords ⟨f, o, k, a, b⟩ = [dec o, opNm (f : Int), dec a, dec b] := by simp only [opWords, hK, hA, hB]; rfl
    rw [e]; exact h
  · have h := opWords_100 w hG f (by omega) o k a b hx hg hK hA hB _ _ (bs (dec k)) (bs (dec a)) (bs (dec b)) rfl (fun w hG => Itoa4_any w hG o o0 (by omega)) (fun w hG => Itoa4_any w hG k k0 (by omega))
    have e : opWords ⟨f, o, k, a, b⟩ = [dec o, opNm (f : Int), dec k] := by simp only [opWords, hK, hA, hB]; rfl
    rw [e]; exact h
  · have h := opWords_110 w hG f (by omega) o k a b hx hg hK hA hB _ _ (bs (dec k)) (bs (dec a)) (bs (dec b)) rfl (fun w hG => Itoa4_any w hG o o0 (by omega)) (fun w hG => Itoa4_any w hG k k0 (by omega)) (fun w hG => Itoa4_any w hG a a0 a1)
    have e : opWords ⟨f, o, k, a, b⟩ = [dec o, opNm (f : Int), dec k, dec a] := by simp only [opWords, hK, hA, hB]; rfl
    rw [e]; exact h
  · have h := opWords_111 w hG f (by omega) o k a b hx hg hK hA hB _ _ (bs (dec k)) (bs (dec a)) (bs (dec b)) rfl (fun w hG => Itoa4_any w hG o o0 (by omega)) (fun w hG => Itoa4_any w hG k k0 (by omega)) (fun w hG => Itoa4_any w hG a a0 a1) (fun w hG => Itoa4_any w hG b b0 b1)
    have e : opWords ⟨f, o, k, a, b⟩ = [dec o, opNm (f : Int), dec k, dec a, dec b] := by simp only [opWords, hK, hA, hB]; rfl
    rw [e]; exact h
theorem opWords_bad (w : World) (hG : Glob4 w) (f o k a b : Int) (hx : (⟨f, o, k, a, b⟩ : Opn).In) (hg : opGood ⟨f, o, k, a, b⟩ = false) :
    Calls Tryz.prog 79 #[.agg #[.int .u8 f, .int .u8 o, .int .u8 k, .int .u16 a, .int .u16 b]] w fun e w' =>
    e = .returned (.slice none 0 0) ∧ Keeps [] w w' := by
  have hv := fun w hG => valid_any w hG f o k a b hx
  rw [hg] at hv
  have hk0 := (Keeps.refl [] w).alloc (.cells #[.int .u8 f, .int .u8 o, .int .u8 k, .int .u16 a, .int .u16 b] 24)
  go_enter Tryz.func79, Tryz.ntmps79
  go_wp2_with fail
  refine (hv _ (hG.new hk0)).mono ?_; rintro e w1 ⟨rfl, hk1⟩
  go_wp2_with fail
  go_ret
  exact ⟨rfl, hk0.trans hk1 (FSub.refl _ _)⟩
theorem opWords_any (w : World) (hG : Glob4 w) (x : Opn) (hx : x.In) :
    Calls Tryz.prog 79 #[x.val] w fun e w' =>
    ∃ v, e = .returned v ∧ w'.ownsRow 0 9 1 v (wordsOf x).length ((wordsOf x).map fun s => .string (bs s)) ∧ Keeps [] w w' ∧ FSub (own v) [] w.heap.size := by
  obtain ⟨f, o, k, a, b⟩ := x
  rcases bool_two (opGood ⟨f, o, k, a, b⟩) with hg | hg
  · have h := opWords_good w hG f o k a b hx hg
    simp only [wordsOf, hg, if_true]; exact h
  · refine (opWords_bad w hG f o k a b hx hg).mono ?_
    rintro e w' ⟨rfl, hk⟩
    simp only [wordsOf, hg, if_false, Bool.false_eq_true]
    exact ⟨_, rfl, World.ownsRow_nil _ _ _ _, hk, fun g hg => by simp [own, Value.ownBlock] at hg⟩
end Go.Proofs.YtffldnjjijckcaaGreatDoor
