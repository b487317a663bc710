/-
  The program's lock: Encode, Decode; the document's Step and Decode.
-/
import Derived.Deep.RegionHeld3
import Derived.Laws.Tables
import Derived.BigQuiet
import Derived.Deep.AppendSrc
import Derived.Lib.SliceRun
import Derived.Laws.MakeOwn
import Derived.StillTailTactics
import Derived.Test.YtbjhgdimciibcaaDoorLS11
import Derived.Test.YtbjhgdimciibcaaDoorLS08
import Derived.Test.YtbjhgdimciibcaaDoorLS07
import Derived.Test.YtbjhgdimciibcaaDoorLS09
set_option linter.unusedSimpArgs false
set_option linter.unusedVariables false
namespace Go.Proofs.YtbjhgdimciibcaaDoor
open Go.RowKit
/-- A state's byte. -/
def lkB (s : Int) : List UInt8 := [UInt8.ofNat s.toNat]
theorem nb_lkB {s : Int} (h0 : 0 ≤ s) (h1 : s < 256) : nb (lkB s) = [s] := by
  simp only [nb, lkB, List.map_cons, List.map_nil, UInt8.toNat_ofNat', List.cons.injEq, and_true]
  omega
theorem conv_one (w : World) {s : Int} (h0 : 0 ≤ s) (h1 : s < 256) : (convert 40 9 (.slice (some ⟨w.heap.size, 0, none⟩) 1 1)).run Tryd.prog (w.alloc (.cells #[.int .u8 s] 5)) = .ok (.string (bs (lkB s))) (w.alloc (.cells #[.int .u8 s] 5)) := by
  rw [← str_nb (lkB s)]
  have := run_convert_bytes_arg (w.alloc (.cells #[.int .u8 s] 5)) 40 5 Tryd.underlying40 Tryd.underlying5 w.heap.size 0 1 1 (nb (lkB s)) (by rw [nb_lkB h0 h1]; rfl) (fun i hi => by
    obtain rfl : i = 0 := by omega
    rw [nb_lkB h0 h1]
    exact cell_lit (heap_alloc_new w (.cells #[.int .u8 s] 5)) 0 rfl) 9 Tryd.underlying9
  exact this
set_option maxHeartbeats 8000000
set_option maxRecDepth 100000
theorem lkEncode_any (w : World) (s : Int) (h0 : 0 ≤ s) (h1 : s < 256) : Calls Tryd.prog 14 #[.int .u8 s] w fun e w' => e = .returned (.string (bs (lkB s))) ∧ Keeps [] w w' := by
  have hc := conv_one w h0 h1
  have HK := Lib.hid (show Keeps [] w (w.alloc (.cells #[.int .u8 s] 5)) from (Keeps.refl _ _).alloc _)
  clear h0 h1
  go_enter Tryd.func14, Tryd.ntmps14
  go_wp2_with fail
  go_ret
  exact ⟨rfl, HK.out⟩
/-- The state that a text is, and the error. -/
def lkD : List UInt8 → Int × Int
  | [x] => if (x.toNat : Int) ≤ 16 then ((x.toNat : Int), 0) else (0, 4)
  | _ => (0, 4)
theorem lkD_one (x : UInt8) : lkD [x] = if (x.toNat : Int) ≤ 16 then ((x.toNat : Int), 0) else (0, 4) := rfl
theorem lkD_not {b : List UInt8} (h : b.length ≠ 1) : lkD b = (0, 4) := by
  match b, h with
  | [], _ => rfl
  | [x], h => exact absurd rfl h
  | _ :: _ :: _, _ => rfl
theorem one_size (x : UInt8) : (bs [x]).size = 1 := rfl
theorem lkDecode_any (w : World) (b : List UInt8) : Calls Tryd.prog 13 #[.string (bs b)] w fun e w' => e = .returned (.tuple #[.int .u8 (lkD b).1, .int .i64 (lkD b).2]) ∧ w' = w := by
  by_cases hb : b.length = 1
  · obtain ⟨x, rfl⟩ := List.length_eq_one_iff.1 hb
    have t1 : (((bs [x]).size : Int) != 1) = false := rfl
    have t2 : 0 < (bs [x]).size := by rw [one_size]; decide
    have HX := Lib.hid (fun w => (show Calls Tryd.prog 24 #[.int .u8 (((bs [x])[0]'t2).toNat : Int)] w _ from lkExists_any w (x.toNat : Int)))
    rw [lkD_one]
    clear hb
    by_cases h : (x.toNat : Int) ≤ 16
    · rw [if_pos h]
      rw [decide_eq_true h] at HX
      go_enter Tryd.func13, Tryd.ntmps13
      go_wp2_with fail
      refine (HX.out _).mono ?_; rintro e w2 ⟨rfl, rfl⟩
      go_wp2_with fail
      go_ret2
      exact ⟨rfl, rfl⟩
    · rw [if_neg h]
      rw [decide_eq_false h] at HX
      go_enter Tryd.func13, Tryd.ntmps13
      go_wp2_with fail
      refine (HX.out _).mono ?_; rintro e w2 ⟨rfl, rfl⟩
      go_wp2_with fail
      go_ret2
      exact ⟨rfl, rfl⟩
  · have hz : (bs b).size = b.length := by show b.toArray.size = _; simp
    have t1 : (((bs b).size : Int) != 1) = true := by rw [hz]; simp; omega
    rw [lkD_not hb]
    clear hb hz
    go_enter Tryd.func13, Tryd.ntmps13
    go_wp2_with fail
    go_ret2
    exact ⟨rfl, rfl⟩
theorem r12Decode_any (w : World) (b : List UInt8) : Calls Tryd.prog 15 #[.string (bs b)] w fun e w' => e = .returned (.tuple #[.int .i64 ((lkD b).1 - 1), .int .i64 (lkD b).2]) ∧ w' = w := by
  by_cases hb : b.length = 1
  · obtain ⟨x, rfl⟩ := List.length_eq_one_iff.1 hb
    have t1 : (((bs [x]).size : Int) != 1) = false := rfl
    have t2 : 0 < (bs [x]).size := by rw [one_size]; decide
    have hx0 : 0 ≤ (x.toNat : Int) := by omega
    have hx1 : (x.toNat : Int) < 256 := by have := x.toNat_lt; omega
    have hw : IntKind.i64.wrap ((((bs [x])[0]'t2).toNat : Int)) = (x.toNat : Int) := by
      show IntKind.i64.wrap (x.toNat : Int) = _
      simp [IntKind.wrap, IntKind.signed, IntKind.bits]; omega
    have hw2 : IntKind.i64.wrap ((x.toNat : Int) - 1) = (x.toNat : Int) - 1 := by simp [IntKind.wrap, IntKind.signed, IntKind.bits]; omega
    rw [lkD_one]
    clear hb
    by_cases h : (x.toNat : Int) ≤ 16
    · rw [if_pos h]
      have hd : decide ((16 : Int) < ((((bs [x])[0]'t2).toNat : Int))) = false := decide_eq_false (by show ¬ (16 : Int) < (x.toNat : Int); omega)
      clear h hx0 hx1
      go_enter Tryd.func15, Tryd.ntmps15
      go_wp2_with fail
      go_ret2
      exact ⟨rfl, rfl⟩
    · rw [if_neg h]
      have hd : decide ((16 : Int) < ((((bs [x])[0]'t2).toNat : Int))) = true := decide_eq_true (by show (16 : Int) < (x.toNat : Int); omega)
      clear h hx0 hx1
      go_enter Tryd.func15, Tryd.ntmps15
      go_wp2_with fail
      go_ret2
      exact ⟨rfl, rfl⟩
  · have hz : (bs b).size = b.length := by show b.toArray.size = _; simp
    have t1 : (((bs b).size : Int) != 1) = true := by rw [hz]; simp; omega
    rw [lkD_not hb]
    clear hb hz
    go_enter Tryd.func15, Tryd.ntmps15
    go_wp2_with fail
    go_ret2
    exact ⟨rfl, rfl⟩
theorem r12Step_any (w : World) {s c h : Int} (x : Opn) (hh : h = s - 1) (hs : 0 ≤ s ∧ s < 256) (hc : 0 ≤ c ∧ c < 256) (hx : x.In) : Calls Tryd.prog 11 #[.int .i64 h, .int .u8 c, x.val] w fun e w' =>
    e = .returned (.tuple #[.int .i64 ((lkX s c x).1 - 1), .agg (ansC (lkX s c x).2.1).toArray, .int .i64 (lkX s c x).2.2]) ∧ Keeps [] w w' := by
  obtain ⟨e1, h0, h1, hk⟩ := two_vars w #[.int .u8 x.f, .int .u8 x.o, .int .u8 x.k, .int .u16 x.a, .int .u16 x.b] #[.int .u8 0, .int .u16 0] 24 27
  obtain ⟨R, hR⟩ : ∃ R, R = w.heap.size := ⟨_, rfl⟩
  have HC := Lib.hid (fun w => r4Check_any w 3 x.f x.o x.k x.a x.b (by omega) (by omega) hx)
  rw [← hR] at h0 h1 e1
  have H0 := Lib.hid h0; have H1 := Lib.hid h1; have HK := Lib.hid hk; have HRR := Lib.hid hR
  have HRL := Lib.hid (show w.heap.size ≤ R from Nat.le_of_eq hR.symm)
  have wc : IntKind.i64.wrap c = c := by simp [IntKind.wrap, IntKind.signed, IntKind.bits]; omega
  clear h0 h1 hk e1 hR hx
  unfold Opn.val
  rcases lkX_ways s c x with hw | hw | hw | hw | hw | hw
  · rw [hw.2]
    rw [hw.1] at HC
    subst hh
    clear hw
    go_enter Tryd.func11, Tryd.ntmps11
    go_wp2_with fail
    rw [← HRR.out]
    refine (HC.out _).mono ?_; rintro e w1 ⟨rfl, hk1⟩
    have HB1 := Lib.hid (show w1.heap[R + 1]? = some (.cells (ansC ⟨0, 0⟩).toArray 27 (0, 0)) from hk1.heap H1.out (by simp))
    have c0 : w1.cell? ⟨R, 0, none⟩ = some (.int .u8 x.f) := cell_lit (hk1.heap H0.out (by simp)) 0 rfl
    have HK1 := Lib.hid (HK.out.trans hk1 (FSub.refl _ _))
    clear hk1
    go_wp2_with ((with_reducible refine wpList_putR12 (g := R + 1) (old := ⟨0, 0⟩) ⟨0, 0⟩ ?_ ?_ HB1.out ?_); exact rfl; exact rfl)
    intro W hW hkW
    have HW := Lib.hid hW; have HKW := Lib.hid hkW
    clear hW hkW
    go_wp2_with fail
    try simp only [Exit.inBlock, Exit.then]
    exact bodyPost_ret (results_ans rfl _ _ (R + 1) ⟨0, 0⟩ rfl HW.out) rfl ⟨rfl, HK1.out.trans HKW.out (fun q hq => .inr (by have := HRL.out; simp at hq; omega))⟩
  · rw [hw.2.2]
    rw [hw.1] at HC
    by_cases h15 : 15 < c
    · have z1 : decide (15 < c) = true := decide_eq_true h15
      subst hh
      clear hw
      go_enter Tryd.func11, Tryd.ntmps11
      go_wp2_with fail
      rw [← HRR.out]
      refine (HC.out _).mono ?_; rintro e w1 ⟨rfl, hk1⟩
      have HB1 := Lib.hid (show w1.heap[R + 1]? = some (.cells (ansC ⟨0, 0⟩).toArray 27 (0, 0)) from hk1.heap H1.out (by simp))
      have c0 : w1.cell? ⟨R, 0, none⟩ = some (.int .u8 x.f) := cell_lit (hk1.heap H0.out (by simp)) 0 rfl
      have HK1 := Lib.hid (HK.out.trans hk1 (FSub.refl _ _))
      clear hk1
      go_wp2_with ((with_reducible refine wpList_putR12 (g := R + 1) (old := ⟨0, 0⟩) ⟨0, 0⟩ ?_ ?_ HB1.out ?_); exact rfl; exact rfl)
      intro W hW hkW
      have HW := Lib.hid hW; have HKW := Lib.hid hkW
      clear hW hkW
      go_wp2_with fail
      try simp only [Exit.inBlock, Exit.then]
      exact bodyPost_ret (results_ans rfl _ _ (R + 1) ⟨0, 0⟩ rfl HW.out) rfl ⟨rfl, HK1.out.trans HKW.out (fun q hq => .inr (by have := HRL.out; simp at hq; omega))⟩
    · have z1 : decide (15 < c) = false := decide_eq_false h15
      have z2 : decide (15 < h) = true := decide_eq_true (by omega)
      have HH := Lib.hid hh
      clear hw hh
      go_enter Tryd.func11, Tryd.ntmps11
      go_wp2_with fail
      rw [← HRR.out]
      refine (HC.out _).mono ?_; rintro e w1 ⟨rfl, hk1⟩
      have HB1 := Lib.hid (show w1.heap[R + 1]? = some (.cells (ansC ⟨0, 0⟩).toArray 27 (0, 0)) from hk1.heap H1.out (by simp))
      have c0 : w1.cell? ⟨R, 0, none⟩ = some (.int .u8 x.f) := cell_lit (hk1.heap H0.out (by simp)) 0 rfl
      have HK1 := Lib.hid (HK.out.trans hk1 (FSub.refl _ _))
      clear hk1
      go_wp2_with ((with_reducible refine wpList_putR12 (g := R + 1) (old := ⟨0, 0⟩) ⟨0, 0⟩ ?_ ?_ HB1.out ?_); exact rfl; exact rfl)
      intro W hW hkW
      have HW := Lib.hid hW; have HKW := Lib.hid hkW
      clear hW hkW
      go_wp2_with fail
      try simp only [Exit.inBlock, Exit.then]
      exact bodyPost_ret (results_ans rfl _ _ (R + 1) ⟨0, 0⟩ rfl HW.out) rfl ⟨(by rw [HH.out]; rfl), HK1.out.trans HKW.out (fun q hq => .inr (by have := HRL.out; simp at hq; omega))⟩
  · rw [hw.2.2.2.2.2]
    rw [hw.1] at HC
    have z1 : decide (15 < c) = false := decide_eq_false (by omega)
    have z2 : decide (15 < h) = false := decide_eq_false (by omega)
    have z3 : (x.f == 10) = true := by simpa using hw.2.2.2.1
    obtain rfl : h = -1 := by omega
    have HE := Lib.hid (show c + 1 - 1 = c from by omega)
    clear hw hh
    go_enter Tryd.func11, Tryd.ntmps11
    go_wp2_with fail
    rw [← HRR.out]
    refine (HC.out _).mono ?_; rintro e w1 ⟨rfl, hk1⟩
    have HB1 := Lib.hid (show w1.heap[R + 1]? = some (.cells (ansC ⟨0, 0⟩).toArray 27 (0, 0)) from hk1.heap H1.out (by simp))
    have c0 : w1.cell? ⟨R, 0, none⟩ = some (.int .u8 x.f) := cell_lit (hk1.heap H0.out (by simp)) 0 rfl
    have HK1 := Lib.hid (HK.out.trans hk1 (FSub.refl _ _))
    clear hk1
    go_wp2_with ((with_reducible refine wpList_putR12 (g := R + 1) (old := ⟨0, 0⟩) ⟨3, 0⟩ ?_ ?_ HB1.out ?_); exact rfl; exact rfl)
    intro W hW hkW
    have HW := Lib.hid hW; have HKW := Lib.hid hkW
    clear hW hkW
    go_wp2_with fail
    try simp only [Exit.inBlock, Exit.then]
    exact bodyPost_ret (results_ans rfl _ _ (R + 1) ⟨3, 0⟩ rfl HW.out) rfl ⟨(by show _ = Ending.returned (.tuple #[.int .i64 (c + 1 - 1), _, _]); rw [HE.out]; rfl), HK1.out.trans HKW.out (fun q hq => .inr (by have := HRL.out; simp at hq; omega))⟩
  · rw [hw.2.2.2.2.2]
    rw [hw.1] at HC
    have z1 : decide (15 < c) = false := decide_eq_false (by omega)
    have z2 : decide (15 < h) = false := decide_eq_false (by omega)
    have z3 : (x.f == 10) = true := by simpa using hw.2.2.2.1
    have z4 : (h == -1) = false := by simp; omega
    have z5 : (x.f == 11) = false := by simp; omega
    have HH := Lib.hid hh
    clear hw hh
    go_enter Tryd.func11, Tryd.ntmps11
    go_wp2_with fail
    rw [← HRR.out]
    refine (HC.out _).mono ?_; rintro e w1 ⟨rfl, hk1⟩
    have HB1 := Lib.hid (show w1.heap[R + 1]? = some (.cells (ansC ⟨0, 0⟩).toArray 27 (0, 0)) from hk1.heap H1.out (by simp))
    have c0 : w1.cell? ⟨R, 0, none⟩ = some (.int .u8 x.f) := cell_lit (hk1.heap H0.out (by simp)) 0 rfl
    have HK1 := Lib.hid (HK.out.trans hk1 (FSub.refl _ _))
    clear hk1
    go_wp2_with ((with_reducible refine wpList_putR12 (g := R + 1) (old := ⟨0, 0⟩) ⟨4, 0⟩ ?_ ?_ HB1.out ?_); exact rfl; exact rfl)
    intro W hW hkW
    have HW := Lib.hid hW; have HKW := Lib.hid hkW
    clear hW hkW
    go_wp2_with fail
    try simp only [Exit.inBlock, Exit.then]
    exact bodyPost_ret (results_ans rfl _ _ (R + 1) ⟨4, 0⟩ rfl HW.out) rfl ⟨(by rw [HH.out]; rfl), HK1.out.trans HKW.out (fun q hq => .inr (by have := HRL.out; simp at hq; omega))⟩
  · rw [hw.2.2.2.2.2]
    rw [hw.1] at HC
    have z1 : decide (15 < c) = false := decide_eq_false (by omega)
    have z2 : decide (15 < h) = false := decide_eq_false (by omega)
    have z3 : (x.f == 10) = false := by simp; omega
    have z5 : (x.f == 11) = true := by simp; omega
    obtain rfl : h = c := by omega
    have z6 : (h == h) = true := by simp
    clear hw hh
    go_enter Tryd.func11, Tryd.ntmps11
    go_wp2_with fail
    rw [← HRR.out]
    refine (HC.out _).mono ?_; rintro e w1 ⟨rfl, hk1⟩
    have HB1 := Lib.hid (show w1.heap[R + 1]? = some (.cells (ansC ⟨0, 0⟩).toArray 27 (0, 0)) from hk1.heap H1.out (by simp))
    have c0 : w1.cell? ⟨R, 0, none⟩ = some (.int .u8 x.f) := cell_lit (hk1.heap H0.out (by simp)) 0 rfl
    have HK1 := Lib.hid (HK.out.trans hk1 (FSub.refl _ _))
    clear hk1
    go_wp2_with ((with_reducible refine wpList_putR12 (g := R + 1) (old := ⟨0, 0⟩) ⟨3, 0⟩ ?_ ?_ HB1.out ?_); exact rfl; exact rfl)
    intro W hW hkW
    have HW := Lib.hid hW; have HKW := Lib.hid hkW
    clear hW hkW
    go_wp2_with fail
    try simp only [Exit.inBlock, Exit.then]
    exact bodyPost_ret (results_ans rfl _ _ (R + 1) ⟨3, 0⟩ rfl HW.out) rfl ⟨rfl, HK1.out.trans HKW.out (fun q hq => .inr (by have := HRL.out; simp at hq; omega))⟩
  · rw [hw.2.2.2.2.2]
    rw [hw.1] at HC
    have z1 : decide (15 < c) = false := decide_eq_false (by omega)
    have z2 : decide (15 < h) = false := decide_eq_false (by omega)
    have z3 : (x.f == 10) = false := by simp; omega
    have z5 : (x.f == 11) = true := by simp; omega
    have z6 : (h == c) = false := by simp; omega
    have HH := Lib.hid hh
    clear hw hh
    go_enter Tryd.func11, Tryd.ntmps11
    go_wp2_with fail
    rw [← HRR.out]
    refine (HC.out _).mono ?_; rintro e w1 ⟨rfl, hk1⟩
    have HB1 := Lib.hid (show w1.heap[R + 1]? = some (.cells (ansC ⟨0, 0⟩).toArray 27 (0, 0)) from hk1.heap H1.out (by simp))
    have c0 : w1.cell? ⟨R, 0, none⟩ = some (.int .u8 x.f) := cell_lit (hk1.heap H0.out (by simp)) 0 rfl
    have HK1 := Lib.hid (HK.out.trans hk1 (FSub.refl _ _))
    clear hk1
    go_wp2_with ((with_reducible refine wpList_putR12 (g := R + 1) (old := ⟨0, 0⟩) ⟨4, 0⟩ ?_ ?_ HB1.out ?_); exact rfl; exact rfl)
    intro W hW hkW
    have HW := Lib.hid hW; have HKW := Lib.hid hkW
    clear hW hkW
    go_wp2_with fail
    try simp only [Exit.inBlock, Exit.then]
    exact bodyPost_ret (results_ans rfl _ _ (R + 1) ⟨4, 0⟩ rfl HW.out) rfl ⟨(by rw [HH.out]; rfl), HK1.out.trans HKW.out (fun q hq => .inr (by have := HRL.out; simp at hq; omega))⟩
end Go.Proofs.YtbjhgdimciibcaaDoor
/-
  The program's lock: Run.
-/
namespace Go.Proofs.YtbjhgdimciibcaaDoor
open Go.RowKit
section
variable {ops : Array Oper} {rest : List Oper} {a : Act} {w : World} {Q : Exit → Act → World → Prop}
set_option maxRecDepth 100000 in
theorem wpList_loadP {dst : Option Tmp} {ty : TypeId} {pos : String} {after : Array Edge} {gd : Option (Nat × Bool)} {x : Operand} {g off : Nat} (y : Opn)
    (hw : Region.wanted { dst := dst, op := .load 24 x, type := ty, pos := pos, after := after, guard := gd } (yielded ops a.tmps) = true)
    (hx : a.eval x = .pointer (some ⟨g, off, none⟩)) (hr : w.rangeAt g off (opC y)) (h : wpList Tryd.prog ops Q rest (a.put dst (.agg #[.int .u8 y.f, .int .u8 y.o, .int .u8 y.k, .int .u16 y.a, .int .u16 y.b])) w) :
    wpList Tryd.prog ops Q ({ dst := dst, op := .load 24 x, type := ty, pos := pos, after := after, guard := gd } :: rest) a w :=
  wpList_step fun _ hK => by
    rw [if_pos hw]
    exact wp_load_mid 24 x rfl g off hx (opC y) _ hr Tryd.underlying24 rfl (by kernel_rfl) (hK _ _ h)
end
/-- The parts of a call that stands in memory. -/
theorem cl_parts {w : World} {g off : Nat} {y : Cl} (h : w.rangeAt g off (clC y)) : w.cell? ⟨g, off, none⟩ = some (.int .u8 y.c) ∧ w.rangeAt g (off + 1) (opC y.x) := by
  refine ⟨h 0 _ rfl, fun j v hv => ?_⟩
  have := h (j + 1) v (by simpa [clC, opC] using hv)
  rw [show off + 1 + j = off + (j + 1) by omega]
  exact this
theorem cl_block {w : World} {g : Nat} {y : Cl} {t : TypeId} (h : w.heap[g]? = some (.cells (clC y).toArray t (0, 0))) : w.rangeAt g 0 (clC y) := fun j v hv => by
  rw [Nat.zero_add]
  exact cell_lit h j (by simpa using hv)
/-- A new block, then stores into it. -/
theorem Keeps.trans' {a b c : World} {g : Nat} (h : Keeps [] a b) (k : Keeps [g] b c) (hg : a.heap.size ≤ g) : Keeps [] a c := h.trans k (fun q hq => .inr (by simp at hq; omega))
set_option maxHeartbeats 8000000
set_option maxRecDepth 100000
end Go.Proofs.YtbjhgdimciibcaaDoor
/-
  Stage 12's law: acquire, release, steps, works.
-/
namespace Go.Proofs.YtbjhgdimciibcaaDoor
open Go.RowKit
theorem results_cl {fn : Func} {p : Tmp} (h : fn.results = #[.cell p 49]) (tmps : Array Value) (w : World) (b : Nat) (y : Cl) {t : TypeId}
    (hp : tmps.getD p undef = .pointer (some ⟨b, 0, none⟩)) (hb : w.heap[b]? = some (.cells (clC y).toArray t (0, 0))) : (results fn tmps).run Tryd.prog w = .ok (.agg (clC y).toArray) w :=
  results_cell_row (P := Tryd.prog) h _ _ _ _ _ _ _ hp hb Tryd.underlying49 rfl (by kernel_rfl)
set_option maxHeartbeats 8000000
set_option maxRecDepth 100000
theorem acq12_any (w : World) (c : Int) : Calls Tryd.prog 20 #[.int .u8 c] w fun e w' => e = .returned (.agg (clC ⟨c, ⟨10, 0, 0, 0, 0⟩⟩).toArray) ∧ Keeps [] w w' := by
  have h := heap_alloc_new w (.cells (clC ⟨c, ⟨10, 0, 0, 0, 0⟩⟩).toArray 49)
  have HN := Lib.hid h
  have HK := Lib.hid (show Keeps [] w (w.alloc (.cells (clC ⟨c, ⟨10, 0, 0, 0, 0⟩⟩).toArray 49)) from (Keeps.refl _ _).alloc _)
  clear h
  go_enter Tryd.func20, Tryd.ntmps20
  go_wp2_with fail
  try simp only [Exit.inBlock, Exit.then]
  exact bodyPost_ret (results_cl rfl _ _ w.heap.size ⟨c, ⟨10, 0, 0, 0, 0⟩⟩ rfl HN.out) rfl ⟨rfl, HK.out⟩
theorem rel12_any (w : World) (c : Int) : Calls Tryd.prog 21 #[.int .u8 c] w fun e w' => e = .returned (.agg (clC ⟨c, ⟨11, 0, 0, 0, 0⟩⟩).toArray) ∧ Keeps [] w w' := by
  have h := heap_alloc_new w (.cells (clC ⟨c, ⟨11, 0, 0, 0, 0⟩⟩).toArray 49)
  have HN := Lib.hid h
  have HK := Lib.hid (show Keeps [] w (w.alloc (.cells (clC ⟨c, ⟨11, 0, 0, 0, 0⟩⟩).toArray 49)) from (Keeps.refl _ _).alloc _)
  clear h
  go_enter Tryd.func21, Tryd.ntmps21
  go_wp2_with fail
  try simp only [Exit.inBlock, Exit.then]
  exact bodyPost_ret (results_cl rfl _ _ w.heap.size ⟨c, ⟨11, 0, 0, 0, 0⟩⟩ rfl HN.out) rfl ⟨rfl, HK.out⟩
theorem steps12_any (w : World) (hG : Glob4 w) {s : Int} (hs : 0 ≤ s ∧ s < 256) {y : Cl} (hy : y.In) {u k : Int} (hX : lkX s y.c y.x = (u, ⟨k, 0⟩, 0)) :
    Calls Tryd.prog 22 #[.int .u8 s, .agg (clC y).toArray, .int .u8 u, .int .u8 k] w fun e w' => e = .returned (.bool true) ∧ Keeps [] w w' := by
  have HB := Lib.hid (heap_alloc_new w (.cells (clC y).toArray 49))
  have HK0 := Lib.hid (show Keeps [] w (w.alloc (.cells (clC y).toArray 49)) from (Keeps.refl _ _).alloc _)
  have hst := fun w hG => lkStep_any w hG y.x hs ⟨hy.c0, hy.c1⟩ hy.x
  rw [hX] at hst
  have HST := Lib.hid hst
  have HGL := Lib.hid (hG.new HK0.out)
  have t1 : (u == u) = true := by simp
  have t2 : (k == k) = true := by simp
  clear hst hs hy hX hG
  have c0 : (w.alloc (.cells (clC y).toArray 49)).cell? ⟨w.heap.size, 0, none⟩ = some (.int .u8 y.c) := (cl_parts (cl_block HB.out)).1
  have HRO := Lib.hid (cl_parts (cl_block HB.out)).2
  go_enter Tryd.func22, Tryd.ntmps22
  go_wp2_with ((with_reducible refine wpList_loadP (g := w.heap.size) (off := 1) y.x ?_ ?_ HRO.out ?_); exact rfl; exact rfl)
  refine (show Calls Tryd.prog 10 #[.int .u8 s, .int .u8 y.c, y.x.val] _ _ from HST.out _ HGL.out).mono ?_
  rintro e w2 ⟨rfl, hk2⟩
  have HK2 := Lib.hid (HK0.out.trans hk2 (FSub.refl _ _))
  clear c0 hk2 HRO HB HK0 HGL
  have HC2 := Lib.hid (show (w2.alloc (.cells #[.int .u8 0, .int .u16 0] 27)).heap[w2.heap.size]? = some (.cells (ansC ⟨0, 0⟩).toArray 27 (0, 0)) from heap_alloc_new w2 _)
  have HKA2 := Lib.hid (show Keeps [] w2 (w2.alloc (.cells #[.int .u8 0, .int .u16 0] 27)) from (Keeps.refl _ _).alloc _)
  go_wp2_with ((with_reducible refine wpList_putR12 (g := w2.heap.size) (old := ⟨0, 0⟩) ⟨k, 0⟩ ?_ ?_ HC2.out ?_); exact rfl; exact rfl)
  intro w3 hW3 hk3
  have HK3 := Lib.hid (HK2.out.trans (HKA2.out.trans' hk3 (by simp)) (FSub.refl _ _))
  clear hk3 HC2 HKA2 HK2
  generalize w2.heap.size = gr at *
  have d0 : w3.cell? ⟨gr, 0, none⟩ = some (.int .u8 k) := cell_lit hW3 0 rfl
  have d1 : w3.cell? ⟨gr, 1, none⟩ = some (.int .u16 0) := cell_lit hW3 1 rfl
  clear hW3
  go_wp2_with fail
  go_ret
  exact ⟨rfl, HK3.out⟩
theorem cl_in {c f : Int} (h0 : 0 ≤ c) (h1 : c < 256) (h2 : 0 ≤ f) (h3 : f < 256) : Cl.In ⟨c, ⟨f, 0, 0, 0, 0⟩⟩ := ⟨h0, h1, ⟨h2, h3, by simp, by simp, by simp, by simp, by simp, by simp, by simp, by simp⟩⟩
theorem works12_any (w : World) (hG : Glob4 w) : Calls Tryd.prog 17 #[] w fun e w' => e = .returned (.bool true) ∧ Keeps [] w w' := by
  have HG := Lib.hid (fun w' (h : Keeps [] w w') => hG.new h)
  clear hG
  go_enter Tryd.func17, Tryd.ntmps17
  go_wp2_with fail
  refine (lkNew_any w).mono ?_; rintro e w1 ⟨rfl, rfl⟩
  go_wp2_with fail
  refine (acq12_any _ 0).mono ?_; rintro e w2 ⟨rfl, hk2⟩
  have HK2 := Lib.hid hk2; clear hk2
  go_wp2_with fail
  refine (steps12_any w2 (HG.out _ HK2.out) (by decide) (cl_in (by decide) (by decide) (by decide) (by decide)) rfl).mono ?_; rintro e w3 ⟨rfl, hk3⟩
  have HK3 := Lib.hid (HK2.out.trans hk3 (FSub.refl _ _)); clear hk3 HK2
  go_wp2_with fail
  refine (acq12_any _ 1).mono ?_; rintro e w4 ⟨rfl, hk4⟩
  have HK4 := Lib.hid (HK3.out.trans hk4 (FSub.refl _ _)); clear hk4 HK3
  go_wp2_with fail
  refine (steps12_any w4 (HG.out _ HK4.out) (by decide) (cl_in (by decide) (by decide) (by decide) (by decide)) rfl).mono ?_; rintro e w5 ⟨rfl, hk5⟩
  have HK5 := Lib.hid (HK4.out.trans hk5 (FSub.refl _ _)); clear hk5 HK4
  go_wp2_with fail
  refine (rel12_any _ 1).mono ?_; rintro e w6 ⟨rfl, hk6⟩
  have HK6 := Lib.hid (HK5.out.trans hk6 (FSub.refl _ _)); clear hk6 HK5
  go_wp2_with fail
  refine (steps12_any w6 (HG.out _ HK6.out) (by decide) (cl_in (by decide) (by decide) (by decide) (by decide)) rfl).mono ?_; rintro e w7 ⟨rfl, hk7⟩
  have HK7 := Lib.hid (HK6.out.trans hk7 (FSub.refl _ _)); clear hk7 HK6
  go_wp2_with fail
  refine (rel12_any _ 0).mono ?_; rintro e w8 ⟨rfl, hk8⟩
  have HK8 := Lib.hid (HK7.out.trans hk8 (FSub.refl _ _)); clear hk8 HK7
  go_wp2_with fail
  refine (lkNew_any w8).mono ?_; rintro e w9 ⟨rfl, rfl⟩
  go_wp2_with fail
  refine (steps12_any w9 (HG.out _ HK8.out) (by decide) (cl_in (by decide) (by decide) (by decide) (by decide)) rfl).mono ?_; rintro e w10 ⟨rfl, hk10⟩
  have HK10 := Lib.hid (HK8.out.trans hk10 (FSub.refl _ _)); clear hk10 HK8
  go_wp2_with fail
  go_ret
  exact ⟨rfl, HK10.out⟩
end Go.Proofs.YtbjhgdimciibcaaDoor
/-
  LockTexts' and LockBack's walks.
-/
namespace Go.Proofs.YtbjhgdimciibcaaDoor
open Go.RowKit
theorem lkD_in (b : List UInt8) : 0 ≤ (lkD b).1 ∧ (lkD b).1 ≤ 16 := by
  match b with
  | [] => decide
  | [x] =>
    rw [lkD_one]
    split
    · exact ⟨by simp, by assumption⟩
    · decide
  | _ :: _ :: _ =>
    show (0 : Int) ≤ 0 ∧ (0 : Int) ≤ 16
    decide
set_option maxHeartbeats 8000000
set_option maxRecDepth 100000
end Go.Proofs.YtbjhgdimciibcaaDoor
/-
  LockSays' and LockSteps' walks; the condition of a drawn region made stronger on the way.
-/
namespace Go.Proofs.YtbjhgdimciibcaaDoor
open Go.RowKit
/-- On the way through a region that draws its order the condition on worlds may be made stronger. -/
theorem wpAnyH_strong {P : Program} {md : Region.Mode} {ops : Array Oper} {Q : Exit → Act → World → Prop} {S S' : World → Prop} (hS : ∀ w, S' w → S w) : ∀ (fuel : Nat) (listed : Array Bool) (a : Act) (w : World), wpAnyH P md ops Q S' fuel listed a w → wpAnyH P md ops Q S fuel listed a w
  | 0, _, _, _, h => h
  | fuel + 1, _, _, _, h => ⟨h.1, fun i hi => wpOp_mono (fun a' w' h' => ⟨hS w' h'.1, wpAnyH_strong hS fuel _ a' w' h'.2⟩) (h.2 i hi)⟩
theorem conv_at {w : World} {s : Int} (h0 : 0 ≤ s) (h1 : s < 256) {g : Nat} (hg : w.cell? ⟨g, 0, none⟩ = some (.int .u8 s)) : (convert 40 9 (.slice (some ⟨g, 0, none⟩) 1 1)).run Tryd.prog w = .ok (.string (bs (lkB s))) w := by
  rw [← str_nb (lkB s)]
  have := run_convert_bytes_arg w 40 5 Tryd.underlying40 Tryd.underlying5 g 0 1 1 (nb (lkB s)) (by rw [nb_lkB h0 h1]; rfl) (fun i hi => by
    obtain rfl : i = 0 := by omega
    rw [nb_lkB h0 h1]
    exact hg) 9 Tryd.underlying9
  exact this
theorem yields_conv1 {ops : Array Oper} {S : World → Prop} {o : Oper} {a : Act} (hw : Region.wanted o (yielded ops a.tmps) = true) (x : Operand) (ho : o.op = .convert 40 9 x) {s : Int} (h0 : 0 ≤ s) (h1 : s < 256) (g : Nat)
    (hx : a.eval x = .slice (some ⟨g, 0, none⟩) 1 1) (hS : ∀ w, S w → w.cell? ⟨g, 0, none⟩ = some (.int .u8 s)) : YieldsIf Tryd.prog ops S o (.string (bs (lkB s))) a :=
  .inl ⟨hw, fun w hw' => by
    have h := conv_at h0 h1 (hS w hw')
    unfold execOp
    simp [ho, hx, h, Result.andThen]⟩
set_option maxHeartbeats 8000000
set_option maxRecDepth 100000
end Go.Proofs.YtbjhgdimciibcaaDoor
/-
  LockSteps' walk.
-/
namespace Go.Proofs.YtbjhgdimciibcaaDoor
open Go.RowKit
set_option maxHeartbeats 8000000
set_option maxRecDepth 100000
theorem LockSteps_any (w : World) (hG : Glob4 w) {s c : Int} (x : Opn) (hs : 0 ≤ s ∧ s < 256) (hc : 0 ≤ c ∧ c < 256) (hx : x.In) : Calls Tryd.prog 3 #[.int .u8 s, .int .u8 c, x.val] w fun e w' => e = .returned (.bool true) ∧ Keeps [] w w' := by
  have HW := Lib.hid (fun w' (h : Keeps [] w w') => works12_any w' (hG.new h))
  have HG := Lib.hid (fun w' (h : Keeps [] w w') => hG.new h)
  have HKB := Lib.hid (show Keeps [] w (w.alloc (.cells #[.int .u8 x.f, .int .u8 x.o, .int .u8 x.k, .int .u16 x.a, .int .u16 x.b] 24)) from (Keeps.refl _ _).alloc _)
  have hxb := heap_alloc_new w (.cells #[.int .u8 x.f, .int .u8 x.o, .int .u8 x.k, .int .u16 x.a, .int .u16 x.b] 24)
  obtain ⟨R, hR⟩ : ∃ R, R = w.heap.size := ⟨_, rfl⟩
  rw [← hR] at hxb
  have HRR := Lib.hid hR
  have HXB := Lib.hid hxb
  have HS := Lib.hid (fun w hG => lkStep_any w hG x hs hc hx)
  have HR12 := Lib.hid (fun w => r12Step_any w (h := s - 1) x rfl hs hc hx)
  have HH := Lib.hid (fun w => lkHolder_any w s hs.1 hs.2)
  have HE := Lib.hid (fun w => lkEncode_any w s hs.1 hs.2)
  have HD := Lib.hid (fun w => lkDecode_any w (lkB s))
  have HRD := Lib.hid (fun w => r12Decode_any w (lkB s))
  have HS0 := Lib.hid hs
  have hd := lkD_in (lkB s)
  have hu := lkX_in (x := x) hs hc
  have w1 : IntKind.i64.wrap s = s := by simp [IntKind.wrap, IntKind.signed, IntKind.bits]; omega
  have w2 : IntKind.i64.wrap (s - 1) = s - 1 := by simp [IntKind.wrap, IntKind.signed, IntKind.bits]; omega
  generalize lkD (lkB s) = D at *
  obtain ⟨d, er⟩ := D
  generalize lkX s c x = X at *
  obtain ⟨u, ⟨rk, rv⟩, e0⟩ := X
  simp only at hd hu
  have w3 : IntKind.i64.wrap u = u := by simp [IntKind.wrap, IntKind.signed, IntKind.bits]; omega
  have w4 : IntKind.i64.wrap (u - 1) = u - 1 := by simp [IntKind.wrap, IntKind.signed, IntKind.bits]; omega
  have w5 : IntKind.i64.wrap d = d := by simp [IntKind.wrap, IntKind.signed, IntKind.bits]; omega
  have w6 : IntKind.i64.wrap (d - 1) = d - 1 := by simp [IntKind.wrap, IntKind.signed, IntKind.bits]; omega
  have t1 : (u - 1 != u - 1) = false := by simp
  have t2 : (rk == rk) = true := by simp
  have t3 : (rv == rv) = true := by simp
  have t4 : (e0 != e0) = false := by simp
  have t5 : (d - 1 == d - 1) = true := by simp
  have t6 : (er == er) = true := by simp
  have t7 : (s - 1 != s - 1) = false := by simp
  have t8 : ((bs (lkB s)).toList == (bs (lkB s)).toList) = true := by simp
  clear hG hx hd hu hxb hR
  unfold Opn.val at HS HR12 ⊢
  by_cases h0 : s = 0
  · have e1 : lkWho s = 0 := if_neg (by omega)
    have e2 : lkHeld s = false := decide_eq_false (by omega)
    rw [e1, e2] at HH
    have z1 : decide (1 ≤ s) = false := decide_eq_false (by omega)
    clear e1 e2 hs hc h0
    go_enter Tryd.func3, Tryd.ntmps3
    go_wp2_with fail
    refine (HS.out _ (HG.out _ HKB.out)).mono ?_; rintro e w2 ⟨rfl, hk2⟩
    have HK2 := Lib.hid (HKB.out.trans hk2 (FSub.refl _ _))
    have HX2 := Lib.hid (hk2.heap HXB.out (by simp))
    clear hk2 HKB HXB
    have HC2 := Lib.hid (show (w2.alloc (.cells #[.int .u8 0, .int .u16 0] 27)).heap[w2.heap.size]? = some (.cells (ansC ⟨0, 0⟩).toArray 27 (0, 0)) from heap_alloc_new w2 _)
    have HKA2 := Lib.hid (show Keeps [] w2 (w2.alloc (.cells #[.int .u8 0, .int .u16 0] 27)) from (Keeps.refl _ _).alloc _)
    go_wp2_with ((with_reducible refine wpList_putR12 (g := w2.heap.size) (old := ⟨0, 0⟩) ⟨rk, rv⟩ ?_ ?_ HC2.out ?_); exact rfl; exact rfl)
    intro w3 hW3 hk3
    have hk23 := HKA2.out.trans' hk3 (by simp)
    have HK3 := Lib.hid (HK2.out.trans hk23 (FSub.refl _ _))
    have HX3 := Lib.hid (hk23.heap HX2.out (by simp))
    have HR3 := Lib.hid hW3
    clear hk3 hk23 HC2 HKA2 HK2 HX2 hW3
    generalize w2.heap.size = g1 at *
    rw [← HRR.out]
    have HRO := Lib.hid (show w3.rangeAt R 0 (opC x) from fun j v hv => by rw [Nat.zero_add]; exact cell_lit HX3.out j (by simpa [opC] using hv))
    go_wp2_with ((with_reducible refine wpList_loadP (g := R) (off := 0) x ?_ ?_ HRO.out ?_); exact rfl; exact rfl)
    refine (HR12.out w3).mono ?_; rintro e w4 ⟨rfl, hk4⟩
    have HK4 := Lib.hid (HK3.out.trans hk4 (FSub.refl _ _))
    have HX4 := Lib.hid (hk4.heap HX3.out (by simp))
    have HR4 := Lib.hid (hk4.heap HR3.out (by simp))
    clear hk4 HK3 HX3 HR3 HRO
    have HC4 := Lib.hid (show (w4.alloc (.cells #[.int .u8 0, .int .u16 0] 27)).heap[w4.heap.size]? = some (.cells (ansC ⟨0, 0⟩).toArray 27 (0, 0)) from heap_alloc_new w4 _)
    have HKA4 := Lib.hid (show Keeps [] w4 (w4.alloc (.cells #[.int .u8 0, .int .u16 0] 27)) from (Keeps.refl _ _).alloc _)
    go_wp2_with ((with_reducible refine wpList_putR12 (g := w4.heap.size) (old := ⟨0, 0⟩) ⟨rk, rv⟩ ?_ ?_ HC4.out ?_); exact rfl; exact rfl)
    intro w5 hW5 hk5
    have hk45 := HKA4.out.trans' hk5 (by simp)
    have HK5 := Lib.hid (HK4.out.trans hk45 (FSub.refl _ _))
    have HX5 := Lib.hid (hk45.heap HX4.out (by simp))
    have HR5 := Lib.hid (hk45.heap HR4.out (by simp))
    have HQ5 := Lib.hid hW5
    clear hk5 hk45 HC4 HKA4 HK4 HX4 HR4 hW5
    generalize w4.heap.size = g2 at *
    go_wp2_with fail
    refine (HH.out w5).mono ?_; rintro e w6 ⟨rfl, rfl⟩
    go_wp2_with fail
    refine (HE.out w6).mono ?_; rintro e w7 ⟨rfl, hk7⟩
    have HK7 := Lib.hid (HK5.out.trans hk7 (FSub.refl _ _))
    have HX7 := Lib.hid (hk7.heap HX5.out (by simp))
    have HR7 := Lib.hid (hk7.heap HR5.out (by simp))
    have HQ7 := Lib.hid (hk7.heap HQ5.out (by simp))
    clear hk7 HK5 HX5 HR5 HQ5
    go_wp2_with fail
    refine (HD.out w7).mono ?_; rintro e w8 ⟨rfl, rfl⟩
    have hcv := conv_one w8 HS0.out.1 HS0.out.2
    go_wp2_with fail
    refine (HRD.out _).mono ?_; rintro e w9 ⟨rfl, rfl⟩
    have hka : Keeps [] w8 (w8.alloc (.cells #[.int .u8 s] 5)) := (Keeps.refl _ _).alloc _
    have HK9 := Lib.hid (HK7.out.trans hka (FSub.refl _ _))
    have HX9 := Lib.hid (hka.heap HX7.out (by simp))
    have HR9 := Lib.hid (hka.heap HR7.out (by simp))
    have HQ9 := Lib.hid (hka.heap HQ7.out (by simp))
    clear hka hcv HK7 HX7 HR7 HQ7
    generalize w8.alloc (.cells #[.int .u8 s] 5) = w10 at *
    have d0 : w10.cell? ⟨g1, 0, none⟩ = some (.int .u8 rk) := cell_lit HR9.out 0 rfl
    have d1 : w10.cell? ⟨g1, 1, none⟩ = some (.int .u16 rv) := cell_lit HR9.out 1 rfl
    have d2 : w10.cell? ⟨g2, 0, none⟩ = some (.int .u8 rk) := cell_lit HQ9.out 0 rfl
    have d3 : w10.cell? ⟨g2, 1, none⟩ = some (.int .u16 rv) := cell_lit HQ9.out 1 rfl
    go_wp2_with fail
    clear d0 d1 d2 d3 HR9 HQ9
    have HXC := Lib.hid (show w10.cell? ⟨R, 0, none⟩ = some (.int .u8 x.f) from cell_lit HX9.out 0 rfl)
    clear HX9
    obtain ⟨S, hS⟩ : ∃ S : World → Prop, S = fun y => Keeps [] w10 y := ⟨_, rfl⟩
    have HSE := Lib.hid hS
    have hSD : S w10.drew := by rw [hS]; exact (Keeps.refl _ _).drew
    clear hS
    refine wp_region_noPanic ?_
    refine wp_region_held_drew (S := S) (by kernel_rfl) hSD (fun hHeld => ?_)
    apply wpAnyH_take (i := 0)
    · simp only [List.getElem?_toArray]; rfl
    · kernel_rfl
    · kernel_rfl
    · kernel_rfl
    · exact fun _ _ _ h => h
    · exact Or.inl ⟨by rfl, by intro w hSw; go_simp; try with_reducible rfl⟩
    · assumption
    try simp only [Act.put, List.setIfInBounds_toArray, List.set_cons_zero, List.set_cons_succ]
    apply wpAnyH_take (i := 1)
    · simp only [List.getElem?_toArray]; rfl
    · kernel_rfl
    · kernel_rfl
    · kernel_rfl
    · exact fun _ _ _ h => h
    · exact Or.inl ⟨by rfl, by intro w hSw; go_simp; try with_reducible rfl⟩
    · assumption
    try simp only [Act.put, List.setIfInBounds_toArray, List.set_cons_zero, List.set_cons_succ]
    apply wpAnyH_take (i := 2)
    · simp only [List.getElem?_toArray]; rfl
    · kernel_rfl
    · kernel_rfl
    · kernel_rfl
    · exact fun _ _ _ h => h
    · exact Or.inl ⟨by rfl, by intro w hSw; go_simp; try with_reducible rfl⟩
    · assumption
    try simp only [Act.put, List.setIfInBounds_toArray, List.set_cons_zero, List.set_cons_succ]
    apply wpAnyH_take (i := 3)
    · simp only [List.getElem?_toArray]; rfl
    · kernel_rfl
    · kernel_rfl
    · kernel_rfl
    · exact fun _ _ _ h => h
    · exact Or.inl ⟨by rfl, by intro w hSw; go_simp; try with_reducible rfl⟩
    · assumption
    try simp only [Act.put, List.setIfInBounds_toArray, List.set_cons_zero, List.set_cons_succ]
    apply wpAnyH_take (i := 4)
    · simp only [List.getElem?_toArray]; rfl
    · kernel_rfl
    · kernel_rfl
    · kernel_rfl
    · exact fun _ _ _ h => h
    · exact Or.inl ⟨by rfl, by intro w hSw; go_simp; try with_reducible rfl⟩
    · assumption
    try simp only [Act.put, List.setIfInBounds_toArray, List.set_cons_zero, List.set_cons_succ]
    apply wpAnyH_take (i := 5)
    · simp only [List.getElem?_toArray]; rfl
    · kernel_rfl
    · kernel_rfl
    · kernel_rfl
    · exact fun _ _ _ h => h
    · exact Or.inl ⟨by rfl, by intro w hSw; go_simp; try with_reducible rfl⟩
    · assumption
    try simp only [Act.put, List.setIfInBounds_toArray, List.set_cons_zero, List.set_cons_succ]
    apply wpAnyH_take (i := 6)
    · simp only [List.getElem?_toArray]; rfl
    · kernel_rfl
    · kernel_rfl
    · kernel_rfl
    · exact fun _ _ _ h => h
    · exact Or.inl ⟨by rfl, by intro w hSw; go_simp; try with_reducible rfl⟩
    · assumption
    try simp only [Act.put, List.setIfInBounds_toArray, List.set_cons_zero, List.set_cons_succ]
    apply wpAnyH_take (i := 7)
    · simp only [List.getElem?_toArray]; rfl
    · kernel_rfl
    · kernel_rfl
    · kernel_rfl
    · exact fun _ _ _ h => h
    · exact Or.inl ⟨by rfl, by intro w hSw; go_simp; try with_reducible rfl⟩
    · assumption
    try simp only [Act.put, List.setIfInBounds_toArray, List.set_cons_zero, List.set_cons_succ]
    apply wpAnyH_take (i := 8)
    · simp only [List.getElem?_toArray]; rfl
    · kernel_rfl
    · kernel_rfl
    · kernel_rfl
    · exact fun _ _ _ h => h
    · exact Or.inl ⟨by rfl, by intro w hSw; go_simp; try with_reducible rfl⟩
    · assumption
    try simp only [Act.put, List.setIfInBounds_toArray, List.set_cons_zero, List.set_cons_succ]
    apply wpAnyH_take (i := 9)
    · simp only [List.getElem?_toArray]; rfl
    · kernel_rfl
    · kernel_rfl
    · kernel_rfl
    · exact fun _ _ _ h => h
    · exact Or.inl ⟨by rfl, by intro w hSw; go_simp; try with_reducible rfl⟩
    · assumption
    try simp only [Act.put, List.setIfInBounds_toArray, List.set_cons_zero, List.set_cons_succ]
    apply wpAnyH_take (i := 10)
    · simp only [List.getElem?_toArray]; rfl
    · kernel_rfl
    · kernel_rfl
    · kernel_rfl
    · exact fun _ _ _ h => h
    · exact Or.inl ⟨by rfl, by intro w hSw; go_simp; try with_reducible rfl⟩
    · assumption
    try simp only [Act.put, List.setIfInBounds_toArray, List.set_cons_zero, List.set_cons_succ]
    apply wpAnyH_take (i := 11)
    · simp only [List.getElem?_toArray]; rfl
    · kernel_rfl
    · kernel_rfl
    · kernel_rfl
    · exact fun _ _ _ h => h
    · exact Or.inl ⟨by rfl, by intro w hSw; go_simp; try with_reducible rfl⟩
    · assumption
    try simp only [Act.put, List.setIfInBounds_toArray, List.set_cons_zero, List.set_cons_succ]
    apply wpAnyH_take (i := 13)
    · simp only [List.getElem?_toArray]; rfl
    · kernel_rfl
    · kernel_rfl
    · kernel_rfl
    · exact fun _ _ _ h => h
    · exact Or.inl ⟨by rfl, by intro w hSw; go_simp; try with_reducible rfl⟩
    · assumption
    try simp only [Act.put, List.setIfInBounds_toArray, List.set_cons_zero, List.set_cons_succ]
    apply wpAnyH_ready (rs := [12, 14])
    · kernel_rfl
    · simp
    apply AllReadyH.cons
    · simp only [List.getElem?_toArray]; rfl
    · intro K hK
      rw [if_pos (by rfl)]
      refine wp_call9 14 _ _ rfl [.int .u8 s] rfl Tryd.func14 (by kernel_rfl) (by kernel_rfl) ((HE.out _).mono ?_)
      rintro e y1 ⟨rfl, hk1⟩
      refine ⟨_, rfl, ?_⟩
      have HY1 := Lib.hid (((Keeps.refl [] w10).drew).trans hk1 (FSub.refl _ _))
      clear hk1
      refine hK.out _ _ ?_ (fun hHeld => ?_)
      · exact (by rw [HSE.out]; exact HY1.out)
      clear hK K
      try simp only [Act.put, List.setIfInBounds_toArray, List.set_cons_zero, List.set_cons_succ]
      apply wpAnyH_ready (rs := [14])
      · kernel_rfl
      · simp
      apply AllReadyH.cons (hs := AllReadyH.nil)
      · simp only [List.getElem?_toArray]; rfl
      intro K hK
      rw [if_pos (by rfl)]
      go_wp2_with fail
      refine hK.out _ _ ?_ (fun hHeld => ?_)
      · exact (by rw [HSE.out]; exact HY1.out.alloc _)
      clear hK K
      try simp only [Act.put, List.setIfInBounds_toArray, List.set_cons_zero, List.set_cons_succ]
      have HY2 := Lib.hid (show Keeps [] w10 (y1.alloc (.cells #[.int .u8 s] 5)) from HY1.out.alloc _)
      have hcell : (y1.alloc (.cells #[.int .u8 s] 5)).cell? ⟨y1.heap.size, 0, none⟩ = some (.int .u8 s) := cell_lit (heap_alloc_new y1 _) 0 rfl
      have HCL := Lib.hid hcell
      clear hcell
      generalize y1.alloc (.cells #[.int .u8 s] 5) = y2 at *
      obtain ⟨S2, hS2⟩ : ∃ S2 : World → Prop, S2 = fun y => Keeps [] y2 y := ⟨_, rfl⟩
      have HSE2 := Lib.hid hS2
      have hHeld2 : S2 y2 := by rw [hS2]; exact Keeps.refl _ _
      have HS3 := Lib.hid (fun (w' : World) (hh : S2 w') => show w'.cell? ⟨R, 0, none⟩ = some (.int .u8 x.f) from by rw [hS2] at hh; exact (HY2.out.trans hh (FSub.refl _ _)).cell HXC.out (by simp))
      have HS4 := Lib.hid (fun (w' : World) (hh : S2 w') => show w'.cell? ⟨_, 0, none⟩ = some (.int .u8 s) from by rw [hS2] at hh; exact hh.cell HCL.out (by simp))
      clear hS2
      refine wpAnyH_strong (S' := S2) (fun y hy => by rw [HSE2.out] at hy; rw [HSE.out]; exact HY2.out.trans hy (FSub.refl _ _)) _ _ _ _ ?_
      apply wpAnyH_take (i := 15)
      · simp only [List.getElem?_toArray]; rfl
      · kernel_rfl
      · kernel_rfl
      · kernel_rfl
      · exact fun _ _ _ h => h
      · exact yields_conv1 rfl _ rfl HS0.out.1 HS0.out.2 _ rfl HS4.out
      · assumption
      try simp only [Act.put, List.setIfInBounds_toArray, List.set_cons_zero, List.set_cons_succ]
      apply wpAnyH_take (i := 16)
      · simp only [List.getElem?_toArray]; rfl
      · kernel_rfl
      · kernel_rfl
      · kernel_rfl
      · exact fun _ _ _ h => h
      · exact Or.inl ⟨by rfl, by intro w hSw; go_simp; try with_reducible rfl⟩
      · assumption
      try simp only [Act.put, List.setIfInBounds_toArray, List.set_cons_zero, List.set_cons_succ]
      apply wpAnyH_take (i := 17)
      · simp only [List.getElem?_toArray]; rfl
      · kernel_rfl
      · kernel_rfl
      · kernel_rfl
      · exact fun _ _ _ h => h
      · exact Or.inl ⟨by rfl, by intro w hSw; go_simp; try with_reducible rfl⟩
      · assumption
      try simp only [Act.put, List.setIfInBounds_toArray, List.set_cons_zero, List.set_cons_succ]
      apply wpAnyH_take (i := 18)
      · simp only [List.getElem?_toArray]; rfl
      · kernel_rfl
      · kernel_rfl
      · kernel_rfl
      · exact fun _ _ _ h => h
      · exact Or.inl ⟨by rfl, by intro w hSw; go_simp; try with_reducible rfl⟩
      · assumption
      try simp only [Act.put, List.setIfInBounds_toArray, List.set_cons_zero, List.set_cons_succ]
      apply wpAnyH_take (i := 19)
      · simp only [List.getElem?_toArray]; rfl
      · kernel_rfl
      · kernel_rfl
      · kernel_rfl
      · exact fun _ _ _ h => h
      · exact Or.inl ⟨by rfl, by intro w hSw; go_simp; try with_reducible rfl⟩
      · assumption
      try simp only [Act.put, List.setIfInBounds_toArray, List.set_cons_zero, List.set_cons_succ]
      apply wpAnyH_take (i := 20)
      · simp only [List.getElem?_toArray]; rfl
      · kernel_rfl
      · kernel_rfl
      · kernel_rfl
      · exact fun _ _ _ h => h
      · exact Or.inl ⟨by rfl, by intro w hSw; have q0 := HS3.out w hSw; go_simp; try with_reducible rfl⟩
      · assumption
      try simp only [Act.put, List.setIfInBounds_toArray, List.set_cons_zero, List.set_cons_succ]
      apply wpAnyH_ready (rs := [21])
      · kernel_rfl
      · simp
      apply AllReadyH.cons (hs := AllReadyH.nil)
      · simp only [List.getElem?_toArray]; rfl
      intro K hK
      rw [if_pos (by rfl)]
      refine wp_call9 16 _ _ rfl [.int .u8 x.f] rfl Tryd.func16 (by kernel_rfl) (by kernel_rfl) ((lkIdle_any _ x.f).mono ?_)
      rintro e y5 ⟨rfl, rfl⟩
      refine ⟨_, rfl, ?_⟩
      refine hK.out _ _ ?_ (fun hHeld => ?_)
      · exact hHeld2
      clear hK K
      try simp only [Act.put, List.setIfInBounds_toArray, List.set_cons_zero, List.set_cons_succ]
      apply wpAnyH_take (i := 22)
      · simp only [List.getElem?_toArray]; rfl
      · kernel_rfl
      · kernel_rfl
      · kernel_rfl
      · exact fun _ _ _ h => h
      · exact Or.inl ⟨by rfl, by intro w hSw; go_simp; try with_reducible rfl⟩
      · assumption
      try simp only [Act.put, List.setIfInBounds_toArray, List.set_cons_zero, List.set_cons_succ]
      apply wpAnyH_take (i := 23)
      · simp only [List.getElem?_toArray]; rfl
      · kernel_rfl
      · kernel_rfl
      · kernel_rfl
      · exact fun _ _ _ h => h
      · exact Or.inl ⟨by rfl, by intro w hSw; go_simp; try with_reducible rfl⟩
      · assumption
      try simp only [Act.put, List.setIfInBounds_toArray, List.set_cons_zero, List.set_cons_succ]
      apply wpAnyH_take (i := 24)
      · simp only [List.getElem?_toArray]; rfl
      · kernel_rfl
      · kernel_rfl
      · kernel_rfl
      · exact fun _ _ _ h => h
      · exact Or.inl ⟨by rfl, by intro w hSw; go_simp; try with_reducible rfl⟩
      · assumption
      try simp only [Act.put, List.setIfInBounds_toArray, List.set_cons_zero, List.set_cons_succ]
      apply wpAnyH_ready (rs := [25])
      · kernel_rfl
      · simp
      apply AllReadyH.cons (hs := AllReadyH.nil)
      · simp only [List.getElem?_toArray]; rfl
      intro K hK
      rw [if_pos (by rfl)]
      refine wp_call9 17 _ _ rfl [] rfl Tryd.func17 (by kernel_rfl) (by kernel_rfl) ((HW.out _ (HK9.out.trans HY2.out (FSub.refl _ _))).mono ?_)
      rintro e y6 ⟨rfl, hk6⟩
      refine ⟨_, rfl, ?_⟩
      have HK6 := Lib.hid ((HK9.out.trans HY2.out (FSub.refl _ _)).trans hk6 (FSub.refl _ _))
      have HL6 := Lib.hid hk6
      clear hk6
      refine hK.out _ _ ?_ (fun hHeld => ?_)
      · exact (by rw [HSE2.out]; exact HL6.out)
      clear hK K
      try simp only [Act.put, List.setIfInBounds_toArray, List.set_cons_zero, List.set_cons_succ]
      apply wpAnyH_take (i := 26)
      · simp only [List.getElem?_toArray]; rfl
      · kernel_rfl
      · kernel_rfl
      · kernel_rfl
      · exact fun _ _ _ h => h
      · exact Or.inl ⟨by rfl, by intro w hSw; go_simp; try with_reducible rfl⟩
      · assumption
      try simp only [Act.put, List.setIfInBounds_toArray, List.set_cons_zero, List.set_cons_succ]
      apply wpAnyH_take (i := 27)
      · simp only [List.getElem?_toArray]; rfl
      · kernel_rfl
      · kernel_rfl
      · kernel_rfl
      · exact fun _ _ _ h => h
      · exact Or.inl ⟨by rfl, by intro w hSw; go_simp; try with_reducible rfl⟩
      · assumption
      try simp only [Act.put, List.setIfInBounds_toArray, List.set_cons_zero, List.set_cons_succ]
      refine wpAnyH_done (by kernel_rfl) ?_ _
      refine NoPanic.normal ?_
      go_wp2_with fail
      go_ret
      exact ⟨rfl, HK6.out⟩
    apply AllReadyH.cons (hs := AllReadyH.nil)
    · simp only [List.getElem?_toArray]; rfl
    intro K hK
    rw [if_pos (by rfl)]
    go_wp2_with fail
    refine hK.out _ _ ?_ (fun hHeld => ?_)
    · exact (by rw [HSE.out]; exact ((Keeps.refl [] w10).drew).alloc _)
    clear hK K
    try simp only [Act.put, List.setIfInBounds_toArray, List.set_cons_zero, List.set_cons_succ]
    have HY2 := Lib.hid (show Keeps [] w10 ((w10.alloc (.cells #[.int .u8 s] 5)).drew) from ((Keeps.refl [] w10).alloc _).drew)
    have hcell : ((w10.alloc (.cells #[.int .u8 s] 5)).drew).cell? ⟨w10.heap.size, 0, none⟩ = some (.int .u8 s) := cell_lit (heap_alloc_new w10 _) 0 rfl
    have HCL := Lib.hid hcell
    clear hcell
    generalize (w10.alloc (.cells #[.int .u8 s] 5)).drew = y2 at *
    obtain ⟨S2, hS2⟩ : ∃ S2 : World → Prop, S2 = fun y => Keeps [] y2 y := ⟨_, rfl⟩
    have HSE2 := Lib.hid hS2
    have hHeld2 : S2 y2 := by rw [hS2]; exact Keeps.refl _ _
    have HS3 := Lib.hid (fun (w' : World) (hh : S2 w') => show w'.cell? ⟨R, 0, none⟩ = some (.int .u8 x.f) from by rw [hS2] at hh; exact (HY2.out.trans hh (FSub.refl _ _)).cell HXC.out (by simp))
    have HS4 := Lib.hid (fun (w' : World) (hh : S2 w') => show w'.cell? ⟨_, 0, none⟩ = some (.int .u8 s) from by rw [hS2] at hh; exact hh.cell HCL.out (by simp))
    clear hS2
    refine wpAnyH_strong (S' := S2) (fun y hy => by rw [HSE2.out] at hy; rw [HSE.out]; exact HY2.out.trans hy (FSub.refl _ _)) _ _ _ _ ?_
    apply wpAnyH_take (i := 15)
    · simp only [List.getElem?_toArray]; rfl
    · kernel_rfl
    · kernel_rfl
    · kernel_rfl
    · exact fun _ _ _ h => h
    · exact yields_conv1 rfl _ rfl HS0.out.1 HS0.out.2 _ rfl HS4.out
    · assumption
    try simp only [Act.put, List.setIfInBounds_toArray, List.set_cons_zero, List.set_cons_succ]
    apply wpAnyH_ready (rs := [12])
    · kernel_rfl
    · simp
    apply AllReadyH.cons (hs := AllReadyH.nil)
    · simp only [List.getElem?_toArray]; rfl
    intro K hK
    rw [if_pos (by rfl)]
    refine wp_call9 14 _ _ rfl [.int .u8 s] rfl Tryd.func14 (by kernel_rfl) (by kernel_rfl) ((HE.out _).mono ?_)
    rintro e y3 ⟨rfl, hk3⟩
    refine ⟨_, rfl, ?_⟩
    have HY3 := Lib.hid (HY2.out.trans hk3 (FSub.refl _ _))
    have HZ3 := Lib.hid hk3
    clear hk3
    refine hK.out _ _ ?_ (fun hHeld => ?_)
    · exact (by rw [HSE2.out]; exact HZ3.out)
    clear hK K
    try simp only [Act.put, List.setIfInBounds_toArray, List.set_cons_zero, List.set_cons_succ]
    apply wpAnyH_take (i := 16)
    · simp only [List.getElem?_toArray]; rfl
    · kernel_rfl
    · kernel_rfl
    · kernel_rfl
    · exact fun _ _ _ h => h
    · exact Or.inl ⟨by rfl, by intro w hSw; go_simp; try with_reducible rfl⟩
    · assumption
    try simp only [Act.put, List.setIfInBounds_toArray, List.set_cons_zero, List.set_cons_succ]
    apply wpAnyH_take (i := 17)
    · simp only [List.getElem?_toArray]; rfl
    · kernel_rfl
    · kernel_rfl
    · kernel_rfl
    · exact fun _ _ _ h => h
    · exact Or.inl ⟨by rfl, by intro w hSw; go_simp; try with_reducible rfl⟩
    · assumption
    try simp only [Act.put, List.setIfInBounds_toArray, List.set_cons_zero, List.set_cons_succ]
    apply wpAnyH_take (i := 18)
    · simp only [List.getElem?_toArray]; rfl
    · kernel_rfl
    · kernel_rfl
    · kernel_rfl
    · exact fun _ _ _ h => h
    · exact Or.inl ⟨by rfl, by intro w hSw; go_simp; try with_reducible rfl⟩
    · assumption
    try simp only [Act.put, List.setIfInBounds_toArray, List.set_cons_zero, List.set_cons_succ]
    apply wpAnyH_take (i := 19)
    · simp only [List.getElem?_toArray]; rfl
    · kernel_rfl
    · kernel_rfl
    · kernel_rfl
    · exact fun _ _ _ h => h
    · exact Or.inl ⟨by rfl, by intro w hSw; go_simp; try with_reducible rfl⟩
    · assumption
    try simp only [Act.put, List.setIfInBounds_toArray, List.set_cons_zero, List.set_cons_succ]
    apply wpAnyH_take (i := 20)
    · simp only [List.getElem?_toArray]; rfl
    · kernel_rfl
    · kernel_rfl
    · kernel_rfl
    · exact fun _ _ _ h => h
    · exact Or.inl ⟨by rfl, by intro w hSw; have q0 := HS3.out w hSw; go_simp; try with_reducible rfl⟩
    · assumption
    try simp only [Act.put, List.setIfInBounds_toArray, List.set_cons_zero, List.set_cons_succ]
    apply wpAnyH_ready (rs := [21])
    · kernel_rfl
    · simp
    apply AllReadyH.cons (hs := AllReadyH.nil)
    · simp only [List.getElem?_toArray]; rfl
    intro K hK
    rw [if_pos (by rfl)]
    refine wp_call9 16 _ _ rfl [.int .u8 x.f] rfl Tryd.func16 (by kernel_rfl) (by kernel_rfl) ((lkIdle_any _ x.f).mono ?_)
    rintro e y5 ⟨rfl, rfl⟩
    refine ⟨_, rfl, ?_⟩
    refine hK.out _ _ ?_ (fun hHeld => ?_)
    · exact hHeld
    clear hK K
    try simp only [Act.put, List.setIfInBounds_toArray, List.set_cons_zero, List.set_cons_succ]
    apply wpAnyH_take (i := 22)
    · simp only [List.getElem?_toArray]; rfl
    · kernel_rfl
    · kernel_rfl
    · kernel_rfl
    · exact fun _ _ _ h => h
    · exact Or.inl ⟨by rfl, by intro w hSw; go_simp; try with_reducible rfl⟩
    · assumption
    try simp only [Act.put, List.setIfInBounds_toArray, List.set_cons_zero, List.set_cons_succ]
    apply wpAnyH_take (i := 23)
    · simp only [List.getElem?_toArray]; rfl
    · kernel_rfl
    · kernel_rfl
    · kernel_rfl
    · exact fun _ _ _ h => h
    · exact Or.inl ⟨by rfl, by intro w hSw; go_simp; try with_reducible rfl⟩
    · assumption
    try simp only [Act.put, List.setIfInBounds_toArray, List.set_cons_zero, List.set_cons_succ]
    apply wpAnyH_take (i := 24)
    · simp only [List.getElem?_toArray]; rfl
    · kernel_rfl
    · kernel_rfl
    · kernel_rfl
    · exact fun _ _ _ h => h
    · exact Or.inl ⟨by rfl, by intro w hSw; go_simp; try with_reducible rfl⟩
    · assumption
    try simp only [Act.put, List.setIfInBounds_toArray, List.set_cons_zero, List.set_cons_succ]
    apply wpAnyH_ready (rs := [25])
    · kernel_rfl
    · simp
    apply AllReadyH.cons (hs := AllReadyH.nil)
    · simp only [List.getElem?_toArray]; rfl
    intro K hK
    rw [if_pos (by rfl)]
    refine wp_call9 17 _ _ rfl [] rfl Tryd.func17 (by kernel_rfl) (by kernel_rfl) ((HW.out _ (HK9.out.trans HY3.out (FSub.refl _ _))).mono ?_)
    rintro e y6 ⟨rfl, hk6⟩
    refine ⟨_, rfl, ?_⟩
    have HK6 := Lib.hid ((HK9.out.trans HY3.out (FSub.refl _ _)).trans hk6 (FSub.refl _ _))
    have HL6 := Lib.hid (HZ3.out.trans hk6 (FSub.refl _ _))
    clear hk6
    refine hK.out _ _ ?_ (fun hHeld => ?_)
    · exact (by rw [HSE2.out]; exact HL6.out)
    clear hK K
    try simp only [Act.put, List.setIfInBounds_toArray, List.set_cons_zero, List.set_cons_succ]
    apply wpAnyH_take (i := 26)
    · simp only [List.getElem?_toArray]; rfl
    · kernel_rfl
    · kernel_rfl
    · kernel_rfl
    · exact fun _ _ _ h => h
    · exact Or.inl ⟨by rfl, by intro w hSw; go_simp; try with_reducible rfl⟩
    · assumption
    try simp only [Act.put, List.setIfInBounds_toArray, List.set_cons_zero, List.set_cons_succ]
    apply wpAnyH_take (i := 27)
    · simp only [List.getElem?_toArray]; rfl
    · kernel_rfl
    · kernel_rfl
    · kernel_rfl
    · exact fun _ _ _ h => h
    · exact Or.inl ⟨by rfl, by intro w hSw; go_simp; try with_reducible rfl⟩
    · assumption
    try simp only [Act.put, List.setIfInBounds_toArray, List.set_cons_zero, List.set_cons_succ]
    refine wpAnyH_done (by kernel_rfl) ?_ _
    refine NoPanic.normal ?_
    go_wp2_with fail
    go_ret
    exact ⟨rfl, HK6.out⟩
  · by_cases h1 : s ≤ 16
    · have e1 : lkWho s = s - 1 := if_pos (by omega)
      have e2 : lkHeld s = true := decide_eq_true (by omega)
      rw [e1, e2] at HH
      have z1 : decide (1 ≤ s) = true := decide_eq_true (by omega)
      have z2 : decide (s ≤ 16) = true := decide_eq_true (by omega)
      clear e1 e2 hs hc h0 h1
      go_enter Tryd.func3, Tryd.ntmps3
      go_wp2_with fail
      refine (HS.out _ (HG.out _ HKB.out)).mono ?_; rintro e w2 ⟨rfl, hk2⟩
      have HK2 := Lib.hid (HKB.out.trans hk2 (FSub.refl _ _))
      have HX2 := Lib.hid (hk2.heap HXB.out (by simp))
      clear hk2 HKB HXB
      have HC2 := Lib.hid (show (w2.alloc (.cells #[.int .u8 0, .int .u16 0] 27)).heap[w2.heap.size]? = some (.cells (ansC ⟨0, 0⟩).toArray 27 (0, 0)) from heap_alloc_new w2 _)
      have HKA2 := Lib.hid (show Keeps [] w2 (w2.alloc (.cells #[.int .u8 0, .int .u16 0] 27)) from (Keeps.refl _ _).alloc _)
      go_wp2_with ((with_reducible refine wpList_putR12 (g := w2.heap.size) (old := ⟨0, 0⟩) ⟨rk, rv⟩ ?_ ?_ HC2.out ?_); exact rfl; exact rfl)
      intro w3 hW3 hk3
      have hk23 := HKA2.out.trans' hk3 (by simp)
      have HK3 := Lib.hid (HK2.out.trans hk23 (FSub.refl _ _))
      have HX3 := Lib.hid (hk23.heap HX2.out (by simp))
      have HR3 := Lib.hid hW3
      clear hk3 hk23 HC2 HKA2 HK2 HX2 hW3
      generalize w2.heap.size = g1 at *
      rw [← HRR.out]
      have HRO := Lib.hid (show w3.rangeAt R 0 (opC x) from fun j v hv => by rw [Nat.zero_add]; exact cell_lit HX3.out j (by simpa [opC] using hv))
      go_wp2_with ((with_reducible refine wpList_loadP (g := R) (off := 0) x ?_ ?_ HRO.out ?_); exact rfl; exact rfl)
      refine (HR12.out w3).mono ?_; rintro e w4 ⟨rfl, hk4⟩
      have HK4 := Lib.hid (HK3.out.trans hk4 (FSub.refl _ _))
      have HX4 := Lib.hid (hk4.heap HX3.out (by simp))
      have HR4 := Lib.hid (hk4.heap HR3.out (by simp))
      clear hk4 HK3 HX3 HR3 HRO
      have HC4 := Lib.hid (show (w4.alloc (.cells #[.int .u8 0, .int .u16 0] 27)).heap[w4.heap.size]? = some (.cells (ansC ⟨0, 0⟩).toArray 27 (0, 0)) from heap_alloc_new w4 _)
      have HKA4 := Lib.hid (show Keeps [] w4 (w4.alloc (.cells #[.int .u8 0, .int .u16 0] 27)) from (Keeps.refl _ _).alloc _)
      go_wp2_with ((with_reducible refine wpList_putR12 (g := w4.heap.size) (old := ⟨0, 0⟩) ⟨rk, rv⟩ ?_ ?_ HC4.out ?_); exact rfl; exact rfl)
      intro w5 hW5 hk5
      have hk45 := HKA4.out.trans' hk5 (by simp)
      have HK5 := Lib.hid (HK4.out.trans hk45 (FSub.refl _ _))
      have HX5 := Lib.hid (hk45.heap HX4.out (by simp))
      have HR5 := Lib.hid (hk45.heap HR4.out (by simp))
      have HQ5 := Lib.hid hW5
      clear hk5 hk45 HC4 HKA4 HK4 HX4 HR4 hW5
      generalize w4.heap.size = g2 at *
      go_wp2_with fail
      refine (HH.out w5).mono ?_; rintro e w6 ⟨rfl, rfl⟩
      go_wp2_with fail
      refine (HE.out w6).mono ?_; rintro e w7 ⟨rfl, hk7⟩
      have HK7 := Lib.hid (HK5.out.trans hk7 (FSub.refl _ _))
      have HX7 := Lib.hid (hk7.heap HX5.out (by simp))
      have HR7 := Lib.hid (hk7.heap HR5.out (by simp))
      have HQ7 := Lib.hid (hk7.heap HQ5.out (by simp))
      clear hk7 HK5 HX5 HR5 HQ5
      go_wp2_with fail
      refine (HD.out w7).mono ?_; rintro e w8 ⟨rfl, rfl⟩
      have hcv := conv_one w8 HS0.out.1 HS0.out.2
      go_wp2_with fail
      refine (HRD.out _).mono ?_; rintro e w9 ⟨rfl, rfl⟩
      have hka : Keeps [] w8 (w8.alloc (.cells #[.int .u8 s] 5)) := (Keeps.refl _ _).alloc _
      have HK9 := Lib.hid (HK7.out.trans hka (FSub.refl _ _))
      have HX9 := Lib.hid (hka.heap HX7.out (by simp))
      have HR9 := Lib.hid (hka.heap HR7.out (by simp))
      have HQ9 := Lib.hid (hka.heap HQ7.out (by simp))
      clear hka hcv HK7 HX7 HR7 HQ7
      generalize w8.alloc (.cells #[.int .u8 s] 5) = w10 at *
      have d0 : w10.cell? ⟨g1, 0, none⟩ = some (.int .u8 rk) := cell_lit HR9.out 0 rfl
      have d1 : w10.cell? ⟨g1, 1, none⟩ = some (.int .u16 rv) := cell_lit HR9.out 1 rfl
      have d2 : w10.cell? ⟨g2, 0, none⟩ = some (.int .u8 rk) := cell_lit HQ9.out 0 rfl
      have d3 : w10.cell? ⟨g2, 1, none⟩ = some (.int .u16 rv) := cell_lit HQ9.out 1 rfl
      go_wp2_with fail
      clear d0 d1 d2 d3 HR9 HQ9
      have HXC := Lib.hid (show w10.cell? ⟨R, 0, none⟩ = some (.int .u8 x.f) from cell_lit HX9.out 0 rfl)
      clear HX9
      obtain ⟨S, hS⟩ : ∃ S : World → Prop, S = fun y => Keeps [] w10 y := ⟨_, rfl⟩
      have HSE := Lib.hid hS
      have hSD : S w10.drew := by rw [hS]; exact (Keeps.refl _ _).drew
      clear hS
      refine wp_region_noPanic ?_
      refine wp_region_held_drew (S := S) (by kernel_rfl) hSD (fun hHeld => ?_)
      apply wpAnyH_take (i := 0)
      · simp only [List.getElem?_toArray]; rfl
      · kernel_rfl
      · kernel_rfl
      · kernel_rfl
      · exact fun _ _ _ h => h
      · exact Or.inl ⟨by rfl, by intro w hSw; go_simp; try with_reducible rfl⟩
      · assumption
      try simp only [Act.put, List.setIfInBounds_toArray, List.set_cons_zero, List.set_cons_succ]
      apply wpAnyH_take (i := 1)
      · simp only [List.getElem?_toArray]; rfl
      · kernel_rfl
      · kernel_rfl
      · kernel_rfl
      · exact fun _ _ _ h => h
      · exact Or.inl ⟨by rfl, by intro w hSw; go_simp; try with_reducible rfl⟩
      · assumption
      try simp only [Act.put, List.setIfInBounds_toArray, List.set_cons_zero, List.set_cons_succ]
      apply wpAnyH_take (i := 2)
      · simp only [List.getElem?_toArray]; rfl
      · kernel_rfl
      · kernel_rfl
      · kernel_rfl
      · exact fun _ _ _ h => h
      · exact Or.inl ⟨by rfl, by intro w hSw; go_simp; try with_reducible rfl⟩
      · assumption
      try simp only [Act.put, List.setIfInBounds_toArray, List.set_cons_zero, List.set_cons_succ]
      apply wpAnyH_take (i := 3)
      · simp only [List.getElem?_toArray]; rfl
      · kernel_rfl
      · kernel_rfl
      · kernel_rfl
      · exact fun _ _ _ h => h
      · exact Or.inl ⟨by rfl, by intro w hSw; go_simp; try with_reducible rfl⟩
      · assumption
      try simp only [Act.put, List.setIfInBounds_toArray, List.set_cons_zero, List.set_cons_succ]
      apply wpAnyH_take (i := 4)
      · simp only [List.getElem?_toArray]; rfl
      · kernel_rfl
      · kernel_rfl
      · kernel_rfl
      · exact fun _ _ _ h => h
      · exact Or.inl ⟨by rfl, by intro w hSw; go_simp; try with_reducible rfl⟩
      · assumption
      try simp only [Act.put, List.setIfInBounds_toArray, List.set_cons_zero, List.set_cons_succ]
      apply wpAnyH_take (i := 5)
      · simp only [List.getElem?_toArray]; rfl
      · kernel_rfl
      · kernel_rfl
      · kernel_rfl
      · exact fun _ _ _ h => h
      · exact Or.inl ⟨by rfl, by intro w hSw; go_simp; try with_reducible rfl⟩
      · assumption
      try simp only [Act.put, List.setIfInBounds_toArray, List.set_cons_zero, List.set_cons_succ]
      apply wpAnyH_take (i := 6)
      · simp only [List.getElem?_toArray]; rfl
      · kernel_rfl
      · kernel_rfl
      · kernel_rfl
      · exact fun _ _ _ h => h
      · exact Or.inl ⟨by rfl, by intro w hSw; go_simp; try with_reducible rfl⟩
      · assumption
      try simp only [Act.put, List.setIfInBounds_toArray, List.set_cons_zero, List.set_cons_succ]
      apply wpAnyH_take (i := 7)
      · simp only [List.getElem?_toArray]; rfl
      · kernel_rfl
      · kernel_rfl
      · kernel_rfl
      · exact fun _ _ _ h => h
      · exact Or.inl ⟨by rfl, by intro w hSw; go_simp; try with_reducible rfl⟩
      · assumption
      try simp only [Act.put, List.setIfInBounds_toArray, List.set_cons_zero, List.set_cons_succ]
      apply wpAnyH_take (i := 8)
      · simp only [List.getElem?_toArray]; rfl
      · kernel_rfl
      · kernel_rfl
      · kernel_rfl
      · exact fun _ _ _ h => h
      · exact Or.inl ⟨by rfl, by intro w hSw; go_simp; try with_reducible rfl⟩
      · assumption
      try simp only [Act.put, List.setIfInBounds_toArray, List.set_cons_zero, List.set_cons_succ]
      apply wpAnyH_take (i := 9)
      · simp only [List.getElem?_toArray]; rfl
      · kernel_rfl
      · kernel_rfl
      · kernel_rfl
      · exact fun _ _ _ h => h
      · exact Or.inl ⟨by rfl, by intro w hSw; go_simp; try with_reducible rfl⟩
      · assumption
      try simp only [Act.put, List.setIfInBounds_toArray, List.set_cons_zero, List.set_cons_succ]
      apply wpAnyH_take (i := 10)
      · simp only [List.getElem?_toArray]; rfl
      · kernel_rfl
      · kernel_rfl
      · kernel_rfl
      · exact fun _ _ _ h => h
      · exact Or.inl ⟨by rfl, by intro w hSw; go_simp; try with_reducible rfl⟩
      · assumption
      try simp only [Act.put, List.setIfInBounds_toArray, List.set_cons_zero, List.set_cons_succ]
      apply wpAnyH_take (i := 11)
      · simp only [List.getElem?_toArray]; rfl
      · kernel_rfl
      · kernel_rfl
      · kernel_rfl
      · exact fun _ _ _ h => h
      · exact Or.inl ⟨by rfl, by intro w hSw; go_simp; try with_reducible rfl⟩
      · assumption
      try simp only [Act.put, List.setIfInBounds_toArray, List.set_cons_zero, List.set_cons_succ]
      apply wpAnyH_take (i := 13)
      · simp only [List.getElem?_toArray]; rfl
      · kernel_rfl
      · kernel_rfl
      · kernel_rfl
      · exact fun _ _ _ h => h
      · exact Or.inl ⟨by rfl, by intro w hSw; go_simp; try with_reducible rfl⟩
      · assumption
      try simp only [Act.put, List.setIfInBounds_toArray, List.set_cons_zero, List.set_cons_succ]
      apply wpAnyH_ready (rs := [12, 14])
      · kernel_rfl
      · simp
      apply AllReadyH.cons
      · simp only [List.getElem?_toArray]; rfl
      · intro K hK
        rw [if_pos (by rfl)]
        refine wp_call9 14 _ _ rfl [.int .u8 s] rfl Tryd.func14 (by kernel_rfl) (by kernel_rfl) ((HE.out _).mono ?_)
        rintro e y1 ⟨rfl, hk1⟩
        refine ⟨_, rfl, ?_⟩
        have HY1 := Lib.hid (((Keeps.refl [] w10).drew).trans hk1 (FSub.refl _ _))
        clear hk1
        refine hK.out _ _ ?_ (fun hHeld => ?_)
        · exact (by rw [HSE.out]; exact HY1.out)
        clear hK K
        try simp only [Act.put, List.setIfInBounds_toArray, List.set_cons_zero, List.set_cons_succ]
        apply wpAnyH_ready (rs := [14])
        · kernel_rfl
        · simp
        apply AllReadyH.cons (hs := AllReadyH.nil)
        · simp only [List.getElem?_toArray]; rfl
        intro K hK
        rw [if_pos (by rfl)]
        go_wp2_with fail
        refine hK.out _ _ ?_ (fun hHeld => ?_)
        · exact (by rw [HSE.out]; exact HY1.out.alloc _)
        clear hK K
        try simp only [Act.put, List.setIfInBounds_toArray, List.set_cons_zero, List.set_cons_succ]
        have HY2 := Lib.hid (show Keeps [] w10 (y1.alloc (.cells #[.int .u8 s] 5)) from HY1.out.alloc _)
        have hcell : (y1.alloc (.cells #[.int .u8 s] 5)).cell? ⟨y1.heap.size, 0, none⟩ = some (.int .u8 s) := cell_lit (heap_alloc_new y1 _) 0 rfl
        have HCL := Lib.hid hcell
        clear hcell
        generalize y1.alloc (.cells #[.int .u8 s] 5) = y2 at *
        obtain ⟨S2, hS2⟩ : ∃ S2 : World → Prop, S2 = fun y => Keeps [] y2 y := ⟨_, rfl⟩
        have HSE2 := Lib.hid hS2
        have hHeld2 : S2 y2 := by rw [hS2]; exact Keeps.refl _ _
        have HS3 := Lib.hid (fun (w' : World) (hh : S2 w') => show w'.cell? ⟨R, 0, none⟩ = some (.int .u8 x.f) from by rw [hS2] at hh; exact (HY2.out.trans hh (FSub.refl _ _)).cell HXC.out (by simp))
        have HS4 := Lib.hid (fun (w' : World) (hh : S2 w') => show w'.cell? ⟨_, 0, none⟩ = some (.int .u8 s) from by rw [hS2] at hh; exact hh.cell HCL.out (by simp))
        clear hS2
        refine wpAnyH_strong (S' := S2) (fun y hy => by rw [HSE2.out] at hy; rw [HSE.out]; exact HY2.out.trans hy (FSub.refl _ _)) _ _ _ _ ?_
        apply wpAnyH_take (i := 15)
        · simp only [List.getElem?_toArray]; rfl
        · kernel_rfl
        · kernel_rfl
        · kernel_rfl
        · exact fun _ _ _ h => h
        · exact yields_conv1 rfl _ rfl HS0.out.1 HS0.out.2 _ rfl HS4.out
        · assumption
        try simp only [Act.put, List.setIfInBounds_toArray, List.set_cons_zero, List.set_cons_succ]
        apply wpAnyH_take (i := 16)
        · simp only [List.getElem?_toArray]; rfl
        · kernel_rfl
        · kernel_rfl
        · kernel_rfl
        · exact fun _ _ _ h => h
        · exact Or.inl ⟨by rfl, by intro w hSw; go_simp; try with_reducible rfl⟩
        · assumption
        try simp only [Act.put, List.setIfInBounds_toArray, List.set_cons_zero, List.set_cons_succ]
        apply wpAnyH_take (i := 17)
        · simp only [List.getElem?_toArray]; rfl
        · kernel_rfl
        · kernel_rfl
        · kernel_rfl
        · exact fun _ _ _ h => h
        · exact Or.inl ⟨by rfl, by intro w hSw; go_simp; try with_reducible rfl⟩
        · assumption
        try simp only [Act.put, List.setIfInBounds_toArray, List.set_cons_zero, List.set_cons_succ]
        apply wpAnyH_take (i := 18)
        · simp only [List.getElem?_toArray]; rfl
        · kernel_rfl
        · kernel_rfl
        · kernel_rfl
        · exact fun _ _ _ h => h
        · exact Or.inl ⟨by rfl, by intro w hSw; go_simp; try with_reducible rfl⟩
        · assumption
        try simp only [Act.put, List.setIfInBounds_toArray, List.set_cons_zero, List.set_cons_succ]
        apply wpAnyH_take (i := 19)
        · simp only [List.getElem?_toArray]; rfl
        · kernel_rfl
        · kernel_rfl
        · kernel_rfl
        · exact fun _ _ _ h => h
        · exact Or.inl ⟨by rfl, by intro w hSw; go_simp; try with_reducible rfl⟩
        · assumption
        try simp only [Act.put, List.setIfInBounds_toArray, List.set_cons_zero, List.set_cons_succ]
        apply wpAnyH_take (i := 20)
        · simp only [List.getElem?_toArray]; rfl
        · kernel_rfl
        · kernel_rfl
        · kernel_rfl
        · exact fun _ _ _ h => h
        · exact Or.inl ⟨by rfl, by intro w hSw; have q0 := HS3.out w hSw; go_simp; try with_reducible rfl⟩
        · assumption
        try simp only [Act.put, List.setIfInBounds_toArray, List.set_cons_zero, List.set_cons_succ]
        apply wpAnyH_ready (rs := [21])
        · kernel_rfl
        · simp
        apply AllReadyH.cons (hs := AllReadyH.nil)
        · simp only [List.getElem?_toArray]; rfl
        intro K hK
        rw [if_pos (by rfl)]
        refine wp_call9 16 _ _ rfl [.int .u8 x.f] rfl Tryd.func16 (by kernel_rfl) (by kernel_rfl) ((lkIdle_any _ x.f).mono ?_)
        rintro e y5 ⟨rfl, rfl⟩
        refine ⟨_, rfl, ?_⟩
        refine hK.out _ _ ?_ (fun hHeld => ?_)
        · exact hHeld2
        clear hK K
        try simp only [Act.put, List.setIfInBounds_toArray, List.set_cons_zero, List.set_cons_succ]
        apply wpAnyH_take (i := 22)
        · simp only [List.getElem?_toArray]; rfl
        · kernel_rfl
        · kernel_rfl
        · kernel_rfl
        · exact fun _ _ _ h => h
        · exact Or.inl ⟨by rfl, by intro w hSw; go_simp; try with_reducible rfl⟩
        · assumption
        try simp only [Act.put, List.setIfInBounds_toArray, List.set_cons_zero, List.set_cons_succ]
        apply wpAnyH_take (i := 23)
        · simp only [List.getElem?_toArray]; rfl
        · kernel_rfl
        · kernel_rfl
        · kernel_rfl
        · exact fun _ _ _ h => h
        · exact Or.inl ⟨by rfl, by intro w hSw; go_simp; try with_reducible rfl⟩
        · assumption
        try simp only [Act.put, List.setIfInBounds_toArray, List.set_cons_zero, List.set_cons_succ]
        apply wpAnyH_take (i := 24)
        · simp only [List.getElem?_toArray]; rfl
        · kernel_rfl
        · kernel_rfl
        · kernel_rfl
        · exact fun _ _ _ h => h
        · exact Or.inl ⟨by rfl, by intro w hSw; go_simp; try with_reducible rfl⟩
        · assumption
        try simp only [Act.put, List.setIfInBounds_toArray, List.set_cons_zero, List.set_cons_succ]
        apply wpAnyH_ready (rs := [25])
        · kernel_rfl
        · simp
        apply AllReadyH.cons (hs := AllReadyH.nil)
        · simp only [List.getElem?_toArray]; rfl
        intro K hK
        rw [if_pos (by rfl)]
        refine wp_call9 17 _ _ rfl [] rfl Tryd.func17 (by kernel_rfl) (by kernel_rfl) ((HW.out _ (HK9.out.trans HY2.out (FSub.refl _ _))).mono ?_)
        rintro e y6 ⟨rfl, hk6⟩
        refine ⟨_, rfl, ?_⟩
        have HK6 := Lib.hid ((HK9.out.trans HY2.out (FSub.refl _ _)).trans hk6 (FSub.refl _ _))
        have HL6 := Lib.hid hk6
        clear hk6
        refine hK.out _ _ ?_ (fun hHeld => ?_)
        · exact (by rw [HSE2.out]; exact HL6.out)
        clear hK K
        try simp only [Act.put, List.setIfInBounds_toArray, List.set_cons_zero, List.set_cons_succ]
        apply wpAnyH_take (i := 26)
        · simp only [List.getElem?_toArray]; rfl
        · kernel_rfl
        · kernel_rfl
        · kernel_rfl
        · exact fun _ _ _ h => h
        · exact Or.inl ⟨by rfl, by intro w hSw; go_simp; try with_reducible rfl⟩
        · assumption
        try simp only [Act.put, List.setIfInBounds_toArray, List.set_cons_zero, List.set_cons_succ]
        apply wpAnyH_take (i := 27)
        · simp only [List.getElem?_toArray]; rfl
        · kernel_rfl
        · kernel_rfl
        · kernel_rfl
        · exact fun _ _ _ h => h
        · exact Or.inl ⟨by rfl, by intro w hSw; go_simp; try with_reducible rfl⟩
        · assumption
        try simp only [Act.put, List.setIfInBounds_toArray, List.set_cons_zero, List.set_cons_succ]
        refine wpAnyH_done (by kernel_rfl) ?_ _
        refine NoPanic.normal ?_
        go_wp2_with fail
        go_ret
        exact ⟨rfl, HK6.out⟩
      apply AllReadyH.cons (hs := AllReadyH.nil)
      · simp only [List.getElem?_toArray]; rfl
      intro K hK
      rw [if_pos (by rfl)]
      go_wp2_with fail
      refine hK.out _ _ ?_ (fun hHeld => ?_)
      · exact (by rw [HSE.out]; exact ((Keeps.refl [] w10).drew).alloc _)
      clear hK K
      try simp only [Act.put, List.setIfInBounds_toArray, List.set_cons_zero, List.set_cons_succ]
      have HY2 := Lib.hid (show Keeps [] w10 ((w10.alloc (.cells #[.int .u8 s] 5)).drew) from ((Keeps.refl [] w10).alloc _).drew)
      have hcell : ((w10.alloc (.cells #[.int .u8 s] 5)).drew).cell? ⟨w10.heap.size, 0, none⟩ = some (.int .u8 s) := cell_lit (heap_alloc_new w10 _) 0 rfl
      have HCL := Lib.hid hcell
      clear hcell
      generalize (w10.alloc (.cells #[.int .u8 s] 5)).drew = y2 at *
      obtain ⟨S2, hS2⟩ : ∃ S2 : World → Prop, S2 = fun y => Keeps [] y2 y := ⟨_, rfl⟩
      have HSE2 := Lib.hid hS2
      have hHeld2 : S2 y2 := by rw [hS2]; exact Keeps.refl _ _
      have HS3 := Lib.hid (fun (w' : World) (hh : S2 w') => show w'.cell? ⟨R, 0, none⟩ = some (.int .u8 x.f) from by rw [hS2] at hh; exact (HY2.out.trans hh (FSub.refl _ _)).cell HXC.out (by simp))
      have HS4 := Lib.hid (fun (w' : World) (hh : S2 w') => show w'.cell? ⟨_, 0, none⟩ = some (.int .u8 s) from by rw [hS2] at hh; exact hh.cell HCL.out (by simp))
      clear hS2
      refine wpAnyH_strong (S' := S2) (fun y hy => by rw [HSE2.out] at hy; rw [HSE.out]; exact HY2.out.trans hy (FSub.refl _ _)) _ _ _ _ ?_
      apply wpAnyH_take (i := 15)
      · simp only [List.getElem?_toArray]; rfl
      · kernel_rfl
      · kernel_rfl
      · kernel_rfl
      · exact fun _ _ _ h => h
      · exact yields_conv1 rfl _ rfl HS0.out.1 HS0.out.2 _ rfl HS4.out
      · assumption
      try simp only [Act.put, List.setIfInBounds_toArray, List.set_cons_zero, List.set_cons_succ]
      apply wpAnyH_ready (rs := [12])
      · kernel_rfl
      · simp
      apply AllReadyH.cons (hs := AllReadyH.nil)
      · simp only [List.getElem?_toArray]; rfl
      intro K hK
      rw [if_pos (by rfl)]
      refine wp_call9 14 _ _ rfl [.int .u8 s] rfl Tryd.func14 (by kernel_rfl) (by kernel_rfl) ((HE.out _).mono ?_)
      rintro e y3 ⟨rfl, hk3⟩
      refine ⟨_, rfl, ?_⟩
      have HY3 := Lib.hid (HY2.out.trans hk3 (FSub.refl _ _))
      have HZ3 := Lib.hid hk3
      clear hk3
      refine hK.out _ _ ?_ (fun hHeld => ?_)
      · exact (by rw [HSE2.out]; exact HZ3.out)
      clear hK K
      try simp only [Act.put, List.setIfInBounds_toArray, List.set_cons_zero, List.set_cons_succ]
      apply wpAnyH_take (i := 16)
      · simp only [List.getElem?_toArray]; rfl
      · kernel_rfl
      · kernel_rfl
      · kernel_rfl
      · exact fun _ _ _ h => h
      · exact Or.inl ⟨by rfl, by intro w hSw; go_simp; try with_reducible rfl⟩
      · assumption
      try simp only [Act.put, List.setIfInBounds_toArray, List.set_cons_zero, List.set_cons_succ]
      apply wpAnyH_take (i := 17)
      · simp only [List.getElem?_toArray]; rfl
      · kernel_rfl
      · kernel_rfl
      · kernel_rfl
      · exact fun _ _ _ h => h
      · exact Or.inl ⟨by rfl, by intro w hSw; go_simp; try with_reducible rfl⟩
      · assumption
      try simp only [Act.put, List.setIfInBounds_toArray, List.set_cons_zero, List.set_cons_succ]
      apply wpAnyH_take (i := 18)
      · simp only [List.getElem?_toArray]; rfl
      · kernel_rfl
      · kernel_rfl
      · kernel_rfl
      · exact fun _ _ _ h => h
      · exact Or.inl ⟨by rfl, by intro w hSw; go_simp; try with_reducible rfl⟩
      · assumption
      try simp only [Act.put, List.setIfInBounds_toArray, List.set_cons_zero, List.set_cons_succ]
      apply wpAnyH_take (i := 19)
      · simp only [List.getElem?_toArray]; rfl
      · kernel_rfl
      · kernel_rfl
      · kernel_rfl
      · exact fun _ _ _ h => h
      · exact Or.inl ⟨by rfl, by intro w hSw; go_simp; try with_reducible rfl⟩
      · assumption
      try simp only [Act.put, List.setIfInBounds_toArray, List.set_cons_zero, List.set_cons_succ]
      apply wpAnyH_take (i := 20)
      · simp only [List.getElem?_toArray]; rfl
      · kernel_rfl
      · kernel_rfl
      · kernel_rfl
      · exact fun _ _ _ h => h
      · exact Or.inl ⟨by rfl, by intro w hSw; have q0 := HS3.out w hSw; go_simp; try with_reducible rfl⟩
      · assumption
      try simp only [Act.put, List.setIfInBounds_toArray, List.set_cons_zero, List.set_cons_succ]
      apply wpAnyH_ready (rs := [21])
      · kernel_rfl
      · simp
      apply AllReadyH.cons (hs := AllReadyH.nil)
      · simp only [List.getElem?_toArray]; rfl
      intro K hK
      rw [if_pos (by rfl)]
      refine wp_call9 16 _ _ rfl [.int .u8 x.f] rfl Tryd.func16 (by kernel_rfl) (by kernel_rfl) ((lkIdle_any _ x.f).mono ?_)
      rintro e y5 ⟨rfl, rfl⟩
      refine ⟨_, rfl, ?_⟩
      refine hK.out _ _ ?_ (fun hHeld => ?_)
      · exact hHeld
      clear hK K
      try simp only [Act.put, List.setIfInBounds_toArray, List.set_cons_zero, List.set_cons_succ]
      apply wpAnyH_take (i := 22)
      · simp only [List.getElem?_toArray]; rfl
      · kernel_rfl
      · kernel_rfl
      · kernel_rfl
      · exact fun _ _ _ h => h
      · exact Or.inl ⟨by rfl, by intro w hSw; go_simp; try with_reducible rfl⟩
      · assumption
      try simp only [Act.put, List.setIfInBounds_toArray, List.set_cons_zero, List.set_cons_succ]
      apply wpAnyH_take (i := 23)
      · simp only [List.getElem?_toArray]; rfl
      · kernel_rfl
      · kernel_rfl
      · kernel_rfl
      · exact fun _ _ _ h => h
      · exact Or.inl ⟨by rfl, by intro w hSw; go_simp; try with_reducible rfl⟩
      · assumption
      try simp only [Act.put, List.setIfInBounds_toArray, List.set_cons_zero, List.set_cons_succ]
      apply wpAnyH_take (i := 24)
      · simp only [List.getElem?_toArray]; rfl
      · kernel_rfl
      · kernel_rfl
      · kernel_rfl
      · exact fun _ _ _ h => h
      · exact Or.inl ⟨by rfl, by intro w hSw; go_simp; try with_reducible rfl⟩
      · assumption
      try simp only [Act.put, List.setIfInBounds_toArray, List.set_cons_zero, List.set_cons_succ]
      apply wpAnyH_ready (rs := [25])
      · kernel_rfl
      · simp
      apply AllReadyH.cons (hs := AllReadyH.nil)
      · simp only [List.getElem?_toArray]; rfl
      intro K hK
      rw [if_pos (by rfl)]
      refine wp_call9 17 _ _ rfl [] rfl Tryd.func17 (by kernel_rfl) (by kernel_rfl) ((HW.out _ (HK9.out.trans HY3.out (FSub.refl _ _))).mono ?_)
      rintro e y6 ⟨rfl, hk6⟩
      refine ⟨_, rfl, ?_⟩
      have HK6 := Lib.hid ((HK9.out.trans HY3.out (FSub.refl _ _)).trans hk6 (FSub.refl _ _))
      have HL6 := Lib.hid (HZ3.out.trans hk6 (FSub.refl _ _))
      clear hk6
      refine hK.out _ _ ?_ (fun hHeld => ?_)
      · exact (by rw [HSE2.out]; exact HL6.out)
      clear hK K
      try simp only [Act.put, List.setIfInBounds_toArray, List.set_cons_zero, List.set_cons_succ]
      apply wpAnyH_take (i := 26)
      · simp only [List.getElem?_toArray]; rfl
      · kernel_rfl
      · kernel_rfl
      · kernel_rfl
      · exact fun _ _ _ h => h
      · exact Or.inl ⟨by rfl, by intro w hSw; go_simp; try with_reducible rfl⟩
      · assumption
      try simp only [Act.put, List.setIfInBounds_toArray, List.set_cons_zero, List.set_cons_succ]
      apply wpAnyH_take (i := 27)
      · simp only [List.getElem?_toArray]; rfl
      · kernel_rfl
      · kernel_rfl
      · kernel_rfl
      · exact fun _ _ _ h => h
      · exact Or.inl ⟨by rfl, by intro w hSw; go_simp; try with_reducible rfl⟩
      · assumption
      try simp only [Act.put, List.setIfInBounds_toArray, List.set_cons_zero, List.set_cons_succ]
      refine wpAnyH_done (by kernel_rfl) ?_ _
      refine NoPanic.normal ?_
      go_wp2_with fail
      go_ret
      exact ⟨rfl, HK6.out⟩
    · have e1 : lkWho s = 0 := if_neg (by omega)
      have e2 : lkHeld s = false := decide_eq_false (by omega)
      rw [e1, e2] at HH
      have z1 : decide (1 ≤ s) = true := decide_eq_true (by omega)
      have z2 : decide (s ≤ 16) = false := decide_eq_false (by omega)
      clear e1 e2 hs hc h0 h1
      go_enter Tryd.func3, Tryd.ntmps3
      go_wp2_with fail
      refine (HS.out _ (HG.out _ HKB.out)).mono ?_; rintro e w2 ⟨rfl, hk2⟩
      have HK2 := Lib.hid (HKB.out.trans hk2 (FSub.refl _ _))
      have HX2 := Lib.hid (hk2.heap HXB.out (by simp))
      clear hk2 HKB HXB
      have HC2 := Lib.hid (show (w2.alloc (.cells #[.int .u8 0, .int .u16 0] 27)).heap[w2.heap.size]? = some (.cells (ansC ⟨0, 0⟩).toArray 27 (0, 0)) from heap_alloc_new w2 _)
      have HKA2 := Lib.hid (show Keeps [] w2 (w2.alloc (.cells #[.int .u8 0, .int .u16 0] 27)) from (Keeps.refl _ _).alloc _)
      go_wp2_with ((with_reducible refine wpList_putR12 (g := w2.heap.size) (old := ⟨0, 0⟩) ⟨rk, rv⟩ ?_ ?_ HC2.out ?_); exact rfl; exact rfl)
      intro w3 hW3 hk3
      have hk23 := HKA2.out.trans' hk3 (by simp)
      have HK3 := Lib.hid (HK2.out.trans hk23 (FSub.refl _ _))
      have HX3 := Lib.hid (hk23.heap HX2.out (by simp))
      have HR3 := Lib.hid hW3
      clear hk3 hk23 HC2 HKA2 HK2 HX2 hW3
      generalize w2.heap.size = g1 at *
      rw [← HRR.out]
      have HRO := Lib.hid (show w3.rangeAt R 0 (opC x) from fun j v hv => by rw [Nat.zero_add]; exact cell_lit HX3.out j (by simpa [opC] using hv))
      go_wp2_with ((with_reducible refine wpList_loadP (g := R) (off := 0) x ?_ ?_ HRO.out ?_); exact rfl; exact rfl)
      refine (HR12.out w3).mono ?_; rintro e w4 ⟨rfl, hk4⟩
      have HK4 := Lib.hid (HK3.out.trans hk4 (FSub.refl _ _))
      have HX4 := Lib.hid (hk4.heap HX3.out (by simp))
      have HR4 := Lib.hid (hk4.heap HR3.out (by simp))
      clear hk4 HK3 HX3 HR3 HRO
      have HC4 := Lib.hid (show (w4.alloc (.cells #[.int .u8 0, .int .u16 0] 27)).heap[w4.heap.size]? = some (.cells (ansC ⟨0, 0⟩).toArray 27 (0, 0)) from heap_alloc_new w4 _)
      have HKA4 := Lib.hid (show Keeps [] w4 (w4.alloc (.cells #[.int .u8 0, .int .u16 0] 27)) from (Keeps.refl _ _).alloc _)
      go_wp2_with ((with_reducible refine wpList_putR12 (g := w4.heap.size) (old := ⟨0, 0⟩) ⟨rk, rv⟩ ?_ ?_ HC4.out ?_); exact rfl; exact rfl)
      intro w5 hW5 hk5
      have hk45 := HKA4.out.trans' hk5 (by simp)
      have HK5 := Lib.hid (HK4.out.trans hk45 (FSub.refl _ _))
      have HX5 := Lib.hid (hk45.heap HX4.out (by simp))
      have HR5 := Lib.hid (hk45.heap HR4.out (by simp))
      have HQ5 := Lib.hid hW5
      clear hk5 hk45 HC4 HKA4 HK4 HX4 HR4 hW5
      generalize w4.heap.size = g2 at *
      go_wp2_with fail
      refine (HH.out w5).mono ?_; rintro e w6 ⟨rfl, rfl⟩
      go_wp2_with fail
      refine (HE.out w6).mono ?_; rintro e w7 ⟨rfl, hk7⟩
      have HK7 := Lib.hid (HK5.out.trans hk7 (FSub.refl _ _))
      have HX7 := Lib.hid (hk7.heap HX5.out (by simp))
      have HR7 := Lib.hid (hk7.heap HR5.out (by simp))
      have HQ7 := Lib.hid (hk7.heap HQ5.out (by simp))
      clear hk7 HK5 HX5 HR5 HQ5
      go_wp2_with fail
      refine (HD.out w7).mono ?_; rintro e w8 ⟨rfl, rfl⟩
      have hcv := conv_one w8 HS0.out.1 HS0.out.2
      go_wp2_with fail
      refine (HRD.out _).mono ?_; rintro e w9 ⟨rfl, rfl⟩
      have hka : Keeps [] w8 (w8.alloc (.cells #[.int .u8 s] 5)) := (Keeps.refl _ _).alloc _
      have HK9 := Lib.hid (HK7.out.trans hka (FSub.refl _ _))
      have HX9 := Lib.hid (hka.heap HX7.out (by simp))
      have HR9 := Lib.hid (hka.heap HR7.out (by simp))
      have HQ9 := Lib.hid (hka.heap HQ7.out (by simp))
      clear hka hcv HK7 HX7 HR7 HQ7
      generalize w8.alloc (.cells #[.int .u8 s] 5) = w10 at *
      have d0 : w10.cell? ⟨g1, 0, none⟩ = some (.int .u8 rk) := cell_lit HR9.out 0 rfl
      have d1 : w10.cell? ⟨g1, 1, none⟩ = some (.int .u16 rv) := cell_lit HR9.out 1 rfl
      have d2 : w10.cell? ⟨g2, 0, none⟩ = some (.int .u8 rk) := cell_lit HQ9.out 0 rfl
      have d3 : w10.cell? ⟨g2, 1, none⟩ = some (.int .u16 rv) := cell_lit HQ9.out 1 rfl
      go_wp2_with fail
      clear d0 d1 d2 d3 HR9 HQ9
      have HXC := Lib.hid (show w10.cell? ⟨R, 0, none⟩ = some (.int .u8 x.f) from cell_lit HX9.out 0 rfl)
      clear HX9
      obtain ⟨S, hS⟩ : ∃ S : World → Prop, S = fun y => Keeps [] w10 y := ⟨_, rfl⟩
      have HSE := Lib.hid hS
      have hSD : S w10.drew := by rw [hS]; exact (Keeps.refl _ _).drew
      clear hS
      refine wp_region_noPanic ?_
      refine wp_region_held_drew (S := S) (by kernel_rfl) hSD (fun hHeld => ?_)
      apply wpAnyH_take (i := 0)
      · simp only [List.getElem?_toArray]; rfl
      · kernel_rfl
      · kernel_rfl
      · kernel_rfl
      · exact fun _ _ _ h => h
      · exact Or.inl ⟨by rfl, by intro w hSw; go_simp; try with_reducible rfl⟩
      · assumption
      try simp only [Act.put, List.setIfInBounds_toArray, List.set_cons_zero, List.set_cons_succ]
      apply wpAnyH_take (i := 1)
      · simp only [List.getElem?_toArray]; rfl
      · kernel_rfl
      · kernel_rfl
      · kernel_rfl
      · exact fun _ _ _ h => h
      · exact Or.inl ⟨by rfl, by intro w hSw; go_simp; try with_reducible rfl⟩
      · assumption
      try simp only [Act.put, List.setIfInBounds_toArray, List.set_cons_zero, List.set_cons_succ]
      apply wpAnyH_take (i := 2)
      · simp only [List.getElem?_toArray]; rfl
      · kernel_rfl
      · kernel_rfl
      · kernel_rfl
      · exact fun _ _ _ h => h
      · exact Or.inl ⟨by rfl, by intro w hSw; go_simp; try with_reducible rfl⟩
      · assumption
      try simp only [Act.put, List.setIfInBounds_toArray, List.set_cons_zero, List.set_cons_succ]
      apply wpAnyH_take (i := 3)
      · simp only [List.getElem?_toArray]; rfl
      · kernel_rfl
      · kernel_rfl
      · kernel_rfl
      · exact fun _ _ _ h => h
      · exact Or.inl ⟨by rfl, by intro w hSw; go_simp; try with_reducible rfl⟩
      · assumption
      try simp only [Act.put, List.setIfInBounds_toArray, List.set_cons_zero, List.set_cons_succ]
      apply wpAnyH_take (i := 4)
      · simp only [List.getElem?_toArray]; rfl
      · kernel_rfl
      · kernel_rfl
      · kernel_rfl
      · exact fun _ _ _ h => h
      · exact Or.inl ⟨by rfl, by intro w hSw; go_simp; try with_reducible rfl⟩
      · assumption
      try simp only [Act.put, List.setIfInBounds_toArray, List.set_cons_zero, List.set_cons_succ]
      apply wpAnyH_take (i := 5)
      · simp only [List.getElem?_toArray]; rfl
      · kernel_rfl
      · kernel_rfl
      · kernel_rfl
      · exact fun _ _ _ h => h
      · exact Or.inl ⟨by rfl, by intro w hSw; go_simp; try with_reducible rfl⟩
      · assumption
      try simp only [Act.put, List.setIfInBounds_toArray, List.set_cons_zero, List.set_cons_succ]
      apply wpAnyH_take (i := 6)
      · simp only [List.getElem?_toArray]; rfl
      · kernel_rfl
      · kernel_rfl
      · kernel_rfl
      · exact fun _ _ _ h => h
      · exact Or.inl ⟨by rfl, by intro w hSw; go_simp; try with_reducible rfl⟩
      · assumption
      try simp only [Act.put, List.setIfInBounds_toArray, List.set_cons_zero, List.set_cons_succ]
      apply wpAnyH_take (i := 7)
      · simp only [List.getElem?_toArray]; rfl
      · kernel_rfl
      · kernel_rfl
      · kernel_rfl
      · exact fun _ _ _ h => h
      · exact Or.inl ⟨by rfl, by intro w hSw; go_simp; try with_reducible rfl⟩
      · assumption
      try simp only [Act.put, List.setIfInBounds_toArray, List.set_cons_zero, List.set_cons_succ]
      apply wpAnyH_take (i := 8)
      · simp only [List.getElem?_toArray]; rfl
      · kernel_rfl
      · kernel_rfl
      · kernel_rfl
      · exact fun _ _ _ h => h
      · exact Or.inl ⟨by rfl, by intro w hSw; go_simp; try with_reducible rfl⟩
      · assumption
      try simp only [Act.put, List.setIfInBounds_toArray, List.set_cons_zero, List.set_cons_succ]
      apply wpAnyH_take (i := 9)
      · simp only [List.getElem?_toArray]; rfl
      · kernel_rfl
      · kernel_rfl
      · kernel_rfl
      · exact fun _ _ _ h => h
      · exact Or.inl ⟨by rfl, by intro w hSw; go_simp; try with_reducible rfl⟩
      · assumption
      try simp only [Act.put, List.setIfInBounds_toArray, List.set_cons_zero, List.set_cons_succ]
      apply wpAnyH_take (i := 10)
      · simp only [List.getElem?_toArray]; rfl
      · kernel_rfl
      · kernel_rfl
      · kernel_rfl
      · exact fun _ _ _ h => h
      · exact Or.inl ⟨by rfl, by intro w hSw; go_simp; try with_reducible rfl⟩
      · assumption
      try simp only [Act.put, List.setIfInBounds_toArray, List.set_cons_zero, List.set_cons_succ]
      apply wpAnyH_take (i := 11)
      · simp only [List.getElem?_toArray]; rfl
      · kernel_rfl
      · kernel_rfl
      · kernel_rfl
      · exact fun _ _ _ h => h
      · exact Or.inl ⟨by rfl, by intro w hSw; go_simp; try with_reducible rfl⟩
      · assumption
      try simp only [Act.put, List.setIfInBounds_toArray, List.set_cons_zero, List.set_cons_succ]
      apply wpAnyH_take (i := 13)
      · simp only [List.getElem?_toArray]; rfl
      · kernel_rfl
      · kernel_rfl
      · kernel_rfl
      · exact fun _ _ _ h => h
      · exact Or.inl ⟨by rfl, by intro w hSw; go_simp; try with_reducible rfl⟩
      · assumption
      try simp only [Act.put, List.setIfInBounds_toArray, List.set_cons_zero, List.set_cons_succ]
      apply wpAnyH_ready (rs := [12, 14])
      · kernel_rfl
      · simp
      apply AllReadyH.cons
      · simp only [List.getElem?_toArray]; rfl
      · intro K hK
        rw [if_pos (by rfl)]
        refine wp_call9 14 _ _ rfl [.int .u8 s] rfl Tryd.func14 (by kernel_rfl) (by kernel_rfl) ((HE.out _).mono ?_)
        rintro e y1 ⟨rfl, hk1⟩
        refine ⟨_, rfl, ?_⟩
        have HY1 := Lib.hid (((Keeps.refl [] w10).drew).trans hk1 (FSub.refl _ _))
        clear hk1
        refine hK.out _ _ ?_ (fun hHeld => ?_)
        · exact (by rw [HSE.out]; exact HY1.out)
        clear hK K
        try simp only [Act.put, List.setIfInBounds_toArray, List.set_cons_zero, List.set_cons_succ]
        apply wpAnyH_ready (rs := [14])
        · kernel_rfl
        · simp
        apply AllReadyH.cons (hs := AllReadyH.nil)
        · simp only [List.getElem?_toArray]; rfl
        intro K hK
        rw [if_pos (by rfl)]
        go_wp2_with fail
        refine hK.out _ _ ?_ (fun hHeld => ?_)
        · exact (by rw [HSE.out]; exact HY1.out.alloc _)
        clear hK K
        try simp only [Act.put, List.setIfInBounds_toArray, List.set_cons_zero, List.set_cons_succ]
        have HY2 := Lib.hid (show Keeps [] w10 (y1.alloc (.cells #[.int .u8 s] 5)) from HY1.out.alloc _)
        have hcell : (y1.alloc (.cells #[.int .u8 s] 5)).cell? ⟨y1.heap.size, 0, none⟩ = some (.int .u8 s) := cell_lit (heap_alloc_new y1 _) 0 rfl
        have HCL := Lib.hid hcell
        clear hcell
        generalize y1.alloc (.cells #[.int .u8 s] 5) = y2 at *
        obtain ⟨S2, hS2⟩ : ∃ S2 : World → Prop, S2 = fun y => Keeps [] y2 y := ⟨_, rfl⟩
        have HSE2 := Lib.hid hS2
        have hHeld2 : S2 y2 := by rw [hS2]; exact Keeps.refl _ _
        have HS3 := Lib.hid (fun (w' : World) (hh : S2 w') => show w'.cell? ⟨R, 0, none⟩ = some (.int .u8 x.f) from by rw [hS2] at hh; exact (HY2.out.trans hh (FSub.refl _ _)).cell HXC.out (by simp))
        have HS4 := Lib.hid (fun (w' : World) (hh : S2 w') => show w'.cell? ⟨_, 0, none⟩ = some (.int .u8 s) from by rw [hS2] at hh; exact hh.cell HCL.out (by simp))
        clear hS2
        refine wpAnyH_strong (S' := S2) (fun y hy => by rw [HSE2.out] at hy; rw [HSE.out]; exact HY2.out.trans hy (FSub.refl _ _)) _ _ _ _ ?_
        apply wpAnyH_take (i := 15)
        · simp only [List.getElem?_toArray]; rfl
        · kernel_rfl
        · kernel_rfl
        · kernel_rfl
        · exact fun _ _ _ h => h
        · exact yields_conv1 rfl _ rfl HS0.out.1 HS0.out.2 _ rfl HS4.out
        · assumption
        try simp only [Act.put, List.setIfInBounds_toArray, List.set_cons_zero, List.set_cons_succ]
        apply wpAnyH_take (i := 16)
        · simp only [List.getElem?_toArray]; rfl
        · kernel_rfl
        · kernel_rfl
        · kernel_rfl
        · exact fun _ _ _ h => h
        · exact Or.inl ⟨by rfl, by intro w hSw; go_simp; try with_reducible rfl⟩
        · assumption
        try simp only [Act.put, List.setIfInBounds_toArray, List.set_cons_zero, List.set_cons_succ]
        apply wpAnyH_take (i := 17)
        · simp only [List.getElem?_toArray]; rfl
        · kernel_rfl
        · kernel_rfl
        · kernel_rfl
        · exact fun _ _ _ h => h
        · exact Or.inl ⟨by rfl, by intro w hSw; go_simp; try with_reducible rfl⟩
        · assumption
        try simp only [Act.put, List.setIfInBounds_toArray, List.set_cons_zero, List.set_cons_succ]
        apply wpAnyH_take (i := 18)
        · simp only [List.getElem?_toArray]; rfl
        · kernel_rfl
        · kernel_rfl
        · kernel_rfl
        · exact fun _ _ _ h => h
        · exact Or.inl ⟨by rfl, by intro w hSw; go_simp; try with_reducible rfl⟩
        · assumption
        try simp only [Act.put, List.setIfInBounds_toArray, List.set_cons_zero, List.set_cons_succ]
        apply wpAnyH_take (i := 19)
        · simp only [List.getElem?_toArray]; rfl
        · kernel_rfl
        · kernel_rfl
        · kernel_rfl
        · exact fun _ _ _ h => h
        · exact Or.inl ⟨by rfl, by intro w hSw; go_simp; try with_reducible rfl⟩
        · assumption
        try simp only [Act.put, List.setIfInBounds_toArray, List.set_cons_zero, List.set_cons_succ]
        apply wpAnyH_take (i := 20)
        · simp only [List.getElem?_toArray]; rfl
        · kernel_rfl
        · kernel_rfl
        · kernel_rfl
        · exact fun _ _ _ h => h
        · exact Or.inl ⟨by rfl, by intro w hSw; have q0 := HS3.out w hSw; go_simp; try with_reducible rfl⟩
        · assumption
        try simp only [Act.put, List.setIfInBounds_toArray, List.set_cons_zero, List.set_cons_succ]
        apply wpAnyH_ready (rs := [21])
        · kernel_rfl
        · simp
        apply AllReadyH.cons (hs := AllReadyH.nil)
        · simp only [List.getElem?_toArray]; rfl
        intro K hK
        rw [if_pos (by rfl)]
        refine wp_call9 16 _ _ rfl [.int .u8 x.f] rfl Tryd.func16 (by kernel_rfl) (by kernel_rfl) ((lkIdle_any _ x.f).mono ?_)
        rintro e y5 ⟨rfl, rfl⟩
        refine ⟨_, rfl, ?_⟩
        refine hK.out _ _ ?_ (fun hHeld => ?_)
        · exact hHeld2
        clear hK K
        try simp only [Act.put, List.setIfInBounds_toArray, List.set_cons_zero, List.set_cons_succ]
        apply wpAnyH_take (i := 22)
        · simp only [List.getElem?_toArray]; rfl
        · kernel_rfl
        · kernel_rfl
        · kernel_rfl
        · exact fun _ _ _ h => h
        · exact Or.inl ⟨by rfl, by intro w hSw; go_simp; try with_reducible rfl⟩
        · assumption
        try simp only [Act.put, List.setIfInBounds_toArray, List.set_cons_zero, List.set_cons_succ]
        apply wpAnyH_take (i := 23)
        · simp only [List.getElem?_toArray]; rfl
        · kernel_rfl
        · kernel_rfl
        · kernel_rfl
        · exact fun _ _ _ h => h
        · exact Or.inl ⟨by rfl, by intro w hSw; go_simp; try with_reducible rfl⟩
        · assumption
        try simp only [Act.put, List.setIfInBounds_toArray, List.set_cons_zero, List.set_cons_succ]
        apply wpAnyH_take (i := 24)
        · simp only [List.getElem?_toArray]; rfl
        · kernel_rfl
        · kernel_rfl
        · kernel_rfl
        · exact fun _ _ _ h => h
        · exact Or.inl ⟨by rfl, by intro w hSw; go_simp; try with_reducible rfl⟩
        · assumption
        try simp only [Act.put, List.setIfInBounds_toArray, List.set_cons_zero, List.set_cons_succ]
        apply wpAnyH_ready (rs := [25])
        · kernel_rfl
        · simp
        apply AllReadyH.cons (hs := AllReadyH.nil)
        · simp only [List.getElem?_toArray]; rfl
        intro K hK
        rw [if_pos (by rfl)]
        refine wp_call9 17 _ _ rfl [] rfl Tryd.func17 (by kernel_rfl) (by kernel_rfl) ((HW.out _ (HK9.out.trans HY2.out (FSub.refl _ _))).mono ?_)
        rintro e y6 ⟨rfl, hk6⟩
        refine ⟨_, rfl, ?_⟩
        have HK6 := Lib.hid ((HK9.out.trans HY2.out (FSub.refl _ _)).trans hk6 (FSub.refl _ _))
        have HL6 := Lib.hid hk6
        clear hk6
        refine hK.out _ _ ?_ (fun hHeld => ?_)
        · exact (by rw [HSE2.out]; exact HL6.out)
        clear hK K
        try simp only [Act.put, List.setIfInBounds_toArray, List.set_cons_zero, List.set_cons_succ]
        apply wpAnyH_take (i := 26)
        · simp only [List.getElem?_toArray]; rfl
        · kernel_rfl
        · kernel_rfl
        · kernel_rfl
        · exact fun _ _ _ h => h
        · exact Or.inl ⟨by rfl, by intro w hSw; go_simp; try with_reducible rfl⟩
        · assumption
        try simp only [Act.put, List.setIfInBounds_toArray, List.set_cons_zero, List.set_cons_succ]
        apply wpAnyH_take (i := 27)
        · simp only [List.getElem?_toArray]; rfl
        · kernel_rfl
        · kernel_rfl
        · kernel_rfl
        · exact fun _ _ _ h => h
        · exact Or.inl ⟨by rfl, by intro w hSw; go_simp; try with_reducible rfl⟩
        · assumption
        try simp only [Act.put, List.setIfInBounds_toArray, List.set_cons_zero, List.set_cons_succ]
        refine wpAnyH_done (by kernel_rfl) ?_ _
        refine NoPanic.normal ?_
        go_wp2_with fail
        go_ret
        exact ⟨rfl, HK6.out⟩
      apply AllReadyH.cons (hs := AllReadyH.nil)
      · simp only [List.getElem?_toArray]; rfl
      intro K hK
      rw [if_pos (by rfl)]
      go_wp2_with fail
      refine hK.out _ _ ?_ (fun hHeld => ?_)
      · exact (by rw [HSE.out]; exact ((Keeps.refl [] w10).drew).alloc _)
      clear hK K
      try simp only [Act.put, List.setIfInBounds_toArray, List.set_cons_zero, List.set_cons_succ]
      have HY2 := Lib.hid (show Keeps [] w10 ((w10.alloc (.cells #[.int .u8 s] 5)).drew) from ((Keeps.refl [] w10).alloc _).drew)
      have hcell : ((w10.alloc (.cells #[.int .u8 s] 5)).drew).cell? ⟨w10.heap.size, 0, none⟩ = some (.int .u8 s) := cell_lit (heap_alloc_new w10 _) 0 rfl
      have HCL := Lib.hid hcell
      clear hcell
      generalize (w10.alloc (.cells #[.int .u8 s] 5)).drew = y2 at *
      obtain ⟨S2, hS2⟩ : ∃ S2 : World → Prop, S2 = fun y => Keeps [] y2 y := ⟨_, rfl⟩
      have HSE2 := Lib.hid hS2
      have hHeld2 : S2 y2 := by rw [hS2]; exact Keeps.refl _ _
      have HS3 := Lib.hid (fun (w' : World) (hh : S2 w') => show w'.cell? ⟨R, 0, none⟩ = some (.int .u8 x.f) from by rw [hS2] at hh; exact (HY2.out.trans hh (FSub.refl _ _)).cell HXC.out (by simp))
      have HS4 := Lib.hid (fun (w' : World) (hh : S2 w') => show w'.cell? ⟨_, 0, none⟩ = some (.int .u8 s) from by rw [hS2] at hh; exact hh.cell HCL.out (by simp))
      clear hS2
      refine wpAnyH_strong (S' := S2) (fun y hy => by rw [HSE2.out] at hy; rw [HSE.out]; exact HY2.out.trans hy (FSub.refl _ _)) _ _ _ _ ?_
      apply wpAnyH_take (i := 15)
      · simp only [List.getElem?_toArray]; rfl
      · kernel_rfl
      · kernel_rfl
      · kernel_rfl
      · exact fun _ _ _ h => h
      · exact yields_conv1 rfl _ rfl HS0.out.1 HS0.out.2 _ rfl HS4.out
      · assumption
      try simp only [Act.put, List.setIfInBounds_toArray, List.set_cons_zero, List.set_cons_succ]
      apply wpAnyH_ready (rs := [12])
      · kernel_rfl
      · simp
      apply AllReadyH.cons (hs := AllReadyH.nil)
      · simp only [List.getElem?_toArray]; rfl
      intro K hK
      rw [if_pos (by rfl)]
      refine wp_call9 14 _ _ rfl [.int .u8 s] rfl Tryd.func14 (by kernel_rfl) (by kernel_rfl) ((HE.out _).mono ?_)
      rintro e y3 ⟨rfl, hk3⟩
      refine ⟨_, rfl, ?_⟩
      have HY3 := Lib.hid (HY2.out.trans hk3 (FSub.refl _ _))
      have HZ3 := Lib.hid hk3
      clear hk3
      refine hK.out _ _ ?_ (fun hHeld => ?_)
      · exact (by rw [HSE2.out]; exact HZ3.out)
      clear hK K
      try simp only [Act.put, List.setIfInBounds_toArray, List.set_cons_zero, List.set_cons_succ]
      apply wpAnyH_take (i := 16)
      · simp only [List.getElem?_toArray]; rfl
      · kernel_rfl
      · kernel_rfl
      · kernel_rfl
      · exact fun _ _ _ h => h
      · exact Or.inl ⟨by rfl, by intro w hSw; go_simp; try with_reducible rfl⟩
      · assumption
      try simp only [Act.put, List.setIfInBounds_toArray, List.set_cons_zero, List.set_cons_succ]
      apply wpAnyH_take (i := 17)
      · simp only [List.getElem?_toArray]; rfl
      · kernel_rfl
      · kernel_rfl
      · kernel_rfl
      · exact fun _ _ _ h => h
      · exact Or.inl ⟨by rfl, by intro w hSw; go_simp; try with_reducible rfl⟩
      · assumption
      try simp only [Act.put, List.setIfInBounds_toArray, List.set_cons_zero, List.set_cons_succ]
      apply wpAnyH_take (i := 18)
      · simp only [List.getElem?_toArray]; rfl
      · kernel_rfl
      · kernel_rfl
      · kernel_rfl
      · exact fun _ _ _ h => h
      · exact Or.inl ⟨by rfl, by intro w hSw; go_simp; try with_reducible rfl⟩
      · assumption
      try simp only [Act.put, List.setIfInBounds_toArray, List.set_cons_zero, List.set_cons_succ]
      apply wpAnyH_take (i := 19)
      · simp only [List.getElem?_toArray]; rfl
      · kernel_rfl
      · kernel_rfl
      · kernel_rfl
      · exact fun _ _ _ h => h
      · exact Or.inl ⟨by rfl, by intro w hSw; go_simp; try with_reducible rfl⟩
      · assumption
      try simp only [Act.put, List.setIfInBounds_toArray, List.set_cons_zero, List.set_cons_succ]
      apply wpAnyH_take (i := 20)
      · simp only [List.getElem?_toArray]; rfl
      · kernel_rfl
      · kernel_rfl
      · kernel_rfl
      · exact fun _ _ _ h => h
      · exact Or.inl ⟨by rfl, by intro w hSw; have q0 := HS3.out w hSw; go_simp; try with_reducible rfl⟩
      · assumption
      try simp only [Act.put, List.setIfInBounds_toArray, List.set_cons_zero, List.set_cons_succ]
      apply wpAnyH_ready (rs := [21])
      · kernel_rfl
      · simp
      apply AllReadyH.cons (hs := AllReadyH.nil)
      · simp only [List.getElem?_toArray]; rfl
      intro K hK
      rw [if_pos (by rfl)]
      refine wp_call9 16 _ _ rfl [.int .u8 x.f] rfl Tryd.func16 (by kernel_rfl) (by kernel_rfl) ((lkIdle_any _ x.f).mono ?_)
      rintro e y5 ⟨rfl, rfl⟩
      refine ⟨_, rfl, ?_⟩
      refine hK.out _ _ ?_ (fun hHeld => ?_)
      · exact hHeld
      clear hK K
      try simp only [Act.put, List.setIfInBounds_toArray, List.set_cons_zero, List.set_cons_succ]
      apply wpAnyH_take (i := 22)
      · simp only [List.getElem?_toArray]; rfl
      · kernel_rfl
      · kernel_rfl
      · kernel_rfl
      · exact fun _ _ _ h => h
      · exact Or.inl ⟨by rfl, by intro w hSw; go_simp; try with_reducible rfl⟩
      · assumption
      try simp only [Act.put, List.setIfInBounds_toArray, List.set_cons_zero, List.set_cons_succ]
      apply wpAnyH_take (i := 23)
      · simp only [List.getElem?_toArray]; rfl
      · kernel_rfl
      · kernel_rfl
      · kernel_rfl
      · exact fun _ _ _ h => h
      · exact Or.inl ⟨by rfl, by intro w hSw; go_simp; try with_reducible rfl⟩
      · assumption
      try simp only [Act.put, List.setIfInBounds_toArray, List.set_cons_zero, List.set_cons_succ]
      apply wpAnyH_take (i := 24)
      · simp only [List.getElem?_toArray]; rfl
      · kernel_rfl
      · kernel_rfl
      · kernel_rfl
      · exact fun _ _ _ h => h
      · exact Or.inl ⟨by rfl, by intro w hSw; go_simp; try with_reducible rfl⟩
      · assumption
      try simp only [Act.put, List.setIfInBounds_toArray, List.set_cons_zero, List.set_cons_succ]
      apply wpAnyH_ready (rs := [25])
      · kernel_rfl
      · simp
      apply AllReadyH.cons (hs := AllReadyH.nil)
      · simp only [List.getElem?_toArray]; rfl
      intro K hK
      rw [if_pos (by rfl)]
      refine wp_call9 17 _ _ rfl [] rfl Tryd.func17 (by kernel_rfl) (by kernel_rfl) ((HW.out _ (HK9.out.trans HY3.out (FSub.refl _ _))).mono ?_)
      rintro e y6 ⟨rfl, hk6⟩
      refine ⟨_, rfl, ?_⟩
      have HK6 := Lib.hid ((HK9.out.trans HY3.out (FSub.refl _ _)).trans hk6 (FSub.refl _ _))
      have HL6 := Lib.hid (HZ3.out.trans hk6 (FSub.refl _ _))
      clear hk6
      refine hK.out _ _ ?_ (fun hHeld => ?_)
      · exact (by rw [HSE2.out]; exact HL6.out)
      clear hK K
      try simp only [Act.put, List.setIfInBounds_toArray, List.set_cons_zero, List.set_cons_succ]
      apply wpAnyH_take (i := 26)
      · simp only [List.getElem?_toArray]; rfl
      · kernel_rfl
      · kernel_rfl
      · kernel_rfl
      · exact fun _ _ _ h => h
      · exact Or.inl ⟨by rfl, by intro w hSw; go_simp; try with_reducible rfl⟩
      · assumption
      try simp only [Act.put, List.setIfInBounds_toArray, List.set_cons_zero, List.set_cons_succ]
      apply wpAnyH_take (i := 27)
      · simp only [List.getElem?_toArray]; rfl
      · kernel_rfl
      · kernel_rfl
      · kernel_rfl
      · exact fun _ _ _ h => h
      · exact Or.inl ⟨by rfl, by intro w hSw; go_simp; try with_reducible rfl⟩
      · assumption
      try simp only [Act.put, List.setIfInBounds_toArray, List.set_cons_zero, List.set_cons_succ]
      refine wpAnyH_done (by kernel_rfl) ?_ _
      refine NoPanic.normal ?_
      go_wp2_with fail
      go_ret
      exact ⟨rfl, HK6.out⟩
end Go.Proofs.YtbjhgdimciibcaaDoor
