/-
  The program's lock: Encode, Decode; the document's Step and Decode.
-/
import Derived.Deep.RegionHeld3
import Derived.Laws.Tables
import Derived.BigQuiet
import Derived.Deep.AppendSrc
import Derived.Lib.SliceRun
import Derived.StillTailTactics
import Derived.Deep.Upon
import Derived.Laws.MakeOwn
import Derived.Test.YtbjhgdimciibcaaDoorLB10
import Derived.Test.YtbjhgdimciibcaaDoorLB08
import Derived.Test.YtbjhgdimciibcaaDoorLB07
set_option linter.unusedSimpArgs false
set_option linter.unusedVariables false
namespace Go.Proofs.YtbjhgdimciibcaaDoor
open Go.RowKit
/-- A state's byte. -/
def lkB (s : Int) : List UInt8 := [UInt8.ofNat s.toNat]
theorem nb_lkB {s : Int} (h0 : 0 ≤ s) (h1 : s < 256) : nb (lkB s) = [s] := by
  simp only [nb, lkB, List.map_cons, List.map_nil, UInt8.toNat_ofNat', List.cons.injEq, and_true]
  omega
theorem conv_one (w : World) {s : Int} (h0 : 0 ≤ s) (h1 : s < 256) : (convert 40 9 (.slice (some ⟨w.heap.size, 0, none⟩) 1 1)).run Tryd.prog (w.alloc (.cells #[.int .u8 s] 5)) = .ok (.string (bs (lkB s))) (w.alloc (.cells #[.int .u8 s] 5)) := by
  rw [← str_nb (lkB s)]
  have := run_convert_bytes_arg (w.alloc (.cells #[.int .u8 s] 5)) 40 5 Tryd.underlying40 Tryd.underlying5 w.heap.size 0 1 1 (nb (lkB s)) (by rw [nb_lkB h0 h1]; rfl) (fun i hi => by
    obtain rfl : i = 0 := by omega
    rw [nb_lkB h0 h1]
    exact cell_lit (heap_alloc_new w (.cells #[.int .u8 s] 5)) 0 rfl) 9 Tryd.underlying9
  exact this
set_option maxHeartbeats 8000000
set_option maxRecDepth 100000
theorem lkEncode_any (w : World) (s : Int) (h0 : 0 ≤ s) (h1 : s < 256) : Calls Tryd.prog 14 #[.int .u8 s] w fun e w' => e = .returned (.string (bs (lkB s))) ∧ Keeps [] w w' := by
  have hc := conv_one w h0 h1
  have HK := Lib.hid (show Keeps [] w (w.alloc (.cells #[.int .u8 s] 5)) from (Keeps.refl _ _).alloc _)
  clear h0 h1
  go_enter Tryd.func14, Tryd.ntmps14
  go_wp2_with fail
  go_ret
  exact ⟨rfl, HK.out⟩
/-- The state that a text is, and the error. -/
def lkD : List UInt8 → Int × Int
  | [x] => if (x.toNat : Int) ≤ 16 then ((x.toNat : Int), 0) else (0, 4)
  | _ => (0, 4)
theorem lkD_one (x : UInt8) : lkD [x] = if (x.toNat : Int) ≤ 16 then ((x.toNat : Int), 0) else (0, 4) := rfl
theorem lkD_not {b : List UInt8} (h : b.length ≠ 1) : lkD b = (0, 4) := by
  match b, h with
  | [], _ => rfl
  | [x], h => exact absurd rfl h
  | _ :: _ :: _, _ => rfl
theorem one_size (x : UInt8) : (bs [x]).size = 1 := rfl
theorem lkDecode_any (w : World) (b : List UInt8) : Calls Tryd.prog 13 #[.string (bs b)] w fun e w' => e = .returned (.tuple #[.int .u8 (lkD b).1, .int .i64 (lkD b).2]) ∧ w' = w := by
  by_cases hb : b.length = 1
  · obtain ⟨x, rfl⟩ := List.length_eq_one_iff.1 hb
    have t1 : (((bs [x]).size : Int) != 1) = false := rfl
    have t2 : 0 < (bs [x]).size := by rw [one_size]; decide
    have HX := Lib.hid (fun w => (show Calls Tryd.prog 24 #[.int .u8 (((bs [x])[0]'t2).toNat : Int)] w _ from lkExists_any w (x.toNat : Int)))
    rw [lkD_one]
    clear hb
    by_cases h : (x.toNat : Int) ≤ 16
    · rw [if_pos h]
      rw [decide_eq_true h] at HX
      go_enter Tryd.func13, Tryd.ntmps13
      go_wp2_with fail
      refine (HX.out _).mono ?_; rintro e w2 ⟨rfl, rfl⟩
      go_wp2_with fail
      go_ret2
      exact ⟨rfl, rfl⟩
    · rw [if_neg h]
      rw [decide_eq_false h] at HX
      go_enter Tryd.func13, Tryd.ntmps13
      go_wp2_with fail
      refine (HX.out _).mono ?_; rintro e w2 ⟨rfl, rfl⟩
      go_wp2_with fail
      go_ret2
      exact ⟨rfl, rfl⟩
  · have hz : (bs b).size = b.length := by show b.toArray.size = _; simp
    have t1 : (((bs b).size : Int) != 1) = true := by rw [hz]; simp; omega
    rw [lkD_not hb]
    clear hb hz
    go_enter Tryd.func13, Tryd.ntmps13
    go_wp2_with fail
    go_ret2
    exact ⟨rfl, rfl⟩
end Go.Proofs.YtbjhgdimciibcaaDoor
/-
  The program's lock: Run.
-/
namespace Go.Proofs.YtbjhgdimciibcaaDoor
open Go.RowKit
section
variable {ops : Array Oper} {rest : List Oper} {a : Act} {w : World} {Q : Exit → Act → World → Prop}
set_option maxRecDepth 100000 in
theorem wpList_loadP {dst : Option Tmp} {ty : TypeId} {pos : String} {after : Array Edge} {gd : Option (Nat × Bool)} {x : Operand} {g off : Nat} (y : Opn)
    (hw : Region.wanted { dst := dst, op := .load 24 x, type := ty, pos := pos, after := after, guard := gd } (yielded ops a.tmps) = true)
    (hx : a.eval x = .pointer (some ⟨g, off, none⟩)) (hr : w.rangeAt g off (opC y)) (h : wpList Tryd.prog ops Q rest (a.put dst (.agg #[.int .u8 y.f, .int .u8 y.o, .int .u8 y.k, .int .u16 y.a, .int .u16 y.b])) w) :
    wpList Tryd.prog ops Q ({ dst := dst, op := .load 24 x, type := ty, pos := pos, after := after, guard := gd } :: rest) a w :=
  wpList_step fun _ hK => by
    rw [if_pos hw]
    exact wp_load_mid 24 x rfl g off hx (opC y) _ hr Tryd.underlying24 rfl (by kernel_rfl) (hK _ _ h)
end
/-- The parts of a call that stands in memory. -/
theorem cl_parts {w : World} {g off : Nat} {y : Cl} (h : w.rangeAt g off (clC y)) : w.cell? ⟨g, off, none⟩ = some (.int .u8 y.c) ∧ w.rangeAt g (off + 1) (opC y.x) := by
  refine ⟨h 0 _ rfl, fun j v hv => ?_⟩
  have := h (j + 1) v (by simpa [clC, opC] using hv)
  rw [show off + 1 + j = off + (j + 1) by omega]
  exact this
theorem cl_block {w : World} {g : Nat} {y : Cl} {t : TypeId} (h : w.heap[g]? = some (.cells (clC y).toArray t (0, 0))) : w.rangeAt g 0 (clC y) := fun j v hv => by
  rw [Nat.zero_add]
  exact cell_lit h j (by simpa using hv)
/-- A new block, then stores into it. -/
theorem Keeps.trans' {a b c : World} {g : Nat} (h : Keeps [] a b) (k : Keeps [g] b c) (hg : a.heap.size ≤ g) : Keeps [] a c := h.trans k (fun q hq => .inr (by simp at hq; omega))
set_option maxHeartbeats 8000000
set_option maxRecDepth 100000
end Go.Proofs.YtbjhgdimciibcaaDoor
/-
  Stage 12's law: acquire, release, steps, works.
-/
namespace Go.Proofs.YtbjhgdimciibcaaDoor
open Go.RowKit
theorem results_cl {fn : Func} {p : Tmp} (h : fn.results = #[.cell p 49]) (tmps : Array Value) (w : World) (b : Nat) (y : Cl) {t : TypeId}
    (hp : tmps.getD p undef = .pointer (some ⟨b, 0, none⟩)) (hb : w.heap[b]? = some (.cells (clC y).toArray t (0, 0))) : (results fn tmps).run Tryd.prog w = .ok (.agg (clC y).toArray) w :=
  results_cell_row (P := Tryd.prog) h _ _ _ _ _ _ _ hp hb Tryd.underlying49 rfl (by kernel_rfl)
set_option maxHeartbeats 8000000
set_option maxRecDepth 100000
theorem acq12_any (w : World) (c : Int) : Calls Tryd.prog 20 #[.int .u8 c] w fun e w' => e = .returned (.agg (clC ⟨c, ⟨10, 0, 0, 0, 0⟩⟩).toArray) ∧ Keeps [] w w' := by
  have h := heap_alloc_new w (.cells (clC ⟨c, ⟨10, 0, 0, 0, 0⟩⟩).toArray 49)
  have HN := Lib.hid h
  have HK := Lib.hid (show Keeps [] w (w.alloc (.cells (clC ⟨c, ⟨10, 0, 0, 0, 0⟩⟩).toArray 49)) from (Keeps.refl _ _).alloc _)
  clear h
  go_enter Tryd.func20, Tryd.ntmps20
  go_wp2_with fail
  try simp only [Exit.inBlock, Exit.then]
  exact bodyPost_ret (results_cl rfl _ _ w.heap.size ⟨c, ⟨10, 0, 0, 0, 0⟩⟩ rfl HN.out) rfl ⟨rfl, HK.out⟩
theorem rel12_any (w : World) (c : Int) : Calls Tryd.prog 21 #[.int .u8 c] w fun e w' => e = .returned (.agg (clC ⟨c, ⟨11, 0, 0, 0, 0⟩⟩).toArray) ∧ Keeps [] w w' := by
  have h := heap_alloc_new w (.cells (clC ⟨c, ⟨11, 0, 0, 0, 0⟩⟩).toArray 49)
  have HN := Lib.hid h
  have HK := Lib.hid (show Keeps [] w (w.alloc (.cells (clC ⟨c, ⟨11, 0, 0, 0, 0⟩⟩).toArray 49)) from (Keeps.refl _ _).alloc _)
  clear h
  go_enter Tryd.func21, Tryd.ntmps21
  go_wp2_with fail
  try simp only [Exit.inBlock, Exit.then]
  exact bodyPost_ret (results_cl rfl _ _ w.heap.size ⟨c, ⟨11, 0, 0, 0, 0⟩⟩ rfl HN.out) rfl ⟨rfl, HK.out⟩
theorem steps12_any (w : World) (hG : Glob4 w) {s : Int} (hs : 0 ≤ s ∧ s < 256) {y : Cl} (hy : y.In) {u k : Int} (hX : lkX s y.c y.x = (u, ⟨k, 0⟩, 0)) :
    Calls Tryd.prog 22 #[.int .u8 s, .agg (clC y).toArray, .int .u8 u, .int .u8 k] w fun e w' => e = .returned (.bool true) ∧ Keeps [] w w' := by
  have HB := Lib.hid (heap_alloc_new w (.cells (clC y).toArray 49))
  have HK0 := Lib.hid (show Keeps [] w (w.alloc (.cells (clC y).toArray 49)) from (Keeps.refl _ _).alloc _)
  have hst := fun w hG => lkStep_any w hG y.x hs ⟨hy.c0, hy.c1⟩ hy.x
  rw [hX] at hst
  have HST := Lib.hid hst
  have HGL := Lib.hid (hG.new HK0.out)
  have t1 : (u == u) = true := by simp
  have t2 : (k == k) = true := by simp
  clear hst hs hy hX hG
  have c0 : (w.alloc (.cells (clC y).toArray 49)).cell? ⟨w.heap.size, 0, none⟩ = some (.int .u8 y.c) := (cl_parts (cl_block HB.out)).1
  have HRO := Lib.hid (cl_parts (cl_block HB.out)).2
  go_enter Tryd.func22, Tryd.ntmps22
  go_wp2_with ((with_reducible refine wpList_loadP (g := w.heap.size) (off := 1) y.x ?_ ?_ HRO.out ?_); exact rfl; exact rfl)
  refine (show Calls Tryd.prog 10 #[.int .u8 s, .int .u8 y.c, y.x.val] _ _ from HST.out _ HGL.out).mono ?_
  rintro e w2 ⟨rfl, hk2⟩
  have HK2 := Lib.hid (HK0.out.trans hk2 (FSub.refl _ _))
  clear c0 hk2 HRO HB HK0 HGL
  have HC2 := Lib.hid (show (w2.alloc (.cells #[.int .u8 0, .int .u16 0] 27)).heap[w2.heap.size]? = some (.cells (ansC ⟨0, 0⟩).toArray 27 (0, 0)) from heap_alloc_new w2 _)
  have HKA2 := Lib.hid (show Keeps [] w2 (w2.alloc (.cells #[.int .u8 0, .int .u16 0] 27)) from (Keeps.refl _ _).alloc _)
  go_wp2_with ((with_reducible refine wpList_putR12 (g := w2.heap.size) (old := ⟨0, 0⟩) ⟨k, 0⟩ ?_ ?_ HC2.out ?_); exact rfl; exact rfl)
  intro w3 hW3 hk3
  have HK3 := Lib.hid (HK2.out.trans (HKA2.out.trans' hk3 (by simp)) (FSub.refl _ _))
  clear hk3 HC2 HKA2 HK2
  generalize w2.heap.size = gr at *
  have d0 : w3.cell? ⟨gr, 0, none⟩ = some (.int .u8 k) := cell_lit hW3 0 rfl
  have d1 : w3.cell? ⟨gr, 1, none⟩ = some (.int .u16 0) := cell_lit hW3 1 rfl
  clear hW3
  go_wp2_with fail
  go_ret
  exact ⟨rfl, HK3.out⟩
theorem cl_in {c f : Int} (h0 : 0 ≤ c) (h1 : c < 256) (h2 : 0 ≤ f) (h3 : f < 256) : Cl.In ⟨c, ⟨f, 0, 0, 0, 0⟩⟩ := ⟨h0, h1, ⟨h2, h3, by simp, by simp, by simp, by simp, by simp, by simp, by simp, by simp⟩⟩
theorem works12_any (w : World) (hG : Glob4 w) : Calls Tryd.prog 17 #[] w fun e w' => e = .returned (.bool true) ∧ Keeps [] w w' := by
  have HG := Lib.hid (fun w' (h : Keeps [] w w') => hG.new h)
  clear hG
  go_enter Tryd.func17, Tryd.ntmps17
  go_wp2_with fail
  refine (lkNew_any w).mono ?_; rintro e w1 ⟨rfl, rfl⟩
  go_wp2_with fail
  refine (acq12_any _ 0).mono ?_; rintro e w2 ⟨rfl, hk2⟩
  have HK2 := Lib.hid hk2; clear hk2
  go_wp2_with fail
  refine (steps12_any w2 (HG.out _ HK2.out) (by decide) (cl_in (by decide) (by decide) (by decide) (by decide)) rfl).mono ?_; rintro e w3 ⟨rfl, hk3⟩
  have HK3 := Lib.hid (HK2.out.trans hk3 (FSub.refl _ _)); clear hk3 HK2
  go_wp2_with fail
  refine (acq12_any _ 1).mono ?_; rintro e w4 ⟨rfl, hk4⟩
  have HK4 := Lib.hid (HK3.out.trans hk4 (FSub.refl _ _)); clear hk4 HK3
  go_wp2_with fail
  refine (steps12_any w4 (HG.out _ HK4.out) (by decide) (cl_in (by decide) (by decide) (by decide) (by decide)) rfl).mono ?_; rintro e w5 ⟨rfl, hk5⟩
  have HK5 := Lib.hid (HK4.out.trans hk5 (FSub.refl _ _)); clear hk5 HK4
  go_wp2_with fail
  refine (rel12_any _ 1).mono ?_; rintro e w6 ⟨rfl, hk6⟩
  have HK6 := Lib.hid (HK5.out.trans hk6 (FSub.refl _ _)); clear hk6 HK5
  go_wp2_with fail
  refine (steps12_any w6 (HG.out _ HK6.out) (by decide) (cl_in (by decide) (by decide) (by decide) (by decide)) rfl).mono ?_; rintro e w7 ⟨rfl, hk7⟩
  have HK7 := Lib.hid (HK6.out.trans hk7 (FSub.refl _ _)); clear hk7 HK6
  go_wp2_with fail
  refine (rel12_any _ 0).mono ?_; rintro e w8 ⟨rfl, hk8⟩
  have HK8 := Lib.hid (HK7.out.trans hk8 (FSub.refl _ _)); clear hk8 HK7
  go_wp2_with fail
  refine (lkNew_any w8).mono ?_; rintro e w9 ⟨rfl, rfl⟩
  go_wp2_with fail
  refine (steps12_any w9 (HG.out _ HK8.out) (by decide) (cl_in (by decide) (by decide) (by decide) (by decide)) rfl).mono ?_; rintro e w10 ⟨rfl, hk10⟩
  have HK10 := Lib.hid (HK8.out.trans hk10 (FSub.refl _ _)); clear hk10 HK8
  go_wp2_with fail
  go_ret
  exact ⟨rfl, HK10.out⟩
end Go.Proofs.YtbjhgdimciibcaaDoor
/-
  LockTexts' and LockBack's walks.
-/
namespace Go.Proofs.YtbjhgdimciibcaaDoor
open Go.RowKit
theorem lkB_nat (x : UInt8) : lkB (x.toNat : Int) = [x] := by
  unfold lkB
  simp
theorem lkD_lkB {s : Int} (h0 : 0 ≤ s) (h1 : s < 256) : lkD (lkB s) = if s ≤ 16 then (s, 0) else (0, 4) := by
  have e : ((UInt8.ofNat s.toNat).toNat : Int) = s := by
    simp only [UInt8.toNat_ofNat']
    omega
  unfold lkB
  rw [lkD_one, e]
theorem lkD_ways (b : List UInt8) : (∃ d : Int, 0 ≤ d ∧ d ≤ 16 ∧ b = lkB d ∧ lkD b = (d, 0)) ∨ lkD b = (0, 4) := by
  by_cases hb : b.length = 1
  · obtain ⟨x, rfl⟩ := List.length_eq_one_iff.1 hb
    rw [lkD_one]
    by_cases h : (x.toNat : Int) ≤ 16
    · exact .inl ⟨x.toNat, by omega, h, (lkB_nat x).symm, if_pos h⟩
    · exact .inr (if_neg h)
  · exact .inr (lkD_not hb)
set_option maxHeartbeats 8000000
set_option maxRecDepth 100000
theorem LockBack_any (w : World) (hG : Glob4 w) {s : Int} (h0 : 0 ≤ s) (h1 : s < 256) (b : List UInt8) : Calls Tryd.prog 8 #[.int .u8 s, .string (bs b)] w fun e w' => e = .returned (.bool true) ∧ Keeps [] w w' := by
  have hz : (bs b).size = b.length := by show b.toArray.size = _; simp
  have HW := Lib.hid (fun w' (h : Keeps [] w w') => works12_any w' (hG.new h))
  clear hG
  by_cases hn : b.length ≤ 100
  · have t1 : ¬ (100 : Int) < (bs b).size := by omega
    have HE := Lib.hid (lkEncode_any w s h0 h1)
    have HDE := Lib.hid (fun w => lkDecode_any w (lkB s))
    have HD := Lib.hid (fun w => lkDecode_any w b)
    rw [lkD_lkB h0 h1] at HDE
    rcases lkD_ways b with ⟨d, hd0, hd1, rfl, hd⟩ | hd
    · rw [hd] at HD
      have HEN := Lib.hid (fun w => lkEncode_any w d hd0 (by omega))
      clear hd hd0 hd1 hz hn
      have t9 : ((bs (lkB d)).toList == (bs (lkB d)).toList) = true := by simp
      by_cases hs : s ≤ 16
      · rw [if_pos hs] at HDE
        have t2 : decide (s ≤ 16) = true := decide_eq_true hs
        have t3 : (s == s) = true := by simp
        clear hs h0 h1
        go_enter Tryd.func8, Tryd.ntmps8
        go_wp2_with fail
        refine HE.out.mono ?_; rintro e w1 ⟨rfl, hk1⟩
        have HK1 := Lib.hid hk1; clear hk1
        go_wp2_with fail
        refine (HDE.out w1).mono ?_; rintro e w2 ⟨rfl, rfl⟩
        go_wp2_with fail
        refine (HD.out w2).mono ?_; rintro e w3 ⟨rfl, rfl⟩
        go_wp2_with fail
        refine (HEN.out w3).mono ?_; rintro e w4 ⟨rfl, hk4⟩
        have HK4 := Lib.hid (HK1.out.trans hk4 (FSub.refl _ _)); clear hk4
        go_wp2_with fail
        refine (HW.out _ HK4.out).mono ?_; rintro e w5 ⟨rfl, hk5⟩
        go_wp2_with fail
        go_ret
        exact ⟨rfl, HK4.out.trans hk5 (FSub.refl _ _)⟩
      · rw [if_neg hs] at HDE
        have t2 : decide (s ≤ 16) = false := decide_eq_false hs
        clear hs h0 h1
        go_enter Tryd.func8, Tryd.ntmps8
        go_wp2_with fail
        refine HE.out.mono ?_; rintro e w1 ⟨rfl, hk1⟩
        have HK1 := Lib.hid hk1; clear hk1
        go_wp2_with fail
        refine (HDE.out w1).mono ?_; rintro e w2 ⟨rfl, rfl⟩
        go_wp2_with fail
        refine (HD.out w2).mono ?_; rintro e w3 ⟨rfl, rfl⟩
        go_wp2_with fail
        refine (HEN.out w3).mono ?_; rintro e w4 ⟨rfl, hk4⟩
        have HK4 := Lib.hid (HK1.out.trans hk4 (FSub.refl _ _)); clear hk4
        go_wp2_with fail
        refine (HW.out _ HK4.out).mono ?_; rintro e w5 ⟨rfl, hk5⟩
        go_wp2_with fail
        go_ret
        exact ⟨rfl, HK4.out.trans hk5 (FSub.refl _ _)⟩
    · rw [hd] at HD
      clear hd hz hn
      by_cases hs : s ≤ 16
      · rw [if_pos hs] at HDE
        have t2 : decide (s ≤ 16) = true := decide_eq_true hs
        have t3 : (s == s) = true := by simp
        clear hs h0 h1
        go_enter Tryd.func8, Tryd.ntmps8
        go_wp2_with fail
        refine HE.out.mono ?_; rintro e w1 ⟨rfl, hk1⟩
        have HK1 := Lib.hid hk1; clear hk1
        go_wp2_with fail
        refine (HDE.out w1).mono ?_; rintro e w2 ⟨rfl, rfl⟩
        go_wp2_with fail
        refine (HD.out w2).mono ?_; rintro e w3 ⟨rfl, rfl⟩
        go_wp2_with fail
        refine (HW.out _ HK1.out).mono ?_; rintro e w5 ⟨rfl, hk5⟩
        go_wp2_with fail
        go_ret
        exact ⟨rfl, HK1.out.trans hk5 (FSub.refl _ _)⟩
      · rw [if_neg hs] at HDE
        have t2 : decide (s ≤ 16) = false := decide_eq_false hs
        clear hs h0 h1
        go_enter Tryd.func8, Tryd.ntmps8
        go_wp2_with fail
        refine HE.out.mono ?_; rintro e w1 ⟨rfl, hk1⟩
        have HK1 := Lib.hid hk1; clear hk1
        go_wp2_with fail
        refine (HDE.out w1).mono ?_; rintro e w2 ⟨rfl, rfl⟩
        go_wp2_with fail
        refine (HD.out w2).mono ?_; rintro e w3 ⟨rfl, rfl⟩
        go_wp2_with fail
        refine (HW.out _ HK1.out).mono ?_; rintro e w5 ⟨rfl, hk5⟩
        go_wp2_with fail
        go_ret
        exact ⟨rfl, HK1.out.trans hk5 (FSub.refl _ _)⟩
  · skip
    have t1 : (100 : Int) < (bs b).size := by omega
    clear h0 h1
    go_enter Tryd.func8, Tryd.ntmps8
    go_wp2_with fail
    refine (HW.out _ (Keeps.refl _ _)).mono ?_; rintro e w3 ⟨rfl, hk3⟩
    go_wp2_with fail
    go_ret
    exact ⟨rfl, hk3⟩
end Go.Proofs.YtbjhgdimciibcaaDoor
