/-
  The program's lock: Encode, Decode; the document's Step and Decode.
-/
import Derived.Deep.RegionHeld3
import Derived.Laws.Tables
import Derived.BigQuiet
import Derived.Deep.AppendSrc
import Derived.Lib.SliceRun
import Derived.Laws.MakeOwn
import Derived.Test.YtbjhgdimciibcaaDoorLR13
import Derived.Test.YtbjhgdimciibcaaDoorLR08
import Derived.Test.YtbjhgdimciibcaaDoorLR07
import Derived.Test.YtbjhgdimciibcaaDoorLR11
import Derived.Test.YtbjhgdimciibcaaDoorLR10
import Derived.Test.YtbjhgdimciibcaaDoorLR09
set_option linter.unusedSimpArgs false
set_option linter.unusedVariables false
namespace Go.Proofs.YtbjhgdimciibcaaDoor
open Go.RowKit
set_option maxHeartbeats 8000000
set_option maxRecDepth 100000
theorem r12Step_any (w : World) {s c h : Int} (x : Opn) (hh : h = s - 1) (hs : 0 ≤ s ∧ s < 256) (hc : 0 ≤ c ∧ c < 256) (hx : x.In) : Calls Tryd.prog 11 #[.int .i64 h, .int .u8 c, x.val] w fun e w' =>
    e = .returned (.tuple #[.int .i64 ((lkX s c x).1 - 1), .agg (ansC (lkX s c x).2.1).toArray, .int .i64 (lkX s c x).2.2]) ∧ Keeps [] w w' := by
  obtain ⟨e1, h0, h1, hk⟩ := two_vars w #[.int .u8 x.f, .int .u8 x.o, .int .u8 x.k, .int .u16 x.a, .int .u16 x.b] #[.int .u8 0, .int .u16 0] 24 27
  obtain ⟨R, hR⟩ : ∃ R, R = w.heap.size := ⟨_, rfl⟩
  have HC := Lib.hid (fun w => r4Check_any w 3 x.f x.o x.k x.a x.b (by omega) (by omega) hx)
  rw [← hR] at h0 h1 e1
  have H0 := Lib.hid h0; have H1 := Lib.hid h1; have HK := Lib.hid hk; have HRR := Lib.hid hR
  have HRL := Lib.hid (show w.heap.size ≤ R from Nat.le_of_eq hR.symm)
  have wc : IntKind.i64.wrap c = c := by simp [IntKind.wrap, IntKind.signed, IntKind.bits]; omega
  clear h0 h1 hk e1 hR hx
  unfold Opn.val
  rcases lkX_ways s c x with hw | hw | hw | hw | hw | hw
  · rw [hw.2]
    rw [hw.1] at HC
    subst hh
    clear hw
    go_enter Tryd.func11, Tryd.ntmps11
    go_wp2_with fail
    rw [← HRR.out]
    refine (HC.out _).mono ?_; rintro e w1 ⟨rfl, hk1⟩
    have HB1 := Lib.hid (show w1.heap[R + 1]? = some (.cells (ansC ⟨0, 0⟩).toArray 27 (0, 0)) from hk1.heap H1.out (by simp))
    have c0 : w1.cell? ⟨R, 0, none⟩ = some (.int .u8 x.f) := cell_lit (hk1.heap H0.out (by simp)) 0 rfl
    have HK1 := Lib.hid (HK.out.trans hk1 (FSub.refl _ _))
    clear hk1
    go_wp2_with ((with_reducible refine wpList_putR12 (g := R + 1) (old := ⟨0, 0⟩) ⟨0, 0⟩ ?_ ?_ HB1.out ?_); exact rfl; exact rfl)
    intro W hW hkW
    have HW := Lib.hid hW; have HKW := Lib.hid hkW
    clear hW hkW
    go_wp2_with fail
    try simp only [Exit.inBlock, Exit.then]
    exact bodyPost_ret (results_ans rfl _ _ (R + 1) ⟨0, 0⟩ rfl HW.out) rfl ⟨rfl, HK1.out.trans HKW.out (fun q hq => .inr (by have := HRL.out; simp at hq; omega))⟩
  · rw [hw.2.2]
    rw [hw.1] at HC
    by_cases h15 : 15 < c
    · have z1 : decide (15 < c) = true := decide_eq_true h15
      subst hh
      clear hw
      go_enter Tryd.func11, Tryd.ntmps11
      go_wp2_with fail
      rw [← HRR.out]
      refine (HC.out _).mono ?_; rintro e w1 ⟨rfl, hk1⟩
      have HB1 := Lib.hid (show w1.heap[R + 1]? = some (.cells (ansC ⟨0, 0⟩).toArray 27 (0, 0)) from hk1.heap H1.out (by simp))
      have c0 : w1.cell? ⟨R, 0, none⟩ = some (.int .u8 x.f) := cell_lit (hk1.heap H0.out (by simp)) 0 rfl
      have HK1 := Lib.hid (HK.out.trans hk1 (FSub.refl _ _))
      clear hk1
      go_wp2_with ((with_reducible refine wpList_putR12 (g := R + 1) (old := ⟨0, 0⟩) ⟨0, 0⟩ ?_ ?_ HB1.out ?_); exact rfl; exact rfl)
      intro W hW hkW
      have HW := Lib.hid hW; have HKW := Lib.hid hkW
      clear hW hkW
      go_wp2_with fail
      try simp only [Exit.inBlock, Exit.then]
      exact bodyPost_ret (results_ans rfl _ _ (R + 1) ⟨0, 0⟩ rfl HW.out) rfl ⟨rfl, HK1.out.trans HKW.out (fun q hq => .inr (by have := HRL.out; simp at hq; omega))⟩
    · have z1 : decide (15 < c) = false := decide_eq_false h15
      have z2 : decide (15 < h) = true := decide_eq_true (by omega)
      have HH := Lib.hid hh
      clear hw hh
      go_enter Tryd.func11, Tryd.ntmps11
      go_wp2_with fail
      rw [← HRR.out]
      refine (HC.out _).mono ?_; rintro e w1 ⟨rfl, hk1⟩
      have HB1 := Lib.hid (show w1.heap[R + 1]? = some (.cells (ansC ⟨0, 0⟩).toArray 27 (0, 0)) from hk1.heap H1.out (by simp))
      have c0 : w1.cell? ⟨R, 0, none⟩ = some (.int .u8 x.f) := cell_lit (hk1.heap H0.out (by simp)) 0 rfl
      have HK1 := Lib.hid (HK.out.trans hk1 (FSub.refl _ _))
      clear hk1
      go_wp2_with ((with_reducible refine wpList_putR12 (g := R + 1) (old := ⟨0, 0⟩) ⟨0, 0⟩ ?_ ?_ HB1.out ?_); exact rfl; exact rfl)
      intro W hW hkW
      have HW := Lib.hid hW; have HKW := Lib.hid hkW
      clear hW hkW
      go_wp2_with fail
      try simp only [Exit.inBlock, Exit.then]
      exact bodyPost_ret (results_ans rfl _ _ (R + 1) ⟨0, 0⟩ rfl HW.out) rfl ⟨(by rw [HH.out]; rfl), HK1.out.trans HKW.out (fun q hq => .inr (by have := HRL.out; simp at hq; omega))⟩
  · rw [hw.2.2.2.2.2]
    rw [hw.1] at HC
    have z1 : decide (15 < c) = false := decide_eq_false (by omega)
    have z2 : decide (15 < h) = false := decide_eq_false (by omega)
    have z3 : (x.f == 10) = true := by simpa using hw.2.2.2.1
    obtain rfl : h = -1 := by omega
    have HE := Lib.hid (show c + 1 - 1 = c from by omega)
    clear hw hh
    go_enter Tryd.func11, Tryd.ntmps11
    go_wp2_with fail
    rw [← HRR.out]
    refine (HC.out _).mono ?_; rintro e w1 ⟨rfl, hk1⟩
    have HB1 := Lib.hid (show w1.heap[R + 1]? = some (.cells (ansC ⟨0, 0⟩).toArray 27 (0, 0)) from hk1.heap H1.out (by simp))
    have c0 : w1.cell? ⟨R, 0, none⟩ = some (.int .u8 x.f) := cell_lit (hk1.heap H0.out (by simp)) 0 rfl
    have HK1 := Lib.hid (HK.out.trans hk1 (FSub.refl _ _))
    clear hk1
    go_wp2_with ((with_reducible refine wpList_putR12 (g := R + 1) (old := ⟨0, 0⟩) ⟨3, 0⟩ ?_ ?_ HB1.out ?_); exact rfl; exact rfl)
    intro W hW hkW
    have HW := Lib.hid hW; have HKW := Lib.hid hkW
    clear hW hkW
    go_wp2_with fail
    try simp only [Exit.inBlock, Exit.then]
    exact bodyPost_ret (results_ans rfl _ _ (R + 1) ⟨3, 0⟩ rfl HW.out) rfl ⟨(by show _ = Ending.returned (.tuple #[.int .i64 (c + 1 - 1), _, _]); rw [HE.out]; rfl), HK1.out.trans HKW.out (fun q hq => .inr (by have := HRL.out; simp at hq; omega))⟩
  · rw [hw.2.2.2.2.2]
    rw [hw.1] at HC
    have z1 : decide (15 < c) = false := decide_eq_false (by omega)
    have z2 : decide (15 < h) = false := decide_eq_false (by omega)
    have z3 : (x.f == 10) = true := by simpa using hw.2.2.2.1
    have z4 : (h == -1) = false := by simp; omega
    have z5 : (x.f == 11) = false := by simp; omega
    have HH := Lib.hid hh
    clear hw hh
    go_enter Tryd.func11, Tryd.ntmps11
    go_wp2_with fail
    rw [← HRR.out]
    refine (HC.out _).mono ?_; rintro e w1 ⟨rfl, hk1⟩
    have HB1 := Lib.hid (show w1.heap[R + 1]? = some (.cells (ansC ⟨0, 0⟩).toArray 27 (0, 0)) from hk1.heap H1.out (by simp))
    have c0 : w1.cell? ⟨R, 0, none⟩ = some (.int .u8 x.f) := cell_lit (hk1.heap H0.out (by simp)) 0 rfl
    have HK1 := Lib.hid (HK.out.trans hk1 (FSub.refl _ _))
    clear hk1
    go_wp2_with ((with_reducible refine wpList_putR12 (g := R + 1) (old := ⟨0, 0⟩) ⟨4, 0⟩ ?_ ?_ HB1.out ?_); exact rfl; exact rfl)
    intro W hW hkW
    have HW := Lib.hid hW; have HKW := Lib.hid hkW
    clear hW hkW
    go_wp2_with fail
    try simp only [Exit.inBlock, Exit.then]
    exact bodyPost_ret (results_ans rfl _ _ (R + 1) ⟨4, 0⟩ rfl HW.out) rfl ⟨(by rw [HH.out]; rfl), HK1.out.trans HKW.out (fun q hq => .inr (by have := HRL.out; simp at hq; omega))⟩
  · rw [hw.2.2.2.2.2]
    rw [hw.1] at HC
    have z1 : decide (15 < c) = false := decide_eq_false (by omega)
    have z2 : decide (15 < h) = false := decide_eq_false (by omega)
    have z3 : (x.f == 10) = false := by simp; omega
    have z5 : (x.f == 11) = true := by simp; omega
    obtain rfl : h = c := by omega
    have z6 : (h == h) = true := by simp
    clear hw hh
    go_enter Tryd.func11, Tryd.ntmps11
    go_wp2_with fail
    rw [← HRR.out]
    refine (HC.out _).mono ?_; rintro e w1 ⟨rfl, hk1⟩
    have HB1 := Lib.hid (show w1.heap[R + 1]? = some (.cells (ansC ⟨0, 0⟩).toArray 27 (0, 0)) from hk1.heap H1.out (by simp))
    have c0 : w1.cell? ⟨R, 0, none⟩ = some (.int .u8 x.f) := cell_lit (hk1.heap H0.out (by simp)) 0 rfl
    have HK1 := Lib.hid (HK.out.trans hk1 (FSub.refl _ _))
    clear hk1
    go_wp2_with ((with_reducible refine wpList_putR12 (g := R + 1) (old := ⟨0, 0⟩) ⟨3, 0⟩ ?_ ?_ HB1.out ?_); exact rfl; exact rfl)
    intro W hW hkW
    have HW := Lib.hid hW; have HKW := Lib.hid hkW
    clear hW hkW
    go_wp2_with fail
    try simp only [Exit.inBlock, Exit.then]
    exact bodyPost_ret (results_ans rfl _ _ (R + 1) ⟨3, 0⟩ rfl HW.out) rfl ⟨rfl, HK1.out.trans HKW.out (fun q hq => .inr (by have := HRL.out; simp at hq; omega))⟩
  · rw [hw.2.2.2.2.2]
    rw [hw.1] at HC
    have z1 : decide (15 < c) = false := decide_eq_false (by omega)
    have z2 : decide (15 < h) = false := decide_eq_false (by omega)
    have z3 : (x.f == 10) = false := by simp; omega
    have z5 : (x.f == 11) = true := by simp; omega
    have z6 : (h == c) = false := by simp; omega
    have HH := Lib.hid hh
    clear hw hh
    go_enter Tryd.func11, Tryd.ntmps11
    go_wp2_with fail
    rw [← HRR.out]
    refine (HC.out _).mono ?_; rintro e w1 ⟨rfl, hk1⟩
    have HB1 := Lib.hid (show w1.heap[R + 1]? = some (.cells (ansC ⟨0, 0⟩).toArray 27 (0, 0)) from hk1.heap H1.out (by simp))
    have c0 : w1.cell? ⟨R, 0, none⟩ = some (.int .u8 x.f) := cell_lit (hk1.heap H0.out (by simp)) 0 rfl
    have HK1 := Lib.hid (HK.out.trans hk1 (FSub.refl _ _))
    clear hk1
    go_wp2_with ((with_reducible refine wpList_putR12 (g := R + 1) (old := ⟨0, 0⟩) ⟨4, 0⟩ ?_ ?_ HB1.out ?_); exact rfl; exact rfl)
    intro W hW hkW
    have HW := Lib.hid hW; have HKW := Lib.hid hkW
    clear hW hkW
    go_wp2_with fail
    try simp only [Exit.inBlock, Exit.then]
    exact bodyPost_ret (results_ans rfl _ _ (R + 1) ⟨4, 0⟩ rfl HW.out) rfl ⟨(by rw [HH.out]; rfl), HK1.out.trans HKW.out (fun q hq => .inr (by have := HRL.out; simp at hq; omega))⟩
end Go.Proofs.YtbjhgdimciibcaaDoor
/-
  The program's lock: Run.
-/
namespace Go.Proofs.YtbjhgdimciibcaaDoor
open Go.RowKit
section
variable {ops : Array Oper} {rest : List Oper} {a : Act} {w : World} {Q : Exit → Act → World → Prop}
set_option maxRecDepth 100000 in
theorem wpList_loadP {dst : Option Tmp} {ty : TypeId} {pos : String} {after : Array Edge} {gd : Option (Nat × Bool)} {x : Operand} {g off : Nat} (y : Opn)
    (hw : Region.wanted { dst := dst, op := .load 24 x, type := ty, pos := pos, after := after, guard := gd } (yielded ops a.tmps) = true)
    (hx : a.eval x = .pointer (some ⟨g, off, none⟩)) (hr : w.rangeAt g off (opC y)) (h : wpList Tryd.prog ops Q rest (a.put dst (.agg #[.int .u8 y.f, .int .u8 y.o, .int .u8 y.k, .int .u16 y.a, .int .u16 y.b])) w) :
    wpList Tryd.prog ops Q ({ dst := dst, op := .load 24 x, type := ty, pos := pos, after := after, guard := gd } :: rest) a w :=
  wpList_step fun _ hK => by
    rw [if_pos hw]
    exact wp_load_mid 24 x rfl g off hx (opC y) _ hr Tryd.underlying24 rfl (by kernel_rfl) (hK _ _ h)
set_option maxRecDepth 100000 in
theorem wpList_loadCl {dst : Option Tmp} {ty : TypeId} {pos : String} {after : Array Edge} {gd : Option (Nat × Bool)} {x : Operand} {g off : Nat} (y : Cl)
    (hw : Region.wanted { dst := dst, op := .load 49 x, type := ty, pos := pos, after := after, guard := gd } (yielded ops a.tmps) = true)
    (hx : a.eval x = .pointer (some ⟨g, off, none⟩)) (hr : w.rangeAt g off (clC y)) (h : wpList Tryd.prog ops Q rest (a.put dst (.agg (clC y).toArray)) w) :
    wpList Tryd.prog ops Q ({ dst := dst, op := .load 49 x, type := ty, pos := pos, after := after, guard := gd } :: rest) a w :=
  rkCl.wpList_load Tryd.underlying49 rfl rfl hw hx hr h
set_option maxRecDepth 100000 in
theorem wpList_putCl {dst : Option Tmp} {ty : TypeId} {pos : String} {after : Array Edge} {x y : Operand} {g : Nat} {old : Cl} (r : Cl) {t : TypeId}
    (hx : a.eval x = .pointer (some ⟨g, 0, none⟩)) (hy : a.eval y = .agg (clC r).toArray) (hg : w.heap[g]? = some (.cells (clC old).toArray t (0, 0)))
    (h : ∀ W, W.heap[g]? = some (.cells (clC r).toArray t (0, 0)) → Keeps [g] w W → wpList Tryd.prog ops Q rest (a.put dst undef) W) :
    wpList Tryd.prog ops Q ({ dst := dst, op := .store 49 x y, type := ty, pos := pos, after := after, guard := none } :: rest) a w :=
  wpList_store_row rfl 49 x y rfl g (clC r).toArray hx hy t (clC old).toArray hg (by kernel_rfl) rfl (by rw [← Array.all_toList, List.all_eq_true]; exact clC_one r) (h _ (setRow_heap w g (clC old).toArray (clC r).toArray t (0, 0) hg) ((Keeps.refl [g] w).setRow g _ (.inl (by simp))))
end
/-- The parts of a call that stands in memory. -/
theorem cl_parts {w : World} {g off : Nat} {y : Cl} (h : w.rangeAt g off (clC y)) : w.cell? ⟨g, off, none⟩ = some (.int .u8 y.c) ∧ w.rangeAt g (off + 1) (opC y.x) := by
  refine ⟨h 0 _ rfl, fun j v hv => ?_⟩
  have := h (j + 1) v (by simpa [clC, opC] using hv)
  rw [show off + 1 + j = off + (j + 1) by omega]
  exact this
theorem cl_block {w : World} {g : Nat} {y : Cl} {t : TypeId} (h : w.heap[g]? = some (.cells (clC y).toArray t (0, 0))) : w.rangeAt g 0 (clC y) := fun j v hv => by
  rw [Nat.zero_add]
  exact cell_lit h j (by simpa using hv)
/-- A new block, then stores into it. -/
theorem Keeps.trans' {a b c : World} {g : Nat} (h : Keeps [] a b) (k : Keeps [g] b c) (hg : a.heap.size ≤ g) : Keeps [] a c := h.trans k (fun q hq => .inr (by simp at hq; omega))
set_option maxHeartbeats 8000000
set_option maxRecDepth 100000
theorem lkRun_any (w : World) (hG : Glob4 w) {s : Int} (hs : 0 ≤ s ∧ s < 256) {v : Value} {l : List Cl} (hl : ∀ y ∈ l, y.In) (hI : rkCl.In w.heap.size w v l) (hn : l.length ≤ 1000) :
    Calls Tryd.prog 18 #[.int .u8 s, v] w fun e w' => ∃ v', e = .returned (.tuple #[.int .u8 (stS lkY s l), v', .int .i64 (stE lkY s l)]) ∧ rkA.Own w.heap.size w' v' (stL lkY s l) ∧ Keeps [] w w' := by
  obtain ⟨a, cp, rfl, hc, hm, -⟩ := id hI
  have HIN := Lib.hid hI; have HLI := Lib.hid hl; have HGL := Lib.hid hG
  have HSI := Lib.hid (fun k => lkS_in s (l.take k) hs (fun x hx => hl x (List.mem_of_mem_take hx)))
  clear hI hl hG hs
  generalize hn2 : l.length = n at *
  have HN2 := Lib.hid hn2
  clear hn2
  go_enter Tryd.func18, Tryd.ntmps18
  go_wp2_with fail
  go_loopw [0, 7, 15] (fun sv z i wr => ∃ k : Nat, i = .int .i64 k ∧ k ≤ n ∧ stE lkY s (l.take k) = 0 ∧ sv = .int .u8 (stS lkY s (l.take k)) ∧ rkA.Own w.heap.size wr z (stL lkY s (l.take k)) ∧ Keeps [] w wr) (fun _ _ i _ => n - (intOf i).toNat)
  case atStart => exact ⟨0, rfl, by omega, rfl, rfl, RK.Own.nil rkA _ _, Keeps.refl _ _⟩
  case round =>
    obtain ⟨k, rfl, hk, he0, rfl, hz, hkw⟩ := hrel
    by_cases hlt : k < n
    · have hkl : k < l.length := by have := HN2.out; omega
      obtain ⟨g, o, rfl, hg, hr⟩ := InCl_at (HIN.out.new hkw (Nat.le_refl _)) hkl
      have HRW := Lib.hid hr
      have HNX := Lib.hid (st_next lkY hkl he0)
      have HST := Lib.hid (st_stop lkY hkl he0)
      have HXI := Lib.hid (HLI.out l[k] (List.getElem_mem hkl))
      have HSK := Lib.hid (HSI.out k)
      have HZ := Lib.hid hz; have HKW := Lib.hid hkw
      have HFL := Lib.hid (show (stL lkY s (l.take k)).length ≤ 10000 from Nat.le_trans (stL_few lkY k) (by have := HN2.out; omega))
      obtain ⟨az, cz, rfl, hcz, hmz⟩ := hz.shape
      clear hz hkw he0 hr
      generalize l[k] = y at *
      generalize stS lkY s (l.take k) = st at *
      have HA := Lib.hid (show (wr.alloc (.cells #[.int .u8 0, .int .u8 0, .int .u8 0, .int .u8 0, .int .u16 0, .int .u16 0] 49)).heap[wr.heap.size]? = some (.cells (clC clZero).toArray 49 (0, 0)) from heap_alloc_new wr _)
      have HKA := Lib.hid (show Keeps [] wr (wr.alloc (.cells #[.int .u8 0, .int .u8 0, .int .u8 0, .int .u8 0, .int .u16 0, .int .u16 0] 49)) from (Keeps.refl [] wr).alloc _)
      go_wp2_with (first
        | ((with_reducible refine wpList_loadCl (g := g) (off := o + k * 6) y ?_ ?_ HRW.out ?_); exact rfl; exact rfl)
        | ((with_reducible refine wpList_putCl (g := wr.heap.size) (old := clZero) y ?_ ?_ HA.out ?_); exact rfl; exact rfl))
      intro w1 hW1 hk1
      have HC1 := Lib.hid hW1
      have HK1 := Lib.hid (HKW.out.trans (HKA.out.trans' hk1 (by simp)) (FSub.refl _ _))
      have HZ1 := Lib.hid (HZ.out.keeps (HKA.out.trans' hk1 (by simp)) (by simp))
      clear hW1 hk1 HA HKA HRW HKW HZ
      generalize wr.heap.size = gb at *
      have c0 : w1.cell? ⟨gb, 0, none⟩ = some (.int .u8 y.c) := (cl_parts (cl_block HC1.out)).1
      have HRO := Lib.hid (cl_parts (cl_block HC1.out)).2
      go_wp2_with ((with_reducible refine wpList_loadP (g := gb) (off := 1) y.x ?_ ?_ HRO.out ?_); exact rfl; exact rfl)
      refine (show Calls Tryd.prog 10 #[.int .u8 st, .int .u8 y.c, y.x.val] w1 _ from lkStep_any w1 (HGL.out.new HK1.out) y.x HSK.out ⟨HXI.out.c0, HXI.out.c1⟩ HXI.out.x).mono ?_
      rintro e w2 ⟨rfl, hk2⟩
      have HK2 := Lib.hid (HK1.out.trans hk2 (FSub.refl _ _))
      have HZ2 := Lib.hid (HZ1.out.keeps hk2 (by simp))
      clear c0 hk2 HK1 HZ1 HRO HC1
      change Hid (_ = (lkX st y.c y.x).2.2 ∧ _ = (if (lkX st y.c y.x).2.2 = 0 then (lkX st y.c y.x).1 else st) ∧ _ = _ ++ (if (lkX st y.c y.x).2.2 = 0 then [(lkX st y.c y.x).2.1] else [])) at HNX
      change Hid ((lkX st y.c y.x).2.2 ≠ 0 → _ = (lkX st y.c y.x).2.2 ∧ _ = st ∧ _) at HST
      generalize lkX st y.c y.x = X at *
      obtain ⟨s1, r, e1⟩ := X
      have HC2 := Lib.hid (show (w2.alloc (.cells #[.int .u8 0, .int .u16 0] 27)).heap[w2.heap.size]? = some (.cells (ansC ⟨0, 0⟩).toArray 27 (0, 0)) from heap_alloc_new w2 _)
      have HKA2 := Lib.hid (show Keeps [] w2 (w2.alloc (.cells #[.int .u8 0, .int .u16 0] 27)) from (Keeps.refl _ _).alloc _)
      go_wp2_with ((with_reducible refine wpList_putR12 (g := w2.heap.size) (old := ⟨0, 0⟩) r ?_ ?_ HC2.out ?_); exact rfl; exact rfl)
      intro w3 hW3 hk3
      have HC3 := Lib.hid hW3
      have HK3 := Lib.hid (HK2.out.trans (HKA2.out.trans' hk3 (by simp)) (FSub.refl _ _))
      have HZ3 := Lib.hid (HZ2.out.keeps (HKA2.out.trans' hk3 (by simp)) (by simp))
      clear hW3 hk3 HC2 HKA2 HK2 HZ2
      generalize w2.heap.size = gr at *
      by_cases hx : e1 = 0
      · subst hx
        have hn1 := HNX.out
        simp only [if_true] at hn1
        have HN1 := Lib.hid hn1
        obtain ⟨v', w4, hrun, hrow4, hk4, hf4⟩ := rkA.append1 w3 w.heap.size HK3.out.size _ _ HZ3.out r (by have := HFL.out; omega)
        obtain ⟨rk, rv⟩ := r
        have d0 : w3.cell? ⟨gr, 0, none⟩ = some (.int .u8 rk) := cell_lit HC3.out 0 rfl
        have d1 : w3.cell? ⟨gr, 1, none⟩ = some (.int .u16 rv) := cell_lit HC3.out 1 rfl
        have HRUN := Lib.hid (show (Builtin.append_ #[45, 45] 45 #[.slice az (stL lkY s (l.take k)).length cz, .slice (some ⟨w3.heap.size, 0, none⟩) 1 1]).run Tryd.prog (w3.alloc (.cells #[.int .u8 rk, .int .u16 rv] 27)) = .ok v' w4 from hrun)
        have HROW := Lib.hid hrow4
        have HK4 := Lib.hid (HK3.out.trans hk4 (fun q hq => .inr (by have := (row_base HZ3.out q hq).1; omega)))
        obtain ⟨a9, c9, rfl, -, -⟩ := hrow4.shape
        clear hn1 hrun hrow4 hk4 hf4 HNX HST HZ3 HK3
        go_wp2_with ((with_reducible refine wpList_app (.slice az (stL lkY s (l.take k)).length cz) (.slice (some ⟨w3.heap.size, 0, none⟩) 1 1) ?_ ?_ HRUN.out ?_); exact rfl; exact rfl)
        go_roundw
        case rel => exact ⟨k + 1, by go_num, by omega, HN1.out.1, by rw [HN1.out.2.1], by rw [HN1.out.2.2]; have h := HROW.out; rw [List.length_append] at h; exact h, HK4.out⟩
        case measure => simp [intOf]; omega
      · have hb : (e1 != 0) = true := by simpa using hx
        have HE := Lib.hid (HST.out hx)
        clear hx HST HNX
        go_wp2_with fail
        go_ret3
        exact ⟨_, by rw [HE.out.1, HE.out.2.1]; rfl, by rw [HE.out.2.2]; exact HZ3.out, HK3.out⟩
    · obtain rfl : k = n := by omega
      have hall : l.take k = l := by rw [← HN2.out, List.take_length]
      rw [hall] at he0 hz
      have HZ := Lib.hid hz; have HKW := Lib.hid hkw; have HE := Lib.hid he0
      obtain ⟨az, cz, rfl, hcz, hmz⟩ := hz.shape
      rw [hall]
      clear hz hkw he0 hall
      go_wp2_with fail
      go_ret3
      exact ⟨_, by rw [HE.out]; rfl, HZ.out, HKW.out⟩
end Go.Proofs.YtbjhgdimciibcaaDoor
/-
  Stage 12's law: acquire, release, steps, works.
-/
namespace Go.Proofs.YtbjhgdimciibcaaDoor
open Go.RowKit
theorem results_cl {fn : Func} {p : Tmp} (h : fn.results = #[.cell p 49]) (tmps : Array Value) (w : World) (b : Nat) (y : Cl) {t : TypeId}
    (hp : tmps.getD p undef = .pointer (some ⟨b, 0, none⟩)) (hb : w.heap[b]? = some (.cells (clC y).toArray t (0, 0))) : (results fn tmps).run Tryd.prog w = .ok (.agg (clC y).toArray) w :=
  results_cell_row (P := Tryd.prog) h _ _ _ _ _ _ _ hp hb Tryd.underlying49 rfl (by kernel_rfl)
set_option maxHeartbeats 8000000
set_option maxRecDepth 100000
theorem acq12_any (w : World) (c : Int) : Calls Tryd.prog 20 #[.int .u8 c] w fun e w' => e = .returned (.agg (clC ⟨c, ⟨10, 0, 0, 0, 0⟩⟩).toArray) ∧ Keeps [] w w' := by
  have h := heap_alloc_new w (.cells (clC ⟨c, ⟨10, 0, 0, 0, 0⟩⟩).toArray 49)
  have HN := Lib.hid h
  have HK := Lib.hid (show Keeps [] w (w.alloc (.cells (clC ⟨c, ⟨10, 0, 0, 0, 0⟩⟩).toArray 49)) from (Keeps.refl _ _).alloc _)
  clear h
  go_enter Tryd.func20, Tryd.ntmps20
  go_wp2_with fail
  try simp only [Exit.inBlock, Exit.then]
  exact bodyPost_ret (results_cl rfl _ _ w.heap.size ⟨c, ⟨10, 0, 0, 0, 0⟩⟩ rfl HN.out) rfl ⟨rfl, HK.out⟩
theorem rel12_any (w : World) (c : Int) : Calls Tryd.prog 21 #[.int .u8 c] w fun e w' => e = .returned (.agg (clC ⟨c, ⟨11, 0, 0, 0, 0⟩⟩).toArray) ∧ Keeps [] w w' := by
  have h := heap_alloc_new w (.cells (clC ⟨c, ⟨11, 0, 0, 0, 0⟩⟩).toArray 49)
  have HN := Lib.hid h
  have HK := Lib.hid (show Keeps [] w (w.alloc (.cells (clC ⟨c, ⟨11, 0, 0, 0, 0⟩⟩).toArray 49)) from (Keeps.refl _ _).alloc _)
  clear h
  go_enter Tryd.func21, Tryd.ntmps21
  go_wp2_with fail
  try simp only [Exit.inBlock, Exit.then]
  exact bodyPost_ret (results_cl rfl _ _ w.heap.size ⟨c, ⟨11, 0, 0, 0, 0⟩⟩ rfl HN.out) rfl ⟨rfl, HK.out⟩
theorem steps12_any (w : World) (hG : Glob4 w) {s : Int} (hs : 0 ≤ s ∧ s < 256) {y : Cl} (hy : y.In) {u k : Int} (hX : lkX s y.c y.x = (u, ⟨k, 0⟩, 0)) :
    Calls Tryd.prog 22 #[.int .u8 s, .agg (clC y).toArray, .int .u8 u, .int .u8 k] w fun e w' => e = .returned (.bool true) ∧ Keeps [] w w' := by
  have HB := Lib.hid (heap_alloc_new w (.cells (clC y).toArray 49))
  have HK0 := Lib.hid (show Keeps [] w (w.alloc (.cells (clC y).toArray 49)) from (Keeps.refl _ _).alloc _)
  have hst := fun w hG => lkStep_any w hG y.x hs ⟨hy.c0, hy.c1⟩ hy.x
  rw [hX] at hst
  have HST := Lib.hid hst
  have HGL := Lib.hid (hG.new HK0.out)
  have t1 : (u == u) = true := by simp
  have t2 : (k == k) = true := by simp
  clear hst hs hy hX hG
  have c0 : (w.alloc (.cells (clC y).toArray 49)).cell? ⟨w.heap.size, 0, none⟩ = some (.int .u8 y.c) := (cl_parts (cl_block HB.out)).1
  have HRO := Lib.hid (cl_parts (cl_block HB.out)).2
  go_enter Tryd.func22, Tryd.ntmps22
  go_wp2_with ((with_reducible refine wpList_loadP (g := w.heap.size) (off := 1) y.x ?_ ?_ HRO.out ?_); exact rfl; exact rfl)
  refine (show Calls Tryd.prog 10 #[.int .u8 s, .int .u8 y.c, y.x.val] _ _ from HST.out _ HGL.out).mono ?_
  rintro e w2 ⟨rfl, hk2⟩
  have HK2 := Lib.hid (HK0.out.trans hk2 (FSub.refl _ _))
  clear c0 hk2 HRO HB HK0 HGL
  have HC2 := Lib.hid (show (w2.alloc (.cells #[.int .u8 0, .int .u16 0] 27)).heap[w2.heap.size]? = some (.cells (ansC ⟨0, 0⟩).toArray 27 (0, 0)) from heap_alloc_new w2 _)
  have HKA2 := Lib.hid (show Keeps [] w2 (w2.alloc (.cells #[.int .u8 0, .int .u16 0] 27)) from (Keeps.refl _ _).alloc _)
  go_wp2_with ((with_reducible refine wpList_putR12 (g := w2.heap.size) (old := ⟨0, 0⟩) ⟨k, 0⟩ ?_ ?_ HC2.out ?_); exact rfl; exact rfl)
  intro w3 hW3 hk3
  have HK3 := Lib.hid (HK2.out.trans (HKA2.out.trans' hk3 (by simp)) (FSub.refl _ _))
  clear hk3 HC2 HKA2 HK2
  generalize w2.heap.size = gr at *
  have d0 : w3.cell? ⟨gr, 0, none⟩ = some (.int .u8 k) := cell_lit hW3 0 rfl
  have d1 : w3.cell? ⟨gr, 1, none⟩ = some (.int .u16 0) := cell_lit hW3 1 rfl
  clear hW3
  go_wp2_with fail
  go_ret
  exact ⟨rfl, HK3.out⟩
theorem cl_in {c f : Int} (h0 : 0 ≤ c) (h1 : c < 256) (h2 : 0 ≤ f) (h3 : f < 256) : Cl.In ⟨c, ⟨f, 0, 0, 0, 0⟩⟩ := ⟨h0, h1, ⟨h2, h3, by simp, by simp, by simp, by simp, by simp, by simp, by simp, by simp⟩⟩
theorem works12_any (w : World) (hG : Glob4 w) : Calls Tryd.prog 17 #[] w fun e w' => e = .returned (.bool true) ∧ Keeps [] w w' := by
  have HG := Lib.hid (fun w' (h : Keeps [] w w') => hG.new h)
  clear hG
  go_enter Tryd.func17, Tryd.ntmps17
  go_wp2_with fail
  refine (lkNew_any w).mono ?_; rintro e w1 ⟨rfl, rfl⟩
  go_wp2_with fail
  refine (acq12_any _ 0).mono ?_; rintro e w2 ⟨rfl, hk2⟩
  have HK2 := Lib.hid hk2; clear hk2
  go_wp2_with fail
  refine (steps12_any w2 (HG.out _ HK2.out) (by decide) (cl_in (by decide) (by decide) (by decide) (by decide)) rfl).mono ?_; rintro e w3 ⟨rfl, hk3⟩
  have HK3 := Lib.hid (HK2.out.trans hk3 (FSub.refl _ _)); clear hk3 HK2
  go_wp2_with fail
  refine (acq12_any _ 1).mono ?_; rintro e w4 ⟨rfl, hk4⟩
  have HK4 := Lib.hid (HK3.out.trans hk4 (FSub.refl _ _)); clear hk4 HK3
  go_wp2_with fail
  refine (steps12_any w4 (HG.out _ HK4.out) (by decide) (cl_in (by decide) (by decide) (by decide) (by decide)) rfl).mono ?_; rintro e w5 ⟨rfl, hk5⟩
  have HK5 := Lib.hid (HK4.out.trans hk5 (FSub.refl _ _)); clear hk5 HK4
  go_wp2_with fail
  refine (rel12_any _ 1).mono ?_; rintro e w6 ⟨rfl, hk6⟩
  have HK6 := Lib.hid (HK5.out.trans hk6 (FSub.refl _ _)); clear hk6 HK5
  go_wp2_with fail
  refine (steps12_any w6 (HG.out _ HK6.out) (by decide) (cl_in (by decide) (by decide) (by decide) (by decide)) rfl).mono ?_; rintro e w7 ⟨rfl, hk7⟩
  have HK7 := Lib.hid (HK6.out.trans hk7 (FSub.refl _ _)); clear hk7 HK6
  go_wp2_with fail
  refine (rel12_any _ 0).mono ?_; rintro e w8 ⟨rfl, hk8⟩
  have HK8 := Lib.hid (HK7.out.trans hk8 (FSub.refl _ _)); clear hk8 HK7
  go_wp2_with fail
  refine (lkNew_any w8).mono ?_; rintro e w9 ⟨rfl, rfl⟩
  go_wp2_with fail
  refine (steps12_any w9 (HG.out _ HK8.out) (by decide) (cl_in (by decide) (by decide) (by decide) (by decide)) rfl).mono ?_; rintro e w10 ⟨rfl, hk10⟩
  have HK10 := Lib.hid (HK8.out.trans hk10 (FSub.refl _ _)); clear hk10 HK8
  go_wp2_with fail
  go_ret
  exact ⟨rfl, HK10.out⟩
end Go.Proofs.YtbjhgdimciibcaaDoor
/-
  LockRuns' walk.
-/
namespace Go.Proofs.YtbjhgdimciibcaaDoor
open Go.RowKit
section
variable {ops : Array Oper} {S : World → Prop} {o : Oper} {a : Act}
theorem yields_loadP (y : Opn) (hw : Region.wanted o (yielded ops a.tmps) = true) (x : Operand) (ho : o.op = .load 24 x) (g off : Nat) (hx : a.eval x = .pointer (some ⟨g, off, none⟩)) (hS : ∀ w, S w → w.rangeAt g off (opC y)) :
    YieldsIf Tryd.prog ops S o (.agg #[.int .u8 y.f, .int .u8 y.o, .int .u8 y.k, .int .u16 y.a, .int .u16 y.b]) a :=
  yieldsIf_load_mid (P := Tryd.prog) hw 24 x ho g off hx (opC y) _ hS Tryd.underlying24 rfl (by kernel_rfl)
theorem yields_indexA (hw : Region.wanted o (yielded ops a.tmps) = true) (x y : Operand) (ho : o.op = .indexAddr 45 x y) (g of n c k : Nat) (hx : a.eval x = .slice (some ⟨g, of, none⟩) n c) (hy : a.eval y = .int .i64 k) (hk : k < n) :
    YieldsIf Tryd.prog ops S o (.pointer (some ⟨g, of + k * 2, none⟩)) a :=
  Or.inl ⟨hw, by
    have hk2 : (k : Int) < n := by omega
    intro w _
    unfold execOp
    simp only [ho, hx, hy]
    go_simp⟩
theorem yields_geqF (hw : Region.wanted o (yielded ops a.tmps) = true) (x y : Operand) (ho : o.op = .binOp .geq 3 x y 3) (p q : Int) (hx : a.eval x = .int .i64 p) (hy : a.eval y = .int .i64 q) (hr : p < q) : YieldsIf Tryd.prog ops S o (.bool false) a :=
  Or.inl ⟨hw, by
    have hr2 : ¬ q ≤ p := by omega
    intro w _
    unfold execOp
    simp only [ho, hx, hy]
    go_simp⟩
theorem yields_indexCl (hw : Region.wanted o (yielded ops a.tmps) = true) (x y : Operand) (ho : o.op = .indexAddr 44 x y) (g of n c k : Nat) (hx : a.eval x = .slice (some ⟨g, of, none⟩) n c) (hy : a.eval y = .int .i64 k) (hk : k < n) :
    YieldsIf Tryd.prog ops S o (.pointer (some ⟨g, of + k * 6, none⟩)) a :=
  Or.inl ⟨hw, by
    have hk2 : (k : Int) < n := by omega
    intro w _
    unfold execOp
    simp only [ho, hx, hy]
    go_simp⟩
end
/-- The answer of a step that is taken. -/
theorem st_get {σ β : Type} (X : σ → β → σ × Ans × Int) {s : σ} {l : List β} {k : Nat} (hk : k < l.length) (h : stE X s (l.take k) = 0) (h0 : (X (stS X s (l.take k)) l[k]).2.2 = 0) :
    k < (stL X s l).length ∧ ∀ hk2 : k < (stL X s l).length, (stL X s l)[k] = (X (stS X s (l.take k)) l[k]).2.1 := by
  obtain ⟨h1, h2, h3⟩ := st_next X hk h
  have hlen : (stL X s (l.take k)).length = k := by
    have := (stL_len X s (l.take k)).2.1 h
    rw [this, List.length_take]; omega
  have e := (stE_app X s (l.take (k + 1)) (l.drop (k + 1)) (by rw [h1]; exact h0)).2.2
  rw [List.take_append_drop, h3, if_pos h0, List.append_assoc] at e
  have hl : k < (stL X s l).length := by rw [e, List.length_append, hlen]; simp
  refine ⟨hl, fun _ => ?_⟩
  simp only [e]
  rw [List.getElem_append_right (by omega)]
  simp [hlen]
set_option maxHeartbeats 8000000
set_option maxRecDepth 100000
theorem LockRuns_any (w : World) (hG : Glob4 w) {s : Int} (hs : 0 ≤ s ∧ s < 256) {v : Value} {l : List Cl} (hl : ∀ y ∈ l, y.In) (hI : rkCl.In w.heap.size w v l) : Calls Tryd.prog 4 #[.int .u8 s, v] w fun e w' => e = .returned (.bool true) ∧ Keeps [] w w' := by
  obtain ⟨a, cp, rfl, hc, hm, -⟩ := id hI
  have HW := Lib.hid (fun w' (h : Keeps [] w w') => works12_any w' (hG.new h))
  by_cases hn : l.length ≤ 200
  · have HRUN := Lib.hid (lkRun_any w hG hs hl hI (by omega))
    have HIN := Lib.hid hI; have HLI := Lib.hid hl
    have HSI := Lib.hid (fun k => lkS_in s (l.take k) hs (fun x hx => hl x (List.mem_of_mem_take hx)))
    have w1 : IntKind.i64.wrap s = s := by simp [IntKind.wrap, IntKind.signed, IntKind.bits]; omega
    have w2 : IntKind.i64.wrap (s - 1) = s - 1 := by simp [IntKind.wrap, IntKind.signed, IntKind.bits]; omega
    have hsl := lkS_in s l hs hl
    have HSL := Lib.hid hsl
    clear hI hl hG hs
    generalize hn2 : l.length = n at *
    have HN2 := Lib.hid hn2
    have z0 : ¬ (200 : Int) < n := by omega
    clear hn2 hn
    go_enter Tryd.func4, Tryd.ntmps4
    go_wp2_with fail
    refine HRUN.out.mono ?_; rintro e y1 ⟨v1, rfl, ho1, hk1⟩
    have HK1 := Lib.hid hk1; have HO1 := Lib.hid ho1.in_
    obtain ⟨a1, c1, rfl, hc1, hm1⟩ := ho1.shape
    have HFL := Lib.hid (show (stL lkY s l).length ≤ 200 from Nat.le_trans (stL_len lkY s l).1 (by have := HN2.out; omega))
    clear ho1 hk1 HRUN
    generalize hU : stS lkY s l = U at *
    generalize hE : stE lkY s l = E at *
    generalize hLA : stL lkY s l = LA at *
    have HU := Lib.hid hU; have HE := Lib.hid hE; have HLA := Lib.hid hLA
    have w3 : IntKind.i64.wrap U = U := by simp [IntKind.wrap, IntKind.signed, IntKind.bits]; omega
    have w4 : IntKind.i64.wrap (U - 1) = U - 1 := by simp [IntKind.wrap, IntKind.signed, IntKind.bits]; omega
    clear hU hE hLA hsl
    go_wp2_with fail
    go_loopw [8, 9, 10] (fun h wt i wr => ∃ k : Nat, i = .int .i64 k ∧ k ≤ n ∧ stE lkY s (l.take k) = 0 ∧ h = .int .i64 (stS lkY s (l.take k) - 1) ∧ wt = .int .i64 0 ∧ Keeps [] y1 wr) (fun _ _ i _ => n - (intOf i).toNat)
    case atStart => exact ⟨0, rfl, by omega, rfl, rfl, rfl, Keeps.refl _ _⟩
    case round =>
      obtain ⟨k, rfl, hk, he0, rfl, rfl, hkw⟩ := hrel
      have HKW := Lib.hid (HK1.out.trans hkw (FSub.refl _ _))
      have HKY := Lib.hid hkw
      by_cases hlt : k < n
      · have hkl : k < l.length := by have := HN2.out; omega
        obtain ⟨g, o, rfl, hg, hr⟩ := InCl_at (HIN.out.new HKW.out (Nat.le_refl _)) hkl
        have HRW := Lib.hid hr
        have HNX := Lib.hid (st_next lkY hkl he0)
        have HST := Lib.hid (st_stop lkY hkl he0)
        have HGT := Lib.hid (st_get lkY hkl he0)
        have HXI := Lib.hid (HLI.out l[k] (List.getElem_mem hkl))
        have HSK := Lib.hid (HSI.out k)
        have HKK := Lib.hid he0
        have HC12 := Lib.hid (fun W => r12Step_any W (h := stS lkY s (l.take k) - 1) l[k].x rfl (HSI.out k) ⟨HXI.out.c0, HXI.out.c1⟩ HXI.out.x)
        have hb1 : (k : Int) < n := by omega
        have hb0 : 0 ≤ (k : Int) := by omega
        clear hkw he0 hr
        generalize l[k] = y at *
        generalize stS lkY s (l.take k) = st at *
        change Hid (_ = (lkX st y.c y.x).2.2 ∧ _ = (if (lkX st y.c y.x).2.2 = 0 then (lkX st y.c y.x).1 else st) ∧ _ = _ ++ (if (lkX st y.c y.x).2.2 = 0 then [(lkX st y.c y.x).2.1] else [])) at HNX
        change Hid ((lkX st y.c y.x).2.2 ≠ 0 → _ = (lkX st y.c y.x).2.2 ∧ _ = st ∧ _) at HST
        change Hid ((lkX st y.c y.x).2.2 = 0 → _ ∧ ∀ hk2, _ = (lkX st y.c y.x).2.1) at HGT
        generalize lkX st y.c y.x = X at *
        obtain ⟨s1, r, e1⟩ := X
        go_wp2_with fail
        obtain ⟨S, hS⟩ : ∃ S : World → Prop, S = fun y => Keeps [] wr y := ⟨_, rfl⟩
        have HSE := Lib.hid hS
        have hSD : S wr.drew := by rw [hS]; exact (Keeps.refl _ _).drew
        have HS0 := Lib.hid (fun (w' : World) (hh : S w') => show w'.cell? ⟨g, o + k * 6, none⟩ = some (.int .u8 y.c) from by rw [hS] at hh; exact hh.cell (cl_parts HRW.out).1 (by simp))
        have HS1 := Lib.hid (fun (w' : World) (hh : S w') => show w'.rangeAt g (o + k * 6 + 1) (opC y.x) from by rw [hS] at hh; exact fun j v hv => hh.cell ((cl_parts HRW.out).2 j v hv) (by simp))
        clear hS
        refine wp_region_noPanic ?_
        refine wp_region_held_drew (S := S) (by kernel_rfl) hSD (fun hHeld => ?_)
        apply wpAnyH_take (i := 0)
        · simp only [List.getElem?_toArray]; rfl
        · kernel_rfl
        · kernel_rfl
        · kernel_rfl
        · exact fun _ _ _ h => h
        · exact Or.inl ⟨by rfl, by intro w hSw; go_simp; try with_reducible rfl⟩
        · assumption
        try simp only [Act.put, List.setIfInBounds_toArray, List.set_cons_zero, List.set_cons_succ]
        apply wpAnyH_take (i := 1)
        · simp only [List.getElem?_toArray]; rfl
        · kernel_rfl
        · kernel_rfl
        · kernel_rfl
        · exact fun _ _ _ h => h
        · exact Or.inl ⟨by rfl, by intro w hSw; go_simp; try with_reducible rfl⟩
        · assumption
        try simp only [Act.put, List.setIfInBounds_toArray, List.set_cons_zero, List.set_cons_succ]
        apply wpAnyH_take (i := 2)
        · simp only [List.getElem?_toArray]; rfl
        · kernel_rfl
        · kernel_rfl
        · kernel_rfl
        · exact fun _ _ _ h => h
        · exact Or.inl ⟨by rfl, by intro w hSw; go_simp; try with_reducible rfl⟩
        · assumption
        try simp only [Act.put, List.setIfInBounds_toArray, List.set_cons_zero, List.set_cons_succ]
        apply wpAnyH_take (i := 3)
        · simp only [List.getElem?_toArray]; rfl
        · kernel_rfl
        · kernel_rfl
        · kernel_rfl
        · exact fun _ _ _ h => h
        · exact yields_indexCl rfl _ _ rfl g o n cp k rfl rfl hlt
        · assumption
        try simp only [Act.put, List.setIfInBounds_toArray, List.set_cons_zero, List.set_cons_succ]
        apply wpAnyH_take (i := 4)
        · simp only [List.getElem?_toArray]; rfl
        · kernel_rfl
        · kernel_rfl
        · kernel_rfl
        · exact fun _ _ _ h => h
        · exact Or.inl ⟨by rfl, by intro w hSw; go_simp; try with_reducible rfl⟩
        · assumption
        try simp only [Act.put, List.setIfInBounds_toArray, List.set_cons_zero, List.set_cons_succ]
        apply wpAnyH_take (i := 5)
        · simp only [List.getElem?_toArray]; rfl
        · kernel_rfl
        · kernel_rfl
        · kernel_rfl
        · exact fun _ _ _ h => h
        · exact Or.inl ⟨by rfl, by intro w hSw; have q0 := HS0.out w hSw; go_simp; try with_reducible rfl⟩
        · assumption
        try simp only [Act.put, List.setIfInBounds_toArray, List.set_cons_zero, List.set_cons_succ]
        apply wpAnyH_take (i := 6)
        · simp only [List.getElem?_toArray]; rfl
        · kernel_rfl
        · kernel_rfl
        · kernel_rfl
        · exact fun _ _ _ h => h
        · exact Or.inl ⟨by rfl, by intro w hSw; go_simp; try with_reducible rfl⟩
        · assumption
        try simp only [Act.put, List.setIfInBounds_toArray, List.set_cons_zero, List.set_cons_succ]
        apply wpAnyH_take (i := 7)
        · simp only [List.getElem?_toArray]; rfl
        · kernel_rfl
        · kernel_rfl
        · kernel_rfl
        · exact fun _ _ _ h => h
        · exact Or.inl ⟨by rfl, by intro w hSw; go_simp; try with_reducible rfl⟩
        · assumption
        try simp only [Act.put, List.setIfInBounds_toArray, List.set_cons_zero, List.set_cons_succ]
        apply wpAnyH_take (i := 8)
        · simp only [List.getElem?_toArray]; rfl
        · kernel_rfl
        · kernel_rfl
        · kernel_rfl
        · exact fun _ _ _ h => h
        · exact yields_indexCl rfl _ _ rfl g o n cp k rfl rfl hlt
        · assumption
        try simp only [Act.put, List.setIfInBounds_toArray, List.set_cons_zero, List.set_cons_succ]
        apply wpAnyH_take (i := 9)
        · simp only [List.getElem?_toArray]; rfl
        · kernel_rfl
        · kernel_rfl
        · kernel_rfl
        · exact fun _ _ _ h => h
        · exact Or.inl ⟨by rfl, by intro w hSw; go_simp; try with_reducible rfl⟩
        · assumption
        try simp only [Act.put, List.setIfInBounds_toArray, List.set_cons_zero, List.set_cons_succ]
        apply wpAnyH_take (i := 10)
        · simp only [List.getElem?_toArray]; rfl
        · kernel_rfl
        · kernel_rfl
        · kernel_rfl
        · exact fun _ _ _ h => h
        · exact yields_loadP y.x rfl _ rfl g _ rfl HS1.out
        · assumption
        try simp only [Act.put, List.setIfInBounds_toArray, List.set_cons_zero, List.set_cons_succ]
        apply wpAnyH_ready (rs := [11, 16])
        · kernel_rfl
        · simp
        apply AllReadyH.cons
        · simp only [List.getElem?_toArray]; rfl
        · intro K hK
          rw [if_pos (by rfl)]
          refine wp_call9 11 _ _ rfl [.int .i64 (st - 1), .int .u8 y.c, y.x.val] rfl Tryd.func11 (by kernel_rfl) (by kernel_rfl) ((HC12.out _).mono ?_)
          rintro e z1 ⟨rfl, hk⟩
          refine ⟨_, rfl, ?_⟩
          have HZ1 := Lib.hid (((Keeps.refl [] wr).drew).trans hk (FSub.refl _ _))
          clear hk
          refine hK.out _ _ ?_ (fun hHeld => ?_)
          · exact (by rw [HSE.out]; exact HZ1.out)
          clear hK K
          try simp only [Act.put, List.setIfInBounds_toArray, List.set_cons_zero, List.set_cons_succ]
          apply wpAnyH_take (i := 12)
          · simp only [List.getElem?_toArray]; rfl
          · kernel_rfl
          · kernel_rfl
          · kernel_rfl
          · exact fun _ _ _ h => h
          · exact Or.inl ⟨by rfl, by intro w hSw; go_simp; try with_reducible rfl⟩
          · assumption
          try simp only [Act.put, List.setIfInBounds_toArray, List.set_cons_zero, List.set_cons_succ]
          apply wpAnyH_take (i := 13)
          · simp only [List.getElem?_toArray]; rfl
          · kernel_rfl
          · kernel_rfl
          · kernel_rfl
          · exact fun _ _ _ h => h
          · exact Or.inl ⟨by rfl, by intro w hSw; go_simp; try with_reducible rfl⟩
          · assumption
          try simp only [Act.put, List.setIfInBounds_toArray, List.set_cons_zero, List.set_cons_succ]
          apply wpAnyH_take (i := 14)
          · simp only [List.getElem?_toArray]; rfl
          · kernel_rfl
          · kernel_rfl
          · kernel_rfl
          · exact fun _ _ _ h => h
          · exact Or.inl ⟨by rfl, by intro w hSw; go_simp; try with_reducible rfl⟩
          · assumption
          try simp only [Act.put, List.setIfInBounds_toArray, List.set_cons_zero, List.set_cons_succ]
          apply wpAnyH_take (i := 15)
          · simp only [List.getElem?_toArray]; rfl
          · kernel_rfl
          · kernel_rfl
          · kernel_rfl
          · exact fun _ _ _ h => h
          · exact Or.inl ⟨by rfl, by intro w hSw; go_simp; try with_reducible rfl⟩
          · assumption
          try simp only [Act.put, List.setIfInBounds_toArray, List.set_cons_zero, List.set_cons_succ]
          apply wpAnyH_ready (rs := [16])
          · kernel_rfl
          · simp
          apply AllReadyH.cons (hs := AllReadyH.nil)
          · simp only [List.getElem?_toArray]; rfl
          intro K hK
          rw [if_pos (by rfl)]
          refine wp_allocA _ _ _ _ rfl ?_
          have HZ2 := Lib.hid (HZ1.out.alloc (.cells (ansC ⟨0, 0⟩).toArray 27))
          have HB2 := Lib.hid (heap_alloc_new z1 (.cells (ansC ⟨0, 0⟩).toArray 27))
          have HG2 := Lib.hid HZ1.out.size
          generalize z1.alloc (.cells (ansC ⟨0, 0⟩).toArray 27) = z2 at *
          generalize z1.heap.size = gz at *
          refine hK.out _ _ ?_ (fun hHeld => ?_)
          · exact (by rw [HSE.out]; exact HZ2.out)
          clear hK K
          try simp only [Act.put, List.setIfInBounds_toArray, List.set_cons_zero, List.set_cons_succ]
          apply wpAnyH_take (i := 17)
          · simp only [List.getElem?_toArray]; rfl
          · kernel_rfl
          · kernel_rfl
          · kernel_rfl
          · exact fun _ _ _ h => h
          · exact Or.inl ⟨by rfl, by intro w hSw; go_simp; try with_reducible rfl⟩
          · assumption
          try simp only [Act.put, List.setIfInBounds_toArray, List.set_cons_zero, List.set_cons_succ]
          apply wpAnyH_ready (rs := [18])
          · kernel_rfl
          · simp
          apply AllReadyH.cons (hs := AllReadyH.nil)
          · simp only [List.getElem?_toArray]; rfl
          intro K hK
          rw [if_pos (by rfl)]
          refine wp_putN rfl (g := gz) (old := ⟨0, 0⟩) r rfl rfl HB2.out (fun z3 hz3 hk => ?_)
          have HB3 := Lib.hid hz3
          have HZ3 := Lib.hid (HZ2.out.trans hk (fun q hq => .inr (by have := HG2.out; simp at hq; omega)))
          clear hz3 hk
          refine hK.out _ _ ?_ (fun hHeld => ?_)
          · exact (by rw [HSE.out]; exact HZ3.out)
          clear hK K
          try simp only [Act.put, List.setIfInBounds_toArray, List.set_cons_zero, List.set_cons_succ]
          apply wpAnyH_take (i := 19)
          · simp only [List.getElem?_toArray]; rfl
          · kernel_rfl
          · kernel_rfl
          · kernel_rfl
          · exact fun _ _ _ h => h
          · exact Or.inl ⟨by rfl, by intro w hSw; go_simp; try with_reducible rfl⟩
          · assumption
          try simp only [Act.put, List.setIfInBounds_toArray, List.set_cons_zero, List.set_cons_succ]
          refine wpAnyH_done (by kernel_rfl) ?_ _
          refine NoPanic.normal ?_
          clear HZ2 HB2
          have HYF := Lib.hid (HKY.out.trans HZ3.out (FSub.refl _ _))
          have HKF := Lib.hid (HKW.out.trans HZ3.out (FSub.refl _ _))
          by_cases hx : e1 = 0
          · subst hx
            have hn1 := HNX.out
            simp only [if_true] at hn1
            have HN1 := Lib.hid hn1
            obtain ⟨hk2, hk3⟩ := HGT.out rfl
            rw [HLA.out] at hk2 hk3
            obtain ⟨b9, o9, rfl, hb9, hr9⟩ := InA_at HO1.out hk2
            rw [hk3 hk2] at hr9
            have hr9' : z3.rangeAt b9 (o9 + k * 2) (ansC r) := fun j v hv => HYF.out.cell (hr9 j v hv) (by simp)
            obtain ⟨rk, rv⟩ := r
            have d0 : z3.cell? ⟨b9, o9 + k * 2, none⟩ = some (.int .u8 rk) := hr9' 0 _ rfl
            have d1 : z3.cell? ⟨b9, o9 + k * 2 + 1, none⟩ = some (.int .u16 rv) := hr9' 1 _ rfl
            have d2 : z3.cell? ⟨gz, 0, none⟩ = some (.int .u8 rk) := cell_lit HB3.out 0 rfl
            have d3 : z3.cell? ⟨gz, 1, none⟩ = some (.int .u16 rv) := cell_lit HB3.out 1 rfl
            have hd : decide ((LA.length : Int) ≤ k) = false := decide_eq_false (by omega)
            have hb2 : (k : Int) < LA.length := by omega
            have t7 : (rk == rk) = true := by simp
            have t8 : (rv == rv) = true := by simp
            clear hn1 hk3 hr9 hk2 hb9 d0 d1 d2 d3
            have HS3 := Lib.hid hr9'
            clear hr9'
            go_wp2_with fail
            obtain ⟨S2, hS2⟩ : ∃ S2 : World → Prop, S2 = fun y => Keeps [] z3 y := ⟨_, rfl⟩
            have HSE2 := Lib.hid hS2
            have hSD2 : S2 z3.drew := by rw [hS2]; exact (Keeps.refl _ _).drew
            have HS5 := Lib.hid (fun (w' : World) (hh : S2 w') => show w'.rangeAt b9 (o9 + k * 2) (ansC ⟨rk, rv⟩) from by rw [hS2] at hh; exact fun j v hv => hh.cell (HS3.out j v hv) (by simp))
            have HS6 := Lib.hid (fun (w' : World) (hh : S2 w') => show w'.rangeAt gz 0 (ansC ⟨rk, rv⟩) from by rw [hS2] at hh; intro j v hv; rw [Nat.zero_add]; exact hh.cell (cell_lit HB3.out j (by simpa [ansC] using hv)) (by simp))
            clear hS2
            refine wp_region_noPanic ?_
            refine wp_region_held_drew (S := S2) (by kernel_rfl) hSD2 (fun hHeld => ?_)
            apply wpAnyH_take (i := 0)
            · simp only [List.getElem?_toArray]; rfl
            · kernel_rfl
            · kernel_rfl
            · kernel_rfl
            · exact fun _ _ _ h => h
            · exact Or.inl ⟨by rfl, by intro w hSw; go_simp; try with_reducible rfl⟩
            · assumption
            try simp only [Act.put, List.setIfInBounds_toArray, List.set_cons_zero, List.set_cons_succ]
            apply wpAnyH_take (i := 1)
            · simp only [List.getElem?_toArray]; rfl
            · kernel_rfl
            · kernel_rfl
            · kernel_rfl
            · exact fun _ _ _ h => h
            · exact Or.inl ⟨by rfl, by intro w hSw; go_simp; try with_reducible rfl⟩
            · assumption
            try simp only [Act.put, List.setIfInBounds_toArray, List.set_cons_zero, List.set_cons_succ]
            apply wpAnyH_take (i := 2)
            · simp only [List.getElem?_toArray]; rfl
            · kernel_rfl
            · kernel_rfl
            · kernel_rfl
            · exact fun _ _ _ h => h
            · exact Or.inl ⟨by rfl, by intro w hSw; go_simp; try with_reducible rfl⟩
            · assumption
            try simp only [Act.put, List.setIfInBounds_toArray, List.set_cons_zero, List.set_cons_succ]
            apply wpAnyH_take (i := 3)
            · simp only [List.getElem?_toArray]; rfl
            · kernel_rfl
            · kernel_rfl
            · kernel_rfl
            · exact fun _ _ _ h => h
            · exact yields_geqF rfl _ _ rfl k LA.length rfl rfl hb2
            · assumption
            try simp only [Act.put, List.setIfInBounds_toArray, List.set_cons_zero, List.set_cons_succ]
            apply wpAnyH_take (i := 4)
            · simp only [List.getElem?_toArray]; rfl
            · kernel_rfl
            · kernel_rfl
            · kernel_rfl
            · exact fun _ _ _ h => h
            · exact Or.inl ⟨by rfl, by intro w hSw; go_simp; try with_reducible rfl⟩
            · assumption
            try simp only [Act.put, List.setIfInBounds_toArray, List.set_cons_zero, List.set_cons_succ]
            apply wpAnyH_take (i := 5)
            · simp only [List.getElem?_toArray]; rfl
            · kernel_rfl
            · kernel_rfl
            · kernel_rfl
            · exact fun _ _ _ h => h
            · exact Or.inl ⟨by rfl, by intro w hSw; go_simp; try with_reducible rfl⟩
            · assumption
            try simp only [Act.put, List.setIfInBounds_toArray, List.set_cons_zero, List.set_cons_succ]
            apply wpAnyH_take (i := 6)
            · simp only [List.getElem?_toArray]; rfl
            · kernel_rfl
            · kernel_rfl
            · kernel_rfl
            · exact fun _ _ _ h => h
            · exact Or.inl ⟨by rfl, by intro w hSw; go_simp; try with_reducible rfl⟩
            · assumption
            try simp only [Act.put, List.setIfInBounds_toArray, List.set_cons_zero, List.set_cons_succ]
            apply wpAnyH_take (i := 7)
            · simp only [List.getElem?_toArray]; rfl
            · kernel_rfl
            · kernel_rfl
            · kernel_rfl
            · exact fun _ _ _ h => h
            · exact yields_indexA rfl _ _ rfl b9 o9 LA.length c1 k rfl rfl (by omega)
            · assumption
            try simp only [Act.put, List.setIfInBounds_toArray, List.set_cons_zero, List.set_cons_succ]
            apply wpAnyH_take (i := 8)
            · simp only [List.getElem?_toArray]; rfl
            · kernel_rfl
            · kernel_rfl
            · kernel_rfl
            · exact fun _ _ _ h => h
            · exact yields_ans ⟨rk, rv⟩ (by rfl) _ rfl b9 (o9 + k * 2) rfl HS5.out
            · assumption
            try simp only [Act.put, List.setIfInBounds_toArray, List.set_cons_zero, List.set_cons_succ]
            apply wpAnyH_take (i := 9)
            · simp only [List.getElem?_toArray]; rfl
            · kernel_rfl
            · kernel_rfl
            · kernel_rfl
            · exact fun _ _ _ h => h
            · exact yields_ans ⟨rk, rv⟩ (by rfl) _ rfl gz 0 rfl HS6.out
            · assumption
            try simp only [Act.put, List.setIfInBounds_toArray, List.set_cons_zero, List.set_cons_succ]
            apply wpAnyH_take (i := 10)
            · simp only [List.getElem?_toArray]; rfl
            · kernel_rfl
            · kernel_rfl
            · kernel_rfl
            · exact fun _ _ _ h => h
            · exact Or.inl ⟨by rfl, by intro w hSw; go_simp; try with_reducible rfl⟩
            · assumption
            try simp only [Act.put, List.setIfInBounds_toArray, List.set_cons_zero, List.set_cons_succ]
            apply wpAnyH_take (i := 11)
            · simp only [List.getElem?_toArray]; rfl
            · kernel_rfl
            · kernel_rfl
            · kernel_rfl
            · exact fun _ _ _ h => h
            · exact Or.inl ⟨by rfl, by intro w hSw; go_simp; try with_reducible rfl⟩
            · assumption
            try simp only [Act.put, List.setIfInBounds_toArray, List.set_cons_zero, List.set_cons_succ]
            refine wpAnyH_done (by kernel_rfl) ?_ _
            refine NoPanic.normal ?_
            go_wp2_with fail
            go_roundw
            case rel => exact ⟨k + 1, by go_num, by omega, HN1.out.1, by rw [HN1.out.2.1], rfl, HYF.out.drew⟩
            case measure => simp [intOf]; omega
          · have q0 : (e1 != 0) = true := by simpa using hx
            have hs := HST.out hx
            rw [HE.out, HU.out, HLA.out] at hs
            obtain ⟨e2, e3, e4⟩ := hs
            subst e2 e3
            have e5 : LA.length = k := by
              rw [e4, (stL_len lkY s (l.take k)).2.1 HKK.out, List.length_take]
              have := HN2.out; omega
            have q1 : ((LA.length : Int) == k) = true := by simp; omega
            have q2 : (E == E) = true := by simp
            have q3 : (U - 1 == U - 1) = true := by simp
            clear hx e4 e5
            go_wp2_with fail
            refine (HW.out _ HKF.out).mono ?_; rintro e w3 ⟨rfl, hk3⟩
            have HKE := Lib.hid (HKF.out.trans hk3 (FSub.refl _ _))
            clear hk3
            go_wp2_with fail
            go_ret
            exact ⟨rfl, HKE.out⟩
        apply AllReadyH.cons (hs := AllReadyH.nil)
        · simp only [List.getElem?_toArray]; rfl
        intro K hK
        rw [if_pos (by rfl)]
        refine wp_allocA _ _ _ _ rfl ?_
        have HZ1 := Lib.hid (((Keeps.refl [] wr).drew).alloc (.cells (ansC ⟨0, 0⟩).toArray 27))
        have HB1 := Lib.hid (show (wr.drew.alloc (.cells (ansC ⟨0, 0⟩).toArray 27)).heap[wr.heap.size]? = some (.cells (ansC ⟨0, 0⟩).toArray 27 (0, 0)) from heap_alloc_new wr.drew _)
        have HG2 := Lib.hid (show wr.heap.size ≤ wr.heap.size from Nat.le_refl _)
        have HGE := Lib.hid (show wr.drew.heap.size = wr.heap.size from rfl)
        rw [HGE.out]
        generalize wr.drew.alloc (.cells (ansC ⟨0, 0⟩).toArray 27) = z1 at *
        refine hK.out _ _ ?_ (fun hHeld => ?_)
        · exact (by rw [HSE.out]; exact HZ1.out)
        clear hK K
        try simp only [Act.put, List.setIfInBounds_toArray, List.set_cons_zero, List.set_cons_succ]
        apply wpAnyH_ready (rs := [11])
        · kernel_rfl
        · simp
        apply AllReadyH.cons (hs := AllReadyH.nil)
        · simp only [List.getElem?_toArray]; rfl
        intro K hK
        rw [if_pos (by rfl)]
        refine wp_call9 11 _ _ rfl [.int .i64 (st - 1), .int .u8 y.c, y.x.val] rfl Tryd.func11 (by kernel_rfl) (by kernel_rfl) ((HC12.out _).mono ?_)
        rintro e z2 ⟨rfl, hk⟩
        refine ⟨_, rfl, ?_⟩
        have HZ2 := Lib.hid (HZ1.out.trans hk (FSub.refl _ _))
        have HB2 := Lib.hid (hk.heap HB1.out (by simp))
        clear hk HB1 HGE
        obtain ⟨gz, hgz⟩ : ∃ gz, gz = wr.heap.size := ⟨_, rfl⟩
        rw [← hgz] at HB2 ⊢
        replace HG2 := Lib.hid (show wr.heap.size ≤ gz from Nat.le_of_eq hgz.symm)
        clear hgz
        refine hK.out _ _ ?_ (fun hHeld => ?_)
        · exact (by rw [HSE.out]; exact HZ2.out)
        clear hK K
        try simp only [Act.put, List.setIfInBounds_toArray, List.set_cons_zero, List.set_cons_succ]
        apply wpAnyH_take (i := 12)
        · simp only [List.getElem?_toArray]; rfl
        · kernel_rfl
        · kernel_rfl
        · kernel_rfl
        · exact fun _ _ _ h => h
        · exact Or.inl ⟨by rfl, by intro w hSw; go_simp; try with_reducible rfl⟩
        · assumption
        try simp only [Act.put, List.setIfInBounds_toArray, List.set_cons_zero, List.set_cons_succ]
        apply wpAnyH_take (i := 13)
        · simp only [List.getElem?_toArray]; rfl
        · kernel_rfl
        · kernel_rfl
        · kernel_rfl
        · exact fun _ _ _ h => h
        · exact Or.inl ⟨by rfl, by intro w hSw; go_simp; try with_reducible rfl⟩
        · assumption
        try simp only [Act.put, List.setIfInBounds_toArray, List.set_cons_zero, List.set_cons_succ]
        apply wpAnyH_take (i := 14)
        · simp only [List.getElem?_toArray]; rfl
        · kernel_rfl
        · kernel_rfl
        · kernel_rfl
        · exact fun _ _ _ h => h
        · exact Or.inl ⟨by rfl, by intro w hSw; go_simp; try with_reducible rfl⟩
        · assumption
        try simp only [Act.put, List.setIfInBounds_toArray, List.set_cons_zero, List.set_cons_succ]
        apply wpAnyH_take (i := 15)
        · simp only [List.getElem?_toArray]; rfl
        · kernel_rfl
        · kernel_rfl
        · kernel_rfl
        · exact fun _ _ _ h => h
        · exact Or.inl ⟨by rfl, by intro w hSw; go_simp; try with_reducible rfl⟩
        · assumption
        try simp only [Act.put, List.setIfInBounds_toArray, List.set_cons_zero, List.set_cons_succ]
        apply wpAnyH_take (i := 17)
        · simp only [List.getElem?_toArray]; rfl
        · kernel_rfl
        · kernel_rfl
        · kernel_rfl
        · exact fun _ _ _ h => h
        · exact Or.inl ⟨by rfl, by intro w hSw; go_simp; try with_reducible rfl⟩
        · assumption
        try simp only [Act.put, List.setIfInBounds_toArray, List.set_cons_zero, List.set_cons_succ]
        apply wpAnyH_ready (rs := [18])
        · kernel_rfl
        · simp
        apply AllReadyH.cons (hs := AllReadyH.nil)
        · simp only [List.getElem?_toArray]; rfl
        intro K hK
        rw [if_pos (by rfl)]
        refine wp_putN rfl (g := gz) (old := ⟨0, 0⟩) r rfl rfl HB2.out (fun z3 hz3 hk => ?_)
        have HB3 := Lib.hid hz3
        have HZ3 := Lib.hid (HZ2.out.trans hk (fun q hq => .inr (by have := HG2.out; simp at hq; omega)))
        clear hz3 hk
        refine hK.out _ _ ?_ (fun hHeld => ?_)
        · exact (by rw [HSE.out]; exact HZ3.out)
        clear hK K
        try simp only [Act.put, List.setIfInBounds_toArray, List.set_cons_zero, List.set_cons_succ]
        apply wpAnyH_take (i := 19)
        · simp only [List.getElem?_toArray]; rfl
        · kernel_rfl
        · kernel_rfl
        · kernel_rfl
        · exact fun _ _ _ h => h
        · exact Or.inl ⟨by rfl, by intro w hSw; go_simp; try with_reducible rfl⟩
        · assumption
        try simp only [Act.put, List.setIfInBounds_toArray, List.set_cons_zero, List.set_cons_succ]
        refine wpAnyH_done (by kernel_rfl) ?_ _
        refine NoPanic.normal ?_
        clear HZ2 HB2
        have HYF := Lib.hid (HKY.out.trans HZ3.out (FSub.refl _ _))
        have HKF := Lib.hid (HKW.out.trans HZ3.out (FSub.refl _ _))
        by_cases hx : e1 = 0
        · subst hx
          have hn1 := HNX.out
          simp only [if_true] at hn1
          have HN1 := Lib.hid hn1
          obtain ⟨hk2, hk3⟩ := HGT.out rfl
          rw [HLA.out] at hk2 hk3
          obtain ⟨b9, o9, rfl, hb9, hr9⟩ := InA_at HO1.out hk2
          rw [hk3 hk2] at hr9
          have hr9' : z3.rangeAt b9 (o9 + k * 2) (ansC r) := fun j v hv => HYF.out.cell (hr9 j v hv) (by simp)
          obtain ⟨rk, rv⟩ := r
          have d0 : z3.cell? ⟨b9, o9 + k * 2, none⟩ = some (.int .u8 rk) := hr9' 0 _ rfl
          have d1 : z3.cell? ⟨b9, o9 + k * 2 + 1, none⟩ = some (.int .u16 rv) := hr9' 1 _ rfl
          have d2 : z3.cell? ⟨gz, 0, none⟩ = some (.int .u8 rk) := cell_lit HB3.out 0 rfl
          have d3 : z3.cell? ⟨gz, 1, none⟩ = some (.int .u16 rv) := cell_lit HB3.out 1 rfl
          have hd : decide ((LA.length : Int) ≤ k) = false := decide_eq_false (by omega)
          have hb2 : (k : Int) < LA.length := by omega
          have t7 : (rk == rk) = true := by simp
          have t8 : (rv == rv) = true := by simp
          clear hn1 hk3 hr9 hk2 hb9 d0 d1 d2 d3
          have HS3 := Lib.hid hr9'
          clear hr9'
          go_wp2_with fail
          obtain ⟨S2, hS2⟩ : ∃ S2 : World → Prop, S2 = fun y => Keeps [] z3 y := ⟨_, rfl⟩
          have HSE2 := Lib.hid hS2
          have hSD2 : S2 z3.drew := by rw [hS2]; exact (Keeps.refl _ _).drew
          have HS5 := Lib.hid (fun (w' : World) (hh : S2 w') => show w'.rangeAt b9 (o9 + k * 2) (ansC ⟨rk, rv⟩) from by rw [hS2] at hh; exact fun j v hv => hh.cell (HS3.out j v hv) (by simp))
          have HS6 := Lib.hid (fun (w' : World) (hh : S2 w') => show w'.rangeAt gz 0 (ansC ⟨rk, rv⟩) from by rw [hS2] at hh; intro j v hv; rw [Nat.zero_add]; exact hh.cell (cell_lit HB3.out j (by simpa [ansC] using hv)) (by simp))
          clear hS2
          refine wp_region_noPanic ?_
          refine wp_region_held_drew (S := S2) (by kernel_rfl) hSD2 (fun hHeld => ?_)
          apply wpAnyH_take (i := 0)
          · simp only [List.getElem?_toArray]; rfl
          · kernel_rfl
          · kernel_rfl
          · kernel_rfl
          · exact fun _ _ _ h => h
          · exact Or.inl ⟨by rfl, by intro w hSw; go_simp; try with_reducible rfl⟩
          · assumption
          try simp only [Act.put, List.setIfInBounds_toArray, List.set_cons_zero, List.set_cons_succ]
          apply wpAnyH_take (i := 1)
          · simp only [List.getElem?_toArray]; rfl
          · kernel_rfl
          · kernel_rfl
          · kernel_rfl
          · exact fun _ _ _ h => h
          · exact Or.inl ⟨by rfl, by intro w hSw; go_simp; try with_reducible rfl⟩
          · assumption
          try simp only [Act.put, List.setIfInBounds_toArray, List.set_cons_zero, List.set_cons_succ]
          apply wpAnyH_take (i := 2)
          · simp only [List.getElem?_toArray]; rfl
          · kernel_rfl
          · kernel_rfl
          · kernel_rfl
          · exact fun _ _ _ h => h
          · exact Or.inl ⟨by rfl, by intro w hSw; go_simp; try with_reducible rfl⟩
          · assumption
          try simp only [Act.put, List.setIfInBounds_toArray, List.set_cons_zero, List.set_cons_succ]
          apply wpAnyH_take (i := 3)
          · simp only [List.getElem?_toArray]; rfl
          · kernel_rfl
          · kernel_rfl
          · kernel_rfl
          · exact fun _ _ _ h => h
          · exact yields_geqF rfl _ _ rfl k LA.length rfl rfl hb2
          · assumption
          try simp only [Act.put, List.setIfInBounds_toArray, List.set_cons_zero, List.set_cons_succ]
          apply wpAnyH_take (i := 4)
          · simp only [List.getElem?_toArray]; rfl
          · kernel_rfl
          · kernel_rfl
          · kernel_rfl
          · exact fun _ _ _ h => h
          · exact Or.inl ⟨by rfl, by intro w hSw; go_simp; try with_reducible rfl⟩
          · assumption
          try simp only [Act.put, List.setIfInBounds_toArray, List.set_cons_zero, List.set_cons_succ]
          apply wpAnyH_take (i := 5)
          · simp only [List.getElem?_toArray]; rfl
          · kernel_rfl
          · kernel_rfl
          · kernel_rfl
          · exact fun _ _ _ h => h
          · exact Or.inl ⟨by rfl, by intro w hSw; go_simp; try with_reducible rfl⟩
          · assumption
          try simp only [Act.put, List.setIfInBounds_toArray, List.set_cons_zero, List.set_cons_succ]
          apply wpAnyH_take (i := 6)
          · simp only [List.getElem?_toArray]; rfl
          · kernel_rfl
          · kernel_rfl
          · kernel_rfl
          · exact fun _ _ _ h => h
          · exact Or.inl ⟨by rfl, by intro w hSw; go_simp; try with_reducible rfl⟩
          · assumption
          try simp only [Act.put, List.setIfInBounds_toArray, List.set_cons_zero, List.set_cons_succ]
          apply wpAnyH_take (i := 7)
          · simp only [List.getElem?_toArray]; rfl
          · kernel_rfl
          · kernel_rfl
          · kernel_rfl
          · exact fun _ _ _ h => h
          · exact yields_indexA rfl _ _ rfl b9 o9 LA.length c1 k rfl rfl (by omega)
          · assumption
          try simp only [Act.put, List.setIfInBounds_toArray, List.set_cons_zero, List.set_cons_succ]
          apply wpAnyH_take (i := 8)
          · simp only [List.getElem?_toArray]; rfl
          · kernel_rfl
          · kernel_rfl
          · kernel_rfl
          · exact fun _ _ _ h => h
          · exact yields_ans ⟨rk, rv⟩ (by rfl) _ rfl b9 (o9 + k * 2) rfl HS5.out
          · assumption
          try simp only [Act.put, List.setIfInBounds_toArray, List.set_cons_zero, List.set_cons_succ]
          apply wpAnyH_take (i := 9)
          · simp only [List.getElem?_toArray]; rfl
          · kernel_rfl
          · kernel_rfl
          · kernel_rfl
          · exact fun _ _ _ h => h
          · exact yields_ans ⟨rk, rv⟩ (by rfl) _ rfl gz 0 rfl HS6.out
          · assumption
          try simp only [Act.put, List.setIfInBounds_toArray, List.set_cons_zero, List.set_cons_succ]
          apply wpAnyH_take (i := 10)
          · simp only [List.getElem?_toArray]; rfl
          · kernel_rfl
          · kernel_rfl
          · kernel_rfl
          · exact fun _ _ _ h => h
          · exact Or.inl ⟨by rfl, by intro w hSw; go_simp; try with_reducible rfl⟩
          · assumption
          try simp only [Act.put, List.setIfInBounds_toArray, List.set_cons_zero, List.set_cons_succ]
          apply wpAnyH_take (i := 11)
          · simp only [List.getElem?_toArray]; rfl
          · kernel_rfl
          · kernel_rfl
          · kernel_rfl
          · exact fun _ _ _ h => h
          · exact Or.inl ⟨by rfl, by intro w hSw; go_simp; try with_reducible rfl⟩
          · assumption
          try simp only [Act.put, List.setIfInBounds_toArray, List.set_cons_zero, List.set_cons_succ]
          refine wpAnyH_done (by kernel_rfl) ?_ _
          refine NoPanic.normal ?_
          go_wp2_with fail
          go_roundw
          case rel => exact ⟨k + 1, by go_num, by omega, HN1.out.1, by rw [HN1.out.2.1], rfl, HYF.out.drew⟩
          case measure => simp [intOf]; omega
        · have q0 : (e1 != 0) = true := by simpa using hx
          have hs := HST.out hx
          rw [HE.out, HU.out, HLA.out] at hs
          obtain ⟨e2, e3, e4⟩ := hs
          subst e2 e3
          have e5 : LA.length = k := by
            rw [e4, (stL_len lkY s (l.take k)).2.1 HKK.out, List.length_take]
            have := HN2.out; omega
          have q1 : ((LA.length : Int) == k) = true := by simp; omega
          have q2 : (E == E) = true := by simp
          have q3 : (U - 1 == U - 1) = true := by simp
          clear hx e4 e5
          go_wp2_with fail
          refine (HW.out _ HKF.out).mono ?_; rintro e w3 ⟨rfl, hk3⟩
          have HKE := Lib.hid (HKF.out.trans hk3 (FSub.refl _ _))
          clear hk3
          go_wp2_with fail
          go_ret
          exact ⟨rfl, HKE.out⟩
      · obtain rfl : k = n := by omega
        have hall : l.take k = l := by rw [← HN2.out, List.take_length]
        rw [hall] at he0 ⊢
        have e1 : E = 0 := by rw [← HE.out]; exact he0
        have e2 : LA.length = k := by rw [← HLA.out, (stL_len lkY s l).2.1 he0]; exact HN2.out
        have e3 : stS lkY s l = U := HU.out
        subst e1
        rw [e3]
        have q1 : ((LA.length : Int) == k) = true := by simp; omega
        have q3 : (U - 1 == U - 1) = true := by simp
        clear e2 e3 hall hkw he0
        go_wp2_with fail
        refine (HW.out _ HKW.out).mono ?_; rintro e w3 ⟨rfl, hk3⟩
        have HKF := Lib.hid (HKW.out.trans hk3 (FSub.refl _ _))
        clear hk3
        go_wp2_with fail
        go_ret
        exact ⟨rfl, HKF.out⟩
  · have z0 : (200 : Int) < l.length := by omega
    clear hI hl hG hs
    go_enter Tryd.func4, Tryd.ntmps4
    go_wp2_with fail
    refine (HW.out _ (Keeps.refl _ _)).mono ?_; rintro e w3 ⟨rfl, hk3⟩
    go_wp2_with fail
    go_ret
    exact ⟨rfl, hk3⟩
end Go.Proofs.YtbjhgdimciibcaaDoor
