/-
  The document's May: an info, an abort, no kind. (Printed by draft/genmay5.py.)
-/
import Derived.Test.YtlaccndjlfpjbaaGreatDoorB09
set_option linter.unusedSimpArgs false
set_option linter.unusedVariables false
namespace Go.Proofs.YtlaccndjlfpjbaaGreatDoor
open Go.RowKit
theorem wanted_dec {o : Oper} {y : Nat → Option Bool} {p : Prop} [Decidable p] (h : p) (e : Region.wanted o y = (some (decide p) == some true)) : Region.wanted o y = true := by rw [e, decide_eq_true h]; rfl
theorem good_is {x : Ev} {R F : Bool} (hR : evGood x = R) (hk : evKind x.k = true) (hF : evFits x = F) : (¬ x.c < 16 → R = false) ∧ (F = false → R = false) ∧ (x.c < 16 → F = true → R = evSame x (evNeed x)) := by
  subst hR hF
  unfold evGood
  refine ⟨fun h => ?_, fun h => ?_, fun h k => ?_⟩
  · rw [decide_eq_false h]; simp
  · rw [h]; simp
  · rw [hk, decide_eq_true h, k]; rfl
set_option maxHeartbeats 400000 in
theorem row_ev0 (k c i : Int) : (#[.int .u8 k, .int .u8 c, .int .u16 i, .int .u8 0, .int .u8 0, .int .u8 0, .int .u16 0, .int .u16 0, .int .u8 0, .int .u16 0, .slice none 0 0, .slice none 0 0, .int .u8 0, .int .i64 0, .int .i64 0, .int .i64 0, .bool false, .bool false, .bool false] : Array Value) = evC { evZero with k := k, c := c, id := i } (.slice none 0 0) (.slice none 0 0) := rfl
theorem row_ev1 (k : Int) (g : Cfg) : (#[.int .u8 k, .int .u8 0, .int .u16 0, .int .u8 0, .int .u8 0, .int .u8 0, .int .u16 0, .int .u16 0, .int .u8 0, .int .u16 0, .slice none 0 0, .slice none 0 0, .int .u8 g.m, .int .i64 g.mo, .int .i64 g.ms, .int .i64 g.mt, .bool g.p, .bool g.cu, .bool g.me] : Array Value) = evC { evZero with k := k, g := g } (.slice none 0 0) (.slice none 0 0) := rfl
set_option maxHeartbeats 8000000 in
set_option maxRecDepth 100000 in
theorem May5_4 (w : World) (x : Ev) (hx : x.In) {N : Nat} (tx rd : Value) (ht : EvAt N w tx rd x) (hN : N ≤ w.heap.size) (hk : x.k = 4) :
    Calls Tryz.prog 43 #[.agg (evC x tx rd)] w fun e w' => e = .returned (.bool (evGood x)) ∧ Keeps [] w w' := by
  have hk0 := (Keeps.refl [] w).alloc (.cells (evC x tx rd) 42)
  have hX := heap_alloc_new w (.cells (evC x tx rd) 42)
  have HT := Lib.hid ht
  have hx1 := ht.t.one
  have hx2 := ht.r.one
  have E0 := evC_0 x tx rd; have E1 := evC_1 x tx rd; have E2 := evC_2 x tx rd
  rw [hk] at E0
  generalize hR : evGood x = R at *
  obtain ⟨r1, r2, r3⟩ := good_is hR (by rw [hk]; rfl) (show evFits x = true by unfold evFits; rw [if_neg (by omega), if_neg (by omega), if_neg (by omega), if_neg (by omega), if_neg (by omega)])
  have R1 := Lib.hid r1; have R2 := Lib.hid r2; have R3 := Lib.hid r3
  clear hR r1 r2 r3 ht
  go_enter Tryz.func43, Tryz.ntmps43
  go_wp2_with ((with_reducible apply wpList_put_ev); exact rfl; exact rfl; (first | assumption | (refine heap_alloc_lt ?_; assumption) | (refine heap_alloc_lt (heap_alloc_lt ?_); assumption) | exact heap_alloc_at (by simp)); exact ⟨rfl, rfl⟩; exact rfl)
  intro W1 hb1 hk1
  rw [row_ev0] at hb1
  have hX1 := hk1.heap (heap_alloc_lt hX) (by simp)
  have hK1 : Keeps [] w W1 := (hk0.alloc _).trans hk1 (fun g hg => .inr (by simp at hg; omega))
  have c0 := ev_cell hX1 0 E0; have c1 := ev_cell hX1 1 E1
  clear E0 E1 E2 hX hk0 hk1
  have HK1 := Lib.hid hK1
  have hsz1 := hK1.size
  clear hK1
  by_cases h16 : x.c < 16
  · have r : R = evSame x { evZero with k := 4, c := x.c, id := x.id } := by
      have hn : evNeed x = { evZero with k := 4, c := x.c, id := x.id } := by unfold evNeed evWho; rw [if_neg (by omega), if_neg (by omega), if_neg (by omega), if_neg (by omega), if_neg (by omega), hk]
      rw [← hn]
      first | exact R3.out h16 rfl | exact R3.out h16 trivial
    subst r
    clear R1 R2 R3
    have d16 : decide (x.c < 16) = true := decide_eq_true h16
    go_wp2_with ((with_reducible apply wpList_load_evG); (first | exact rfl | exact wanted_dec h16 rfl); exact rfl; assumption; exact rfl)
    refine (refSame5_any W1 x { evZero with k := 4, c := x.c, id := x.id } tx rd (.slice none 0 0) (.slice none 0 0) (HT.out.new HK1.out hN) (⟨Mics.nil N _, Lists.nil N _⟩) (Nat.le_trans hN hsz1) (Nat.le_trans hN hsz1)).mono ?_; rintro z wz ⟨rfl, hkz⟩
    have HKZ := Lib.hid (HK1.out.trans hkz (FSub.refl _ _))
    clear hkz
    go_wp2_with fail
    go_ret
    exact ⟨rfl, HKZ.out⟩
  · have r : R = false := R1.out (by first | exact h16 | omega)
    subst r
    clear R1 R2 R3
    go_wp2_with fail
    go_ret
    exact ⟨rfl, HK1.out⟩
set_option maxHeartbeats 8000000 in
set_option maxRecDepth 100000 in
theorem May5_7 (w : World) (x : Ev) (hx : x.In) {N : Nat} (tx rd : Value) (ht : EvAt N w tx rd x) (hN : N ≤ w.heap.size) (hk : x.k = 7) :
    Calls Tryz.prog 43 #[.agg (evC x tx rd)] w fun e w' => e = .returned (.bool (evGood x)) ∧ Keeps [] w w' := by
  have hk0 := (Keeps.refl [] w).alloc (.cells (evC x tx rd) 42)
  have hX := heap_alloc_new w (.cells (evC x tx rd) 42)
  have HT := Lib.hid ht
  have hx1 := ht.t.one
  have hx2 := ht.r.one
  have E0 := evC_0 x tx rd; have E1 := evC_1 x tx rd; have E2 := evC_2 x tx rd
  rw [hk] at E0
  generalize hR : evGood x = R at *
  obtain ⟨r1, r2, r3⟩ := good_is hR (by rw [hk]; rfl) (show evFits x = true by unfold evFits; rw [if_neg (by omega), if_neg (by omega), if_neg (by omega), if_neg (by omega), if_neg (by omega)])
  have R1 := Lib.hid r1; have R2 := Lib.hid r2; have R3 := Lib.hid r3
  clear hR r1 r2 r3 ht
  go_enter Tryz.func43, Tryz.ntmps43
  go_wp2_with ((with_reducible apply wpList_put_ev); exact rfl; exact rfl; (first | assumption | (refine heap_alloc_lt ?_; assumption) | (refine heap_alloc_lt (heap_alloc_lt ?_); assumption) | exact heap_alloc_at (by simp)); exact ⟨rfl, rfl⟩; exact rfl)
  intro W1 hb1 hk1
  rw [row_ev0] at hb1
  have hX1 := hk1.heap (heap_alloc_lt hX) (by simp)
  have hK1 : Keeps [] w W1 := (hk0.alloc _).trans hk1 (fun g hg => .inr (by simp at hg; omega))
  have c0 := ev_cell hX1 0 E0; have c1 := ev_cell hX1 1 E1
  clear E0 E1 E2 hX hk0 hk1
  have HK1 := Lib.hid hK1
  have hsz1 := hK1.size
  clear hK1
  by_cases h16 : x.c < 16
  · have r : R = evSame x { evZero with k := 7, c := x.c, id := x.id } := by
      have hn : evNeed x = { evZero with k := 7, c := x.c, id := x.id } := by unfold evNeed evWho; rw [if_neg (by omega), if_neg (by omega), if_neg (by omega), if_neg (by omega), if_neg (by omega), hk]
      rw [← hn]
      first | exact R3.out h16 rfl | exact R3.out h16 trivial
    subst r
    clear R1 R2 R3
    have d16 : decide (x.c < 16) = true := decide_eq_true h16
    go_wp2_with ((with_reducible apply wpList_load_evG); (first | exact rfl | exact wanted_dec h16 rfl); exact rfl; assumption; exact rfl)
    refine (refSame5_any W1 x { evZero with k := 7, c := x.c, id := x.id } tx rd (.slice none 0 0) (.slice none 0 0) (HT.out.new HK1.out hN) (⟨Mics.nil N _, Lists.nil N _⟩) (Nat.le_trans hN hsz1) (Nat.le_trans hN hsz1)).mono ?_; rintro z wz ⟨rfl, hkz⟩
    have HKZ := Lib.hid (HK1.out.trans hkz (FSub.refl _ _))
    clear hkz
    go_wp2_with fail
    go_ret
    exact ⟨rfl, HKZ.out⟩
  · have r : R = false := R1.out (by first | exact h16 | omega)
    subst r
    clear R1 R2 R3
    go_wp2_with fail
    go_ret
    exact ⟨rfl, HK1.out⟩
set_option maxHeartbeats 8000000 in
set_option maxRecDepth 100000 in
theorem May5_none (w : World) (x : Ev) (hx : x.In) (tx rd : Value) (h1 : tx.oneCell' = true) (h2 : rd.oneCell' = true) (hk : evKind x.k = false) :
    Calls Tryz.prog 43 #[.agg (evC x tx rd)] w fun e w' => e = .returned (.bool (evGood x)) ∧ Keeps [] w w' := by
  have hk0 := (Keeps.refl [] w).alloc (.cells (evC x tx rd) 42)
  have hX := heap_alloc_new w (.cells (evC x tx rd) 42)
  have E0 := evC_0 x tx rd; have E1 := evC_1 x tx rd; have E2 := evC_2 x tx rd
  have hR : evGood x = false := by unfold evGood; rw [hk]; rfl
  rw [hR]
  have hn := kind_not hk
  have q1 : (x.k == 1) = false := by simp; omega
  have q2 : (x.k == 2) = false := by simp; omega
  have q3 : (x.k == 3) = false := by simp; omega
  have q4 : (x.k == 4) = false := by simp; omega
  have q5 : (x.k == 5) = false := by simp; omega
  have q6 : (x.k == 6) = false := by simp; omega
  have q7 : (x.k == 7) = false := by simp; omega
  clear hn hR hk
  generalize x.k = k at *
  go_enter Tryz.func43, Tryz.ntmps43
  go_wp2_with ((with_reducible apply wpList_put_ev); exact rfl; exact rfl; (first | assumption | (refine heap_alloc_lt ?_; assumption) | (refine heap_alloc_lt (heap_alloc_lt ?_); assumption) | exact heap_alloc_at (by simp)); exact ⟨rfl, rfl⟩; exact rfl)
  intro W1 hb1 hk1
  have hX1 := hk1.heap (heap_alloc_lt hX) (by simp)
  have hK1 : Keeps [] w W1 := (hk0.alloc _).trans hk1 (fun g hg => .inr (by simp at hg; omega))
  have c0 := ev_cell hX1 0 E0
  clear E0 E1 E2 hX hk0 hk1 hX1 hb1
  go_wp2_with fail
  go_ret
  exact ⟨rfl, hK1⟩
end Go.Proofs.YtlaccndjlfpjbaaGreatDoor
/-
  The document's May: an invoke, a return. (Printed by draft/genmay5.py.)
-/
namespace Go.Proofs.YtlaccndjlfpjbaaGreatDoor
open Go.RowKit
set_option maxHeartbeats 8000000 in
set_option maxRecDepth 100000 in
theorem May5_2 (w : World) (x : Ev) (hx : x.In) {N : Nat} (tx rd : Value) (ht : EvAt N w tx rd x) (hN : N ≤ w.heap.size) (hk : x.k = 2) :
    Calls Tryz.prog 43 #[.agg (evC x tx rd)] w fun e w' => e = .returned (.bool (evGood x)) ∧ Keeps [] w w' := by
  have hk0 := (Keeps.refl [] w).alloc (.cells (evC x tx rd) 42)
  have hX := heap_alloc_new w (.cells (evC x tx rd) 42)
  have HT := Lib.hid ht
  have hx1 := ht.t.one
  have hx2 := ht.r.one
  have E0 := evC_0 x tx rd; have E1 := evC_1 x tx rd; have E2 := evC_2 x tx rd
  rw [hk] at E0
  generalize hR : evGood x = R at *
  obtain ⟨r1, r2, r3⟩ := good_is hR (by rw [hk]; rfl) (show evFits x = opGood x.o by unfold evFits; rw [if_neg (by omega), if_pos hk])
  have R1 := Lib.hid r1; have R2 := Lib.hid r2; have R3 := Lib.hid r3
  clear hR r1 r2 r3 ht
  go_enter Tryz.func43, Tryz.ntmps43
  go_wp2_with ((with_reducible apply wpList_put_ev); exact rfl; exact rfl; (first | assumption | (refine heap_alloc_lt ?_; assumption) | (refine heap_alloc_lt (heap_alloc_lt ?_); assumption) | exact heap_alloc_at (by simp)); exact ⟨rfl, rfl⟩; exact rfl)
  intro W1 hb1 hk1
  rw [row_ev0] at hb1
  have hX1 := hk1.heap (heap_alloc_lt hX) (by simp)
  have hK1 : Keeps [] w W1 := (hk0.alloc _).trans hk1 (fun g hg => .inr (by simp at hg; omega))
  have c0 := ev_cell hX1 0 E0; have c1 := ev_cell hX1 1 E1
  have c3 := ev_cell hX1 3 (evC_3 x tx rd)
  have c4 := ev_cell hX1 4 (evC_4 x tx rd)
  have c5 := ev_cell hX1 5 (evC_5 x tx rd)
  have c6 := ev_cell hX1 6 (evC_6 x tx rd)
  have c7 := ev_cell hX1 7 (evC_7 x tx rd)
  clear E1 E2 hX hk0 hk1
  have HK1 := Lib.hid hK1
  have hsz1 := hK1.size
  clear hK1
  go_wp2_with ((with_reducible apply wpList_put_op); exact rfl; exact rfl; exact hb1)
  intro W2 hb2 hk2
  have hX2 := hk2.heap hX1 (by simp)
  have HK2 := Lib.hid (HK1.out.trans hk2 (fun g hg => .inr (by simp at hg; omega)))
  have c0 := ev_cell hX2 0 E0; have c1 := ev_cell hX2 1 (evC_1 x tx rd)
  have c3 := ev_cell hX2 3 (evC_3 x tx rd)
  have c4 := ev_cell hX2 4 (evC_4 x tx rd)
  have c5 := ev_cell hX2 5 (evC_5 x tx rd)
  have c6 := ev_cell hX2 6 (evC_6 x tx rd)
  have c7 := ev_cell hX2 7 (evC_7 x tx rd)
  have hsz2 := HK2.out.size
  clear HK1 hX1 hb1 hk2 hsz1 E0
  have hcall := fun w => May_any w x.o.f x.o.o x.o.k x.o.a x.o.b hx.o
  have HC := Lib.hid hcall
  clear hcall
  rcases bool_two (opGood x.o) with hF | hF
  · rw [hF] at HC R2 R3
    go_wp2_with fail
    refine (HC.out _).mono ?_; rintro z w3 ⟨rfl, hk3⟩
    have hX3 := hk3.heap hX2 (by simp)
    have hb3 := hk3.heap hb2 (by simp)
    have HK3 := Lib.hid (HK2.out.trans hk3 (FSub.refl _ _))
    have c1 := ev_cell hX3 1 (evC_1 x tx rd)
    have hsz3 := HK3.out.size
    clear HK2 hX2 hb2 hk3 hsz2 HC
    by_cases h16 : x.c < 16
    · have r : R = evSame x { evZero with k := 2, c := x.c, id := x.id, o := x.o } := by
        have hn : evNeed x = { evZero with k := 2, c := x.c, id := x.id, o := x.o } := by unfold evNeed evWho; rw [if_neg (by omega), if_pos hk, hk]
        rw [← hn]
        first | exact R3.out h16 rfl | exact R3.out h16 trivial
      subst r
      clear R1 R2 R3
      have d16 : decide (x.c < 16) = true := decide_eq_true h16
      go_wp2_with ((with_reducible apply wpList_load_evG); (first | exact rfl | exact wanted_dec h16 rfl); exact rfl; assumption; exact rfl)
      refine (refSame5_any w3 x { evZero with k := 2, c := x.c, id := x.id, o := x.o } tx rd (.slice none 0 0) (.slice none 0 0) (HT.out.new HK3.out hN) (⟨Mics.nil N _, Lists.nil N _⟩) (Nat.le_trans hN hsz3) (Nat.le_trans hN hsz3)).mono ?_; rintro z wz ⟨rfl, hkz⟩
      have HKZ := Lib.hid (HK3.out.trans hkz (FSub.refl _ _))
      clear hkz
      go_wp2_with fail
      go_ret
      exact ⟨rfl, HKZ.out⟩
    · have r : R = false := R1.out (by first | exact h16 | omega)
      subst r
      clear R1 R2 R3
      go_wp2_with fail
      go_ret
      exact ⟨rfl, HK3.out⟩
  · rw [hF] at HC R2 R3
    have r : R = false := by first | exact R2.out rfl | exact R2.out trivial | exact R2.out
    subst r
    go_wp2_with fail
    refine (HC.out _).mono ?_; rintro z w3 ⟨rfl, hk3⟩
    have HK3 := Lib.hid (HK2.out.trans hk3 (FSub.refl _ _))
    clear hk3 R1 R2 R3
    go_wp2_with fail
    go_ret
    exact ⟨rfl, HK3.out⟩
set_option maxHeartbeats 8000000 in
set_option maxRecDepth 100000 in
theorem May5_3 (w : World) (x : Ev) (hx : x.In) {N : Nat} (tx rd : Value) (ht : EvAt N w tx rd x) (hN : N ≤ w.heap.size) (hk : x.k = 3) :
    Calls Tryz.prog 43 #[.agg (evC x tx rd)] w fun e w' => e = .returned (.bool (evGood x)) ∧ Keeps [] w w' := by
  have hk0 := (Keeps.refl [] w).alloc (.cells (evC x tx rd) 42)
  have hX := heap_alloc_new w (.cells (evC x tx rd) 42)
  have HT := Lib.hid ht
  have hx1 := ht.t.one
  have hx2 := ht.r.one
  have E0 := evC_0 x tx rd; have E1 := evC_1 x tx rd; have E2 := evC_2 x tx rd
  rw [hk] at E0
  generalize hR : evGood x = R at *
  obtain ⟨r1, r2, r3⟩ := good_is hR (by rw [hk]; rfl) (show evFits x = rsGood x.rk x.rv by unfold evFits; rw [if_neg (by omega), if_neg (by omega), if_pos hk])
  have R1 := Lib.hid r1; have R2 := Lib.hid r2; have R3 := Lib.hid r3
  clear hR r1 r2 r3 ht
  go_enter Tryz.func43, Tryz.ntmps43
  go_wp2_with ((with_reducible apply wpList_put_ev); exact rfl; exact rfl; (first | assumption | (refine heap_alloc_lt ?_; assumption) | (refine heap_alloc_lt (heap_alloc_lt ?_); assumption) | exact heap_alloc_at (by simp)); exact ⟨rfl, rfl⟩; exact rfl)
  intro W1 hb1 hk1
  rw [row_ev0] at hb1
  have hX1 := hk1.heap (heap_alloc_lt hX) (by simp)
  have hK1 : Keeps [] w W1 := (hk0.alloc _).trans hk1 (fun g hg => .inr (by simp at hg; omega))
  have c0 := ev_cell hX1 0 E0; have c1 := ev_cell hX1 1 E1
  have c8 := ev_cell hX1 8 (evC_8 x tx rd)
  have c9 := ev_cell hX1 9 (evC_9 x tx rd)
  clear E1 E2 hX hk0 hk1
  have HK1 := Lib.hid hK1
  have hsz1 := hK1.size
  clear hK1
  go_wp2_with ((with_reducible apply wpList_put_res); exact rfl; exact rfl; exact hb1)
  intro W2 hb2 hk2
  have hX2 := hk2.heap hX1 (by simp)
  have HK2 := Lib.hid (HK1.out.trans hk2 (fun g hg => .inr (by simp at hg; omega)))
  have c0 := ev_cell hX2 0 E0; have c1 := ev_cell hX2 1 (evC_1 x tx rd)
  have c8 := ev_cell hX2 8 (evC_8 x tx rd)
  have c9 := ev_cell hX2 9 (evC_9 x tx rd)
  have hsz2 := HK2.out.size
  clear HK1 hX1 hb1 hk2 hsz1 E0
  have hcall := fun w => Good_any w x.rk x.rv hx.rk0 hx.rk1
  have HC := Lib.hid hcall
  clear hcall
  rcases bool_two (rsGood x.rk x.rv) with hF | hF
  · rw [hF] at HC R2 R3
    go_wp2_with fail
    refine (HC.out _).mono ?_; rintro z w3 ⟨rfl, hk3⟩
    have hX3 := hk3.heap hX2 (by simp)
    have hb3 := hk3.heap hb2 (by simp)
    have HK3 := Lib.hid (HK2.out.trans hk3 (FSub.refl _ _))
    have c1 := ev_cell hX3 1 (evC_1 x tx rd)
    have hsz3 := HK3.out.size
    clear HK2 hX2 hb2 hk3 hsz2 HC
    by_cases h16 : x.c < 16
    · have r : R = evSame x { evZero with k := 3, c := x.c, id := x.id, rk := x.rk, rv := x.rv } := by
        have hn : evNeed x = { evZero with k := 3, c := x.c, id := x.id, rk := x.rk, rv := x.rv } := by unfold evNeed evWho; rw [if_neg (by omega), if_neg (by omega), if_pos hk, hk]
        rw [← hn]
        first | exact R3.out h16 rfl | exact R3.out h16 trivial
      subst r
      clear R1 R2 R3
      have d16 : decide (x.c < 16) = true := decide_eq_true h16
      go_wp2_with ((with_reducible apply wpList_load_evG); (first | exact rfl | exact wanted_dec h16 rfl); exact rfl; assumption; exact rfl)
      refine (refSame5_any w3 x { evZero with k := 3, c := x.c, id := x.id, rk := x.rk, rv := x.rv } tx rd (.slice none 0 0) (.slice none 0 0) (HT.out.new HK3.out hN) (⟨Mics.nil N _, Lists.nil N _⟩) (Nat.le_trans hN hsz3) (Nat.le_trans hN hsz3)).mono ?_; rintro z wz ⟨rfl, hkz⟩
      have HKZ := Lib.hid (HK3.out.trans hkz (FSub.refl _ _))
      clear hkz
      go_wp2_with fail
      go_ret
      exact ⟨rfl, HKZ.out⟩
    · have r : R = false := R1.out (by first | exact h16 | omega)
      subst r
      clear R1 R2 R3
      go_wp2_with fail
      go_ret
      exact ⟨rfl, HK3.out⟩
  · rw [hF] at HC R2 R3
    have r : R = false := by first | exact R2.out rfl | exact R2.out trivial | exact R2.out
    subst r
    go_wp2_with fail
    refine (HC.out _).mono ?_; rintro z w3 ⟨rfl, hk3⟩
    have HK3 := Lib.hid (HK2.out.trans hk3 (FSub.refl _ _))
    clear hk3 R1 R2 R3
    go_wp2_with fail
    go_ret
    exact ⟨rfl, HK3.out⟩
end Go.Proofs.YtlaccndjlfpjbaaGreatDoor
/-
  The document's May: a config. (Printed by draft/genmay5.py.)
-/
namespace Go.Proofs.YtlaccndjlfpjbaaGreatDoor
open Go.RowKit
set_option maxHeartbeats 8000000 in
set_option maxRecDepth 100000 in
theorem May5_1 (w : World) (x : Ev) (hx : x.In) {N : Nat} (tx rd : Value) (ht : EvAt N w tx rd x) (hN : N ≤ w.heap.size) (hk : x.k = 1) :
    Calls Tryz.prog 43 #[.agg (evC x tx rd)] w fun e w' => e = .returned (.bool (evGood x)) ∧ Keeps [] w w' := by
  have hk0 := (Keeps.refl [] w).alloc (.cells (evC x tx rd) 42)
  have hX := heap_alloc_new w (.cells (evC x tx rd) 42)
  have HT := Lib.hid ht
  have hx1 := ht.t.one
  have hx2 := ht.r.one
  have E0 := evC_0 x tx rd; have E1 := evC_1 x tx rd; have E2 := evC_2 x tx rd
  rw [hk] at E0
  generalize hR : evGood x = R at *
  obtain ⟨r1, r2, r3⟩ := good_is hR (by rw [hk]; rfl) (show evFits x = cfgGood x.g by unfold evFits; rw [if_pos hk])
  have R1 := Lib.hid r1; have R2 := Lib.hid r2; have R3 := Lib.hid r3
  clear hR r1 r2 r3 ht
  go_enter Tryz.func43, Tryz.ntmps43
  go_wp2_with ((with_reducible apply wpList_put_ev); exact rfl; exact rfl; (first | assumption | (refine heap_alloc_lt ?_; assumption) | (refine heap_alloc_lt (heap_alloc_lt ?_); assumption) | exact heap_alloc_at (by simp)); exact ⟨rfl, rfl⟩; exact rfl)
  intro W1 hb1 hk1
  rw [row_ev0] at hb1
  have hX1 := hk1.heap (heap_alloc_lt hX) (by simp)
  have hK1 : Keeps [] w W1 := (hk0.alloc _).trans hk1 (fun g hg => .inr (by simp at hg; omega))
  have c0 := ev_cell hX1 0 E0; have c1 := ev_cell hX1 1 E1
  have c12 := ev_cell hX1 12 (evC_12 x tx rd)
  have c13 := ev_cell hX1 13 (evC_13 x tx rd)
  have c14 := ev_cell hX1 14 (evC_14 x tx rd)
  have c15 := ev_cell hX1 15 (evC_15 x tx rd)
  have c16 := ev_cell hX1 16 (evC_16 x tx rd)
  have c17 := ev_cell hX1 17 (evC_17 x tx rd)
  have c18 := ev_cell hX1 18 (evC_18 x tx rd)
  clear E0 E1 E2 hX hk0 hk1
  have HK1 := Lib.hid hK1
  have hsz1 := hK1.size
  clear hK1
  have G0 : w.heap.size + 1 < W1.heap.size := lt_of_block hb1
  go_wp2_with ((with_reducible apply wpList_put_ev); exact rfl; exact rfl; (first | assumption | (refine heap_alloc_lt ?_; assumption) | (refine heap_alloc_lt (heap_alloc_lt ?_); assumption) | exact heap_alloc_at (by simp)); exact ⟨rfl, rfl⟩; exact rfl)
  intro W2 hb2 hk2
  rw [row_ev1] at hb2
  have hX2 := hk2.heap (heap_alloc_lt hX1) (by simp)
  have hC2 := hk2.heap (heap_alloc_new W1 (.cells #[.int .u8 x.g.m, .int .i64 x.g.mo, .int .i64 x.g.ms, .int .i64 x.g.mt, .bool x.g.p, .bool x.g.cu, .bool x.g.me] 40)) (by simp; omega)
  have HK2 := Lib.hid ((HK1.out.alloc (.cells #[.int .u8 x.g.m, .int .i64 x.g.mo, .int .i64 x.g.ms, .int .i64 x.g.mt, .bool x.g.p, .bool x.g.cu, .bool x.g.me] 40)).trans hk2 (fun g hg => .inr (by simp at hg; omega)))
  have d0 : W2.cell? ⟨W1.heap.size, 0, none⟩ = some (.int .u8 x.g.m) := by simp [World.cell?, hC2]
  have d1 : W2.cell? ⟨W1.heap.size, 1, none⟩ = some (.int .i64 x.g.mo) := by simp [World.cell?, hC2]
  have d2 : W2.cell? ⟨W1.heap.size, 2, none⟩ = some (.int .i64 x.g.ms) := by simp [World.cell?, hC2]
  have d3 : W2.cell? ⟨W1.heap.size, 3, none⟩ = some (.int .i64 x.g.mt) := by simp [World.cell?, hC2]
  have c1 := ev_cell hX2 1 (evC_1 x tx rd)
  have hsz2 := HK2.out.size
  clear HK1 hX1 hb1 hk2 hsz1 hC2 c0 c12 c13 c14 c15 c16 c17 c18 G0
  generalize W1.heap.size = B at *
  rcases bool_two (cfgGood x.g) with hF | hF
  · rw [hF] at R2 R3
    have hg := hF
    unfold cfgGood at hg
    simp only [Bool.and_eq_true, decide_eq_true_eq] at hg
    obtain ⟨⟨⟨g1, g2, g3⟩, g4, g5⟩, g6, g7⟩ := hg
    have e1 : decide (4 < x.g.m) = false := decide_eq_false (by omega)
    have e2 : decide (x.g.mo < 1) = false := decide_eq_false (by omega)
    have e3 : decide (32 < x.g.mo) = false := decide_eq_false (by omega)
    have e4 : decide (x.g.ms < 1) = false := decide_eq_false (by omega)
    have e5 : decide (4096 < x.g.ms) = false := decide_eq_false (by omega)
    have e6 : decide (x.g.mt < 1) = false := decide_eq_false (by omega)
    have e7 : decide (1048576 < x.g.mt) = false := decide_eq_false (by omega)
    clear hF
    by_cases h16 : x.c < 16
    · have r : R = evSame x { evZero with k := 1, g := x.g } := by
        have hn : evNeed x = { evZero with k := 1, g := x.g } := by unfold evNeed evWho; rw [if_pos hk, hk]
        rw [← hn]
        first | exact R3.out h16 rfl | exact R3.out h16 trivial
      subst r
      clear R1 R2 R3
      have d16 : decide (x.c < 16) = true := decide_eq_true h16
      go_wp2_with ((with_reducible apply wpList_load_evG); (first | exact rfl | exact wanted_dec h16 rfl); exact rfl; assumption; exact rfl)
      refine (refSame5_any W2 x { evZero with k := 1, g := x.g } tx rd (.slice none 0 0) (.slice none 0 0) (HT.out.new HK2.out hN) (⟨Mics.nil N _, Lists.nil N _⟩) (Nat.le_trans hN hsz2) (Nat.le_trans hN hsz2)).mono ?_; rintro z wz ⟨rfl, hkz⟩
      have HKZ := Lib.hid (HK2.out.trans hkz (FSub.refl _ _))
      clear hkz
      go_wp2_with fail
      go_ret
      exact ⟨rfl, HKZ.out⟩
    · have r : R = false := R1.out (by first | exact h16 | omega)
      subst r
      clear R1 R2 R3
      go_wp2_with fail
      go_ret
      exact ⟨rfl, HK2.out⟩
  · rw [hF] at R2 R3
    have r : R = false := by first | exact R2.out rfl | exact R2.out trivial | exact R2.out
    subst r
    clear R1 R2 R3
    have bad : ¬ (x.g.m ≤ 4 ∧ (1 ≤ x.g.mo ∧ x.g.mo ≤ 32) ∧ (1 ≤ x.g.ms ∧ x.g.ms ≤ 4096) ∧ (1 ≤ x.g.mt ∧ x.g.mt ≤ 1048576)) := by
      intro ⟨g1, g2, g3, g4⟩
      unfold cfgGood at hF
      rw [decide_eq_true g1, decide_eq_true g2, decide_eq_true g3, decide_eq_true g4] at hF
      cases hF
    clear hF
    by_cases e1 : 4 < x.g.m
    · clear bad; go_wp2_with fail
      go_ret
      exact ⟨rfl, HK2.out⟩
    by_cases e2 : x.g.mo < 1
    · clear bad; go_wp2_with fail
      go_ret
      exact ⟨rfl, HK2.out⟩
    by_cases e3 : 32 < x.g.mo
    · clear bad; go_wp2_with fail
      go_ret
      exact ⟨rfl, HK2.out⟩
    by_cases e4 : x.g.ms < 1
    · clear bad; go_wp2_with fail
      go_ret
      exact ⟨rfl, HK2.out⟩
    by_cases e5 : 4096 < x.g.ms
    · clear bad; go_wp2_with fail
      go_ret
      exact ⟨rfl, HK2.out⟩
    by_cases e6 : x.g.mt < 1
    · clear bad; go_wp2_with fail
      go_ret
      exact ⟨rfl, HK2.out⟩
    have e7 : 1048576 < x.g.mt := by omega
    clear bad
    go_wp2_with fail
    go_ret
    exact ⟨rfl, HK2.out⟩
end Go.Proofs.YtlaccndjlfpjbaaGreatDoor
/-
  The document's May: micros. (Printed by draft/genmay5.py.)
-/
namespace Go.Proofs.YtlaccndjlfpjbaaGreatDoor
open Go.RowKit
set_option maxHeartbeats 8000000 in
set_option maxRecDepth 100000 in
theorem May5_5 (w : World) (x : Ev) (hx : x.In) {N : Nat} (tx rd : Value) (ht : EvAt N w tx rd x) (hN : N ≤ w.heap.size) (hk : x.k = 5) :
    Calls Tryz.prog 43 #[.agg (evC x tx rd)] w fun e w' => e = .returned (.bool (evGood x)) ∧ Keeps [] w w' := by
  have hk0 := (Keeps.refl [] w).alloc (.cells (evC x tx rd) 42)
  have hX := heap_alloc_new w (.cells (evC x tx rd) 42)
  have HT := Lib.hid ht
  have hx1 := ht.t.one
  have hx2 := ht.r.one
  have E0 := evC_0 x tx rd; have E1 := evC_1 x tx rd; have E2 := evC_2 x tx rd
  rw [hk] at E0
  generalize hR : evGood x = R at *
  obtain ⟨r1, r2, r3⟩ := good_is hR (by rw [hk]; rfl) (show evFits x = micsGood x.t by unfold evFits; rw [if_neg (by omega), if_neg (by omega), if_neg (by omega), if_pos hk])
  have R1 := Lib.hid r1; have R2 := Lib.hid r2; have R3 := Lib.hid r3
  clear hR r1 r2 r3 ht
  go_enter Tryz.func43, Tryz.ntmps43
  go_wp2_with ((with_reducible apply wpList_put_ev); exact rfl; exact rfl; (first | assumption | (refine heap_alloc_lt ?_; assumption) | (refine heap_alloc_lt (heap_alloc_lt ?_); assumption) | exact heap_alloc_at (by simp)); exact ⟨rfl, rfl⟩; exact rfl)
  intro W1 hb1 hk1
  rw [row_ev0] at hb1
  have hX1 := hk1.heap (heap_alloc_lt hX) (by simp)
  have hK1 : Keeps [] w W1 := (hk0.alloc _).trans hk1 (fun g hg => .inr (by simp at hg; omega))
  have c0 := ev_cell hX1 0 E0; have c1 := ev_cell hX1 1 E1
  have c10 := ev_cell hX1 10 (evC_10 x tx rd)
  clear E0 E1 E2 hX hk0 hk1
  have HK1 := Lib.hid hK1
  have hsz1 := hK1.size
  clear hK1
  go_wp2_with ((with_reducible apply wpList_put_cell (T := 37) 10 { evZero with k := 5, c := x.c, id := x.id, t := x.t } tx (.slice none 0 0)); exact rfl; exact rfl; assumption; kernel_rfl; assumption; exact rfl; exact rfl)
  intro W2 hb2 hk2
  obtain ⟨a, cc, ea, hc, hm, hh⟩ := HT.out.t
  have hX2 := hk2.heap hX1 (by simp)
  have HK2 := Lib.hid (HK1.out.trans hk2 (fun g hg => .inr (by simp at hg; omega)))
  have c1 := ev_cell hX2 1 (evC_1 x tx rd)
  have cl := (ev_cell hX2 10 (evC_10 x tx rd)).trans (congrArg some ea)
  have hsz2 := HK2.out.size
  have hls : (x.t.length : Int) ≤ 9223372036854775807 := by omega
  have HH := Lib.hid hh
  clear HK1 hX1 hb1 hk2 hsz1 c0 c10 hh ea
  by_cases hl : 1 ≤ x.t.length ∧ x.t.length ≤ 8
  · have e1 : decide ((x.t.length : Int) < 1) = false := decide_eq_false (by omega)
    have e2 : decide (8 < (x.t.length : Int)) = false := decide_eq_false (by omega)
    obtain ⟨bk, o, rfl, hbN, hcells⟩ := HH.out (fun e => by rw [e] at hl; simp at hl)
    have HC := Lib.hid hcells
    have hin := hx.t
    have HIN := Lib.hid hin
    have HG : Hid (micsGood x.t = x.t.all micGood) := Lib.hid (by unfold micsGood; rw [decide_eq_true hl]; rfl)
    clear hcells HH hin hx
    go_wp2_with fail
    go_loopw [2, 5] (fun r i wr => ∃ k : Nat, r = .bool false ∧ i = .int .i64 k ∧ k ≤ x.t.length ∧ (∀ j, j < k → micGood (x.t.getD j micNone) = true) ∧ wr = W2) (fun _ i _ => x.t.length - (intOf i).toNat)
    case atStart => exact ⟨0, rfl, rfl, by omega, fun j hj => by omega, rfl⟩
    case round =>
      obtain ⟨k, rfl, rfl, hk', hp, rfl⟩ := hrel
      have HP := Lib.hid hp; clear hp
      by_cases hlt : k < x.t.length
      · obtain ⟨d1, d2, d3⟩ := HC.out k _ (getD_get micNone hlt)
        replace d1 := HK2.out.cell d1 (by simp)
        replace d2 := HK2.out.cell d2 (by simp)
        replace d3 := HK2.out.cell d3 (by simp)
        have hmi := HIN.out _ (getD_in micNone hlt)
        have b1 := hmi.k0; have b2 := hmi.k1; have b3 := hmi.v0; have b4 := hmi.v1
        have y1 : (k : Int) < (x.t.length : Int) := by omega
        clear hmi
        rcases bool_two (micGood (x.t.getD k micNone)) with hg | hg
        · have HN := Lib.hid (prefix_all HP.out hg)
          clear R1 R2 R3 HP HC HIN HG HT
          generalize x.t.getD k micNone = M at *
          obtain ⟨m1, m2, m3⟩ := M
          simp only [micGood] at hg d1 d2 d3 b1 b2 b3 b4
          have q1 : m2 < 8 := by simp at hg; exact hg.1
          have q2 : ¬ 7 < m2 := by omega
          have q4 : decide (7 < m2) = false := decide_eq_false q2
          cases m1 with
          | false =>
            clear hg
            go_wp2_with fail
            go_roundw
            case rel => exact ⟨k + 1, rfl, by go_num, by omega, HN.out, trivial⟩
            case measure => simp [intOf]; omega
          | true =>
            have q3 : m3 = 0 := by simp at hg; exact hg.2
            subst q3
            clear hg
            go_wp2_with fail
            go_roundw
            case rel => exact ⟨k + 1, rfl, by go_num, by omega, HN.out, trivial⟩
            case measure => simp [intOf]; omega
        · have r : R = false := R2.out (by rw [HG.out]; exact all_not micNone hlt hg)
          subst r
          clear R1 R2 R3 HP HC HIN HG HT
          generalize x.t.getD k micNone = M at *
          obtain ⟨m1, m2, m3⟩ := M
          simp only [micGood] at hg d1 d2 d3 b1 b2 b3 b4
          by_cases q1 : 7 < m2
          · clear hg
            go_wp2_with fail
            go_ret
            exact ⟨rfl, HK2.out⟩
          · have q2 : m1 = true ∧ (m3 != 0) = true := by
              simp at hg ⊢
              exact hg (by omega)
            obtain ⟨rfl, q3⟩ := q2
            have q4 : decide (7 < m2) = false := decide_eq_false q1
            clear hg
            go_wp2_with fail
            go_ret
            exact ⟨rfl, HK2.out⟩
      · obtain rfl : k = x.t.length := by omega
        have hF : micsGood x.t = true := HG.out.trans (all_take micNone HP.out)
        rw [hF] at R2 R3
        clear HP HC HIN HG hF
        by_cases h16 : x.c < 16
        · have r : R = evSame x { evZero with k := 5, c := x.c, id := x.id, t := x.t } := by
            have hn : evNeed x = { evZero with k := 5, c := x.c, id := x.id, t := x.t } := by unfold evNeed evWho; rw [if_neg (by omega), if_neg (by omega), if_neg (by omega), if_pos hk, hk]
            rw [← hn]
            first | exact R3.out h16 rfl | exact R3.out h16 trivial
          subst r
          clear R1 R2 R3
          have d16 : decide (x.c < 16) = true := decide_eq_true h16
          go_wp2_with ((with_reducible apply wpList_load_evG); (first | exact rfl | exact wanted_dec h16 rfl); exact rfl; assumption; exact rfl)
          refine (refSame5_any wr x { evZero with k := 5, c := x.c, id := x.id, t := x.t } tx rd tx (.slice none 0 0) (HT.out.new HK2.out hN) (⟨(HT.out.new HK2.out hN).t, Lists.nil N _⟩) (Nat.le_trans hN hsz2) (Nat.le_trans hN hsz2)).mono ?_; rintro z wz ⟨rfl, hkz⟩
          have HKZ := Lib.hid (HK2.out.trans hkz (FSub.refl _ _))
          clear hkz
          go_wp2_with fail
          go_ret
          exact ⟨rfl, HKZ.out⟩
        · have r : R = false := R1.out (by first | exact h16 | omega)
          subst r
          clear R1 R2 R3
          go_wp2_with fail
          go_ret
          exact ⟨rfl, HK2.out⟩
  · have hF : micsGood x.t = false := by unfold micsGood; rw [decide_eq_false hl]; rfl
    have r : R = false := R2.out hF
    subst r
    clear R1 R2 R3 HH
    by_cases e1 : (x.t.length : Int) < 1
    · go_wp2_with fail
      go_ret
      exact ⟨rfl, HK2.out⟩
    · have e2 : 8 < (x.t.length : Int) := by omega
      have e3 : decide ((x.t.length : Int) < 1) = false := decide_eq_false e1
      go_wp2_with fail
      go_ret
      exact ⟨rfl, HK2.out⟩
end Go.Proofs.YtlaccndjlfpjbaaGreatDoor
/-
  The document's May: lists. (Printed by draft/genmay5.py.)
-/
namespace Go.Proofs.YtlaccndjlfpjbaaGreatDoor
open Go.RowKit
set_option maxHeartbeats 8000000 in
set_option maxRecDepth 100000 in
theorem May5_6 (w : World) (x : Ev) (hx : x.In) {N : Nat} (tx rd : Value) (ht : EvAt N w tx rd x) (hN : N ≤ w.heap.size) (hk : x.k = 6) :
    Calls Tryz.prog 43 #[.agg (evC x tx rd)] w fun e w' => e = .returned (.bool (evGood x)) ∧ Keeps [] w w' := by
  have hk0 := (Keeps.refl [] w).alloc (.cells (evC x tx rd) 42)
  have hX := heap_alloc_new w (.cells (evC x tx rd) 42)
  have HT := Lib.hid ht
  have hx1 := ht.t.one
  have hx2 := ht.r.one
  have E0 := evC_0 x tx rd; have E1 := evC_1 x tx rd; have E2 := evC_2 x tx rd
  rw [hk] at E0
  generalize hR : evGood x = R at *
  obtain ⟨r1, r2, r3⟩ := good_is hR (by rw [hk]; rfl) (show evFits x = listsGood x.r by unfold evFits; rw [if_neg (by omega), if_neg (by omega), if_neg (by omega), if_neg (by omega), if_pos hk])
  have R1 := Lib.hid r1; have R2 := Lib.hid r2; have R3 := Lib.hid r3
  clear hR r1 r2 r3 ht
  go_enter Tryz.func43, Tryz.ntmps43
  go_wp2_with ((with_reducible apply wpList_put_ev); exact rfl; exact rfl; (first | assumption | (refine heap_alloc_lt ?_; assumption) | (refine heap_alloc_lt (heap_alloc_lt ?_); assumption) | exact heap_alloc_at (by simp)); exact ⟨rfl, rfl⟩; exact rfl)
  intro W1 hb1 hk1
  rw [row_ev0] at hb1
  have hX1 := hk1.heap (heap_alloc_lt hX) (by simp)
  have hK1 : Keeps [] w W1 := (hk0.alloc _).trans hk1 (fun g hg => .inr (by simp at hg; omega))
  have c0 := ev_cell hX1 0 E0; have c1 := ev_cell hX1 1 E1
  have c11 := ev_cell hX1 11 (evC_11 x tx rd)
  clear E0 E1 E2 hX hk0 hk1
  have HK1 := Lib.hid hK1
  have hsz1 := hK1.size
  clear hK1
  go_wp2_with ((with_reducible apply wpList_put_cell (T := 38) 11 { evZero with k := 6, c := x.c, id := x.id, r := x.r } (.slice none 0 0) rd); exact rfl; exact rfl; assumption; kernel_rfl; assumption; exact rfl; exact rfl)
  intro W2 hb2 hk2
  obtain ⟨a, cc, ea, hc, hm, hh⟩ := HT.out.r
  have hX2 := hk2.heap hX1 (by simp)
  have HK2 := Lib.hid (HK1.out.trans hk2 (fun g hg => .inr (by simp at hg; omega)))
  have c1 := ev_cell hX2 1 (evC_1 x tx rd)
  have cl := (ev_cell hX2 11 (evC_11 x tx rd)).trans (congrArg some ea)
  have hsz2 := HK2.out.size
  have hls : (x.r.length : Int) ≤ 9223372036854775807 := by omega
  have HH := Lib.hid hh
  clear HK1 hX1 hb1 hk2 hsz1 c0 c11 hh ea
  by_cases hl : x.r.length ≤ 8
  · have e2 : decide (8 < (x.r.length : Int)) = false := decide_eq_false (by omega)
    have HG : Hid (listsGood x.r = x.r.all fun l => decide (l.length ≤ 32)) := Lib.hid (by unfold listsGood; rw [decide_eq_true hl]; rfl)
    go_wp2_with fail
    go_loopw [2, 6] (fun r i wr => ∃ k : Nat, r = .bool false ∧ i = .int .i64 k ∧ k ≤ x.r.length ∧ (∀ j, j < k → (fun l : List Int => decide (l.length ≤ 32)) (x.r.getD j []) = true) ∧ wr = W2) (fun _ i _ => x.r.length - (intOf i).toNat)
    case atStart => exact ⟨0, rfl, rfl, by omega, fun j hj => by omega, rfl⟩
    case round =>
      obtain ⟨k, rfl, rfl, hk', hp, rfl⟩ := hrel
      have HP := Lib.hid hp; clear hp
      by_cases hlt : k < x.r.length
      · obtain ⟨bk, o, rfl, hbN, hcells⟩ := HH.out (fun e => by rw [e] at hlt; simp at hlt)
        obtain ⟨u, d1, hnu⟩ := hcells k hlt
        obtain ⟨a3, c3, rfl, hc3, hm3, -⟩ := hnu
        replace d1 := HK2.out.cell d1 (by simp)
        have y1 : (k : Int) < (x.r.length : Int) := by omega
        clear hcells
        by_cases hg : (x.r.getD k []).length ≤ 32
        · have HN := Lib.hid (prefix_all (p := fun l : List Int => decide (l.length ≤ 32)) HP.out (decide_eq_true hg))
          have q4 : ¬ 32 < ((x.r.getD k []).length : Int) := by omega
          clear R1 R2 R3 HP HH HG HT
          generalize (x.r.getD k []).length = M at *
          go_wp2_with fail
          go_roundw
          case rel => exact ⟨k + 1, rfl, by go_num, by omega, HN.out, trivial⟩
          case measure => simp [intOf]; omega
        · have r : R = false := R2.out (by rw [HG.out]; exact all_not [] hlt (decide_eq_false hg))
          subst r
          have q4 : 32 < ((x.r.getD k []).length : Int) := by omega
          clear R1 R2 R3 HP HH HG HT
          generalize (x.r.getD k []).length = M at *
          go_wp2_with fail
          go_ret
          exact ⟨rfl, HK2.out⟩
      · obtain rfl : k = x.r.length := by omega
        have hF : listsGood x.r = true := HG.out.trans (all_take [] HP.out)
        rw [hF] at R2 R3
        clear HP HH HG hF
        by_cases h16 : x.c < 16
        · have r : R = evSame x { evZero with k := 6, c := x.c, id := x.id, r := x.r } := by
            have hn : evNeed x = { evZero with k := 6, c := x.c, id := x.id, r := x.r } := by unfold evNeed evWho; rw [if_neg (by omega), if_neg (by omega), if_neg (by omega), if_neg (by omega), if_pos hk, hk]
            rw [← hn]
            first | exact R3.out h16 rfl | exact R3.out h16 trivial
          subst r
          clear R1 R2 R3
          have d16 : decide (x.c < 16) = true := decide_eq_true h16
          go_wp2_with ((with_reducible apply wpList_load_evG); (first | exact rfl | exact wanted_dec h16 rfl); exact rfl; assumption; exact rfl)
          refine (refSame5_any wr x { evZero with k := 6, c := x.c, id := x.id, r := x.r } tx rd (.slice none 0 0) rd (HT.out.new HK2.out hN) (⟨Mics.nil N _, (HT.out.new HK2.out hN).r⟩) (Nat.le_trans hN hsz2) (Nat.le_trans hN hsz2)).mono ?_; rintro z wz ⟨rfl, hkz⟩
          have HKZ := Lib.hid (HK2.out.trans hkz (FSub.refl _ _))
          clear hkz
          go_wp2_with fail
          go_ret
          exact ⟨rfl, HKZ.out⟩
        · have r : R = false := R1.out (by first | exact h16 | omega)
          subst r
          clear R1 R2 R3
          go_wp2_with fail
          go_ret
          exact ⟨rfl, HK2.out⟩
  · have hF : listsGood x.r = false := by unfold listsGood; rw [decide_eq_false hl]; rfl
    have r : R = false := R2.out hF
    subst r
    clear R1 R2 R3 HH
    have e2 : 8 < (x.r.length : Int) := by omega
    go_wp2_with fail
    go_ret
    exact ⟨rfl, HK2.out⟩
end Go.Proofs.YtlaccndjlfpjbaaGreatDoor
/-
  The document's May. (Printed by draft/genmay5.py.)
-/
namespace Go.Proofs.YtlaccndjlfpjbaaGreatDoor
open Go.RowKit
theorem refMay5_any (w : World) (x : Ev) (hx : x.In) {N : Nat} (tx rd : Value) (ht : EvAt N w tx rd x) (hN : N ≤ w.heap.size) :
    Calls Tryz.prog 43 #[.agg (evC x tx rd)] w fun e w' => e = .returned (.bool (evGood x)) ∧ Keeps [] w w' := by
  rcases bool_two (evKind x.k) with hk | hk
  · rcases kind_cases hk with h | h | h | h | h | h | h
    · exact May5_1 w x hx tx rd ht hN h
    · exact May5_2 w x hx tx rd ht hN h
    · exact May5_3 w x hx tx rd ht hN h
    · exact May5_4 w x hx tx rd ht hN h
    · exact May5_5 w x hx tx rd ht hN h
    · exact May5_6 w x hx tx rd ht hN h
    · exact May5_7 w x hx tx rd ht hN h
  · exact May5_none w x hx tx rd ht.t.one ht.r.one hk
end Go.Proofs.YtlaccndjlfpjbaaGreatDoor
