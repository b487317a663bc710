/-
  The program's Put of an event.
-/
import Derived.Test.YtnehnbhdkhgakaaDoorG28
import Derived.Test.YtnehnbhdkhgakaaDoorG31
set_option linter.unusedSimpArgs false
set_option linter.unusedVariables false
namespace Go.Proofs.YtnehnbhdkhgakaaDoor
open Go.RowKit
theorem write_any5 (w : World) (hG : Glob4 w) (b : Nat) (F : List Nat) (hgF : 0 ∉ F) (xs : List Int) (h : WAt w b F (some xs)) (hxs : xs.length ≤ 900) (x : Ev) (hx : x.In) (hk1 : 1 ≤ x.k) (hk7 : x.k ≤ 7) (hf : evFits x = true) {N : Nat} (tx rd : Value)
    (ht : EvAt N w tx rd x) (hN : N ≤ w.heap.size) (hFN : ∀ g ∈ F, N ≤ g) : Calls Tryd.prog (kWrite x.k) #[.pointer (some ⟨b, 0, none⟩), .agg (evC x tx rd)] w (WPost b F (xs ++ evBody x) w) := by
  unfold evFits at hf
  unfold kWrite evBody
  rcases (by omega : x.k = 1 ∨ x.k = 2 ∨ x.k = 3 ∨ x.k = 4 ∨ x.k = 5 ∨ x.k = 6 ∨ x.k = 7) with e | e | e | e | e | e | e
  · simp only [e, if_true] at hf ⊢
    exact writeConfigure_any w hG b F xs h (by omega) x hx hf tx rd
  · simp only [e, if_true] at hf ⊢
    exact writeInvoke_any w hG b F hgF xs h hxs x hx hf tx rd
  · simp only [e, if_true] at hf ⊢
    exact writeReturn_any w b F xs h hxs x hx hf tx rd
  · simp only [e] at hf ⊢
    exact writeWho_any w b F xs h (by omega) x hx tx rd
  · simp only [e, if_true] at hf ⊢
    exact writeBegin_any w b F xs h hxs x hx tx rd ht.t hN hFN hf
  · simp only [e, if_true] at hf ⊢
    exact writeCommit_any w b F xs h hxs x hx tx rd ht.r hN hFN hf
  · simp only [e] at hf ⊢
    exact writeWho_any w b F xs h (by omega) x hx tx rd
theorem good_of {x : Ev} (h : evGood x = true) : (1 ≤ x.k ∧ x.k ≤ 7) ∧ x.c < 16 ∧ evFits x = true ∧ x = evNeed x := by
  simp only [evGood, Bool.and_eq_true, decide_eq_true_eq] at h
  obtain ⟨⟨⟨h1, h2⟩, h3⟩, h4⟩ := h
  exact ⟨by simpa [evKind] using h1, h2, h3, (evSame_iff _ _).1 h4⟩
set_option maxHeartbeats 8000000 in
set_option maxRecDepth 100000 in
theorem Put5_bad (w : World) (hG : Glob4 w) (x : Ev) (hx : x.In) {N : Nat} (tx rd : Value) (ht : EvAt N w tx rd x) (hN : N ≤ w.heap.size) (hg : evGood x = false) : Calls Tryd.prog 12 #[.agg (evC x tx rd)] w fun e w' =>
    e = .returned (.tuple #[.string ⟨#[]⟩, .int .i64 4]) ∧ Keeps [] w w' := by
  have hk0 := (Keeps.refl [] w).alloc (.cells (evC x tx rd) 32)
  have hX := heap_alloc_new w (.cells (evC x tx rd) 32)
  have hc := Check5_any _ (hG.new hk0) x hx tx rd (ht.new hk0 hN) (Nat.le_trans hN hk0.size)
  rw [show evErr x = 4 by simp [evErr, hg]] at hc
  clear hg ht
  go_enter Tryd.func12, Tryd.ntmps12
  go_wp2_with ((with_reducible apply wpList_load_ev); exact rfl; (first | assumption | (refine heap_alloc_lt ?_; assumption) | (refine heap_alloc_lt (heap_alloc_lt ?_); assumption) | exact heap_alloc_at (by simp)); exact rfl)
  refine hc.mono ?_; rintro e w1 ⟨rfl, hk1⟩
  have hK := hk0.trans hk1 (FSub.refl _ _)
  clear hc hX hk0 hk1
  go_wp2_with fail
  go_ret2
  exact ⟨rfl, hK⟩
set_option maxHeartbeats 8000000 in
set_option maxRecDepth 100000 in
theorem Put5_good (w : World) (hG : Glob4 w) (x : Ev) (hx : x.In) {N : Nat} (tx rd : Value) (ht : EvAt N w tx rd x) (hN : N ≤ w.heap.size) (hg : evGood x = true) : Calls Tryd.prog 12 #[.agg (evC x tx rd)] w fun e w' =>
    e = .returned (.tuple #[.string (strOfNums (evPut x)), .int .i64 0]) ∧ Keeps [] w w' := by
  have hk0 := (Keeps.refl [] w).alloc (.cells (evC x tx rd) 32)
  have hX := heap_alloc_new w (.cells (evC x tx rd) 32)
  have hc := Check5_any _ (hG.new hk0) x hx tx rd (ht.new hk0 hN) (Nat.le_trans hN hk0.size)
  rw [show evErr x = 0 by simp [evErr, hg]] at hc
  obtain ⟨⟨k1, k7⟩, -, hf, -⟩ := good_of hg
  clear hg
  have hfi := fun w => find5_yes w x.k k1 k7
  rw [kindOf_eq k1 k7] at hfi
  have hwr := fun w hG b F hgF h ht hN hFN => write_any5 w hG b F hgF (be1 x.k) h (by simp [be1]) x hx k1 k7 hf (N := N) tx rd ht hN hFN
  have hput : evPut x = be1 x.k ++ evBody x := rfl
  rw [hput]
  obtain ⟨en1, en2, en3, en4⟩ := enter_kinds k1 k7
  clear en1 en2 en4 hput
  have hkz : 0 < w.heap.size := by obtain ⟨t, fr, h⟩ := hG.kinds; exact lt_of_block h
  have c0 := hx.k0; have c1 := hx.k1
  generalize kNeed x.k = KN at *
  generalize kFits x.k = KF at *
  generalize kWrite x.k = KW at *
  generalize kRead x.k = KR at *
  generalize hS : strOfNums (be1 x.k ++ evBody x) = S at *
  have HS := Lib.hid hS; have HWR := Lib.hid hwr; have HFI := Lib.hid hfi; have HKZ := Lib.hid hkz; clear hS hwr hfi hkz
  go_enter Tryd.func12, Tryd.ntmps12
  go_wp2_with ((with_reducible apply wpList_load_ev); exact rfl; (first | assumption | (refine heap_alloc_lt ?_; assumption) | (refine heap_alloc_lt (heap_alloc_lt ?_); assumption) | exact heap_alloc_at (by simp)); exact rfl)
  refine hc.mono ?_; rintro e w1 ⟨rfl, hk1⟩
  have hX1 := hk1.heap hX (by simp)
  have hK1 := hk0.trans hk1 (FSub.refl _ _)
  have d0 := ev_cell hX1 0 (evC_0 x tx rd)
  clear hc hX hk0 hk1
  go_wp2_with fail
  refine (HFI.out _).mono ?_; rintro e w2 ⟨rfl, hk2⟩
  have hX2 := hk2.heap hX1 (by simp)
  have hK2 := hK1.trans hk2 (FSub.refl _ _)
  clear hX1 hK1 hk2 HFI d0
  go_wp2_with ((with_reducible apply wpList_put_row (T := 55) 4); exact rfl; exact rfl; exact heap_alloc_at (by simp); exact ⟨rfl, rfl⟩; kernel_rfl; exact rfl)
  intro W3 hb3 hk3
  have hz2 := lt_of_block hX2
  have hX3 := hk3.heap (heap_alloc_lt hX2) (by simp; omega)
  have hK3 := (hK2.alloc _).trans hk3 (fun g hg => .inr (by have := hK2.size; simp at hg; omega))
  have hB : w2.heap.size ≠ w.heap.size := by omega
  clear hX2 hk3
  have hsz2 := hK2.size
  generalize w2.heap.size = B at *
  clear hK2
  have d0 := ev_cell hX3 0 (evC_0 x tx rd)
  have hw := wat_new W3
  have hX4 := heap_alloc_lt (o := .cells #[.slice none 0 0, .int .i64 0, .pointer none] 63) hX3
  have hb4 := heap_alloc_lt (o := .cells #[.slice none 0 0, .int .i64 0, .pointer none] 63) hb3
  have hK4 := hK3.alloc (.cells #[.slice none 0 0, .int .i64 0, .pointer none] 63)
  have hz3 := lt_of_block hX3
  have hz4 := lt_of_block hb3
  clear hX3 hb3
  go_wp2_with fail
  generalize W3.alloc (.cells #[.slice none 0 0, .int .i64 0, .pointer none] 63) = W4 at *
  generalize W3.heap.size = WB at *
  refine (U8_any _ _ _ _ hw x.k c0 c1 (fun ys e => by cases e; simp)).mono ?_; rintro e w5 ⟨rfl, F1, h5, hk5, hs5⟩
  have hX5 := hk5.heap hX4 (by simp; omega)
  have hb5 := hk5.heap hb4 (by simp; omega)
  have hz5 := hK4.size
  have hz6 := lt_of_block hX4
  have hK5 := hK4.trans hk5 (fun g hg => .inr (by simp at hg; omega))
  have hF5 : ∀ g ∈ F1, w.heap.size < g := fun g hg => by
    rcases hs5 g hg with h | h
    · simp at h; omega
    · omega
  have k2 : w5.cell? ⟨B, 2, none⟩ = some (.func (.func KW) #[] #[]) := by simp [World.cell?, hb5]
  have h5' : WAt w5 WB F1 (some (be1 x.k)) := by simpa using h5
  have hwr5 := HWR.out w5 (hG.new hK5) WB F1 (fun hg => by have := hF5 _ hg; have := HKZ.out; omega) h5' (ht.new hK5 hN) (Nat.le_trans hN hK5.size) (fun g hg => by have := hF5 g hg; omega)
  clear hX4 hb4 hK4 hk5 hs5 hw hb5 h5 h5' HWR
  go_wp2_with ((with_reducible apply wpList_load_ev); exact rfl; (first | assumption | (refine heap_alloc_lt ?_; assumption) | (refine heap_alloc_lt (heap_alloc_lt ?_); assumption) | exact heap_alloc_at (by simp)); exact rfl)
  refine hwr5.mono ?_; rintro e w6 ⟨rfl, F2, h6, hk6, hs6⟩
  have hK6 := hK5.trans hk6 (fun g hg => .inr (by have := hF5 g hg; omega))
  clear hX5 hK5 hk6 hwr5 k2
  go_wp2_with fail
  refine (Bytes_any _ _ _ _ h6).mono ?_; rintro e w7 ⟨rfl, rfl⟩
  go_wp2_with fail
  go_ret2
  exact ⟨by rw [← HS.out]; rfl, hK6.drew⟩
theorem Put5_any (w : World) (hG : Glob4 w) (x : Ev) (hx : x.In) {N : Nat} (tx rd : Value) (ht : EvAt N w tx rd x) (hN : N ≤ w.heap.size) : Calls Tryd.prog 12 #[.agg (evC x tx rd)] w fun e w' =>
    e = .returned (.tuple #[.string (if evGood x then strOfNums (evPut x) else ⟨#[]⟩), .int .i64 (evErr x)]) ∧ Keeps [] w w' := by
  rcases bool_two (evGood x) with hg | hg
  · rw [if_pos hg, show evErr x = 0 by simp [evErr, hg]]
    exact Put5_good w hG x hx tx rd ht hN hg
  · rw [if_neg (by simp [hg]), show evErr x = 4 by simp [evErr, hg]]
    exact Put5_bad w hG x hx tx rd ht hN hg
end Go.Proofs.YtnehnbhdkhgakaaDoor
