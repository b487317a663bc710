/-
  May: the program's.
-/
import Derived.Test.YtdachaekcjbfmaaGreatDoorMO38
import Derived.Test.YtdachaekcjbfmaaGreatDoorMO39
set_option linter.unusedSimpArgs false
set_option linter.unusedVariables false
namespace Go.Proofs.YtdachaekcjbfmaaGreatDoor
open Go.RowKit Go.Shelf
attribute [local go_sem] Oper.semAt_some
/-- Whether an operation may answer. -/
def mayOf (f k v : Int) : Int := if rsGood k v then (if k ∈ kindsL f then 0 else 10) else 4
set_option maxRecDepth 100000 in
set_option maxHeartbeats 4000000 in
theorem May_good (w : World) (f k v : Int) (h0 : 0 ≤ k) (h1 : k < 256) (hg : rsGood k v = true) :
    Calls Tryz.prog 27 #[.int .u8 f, .agg #[.int .u8 k, .int .u16 v]] w fun e w' => e = .returned (.int .i64 (if k ∈ kindsL f then 0 else 10)) ∧ Keeps [] w w' := by
  have hc := fun w => Check_any w k v h0 h1
  rw [rsErr_good hg] at hc
  generalize hR : (if k ∈ kindsL f then (0 : Int) else 10) = R at *
  have HR := Lib.hid hR; clear hR
  refine (callsIn_wide (n := 8)).1 ?_
  refine callsIn_of_wp_marks Tryz.func27 rfl trivial ?_ rfl
  simp only [Tryz.ntmps27, List.size_toArray, List.length_cons, List.length_nil, Nat.reduceAdd, Nat.reduceSub, Array.replicate_succ, Array.replicate_zero, List.push_toArray, List.append_toArray, List.nil_append, List.cons_append]
  gi_wp2_with fail
  refine ⟨trivial, (callsIn_wide.2 (hc _)).mono ?_⟩
  rintro x w1 ⟨rfl, hk1⟩
  have hb : w1.heap[w.heap.size]? = some (.cells #[.int .u8 k, .int .u16 v] 25 (0, 0)) := hk1.heap (heap_alloc_lt (heap_alloc_new w _)) (by simp)
  have hr : w1.heap[w.heap.size + 1]? = some (.cells #[.int .i64 0] 30 (0, 0)) := by
    have := heap_alloc_new (w.alloc (.cells #[.int .u8 k, .int .u16 v] 25)) (.cells #[.int .i64 0] 30)
    rw [World.size_alloc] at this
    exact hk1.heap this (by simp)
  have hkw : Keeps [] w w1 := (((Keeps.refl _ _).alloc _).alloc _).trans hk1 (FSub.refl _ _)
  clear hk1
  obtain ⟨c0, c1, hlt0⟩ := cell2 hb
  have c2 := cell_of_one hr
  have hlt1 := lt_of_block hr
  gi_wp2_with fail
  refine ⟨trivial, (callsIn_wide.2 (Kinds_any _ f)).mono ?_⟩
  rintro x w2 ⟨rfl, hw2⟩
  have hb2 : w2.heap[w.heap.size]? = some (.cells #[.int .u8 k, .int .u16 v] 25 (0, 0)) := by rw [hw2]; exact heap_alloc_lt hb
  have hr2 : w2.heap[w.heap.size + 1]? = some (.cells #[.int .i64 0] 30 (0, 0)) := by rw [hw2]; exact heap_alloc_lt hr
  have hf2 : w2.heap[w1.heap.size]? = some (.cells #[.int .u8 f] 5 (0, 0)) := by rw [hw2]; exact heap_alloc_new _ _
  have hk2 : Keeps [] w w2 := by rw [hw2]; exact hkw.alloc _
  have hs2 : w2.heap.size = w1.heap.size + 1 := by rw [hw2]; simp
  clear hb hr hkw c0 c1 c2 hw2
  gi_wp2_with fail
  refine wpIn_rangeFunc_ownF (F := Fence.wide) rfl (by omega) (gf := 63) (lb := #[.pointer (some ⟨w1.heap.size, 0, none⟩)]) rfl trivial (enters_of Tryz.func63 (by kernel_rfl) rfl)
    (encs := fun x : Int => #[.int .u8 x]) (Kp := fun _ _ => True) (S := fun ys => ys = kindsL f) (Sp := fun pre => pre <+: kindsL f) (N := (kindsL f).length) (w0 := w2)
    (fun l J Jx W hW hJ hJx hY h0 => Kinds1_in Fence.wide 7 trivial rfl (by omega) l w1.heap.size f J Jx W hY (cell_of_one ((hW.block _ (by omega)).trans hf2)) h0)
    (fun _ _ => trivial) (fun _ _ _ _ _ _ _ _ => trivial) (Below.refl _ _) (fun _ => rfl)
    (fun pre W => (∀ y ∈ pre, y ≠ k) ∧ W.heap[w.heap.size]? = some (.cells #[.int .u8 k, .int .u16 v] 25 (0, 0)) ∧ W.heap[w.heap.size + 1]? = some (.cells #[.int .i64 0] 30 (0, 0)) ∧ Keeps [] w W)
    (fun c pre W => c = .ret ∧ k ∈ pre ∧ W.heap[w.heap.size + 1]? = some (.cells #[.int .i64 0] 30 (0, 0)) ∧ Keeps [] w W)
    ((pure_own _).and (cells_own.and (cells_own.and (keeps_own (by omega))))) (fun c => (pure_own _).and ((pure_own _).and (cells_own.and (keeps_own (by omega)))))
    ⟨by simp, hb2, hr2, hk2⟩
    (fun x => { tmps := #[.int .u8 f, .agg #[.int .u8 k, .int .u16 v], undef, .pointer (some ⟨w.heap.size, 0, none⟩), .pointer (some ⟨w.heap.size + 1, 0, none⟩), .int .i64 0, .int .u8 x, .agg #[.int .u8 k, .int .u16 v], .int .i64 0, .int .i64 0, .bool false, undef, .int .u8 f, .func (.func 63) #[] #[.pointer (some ⟨w1.heap.size, 0, none⟩)], .int .u8 x, undef, undef, undef, undef], defers := [] }) ?assign ?body ?done ?stop
  case assign =>
    intro l x W K hK
    gi_wp2
    exact hK
  case body =>
    rintro l pre x W ⟨hp, hb, hr, hk⟩ _
    obtain ⟨c0, c1, hl0⟩ := cell2 hb
    have c2 := cell_of_one hr
    have f2 := free_of_one hr
    gi_wp2
    · rename_i hx
      obtain rfl : x = k := eq_of_beq hx
      refine ⟨KeepsOthers.setCell _ _ _, rfl, List.mem_append.2 (.inr (by simp)), one_setCell hr, hk.setCell _ _ (.inr (by simp))⟩
    · rename_i hx
      exact ⟨KeepsOthers.refl _, trivial, fun y hy => (List.mem_append.1 hy).elim (hp y) (fun e e' => by simp at e; subst e; subst e'; simp at hx), hb, hr, hk⟩
  case done =>
    rintro D ys W hD rfl ⟨hne, hb, hr, hk⟩ hK
    have hno : ¬ k ∈ kindsL f := fun h => hne k h rfl
    obtain rfl : R = 10 := HR.out.symm.trans (if_neg hno)
    clear HR
    have c2 := cell_of_one hr
    have f2 := free_of_one hr
    gi_wp2
    have hK' := (KeepsOthers.setCell W ⟨w.heap.size + 1, 0, none⟩ (.int .i64 10)).same D _ hK rfl
    refine ⟨by simp, .inl ⟨_, _, rfl, run_takeDeferred hK', ?_⟩⟩
    have hk3 : Keeps [] w ((W.setCell ⟨w.heap.size + 1, 0, none⟩ (.int .i64 10)).putObj D (.deferred none)) := (hk.setCell _ _ (.inr (by simp))).putObj _ _ (by omega)
    have hc5 : ((W.setCell ⟨w.heap.size + 1, 0, none⟩ (.int .i64 10)).putObj D (.deferred none)).cell? ⟨w.heap.size + 1, 0, none⟩ = some (.int .i64 10) :=
      cell_kept (cell_of_one (one_setCell hr)) (grownBy_putObj' _ D (.deferred none)) (fun r e => by cases e; exact ⟨_, hK', rfl⟩)
    refine ⟨.int .i64 10, ?_, rfl, hk3⟩
    simp [results, Tryz.f27, go_sem, hc5]
  case stop =>
    rintro D c pre W hD hpre ⟨rfl, hin, hr, hk⟩ hK
    obtain rfl : R = 0 := HR.out.symm.trans (if_pos (hpre.subset hin))
    clear HR
    gi_wp2
    refine ⟨by simp, .inl ⟨_, _, rfl, run_takeDeferred hK, ?_⟩⟩
    have hc5 : (W.putObj D (.deferred none)).cell? ⟨w.heap.size + 1, 0, none⟩ = some (.int .i64 0) :=
      cell_kept (cell_of_one hr) (grownBy_putObj' _ D (.deferred none)) (fun r e => by cases e; exact ⟨_, hK, rfl⟩)
    refine ⟨.int .i64 0, ?_, rfl, hk.putObj _ _ (by omega)⟩
    simp [results, Tryz.f27, go_sem, hc5]
set_option maxRecDepth 100000 in
set_option maxHeartbeats 4000000 in
theorem May_bad (w : World) (f k v : Int) (h0 : 0 ≤ k) (h1 : k < 256) (hg : rsGood k v = false) :
    Calls Tryz.prog 27 #[.int .u8 f, .agg #[.int .u8 k, .int .u16 v]] w fun e w' => e = .returned (.int .i64 4) ∧ Keeps [] w w' := by
  have hc := fun w => Check_any w k v h0 h1
  rw [rsErr_bad hg] at hc
  refine (callsIn_wide (n := 8)).1 ?_
  refine callsIn_of_wp_marks Tryz.func27 rfl trivial ?_ rfl
  simp only [Tryz.ntmps27, List.size_toArray, List.length_cons, List.length_nil, Nat.reduceAdd, Nat.reduceSub, Array.replicate_succ, Array.replicate_zero, List.push_toArray, List.append_toArray, List.nil_append, List.cons_append]
  gi_wp2_with fail
  refine ⟨trivial, (callsIn_wide.2 (hc _)).mono ?_⟩
  rintro x w1 ⟨rfl, hk1⟩
  have hr : w1.heap[w.heap.size + 1]? = some (.cells #[.int .i64 0] 30 (0, 0)) := by
    have := heap_alloc_new (w.alloc (.cells #[.int .u8 k, .int .u16 v] 25)) (.cells #[.int .i64 0] 30)
    rw [World.size_alloc] at this
    exact hk1.heap this (by simp)
  have hkw : Keeps [] w w1 := (((Keeps.refl _ _).alloc _).alloc _).trans hk1 (FSub.refl _ _)
  clear hk1
  have c2 := cell_of_one hr
  have f2 := free_of_one hr
  have hlt1 := lt_of_block hr
  gi_wp2
  have hc5 : (w1.setCell ⟨w.heap.size + 1, 0, none⟩ (.int .i64 4)).cell? ⟨w.heap.size + 1, 0, none⟩ = some (.int .i64 4) := cell_of_one (one_setCell hr)
  refine ⟨.int .i64 4, ?_, rfl, hkw.setCell _ _ (.inr (by simp))⟩
  simp [results, Tryz.f27, go_sem, hc5]
theorem rsMay_any (w : World) (f k v : Int) (h0 : 0 ≤ k) (h1 : k < 256) :
    Calls Tryz.prog 27 #[.int .u8 f, .agg #[.int .u8 k, .int .u16 v]] w fun e w' => e = .returned (.int .i64 (mayOf f k v)) ∧ Keeps [] w w' := by
  unfold mayOf
  by_cases hg : rsGood k v = true
  · rw [if_pos hg]; exact May_good w f k v h0 h1 hg
  · rw [if_neg hg]; exact May_bad w f k v h0 h1 (by simpa using hg)
end Go.Proofs.YtdachaekcjbfmaaGreatDoor
