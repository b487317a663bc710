/-
  The kinds of answers of an operation: the iterator's contract.
-/
import Derived.RangeFuncNested
import Derived.RangeFuncBound
import Derived.RangeFuncCalls
import Derived.RangeFuncLeaves
import Derived.RangeFuncBox
import Derived.RangeFuncFrom
import Derived.Shelf.Abstract
import Derived.Shelf.RegionOpen
import Derived.OwnWalkIn
import Derived.TacticsInMore
import Derived.LoopNIn
import Derived.LoopIn
import Derived.RegionIn
import Derived.Test.YtlaccndjlfpjbaaGreatDoorD06
import Derived.Test.YtlaccndjlfpjbaaGreatDoorD08
set_option linter.unusedSimpArgs false
set_option linter.unusedVariables false
namespace Go.Proofs.YtlaccndjlfpjbaaGreatDoor
open Go.RowKit Go.Shelf
attribute [local go_sem] Oper.semAt_some
def kindsL (f : Int) : List Int := if f = 1 then [1] else if f = 2 ∨ f = 4 ∨ f = 7 then [0] else if f = 5 ∨ f = 6 then [1, 2] else if f = 3 ∨ f = 8 ∨ f = 9 ∨ f = 10 ∨ f = 11 then [3, 4] else []
theorem f_cases (f : Int) : f = 1 ∨ f = 2 ∨ f = 3 ∨ f = 4 ∨ f = 5 ∨ f = 6 ∨ f = 7 ∨ f = 8 ∨ f = 9 ∨ f = 10 ∨ f = 11 ∨ (f ≠ 1 ∧ f ≠ 2 ∧ f ≠ 3 ∧ f ≠ 4 ∧ f ≠ 5 ∧ f ≠ 6 ∧ f ≠ 7 ∧ f ≠ 8 ∧ f ≠ 9 ∧ f ≠ 10 ∧ f ≠ 11) := by omega
theorem kindsL_none {f : Int} (h : f ≠ 1 ∧ f ≠ 2 ∧ f ≠ 3 ∧ f ≠ 4 ∧ f ≠ 5 ∧ f ≠ 6 ∧ f ≠ 7 ∧ f ≠ 8 ∧ f ≠ 9 ∧ f ≠ 10 ∧ f ≠ 11) : kindsL f = [] := by
  obtain ⟨h1, h2, h3, h4, h5, h6, h7, h8, h9, h10, h11⟩ := h
  simp [kindsL, *]
set_option maxHeartbeats 400000 in
theorem Kinds_any (w : World) (f : Int) : Calls Tryz.prog 69 #[.int .u8 f] w fun e w' => e = .returned (.func (.func 99) #[] #[.pointer (some ⟨w.heap.size, 0, none⟩)]) ∧ w' = w.alloc (.cells #[.int .u8 f] 5) := by
  go_enter Tryz.func69, Tryz.ntmps69
  go_wp2
  go_ret
  exact ⟨rfl, rfl⟩
set_option maxRecDepth 100000 in
set_option maxHeartbeats 1000000 in
theorem kinds_1 (F : Fence) (n : Nat) (hf : F.fn 99) (hro : F.round = none) (hn : 1 ≤ n) (l B : Nat) (J Jx : List Int → World → Prop) (W : World)
    (hY : ∀ pre x W1, J pre W1 → pre.length < 1 → YieldAt F (n - 1) Tryz.prog l #[.int .u8 x] W1 fun e W' =>
      (e = .returned (.bool true) ∧ J (pre ++ [x]) W' ∧ True) ∨ (e = .returned (.bool false) ∧ Jx (pre ++ [x]) W'))
    (hB : W.cell? ⟨B, 0, none⟩ = some (.int .u8 1)) (h0 : J [] W) :
    CallsIn F n Tryz.prog 99 #[.func (.yield l) #[] #[], .pointer (some ⟨B, 0, none⟩)] W fun e W' => (∃ v, e = .returned v) ∧
      ((∃ ys, ys = [1] ∧ J ys W') ∨ (∃ pre, pre <+: [1] ∧ Jx pre W')) := by
  refine callsIn_of_wp Tryz.func99 rfl hf ?_ hro
  simp only [Tryz.ntmps99, List.size_toArray, List.length_cons, List.length_nil, Nat.reduceAdd, Nat.reduceSub, Array.replicate_succ, Array.replicate_zero, List.push_toArray, List.append_toArray, List.nil_append, List.cons_append]
  obtain ⟨fn, tmps, assign, body, hy, hR⟩ := hY [] 1 W h0 (by simp)
  gi_wp2
  refine hR.mono ?_
  rintro e W3 (⟨rfl, hJ3, _⟩ | ⟨rfl, hJx3⟩)
  · clear hy hR
    gi_wp2
    go_end0
    exact ⟨⟨_, rfl⟩, .inl ⟨_, rfl, hJ3⟩⟩
  · clear hy hR
    gi_wp2
    go_end0
    exact ⟨⟨_, rfl⟩, .inr ⟨_, ⟨[], rfl⟩, hJx3⟩⟩
set_option maxRecDepth 100000 in
set_option maxHeartbeats 1000000 in
theorem kinds_2 (F : Fence) (n : Nat) (hf : F.fn 99) (hro : F.round = none) (hn : 1 ≤ n) (l B : Nat) (J Jx : List Int → World → Prop) (W : World)
    (hY : ∀ pre x W1, J pre W1 → pre.length < 1 → YieldAt F (n - 1) Tryz.prog l #[.int .u8 x] W1 fun e W' =>
      (e = .returned (.bool true) ∧ J (pre ++ [x]) W' ∧ True) ∨ (e = .returned (.bool false) ∧ Jx (pre ++ [x]) W'))
    (hB : W.cell? ⟨B, 0, none⟩ = some (.int .u8 2)) (h0 : J [] W) :
    CallsIn F n Tryz.prog 99 #[.func (.yield l) #[] #[], .pointer (some ⟨B, 0, none⟩)] W fun e W' => (∃ v, e = .returned v) ∧
      ((∃ ys, ys = [0] ∧ J ys W') ∨ (∃ pre, pre <+: [0] ∧ Jx pre W')) := by
  refine callsIn_of_wp Tryz.func99 rfl hf ?_ hro
  simp only [Tryz.ntmps99, List.size_toArray, List.length_cons, List.length_nil, Nat.reduceAdd, Nat.reduceSub, Array.replicate_succ, Array.replicate_zero, List.push_toArray, List.append_toArray, List.nil_append, List.cons_append]
  obtain ⟨fn, tmps, assign, body, hy, hR⟩ := hY [] 0 W h0 (by simp)
  gi_wp2
  refine hR.mono ?_
  rintro e W3 (⟨rfl, hJ3, _⟩ | ⟨rfl, hJx3⟩)
  · clear hy hR
    gi_wp2
    go_end0
    exact ⟨⟨_, rfl⟩, .inl ⟨_, rfl, hJ3⟩⟩
  · clear hy hR
    gi_wp2
    go_end0
    exact ⟨⟨_, rfl⟩, .inr ⟨_, ⟨[], rfl⟩, hJx3⟩⟩
set_option maxRecDepth 100000 in
set_option maxHeartbeats 1000000 in
theorem kinds_3 (F : Fence) (n : Nat) (hf : F.fn 99) (hro : F.round = none) (hn : 1 ≤ n) (l B : Nat) (J Jx : List Int → World → Prop) (W : World)
    (hY : ∀ pre x W1, J pre W1 → pre.length < 2 → YieldAt F (n - 1) Tryz.prog l #[.int .u8 x] W1 fun e W' =>
      (e = .returned (.bool true) ∧ J (pre ++ [x]) W' ∧ True) ∨ (e = .returned (.bool false) ∧ Jx (pre ++ [x]) W'))
    (hB : W.cell? ⟨B, 0, none⟩ = some (.int .u8 3)) (h0 : J [] W) :
    CallsIn F n Tryz.prog 99 #[.func (.yield l) #[] #[], .pointer (some ⟨B, 0, none⟩)] W fun e W' => (∃ v, e = .returned v) ∧
      ((∃ ys, ys = [3, 4] ∧ J ys W') ∨ (∃ pre, pre <+: [3, 4] ∧ Jx pre W')) := by
  refine callsIn_of_wp Tryz.func99 rfl hf ?_ hro
  simp only [Tryz.ntmps99, List.size_toArray, List.length_cons, List.length_nil, Nat.reduceAdd, Nat.reduceSub, Array.replicate_succ, Array.replicate_zero, List.push_toArray, List.append_toArray, List.nil_append, List.cons_append]
  obtain ⟨fn, tmps, assign, body, hy, hR⟩ := hY [] 3 W h0 (by simp)
  gi_wp2
  refine hR.mono ?_
  rintro e W3 (⟨rfl, hJ3, _⟩ | ⟨rfl, hJx3⟩)
  · clear hy hR
    obtain ⟨fn, tmps, assign, body, hy, hR⟩ := hY _ 4 W3 hJ3 (by simp)
    gi_wp2
    refine hR.mono ?_
    rintro e W4 (⟨rfl, hJ4, _⟩ | ⟨rfl, hJx4⟩)
    · clear hy hR
      gi_wp2
      go_end0
      exact ⟨⟨_, rfl⟩, .inl ⟨_, rfl, hJ4⟩⟩
    · clear hy hR
      gi_wp2
      go_end0
      exact ⟨⟨_, rfl⟩, .inr ⟨_, ⟨[], rfl⟩, hJx4⟩⟩
  · clear hy hR
    gi_wp2
    refine ⟨fun _ h => (by cases h), ?_⟩
    gi_wp2
    go_end0
    exact ⟨⟨_, rfl⟩, .inr ⟨_, ⟨[4], rfl⟩, hJx3⟩⟩
set_option maxRecDepth 100000 in
set_option maxHeartbeats 1000000 in
theorem kinds_4 (F : Fence) (n : Nat) (hf : F.fn 99) (hro : F.round = none) (hn : 1 ≤ n) (l B : Nat) (J Jx : List Int → World → Prop) (W : World)
    (hY : ∀ pre x W1, J pre W1 → pre.length < 1 → YieldAt F (n - 1) Tryz.prog l #[.int .u8 x] W1 fun e W' =>
      (e = .returned (.bool true) ∧ J (pre ++ [x]) W' ∧ True) ∨ (e = .returned (.bool false) ∧ Jx (pre ++ [x]) W'))
    (hB : W.cell? ⟨B, 0, none⟩ = some (.int .u8 4)) (h0 : J [] W) :
    CallsIn F n Tryz.prog 99 #[.func (.yield l) #[] #[], .pointer (some ⟨B, 0, none⟩)] W fun e W' => (∃ v, e = .returned v) ∧
      ((∃ ys, ys = [0] ∧ J ys W') ∨ (∃ pre, pre <+: [0] ∧ Jx pre W')) := by
  refine callsIn_of_wp Tryz.func99 rfl hf ?_ hro
  simp only [Tryz.ntmps99, List.size_toArray, List.length_cons, List.length_nil, Nat.reduceAdd, Nat.reduceSub, Array.replicate_succ, Array.replicate_zero, List.push_toArray, List.append_toArray, List.nil_append, List.cons_append]
  obtain ⟨fn, tmps, assign, body, hy, hR⟩ := hY [] 0 W h0 (by simp)
  gi_wp2
  refine hR.mono ?_
  rintro e W3 (⟨rfl, hJ3, _⟩ | ⟨rfl, hJx3⟩)
  · clear hy hR
    gi_wp2
    go_end0
    exact ⟨⟨_, rfl⟩, .inl ⟨_, rfl, hJ3⟩⟩
  · clear hy hR
    gi_wp2
    go_end0
    exact ⟨⟨_, rfl⟩, .inr ⟨_, ⟨[], rfl⟩, hJx3⟩⟩
set_option maxRecDepth 100000 in
set_option maxHeartbeats 1000000 in
theorem kinds_5 (F : Fence) (n : Nat) (hf : F.fn 99) (hro : F.round = none) (hn : 1 ≤ n) (l B : Nat) (J Jx : List Int → World → Prop) (W : World)
    (hY : ∀ pre x W1, J pre W1 → pre.length < 2 → YieldAt F (n - 1) Tryz.prog l #[.int .u8 x] W1 fun e W' =>
      (e = .returned (.bool true) ∧ J (pre ++ [x]) W' ∧ True) ∨ (e = .returned (.bool false) ∧ Jx (pre ++ [x]) W'))
    (hB : W.cell? ⟨B, 0, none⟩ = some (.int .u8 5)) (h0 : J [] W) :
    CallsIn F n Tryz.prog 99 #[.func (.yield l) #[] #[], .pointer (some ⟨B, 0, none⟩)] W fun e W' => (∃ v, e = .returned v) ∧
      ((∃ ys, ys = [1, 2] ∧ J ys W') ∨ (∃ pre, pre <+: [1, 2] ∧ Jx pre W')) := by
  refine callsIn_of_wp Tryz.func99 rfl hf ?_ hro
  simp only [Tryz.ntmps99, List.size_toArray, List.length_cons, List.length_nil, Nat.reduceAdd, Nat.reduceSub, Array.replicate_succ, Array.replicate_zero, List.push_toArray, List.append_toArray, List.nil_append, List.cons_append]
  obtain ⟨fn, tmps, assign, body, hy, hR⟩ := hY [] 1 W h0 (by simp)
  gi_wp2
  refine hR.mono ?_
  rintro e W3 (⟨rfl, hJ3, _⟩ | ⟨rfl, hJx3⟩)
  · clear hy hR
    obtain ⟨fn, tmps, assign, body, hy, hR⟩ := hY _ 2 W3 hJ3 (by simp)
    gi_wp2
    refine hR.mono ?_
    rintro e W4 (⟨rfl, hJ4, _⟩ | ⟨rfl, hJx4⟩)
    · clear hy hR
      gi_wp2
      go_end0
      exact ⟨⟨_, rfl⟩, .inl ⟨_, rfl, hJ4⟩⟩
    · clear hy hR
      gi_wp2
      go_end0
      exact ⟨⟨_, rfl⟩, .inr ⟨_, ⟨[], rfl⟩, hJx4⟩⟩
  · clear hy hR
    gi_wp2
    refine ⟨fun _ h => (by cases h), ?_⟩
    gi_wp2
    go_end0
    exact ⟨⟨_, rfl⟩, .inr ⟨_, ⟨[2], rfl⟩, hJx3⟩⟩
set_option maxRecDepth 100000 in
set_option maxHeartbeats 1000000 in
theorem kinds_6 (F : Fence) (n : Nat) (hf : F.fn 99) (hro : F.round = none) (hn : 1 ≤ n) (l B : Nat) (J Jx : List Int → World → Prop) (W : World)
    (hY : ∀ pre x W1, J pre W1 → pre.length < 2 → YieldAt F (n - 1) Tryz.prog l #[.int .u8 x] W1 fun e W' =>
      (e = .returned (.bool true) ∧ J (pre ++ [x]) W' ∧ True) ∨ (e = .returned (.bool false) ∧ Jx (pre ++ [x]) W'))
    (hB : W.cell? ⟨B, 0, none⟩ = some (.int .u8 6)) (h0 : J [] W) :
    CallsIn F n Tryz.prog 99 #[.func (.yield l) #[] #[], .pointer (some ⟨B, 0, none⟩)] W fun e W' => (∃ v, e = .returned v) ∧
      ((∃ ys, ys = [1, 2] ∧ J ys W') ∨ (∃ pre, pre <+: [1, 2] ∧ Jx pre W')) := by
  refine callsIn_of_wp Tryz.func99 rfl hf ?_ hro
  simp only [Tryz.ntmps99, List.size_toArray, List.length_cons, List.length_nil, Nat.reduceAdd, Nat.reduceSub, Array.replicate_succ, Array.replicate_zero, List.push_toArray, List.append_toArray, List.nil_append, List.cons_append]
  obtain ⟨fn, tmps, assign, body, hy, hR⟩ := hY [] 1 W h0 (by simp)
  gi_wp2
  refine hR.mono ?_
  rintro e W3 (⟨rfl, hJ3, _⟩ | ⟨rfl, hJx3⟩)
  · clear hy hR
    obtain ⟨fn, tmps, assign, body, hy, hR⟩ := hY _ 2 W3 hJ3 (by simp)
    gi_wp2
    refine hR.mono ?_
    rintro e W4 (⟨rfl, hJ4, _⟩ | ⟨rfl, hJx4⟩)
    · clear hy hR
      gi_wp2
      go_end0
      exact ⟨⟨_, rfl⟩, .inl ⟨_, rfl, hJ4⟩⟩
    · clear hy hR
      gi_wp2
      go_end0
      exact ⟨⟨_, rfl⟩, .inr ⟨_, ⟨[], rfl⟩, hJx4⟩⟩
  · clear hy hR
    gi_wp2
    refine ⟨fun _ h => (by cases h), ?_⟩
    gi_wp2
    go_end0
    exact ⟨⟨_, rfl⟩, .inr ⟨_, ⟨[2], rfl⟩, hJx3⟩⟩
set_option maxRecDepth 100000 in
set_option maxHeartbeats 1000000 in
theorem kinds_7 (F : Fence) (n : Nat) (hf : F.fn 99) (hro : F.round = none) (hn : 1 ≤ n) (l B : Nat) (J Jx : List Int → World → Prop) (W : World)
    (hY : ∀ pre x W1, J pre W1 → pre.length < 1 → YieldAt F (n - 1) Tryz.prog l #[.int .u8 x] W1 fun e W' =>
      (e = .returned (.bool true) ∧ J (pre ++ [x]) W' ∧ True) ∨ (e = .returned (.bool false) ∧ Jx (pre ++ [x]) W'))
    (hB : W.cell? ⟨B, 0, none⟩ = some (.int .u8 7)) (h0 : J [] W) :
    CallsIn F n Tryz.prog 99 #[.func (.yield l) #[] #[], .pointer (some ⟨B, 0, none⟩)] W fun e W' => (∃ v, e = .returned v) ∧
      ((∃ ys, ys = [0] ∧ J ys W') ∨ (∃ pre, pre <+: [0] ∧ Jx pre W')) := by
  refine callsIn_of_wp Tryz.func99 rfl hf ?_ hro
  simp only [Tryz.ntmps99, List.size_toArray, List.length_cons, List.length_nil, Nat.reduceAdd, Nat.reduceSub, Array.replicate_succ, Array.replicate_zero, List.push_toArray, List.append_toArray, List.nil_append, List.cons_append]
  obtain ⟨fn, tmps, assign, body, hy, hR⟩ := hY [] 0 W h0 (by simp)
  gi_wp2
  refine hR.mono ?_
  rintro e W3 (⟨rfl, hJ3, _⟩ | ⟨rfl, hJx3⟩)
  · clear hy hR
    gi_wp2
    go_end0
    exact ⟨⟨_, rfl⟩, .inl ⟨_, rfl, hJ3⟩⟩
  · clear hy hR
    gi_wp2
    go_end0
    exact ⟨⟨_, rfl⟩, .inr ⟨_, ⟨[], rfl⟩, hJx3⟩⟩
set_option maxRecDepth 100000 in
set_option maxHeartbeats 1000000 in
theorem kinds_8 (F : Fence) (n : Nat) (hf : F.fn 99) (hro : F.round = none) (hn : 1 ≤ n) (l B : Nat) (J Jx : List Int → World → Prop) (W : World)
    (hY : ∀ pre x W1, J pre W1 → pre.length < 2 → YieldAt F (n - 1) Tryz.prog l #[.int .u8 x] W1 fun e W' =>
      (e = .returned (.bool true) ∧ J (pre ++ [x]) W' ∧ True) ∨ (e = .returned (.bool false) ∧ Jx (pre ++ [x]) W'))
    (hB : W.cell? ⟨B, 0, none⟩ = some (.int .u8 8)) (h0 : J [] W) :
    CallsIn F n Tryz.prog 99 #[.func (.yield l) #[] #[], .pointer (some ⟨B, 0, none⟩)] W fun e W' => (∃ v, e = .returned v) ∧
      ((∃ ys, ys = [3, 4] ∧ J ys W') ∨ (∃ pre, pre <+: [3, 4] ∧ Jx pre W')) := by
  refine callsIn_of_wp Tryz.func99 rfl hf ?_ hro
  simp only [Tryz.ntmps99, List.size_toArray, List.length_cons, List.length_nil, Nat.reduceAdd, Nat.reduceSub, Array.replicate_succ, Array.replicate_zero, List.push_toArray, List.append_toArray, List.nil_append, List.cons_append]
  obtain ⟨fn, tmps, assign, body, hy, hR⟩ := hY [] 3 W h0 (by simp)
  gi_wp2
  refine hR.mono ?_
  rintro e W3 (⟨rfl, hJ3, _⟩ | ⟨rfl, hJx3⟩)
  · clear hy hR
    obtain ⟨fn, tmps, assign, body, hy, hR⟩ := hY _ 4 W3 hJ3 (by simp)
    gi_wp2
    refine hR.mono ?_
    rintro e W4 (⟨rfl, hJ4, _⟩ | ⟨rfl, hJx4⟩)
    · clear hy hR
      gi_wp2
      go_end0
      exact ⟨⟨_, rfl⟩, .inl ⟨_, rfl, hJ4⟩⟩
    · clear hy hR
      gi_wp2
      go_end0
      exact ⟨⟨_, rfl⟩, .inr ⟨_, ⟨[], rfl⟩, hJx4⟩⟩
  · clear hy hR
    gi_wp2
    refine ⟨fun _ h => (by cases h), ?_⟩
    gi_wp2
    go_end0
    exact ⟨⟨_, rfl⟩, .inr ⟨_, ⟨[4], rfl⟩, hJx3⟩⟩
set_option maxRecDepth 100000 in
set_option maxHeartbeats 1000000 in
theorem kinds_9 (F : Fence) (n : Nat) (hf : F.fn 99) (hro : F.round = none) (hn : 1 ≤ n) (l B : Nat) (J Jx : List Int → World → Prop) (W : World)
    (hY : ∀ pre x W1, J pre W1 → pre.length < 2 → YieldAt F (n - 1) Tryz.prog l #[.int .u8 x] W1 fun e W' =>
      (e = .returned (.bool true) ∧ J (pre ++ [x]) W' ∧ True) ∨ (e = .returned (.bool false) ∧ Jx (pre ++ [x]) W'))
    (hB : W.cell? ⟨B, 0, none⟩ = some (.int .u8 9)) (h0 : J [] W) :
    CallsIn F n Tryz.prog 99 #[.func (.yield l) #[] #[], .pointer (some ⟨B, 0, none⟩)] W fun e W' => (∃ v, e = .returned v) ∧
      ((∃ ys, ys = [3, 4] ∧ J ys W') ∨ (∃ pre, pre <+: [3, 4] ∧ Jx pre W')) := by
  refine callsIn_of_wp Tryz.func99 rfl hf ?_ hro
  simp only [Tryz.ntmps99, List.size_toArray, List.length_cons, List.length_nil, Nat.reduceAdd, Nat.reduceSub, Array.replicate_succ, Array.replicate_zero, List.push_toArray, List.append_toArray, List.nil_append, List.cons_append]
  obtain ⟨fn, tmps, assign, body, hy, hR⟩ := hY [] 3 W h0 (by simp)
  gi_wp2
  refine hR.mono ?_
  rintro e W3 (⟨rfl, hJ3, _⟩ | ⟨rfl, hJx3⟩)
  · clear hy hR
    obtain ⟨fn, tmps, assign, body, hy, hR⟩ := hY _ 4 W3 hJ3 (by simp)
    gi_wp2
    refine hR.mono ?_
    rintro e W4 (⟨rfl, hJ4, _⟩ | ⟨rfl, hJx4⟩)
    · clear hy hR
      gi_wp2
      go_end0
      exact ⟨⟨_, rfl⟩, .inl ⟨_, rfl, hJ4⟩⟩
    · clear hy hR
      gi_wp2
      go_end0
      exact ⟨⟨_, rfl⟩, .inr ⟨_, ⟨[], rfl⟩, hJx4⟩⟩
  · clear hy hR
    gi_wp2
    refine ⟨fun _ h => (by cases h), ?_⟩
    gi_wp2
    go_end0
    exact ⟨⟨_, rfl⟩, .inr ⟨_, ⟨[4], rfl⟩, hJx3⟩⟩
set_option maxRecDepth 100000 in
set_option maxHeartbeats 1000000 in
theorem kinds_10 (F : Fence) (n : Nat) (hf : F.fn 99) (hro : F.round = none) (hn : 1 ≤ n) (l B : Nat) (J Jx : List Int → World → Prop) (W : World)
    (hY : ∀ pre x W1, J pre W1 → pre.length < 2 → YieldAt F (n - 1) Tryz.prog l #[.int .u8 x] W1 fun e W' =>
      (e = .returned (.bool true) ∧ J (pre ++ [x]) W' ∧ True) ∨ (e = .returned (.bool false) ∧ Jx (pre ++ [x]) W'))
    (hB : W.cell? ⟨B, 0, none⟩ = some (.int .u8 10)) (h0 : J [] W) :
    CallsIn F n Tryz.prog 99 #[.func (.yield l) #[] #[], .pointer (some ⟨B, 0, none⟩)] W fun e W' => (∃ v, e = .returned v) ∧
      ((∃ ys, ys = [3, 4] ∧ J ys W') ∨ (∃ pre, pre <+: [3, 4] ∧ Jx pre W')) := by
  refine callsIn_of_wp Tryz.func99 rfl hf ?_ hro
  simp only [Tryz.ntmps99, List.size_toArray, List.length_cons, List.length_nil, Nat.reduceAdd, Nat.reduceSub, Array.replicate_succ, Array.replicate_zero, List.push_toArray, List.append_toArray, List.nil_append, List.cons_append]
  obtain ⟨fn, tmps, assign, body, hy, hR⟩ := hY [] 3 W h0 (by simp)
  gi_wp2
  refine hR.mono ?_
  rintro e W3 (⟨rfl, hJ3, _⟩ | ⟨rfl, hJx3⟩)
  · clear hy hR
    obtain ⟨fn, tmps, assign, body, hy, hR⟩ := hY _ 4 W3 hJ3 (by simp)
    gi_wp2
    refine hR.mono ?_
    rintro e W4 (⟨rfl, hJ4, _⟩ | ⟨rfl, hJx4⟩)
    · clear hy hR
      gi_wp2
      go_end0
      exact ⟨⟨_, rfl⟩, .inl ⟨_, rfl, hJ4⟩⟩
    · clear hy hR
      gi_wp2
      go_end0
      exact ⟨⟨_, rfl⟩, .inr ⟨_, ⟨[], rfl⟩, hJx4⟩⟩
  · clear hy hR
    gi_wp2
    refine ⟨fun _ h => (by cases h), ?_⟩
    gi_wp2
    go_end0
    exact ⟨⟨_, rfl⟩, .inr ⟨_, ⟨[4], rfl⟩, hJx3⟩⟩
set_option maxRecDepth 100000 in
set_option maxHeartbeats 1000000 in
theorem kinds_11 (F : Fence) (n : Nat) (hf : F.fn 99) (hro : F.round = none) (hn : 1 ≤ n) (l B : Nat) (J Jx : List Int → World → Prop) (W : World)
    (hY : ∀ pre x W1, J pre W1 → pre.length < 2 → YieldAt F (n - 1) Tryz.prog l #[.int .u8 x] W1 fun e W' =>
      (e = .returned (.bool true) ∧ J (pre ++ [x]) W' ∧ True) ∨ (e = .returned (.bool false) ∧ Jx (pre ++ [x]) W'))
    (hB : W.cell? ⟨B, 0, none⟩ = some (.int .u8 11)) (h0 : J [] W) :
    CallsIn F n Tryz.prog 99 #[.func (.yield l) #[] #[], .pointer (some ⟨B, 0, none⟩)] W fun e W' => (∃ v, e = .returned v) ∧
      ((∃ ys, ys = [3, 4] ∧ J ys W') ∨ (∃ pre, pre <+: [3, 4] ∧ Jx pre W')) := by
  refine callsIn_of_wp Tryz.func99 rfl hf ?_ hro
  simp only [Tryz.ntmps99, List.size_toArray, List.length_cons, List.length_nil, Nat.reduceAdd, Nat.reduceSub, Array.replicate_succ, Array.replicate_zero, List.push_toArray, List.append_toArray, List.nil_append, List.cons_append]
  obtain ⟨fn, tmps, assign, body, hy, hR⟩ := hY [] 3 W h0 (by simp)
  gi_wp2
  refine hR.mono ?_
  rintro e W3 (⟨rfl, hJ3, _⟩ | ⟨rfl, hJx3⟩)
  · clear hy hR
    obtain ⟨fn, tmps, assign, body, hy, hR⟩ := hY _ 4 W3 hJ3 (by simp)
    gi_wp2
    refine hR.mono ?_
    rintro e W4 (⟨rfl, hJ4, _⟩ | ⟨rfl, hJx4⟩)
    · clear hy hR
      gi_wp2
      go_end0
      exact ⟨⟨_, rfl⟩, .inl ⟨_, rfl, hJ4⟩⟩
    · clear hy hR
      gi_wp2
      go_end0
      exact ⟨⟨_, rfl⟩, .inr ⟨_, ⟨[], rfl⟩, hJx4⟩⟩
  · clear hy hR
    gi_wp2
    refine ⟨fun _ h => (by cases h), ?_⟩
    gi_wp2
    go_end0
    exact ⟨⟨_, rfl⟩, .inr ⟨_, ⟨[4], rfl⟩, hJx3⟩⟩
set_option maxRecDepth 100000 in
set_option maxHeartbeats 1000000 in
theorem kinds_none (F : Fence) (n : Nat) (hf : F.fn 99) (hro : F.round = none) (hn : 1 ≤ n) (l B : Nat) (f : Int) (hne : f ≠ 1 ∧ f ≠ 2 ∧ f ≠ 3 ∧ f ≠ 4 ∧ f ≠ 5 ∧ f ≠ 6 ∧ f ≠ 7 ∧ f ≠ 8 ∧ f ≠ 9 ∧ f ≠ 10 ∧ f ≠ 11) (J Jx : List Int → World → Prop) (W : World)
    (hY : ∀ pre x W1, J pre W1 → pre.length < 0 → YieldAt F (n - 1) Tryz.prog l #[.int .u8 x] W1 fun e W' =>
      (e = .returned (.bool true) ∧ J (pre ++ [x]) W' ∧ True) ∨ (e = .returned (.bool false) ∧ Jx (pre ++ [x]) W'))
    (hB : W.cell? ⟨B, 0, none⟩ = some (.int .u8 f)) (h0 : J [] W) :
    CallsIn F n Tryz.prog 99 #[.func (.yield l) #[] #[], .pointer (some ⟨B, 0, none⟩)] W fun e W' => (∃ v, e = .returned v) ∧
      ((∃ ys, ys = ([] : List Int) ∧ J ys W') ∨ (∃ pre, pre <+: ([] : List Int) ∧ Jx pre W')) := by
  refine callsIn_of_wp Tryz.func99 rfl hf ?_ hro
  simp only [Tryz.ntmps99, List.size_toArray, List.length_cons, List.length_nil, Nat.reduceAdd, Nat.reduceSub, Array.replicate_succ, Array.replicate_zero, List.push_toArray, List.append_toArray, List.nil_append, List.cons_append]
  obtain ⟨h1, h2, h3, h4, h5, h6, h7, h8, h9, h10, h11⟩ := hne
  have g1 : (f == 1) = false := by simpa using h1
  have g2 : (f == 2) = false := by simpa using h2
  have g3 : (f == 3) = false := by simpa using h3
  have g4 : (f == 4) = false := by simpa using h4
  have g5 : (f == 5) = false := by simpa using h5
  have g6 : (f == 6) = false := by simpa using h6
  have g7 : (f == 7) = false := by simpa using h7
  have g8 : (f == 8) = false := by simpa using h8
  have g9 : (f == 9) = false := by simpa using h9
  have g10 : (f == 10) = false := by simpa using h10
  have g11 : (f == 11) = false := by simpa using h11
  gi_wp2
  go_end0
  exact ⟨⟨_, rfl⟩, .inl ⟨_, rfl, h0⟩⟩
theorem Kinds1_in (F : Fence) (n : Nat) (hf : F.fn 99) (hro : F.round = none) (hn : 1 ≤ n) (l B : Nat) (f : Int) (J Jx : List Int → World → Prop) (W : World)
    (hY : ∀ pre x W1, J pre W1 → pre.length < (kindsL f).length → YieldAt F (n - 1) Tryz.prog l #[.int .u8 x] W1 fun e W' =>
      (e = .returned (.bool true) ∧ J (pre ++ [x]) W' ∧ True) ∨ (e = .returned (.bool false) ∧ Jx (pre ++ [x]) W'))
    (hB : W.cell? ⟨B, 0, none⟩ = some (.int .u8 f)) (h0 : J [] W) :
    CallsIn F n Tryz.prog 99 #[.func (.yield l) #[] #[], .pointer (some ⟨B, 0, none⟩)] W fun e W' => (∃ v, e = .returned v) ∧
      ((∃ ys, ys = kindsL f ∧ J ys W') ∨ (∃ pre, pre <+: kindsL f ∧ Jx pre W')) := by
  rcases f_cases f with rfl | rfl | rfl | rfl | rfl | rfl | rfl | rfl | rfl | rfl | rfl | h
  · exact kinds_1 F n hf hro hn l B J Jx W hY hB h0
  · exact kinds_2 F n hf hro hn l B J Jx W hY hB h0
  · exact kinds_3 F n hf hro hn l B J Jx W hY hB h0
  · exact kinds_4 F n hf hro hn l B J Jx W hY hB h0
  · exact kinds_5 F n hf hro hn l B J Jx W hY hB h0
  · exact kinds_6 F n hf hro hn l B J Jx W hY hB h0
  · exact kinds_7 F n hf hro hn l B J Jx W hY hB h0
  · exact kinds_8 F n hf hro hn l B J Jx W hY hB h0
  · exact kinds_9 F n hf hro hn l B J Jx W hY hB h0
  · exact kinds_10 F n hf hro hn l B J Jx W hY hB h0
  · exact kinds_11 F n hf hro hn l B J Jx W hY hB h0
  · rw [kindsL_none h] at hY ⊢
    exact kinds_none F n hf hro hn l B f h J Jx W hY hB h0
end Go.Proofs.YtlaccndjlfpjbaaGreatDoor
/-
  May: the program's.
-/
namespace Go.Proofs.YtlaccndjlfpjbaaGreatDoor
open Go.RowKit Go.Shelf
attribute [local go_sem] Oper.semAt_some
/-- Whether an operation may answer. -/
def mayOf (f k v : Int) : Int := if rsGood k v then (if k ∈ kindsL f then 0 else 10) else 4
set_option maxRecDepth 100000 in
set_option maxHeartbeats 4000000 in
theorem May_good (w : World) (f k v : Int) (h0 : 0 ≤ k) (h1 : k < 256) (hg : rsGood k v = true) :
    Calls Tryz.prog 54 #[.int .u8 f, .agg #[.int .u8 k, .int .u16 v]] w fun e w' => e = .returned (.int .i64 (if k ∈ kindsL f then 0 else 10)) ∧ Keeps [] w w' := by
  have hc := fun w => Check_any w k v h0 h1
  rw [rsErr_good hg] at hc
  generalize hR : (if k ∈ kindsL f then (0 : Int) else 10) = R at *
  have HR := Lib.hid hR; clear hR
  refine (callsIn_wide (n := 8)).1 ?_
  refine callsIn_of_wp_marks Tryz.func54 rfl trivial ?_ rfl
  simp only [Tryz.ntmps54, List.size_toArray, List.length_cons, List.length_nil, Nat.reduceAdd, Nat.reduceSub, Array.replicate_succ, Array.replicate_zero, List.push_toArray, List.append_toArray, List.nil_append, List.cons_append]
  gi_wp2_with fail
  refine ⟨trivial, (callsIn_wide.2 (hc _)).mono ?_⟩
  rintro x w1 ⟨rfl, hk1⟩
  have hb : w1.heap[w.heap.size]? = some (.cells #[.int .u8 k, .int .u16 v] 36 (0, 0)) := hk1.heap (heap_alloc_lt (heap_alloc_new w _)) (by simp)
  have hr : w1.heap[w.heap.size + 1]? = some (.cells #[.int .i64 0] 30 (0, 0)) := by
    have := heap_alloc_new (w.alloc (.cells #[.int .u8 k, .int .u16 v] 36)) (.cells #[.int .i64 0] 30)
    rw [World.size_alloc] at this
    exact hk1.heap this (by simp)
  have hkw : Keeps [] w w1 := (((Keeps.refl _ _).alloc _).alloc _).trans hk1 (FSub.refl _ _)
  clear hk1
  obtain ⟨c0, c1, hlt0⟩ := cell2 hb
  have c2 := cell_of_one hr
  have hlt1 := lt_of_block hr
  gi_wp2_with fail
  refine ⟨trivial, (callsIn_wide.2 (Kinds_any _ f)).mono ?_⟩
  rintro x w2 ⟨rfl, hw2⟩
  have hb2 : w2.heap[w.heap.size]? = some (.cells #[.int .u8 k, .int .u16 v] 36 (0, 0)) := by rw [hw2]; exact heap_alloc_lt hb
  have hr2 : w2.heap[w.heap.size + 1]? = some (.cells #[.int .i64 0] 30 (0, 0)) := by rw [hw2]; exact heap_alloc_lt hr
  have hf2 : w2.heap[w1.heap.size]? = some (.cells #[.int .u8 f] 5 (0, 0)) := by rw [hw2]; exact heap_alloc_new _ _
  have hk2 : Keeps [] w w2 := by rw [hw2]; exact hkw.alloc _
  have hs2 : w2.heap.size = w1.heap.size + 1 := by rw [hw2]; simp
  clear hb hr hkw c0 c1 c2 hw2
  gi_wp2_with fail
  refine wpIn_rangeFunc_ownF (F := Fence.wide) rfl (by omega) (gf := 99) (lb := #[.pointer (some ⟨w1.heap.size, 0, none⟩)]) rfl trivial (enters_of Tryz.func99 (by kernel_rfl) rfl)
    (encs := fun x : Int => #[.int .u8 x]) (Kp := fun _ _ => True) (S := fun ys => ys = kindsL f) (Sp := fun pre => pre <+: kindsL f) (N := (kindsL f).length) (w0 := w2)
    (fun l J Jx W hW hJ hJx hY h0 => Kinds1_in Fence.wide 7 trivial rfl (by omega) l w1.heap.size f J Jx W hY (cell_of_one ((hW.block _ (by omega)).trans hf2)) h0)
    (fun _ _ => trivial) (fun _ _ _ _ _ _ _ _ => trivial) (Below.refl _ _) (fun _ => rfl)
    (fun pre W => (∀ y ∈ pre, y ≠ k) ∧ W.heap[w.heap.size]? = some (.cells #[.int .u8 k, .int .u16 v] 36 (0, 0)) ∧ W.heap[w.heap.size + 1]? = some (.cells #[.int .i64 0] 30 (0, 0)) ∧ Keeps [] w W)
    (fun c pre W => c = .ret ∧ k ∈ pre ∧ W.heap[w.heap.size + 1]? = some (.cells #[.int .i64 0] 30 (0, 0)) ∧ Keeps [] w W)
    ((pure_own _).and (cells_own.and (cells_own.and (keeps_own (by omega))))) (fun c => (pure_own _).and ((pure_own _).and (cells_own.and (keeps_own (by omega)))))
    ⟨by simp, hb2, hr2, hk2⟩
    (fun x => { tmps := #[.int .u8 f, .agg #[.int .u8 k, .int .u16 v], undef, .pointer (some ⟨w.heap.size, 0, none⟩), .pointer (some ⟨w.heap.size + 1, 0, none⟩), .int .i64 0, .int .u8 x, .agg #[.int .u8 k, .int .u16 v], .int .i64 0, .int .i64 0, .bool false, undef, .int .u8 f, .func (.func 99) #[] #[.pointer (some ⟨w1.heap.size, 0, none⟩)], .int .u8 x, undef, undef, undef, undef], defers := [] }) ?assign ?body ?done ?stop
  case assign =>
    intro l x W K hK
    gi_wp2
    exact hK
  case body =>
    rintro l pre x W ⟨hp, hb, hr, hk⟩ _
    obtain ⟨c0, c1, hl0⟩ := cell2 hb
    have c2 := cell_of_one hr
    have f2 := free_of_one hr
    gi_wp2
    · rename_i hx
      obtain rfl : x = k := eq_of_beq hx
      refine ⟨KeepsOthers.setCell _ _ _, rfl, List.mem_append.2 (.inr (by simp)), one_setCell hr, hk.setCell _ _ (.inr (by simp))⟩
    · rename_i hx
      exact ⟨KeepsOthers.refl _, trivial, fun y hy => (List.mem_append.1 hy).elim (hp y) (fun e e' => by simp at e; subst e; subst e'; simp at hx), hb, hr, hk⟩
  case done =>
    rintro D ys W hD rfl ⟨hne, hb, hr, hk⟩ hK
    have hno : ¬ k ∈ kindsL f := fun h => hne k h rfl
    obtain rfl : R = 10 := HR.out.symm.trans (if_neg hno)
    clear HR
    have c2 := cell_of_one hr
    have f2 := free_of_one hr
    gi_wp2
    have hK' := (KeepsOthers.setCell W ⟨w.heap.size + 1, 0, none⟩ (.int .i64 10)).same D _ hK rfl
    refine ⟨by simp, .inl ⟨_, _, rfl, run_takeDeferred hK', ?_⟩⟩
    have hk3 : Keeps [] w ((W.setCell ⟨w.heap.size + 1, 0, none⟩ (.int .i64 10)).putObj D (.deferred none)) := (hk.setCell _ _ (.inr (by simp))).putObj _ _ (by omega)
    have hc5 : ((W.setCell ⟨w.heap.size + 1, 0, none⟩ (.int .i64 10)).putObj D (.deferred none)).cell? ⟨w.heap.size + 1, 0, none⟩ = some (.int .i64 10) :=
      cell_kept (cell_of_one (one_setCell hr)) (grownBy_putObj' _ D (.deferred none)) (fun r e => by cases e; exact ⟨_, hK', rfl⟩)
    refine ⟨.int .i64 10, ?_, rfl, hk3⟩
    simp [results, Tryz.f54, go_sem, hc5]
  case stop =>
    rintro D c pre W hD hpre ⟨rfl, hin, hr, hk⟩ hK
    obtain rfl : R = 0 := HR.out.symm.trans (if_pos (hpre.subset hin))
    clear HR
    gi_wp2
    refine ⟨by simp, .inl ⟨_, _, rfl, run_takeDeferred hK, ?_⟩⟩
    have hc5 : (W.putObj D (.deferred none)).cell? ⟨w.heap.size + 1, 0, none⟩ = some (.int .i64 0) :=
      cell_kept (cell_of_one hr) (grownBy_putObj' _ D (.deferred none)) (fun r e => by cases e; exact ⟨_, hK, rfl⟩)
    refine ⟨.int .i64 0, ?_, rfl, hk.putObj _ _ (by omega)⟩
    simp [results, Tryz.f54, go_sem, hc5]
set_option maxRecDepth 100000 in
set_option maxHeartbeats 4000000 in
theorem May_bad (w : World) (f k v : Int) (h0 : 0 ≤ k) (h1 : k < 256) (hg : rsGood k v = false) :
    Calls Tryz.prog 54 #[.int .u8 f, .agg #[.int .u8 k, .int .u16 v]] w fun e w' => e = .returned (.int .i64 4) ∧ Keeps [] w w' := by
  have hc := fun w => Check_any w k v h0 h1
  rw [rsErr_bad hg] at hc
  refine (callsIn_wide (n := 8)).1 ?_
  refine callsIn_of_wp_marks Tryz.func54 rfl trivial ?_ rfl
  simp only [Tryz.ntmps54, List.size_toArray, List.length_cons, List.length_nil, Nat.reduceAdd, Nat.reduceSub, Array.replicate_succ, Array.replicate_zero, List.push_toArray, List.append_toArray, List.nil_append, List.cons_append]
  gi_wp2_with fail
  refine ⟨trivial, (callsIn_wide.2 (hc _)).mono ?_⟩
  rintro x w1 ⟨rfl, hk1⟩
  have hr : w1.heap[w.heap.size + 1]? = some (.cells #[.int .i64 0] 30 (0, 0)) := by
    have := heap_alloc_new (w.alloc (.cells #[.int .u8 k, .int .u16 v] 36)) (.cells #[.int .i64 0] 30)
    rw [World.size_alloc] at this
    exact hk1.heap this (by simp)
  have hkw : Keeps [] w w1 := (((Keeps.refl _ _).alloc _).alloc _).trans hk1 (FSub.refl _ _)
  clear hk1
  have c2 := cell_of_one hr
  have f2 := free_of_one hr
  have hlt1 := lt_of_block hr
  gi_wp2
  have hc5 : (w1.setCell ⟨w.heap.size + 1, 0, none⟩ (.int .i64 4)).cell? ⟨w.heap.size + 1, 0, none⟩ = some (.int .i64 4) := cell_of_one (one_setCell hr)
  refine ⟨.int .i64 4, ?_, rfl, hkw.setCell _ _ (.inr (by simp))⟩
  simp [results, Tryz.f54, go_sem, hc5]
theorem rsMay_any (w : World) (f k v : Int) (h0 : 0 ≤ k) (h1 : k < 256) :
    Calls Tryz.prog 54 #[.int .u8 f, .agg #[.int .u8 k, .int .u16 v]] w fun e w' => e = .returned (.int .i64 (mayOf f k v)) ∧ Keeps [] w w' := by
  unfold mayOf
  by_cases hg : rsGood k v = true
  · rw [if_pos hg]; exact May_good w f k v h0 h1 hg
  · rw [if_neg hg]; exact May_bad w f k v h0 h1 (by simpa using hg)
end Go.Proofs.YtlaccndjlfpjbaaGreatDoor
