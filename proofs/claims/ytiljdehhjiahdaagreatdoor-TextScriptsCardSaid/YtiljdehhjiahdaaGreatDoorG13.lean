/-
  slices.Chunk at two bytes: the iterator's contract.
-/
import Derived.RangeFuncNested
import Derived.RangeFuncBound
import Derived.RangeFuncCalls
import Derived.RangeFuncLeaves
import Derived.RangeFuncBox
import Derived.Shelf.Abstract
import Derived.Shelf.RegionOpen
import Derived.OwnWalkIn
import Derived.TacticsInMore
import Derived.LoopNIn
import Derived.LoopIn
import Derived.RegionIn
import Derived.Test.YtiljdehhjiahdaaGreatDoorG08
set_option linter.unusedSimpArgs false
set_option linter.unusedVariables false
namespace Go.Proofs.YtiljdehhjiahdaaGreatDoor
open Go.RowKit Go.Shelf
attribute [local go_sem] Oper.semAt_some
/-- These blocks are as they were. -/
def KpC (L : List Nat) (W W' : World) : Prop := ∀ k ∈ L, W'.heap[k]? = W.heap[k]?
theorem KpC.refl (L : List Nat) (W : World) : KpC L W W := fun _ _ => rfl
theorem KpC.trans {L : List Nat} {A B C : World} (h : KpC L A B) (k : KpC L B C) : KpC L A C := fun i hi => (k i hi).trans (h i hi)
def fins (m k : Nat) : List (Fin m) := (List.finRange m).take k
theorem fins_zero (m : Nat) : fins m 0 = [] := by simp [fins]
theorem fins_succ {m k : Nat} (h : k < m) : fins m (k + 1) = fins m k ++ [⟨k, h⟩] := by
  unfold fins
  rw [List.take_succ_eq_append_getElem (by simpa using h)]
  simp
theorem fins_all (m : Nat) : fins m m = List.finRange m := by unfold fins; rw [List.take_of_length_le (by simp)]
theorem fins_length {m k : Nat} (h : k ≤ m) : (fins m k).length = k := by simp [fins, h]
def chunk (g o : Nat) {m : Nat} (x : Fin m) : Array Value := #[.slice (some ⟨g, o + 2 * x.val, none⟩) 2 2]

set_option maxRecDepth 100000 in
set_option maxHeartbeats 1000000 in
theorem Chunk_in (F : Fence) (n : Nat) (hf : F.fn 152) (hro : F.round = none) (a : Option Addr) (len cap : Nat) (w : World) :
    CallsIn F n Tryz.prog 152 #[.slice a len cap, .int .i64 2] w fun e w' => e = .returned (.func (.func 169) #[] #[.pointer (some ⟨w.heap.size, 0, none⟩), .pointer (some ⟨w.heap.size + 1, 0, none⟩)]) ∧ w' = (w.alloc (.cells #[.slice a len cap] 84)).alloc (.cells #[.int .i64 2] 3) := by
  refine callsIn_of_wp Tryz.func152 rfl hf ?_ hro
  simp only [Tryz.ntmps152, List.size_toArray, List.length_cons, List.length_nil, Nat.reduceAdd, Nat.reduceSub, Array.replicate_succ, Array.replicate_zero, List.push_toArray, List.append_toArray, List.nil_append, List.cons_append]
  gi_wp2
  go_ret
  exact ⟨rfl, rfl⟩

set_option maxRecDepth 100000 in
set_option maxHeartbeats 1000000 in
theorem Chunk1_in (F : Fence) (n : Nat) (hf : F.fn 169) (hro : F.round = none) (hn : 1 ≤ n) (l Bs Bn g o cap m M : Nat) (hM : M = 2 * m) (hcap : M ≤ cap) (hm : m ≤ 255) (J Jx : List (Fin m) → World → Prop) (W : World) (hJ : AbidesFrom W.heap.size J)
    (hY : ∀ pre x W1, J pre W1 → pre.length < m → YieldAt F (n - 1) Tryz.prog l (chunk g o x) W1 fun e W' =>
      (e = .returned (.bool true) ∧ J (pre ++ [x]) W' ∧ KpC [Bs, Bn] W1 W') ∨ (e = .returned (.bool false) ∧ Jx (pre ++ [x]) W'))
    (hBs : W.heap[Bs]? = some (.cells #[.slice (some ⟨g, o, none⟩) M cap] 84 (0, 0))) (hBn : W.heap[Bn]? = some (.cells #[.int .i64 2] 3 (0, 0))) (h0 : J [] W) :
    CallsIn F n Tryz.prog 169 #[.func (.yield l) #[] #[], .pointer (some ⟨Bs, 0, none⟩), .pointer (some ⟨Bn, 0, none⟩)] W fun e W' => (∃ v, e = .returned v) ∧
      ((∃ ys, ys = List.finRange m ∧ J ys W') ∨ (∃ pre, True ∧ Jx pre W')) := by
  refine callsIn_of_wp Tryz.func169 rfl hf ?_ hro
  simp only [Tryz.ntmps169, List.size_toArray, List.length_cons, List.length_nil, Nat.reduceAdd, Nat.reduceSub, Array.replicate_succ, Array.replicate_zero, List.push_toArray, List.append_toArray, List.nil_append, List.cons_append]
  gi_wp2
  have HM := Lib.hid hM; clear hM
  gi_loopw [4, 5] (fun i _ wr => ∃ k j : Nat, k ≤ m ∧ j = 2 * k ∧ i = .int .i64 j ∧ J (fins m k) wr ∧ KpC [Bs, Bn] W wr)
    (fun i _ _ => 2 * m - (intOf i).toNat)
  case atStart => exact ⟨0, 0, Nat.zero_le _, rfl, rfl, by rw [fins_zero]; exact h0, KpC.refl _ _⟩
  case round =>
    obtain ⟨k, j, hk, hj, rfl, hJs, hkp⟩ := hrel
    have b1 := (hkp Bs (by simp)).trans hBs
    have b2 := (hkp Bn (by simp)).trans hBn
    have c1 := cell_of_one b1
    have c2 := cell_of_one b2
    have B1 := Lib.hid b1; have B2 := Lib.hid b2; clear b1 b2
    have hM := HM.out
    by_cases hlt : k < m
    · have i1 : j + 2 ≤ M := by omega
      have i2 : M ≤ 510 := by omega
      have HJ := Lib.hid hj; clear hj hM
      gi_wp2
      have i3 : ¬ cap = j := by omega
      have i4 : ¬ ((M - j : Nat) : Int) < 2 := by omega
      gi_region
      all_goals
        obtain ⟨fn, tmps, assign, body, hy, hR⟩ := hY _ ⟨k, hlt⟩ wr.drew (hJ _ _ _ none hJs ⟨rfl, rfl, rfl, Nat.le_refl _, fun _ _ _ => rfl⟩ (fun r e => by cases e)) (by rw [fins_length hk]; exact hlt)
        simp only [chunk] at hy
        rw [← HJ.out] at hy
        rw [if_neg (show ¬ ((M - j : Nat) : Int) < 2 by omega)]
        gi_wp2
        refine hR.mono ?_
        rintro e W3 (⟨rfl, hJ3, hk3⟩ | ⟨rfl, hJx3⟩)
        · have d1 := cell_of_one ((hk3 Bs (by simp)).trans B1.out)
          have d2 := cell_of_one ((hk3 Bn (by simp)).trans B2.out)
          have hkp3 := KpC.trans (L := [Bs, Bn]) (B := wr.drew) hkp hk3
          clear c1 c2 hy hR hk3 i4
          gi_wp2
          go_roundw
          case rel => exact ⟨k + 1, j + 2, by omega, by have := HJ.out; omega, by go_num, by rw [fins_succ hlt]; exact hJ3, hkp3⟩
          case measure => simp [intOf]; have := HM.out; omega
        · clear hy hR
          gi_wp2
          refine bodyPost_ret (results_none rfl _ _ _) rfl ?_
          exact ⟨⟨_, rfl⟩, .inr ⟨_, trivial, hJx3⟩⟩
    · have i1 : ¬ j < M := by omega
      have HJ := Lib.hid hj; clear hj hM
      gi_wp2
      go_end0
      obtain rfl : k = m := by omega
      exact ⟨⟨_, rfl⟩, .inl ⟨_, (fins_all _), hJs⟩⟩
end Go.Proofs.YtiljdehhjiahdaaGreatDoor
