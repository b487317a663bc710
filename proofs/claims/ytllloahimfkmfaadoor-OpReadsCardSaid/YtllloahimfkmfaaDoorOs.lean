/-
  The program's search for a name.
-/
import Derived.Test.YtllloahimfkmfaaDoorOr
namespace Go.Proofs.YtllloahimfkmfaaDoor
open Go.RowKit
set_option maxRecDepth 100000 in
theorem index_kinds (w : World) (i : Nat) (hi : i < 12) : (Instr.index 111 (.agg kindCells) (.int .i64 i)).run Tryd.prog w = .ok (.agg #[.int .u8 (opM i), .string (bs (opNm i)), .bool (opK i), .bool (opA i), .bool (opB i)]) w := by
  have hu := Tryd.underlying111
  have hk := Tryd.underlying69
  rcases (by omega : i = 0 ∨ i = 1 ∨ i = 2 ∨ i = 3 ∨ i = 4 ∨ i = 5 ∨ i = 6 ∨ i = 7 ∨ i = 8 ∨ i = 9 ∨ i = 10 ∨ i = 11) with rfl | rfl | rfl | rfl | rfl | rfl | rfl | rfl | rfl | rfl | rfl | rfl
  all_goals
    simp [Instr.index, kindCells, run_underlying hu, asIntOf, go_sem]
    exact ⟨rfl, rfl, rfl, rfl, rfl⟩
theorem named_at {W0 : List UInt8} (k : Nat) (hk : k < 12) (h : W0 = opNm k) : opNamed W0 = k := by
  subst h
  rcases (by omega : k = 0 ∨ k = 1 ∨ k = 2 ∨ k = 3 ∨ k = 4 ∨ k = 5 ∨ k = 6 ∨ k = 7 ∨ k = 8 ∨ k = 9 ∨ k = 10 ∨ k = 11) with rfl | rfl | rfl | rfl | rfl | rfl | rfl | rfl | rfl | rfl | rfl | rfl <;> decide
theorem named_none {W0 : List UInt8} (h : ∀ k : Nat, k < 12 → W0 ≠ opNm k) : opNamed W0 = 0 := by
  apply named_no
  intro f hf e
  have : 1 ≤ f ∧ f ≤ 11 := by simpa [opIs] using hf
  obtain ⟨n, rfl⟩ := Int.eq_ofNat_of_zero_le (by omega : 0 ≤ f)
  exact h n (by omega) e.symm
set_option maxHeartbeats 8000000 in
set_option maxRecDepth 100000 in
theorem named_any (w : World) (hG : Glob4 w) (v : Value) (l : List (List UInt8)) {N : Nat} (h : Strs N w v l) : Calls Tryd.prog 51 #[v] w fun e w' =>
    ∃ v', e = .returned (.tuple #[.int .u8 (opNamed (l.getD 0 [])), v']) ∧ Strs N w' v' (l.drop 1) ∧ Keeps [] w w' := by
  have hf := first_any w v l h
  generalize l.getD 0 [] = W0 at *
  generalize l.drop 1 = L1 at *
  generalize hR : opNamed W0 = R at *
  have HR := Lib.hid hR
  have hix := fun (w : World) (i : Nat) (hi : i < 12) => index_kinds w i hi
  clear h hR
  go_enter Tryd.func51, Tryd.ntmps51
  go_wp2_with fail
  refine hf.mono ?_; rintro e w1 ⟨v1, rfl, hv1, hk1⟩
  have hG1 := hG.new hk1
  obtain ⟨t, fr, hw⟩ := hG1.kinds
  go_wp2_with (first | refine wpList_load_row rfl 111 _ rfl 0 rfl t kindCells fr _ hw Tryd.underlying111 rfl (by kernel_rfl) ?_ | refine wp_load_row 111 _ rfl 0 rfl t kindCells fr _ hw Tryd.underlying111 rfl (by kernel_rfl) ?_)
  clear hw
  go_loopw [3, 13] (fun r i wr => ∃ k : Nat, r = v1 ∧ k ≤ 12 ∧ i = .int .i64 k ∧ (∀ j : Nat, j < k → W0 ≠ opNm j) ∧ Strs N wr v1 L1 ∧ Keeps [] w wr) (fun _ i _ => 12 - (intOf i).toNat)
  case atStart => exact ⟨0, rfl, by omega, rfl, fun j hj => by omega, hv1, hk1⟩
  case round =>
    obtain ⟨k, rfl, hk, rfl, hne, hv, hkp⟩ := hrel
    have HNE := Lib.hid hne; clear hne
    by_cases hlt : k < 12
    · have hx := hix wr k hlt
      have hv2 := hv.keeps ((Keeps.refl [] wr).alloc (.cells #[.int .u8 (opM k), .string (bs (opNm k)), .bool (opK k), .bool (opA k), .bool (opB k)] 69))
      have hk2 := hkp.alloc (.cells #[.int .u8 (opM k), .string (bs (opNm k)), .bool (opK k), .bool (opA k), .bool (opB k)] 69)
      by_cases hW : W0 = opNm k
      · have t1 : ((bs (opNm k)).toList == (bs W0).toList) = true := by rw [hW]; simp
        have e : opNamed W0 = k := named_at k hlt hW
        obtain rfl := HR.out.symm.trans e
        have HV := Lib.hid hv2; have HK2 := Lib.hid hk2
        clear hW e HR hix hv hkp hv2 hk2 hf hv1
        generalize opM k = M at *
        generalize bs (opNm k) = NM at *
        generalize opK k = K at *
        generalize opA k = A at *
        generalize opB k = BB at *
        go_wp2_with fail
        go_ret2
        exact ⟨_, rfl, HV.out, HK2.out⟩
      · have t1 : ((bs (opNm k)).toList == (bs W0).toList) = false := by rw [toL_bs, toL_bs]; exact beq_eq_false_iff_ne.2 (fun h => hW h.symm)
        have HW := Lib.hid hW
        have HV := Lib.hid hv2; have HK2 := Lib.hid hk2
        clear hW hv hkp hv2 hk2 hf hv1 hix
        generalize opM k = M at *
        generalize hNN : bs (opNm k) = NM at *
        generalize opK k = K at *
        generalize opA k = A at *
        generalize opB k = BB at *
        clear hNN
        go_wp2_with fail
        go_roundw
        case rel => exact ⟨k + 1, rfl, by omega, by go_num, fun j hj => by rcases (by omega : j < k ∨ j = k) with h | rfl; exact HNE.out j h; exact HW.out, HV.out, HK2.out⟩
        case measure => simp [intOf]; omega
    · obtain rfl : k = 12 := by omega
      obtain rfl := HR.out.symm.trans (named_none HNE.out)
      clear hix hf
      go_wp2_with fail
      go_ret2
      exact ⟨_, rfl, hv, hkp⟩
end Go.Proofs.YtllloahimfkmfaaDoor
