/-
  The program's words, read one by one: first, spelled.
-/
import Derived.Lib.AtoiErrMem
import Derived.Test.YtffldnjjijckcaaGreatDoorR05
import Derived.Test.YtffldnjjijckcaaGreatDoorR03
set_option linter.unusedSimpArgs false
set_option linter.unusedVariables false
namespace Go.Proofs.YtffldnjjijckcaaGreatDoor
open Go.RowKit
/-- A slice of words; its block is below N. -/
def Strs (N : Nat) (w : World) (v : Value) (l : List (List UInt8)) : Prop :=
  ∃ a c, v = .slice a l.length c ∧ l.length ≤ c ∧ c ≤ 9223372036854775807 ∧ (l ≠ [] → ∃ bk o, a = some ⟨bk, o, none⟩ ∧ bk < N ∧ ∀ j, j < l.length → w.cell? ⟨bk, o + j, none⟩ = some (.string (bs (l.getD j []))))
theorem Strs.keeps {N : Nat} {w w' : World} {v : Value} {l : List (List UInt8)} (h : Strs N w v l) (hk : Keeps [] w w') : Strs N w' v l := by
  obtain ⟨a, c, rfl, hc, hm, h⟩ := h
  refine ⟨a, c, rfl, hc, hm, fun hn => ?_⟩
  obtain ⟨bk, o, rfl, hb, h'⟩ := h hn
  exact ⟨bk, o, rfl, hb, fun j hj => hk.cell (h' j hj) (by simp)⟩
theorem Strs.others {N : Nat} {F : List Nat} {w w' : World} {v : Value} {l : List (List UInt8)} (h : Strs N w v l) (hk : Keeps F w w') (hF : ∀ g ∈ F, N ≤ g) : Strs N w' v l := by
  obtain ⟨a, c, rfl, hc, hm, h⟩ := h
  refine ⟨a, c, rfl, hc, hm, fun hn => ?_⟩
  obtain ⟨bk, o, rfl, hb, h'⟩ := h hn
  exact ⟨bk, o, rfl, hb, fun j hj => hk.cell (h' j hj) (fun hg => by have h1 : N ≤ bk := hF _ hg; omega)⟩
theorem Strs.set {N : Nat} {w : World} {v : Value} {l : List (List UInt8)} (h : Strs N w v l) (D i : Nat) (hD : N ≤ D) (y : Value) : Strs N (w.setCell ⟨D, i, none⟩ y) v l :=
  h.others ((Keeps.refl [D] w).setCell ⟨D, i, none⟩ y (.inl (by simp))) (by simpa using hD)
theorem Strs.here {N : Nat} {w : World} {v : Value} {l : List (List UInt8)} (h : Strs N w v l) : Strs w.heap.size w v l := by
  obtain ⟨a, c, rfl, hc, hm, h⟩ := h
  refine ⟨a, c, rfl, hc, hm, fun hn => ?_⟩
  obtain ⟨bk, o, rfl, hb, h'⟩ := h hn
  exact ⟨bk, o, rfl, World.block_lt_of_cell? _ _ (h' 0 (List.length_pos_iff.2 hn)), h'⟩
theorem Strs.nil (N : Nat) (w : World) : Strs N w (.slice none 0 0) [] := ⟨none, 0, rfl, Nat.le_refl _, by decide, fun h => absurd rfl h⟩
theorem Strs.row {w : World} {v : Value} {l : List (List UInt8)} (h : w.ownsRow 0 9 1 v l.length (l.map fun s => .string (bs s))) : Strs w.heap.size w v l := by
  rcases h.2 with ⟨rfl, hn⟩ | ⟨g, cap, cur, rfl, _, hh, hc, hm, _⟩
  · have : l = [] := List.eq_nil_of_length_eq_zero hn
    subst this
    exact Strs.nil _ w
  · refine ⟨_, cap, rfl, hc, by unfold maxLen at hm; omega, fun _ => ⟨g, 0, rfl, lt_of_block hh, fun j hj => ?_⟩⟩
    have := h.cells (g := g) rfl j (.string (bs (l.getD j []))) (by simp [hj, List.getD])
    have ha : ((⟨g, 0, none⟩ : Addr).add j) = ⟨g, 0 + j, none⟩ := by unfold Addr.add; split <;> simp_all
    rw [ha] at this
    exact this
set_option maxHeartbeats 1000000 in
set_option maxRecDepth 100000 in
theorem first_any (w : World) (v : Value) (l : List (List UInt8)) {N : Nat} (h : Strs N w v l) : Calls Tryz.prog 182 #[v] w fun e w' =>
    ∃ v', e = .returned (.tuple #[.string (bs (l.getD 0 [])), v']) ∧ Strs N w' v' (l.drop 1) ∧ Keeps [] w w' := by
  obtain ⟨a, c, rfl, hc, hm, h⟩ := h
  cases l with
  | nil =>
    go_enter Tryz.func182, Tryz.ntmps182
    go_wp2_with fail
    go_ret2
    exact ⟨_, rfl, Strs.nil _ _, Keeps.refl _ _⟩
  | cons x r =>
    obtain ⟨bk, o, rfl, hbN, h'⟩ := h (by simp)
    have h0 := h' 0 (by simp)
    have e0 : (x :: r).getD 0 [] = x := rfl
    rw [e0] at h0 ⊢
    have hlen : (x :: r).length = r.length + 1 := rfl
    rw [hlen] at hc ⊢
    have HH := Lib.hid h'
    clear h h' e0
    generalize bs x = X at *
    have h0' : w.cell? ⟨bk, o, none⟩ = some (.string X) := h0
    have z1 : 1 ≤ c := by omega
    have z2 : (c : Int) ≤ 9223372036854775807 := by omega
    have z3 : 1 ≤ r.length + 1 := by omega
    have z0 : (((r.length + 1 : Nat) : Int) == 0) = false := by simp; omega
    go_enter Tryz.func182, Tryz.ntmps182
    go_wp2_with fail
    obtain ⟨A2, hA2⟩ : ∃ A, (if c = 1 then some (⟨bk, o, none⟩ : Addr) else some ⟨bk, o + 1, none⟩) = A := ⟨_, rfl⟩
    have HA2 := Lib.hid hA2
    go_region
    clear hA2
    go_wp2_with fail
    go_ret2
    refine ⟨_, rfl, ⟨A2, c - 1, rfl, by show r.length ≤ c - 1; omega, by omega, fun hr => ?_⟩, (Keeps.refl _ _).drew⟩
    have hrl : r.length ≠ 0 := fun e => hr (List.eq_nil_of_length_eq_zero e)
    refine ⟨bk, o + 1, by rw [← HA2.out, if_neg (by omega)], hbN, fun j hj => ?_⟩
    have := HH.out (j + 1) (by simp only [List.length_cons]; simp at hj; omega)
    have e : o + 1 + j = o + (j + 1) := by omega
    rw [e]
    exact this
theorem ParseUint4_any (w : World) (hG : Glob4 w) (s : ByteArray) (hs : s.size ≤ 1000000) :
    Calls Tryz.prog 157 #[.string s, .int .i64 10, .int .i64 16] w fun e w' => (∃ x, e = .returned (.tuple #[.int .u64 (puOf s.data.toList), x])) ∧ Keeps [] w w' := by
  cases h : Lib.parseUintB 16 s.data.toList with
  | ok u =>
    refine (Tryz.strconv_ParseUint_10_at16_ok s (by omega) u h w).mono ?_
    rintro e w' ⟨rfl, hw⟩
    refine ⟨⟨_, by rw [puOf_ok h]⟩, ?_⟩
    rcases hw with rfl | rfl
    · exact Keeps.refl _ _
    · exact Keeps.ofBelow (Lib.bytesWorld_below _ _ _)
  | range =>
    obtain ⟨tp, p, hv⟩ := hG.ran
    refine (Tryz.strconv_ParseUint_10_at16_range_var s (by omega) h tp p w hv).mono ?_
    rintro e w' ⟨N, rfl, _, _, hb⟩
    exact ⟨⟨_, by simp only [puOf, h]; rfl⟩, Keeps.ofBelow hb⟩
  | _ =>
    obtain ⟨tp, p, hv⟩ := hG.syn
    have hc : Calls Tryz.prog 157 #[.string s, .int .i64 10, .int .i64 16] w fun e w' => (∃ x, e = .returned (.tuple #[.int .u64 0, x])) ∧ Below w.heap.size w w' :=
      (Any.strconv_ParseUint_10_at16_syntax_var Tryz.laysPu14 s (by omega) h tp p w hv).mono fun e w' ⟨N, he, _, _, hb⟩ => ⟨⟨_, he⟩, hb⟩
    refine hc.mono ?_
    rintro e w' ⟨⟨x, rfl⟩, hb⟩
    exact ⟨⟨x, by simp only [puOf, h]⟩, Keeps.ofBelow hb⟩
set_option maxHeartbeats 1000000 in
set_option maxRecDepth 100000 in
theorem spelled8_any (w : World) (hG : Glob4 w) (v : Value) (l : List (List UInt8)) {N : Nat} (h : Strs N w v l) (hs : (l.getD 0 []).length ≤ 1000000) : Calls Tryz.prog 153 #[v] w fun e w' =>
    ∃ v', e = .returned (.tuple #[.int .u8 (puOf (l.getD 0 []) % 256), v']) ∧ Strs N w' v' (l.drop 1) ∧ Keeps [] w w' := by
  have hf := first_any w v l h
  have hp := fun w hG => ParseUint4_any w hG (bs (l.getD 0 [])) (by rw [bs_size]; exact hs)
  rw [bs_list] at hp
  have hb := puOf_bounds (l.getD 0 [])
  obtain ⟨b0, b1⟩ := hb
  generalize puOf (l.getD 0 []) = N at *
  generalize bs (l.getD 0 []) = S at *
  clear h
  go_enter Tryz.func153, Tryz.ntmps153
  go_wp2_with fail
  refine hf.mono ?_; rintro e w1 ⟨v1, rfl, hv1, hk1⟩
  go_wp2_with fail
  refine (hp _ (hG.new hk1)).mono ?_; rintro e w2 ⟨⟨x, rfl⟩, hk2⟩
  have hv2 := hv1.keeps hk2
  clear hv1 hf hp
  go_wp2_with fail
  go_ret2
  exact ⟨_, rfl, hv2, hk1.trans hk2 (FSub.refl _ _)⟩
set_option maxHeartbeats 1000000 in
set_option maxRecDepth 100000 in
theorem spelled16_any (w : World) (hG : Glob4 w) (v : Value) (l : List (List UInt8)) {N : Nat} (h : Strs N w v l) (hs : (l.getD 0 []).length ≤ 1000000) : Calls Tryz.prog 155 #[v] w fun e w' =>
    ∃ v', e = .returned (.tuple #[.int .u16 (puOf (l.getD 0 [])), v']) ∧ Strs N w' v' (l.drop 1) ∧ Keeps [] w w' := by
  have hf := first_any w v l h
  have hp := fun w hG => ParseUint4_any w hG (bs (l.getD 0 [])) (by rw [bs_size]; exact hs)
  rw [bs_list] at hp
  have hb := puOf_bounds (l.getD 0 [])
  obtain ⟨b0, b1⟩ := hb
  generalize puOf (l.getD 0 []) = N at *
  generalize bs (l.getD 0 []) = S at *
  clear h
  go_enter Tryz.func155, Tryz.ntmps155
  go_wp2_with fail
  refine hf.mono ?_; rintro e w1 ⟨v1, rfl, hv1, hk1⟩
  go_wp2_with fail
  refine (hp _ (hG.new hk1)).mono ?_; rintro e w2 ⟨⟨x, rfl⟩, hk2⟩
  have hv2 := hv1.keeps hk2
  clear hv1 hf hp
  go_wp2_with fail
  go_ret2
  exact ⟨_, rfl, hv2, hk1.trans hk2 (FSub.refl _ _)⟩
end Go.Proofs.YtffldnjjijckcaaGreatDoor
/-
  The program's search for a name.
-/
namespace Go.Proofs.YtffldnjjijckcaaGreatDoor
open Go.RowKit
set_option maxRecDepth 100000 in
theorem index_kinds (w : World) (i : Nat) (hi : i < 12) : (Instr.index 145 (.agg kindCells) (.int .i64 i)).run Tryz.prog w = .ok (.agg #[.int .u8 (opM i), .string (bs (opNm i)), .bool (opK i), .bool (opA i), .bool (opB i)]) w := by
  have hu := Tryz.underlying145
  have hk := Tryz.underlying144
  rcases (by omega : i = 0 ∨ i = 1 ∨ i = 2 ∨ i = 3 ∨ i = 4 ∨ i = 5 ∨ i = 6 ∨ i = 7 ∨ i = 8 ∨ i = 9 ∨ i = 10 ∨ i = 11) with rfl | rfl | rfl | rfl | rfl | rfl | rfl | rfl | rfl | rfl | rfl | rfl
  all_goals
    simp [Instr.index, kindCells, run_underlying hu, asIntOf, go_sem]
    exact ⟨rfl, rfl, rfl, rfl, rfl⟩
theorem named_at {W0 : List UInt8} (k : Nat) (hk : k < 12) (h : W0 = opNm k) : opNamed W0 = k := by
  subst h
  rcases (by omega : k = 0 ∨ k = 1 ∨ k = 2 ∨ k = 3 ∨ k = 4 ∨ k = 5 ∨ k = 6 ∨ k = 7 ∨ k = 8 ∨ k = 9 ∨ k = 10 ∨ k = 11) with rfl | rfl | rfl | rfl | rfl | rfl | rfl | rfl | rfl | rfl | rfl | rfl <;> decide
theorem named_none {W0 : List UInt8} (h : ∀ k : Nat, k < 12 → W0 ≠ opNm k) : opNamed W0 = 0 := by
  apply named_no
  intro f hf e
  have : 1 ≤ f ∧ f ≤ 11 := by simpa [opIs] using hf
  obtain ⟨n, rfl⟩ := Int.eq_ofNat_of_zero_le (by omega : 0 ≤ f)
  exact h n (by omega) e.symm
set_option maxHeartbeats 8000000 in
set_option maxRecDepth 100000 in
theorem named_any (w : World) (hG : Glob4 w) (v : Value) (l : List (List UInt8)) {N : Nat} (h : Strs N w v l) : Calls Tryz.prog 154 #[v] w fun e w' =>
    ∃ v', e = .returned (.tuple #[.int .u8 (opNamed (l.getD 0 [])), v']) ∧ Strs N w' v' (l.drop 1) ∧ Keeps [] w w' := by
  have hf := first_any w v l h
  generalize l.getD 0 [] = W0 at *
  generalize l.drop 1 = L1 at *
  generalize hR : opNamed W0 = R at *
  have HR := Lib.hid hR
  have hix := fun (w : World) (i : Nat) (hi : i < 12) => index_kinds w i hi
  clear h hR
  go_enter Tryz.func154, Tryz.ntmps154
  go_wp2_with fail
  refine hf.mono ?_; rintro e w1 ⟨v1, rfl, hv1, hk1⟩
  have hG1 := hG.new hk1
  obtain ⟨t, fr, hw⟩ := hG1.kinds
  go_wp2_with (first | refine wpList_load_row rfl 145 _ rfl 1 rfl t kindCells fr _ hw Tryz.underlying145 rfl (by kernel_rfl) ?_ | refine wp_load_row 145 _ rfl 1 rfl t kindCells fr _ hw Tryz.underlying145 rfl (by kernel_rfl) ?_)
  clear hw
  go_loopw [3, 13] (fun r i wr => ∃ k : Nat, r = v1 ∧ k ≤ 12 ∧ i = .int .i64 k ∧ (∀ j : Nat, j < k → W0 ≠ opNm j) ∧ Strs N wr v1 L1 ∧ Keeps [] w wr) (fun _ i _ => 12 - (intOf i).toNat)
  case atStart => exact ⟨0, rfl, by omega, rfl, fun j hj => by omega, hv1, hk1⟩
  case round =>
    obtain ⟨k, rfl, hk, rfl, hne, hv, hkp⟩ := hrel
    have HNE := Lib.hid hne; clear hne
    by_cases hlt : k < 12
    · have hx := hix wr k hlt
      have hv2 := hv.keeps ((Keeps.refl [] wr).alloc (.cells #[.int .u8 (opM k), .string (bs (opNm k)), .bool (opK k), .bool (opA k), .bool (opB k)] 144))
      have hk2 := hkp.alloc (.cells #[.int .u8 (opM k), .string (bs (opNm k)), .bool (opK k), .bool (opA k), .bool (opB k)] 144)
      by_cases hW : W0 = opNm k
      · have t1 : ((bs (opNm k)).toList == (bs W0).toList) = true := by rw [hW]; simp
        have e : opNamed W0 = k := named_at k hlt hW
        obtain rfl := HR.out.symm.trans e
        have HV := Lib.hid hv2; have HK2 := Lib.hid hk2
        clear hW e HR hix hv hkp hv2 hk2 hf hv1
        generalize opM k = M at *
        generalize bs (opNm k) = NM at *
        generalize opK k = K at *
        generalize opA k = A at *
        generalize opB k = BB at *
        go_wp2_with fail
        go_ret2
        exact ⟨_, rfl, HV.out, HK2.out⟩
      · have t1 : ((bs (opNm k)).toList == (bs W0).toList) = false := by rw [toL_bs, toL_bs]; exact beq_eq_false_iff_ne.2 (fun h => hW h.symm)
        have HW := Lib.hid hW
        have HV := Lib.hid hv2; have HK2 := Lib.hid hk2
        clear hW hv hkp hv2 hk2 hf hv1 hix
        generalize opM k = M at *
        generalize hNN : bs (opNm k) = NM at *
        generalize opK k = K at *
        generalize opA k = A at *
        generalize opB k = BB at *
        clear hNN
        go_wp2_with fail
        go_roundw
        case rel => exact ⟨k + 1, rfl, by omega, by go_num, fun j hj => by rcases (by omega : j < k ∨ j = k) with h | rfl; exact HNE.out j h; exact HW.out, HV.out, HK2.out⟩
        case measure => simp [intOf]; omega
    · obtain rfl : k = 12 := by omega
      obtain rfl := HR.out.symm.trans (named_none HNE.out)
      clear hix hf
      go_wp2_with fail
      go_ret2
      exact ⟨_, rfl, hv, hkp⟩
end Go.Proofs.YtffldnjjijckcaaGreatDoor
