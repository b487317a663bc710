/-
  The table of the lines' kinds; the reader's kind and model.
-/
import Derived.LoopTactic
import Derived.Test.YtiljdehhjiahdaaGreatDoorG33
import Derived.Test.YtiljdehhjiahdaaGreatDoorG24
set_option linter.unusedSimpArgs false
set_option linter.unusedVariables false
namespace Go.Proofs.YtiljdehhjiahdaaGreatDoor
open Go.RowKit
/-- What is done with a line of a kind: its name, its words, how they are read. -/
def txKind (k : Int) : Array Value :=
  if k = 1 then #[.string (bs configL), fn 37, fn 38] else if k = 2 then #[.string (bs invokeL), fn 39, fn 40] else if k = 3 then #[.string (bs returnL), fn 41, fn 42] else
  if k = 4 then #[.string (bs infoL), fn 43, fn 44] else if k = 5 then #[.string (bs beginL), fn 45, fn 46] else if k = 6 then #[.string (bs commitL), fn 47, fn 48] else
  if k = 7 then #[.string (bs abortL), fn 43, fn 44] else #[.string ⟨#[]⟩, .nilFunc, .nilFunc]
def txKindsC : Array Value := #[.string ⟨#[]⟩, .nilFunc, .nilFunc, .string (bs configL), fn 37, fn 38, .string (bs invokeL), fn 39, fn 40, .string (bs returnL), fn 41, fn 42,
  .string (bs infoL), fn 43, fn 44, .string (bs beginL), fn 45, fn 46, .string (bs commitL), fn 47, fn 48, .string (bs abortL), fn 43, fn 44]
set_option maxHeartbeats 4000000 in
set_option maxRecDepth 100000 in
theorem txKinds_any (w : World) : Calls Tryz.prog 21 #[] w fun e w' => e = .returned (.agg txKindsC) ∧ Keeps [] w w' := by
  go_enter Tryz.func21, Tryz.ntmps21
  go_wp2_with ((with_reducible apply wpList_put_row (T := 63) 24); exact rfl; exact rfl; exact heap_alloc_at (by simp); exact ⟨rfl, rfl⟩; kernel_rfl; exact rfl)
  intro W hb hk
  go_wp2_with fail
  exact bodyPost_ret (results_cell_row (P := Tryz.prog) rfl _ _ _ _ _ _ _ rfl hb Tryz.underlying63 rfl (by kernel_rfl)) rfl ⟨rfl, ((Keeps.refl [] w).alloc _).trans hk (fun g hg => .inr (by simp at hg; omega))⟩
set_option maxRecDepth 100000 in
theorem index_txi (w : World) (k : Nat) (h7 : k < 8) : (Instr.index 63 (.agg txKindsC) (.int .i64 k)).run Tryz.prog w = .ok (.agg (txKind k)) w := by
  rcases (by omega : k = 0 ∨ k = 1 ∨ k = 2 ∨ k = 3 ∨ k = 4 ∨ k = 5 ∨ k = 6 ∨ k = 7) with rfl | rfl | rfl | rfl | rfl | rfl | rfl | rfl
  all_goals first | rfl | kernel_rfl | (simp [Instr.index, run_underlying Tryz.underlying63, txKindsC, txKind, fn, asIntOf, part, go_sem]; done)
set_option maxRecDepth 100000 in
theorem index_tx8 (w : World) (k : Int) (h1 : 1 ≤ k) (h7 : k ≤ 7) : (Instr.index 63 (.agg txKindsC) (.int .u8 k)).run Tryz.prog w = .ok (.agg (txKind k)) w := by
  rcases (by omega : k = 1 ∨ k = 2 ∨ k = 3 ∨ k = 4 ∨ k = 5 ∨ k = 6 ∨ k = 7) with rfl | rfl | rfl | rfl | rfl | rfl | rfl
  all_goals first | rfl | kernel_rfl | (simp [Instr.index, run_underlying Tryz.underlying63, txKindsC, txKind, fn, asIntOf, part, go_sem]; done)
theorem txKind_size (k : Int) : (txKind k).size = 3 := by
  unfold txKind
  repeat' split
  all_goals rfl
theorem txKind_one (k : Int) : (txKind k).toList.all (·.oneCell') = true := by
  unfold txKind
  repeat' split
  all_goals rfl
theorem txKind_0 (k : Int) : (txKind k)[0]? = some (.string (bs (kdNm k))) := by
  unfold txKind kdNm
  repeat' split
  all_goals first | rfl | (exfalso; omega)
theorem kdOf_at {W : List UInt8} (k : Nat) (h1 : 1 ≤ k) (h7 : k < 8) (h : W = kdNm k) : kdOf W = k := by
  subst h
  exact kdOf_nm (by simp [evKind]; omega)
theorem kdOf_no {W : List UInt8} (h : ∀ k : Nat, 1 ≤ k → k < 8 → W ≠ kdNm k) : kdOf W = 0 := by
  by_cases e : kdOf W = 0
  · exact e
  · obtain ⟨e1, e2⟩ := kdNm_of e
    have hb := kdOf_bounds W
    obtain ⟨n, hn⟩ := Int.eq_ofNat_of_zero_le hb.1
    rw [hn] at e1
    exact absurd e1.symm (h n (by omega) (by omega))
def rdKindO : Wds → Option (Int × Wds)
  | [] => none
  | w :: r => if kdOf w = 0 then none else some (kdOf w, r)
theorem wordR {w w' : World} {r g : Nat} {l : Wds} {e : Ending} (h : Reads r g w (match l with | [] => none | x :: t => some (x, t)) (fun s => .string (bs s)) e w') :
    (l = [] ∧ e = PanicE ∧ Keeps [r] w w') ∨ ∃ x t, l = x :: t ∧ e = .returned (.string (bs x)) ∧ RdAt w' r g t ∧ Keeps [r] w w' := by
  cases l with
  | nil => exact .inl ⟨rfl, h⟩
  | cons x t => exact .inr ⟨x, t, rfl, h⟩
set_option maxHeartbeats 8000000 in
set_option maxRecDepth 100000 in
theorem kind6_any (w : World) (r g : Nat) (l : Wds) (h : RdAt w r g l) : Calls Tryz.prog 25 #[.pointer (some ⟨r, 0, none⟩)] w (Reads r g w (rdKindO l) fun k => .int .u8 k) := by
  have hw := word_any w r g l h
  obtain ⟨O, hO⟩ : ∃ O, rdKindO l = O := ⟨_, rfl⟩
  rw [hO]
  have HO := Lib.hid hO
  clear h hO
  go_enter Tryz.func25, Tryz.ntmps25
  go_wp2_with fail
  refine hw.mono ?_; intro e w1 hR
  clear hw
  rcases wordR hR with ⟨rfl, rfl, hk1⟩ | ⟨W0, t, rfl, rfl, hr1, hk1⟩
  · obtain rfl : O = none := by rw [← HO.out]; rfl
    unfold PanicE
    clear HO hR
    go_wp2_with fail
    exact ⟨rfl, rfl, hk1⟩
  · have hO2 : O = if kdOf W0 = 0 then none else some (kdOf W0, t) := HO.out.symm
    clear HO hR
    have HO := Lib.hid hO2
    clear hO2
    have hkk := fun w => txKinds_any w
    generalize hKC : txKindsC = KC at *
    have hix := fun (w : World) (i : Nat) (hi : i < 8) => index_txi w i hi
    rw [hKC] at hix
    clear hKC
    have H1 := Lib.hid hr1
    clear hr1
    go_wp2_with fail
    refine (hkk _).mono ?_; rintro e w2 ⟨rfl, hk2⟩
    have H2 := Lib.hid (H1.out.new hk2)
    have K2 := Lib.hid (hk1.step hk2 (by simp))
    clear H1 hk1 hk2 hkk
    go_wp2_with fail
    go_loopw [2, 9] (fun q i wr => ∃ k : Nat, q = .int .u8 0 ∧ k ≤ 8 ∧ i = .int .i64 k ∧ (∀ j : Nat, 1 ≤ j → j < k → W0 ≠ kdNm j) ∧ RdAt wr r g t ∧ Keeps [r] w wr) (fun _ i _ => 8 - (intOf i).toNat)
    case atStart => exact ⟨0, rfl, by omega, rfl, fun j h1 hj => by omega, H2.out, K2.out⟩
    case round =>
      clear H2 K2
      obtain ⟨k, rfl, hk, rfl, hne, hra, hkp⟩ := hrel
      have HNE := Lib.hid hne
      have HA := Lib.hid hra; have HK := Lib.hid hkp
      clear hne hra hkp
      by_cases hlt : k < 8
      · have hx := hix wr k hlt
        have hz := Lib.hid (txKind_size k); have ho := Lib.hid (txKind_one k); have h0 := Lib.hid (txKind_0 k)
        have hkn : k = 0 → txKind k = #[.string ⟨#[]⟩, .nilFunc, .nilFunc] := fun e => by subst e; rfl
        have hkn := Lib.hid hkn
        by_cases hk0 : k = 0
        · subst hk0
          have hC : txKind ((0 : Nat) : Int) = #[.string ⟨#[]⟩, .nilFunc, .nilFunc] := hkn.out rfl
          rw [hC] at hx
          have hx0 : (Instr.index 63 (.agg KC) (.int .i64 0)).run Tryz.prog wr = .ok (.agg #[.string ⟨#[]⟩, .nilFunc, .nilFunc]) wr := hx
          clear hC h0 hkn hix hz ho hx
          go_wp2_with ((with_reducible apply wpList_put_row (T := 62) 3); exact rfl; exact rfl; exact heap_alloc_at (by simp); exact ⟨rfl, rfl⟩; kernel_rfl; exact rfl)
          intro W hb hk
          have hkk := ((Keeps.refl [] wr).alloc _).trans hk (fun g hg => .inr (by simp at hg; omega))
          have HA2 := Lib.hid (HA.out.new hkk)
          have HK2 := Lib.hid (HK.out.step hkk (by simp))
          clear hkk hk hb HA HK
          go_wp2_with fail
          go_roundw
          case rel => exact ⟨1, rfl, by omega, rfl, fun j h1 h2 => by omega, HA2.out, HK2.out⟩
          case measure => simp [intOf]
        · have hz0 : ((k : Int) == 0) = false := by rw [beq_eq_false_iff_ne]; omega
          have hz1 : ((k : Int) != 0) = true := by rw [bne, hz0]; rfl
          clear hix
          generalize txKind k = C at *
          go_wp2_with ((with_reducible apply wpList_put_row (T := 62) 3); exact rfl; exact rfl; exact heap_alloc_at (by simp); exact ⟨rfl, hz.out⟩; kernel_rfl; exact ho.out)
          intro W hb hk
          have hkk := ((Keeps.refl [] wr).alloc _).trans hk (fun g hg => .inr (by simp at hg; omega))
          have HA2 := Lib.hid (HA.out.new hkk)
          have HK2 := Lib.hid (HK.out.step hkk (by simp))
          have c0 : W.cell? ⟨wr.heap.size, 0, none⟩ = some (.string (bs (kdNm k))) := by simp [World.cell?, hb, h0.out]
          clear hkk hk hb HA HK hkn hz ho h0 hx
          by_cases hW : W0 = kdNm k
          · have t1 : ((bs (kdNm k)).toList == (bs W0).toList) = true := by rw [hW]; simp
            have hkd := kdOf_at k (by omega) hlt hW
            obtain rfl : O = some ((k : Int), t) := by rw [HO.out, hkd, if_neg (by omega)]
            have wk := wrap8 (n := (k : Int)) (by omega) (by omega)
            clear hW HO hkd HNE
            generalize bs (kdNm k) = NM at *
            go_wp2_with fail
            go_ret
            exact ⟨rfl, HA2.out, HK2.out⟩
          · have t1 : ((bs (kdNm k)).toList == (bs W0).toList) = false := by rw [toL_bs, toL_bs]; exact beq_eq_false_iff_ne.2 (fun h => hW h.symm)
            have HW := Lib.hid hW
            clear hW
            generalize hNN : bs (kdNm k) = NM at *
            clear hNN
            go_wp2_with fail
            go_roundw
            case rel => exact ⟨k + 1, rfl, by omega, by go_num, fun j h1 h2 => by rcases (by omega : j < k ∨ j = k) with h | rfl; exact HNE.out j h1 h; exact HW.out, HA2.out, HK2.out⟩
            case measure => simp [intOf]; omega
      · obtain rfl : k = 8 := by omega
        obtain rfl : O = none := by rw [HO.out, kdOf_no (fun j h1 h7 => HNE.out j h1 h7)]; rfl
        clear hix HO
        go_wp2_with fail
        exact ⟨rfl, rfl, HK.out⟩
set_option maxRecDepth 100000 in
theorem index_models (w : World) (i : Nat) (hi : i < 5) : (Instr.index 101 (.agg modelCells) (.int .i64 i)).run Tryz.prog w = .ok (.string (bs (mdNm i))) w := by
  have hu := Tryz.underlying101
  rcases (by omega : i = 0 ∨ i = 1 ∨ i = 2 ∨ i = 3 ∨ i = 4) with rfl | rfl | rfl | rfl | rfl
  all_goals first | rfl | kernel_rfl | (simp [Instr.index, modelCells, run_underlying hu, asIntOf, go_sem]; done)
theorem mdOf_at {W : List UInt8} (k : Nat) (h7 : k < 5) (h : W = mdNm k) : mdOf W = k := by
  subst h
  exact mdOf_nm (by omega) (by omega)
theorem mdOf_no {W : List UInt8} (h : ∀ k : Nat, k < 5 → W ≠ mdNm k) : mdOf W = -1 := by
  by_cases e : 0 ≤ mdOf W
  · have e1 := mdNm_of e
    have hb := mdOf_bounds W
    obtain ⟨n, hn⟩ := Int.eq_ofNat_of_zero_le e
    rw [hn] at e1
    exact absurd e1.symm (h n (by omega))
  · have hb := mdOf_bounds W; omega
set_option maxHeartbeats 8000000 in
set_option maxRecDepth 100000 in
theorem model6_any (w : World) (r g : Nat) (l : Wds) (h : RdAt w r g l) : Calls Tryz.prog 59 #[.pointer (some ⟨r, 0, none⟩)] w (Reads r g w (rdModel l) fun k => .int .u8 k) := by
  have hw := word_any w r g l h
  obtain ⟨O, hO⟩ : ∃ O, rdModel l = O := ⟨_, rfl⟩
  rw [hO]
  have HO := Lib.hid hO
  clear h hO
  go_enter Tryz.func59, Tryz.ntmps59
  go_wp2_with fail
  refine hw.mono ?_; intro e w1 hR
  clear hw
  rcases wordR hR with ⟨rfl, rfl, hk1⟩ | ⟨W0, t, rfl, rfl, hr1, hk1⟩
  · obtain rfl : O = none := by rw [← HO.out]; rfl
    unfold PanicE
    clear HO hR
    go_wp2_with fail
    exact ⟨rfl, rfl, hk1⟩
  · have hO2 : O = if 0 ≤ mdOf W0 then some (mdOf W0, t) else none := HO.out.symm
    clear HO hR
    have HO := Lib.hid hO2
    clear hO2
    have hix := fun (w : World) (i : Nat) (hi : i < 5) => index_models w i hi
    obtain ⟨tm, fr, hm⟩ := hr1.glob.models
    have H1 := Lib.hid hr1
    have K1 := Lib.hid hk1
    clear hr1 hk1
    generalize modelCells = MC at *
    go_wp2_with (first | refine wpList_load_row rfl 101 _ rfl 0 rfl tm MC fr _ hm Tryz.underlying101 rfl (by kernel_rfl) ?_ | refine wp_load_row 101 _ rfl 0 rfl tm MC fr _ hm Tryz.underlying101 rfl (by kernel_rfl) ?_)
    clear hm
    go_loopw [2, 9] (fun q i wr => ∃ k : Nat, q = .int .u8 0 ∧ k ≤ 5 ∧ i = .int .i64 k ∧ (∀ j : Nat, j < k → W0 ≠ mdNm j) ∧ RdAt wr r g t ∧ Keeps [r] w wr) (fun _ i _ => 5 - (intOf i).toNat)
    case atStart => exact ⟨0, rfl, by omega, rfl, fun j hj => by omega, H1.out, K1.out⟩
    case round =>
      clear H1 K1
      obtain ⟨k, rfl, hk, rfl, hne, hra, hkp⟩ := hrel
      have HNE := Lib.hid hne
      have HA := Lib.hid hra; have HK := Lib.hid hkp
      clear hne hra hkp
      by_cases hlt : k < 5
      · have hx := hix wr k hlt
        clear hix
        by_cases hW : W0 = mdNm k
        · have t1 : ((bs (mdNm k)).toList == (bs W0).toList) = true := by rw [hW]; simp
          have hkd := mdOf_at k hlt hW
          obtain rfl : O = some ((k : Int), t) := by rw [HO.out, hkd, if_pos (by omega)]
          have wk := wrap8 (n := (k : Int)) (by omega) (by omega)
          clear hW HO hkd HNE
          generalize bs (mdNm k) = NM at *
          go_wp2_with fail
          go_ret
          exact ⟨rfl, HA.out, HK.out⟩
        · have t1 : ((bs (mdNm k)).toList == (bs W0).toList) = false := by rw [toL_bs, toL_bs]; exact beq_eq_false_iff_ne.2 (fun h => hW h.symm)
          have HW := Lib.hid hW
          clear hW
          generalize hNN : bs (mdNm k) = NM at *
          clear hNN
          go_wp2_with fail
          go_roundw
          case rel => exact ⟨k + 1, rfl, by omega, by go_num, fun j h2 => by rcases (by omega : j < k ∨ j = k) with h | rfl; exact HNE.out j h; exact HW.out, HA.out, HK.out⟩
          case measure => simp [intOf]; omega
      · obtain rfl : k = 5 := by omega
        obtain rfl : O = none := by rw [HO.out, mdOf_no (fun j h7 => HNE.out j h7)]; rfl
        clear hix HO
        go_wp2_with fail
        exact ⟨rfl, rfl, HK.out⟩
end Go.Proofs.YtiljdehhjiahdaaGreatDoor
