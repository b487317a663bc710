/-
  The table of the lines' kinds; the reader's kind and model.
-/
import Derived.LoopTactic
import Derived.Test.YtffldnjjijckcaaGreatDoorR14
import Derived.Test.YtffldnjjijckcaaGreatDoorR11
import Derived.Test.YtffldnjjijckcaaGreatDoorR30
import Derived.Test.YtffldnjjijckcaaGreatDoorR34
set_option linter.unusedSimpArgs false
set_option linter.unusedVariables false
namespace Go.Proofs.YtffldnjjijckcaaGreatDoor
open Go.RowKit
/-- What is done with a line of a kind: its name, its words, how they are read. -/
def txKind (k : Int) : Array Value :=
  if k = 1 then #[.string (bs configL), fn 47, fn 48] else if k = 2 then #[.string (bs invokeL), fn 49, fn 50] else if k = 3 then #[.string (bs returnL), fn 51, fn 52] else
  if k = 4 then #[.string (bs infoL), fn 53, fn 54] else if k = 5 then #[.string (bs beginL), fn 55, fn 56] else if k = 6 then #[.string (bs commitL), fn 57, fn 58] else
  if k = 7 then #[.string (bs abortL), fn 53, fn 54] else #[.string ⟨#[]⟩, .nilFunc, .nilFunc]
def txKindsC : Array Value := #[.string ⟨#[]⟩, .nilFunc, .nilFunc, .string (bs configL), fn 47, fn 48, .string (bs invokeL), fn 49, fn 50, .string (bs returnL), fn 51, fn 52,
  .string (bs infoL), fn 53, fn 54, .string (bs beginL), fn 55, fn 56, .string (bs commitL), fn 57, fn 58, .string (bs abortL), fn 53, fn 54]
set_option maxHeartbeats 4000000 in
set_option maxRecDepth 100000 in
theorem txKinds_any (w : World) : Calls Tryz.prog 20 #[] w fun e w' => e = .returned (.agg txKindsC) ∧ Keeps [] w w' := by
  go_enter Tryz.func20, Tryz.ntmps20
  go_wp2_with ((with_reducible apply wpList_put_row (T := 60) 24); exact rfl; exact rfl; exact heap_alloc_at (by simp); exact ⟨rfl, rfl⟩; kernel_rfl; exact rfl)
  intro W hb hk
  go_wp2_with fail
  exact bodyPost_ret (results_cell_row (P := Tryz.prog) rfl _ _ _ _ _ _ _ rfl hb Tryz.underlying60 rfl (by kernel_rfl)) rfl ⟨rfl, ((Keeps.refl [] w).alloc _).trans hk (fun g hg => .inr (by simp at hg; omega))⟩
set_option maxRecDepth 100000 in
theorem index_txi (w : World) (k : Nat) (h7 : k < 8) : (Instr.index 60 (.agg txKindsC) (.int .i64 k)).run Tryz.prog w = .ok (.agg (txKind k)) w := by
  rcases (by omega : k = 0 ∨ k = 1 ∨ k = 2 ∨ k = 3 ∨ k = 4 ∨ k = 5 ∨ k = 6 ∨ k = 7) with rfl | rfl | rfl | rfl | rfl | rfl | rfl | rfl
  all_goals first | rfl | kernel_rfl | (simp [Instr.index, run_underlying Tryz.underlying60, txKindsC, txKind, fn, asIntOf, part, go_sem]; done)
set_option maxRecDepth 100000 in
theorem index_tx8 (w : World) (k : Int) (h1 : 1 ≤ k) (h7 : k ≤ 7) : (Instr.index 60 (.agg txKindsC) (.int .u8 k)).run Tryz.prog w = .ok (.agg (txKind k)) w := by
  rcases (by omega : k = 1 ∨ k = 2 ∨ k = 3 ∨ k = 4 ∨ k = 5 ∨ k = 6 ∨ k = 7) with rfl | rfl | rfl | rfl | rfl | rfl | rfl
  all_goals first | rfl | kernel_rfl | (simp [Instr.index, run_underlying Tryz.underlying60, txKindsC, txKind, fn, asIntOf, part, go_sem]; done)
theorem txKind_size (k : Int) : (txKind k).size = 3 := by
  unfold txKind
  repeat' split
  all_goals rfl
theorem txKind_one (k : Int) : (txKind k).toList.all (·.oneCell') = true := by
  unfold txKind
  repeat' split
  all_goals rfl
theorem txKind_0 (k : Int) : (txKind k)[0]? = some (.string (bs (kdNm k))) := by
  unfold txKind kdNm
  repeat' split
  all_goals first | rfl | (exfalso; omega)
theorem kdOf_at {W : List UInt8} (k : Nat) (h1 : 1 ≤ k) (h7 : k < 8) (h : W = kdNm k) : kdOf W = k := by
  subst h
  exact kdOf_nm (by simp [evKind]; omega)
theorem kdOf_no {W : List UInt8} (h : ∀ k : Nat, 1 ≤ k → k < 8 → W ≠ kdNm k) : kdOf W = 0 := by
  by_cases e : kdOf W = 0
  · exact e
  · obtain ⟨e1, e2⟩ := kdNm_of e
    have hb := kdOf_bounds W
    obtain ⟨n, hn⟩ := Int.eq_ofNat_of_zero_le hb.1
    rw [hn] at e1
    exact absurd e1.symm (h n (by omega) (by omega))
def rdKindO : Wds → Option (Int × Wds)
  | [] => none
  | w :: r => if kdOf w = 0 then none else some (kdOf w, r)
theorem wordR {w w' : World} {r g : Nat} {l : Wds} {e : Ending} (h : Reads r g w (match l with | [] => none | x :: t => some (x, t)) (fun s => .string (bs s)) e w') :
    (l = [] ∧ e = PanicE ∧ Keeps [r] w w') ∨ ∃ x t, l = x :: t ∧ e = .returned (.string (bs x)) ∧ RdAt w' r g t ∧ Keeps [r] w w' := by
  cases l with
  | nil => exact .inl ⟨rfl, h⟩
  | cons x t => exact .inr ⟨x, t, rfl, h⟩
set_option maxHeartbeats 8000000 in
set_option maxRecDepth 100000 in
theorem kind6_any (w : World) (r g : Nat) (l : Wds) (h : RdAt w r g l) : Calls Tryz.prog 32 #[.pointer (some ⟨r, 0, none⟩)] w (Reads r g w (rdKindO l) fun k => .int .u8 k) := by
  have hw := word_any w r g l h
  obtain ⟨O, hO⟩ : ∃ O, rdKindO l = O := ⟨_, rfl⟩
  rw [hO]
  have HO := Lib.hid hO
  clear h hO
  go_enter Tryz.func32, Tryz.ntmps32
  go_wp2_with fail
  refine hw.mono ?_; intro e w1 hR
  clear hw
  rcases wordR hR with ⟨rfl, rfl, hk1⟩ | ⟨W0, t, rfl, rfl, hr1, hk1⟩
  · obtain rfl : O = none := by rw [← HO.out]; rfl
    unfold PanicE
    clear HO hR
    go_wp2_with fail
    exact ⟨rfl, rfl, hk1⟩
  · have hO2 : O = if kdOf W0 = 0 then none else some (kdOf W0, t) := HO.out.symm
    clear HO hR
    have HO := Lib.hid hO2
    clear hO2
    have hkk := fun w => txKinds_any w
    generalize hKC : txKindsC = KC at *
    have hix := fun (w : World) (i : Nat) (hi : i < 8) => index_txi w i hi
    rw [hKC] at hix
    clear hKC
    have H1 := Lib.hid hr1
    clear hr1
    go_wp2_with fail
    refine (hkk _).mono ?_; rintro e w2 ⟨rfl, hk2⟩
    have H2 := Lib.hid (H1.out.new hk2)
    have K2 := Lib.hid (hk1.step hk2 (by simp))
    clear H1 hk1 hk2 hkk
    go_wp2_with fail
    go_loopw [2, 9] (fun q i wr => ∃ k : Nat, q = .int .u8 0 ∧ k ≤ 8 ∧ i = .int .i64 k ∧ (∀ j : Nat, 1 ≤ j → j < k → W0 ≠ kdNm j) ∧ RdAt wr r g t ∧ Keeps [r] w wr) (fun _ i _ => 8 - (intOf i).toNat)
    case atStart => exact ⟨0, rfl, by omega, rfl, fun j h1 hj => by omega, H2.out, K2.out⟩
    case round =>
      clear H2 K2
      obtain ⟨k, rfl, hk, rfl, hne, hra, hkp⟩ := hrel
      have HNE := Lib.hid hne
      have HA := Lib.hid hra; have HK := Lib.hid hkp
      clear hne hra hkp
      by_cases hlt : k < 8
      · have hx := hix wr k hlt
        have hz := Lib.hid (txKind_size k); have ho := Lib.hid (txKind_one k); have h0 := Lib.hid (txKind_0 k)
        have hkn : k = 0 → txKind k = #[.string ⟨#[]⟩, .nilFunc, .nilFunc] := fun e => by subst e; rfl
        have hkn := Lib.hid hkn
        by_cases hk0 : k = 0
        · subst hk0
          have hC : txKind ((0 : Nat) : Int) = #[.string ⟨#[]⟩, .nilFunc, .nilFunc] := hkn.out rfl
          rw [hC] at hx
          have hx0 : (Instr.index 60 (.agg KC) (.int .i64 0)).run Tryz.prog wr = .ok (.agg #[.string ⟨#[]⟩, .nilFunc, .nilFunc]) wr := hx
          clear hC h0 hkn hix hz ho hx
          go_wp2_with ((with_reducible apply wpList_put_row (T := 59) 3); exact rfl; exact rfl; exact heap_alloc_at (by simp); exact ⟨rfl, rfl⟩; kernel_rfl; exact rfl)
          intro W hb hk
          have hkk := ((Keeps.refl [] wr).alloc _).trans hk (fun g hg => .inr (by simp at hg; omega))
          have HA2 := Lib.hid (HA.out.new hkk)
          have HK2 := Lib.hid (HK.out.step hkk (by simp))
          clear hkk hk hb HA HK
          go_wp2_with fail
          go_roundw
          case rel => exact ⟨1, rfl, by omega, rfl, fun j h1 h2 => by omega, HA2.out, HK2.out⟩
          case measure => simp [intOf]
        · have hz0 : ((k : Int) == 0) = false := by rw [beq_eq_false_iff_ne]; omega
          have hz1 : ((k : Int) != 0) = true := by rw [bne, hz0]; rfl
          clear hix
          generalize txKind k = C at *
          go_wp2_with ((with_reducible apply wpList_put_row (T := 59) 3); exact rfl; exact rfl; exact heap_alloc_at (by simp); exact ⟨rfl, hz.out⟩; kernel_rfl; exact ho.out)
          intro W hb hk
          have hkk := ((Keeps.refl [] wr).alloc _).trans hk (fun g hg => .inr (by simp at hg; omega))
          have HA2 := Lib.hid (HA.out.new hkk)
          have HK2 := Lib.hid (HK.out.step hkk (by simp))
          have c0 : W.cell? ⟨wr.heap.size, 0, none⟩ = some (.string (bs (kdNm k))) := by simp [World.cell?, hb, h0.out]
          clear hkk hk hb HA HK hkn hz ho h0 hx
          by_cases hW : W0 = kdNm k
          · have t1 : ((bs (kdNm k)).toList == (bs W0).toList) = true := by rw [hW]; simp
            have hkd := kdOf_at k (by omega) hlt hW
            obtain rfl : O = some ((k : Int), t) := by rw [HO.out, hkd, if_neg (by omega)]
            have wk := wrap8 (n := (k : Int)) (by omega) (by omega)
            clear hW HO hkd HNE
            generalize bs (kdNm k) = NM at *
            go_wp2_with fail
            go_ret
            exact ⟨rfl, HA2.out, HK2.out⟩
          · have t1 : ((bs (kdNm k)).toList == (bs W0).toList) = false := by rw [toL_bs, toL_bs]; exact beq_eq_false_iff_ne.2 (fun h => hW h.symm)
            have HW := Lib.hid hW
            clear hW
            generalize hNN : bs (kdNm k) = NM at *
            clear hNN
            go_wp2_with fail
            go_roundw
            case rel => exact ⟨k + 1, rfl, by omega, by go_num, fun j h1 h2 => by rcases (by omega : j < k ∨ j = k) with h | rfl; exact HNE.out j h1 h; exact HW.out, HA2.out, HK2.out⟩
            case measure => simp [intOf]; omega
      · obtain rfl : k = 8 := by omega
        obtain rfl : O = none := by rw [HO.out, kdOf_no (fun j h1 h7 => HNE.out j h1 h7)]; rfl
        clear hix HO
        go_wp2_with fail
        exact ⟨rfl, rfl, HK.out⟩
set_option maxRecDepth 100000 in
theorem index_models (w : World) (i : Nat) (hi : i < 5) : (Instr.index 129 (.agg modelCells) (.int .i64 i)).run Tryz.prog w = .ok (.string (bs (mdNm i))) w := by
  have hu := Tryz.underlying129
  rcases (by omega : i = 0 ∨ i = 1 ∨ i = 2 ∨ i = 3 ∨ i = 4) with rfl | rfl | rfl | rfl | rfl
  all_goals first | rfl | kernel_rfl | (simp [Instr.index, modelCells, run_underlying hu, asIntOf, go_sem]; done)
theorem mdOf_at {W : List UInt8} (k : Nat) (h7 : k < 5) (h : W = mdNm k) : mdOf W = k := by
  subst h
  exact mdOf_nm (by omega) (by omega)
theorem mdOf_no {W : List UInt8} (h : ∀ k : Nat, k < 5 → W ≠ mdNm k) : mdOf W = -1 := by
  by_cases e : 0 ≤ mdOf W
  · have e1 := mdNm_of e
    have hb := mdOf_bounds W
    obtain ⟨n, hn⟩ := Int.eq_ofNat_of_zero_le e
    rw [hn] at e1
    exact absurd e1.symm (h n (by omega))
  · have hb := mdOf_bounds W; omega
set_option maxHeartbeats 8000000 in
set_option maxRecDepth 100000 in
theorem model6_any (w : World) (r g : Nat) (l : Wds) (h : RdAt w r g l) : Calls Tryz.prog 76 #[.pointer (some ⟨r, 0, none⟩)] w (Reads r g w (rdModel l) fun k => .int .u8 k) := by
  have hw := word_any w r g l h
  obtain ⟨O, hO⟩ : ∃ O, rdModel l = O := ⟨_, rfl⟩
  rw [hO]
  have HO := Lib.hid hO
  clear h hO
  go_enter Tryz.func76, Tryz.ntmps76
  go_wp2_with fail
  refine hw.mono ?_; intro e w1 hR
  clear hw
  rcases wordR hR with ⟨rfl, rfl, hk1⟩ | ⟨W0, t, rfl, rfl, hr1, hk1⟩
  · obtain rfl : O = none := by rw [← HO.out]; rfl
    unfold PanicE
    clear HO hR
    go_wp2_with fail
    exact ⟨rfl, rfl, hk1⟩
  · have hO2 : O = if 0 ≤ mdOf W0 then some (mdOf W0, t) else none := HO.out.symm
    clear HO hR
    have HO := Lib.hid hO2
    clear hO2
    have hix := fun (w : World) (i : Nat) (hi : i < 5) => index_models w i hi
    obtain ⟨tm, fr, hm⟩ := hr1.glob.models
    have H1 := Lib.hid hr1
    have K1 := Lib.hid hk1
    clear hr1 hk1
    generalize modelCells = MC at *
    go_wp2_with (first | refine wpList_load_row rfl 129 _ rfl 0 rfl tm MC fr _ hm Tryz.underlying129 rfl (by kernel_rfl) ?_ | refine wp_load_row 129 _ rfl 0 rfl tm MC fr _ hm Tryz.underlying129 rfl (by kernel_rfl) ?_)
    clear hm
    go_loopw [2, 9] (fun q i wr => ∃ k : Nat, q = .int .u8 0 ∧ k ≤ 5 ∧ i = .int .i64 k ∧ (∀ j : Nat, j < k → W0 ≠ mdNm j) ∧ RdAt wr r g t ∧ Keeps [r] w wr) (fun _ i _ => 5 - (intOf i).toNat)
    case atStart => exact ⟨0, rfl, by omega, rfl, fun j hj => by omega, H1.out, K1.out⟩
    case round =>
      clear H1 K1
      obtain ⟨k, rfl, hk, rfl, hne, hra, hkp⟩ := hrel
      have HNE := Lib.hid hne
      have HA := Lib.hid hra; have HK := Lib.hid hkp
      clear hne hra hkp
      by_cases hlt : k < 5
      · have hx := hix wr k hlt
        clear hix
        by_cases hW : W0 = mdNm k
        · have t1 : ((bs (mdNm k)).toList == (bs W0).toList) = true := by rw [hW]; simp
          have hkd := mdOf_at k hlt hW
          obtain rfl : O = some ((k : Int), t) := by rw [HO.out, hkd, if_pos (by omega)]
          have wk := wrap8 (n := (k : Int)) (by omega) (by omega)
          clear hW HO hkd HNE
          generalize bs (mdNm k) = NM at *
          go_wp2_with fail
          go_ret
          exact ⟨rfl, HA.out, HK.out⟩
        · have t1 : ((bs (mdNm k)).toList == (bs W0).toList) = false := by rw [toL_bs, toL_bs]; exact beq_eq_false_iff_ne.2 (fun h => hW h.symm)
          have HW := Lib.hid hW
          clear hW
          generalize hNN : bs (mdNm k) = NM at *
          clear hNN
          go_wp2_with fail
          go_roundw
          case rel => exact ⟨k + 1, rfl, by omega, by go_num, fun j h2 => by rcases (by omega : j < k ∨ j = k) with h | rfl; exact HNE.out j h; exact HW.out, HA.out, HK.out⟩
          case measure => simp [intOf]; omega
      · obtain rfl : k = 5 := by omega
        obtain rfl : O = none := by rw [HO.out, mdOf_no (fun j h7 => HNE.out j h7)]; rfl
        clear hix HO
        go_wp2_with fail
        exact ⟨rfl, rfl, HK.out⟩
end Go.Proofs.YtffldnjjijckcaaGreatDoor
/-
  The reader's config.
-/
namespace Go.Proofs.YtffldnjjijckcaaGreatDoor
open Go.RowKit
set_option maxHeartbeats 8000000 in
set_option maxRecDepth 100000 in
theorem config6_any (w0 w : World) (b r g : Nat) (l : Wds) (x : Ev) (tx rd : Value) (h : Rdt b r g w0 w l x tx rd) :
    Calls Tryz.prog 48 #[.pointer (some ⟨r, 0, none⟩), .pointer (some ⟨b, 0, none⟩)] w (Fills b r g w0 ((rdCfg l).map fun p => ({ x with g := p.1 }, p.2)) tx rd) := by
  obtain ⟨O, hO⟩ : ∃ O, ((rdCfg l).map fun p => (({ x with g := p.1 } : Ev), p.2)) = O := ⟨_, rfl⟩
  rw [hO]
  have HO := Lib.hid hO
  have H := Lib.hid h
  clear h hO
  go_enter Tryz.func48, Tryz.ntmps48
  go_wp2_with fail
  refine (model6_any _ r g l H.out.rdr).mono ?_; intro e w1 hR
  cases e1 : rdModel l with
  | none =>
    rw [e1] at hR
    obtain ⟨rfl, hk⟩ := hR
    obtain rfl : O = none := by rw [← HO.out]; simp [rdCfg, e1]
    unfold PanicE
    clear HO
    go_wp2_with fail
    exact ⟨rfl, rfl, H.out.bad hk⟩
  | some p =>
    obtain ⟨a1, l1⟩ := p
    rw [e1] at hR
    obtain ⟨rfl, hr, hk⟩ := hR
    have E1 := Lib.hid e1
    have R1 := Lib.hid (H.out.reads hr hk)
    clear H hr hk e1
    go_wp2_with ((with_reducible apply wpList_put_cell (T := 5) 12 { x with g := ⟨a1, x.g.mo, x.g.ms, x.g.mt, x.g.p, x.g.cu, x.g.me⟩ } tx rd); exact rfl; exact rfl; exact R1.out.ev; kernel_rfl; exact rfl; exact rfl; exact rfl)
    intro W1 hb hk
    have S1 := Lib.hid (R1.out.puts hb hk)
    clear R1 hb hk
    go_wp2_with fail
    refine (number_any _ r g l1 S1.out.rdr 32 (by decide) (by decide)).mono ?_; intro e w2 hR
    cases e2 : rdNum 32 l1 with
    | none =>
      rw [e2] at hR
      obtain ⟨rfl, hk⟩ := hR
      obtain rfl : O = none := by rw [← HO.out]; simp [rdCfg, E1.out, e2]
      unfold PanicE
      clear HO
      go_wp2_with fail
      exact ⟨rfl, rfl, S1.out.bad hk⟩
    | some p =>
      obtain ⟨a2, l2⟩ := p
      rw [e2] at hR
      obtain ⟨rfl, hr, hk⟩ := hR
      have E2 := Lib.hid e2
      have R2 := Lib.hid (S1.out.reads hr hk)
      clear S1 hr hk e2
      go_wp2_with ((with_reducible apply wpList_put_cell (T := 3) 13 { x with g := ⟨a1, a2, x.g.ms, x.g.mt, x.g.p, x.g.cu, x.g.me⟩ } tx rd); exact rfl; exact rfl; exact R2.out.ev; kernel_rfl; exact rfl; exact rfl; exact rfl)
      intro W2 hb hk
      have S2 := Lib.hid (R2.out.puts hb hk)
      clear R2 hb hk
      go_wp2_with fail
      refine (number_any _ r g l2 S2.out.rdr 4096 (by decide) (by decide)).mono ?_; intro e w3 hR
      cases e3 : rdNum 4096 l2 with
      | none =>
        rw [e3] at hR
        obtain ⟨rfl, hk⟩ := hR
        obtain rfl : O = none := by rw [← HO.out]; simp [rdCfg, E1.out, E2.out, e3]
        unfold PanicE
        clear HO
        go_wp2_with fail
        exact ⟨rfl, rfl, S2.out.bad hk⟩
      | some p =>
        obtain ⟨a3, l3⟩ := p
        rw [e3] at hR
        obtain ⟨rfl, hr, hk⟩ := hR
        have E3 := Lib.hid e3
        have R3 := Lib.hid (S2.out.reads hr hk)
        clear S2 hr hk e3
        go_wp2_with ((with_reducible apply wpList_put_cell (T := 3) 14 { x with g := ⟨a1, a2, a3, x.g.mt, x.g.p, x.g.cu, x.g.me⟩ } tx rd); exact rfl; exact rfl; exact R3.out.ev; kernel_rfl; exact rfl; exact rfl; exact rfl)
        intro W3 hb hk
        have S3 := Lib.hid (R3.out.puts hb hk)
        clear R3 hb hk
        go_wp2_with fail
        refine (number_any _ r g l3 S3.out.rdr 1048576 (by decide) (by decide)).mono ?_; intro e w4 hR
        cases e4 : rdNum 1048576 l3 with
        | none =>
          rw [e4] at hR
          obtain ⟨rfl, hk⟩ := hR
          obtain rfl : O = none := by rw [← HO.out]; simp [rdCfg, E1.out, E2.out, E3.out, e4]
          unfold PanicE
          clear HO
          go_wp2_with fail
          exact ⟨rfl, rfl, S3.out.bad hk⟩
        | some p =>
          obtain ⟨a4, l4⟩ := p
          rw [e4] at hR
          obtain ⟨rfl, hr, hk⟩ := hR
          have E4 := Lib.hid e4
          have R4 := Lib.hid (S3.out.reads hr hk)
          clear S3 hr hk e4
          go_wp2_with ((with_reducible apply wpList_put_cell (T := 3) 15 { x with g := ⟨a1, a2, a3, a4, x.g.p, x.g.cu, x.g.me⟩ } tx rd); exact rfl; exact rfl; exact R4.out.ev; kernel_rfl; exact rfl; exact rfl; exact rfl)
          intro W4 hb hk
          have S4 := Lib.hid (R4.out.puts hb hk)
          clear R4 hb hk
          go_wp2_with fail
          refine (has_any _ r g l4 S4.out.rdr partL _ rfl).mono ?_; rintro e w5 ⟨rfl, hr, hk⟩
          have R5 := Lib.hid (S4.out.reads hr hk)
          clear S4 hr hk
          go_wp2_with ((with_reducible apply wpList_put_cell (T := 4) 16 { x with g := ⟨a1, a2, a3, a4, (rdHas partL l4), x.g.cu, x.g.me⟩ } tx rd); exact rfl; exact rfl; exact R5.out.ev; kernel_rfl; exact rfl; exact rfl; exact rfl)
          intro W5 hb hk
          have S5 := Lib.hid (R5.out.puts hb hk)
          clear R5 hb hk
          go_wp2_with fail
          refine (has_any _ r g (rdLeft partL l4) S5.out.rdr cutL _ rfl).mono ?_; rintro e w6 ⟨rfl, hr, hk⟩
          have R6 := Lib.hid (S5.out.reads hr hk)
          clear S5 hr hk
          go_wp2_with ((with_reducible apply wpList_put_cell (T := 4) 17 { x with g := ⟨a1, a2, a3, a4, (rdHas partL l4), (rdHas cutL (rdLeft partL l4)), x.g.me⟩ } tx rd); exact rfl; exact rfl; exact R6.out.ev; kernel_rfl; exact rfl; exact rfl; exact rfl)
          intro W6 hb hk
          have S6 := Lib.hid (R6.out.puts hb hk)
          clear R6 hb hk
          go_wp2_with fail
          refine (has_any _ r g (rdLeft cutL (rdLeft partL l4)) S6.out.rdr memoL _ rfl).mono ?_; rintro e w7 ⟨rfl, hr, hk⟩
          have R7 := Lib.hid (S6.out.reads hr hk)
          clear S6 hr hk
          go_wp2_with ((with_reducible apply wpList_put_cell (T := 4) 18 { x with g := ⟨a1, a2, a3, a4, (rdHas partL l4), (rdHas cutL (rdLeft partL l4)), (rdHas memoL (rdLeft cutL (rdLeft partL l4)))⟩ } tx rd); exact rfl; exact rfl; exact R7.out.ev; kernel_rfl; exact rfl; exact rfl; exact rfl)
          intro W7 hb hk
          have S7 := Lib.hid (R7.out.puts hb hk)
          clear R7 hb hk
          go_wp2_with fail
          go_end0
          obtain rfl : O = some ({ x with g := ⟨a1, a2, a3, a4, (rdHas partL l4), (rdHas cutL (rdLeft partL l4)), (rdHas memoL (rdLeft cutL (rdLeft partL l4)))⟩ }, (rdLeft memoL (rdLeft cutL (rdLeft partL l4)))) := by rw [← HO.out]; simp [rdCfg, rdFlags, E1.out, E2.out, E3.out, E4.out]
          exact ⟨rfl, S7.out⟩
end Go.Proofs.YtffldnjjijckcaaGreatDoor
/-
  The reader's micro.
-/
namespace Go.Proofs.YtffldnjjijckcaaGreatDoor
open Go.RowKit
def Mic.val (m : Mic) : Value := .agg #[.bool m.rd, .int .u8 m.key, .int .u16 m.v]
theorem RdAt.fresh {w w1 w2 : World} {r g n : Nat} {l : Wds} (h : RdAt w r g l) (hk : Keeps [] w w1) (hk2 : Keeps [n] w1 w2) (hn : w.heap.size ≤ n) : RdAt w2 r g l :=
  h.new (hk.trans hk2 (fun g hg => .inr (by simp at hg; omega)))
set_option maxHeartbeats 8000000 in
set_option maxRecDepth 100000 in
theorem micro6_any (w : World) (r g : Nat) (l : Wds) (h : RdAt w r g l) : Calls Tryz.prog 83 #[.pointer (some ⟨r, 0, none⟩)] w (Reads r g w (rdMic l) Mic.val) := by
  obtain ⟨O, hO⟩ : ∃ O, rdMic l = O := ⟨_, rfl⟩
  rw [hO]
  have HO := Lib.hid hO
  have hk0 := (Keeps.refl [] w).alloc (.cells #[.bool false, .int .u8 0, .int .u16 0] 70)
  have hB0 := heap_alloc_new w (.cells #[.bool false, .int .u8 0, .int .u16 0] 70)
  have H0 := Lib.hid (h.new hk0)
  have HB := Lib.hid hB0; have HK := Lib.hid (hk0.more (G := [r]) (by simp))
  have hrl := h.lt
  have HS := Lib.hid h
  have HN : w.heap.size ∉ [r] := by simp; omega
  clear h hO hk0 hB0
  go_enter Tryz.func83, Tryz.ntmps83
  go_wp2_with fail
  refine (has_any _ r g l H0.out readL _ rfl).mono ?_; rintro e w1 ⟨rfl, hr, hk⟩
  have H1 := Lib.hid hr
  have B1 := Lib.hid (hk.heap HB.out HN)
  have K1 := Lib.hid (HK.out.step hk (by simp))
  clear H0 HB HK hr hk
  cases hq : rdHas readL l with
  | true =>
    have hL : rdLeft readL l = l.tail := by unfold rdLeft; rw [if_pos hq]
    rw [hL] at H1
    have HQ := Lib.hid hq
    clear hq hL
    go_wp2_with fail
    refine (number_any _ r g _ H1.out 7 (by decide) (by decide)).mono ?_; intro e w2 hR
    cases e2 : rdNum 7 l.tail with
    | none =>
      rw [e2] at hR
      obtain ⟨rfl, hk⟩ := hR
      obtain rfl : O = none := by rw [← HO.out]; simp [rdMic, HQ.out, e2]
      unfold PanicE
      clear HO
      go_wp2_with fail
      exact ⟨rfl, rfl, K1.out.step hk (by simp)⟩
    | some p =>
      obtain ⟨k, l2⟩ := p
      rw [e2] at hR
      obtain ⟨rfl, hr, hk⟩ := hR
      have cb := (rdNum_ok e2).2
      have wc := wrap8 cb.1 (by omega)
      obtain rfl : O = some (⟨true, k, 0⟩, l2) := by rw [← HO.out]; simp [rdMic, HQ.out, e2]
      have H2 := Lib.hid hr
      have B2 := Lib.hid (hk.heap B1.out HN)
      have K2 := Lib.hid (K1.out.step hk (by simp))
      clear H1 B1 K1 hr hk HO e2 cb
      go_wp2_with ((with_reducible apply wpList_put_row (T := 70) 3); exact rfl; exact rfl; exact B2.out; exact ⟨rfl, rfl⟩; kernel_rfl; exact rfl)
      intro W hb hk
      have K3 := Lib.hid (K2.out.trans hk (fun g hg => .inr (by simp at hg; omega)))
      have H3 := Lib.hid (HS.out.off H2.out hk (by simp))
      clear H2 K2 B2
      go_wp2_with fail
      exact bodyPost_ret (results_cell_row (P := Tryz.prog) rfl _ _ _ _ _ _ _ rfl hb Tryz.underlying70 rfl (by kernel_rfl)) rfl ⟨rfl, H3.out, K3.out⟩
  | false =>
    have hL : rdLeft readL l = l := by unfold rdLeft; rw [if_neg (by simp [hq])]
    rw [hL] at H1
    have HQ := Lib.hid hq
    clear hq hL
    go_wp2_with fail
    refine (has_any _ r g l H1.out appendL _ rfl).mono ?_; rintro e w2 ⟨rfl, hr, hk⟩
    have H2 := Lib.hid hr
    have B2 := Lib.hid (hk.heap B1.out HN)
    have K2 := Lib.hid (K1.out.step hk (by simp))
    clear H1 B1 K1 hr hk
    cases hq2 : rdHas appendL l with
    | false =>
      obtain rfl : O = none := by rw [← HO.out]; simp [rdMic, HQ.out, hq2]
      clear HO
      go_wp2_with fail
      refine (need_no _).mono ?_; rintro e w3 ⟨rfl, rfl⟩
      unfold PanicE
      go_wp2_with fail
      exact ⟨rfl, rfl, K2.out⟩
    | true =>
      have hL : rdLeft appendL l = l.tail := by unfold rdLeft; rw [if_pos hq2]
      rw [hL] at H2
      have HQ2 := Lib.hid hq2
      clear hq2 hL
      go_wp2_with fail
      refine (need_yes _).mono ?_; rintro e w3 ⟨rfl, rfl⟩
      go_wp2_with fail
      refine (number_any _ r g _ H2.out 7 (by decide) (by decide)).mono ?_; intro e w4 hR
      cases e4 : rdNum 7 l.tail with
      | none =>
        rw [e4] at hR
        obtain ⟨rfl, hk⟩ := hR
        obtain rfl : O = none := by rw [← HO.out]; simp [rdMic, HQ.out, HQ2.out, e4]
        unfold PanicE
        clear HO
        go_wp2_with fail
        exact ⟨rfl, rfl, K2.out.step hk (by simp)⟩
      | some p =>
        obtain ⟨k, l4⟩ := p
        rw [e4] at hR
        obtain ⟨rfl, hr, hk⟩ := hR
        have cb := (rdNum_ok e4).2
        have wc := wrap8 cb.1 (by omega)
        have E4 := Lib.hid e4
        have H4 := Lib.hid hr
        have B4 := Lib.hid (hk.heap B2.out HN)
        have K4 := Lib.hid (K2.out.step hk (by simp))
        clear H2 B2 K2 hr hk cb e4
        go_wp2_with fail
        refine (number_any _ r g _ H4.out 65535 (by decide) (by decide)).mono ?_; intro e w5 hR
        cases e5 : rdNum 65535 l4 with
        | none =>
          rw [e5] at hR
          obtain ⟨rfl, hk⟩ := hR
          obtain rfl : O = none := by rw [← HO.out]; simp [rdMic, HQ.out, HQ2.out, E4.out, e5]
          unfold PanicE
          clear HO
          go_wp2_with fail
          exact ⟨rfl, rfl, K4.out.step hk (by simp)⟩
        | some p =>
          obtain ⟨v, l5⟩ := p
          rw [e5] at hR
          obtain ⟨rfl, hr, hk⟩ := hR
          have vb := (rdNum_ok e5).2
          have wv := wrap16 vb.1 (by omega)
          obtain rfl : O = some (⟨false, k, v⟩, l5) := by rw [← HO.out]; simp [rdMic, HQ.out, HQ2.out, E4.out, e5]
          have H5 := Lib.hid hr
          have B5 := Lib.hid (hk.heap B4.out HN)
          have K5 := Lib.hid (K4.out.step hk (by simp))
          clear H4 B4 K4 hr hk vb e5 HO E4
          go_wp2_with ((with_reducible apply wpList_put_row (T := 70) 3); exact rfl; exact rfl; exact B5.out; exact ⟨rfl, rfl⟩; kernel_rfl; exact rfl)
          intro W hb hk
          have K6 := Lib.hid (K5.out.trans hk (fun g hg => .inr (by simp at hg; omega)))
          have H6 := Lib.hid (HS.out.off H5.out hk (by simp))
          clear H5 K5 B5
          go_wp2_with fail
          exact bodyPost_ret (results_cell_row (P := Tryz.prog) rfl _ _ _ _ _ _ _ rfl hb Tryz.underlying70 rfl (by kernel_rfl)) rfl ⟨rfl, H6.out, K6.out⟩
end Go.Proofs.YtffldnjjijckcaaGreatDoor
/-
  The reader's invoke and returned.
-/
namespace Go.Proofs.YtffldnjjijckcaaGreatDoor
open Go.RowKit
def rdInv (x : Ev) (l : Wds) : Option (Ev × Wds) := match rdWho l with
  | none => none
  | some (c, i, r) => if opsE r = 0 then some ({ x with c := c, id := i, o := opsX r }, []) else none
theorem getD_le {l : Wds} {N : Nat} (h : ∀ x ∈ l, x.length ≤ N) (j : Nat) : (l.getD j []).length ≤ N := by
  by_cases hj : j < l.length
  · rw [List.getD_eq_getElem?_getD, List.getElem?_eq_getElem hj]
    exact h _ (List.getElem_mem hj)
  · rw [List.getD_eq_getElem?_getD, List.getElem?_eq_none (by omega)]
    simp
theorem Rdt.empty {b r g : Nat} {w W W' : World} {l : Wds} {x : Ev} {tx rd : Value} (h : Rdt b r g w W l x tx rd) (hk : Keeps [r] W W') (hv : W'.heap[r]? = some (.cells #[.slice none 0 0] 75 (0, 0))) : Rdt b r g w W' [] x tx rd :=
  h.reads (h.rdr.put hk hv (StrsIn.nil g W) (by simp) (by simp)) hk
set_option maxHeartbeats 8000000 in
set_option maxRecDepth 100000 in
theorem invoke6_any (w0 w : World) (b r g : Nat) (l : Wds) (x : Ev) (tx rd : Value) (h : Rdt b r g w0 w l x tx rd) :
    Calls Tryz.prog 50 #[.pointer (some ⟨r, 0, none⟩), .pointer (some ⟨b, 0, none⟩)] w (Fills b r g w0 (rdInv x l) tx rd) := by
  have hw := who6_any w0 w b r g l x tx rd h
  obtain ⟨O, hO⟩ : ∃ O, rdInv x l = O := ⟨_, rfl⟩
  rw [hO]
  have HO := Lib.hid hO
  clear h hO
  go_enter Tryz.func50, Tryz.ntmps50
  go_wp2_with fail
  refine hw.mono ?_; intro e w1 hR
  clear hw
  cases e1 : rdWho l with
  | none =>
    rw [e1] at hR
    obtain ⟨rfl, hk⟩ := hR
    obtain rfl : O = none := by rw [← HO.out]; simp [rdInv, e1]
    unfold PanicE
    clear HO
    go_wp2_with fail
    exact ⟨rfl, rfl, hk⟩
  | some p =>
    obtain ⟨c, i, l1⟩ := p
    rw [e1] at hR
    obtain ⟨rfl, h1⟩ := hR
    have hO2 : O = if opsE l1 = 0 then some ({ x with c := c, id := i, o := opsX l1 }, []) else none := by rw [← HO.out]; simp [rdInv, e1]
    clear HO e1
    have HO := Lib.hid hO2
    clear hO2
    obtain ⟨v, hv, hs⟩ := h1.rdr.cell
    have c0 : w1.cell? ⟨r, 0, none⟩ = some v := by simp [World.cell?, hv]
    have hp := Parse4_any w1 h1.rdr.glob.o v l1 hs.strs (getD_le h1.rdr.ws)
    have HX := Lib.hid h1
    clear h1 hv hs
    simp only [Opn.val] at hp
    generalize opsX l1 = y at *
    obtain ⟨f, o, k, m, n⟩ := y
    rcases opsE_two l1 with hE | hE
    · rw [hE] at hp
      obtain rfl : O = some ({ x with c := c, id := i, o := ⟨f, o, k, m, n⟩ }, []) := by rw [HO.out, if_pos hE]
      clear HO hE
      go_wp2_with fail
      refine hp.mono ?_; rintro e w2 ⟨rfl, hk⟩
      have H2 := Lib.hid (HX.out.news hk)
      clear hp HX hk c0
      go_wp2_with ((with_reducible apply wpList_put_row (T := 24) 5); exact rfl; exact rfl; exact heap_alloc_at (by simp); exact ⟨rfl, rfl⟩; kernel_rfl; exact rfl)
      intro W3 hb hk
      have hkk := ((Keeps.refl [] w2).alloc _).trans hk (fun g hg => .inr (by simp at hg; omega))
      have H3 := Lib.hid (H2.out.news hkk)
      obtain ⟨c0, c1, c2, c3, c4, cl⟩ := cell5 hb
      clear H2 hk hkk
      go_wp2_with fail
      refine (need_yes _).mono ?_; rintro e w4 ⟨rfl, rfl⟩
      go_wp2_with ((with_reducible apply wpList_put_op); exact rfl; exact rfl; exact H3.out.ev)
      intro W5 hb5 hk5
      have H5 := Lib.hid (H3.out.puts hb5 hk5)
      obtain ⟨u, hu, _⟩ := H5.out.rdr.cell
      have d0 : W5.cell? ⟨r, 0, none⟩ = some u := by simp [World.cell?, hu]
      have hfz : W5.frozen? ⟨r, 0, none⟩ = false := by simp [World.frozen?, hu]
      have HU := Lib.hid hu
      clear H3 hb hb5 hk5 c0 c1 c2 c3 c4 cl hu
      go_wp2_with fail
      go_end0
      exact ⟨rfl, H5.out.empty ((Keeps.refl [r] W5).setCell _ _ (.inl (by simp))) (put1 HU.out _)⟩
    · rw [hE] at hp
      obtain rfl : O = none := by rw [HO.out, if_neg (by omega)]
      clear HO hE
      go_wp2_with fail
      refine hp.mono ?_; rintro e w2 ⟨rfl, hk⟩
      have H2 := Lib.hid (HX.out.news hk)
      clear hp HX hk c0
      go_wp2_with ((with_reducible apply wpList_put_row (T := 24) 5); exact rfl; exact rfl; exact heap_alloc_at (by simp); exact ⟨rfl, rfl⟩; kernel_rfl; exact rfl)
      intro W3 hb hk
      have hkk := ((Keeps.refl [] w2).alloc _).trans hk (fun g hg => .inr (by simp at hg; omega))
      have H3 := Lib.hid (H2.out.news hkk)
      clear H2 hk hkk hb
      go_wp2_with fail
      refine (need_no _).mono ?_; rintro e w4 ⟨rfl, rfl⟩
      unfold PanicE
      go_wp2_with fail
      exact ⟨rfl, rfl, H3.out.bad (Keeps.refl _ _)⟩
theorem lens_le {l : Wds} {N : Nat} (h : ∀ x ∈ l, x.length ≤ N) : Lib.lens l ≤ l.length * N := by
  induction l with
  | nil => simp [Lib.lens]
  | cons x r ih =>
    have h1 := ih (fun y hy => h y (by simp [hy]))
    have h2 := h x (by simp)
    simp only [Lib.lens, List.map_cons, List.sum_cons, List.length_cons] at h1 ⊢
    rw [Nat.add_mul]; omega
theorem join_le {l : Wds} {N : Nat} (h : ∀ x ∈ l, x.length ≤ N) (c : UInt8) : (Lib.join l [c]).length ≤ l.length * (N + 1) := by
  cases l with
  | nil => simp [Lib.join_nil]
  | cons x r =>
    rw [Lib.join_length]
    have := lens_le h
    simp only [List.length_cons, List.length_nil] at this ⊢
    rw [Nat.mul_add]; omega
/-- Words are joined. -/
theorem Join6_any (w : World) (v : Value) (l : Wds) (c : UInt8) {N M : Nat} (h : Strs N w v l) (hM : ∀ x ∈ l, x.length ≤ M) (hb : l.length * (M + 1) ≤ 140737488355328) :
    Calls Tryz.prog 21 #[v, .string ⟨#[c]⟩] w fun e w' => e = .returned (.string (bs (Lib.join l [c]))) ∧ Keeps [] w w' := by
  obtain ⟨a, cap, rfl, hc, hm, h⟩ := h
  cases l with
  | nil =>
    refine (Tryz.strings_Join_none a cap ⟨#[c]⟩ w).mono ?_
    rintro e w' ⟨rfl, rfl⟩
    exact ⟨rfl, Keeps.refl _ _⟩
  | cons x r =>
    obtain ⟨bk, o, rfl, hbN, h'⟩ := h (by simp)
    have hj := join_le hM c
    generalize x :: r = l at *
    have e0 : (l.map bs).map (·.data.toList) = l := by simp [Function.comp_def, bs_list]
    have hl : (l.map bs).length = l.length := by simp
    have hlen : l.length ≤ l.length * (M + 1) := Nat.le_mul_of_pos_right _ (by omega)
    by_cases hl0 : l = []
    · subst hl0
      refine (Tryz.strings_Join_none _ cap ⟨#[c]⟩ w).mono ?_
      rintro e w' ⟨rfl, rfl⟩
      exact ⟨rfl, Keeps.refl _ _⟩
    · have hbk : bk < w.heap.size := World.block_lt_of_cell? _ _ (h' 0 (List.length_pos_iff.2 hl0))
      have c := Tryz.strings_Join bk o cap (l.map bs) ⟨#[c]⟩ w (fun j y hy => ?_) hbk (by rw [hl]; omega) (by rw [hl]; exact hc) (by rw [e0]; show (Lib.join l [c]).length ≤ _; omega)
      · rw [hl, e0] at c
        exact c.mono fun e w' ⟨he, hb⟩ => ⟨he, Keeps.ofBelow hb⟩
      · rw [List.getElem?_map] at hy
        cases hq : l[j]? with
        | none => simp [hq] at hy
        | some z =>
          simp [hq] at hy
          subst hy
          have hjl : j < l.length := (List.getElem?_eq_some_iff.1 hq).1
          have := h' j hjl
          rw [List.getD_eq_getElem?_getD, hq] at this
          exact this
def rdRet (x : Ev) (l : Wds) : Option (Ev × Wds) := match rdWho l with
  | none => none
  | some (c, i, r) => if psE (Lib.join r [32]) = 0 then some ({ x with c := c, id := i, rk := psK (Lib.join r [32]), rv := psV (Lib.join r [32]) }, []) else none
set_option maxHeartbeats 8000000 in
set_option maxRecDepth 100000 in
theorem returned6_any (w0 w : World) (b r g : Nat) (l : Wds) (x : Ev) (tx rd : Value) (h : Rdt b r g w0 w l x tx rd) (hlen : (Lib.join l [32]).length ≤ 1000000) :
    Calls Tryz.prog 52 #[.pointer (some ⟨r, 0, none⟩), .pointer (some ⟨b, 0, none⟩)] w (Fills b r g w0 (rdRet x l) tx rd) := by
  have hw := who6_any w0 w b r g l x tx rd h
  obtain ⟨O, hO⟩ : ∃ O, rdRet x l = O := ⟨_, rfl⟩
  rw [hO]
  have HO := Lib.hid hO
  clear h hO
  go_enter Tryz.func52, Tryz.ntmps52
  go_wp2_with fail
  refine hw.mono ?_; intro e w1 hR
  clear hw
  cases e1 : rdWho l with
  | none =>
    rw [e1] at hR
    obtain ⟨rfl, hk⟩ := hR
    obtain rfl : O = none := by rw [← HO.out]; simp [rdRet, e1]
    unfold PanicE
    clear HO
    go_wp2_with fail
    exact ⟨rfl, rfl, hk⟩
  | some p =>
    obtain ⟨c, i, l1⟩ := p
    rw [e1] at hR
    obtain ⟨rfl, h1⟩ := hR
    have hjl : (Lib.join l1 [32]).length ≤ 1000000 := by
      obtain ⟨el, _⟩ := rdWho_ok e1
      rw [el] at hlen
      by_cases hl1 : l1 = []
      · subst hl1; simp [Lib.join_nil]
      · rw [join_cons_ne _ _ _ (by simp), join_cons_ne _ _ _ hl1] at hlen
        simp only [List.length_append] at hlen
        omega
    have hO2 : O = if psE (Lib.join l1 [32]) = 0 then some ({ x with c := c, id := i, rk := psK (Lib.join l1 [32]), rv := psV (Lib.join l1 [32]) }, []) else none := by rw [← HO.out]; simp [rdRet, e1]
    clear HO e1 hlen
    have HO := Lib.hid hO2
    clear hO2
    obtain ⟨v, hv, hs⟩ := h1.rdr.cell
    have c0 : w1.cell? ⟨r, 0, none⟩ = some v := by simp [World.cell?, hv]
    have hj := Join6_any w1 v l1 32 hs.strs h1.rdr.ws (by have h3 : l1.length ≤ 1000 := h1.rdr.ln; omega)
    generalize Lib.join l1 [32] = J at *
    have hp := fun w hG => Parse_any w hG (bs J) (by rw [bs_size]; exact hjl)
    rw [bs_list] at hp
    have HX := Lib.hid h1
    clear h1 hv hs hjl
    generalize psK J = K at *
    generalize psV J = V at *
    rcases psE_two J with hE | hE
    · rw [hE] at hp
      obtain rfl : O = some ({ x with c := c, id := i, rk := K, rv := V }, []) := by rw [HO.out, if_pos hE]
      clear HO hE
      go_wp2_with fail
      refine hj.mono ?_; rintro e w2 ⟨rfl, hk⟩
      have H2 := Lib.hid (HX.out.news hk)
      clear HX hk c0 hj
      go_wp2_with fail
      refine (hp _ H2.out.rdr.glob.r).mono ?_; rintro e w3 ⟨rfl, hk⟩
      have H3 := Lib.hid (H2.out.news hk)
      clear H2 hp hk
      go_wp2_with ((with_reducible apply wpList_put_row (T := 26) 2); exact rfl; exact rfl; exact heap_alloc_at (by simp); exact ⟨rfl, rfl⟩; kernel_rfl; exact rfl)
      intro W3 hb hk
      have hkk := ((Keeps.refl [] w3).alloc _).trans hk (fun g hg => .inr (by simp at hg; omega))
      have H4 := Lib.hid (H3.out.news hkk)
      obtain ⟨c0, c1, cl⟩ := cell2 hb
      clear H3 hk hkk
      go_wp2_with fail
      refine (need_yes _).mono ?_; rintro e w4 ⟨rfl, rfl⟩
      go_wp2_with ((with_reducible apply wpList_put_res); exact rfl; exact rfl; exact H4.out.ev)
      intro W5 hb5 hk5
      have H5 := Lib.hid (H4.out.puts hb5 hk5)
      obtain ⟨u, hu, _⟩ := H5.out.rdr.cell
      have d0 : W5.cell? ⟨r, 0, none⟩ = some u := by simp [World.cell?, hu]
      have hfz : W5.frozen? ⟨r, 0, none⟩ = false := by simp [World.frozen?, hu]
      have HU := Lib.hid hu
      clear H4 hb hb5 hk5 c0 c1 cl hu
      go_wp2_with fail
      go_end0
      exact ⟨rfl, H5.out.empty ((Keeps.refl [r] W5).setCell _ _ (.inl (by simp))) (put1 HU.out _)⟩
    · rw [hE] at hp
      obtain rfl : O = none := by rw [HO.out, if_neg (by omega)]
      clear HO hE
      go_wp2_with fail
      refine hj.mono ?_; rintro e w2 ⟨rfl, hk⟩
      have H2 := Lib.hid (HX.out.news hk)
      clear HX hk c0 hj
      go_wp2_with fail
      refine (hp _ H2.out.rdr.glob.r).mono ?_; rintro e w3 ⟨rfl, hk⟩
      have H3 := Lib.hid (H2.out.news hk)
      clear H2 hp hk
      go_wp2_with ((with_reducible apply wpList_put_row (T := 26) 2); exact rfl; exact rfl; exact heap_alloc_at (by simp); exact ⟨rfl, rfl⟩; kernel_rfl; exact rfl)
      intro W3 hb hk
      have hkk := ((Keeps.refl [] w3).alloc _).trans hk (fun g hg => .inr (by simp at hg; omega))
      have H4 := Lib.hid (H3.out.news hkk)
      clear H3 hk hkk hb
      go_wp2_with fail
      refine (need_no _).mono ?_; rintro e w4 ⟨rfl, rfl⟩
      unfold PanicE
      go_wp2_with fail
      exact ⟨rfl, rfl, H4.out.bad (Keeps.refl _ _)⟩
end Go.Proofs.YtffldnjjijckcaaGreatDoor
