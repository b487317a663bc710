/-
  The program's sets: slices.Clone; Without.
-/
import Derived.Test.YtbeniihbejakaaaDoorBD00
import Derived.Laws.CopyOwn
import Derived.Test.YtbeniihbejakaaaDoorBD17
set_option linter.unusedSimpArgs false
set_option linter.unusedVariables false
namespace Go.Proofs.YtbeniihbejakaaaDoor
open Go.RowKit
set_option maxRecDepth 100000
set_option maxHeartbeats 4000000
section
variable {ops : Array Oper} {S : World → Prop} {o : Oper} {a : Act}
theorem yields_indexW0 (hw : Region.wanted o (yielded ops a.tmps) = true) (x y : Operand) (ho : o.op = .indexAddr 25 x y) (g n c k : Nat) (hx : a.eval x = .slice (some ⟨g, 0, none⟩) n c) (hy : a.eval y = .int .i64 k) (hk : k < n) :
    YieldsIf Tryd.prog ops S o (.pointer (some ⟨g, k, none⟩)) a :=
  Or.inl ⟨hw, by
    have hk2 : (k : Int) < n := by omega
    intro w _
    unfold execOp
    simp only [ho, hx, hy]
    go_simp⟩
end
theorem eql_u64s (w : World) (a : Option Addr) (n c : Nat) : (binOp .eql 25 (.slice a n c) (.slice none 0 0)).run Tryd.prog w = .ok (.bool a.isNone) w := Lib.run_eql_slice_nil w _ _ a n c 0 0 Tryd.underlying25
theorem clone64_any (w : World) {v : Value} {l : List Nat} (h : rkW64.In w.heap.size w v l) (hn : l.length ≤ 1000000) :
    Calls Tryd.prog 46 #[v] w fun e w' => ∃ v', e = .returned v' ∧ rkW64.Own w.heap.size w' v' l ∧ Keeps [] w w' := by
  obtain ⟨a, cap, rfl, hc, hm, hI⟩ := id h
  cases a with
  | none =>
    have hl : l = [] := by
      by_cases e : l = []
      · exact e
      · obtain ⟨bk, o, e2, -⟩ := hI e
        cases e2
    subst hl
    have heq := fun w => eql_u64s w none 0 cap
    clear h hI
    simp only [List.length_nil]
    go_enter Tryd.func46, Tryd.ntmps46
    go_wp2_with fail
    go_ret
    exact ⟨_, rfl, RK.Own.nil rkW64 _ _, Keeps.refl _ _⟩
  | some ad =>
    have heq := fun w => eql_u64s w (some ad) l.length cap
    have hka : Keeps [] w (w.alloc (.cells #[] 64)) := (Keeps.refl [] w).alloc (.cells #[] 64)
    have ho : rkW64.Own w.heap.size (w.alloc (.cells #[] 64)) (.slice (some ⟨w.heap.size, 0, none⟩) 0 0) [] := ⟨by simp [RK.row], .inr ⟨w.heap.size, 0, #[], rfl, Nat.le_refl _, heap_alloc_new w _, Nat.le_refl _, by decide, by simp, by simp [RK.row]⟩⟩
    obtain ⟨v', w', hrun, hown, hk, -⟩ := rkW64.appendIn (w.alloc (.cells #[] 64)) w.heap.size hka.size _ [] ho (h.new hka (Nat.le_refl _)) (by simp; omega)
    have HR := Lib.hid (show (Builtin.append_ #[25, 25] 25 #[.slice (some ⟨w.heap.size, 0, none⟩) 0 0, .slice (some ad) l.length cap]).run Tryd.prog (w.alloc (.cells #[] 64)) = .ok v' w' from hrun)
    have HO := Lib.hid hown
    have HK := Lib.hid (show Keeps [] w w' from hka.trans hk (fun q hq => .inr (by simp [own, Value.ownBlock] at hq; omega)))
    clear h hI hka ho hrun hown hk
    go_enter Tryd.func46, Tryd.ntmps46
    go_wp2_with ((with_reducible refine wpList_app (.slice (some ⟨w.heap.size, 0, none⟩) 0 0) (.slice (some ad) l.length cap) ?_ ?_ HR.out ?_); exact rfl; exact rfl)
    go_ret
    exact ⟨_, rfl, HO.out, HK.out⟩
theorem own_at {base : Nat} {w : World} {v : Value} {L : List Nat} (h : rkW64.Own base w v L) (hn : 0 < L.length) : ∃ g cap, v = .slice (some ⟨g, 0, none⟩) L.length cap ∧ base ≤ g ∧ g < w.heap.size := by
  rcases h.2 with ⟨rfl, h0⟩ | ⟨g, cap, cur, rfl, hb, hh, -⟩
  · omega
  · exact ⟨g, cap, rfl, hb, (Array.getElem?_eq_some_iff.1 hh).1⟩
/-- A number taken out of the words. -/
theorem WIn.without {W : List Nat} {S : List Int} (h : WIn W S) {n : Nat} (hn : n / 64 < W.length) : WIn (W.set (n / 64) (without64 (W.getD (n / 64) 0) (2 ^ (n % 64)))) (withoutB S n) :=
  ⟨set_lt h.lt (without_lt (h.get _)), withoutB_in h.set _, fun m => by
    rw [mem_withoutB, h.tell, wBit_set hn]
    by_cases e : m / 64 = n / 64
    · rw [if_pos e, without_bit, Nat.testBit_two_pow, ← e]
      unfold wBit
      by_cases e2 : n % 64 = m % 64
      · have : m = n := by omega
        simp [this]
      · have : (m : Int) ≠ (n : Int) := by omega
        simp [this, e2]
    · rw [if_neg e]
      have : (m : Int) ≠ (n : Int) := by intro h; apply e; rw [show m = n by omega]
      simp [this]⟩
theorem withoutB_no {S : List Int} {n : Int} (h : n ∉ S) : withoutB S n = S := List.filter_eq_self.2 fun x hx => decide_eq_true fun e => h (e ▸ hx)
theorem btWithout_any (w : World) (st : Value) (S : List Int) (n : Int) (h : BtAt w st S) (h64 : I64 n) : Calls Tryd.prog 26 #[st, .int .i64 n] w fun e w' => ∃ st', e = .returned st' ∧ BtAt w' st' (withoutB S n) ∧ Keeps [] w w' ∧ FSub (btFoot st') (btFoot st) w.heap.size := by
  have HHAS := Lib.hid (fun w' (hk : Keeps [] w w') => btHas_any w' st S n (h.keep hk (by simp)) h64)
  have HKEEP := Lib.hid (fun w' (hk : Keeps [] w w') => h.keep hk (by simp))
  obtain ⟨v, W, rfl, hI, ho, hW, hlast⟩ := h
  have hW1 := hW.len hlast
  obtain ⟨a, c, rfl, hc, hm, -⟩ := id hI
  have HI := Lib.hid hI; have HW := Lib.hid hW
  have H0 := Lib.hid (heap_alloc_new w (.cells #[.slice a W.length c] 27))
  obtain ⟨X, hX⟩ : ∃ X, X = w.alloc (.cells #[.slice a W.length c] 27) := ⟨_, rfl⟩
  rw [← hX] at H0
  have HKX := Lib.hid (show Keeps [] w X from by rw [hX]; exact (Keeps.refl _ _).alloc _)
  have hXs : X.heap.size = w.heap.size + 1 := by rw [hX, World.size_alloc]
  have H1 := Lib.hid (heap_alloc_new X (.cells btZA 27))
  obtain ⟨Z, hZ⟩ : ∃ Z, Z = X.alloc (.cells btZA 27) := ⟨_, rfl⟩
  rw [← hZ] at H1
  have HKXZ := Lib.hid (show Keeps [] X Z from by rw [hZ]; exact (Keeps.refl _ _).alloc _)
  have HKZ := Lib.hid (HKX.out.trans HKXZ.out (FSub.refl _ _))
  have HB0 := Lib.hid (HKXZ.out.heap H0.out (by simp))
  have HOK := Lib.hid (btOk1 a W.length c)
  have HR0 := Lib.hid (block_range (A := [.slice a W.length c]) HB0.out)
  clear hI hW ho hlast
  go_enter Tryd.func26, Tryd.ntmps26
  go_wp2_with ((with_reducible refine wpList_loadBt (g := w.heap.size) HOK.out ?_ ?_ HR0.out ?_); exact rfl; exact rfl)
  rw [← hX, ← hZ]
  rw [hXs] at H1
  have HZS := Lib.hid (show w.heap.size + 2 ≤ Z.heap.size from by rw [hZ, World.size_alloc, hXs]; exact Nat.le_refl _)
  clear hX hZ hXs
  refine (HHAS.out Z HKZ.out).mono ?_
  rintro e w1 ⟨rfl, hk1⟩
  have HK1 := Lib.hid (HKZ.out.trans hk1 (FSub.refl _ _))
  have HB1 := Lib.hid (hk1.heap HB0.out (by simp)); have HN1 := Lib.hid (hk1.heap H1.out (by simp))
  have HS1 := Lib.hid (Nat.le_trans HZS.out hk1.size)
  clear hk1 HR0
  by_cases hin : n ∈ S
  case neg =>
    have HWO := Lib.hid (withoutB_no hin)
    rw [decide_eq_false hin]
    have HR1 := Lib.hid (block_range (A := [.slice a W.length c]) HB1.out)
    go_wp2_with (first | ((with_reducible refine wpList_loadBt (g := w.heap.size) HOK.out ?_ ?_ HR1.out ?_); exact rfl; exact rfl) | ((with_reducible refine wpList_putBt HOK.out btZ_ok ?_ ?_ HN1.out ?_); exact rfl; exact rfl))
    intro W2 hW2 hk2
    have HW2 := Lib.hid hW2; have HK2 := Lib.hid hk2
    clear hW2 hk2
    go_wp2_with fail
    try simp only [Exit.inBlock, Exit.then]
    have hks : Keeps [] w W2 := HK1.out.trans HK2.out (fun q hq => .inr (by simp at hq; omega))
    exact bodyPost_ret (results_sk skB rfl _ _ (w.heap.size + 1) HOK.out rfl HW2.out) rfl ⟨_, rfl, by rw [HWO.out]; exact HKEEP.out _ hks, hks, FSub.refl _ _⟩
  obtain ⟨N, rfl⟩ : ∃ N : Nat, n = (N : Int) := ⟨n.toNat, by have := (HW.out.set.of hin).1; omega⟩
  have hN5 := (HW.out.set.of hin).2
  have hNl : N / 64 < W.length := by have := wBit_lt ((HW.out.tell N).1 hin); omega
  rw [decide_eq_true hin]
  have hc1 := cell_lit HB1.out 0 (v := .slice a W.length c) rfl
  have HCL := Lib.hid (clone64_any w1 (v := .slice a W.length c) ((HI.out.new HK1.out (Nat.le_refl _)).more HK1.out.size) (by omega))
  clear hin
  go_wp2_with fail
  refine HCL.out.mono ?_
  rintro e w2 ⟨v2, rfl, hown, hk2⟩
  obtain ⟨G, cap, rfl, hG, hG2⟩ := own_at hown (by omega)
  have HOW := Lib.hid hown; have HK2 := Lib.hid (HK1.out.trans hk2 (FSub.refl _ _)); have HN2 := Lib.hid (hk2.heap HN1.out (by simp))
  have HG := Lib.hid (show w.heap.size + 2 ≤ G ∧ G < w2.heap.size from ⟨Nat.le_trans HS1.out hG, hG2⟩)
  clear hown hk2 hG hG2 hc1 HCL
  obtain ⟨V, hV⟩ : ∃ V, V = w2 := ⟨_, rfl⟩
  obtain ⟨n, hn⟩ : ∃ n, n = W.length := ⟨_, rfl⟩
  obtain ⟨j, hj⟩ : ∃ j, j = N / 64 := ⟨_, rfl⟩
  have hdv : (N : Int).tdiv 64 = (j : Int) := by rw [tdiv64, hj]
  have hdv2 : (N : Int) / 64 = (j : Int) := by omega
  have hwq : IntKind.i64.wrap (j : Int) = (j : Int) := IntWalk.i64_in _ ⟨by omega, by omega⟩
  have hjn : j < n := by omega
  have HB := Lib.hid (fun w => btBit_any w N)
  have HWN := Lib.hid (hj ▸ HW.out.without hNl)
  have HLN := Lib.hid hn
  have hlen2 : (W.set j (without64 (W.getD j 0) (2 ^ (N % 64)))).length = n := by rw [List.length_set, hn]
  obtain ⟨x, hx⟩ : ∃ x, x = W.getD j 0 := ⟨_, rfl⟩
  have HPUT := Lib.hid (fun (Y : World) (h : Keeps [] V Y) (z : Nat) => by
    have h2 := W64.put (HOW.out.keeps (hV ▸ h) (by simp)) j (by omega) z
    rw [← hx] at h2
    exact h2)
  have e1 := bits_andNot_u64 x (2 ^ (N % 64)) (by rw [hx]; exact HW.out.get j) (pow_lt64 (by omega))
  rw [← hx] at HWN hlen2
  obtain ⟨z, hz⟩ : ∃ z, z = without64 x (2 ^ (N % 64)) := ⟨_, rfl⟩
  rw [← hz] at e1 HWN hlen2
  rw [← hn] at HPUT ⊢
  have HLEN := Lib.hid (show (W.set j z).length ≤ 10000 from by rw [hlen2, hn]; omega)
  clear hlen2
  subst hV
  clear hz hx hj hn hNl
  generalize 2 ^ (N % 64) = pw at *
  obtain ⟨S0, hS0⟩ : ∃ S0 : World → Prop, S0 = fun y => Keeps [G] V y := ⟨_, rfl⟩
  have HSE := Lib.hid hS0
  have hSD : S0 V.drew := by rw [hS0]; exact (Keeps.refl _ _).drew
  clear hS0
  go_wp2_with fail
  refine wp_region_noPanic ?_
  refine wp_region_held_drew (S := S0) (by kernel_rfl) hSD (fun hHeld => ?_)
  have HY := Lib.hid ((Keeps.refl [] V).drew)
  generalize V.drew = YC at *
  refine tw 0 (h := ?_)
  refine tw 1 (h := ?_)
  refine tw 2 (h := ?_)
  refine tk 3 (y := by exact yields_indexW0 rfl _ _ rfl G _ _ j rfl rfl hjn) (h := ?_)
  refine tw 5 (h := ?_)
  iterate 2
    all_goals
      first
        | apply wpAnyH_ready (rs := [4, 6])
          · decide +kernel
          · simp
          refine acn ?_ (acn ?_ (AllReadyH.nil))
        | apply wpAnyH_ready (rs := [4])
          · decide +kernel
          · simp
          refine acn ?_ (AllReadyH.nil)
        | apply wpAnyH_ready (rs := [6])
          · decide +kernel
          · simp
          refine acn ?_ (AllReadyH.nil)
      all_goals
        intro K hK
        rw [if_pos (by rfl)]
        first
        | refine wp_loadW rfl (g := G) (j := j) (z := .int .u64 (x : Int)) rfl ((HPUT.out YC HY.out 0).2.2) ?_
          refine hK.out _ _ (by rw [HSE.out]; exact HY.out.more (by simp)) (fun hHeld => ?_); clear hK K; try simp only [Act.put, lsA, lsZ, lsS]
        | refine wp_call9 35 _ _ rfl [.int .i64 (N : Int)] rfl Tryd.func35 (by kernel_rfl) (by kernel_rfl) ((HB.out _).mono ?_)
          rintro e YC ⟨rfl, hk⟩
          refine ⟨_, rfl, ?_⟩
          replace HY := Lib.hid (HY.out.trans hk (FSub.refl _ _))
          clear hk
          refine hK.out _ _ (by rw [HSE.out]; exact HY.out.more (by simp)) (fun hHeld => ?_); clear hK K; try simp only [Act.put, lsA, lsZ, lsS]
  all_goals
    refine tw 7 (h := ?_)
    refine tk 8 (y := by exact yields_indexW0 rfl _ _ rfl G _ _ j rfl rfl hjn) (h := ?_)
    refine rp 9 (h := fun K hK => ?_)
    refine wp_putW rfl (g := G) (j := j) (z := (z : Int)) (old := (x : Int)) rfl rfl ((HPUT.out YC HY.out 0).2.2) ((HPUT.out YC HY.out 0).2.1) ?_
    have HOZ := Lib.hid (HPUT.out YC HY.out z).1
    have HYE := Lib.hid ((HY.out.more (G := [G]) (by simp)).setCell ⟨G, j, none⟩ (.int .u64 (z : Int)) (.inl (by simp)))
    refine hK.out _ _ (by rw [HSE.out]; exact HYE.out) (fun hHeld => ?_); clear hK K; try simp only [Act.put, lsA, lsZ, lsS]
    refine wpAnyH_done (by kernel_rfl) ?_ _
    refine NoPanic.normal ?_
    generalize YC.setCell ⟨G, j, none⟩ (.int .u64 (z : Int)) = YE at *
  all_goals
    have hHY := HYE.out
    have HKE := Lib.hid (show Keeps [] w YE from HK2.out.trans HYE.out (fun q hq => by have := HG.out.1; simp at hq; exact .inr (by omega)))
    have HNE := Lib.hid (HYE.out.heap HN2.out (by have := HG.out.1; simp; omega))
    have HIE := Lib.hid (HOZ.out.in_)
    have HGE := Lib.hid (show ∀ q ∈ own (.slice (some ⟨G, 0, none⟩) n cap), q = G from fun q hq => by simpa [own, Value.ownBlock] using hq)
    have HMD := Lib.hid (btMade_any YE HIE.out (fun q hq => by rw [HGE.out q hq]; exact Nat.lt_of_lt_of_le HG.out.2 HYE.out.size) HWN.out HLEN.out)
    clear hHY HPUT
    go_wp2_with fail
    refine HMD.out.mono ?_
    rintro e w4 ⟨st, rfl, hat, hk4, hft⟩
    obtain ⟨A, rfl, hA⟩ := hat.cells
    have HAT := Lib.hid hat; have HK4 := Lib.hid (HKE.out.trans hk4 (FSub.refl _ _)); have HN4 := Lib.hid (hk4.heap HNE.out (by simp)); have HOA := Lib.hid hA
    have HFT := Lib.hid (show ∀ q ∈ btFoot (.agg A.toArray), w.heap.size + 2 ≤ q from fun q hq => by
      rcases hft q hq with h | h
      · rw [HGE.out q h]; exact HG.out.1
      · exact Nat.le_trans (Nat.le_trans HG.out.1 (Nat.le_of_lt HG.out.2)) (Nat.le_trans HYE.out.size h))
    clear hat hk4 hft hA HMD HKE HNE HIE HOZ HYE
    go_wp2_with ((with_reducible refine wpList_putBt HOA.out btZ_ok ?_ ?_ HN4.out ?_); exact rfl; exact rfl)
    intro W2 hW2 hk2
    have HW2 := Lib.hid hW2; have HK5 := Lib.hid hk2
    clear hW2 hk2
    go_wp2_with fail
    try simp only [Exit.inBlock, Exit.then]
    have hks : Keeps [] w W2 := HK4.out.trans HK5.out (fun q hq => .inr (by simp at hq; omega))
    exact bodyPost_ret (results_sk skB rfl _ _ (w.heap.size + 1) HOA.out rfl HW2.out) rfl ⟨_, rfl, HAT.out.keep HK5.out (fun q hq => by have := HFT.out q hq; simp; omega), hks, fun q hq => .inr (by have := HFT.out q hq; omega)⟩
end Go.Proofs.YtbeniihbejakaaaDoor
/-
  The program's sets: copies; With.
-/
namespace Go.Proofs.YtbeniihbejakaaaDoor
open Go.RowKit
set_option maxRecDepth 100000
set_option maxHeartbeats 4000000
theorem rowW_map : ∀ L : List Nat, rkW64.row L = L.map fun x : Nat => Value.int .u64 (x : Int)
  | [] => rfl
  | x :: r => by
    show wC x ++ rkW64.row r = _
    rw [rowW_map r]; rfl
theorem lt_of_own {base : Nat} {w : World} {g n c : Nat} {L : List Nat} (h : rkW64.Own base w (.slice (some ⟨g, 0, none⟩) n c) L) (_ : 0 < L.length) : g < w.heap.size := by
  have := own_new h g (by simp [own, Value.ownBlock]); omega
theorem und_u64s : Tryd.prog.underlying 25 = some (.slice 64) := Tryd.underlying25
theorem size_u64 : (Tryd.prog.info? 64).map (·.size) = some 1 := by
  have h := Tryd.infoU64W
  cases hq : Tryd.prog.info? 64 with
  | none => simp [hq] at h
  | some i => simp [hq] at h; simp; exact h.2.1
section
variable {ops : Array Oper} {rest : List Oper} {a : Act} {w : World} {Q : Exit → Act → World → Prop}
theorem wpList_copyW {dst : Option Tmp} {ty : TypeId} {pos : String} {after : Array Edge} {d s : Operand} {base N g n cap : Nat} {u : Value} {L M : List Nat} (hO : rkW64.Own base w (.slice (some ⟨g, 0, none⟩) n cap) L) (hI : rkW64.In N w u M) (hl : M.length ≤ n)
    (hd : a.eval d = .slice (some ⟨g, 0, none⟩) n cap) (hs : a.eval s = u)
    (h : ∀ w', rkW64.Own base w' (.slice (some ⟨g, 0, none⟩) n cap) (M ++ L.drop M.length) → Keeps [g] w w' → wpList Tryd.prog ops Q rest (a.put dst (goInt M.length)) w') :
    wpList Tryd.prog ops Q ({ dst := dst, op := .call { callee := .builtin .copy, args := #[d, s], argTypes := #[25, 25] }, type := ty, pos := pos, after := after, guard := none } :: rest) a w := by
  have hnL : L.length = n := by obtain ⟨_, _, e, _⟩ := hO.shape; injection e with _ e; exact e.symm
  obtain ⟨au, cu, rfl, hcu, hmu, hI⟩ := hI
  by_cases hM : M = []
  · subst hM
    refine wpList_copy_nothing rfl d s _ _ rfl _ und_u64s size_u64 _ _ _ _ _ _ hd hs (by simp) ?_
    exact h w (by simpa using hO) (Keeps.refl _ _)
  · obtain ⟨bk, o, rfl, hb, hj⟩ := hI hM
    rcases hO.2 with ⟨e, _⟩ | ⟨g', cap', cur, e, hb', hh, hcc, hm, hcs, htk⟩
    · cases e
    · simp only [Value.slice.injEq, Option.some.injEq, Addr.mk.injEq, and_true, true_and] at e
      obtain ⟨rfl, hn2, rfl⟩ := e
      rw [show rkW64.s = 1 from rfl, Nat.mul_one] at hcs htk
      have hml : 0 < M.length := List.length_pos_iff.2 hM
      refine wpList_copy_own rfl d s _ _ rfl _ und_u64s size_u64 g 0 n cap ⟨bk, o, none⟩ M.length cu hd hs cur _ hh (rkW64.row M) (by rw [rowW_map, List.length_map]; show _ = min _ _; omega) (fun j v hv => by rw [Addr.add_mid]; exact rkW64.row_cells M o hj j v hv) (by rw [rowW_map, List.length_map]; omega) (fun v hv => by
        rw [rowW_map] at hv
        obtain ⟨x, -, rfl⟩ := List.mem_map.1 hv; rfl) ?_
      rw [show (rkW64.row M).length = M.length from by rw [rowW_map, List.length_map]]
      have hlen2 : (M ++ L.drop M.length).length = n := by rw [List.length_append, List.length_drop]; omega
      refine h _ ⟨by rw [rkW64.row_len], .inr ⟨g, cap, _, by rw [hlen2], hb', setRow_heap w g _ _ _ (0, 0) hh, by omega, hm, ?_, ?_⟩⟩ ((Keeps.refl [g] w).setRow g _ (.inl (by simp)))
      · rw [show rkW64.s = 1 from rfl, Nat.mul_one]
        simp [rowW_map]; omega
      · rw [show rkW64.s = 1 from rfl, Nat.mul_one, hlen2, rowW_map, rowW_map, Nat.zero_add, List.take_zero, List.nil_append, List.map_append, List.map_drop]
        rw [rowW_map, hnL] at htk
        rw [← htk]
        show List.take n (M.map (fun x : Nat => Value.int .u64 (x : Int)) ++ List.drop M.length cur.toList) = _
        rw [List.take_append, List.length_map, List.take_of_length_le (by simp; omega), List.drop_take]
end
theorem max_len (m j : Nat) : (max (m : Int) ((j : Int) + 1)) = ((max m (j + 1) : Nat) : Int) := by omega
/-- A number put into the words. -/
theorem WIn.with_ {W : List Nat} {S : List Int} (h : WIn W S) {n : Nat} (hn : n ≤ 65535) (d : Nat) (hd : n / 64 < W.length + d) :
    WIn ((W ++ List.replicate d 0).set (n / 64) ((W ++ List.replicate d 0).getD (n / 64) 0 ||| 2 ^ (n % 64))) (withB S n) :=
  have hl : ∀ x ∈ W ++ List.replicate d 0, x < 18446744073709551616 := fun x hx => by
    rcases List.mem_append.1 hx with h1 | h1
    · exact h.lt x h1
    · rw [(List.mem_replicate.1 h1).2]; decide
  have hg : (W ++ List.replicate d 0).getD (n / 64) 0 < 18446744073709551616 := by
    rw [getW_in _ 0 (by simpa using hd)]
    exact hl _ (List.getElem_mem _)
  ⟨set_lt hl (or_lt64 hg (pow_lt64 (by omega))), withB_in h.set _, fun m => by
    rw [mem_withB, h.tell, wBit_set (by simpa using hd), ← wBit_app_zero W d m]
    by_cases e : m / 64 = n / 64
    · rw [if_pos e, or_bit, ← e]
      unfold wBit
      by_cases e2 : n % 64 = m % 64
      · have : m = n := by omega
        simp [this]
        omega
      · have : (m : Int) ≠ (n : Int) := by omega
        simp [this, e2]
    · rw [if_neg e]
      have : (m : Int) ≠ (n : Int) := by intro h; apply e; rw [show m = n by omega]
      simp [this]⟩
theorem WIn.with_last {W : List Nat} (hl : W.getLast? ≠ some 0) {n d : Nat} (hd : d = max W.length (n / 64 + 1) - W.length) : ((W ++ List.replicate d 0).set (n / 64) ((W ++ List.replicate d 0).getD (n / 64) 0 ||| 2 ^ (n % 64))).getLast? ≠ some 0 := by
  have hor : ((W ++ List.replicate d 0).getD (n / 64) 0 ||| 2 ^ (n % 64)) ≠ 0 := fun e => by
    have := or_bit ((W ++ List.replicate d 0).getD (n / 64) 0) (n % 64) (n % 64)
    rw [e] at this; simp at this
  generalize ((W ++ List.replicate d 0).getD (n / 64) 0 ||| 2 ^ (n % 64)) = y at *
  have hlen : (W ++ List.replicate d 0).length = max W.length (n / 64 + 1) := by rw [List.length_append, List.length_replicate]; omega
  rw [List.getLast?_eq_getElem?, List.length_set, hlen]
  by_cases e : n / 64 = max W.length (n / 64 + 1) - 1
  · rw [← e, List.getElem?_set_self (by omega)]
    intro h; exact hor (by simpa using h)
  · rw [List.getElem?_set_ne (by omega)]
    have h0 : d = 0 := by omega
    subst h0
    rw [List.replicate_zero, List.append_nil]
    rw [List.getLast?_eq_getElem?] at hl
    rwa [show max W.length (n / 64 + 1) = W.length by omega]
theorem withB_in_ {S : List Int} (h : BIn S) {n : Int} (hh : ¬ (0 ≤ n ∧ n ≤ 65535) ∨ n ∈ S) : withB S n = S := by
  rcases hh with h1 | h1
  · exact if_neg h1
  · exact withB_has h h1
theorem btWith_any (w : World) (st : Value) (S : List Int) (n : Int) (h : BtAt w st S) (h64 : I64 n) : Calls Tryd.prog 25 #[st, .int .i64 n] w fun e w' => ∃ st', e = .returned st' ∧ BtAt w' st' (withB S n) ∧ Keeps [] w w' ∧ FSub (btFoot st') (btFoot st) w.heap.size := by
  have HHAS := Lib.hid (fun w' (hk : Keeps [] w w') => btHas_any w' st S n (h.keep hk (by simp)) h64)
  have HKEEP := Lib.hid (fun w' (hk : Keeps [] w w') => h.keep hk (by simp))
  obtain ⟨v, W, rfl, hI, ho, hW, hlast⟩ := h
  have hW1 := hW.len hlast
  obtain ⟨a, c, rfl, hc, hm, -⟩ := id hI
  have HI := Lib.hid hI; have HW := Lib.hid hW
  have H0 := Lib.hid (heap_alloc_new w (.cells #[.slice a W.length c] 27))
  obtain ⟨X, hX⟩ : ∃ X, X = w.alloc (.cells #[.slice a W.length c] 27) := ⟨_, rfl⟩
  rw [← hX] at H0
  have HKX := Lib.hid (show Keeps [] w X from by rw [hX]; exact (Keeps.refl _ _).alloc _)
  have hXs : X.heap.size = w.heap.size + 1 := by rw [hX, World.size_alloc]
  have H1 := Lib.hid (heap_alloc_new X (.cells btZA 27))
  obtain ⟨Z, hZ⟩ : ∃ Z, Z = X.alloc (.cells btZA 27) := ⟨_, rfl⟩
  rw [← hZ] at H1
  have HKXZ := Lib.hid (show Keeps [] X Z from by rw [hZ]; exact (Keeps.refl _ _).alloc _)
  have HKZ := Lib.hid (HKX.out.trans HKXZ.out (FSub.refl _ _))
  have HB0 := Lib.hid (HKXZ.out.heap H0.out (by simp))
  have HOK := Lib.hid (btOk1 a W.length c)
  have HR0 := Lib.hid (block_range (A := [.slice a W.length c]) HB0.out)
  have HLAST := Lib.hid hlast
  clear hI hW ho hlast HR0 h64
  go_enter Tryd.func25, Tryd.ntmps25
  go_wp2_with fail
  rw [← hX, ← hZ]
  rw [hXs] at H1
  have HZS := Lib.hid (show w.heap.size + 2 ≤ Z.heap.size from by rw [hZ, World.size_alloc, hXs]; exact Nat.le_refl _)
  clear hX hZ hXs
  by_cases hnb : 0 ≤ n ∧ n ≤ 65535
  case neg =>
    have HNB := Lib.hid (show decide (0 ≤ n ∧ n ≤ 65535) = false from decide_eq_false hnb)
    have HWO := Lib.hid (withB_in_ HW.out.set (.inl hnb))
    clear hnb
    refine (btIsNumber_any Z _).mono ?_
    rintro e Y0 ⟨rfl, hk0⟩
    rw [HNB.out]
    have HK0 := Lib.hid (HKZ.out.trans hk0 (FSub.refl _ _))
    have HB01 := Lib.hid (hk0.heap HB0.out (by simp)); have HN01 := Lib.hid (hk0.heap H1.out (by simp))
    have HS01 := Lib.hid (Nat.le_trans HZS.out hk0.size)
    clear hk0
    have HK1 := HK0; have HB1 := HB01; have HN1 := HN01
    have HR1 := Lib.hid (block_range (A := [.slice a W.length c]) HB1.out)
    go_wp2_with (first | ((with_reducible refine wpList_loadBt (g := w.heap.size) HOK.out ?_ ?_ HR1.out ?_); exact rfl; exact rfl) | ((with_reducible refine wpList_putBt HOK.out btZ_ok ?_ ?_ HN1.out ?_); exact rfl; exact rfl))
    intro W2 hW2 hk2
    have HW2 := Lib.hid hW2; have HK2 := Lib.hid hk2
    clear hW2 hk2
    go_wp2_with fail
    try simp only [Exit.inBlock, Exit.then]
    have hks : Keeps [] w W2 := HK1.out.trans HK2.out (fun q hq => .inr (by simp at hq; omega))
    exact bodyPost_ret (results_sk skB rfl _ _ (w.heap.size + 1) HOK.out rfl HW2.out) rfl ⟨_, rfl, by rw [HWO.out]; exact HKEEP.out _ hks, hks, FSub.refl _ _⟩
  have HNB := Lib.hid (show decide (0 ≤ n ∧ n ≤ 65535) = true from decide_eq_true hnb)
  by_cases hin : n ∈ S
  case pos =>
    have HIN := Lib.hid (show decide (n ∈ S) = true from decide_eq_true hin)
    have HWO := Lib.hid (withB_in_ HW.out.set (.inr hin))
    clear hin hnb
    refine (btIsNumber_any Z _).mono ?_
    rintro e Y0 ⟨rfl, hk0⟩
    rw [HNB.out]
    have HK0 := Lib.hid (HKZ.out.trans hk0 (FSub.refl _ _))
    have HB01 := Lib.hid (hk0.heap HB0.out (by simp)); have HN01 := Lib.hid (hk0.heap H1.out (by simp))
    have HS01 := Lib.hid (Nat.le_trans HZS.out hk0.size)
    clear hk0
    have HR01 := Lib.hid (block_range (A := [.slice a W.length c]) HB01.out)
    go_wp2_with ((with_reducible refine wpList_loadBt (g := w.heap.size) HOK.out ?_ ?_ HR01.out ?_); exact rfl; exact rfl)
    refine (HHAS.out Y0 HK0.out).mono ?_
    rintro e YC ⟨rfl, hk1⟩
    rw [HIN.out]
    have HK1 := Lib.hid (HK0.out.trans hk1 (FSub.refl _ _))
    have HB1 := Lib.hid (hk1.heap HB01.out (by simp)); have HN1 := Lib.hid (hk1.heap HN01.out (by simp))
    have HS1 := Lib.hid (Nat.le_trans HS01.out hk1.size)
    clear hk1
    have HR1 := Lib.hid (block_range (A := [.slice a W.length c]) HB1.out)
    go_wp2_with (first | ((with_reducible refine wpList_loadBt (g := w.heap.size) HOK.out ?_ ?_ HR1.out ?_); exact rfl; exact rfl) | ((with_reducible refine wpList_putBt HOK.out btZ_ok ?_ ?_ HN1.out ?_); exact rfl; exact rfl))
    intro W2 hW2 hk2
    have HW2 := Lib.hid hW2; have HK2 := Lib.hid hk2
    clear hW2 hk2
    go_wp2_with fail
    try simp only [Exit.inBlock, Exit.then]
    have hks : Keeps [] w W2 := HK1.out.trans HK2.out (fun q hq => .inr (by simp at hq; omega))
    exact bodyPost_ret (results_sk skB rfl _ _ (w.heap.size + 1) HOK.out rfl HW2.out) rfl ⟨_, rfl, by rw [HWO.out]; exact HKEEP.out _ hks, hks, FSub.refl _ _⟩
  have HIN := Lib.hid (show decide (n ∈ S) = false from decide_eq_false hin)
  obtain ⟨N, rfl⟩ : ∃ N : Nat, n = (N : Int) := ⟨n.toNat, by omega⟩
  have hN5 : N ≤ 65535 := by omega
  obtain ⟨j, hj⟩ : ∃ j, j = N / 64 := ⟨_, rfl⟩
  have hdv : (N : Int).tdiv 64 = (j : Int) := by rw [tdiv64, hj]
  have hdv2 : (N : Int) / 64 = (j : Int) := by omega
  have hwq : IntKind.i64.wrap (j : Int) = (j : Int) := IntWalk.i64_in _ ⟨by omega, by omega⟩
  have hwq1 : IntKind.i64.wrap ((j : Int) + 1) = (j : Int) + 1 := IntWalk.i64_in _ ⟨by omega, by omega⟩
  have hj1024 : j < 1024 := by omega
  have HJ := Lib.hid hj
  clear hin hnb hj
  refine (btIsNumber_any Z _).mono ?_
  rintro e Y0 ⟨rfl, hk0⟩
  rw [HNB.out]
  have HK0 := Lib.hid (HKZ.out.trans hk0 (FSub.refl _ _))
  have HB01 := Lib.hid (hk0.heap HB0.out (by simp)); have HN01 := Lib.hid (hk0.heap H1.out (by simp))
  have HS01 := Lib.hid (Nat.le_trans HZS.out hk0.size)
  clear hk0
  have HR01 := Lib.hid (block_range (A := [.slice a W.length c]) HB01.out)
  go_wp2_with ((with_reducible refine wpList_loadBt (g := w.heap.size) HOK.out ?_ ?_ HR01.out ?_); exact rfl; exact rfl)
  refine (HHAS.out Y0 HK0.out).mono ?_
  rintro e YC ⟨rfl, hk1⟩
  rw [HIN.out]
  have HK1 := Lib.hid (HK0.out.trans hk1 (FSub.refl _ _))
  have HB1 := Lib.hid (hk1.heap HB01.out (by simp)); have HN1 := Lib.hid (hk1.heap HN01.out (by simp))
  have HS1 := Lib.hid (Nat.le_trans HS01.out hk1.size)
  clear hk1
  obtain ⟨m, hm0⟩ : ∃ m, m = max W.length (j + 1) := ⟨_, rfl⟩
  have hmx : max (W.length : Int) ((j : Int) + 1) = (m : Int) := by rw [max_len, hm0]
  obtain ⟨w2, hmk, hown, hk2⟩ := run_makeW YC m (by omega)
  have HMK := Lib.hid hmk
  have hc1 := cell_lit HB1.out 0 (v := .slice a W.length c) rfl
  have HM0 := Lib.hid hm0
  have hc2 := cell_lit (hk2.heap HB1.out (by simp)) 0 (v := .slice a W.length c) rfl
  obtain ⟨G, hG⟩ : ∃ G, G = YC.heap.size := ⟨_, rfl⟩
  rw [← hG] at HMK hown
  have HG := Lib.hid (show w.heap.size + 2 ≤ G ∧ G < w2.heap.size from ⟨by rw [hG]; exact HS1.out, lt_of_own hown (by simp; omega)⟩)
  have HOW := Lib.hid hown; have HK2 := Lib.hid (HK1.out.trans hk2 (FSub.refl _ _)); have HN2 := Lib.hid (hk2.heap HN1.out (by simp))
  have hWm : W.length ≤ m := by omega
  clear hmk hm0 hown hk2 hG
  go_wp2_with (first | ((with_reducible refine wpList_makeW _ _ ?_ ?_ HMK.out ?_); exact rfl; exact rfl) | ((with_reducible refine wpList_copyW HOW.out ((HI.out.new HK2.out (Nat.le_refl _)).more HK2.out.size) hWm ?_ ?_ ?_); exact rfl; exact rfl))
  intro w3 hown3 hk3
  rw [List.drop_replicate] at hown3
  obtain ⟨d, hd⟩ : ∃ d, d = m - W.length := ⟨_, rfl⟩
  rw [← hd] at hown3
  have hdW : d = max W.length (N / 64 + 1) - W.length := by rw [hd, HM0.out, HJ.out]
  have hlt : N / 64 < W.length + d := by rw [← HJ.out]; have := HM0.out; omega
  have HWN := Lib.hid (HJ.out ▸ HW.out.with_ hN5 d hlt)
  have HWL := Lib.hid (HJ.out ▸ WIn.with_last HLAST.out hdW)
  obtain ⟨L, hL⟩ : ∃ L, L = W ++ List.replicate d 0 := ⟨_, rfl⟩
  rw [← hL] at hown3 HWN HWL
  have hLl : L.length = m := by rw [hL, List.length_append, List.length_replicate]; omega
  have hLt : ∀ i, L.getD i 0 < 18446744073709551616 := fun i => by
    by_cases e : i < L.length
    · rw [getW_in L 0 e]
      have h1 := List.getElem_mem e
      generalize L[i] = y at h1
      rw [hL] at h1
      rcases List.mem_append.1 h1 with h2 | h2
      · exact HW.out.lt _ h2
      · rw [(List.mem_replicate.1 h2).2]; decide
    · rw [getW_out L 0 (by omega)]; decide
  have HK3 := Lib.hid (HK2.out.trans hk3 (fun q hq => by have := HG.out.1; simp at hq; exact .inr (by omega)))
  have HN3 := Lib.hid (hk3.heap HN2.out (by have := HG.out.1; simp; omega))
  have HG3 := Lib.hid (show w.heap.size + 2 ≤ G ∧ G < w3.heap.size from ⟨HG.out.1, Nat.lt_of_lt_of_le HG.out.2 hk3.size⟩)
  have HOW3 := Lib.hid hown3
  obtain ⟨V, hV⟩ : ∃ V, V = w3 := ⟨_, rfl⟩
  have hjn : j < m := by omega
  have HB := Lib.hid (fun w => btBit_any w N)
  obtain ⟨x, hx⟩ : ∃ x, x = L.getD j 0 := ⟨_, rfl⟩
  have HPUT := Lib.hid (fun (Y : World) (h : Keeps [] V Y) (z : Nat) => by
    have h2 := W64.put (HOW3.out.keeps (hV ▸ h) (by simp)) j (by omega) z
    rw [← hx] at h2
    exact h2)
  have e1 := bits_or_u64_nat x (2 ^ (N % 64)) (by rw [hx]; exact hLt j) (pow_lt64 (by omega))
  rw [← hx] at HWN HWL
  obtain ⟨z, hz⟩ : ∃ z, z = x ||| 2 ^ (N % 64) := ⟨_, rfl⟩
  rw [← hz] at e1 HWN HWL
  subst hV
  clear hz hx hL hLt hown3 hk3 hd hdW hlt hc1 hc2
  generalize 2 ^ (N % 64) = pw at *
  obtain ⟨S0, hS0⟩ : ∃ S0 : World → Prop, S0 = fun y => Keeps [G] V y := ⟨_, rfl⟩
  have HSE := Lib.hid hS0
  have hSD : S0 V.drew := by rw [hS0]; exact (Keeps.refl _ _).drew
  clear hS0
  go_wp2_with fail
  refine wp_region_noPanic ?_
  refine wp_region_held_drew (S := S0) (by kernel_rfl) hSD (fun hHeld => ?_)
  have HY := Lib.hid ((Keeps.refl [] V).drew)
  generalize V.drew = YC at *
  refine tw 0 (h := ?_)
  refine tw 1 (h := ?_)
  refine tw 2 (h := ?_)
  refine tk 3 (y := by exact yields_indexW0 rfl _ _ rfl G _ _ j rfl rfl hjn) (h := ?_)
  refine tw 5 (h := ?_)
  iterate 2
    all_goals
      first
        | apply wpAnyH_ready (rs := [4, 6])
          · decide +kernel
          · simp
          refine acn ?_ (acn ?_ (AllReadyH.nil))
        | apply wpAnyH_ready (rs := [4])
          · decide +kernel
          · simp
          refine acn ?_ (AllReadyH.nil)
        | apply wpAnyH_ready (rs := [6])
          · decide +kernel
          · simp
          refine acn ?_ (AllReadyH.nil)
      all_goals
        intro K hK
        rw [if_pos (by rfl)]
        first
        | refine wp_loadW rfl (g := G) (j := j) (z := .int .u64 (x : Int)) rfl ((HPUT.out YC HY.out 0).2.2) ?_
          refine hK.out _ _ (by rw [HSE.out]; exact HY.out.more (by simp)) (fun hHeld => ?_); clear hK K; try simp only [Act.put, lsA, lsZ, lsS]
        | refine wp_call9 35 _ _ rfl [.int .i64 (N : Int)] rfl Tryd.func35 (by kernel_rfl) (by kernel_rfl) ((HB.out _).mono ?_)
          rintro e YC ⟨rfl, hk⟩
          refine ⟨_, rfl, ?_⟩
          replace HY := Lib.hid (HY.out.trans hk (FSub.refl _ _))
          clear hk
          refine hK.out _ _ (by rw [HSE.out]; exact HY.out.more (by simp)) (fun hHeld => ?_); clear hK K; try simp only [Act.put, lsA, lsZ, lsS]
  all_goals
    refine tw 7 (h := ?_)
    refine tk 8 (y := by exact yields_indexW0 rfl _ _ rfl G _ _ j rfl rfl hjn) (h := ?_)
    refine rp 9 (h := fun K hK => ?_)
    refine wp_putW rfl (g := G) (j := j) (z := (z : Int)) (old := (x : Int)) rfl rfl ((HPUT.out YC HY.out 0).2.2) ((HPUT.out YC HY.out 0).2.1) ?_
    have HOZ := Lib.hid (HPUT.out YC HY.out z).1
    have HYE := Lib.hid ((HY.out.more (G := [G]) (by simp)).setCell ⟨G, j, none⟩ (.int .u64 (z : Int)) (.inl (by simp)))
    refine hK.out _ _ (by rw [HSE.out]; exact HYE.out) (fun hHeld => ?_); clear hK K; try simp only [Act.put, lsA, lsZ, lsS]
    refine wpAnyH_done (by kernel_rfl) ?_ _
    refine NoPanic.normal ?_
    generalize YC.setCell ⟨G, j, none⟩ (.int .u64 (z : Int)) = YE at *
  all_goals
    have HKE := Lib.hid (show Keeps [] w YE from HK3.out.trans HYE.out (fun q hq => by have := HG.out.1; simp at hq; exact .inr (by omega)))
    have HNE := Lib.hid (HYE.out.heap HN3.out (by have := HG.out.1; simp; omega))
    have HOK3 := Lib.hid (btOk1 (some ⟨G, 0, none⟩) m m)
    clear HPUT
    go_wp2_with ((with_reducible refine wpList_putBt HOK3.out btZ_ok ?_ ?_ HNE.out ?_); exact rfl; exact rfl)
    intro W2 hW2 hk2
    have HW2 := Lib.hid hW2; have HK5 := Lib.hid hk2
    clear hW2 hk2
    go_wp2_with fail
    try simp only [Exit.inBlock, Exit.then]
    have hks : Keeps [] w W2 := HKE.out.trans HK5.out (fun q hq => .inr (by simp at hq; omega))
    have hoZ := HOZ.out.keeps HK5.out (fun q hq => by have := HG.out.1; simp [own, Value.ownBlock] at hq; simp; omega)
    exact bodyPost_ret (results_sk skB rfl _ _ (w.heap.size + 1) HOK3.out rfl HW2.out) rfl ⟨_, rfl, ⟨_, _, rfl, hoZ.in_, fun q hq => (own_new hoZ q hq).2, HWN.out, HWL.out⟩, hks, fun q hq => .inr (by have := (own_new hoZ q hq).1; have := HG.out.1; simp [btFoot, own, Value.ownBlock] at hq; omega)⟩
end Go.Proofs.YtbeniihbejakaaaDoor
/-
  The program's sets: Of.
-/
namespace Go.Proofs.YtbeniihbejakaaaDoor
open Go.RowKit
set_option maxRecDepth 100000
set_option maxHeartbeats 4000000
theorem WIn.put {W : List Nat} {S : List Int} (h : WIn W S) {n : Nat} (hn : n ≤ 65535) (hd : n / 64 < W.length) : WIn (W.set (n / 64) (W.getD (n / 64) 0 ||| 2 ^ (n % 64))) (withB S n) := by
  have := h.with_ hn 0 (by omega)
  rwa [List.replicate_zero, List.append_nil] at this
theorem WIn.zeros (k : Nat) : WIn (List.replicate k 0) [] := ⟨fun x hx => by rw [(List.mem_replicate.1 hx).2]; decide, BIn.nil, fun n => by rw [wBit_zero]; simp⟩
theorem ofB_next {l : List Int} {k : Nat} (hk : k < l.length) : ofB (l.take (k + 1)) = withB (ofB (l.take k)) l[k] := unionB_next (s := []) hk
theorem btOf_any (w : World) (v : Value) (l : List Int) (hI : rkZ.In w.heap.size w v l) (hl : l.length ≤ 1000) : Calls Tryd.prog 20 #[v] w fun e w' => ∃ st, e = .returned st ∧ BtAt w' st (ofB l) ∧ Keeps [] w w' ∧ ∀ q ∈ btFoot st, w.heap.size ≤ q := by
  obtain ⟨a, c, rfl, hc, hm, -⟩ := id hI
  have HI := Lib.hid hI
  have H1 := Lib.hid (heap_alloc_new w (.cells btZA 27))
  obtain ⟨Z, hZ⟩ : ∃ Z, Z = w.alloc (.cells btZA 27) := ⟨_, rfl⟩
  rw [← hZ] at H1
  have HKZ := Lib.hid (show Keeps [] w Z from by rw [hZ]; exact (Keeps.refl _ _).alloc _)
  have HZS := Lib.hid (show w.heap.size + 1 ≤ Z.heap.size from by rw [hZ, World.size_alloc]; exact Nat.le_refl _)
  clear hI
  generalize hn : l.length = m at *
  have HN := Lib.hid hn
  clear hn
  go_enter Tryd.func20, Tryd.ntmps20
  go_wp2_with fail
  rw [← hZ]
  clear hZ
  go_loopw [3, 5, 11] (fun g _ i wr => ∃ (k : Nat) (G : Int), i = .int .i64 (k : Int) ∧ g = .int .i64 G ∧ k ≤ m ∧ -1 ≤ G ∧ G ≤ 65535 ∧ (∀ y ∈ l.take k, 0 ≤ y ∧ y ≤ 65535 → y ≤ G) ∧ Keeps [] Z wr) (fun _ _ i _ => m - (intOf i).toNat)
  case atStart => exact ⟨0, -1, rfl, rfl, by omega, by omega, by omega, by simp, Keeps.refl _ _⟩
  case round =>
    obtain ⟨k, G, rfl, rfl, hk, hG1, hG2, hall, hkw⟩ := hrel
    have HALL := Lib.hid hall; have HKW := Lib.hid hkw
    clear hall hkw
    by_cases hlt : k < m
    · have hkl : k < l.length := by rw [HN.out]; exact hlt
      obtain ⟨bk, o, rfl, -, c1⟩ := InZ_at HI.out hkl
      have c2 := (HKZ.out.trans HKW.out (FSub.refl _ _)).cell c1 (by simp)
      have HT := Lib.hid (takeZ hkl)
      generalize l[k] = y at *
      clear c1
      go_wp2_with fail
      refine (btIsNumber_any _ y).mono ?_
      rintro e w1 ⟨rfl, hk1⟩
      have HK1 := Lib.hid (HKW.out.trans hk1 (FSub.refl _ _))
      clear hk1
      by_cases hy : 0 ≤ y ∧ y ≤ 65535
      · rw [decide_eq_true hy]
        have hmx : max G y = (if G ≤ y then y else G) := by split <;> omega
        go_wp2_with fail
        go_roundw
        case rel => exact ⟨k + 1, max G y, by go_num, rfl, by omega, by omega, by omega, fun z hz hh => by
          rw [HT.out] at hz
          rcases List.mem_append.1 hz with h | h
          · have := HALL.out z h hh; omega
          · simp at h; subst h; omega, HK1.out⟩
        case measure => simp [intOf]; omega
      · rw [decide_eq_false hy]
        go_wp2_with fail
        go_roundw
        case rel => exact ⟨k + 1, G, by go_num, rfl, by omega, by omega, by omega, fun z hz hh => by
          rw [HT.out] at hz
          rcases List.mem_append.1 hz with h | h
          · exact HALL.out z h hh
          · simp at h; subst h; exact absurd hh hy, HK1.out⟩
        case measure => simp [intOf]; omega
    · obtain rfl : k = m := by omega
      have hta : l.take k = l := List.take_of_length_le (by rw [HN.out]; exact Nat.le_refl _)
      rw [hta] at HALL
      obtain ⟨M, hM⟩ : ∃ M : Nat, M = ((G + 64) / 64).toNat := ⟨_, rfl⟩
      have hM2 : (G + 64) / 64 = (M : Int) := by omega
      have hM3 : (G + 64).tdiv 64 = (M : Int) := by rw [Int.tdiv_eq_ediv_of_nonneg (by omega)]; exact hM2
      have hwM : IntKind.i64.wrap (M : Int) = (M : Int) := IntWalk.i64_in _ ⟨by omega, by omega⟩
      have hM4 : M ≤ 1024 := by omega
      have HMG := Lib.hid (show 64 * (M : Int) > G from by omega)
      obtain ⟨w2, hmk, hown, hk2⟩ := run_makeW wr M (by omega)
      have HMK := Lib.hid hmk; have HOW := Lib.hid hown
      have HKK := Lib.hid (HKZ.out.trans (HKW.out.trans hk2 (FSub.refl _ _)) (FSub.refl _ _))
      have HN2 := Lib.hid (hk2.heap (HKW.out.heap H1.out (by simp)) (by simp))
      have HSZ := Lib.hid (Nat.le_trans HZS.out HKW.out.size)
      clear hmk hown hk2 hM hta
      go_wp2_with ((with_reducible refine wpList_makeW _ _ ?_ ?_ HMK.out ?_); exact rfl; exact rfl)
      obtain ⟨G0, hG0⟩ : ∃ G0, G0 = wr.heap.size := ⟨_, rfl⟩
      rw [← hG0] at HOW HSZ ⊢
      clear HMK hG0
      go_loopw [8, 27] (fun _ i wq => ∃ (q : Nat) (L : List Nat), i = .int .i64 (q : Int) ∧ q ≤ k ∧ L.length = M ∧ WIn L (ofB (l.take q)) ∧ rkW64.Own G0 wq (.slice (some ⟨G0, 0, none⟩) M M) L ∧ Keeps [] w wq ∧ wq.heap[w.heap.size]? = some (.cells btZA 27 (0, 0))) (fun _ i _ => k - (intOf i).toNat)
      case atStart => exact ⟨0, _, rfl, by omega, List.length_replicate, WIn.zeros M, HOW.out, HKK.out, HN2.out⟩
      case round =>
        obtain ⟨q, L, rfl, hq, hL, hWI, hOL, hKq, hNq⟩ := hrel
        have HWI := Lib.hid hWI; have HOL := Lib.hid hOL; have HKQ := Lib.hid hKq; have HNQ := Lib.hid hNq
        clear hWI hOL hKq hNq HOW HKK HN2
        by_cases hlt2 : q < k
        · have hkl : q < l.length := by rw [HN.out]; exact hlt2
          obtain ⟨bk, o, rfl, -, c1⟩ := InZ_at HI.out hkl
          have c2 := HKQ.out.cell c1 (by simp)
          have HT := Lib.hid (ofB_next hkl)
          have HMEM := Lib.hid (show l[q] ∈ l from List.getElem_mem hkl)
          generalize l[q] = y at *
          clear c1
          go_wp2_with fail
          refine (btIsNumber_any _ y).mono ?_
          rintro e w1 ⟨rfl, hk1⟩
          have HK1 := Lib.hid (HKQ.out.trans hk1 (FSub.refl _ _)); have HN1 := Lib.hid (hk1.heap HNQ.out (by simp)); have HO1 := Lib.hid (HOL.out.keeps hk1 (by simp))
          clear hk1 HOL HKQ HNQ
          by_cases hy : 0 ≤ y ∧ y ≤ 65535
          · rw [decide_eq_true hy]
            obtain ⟨N, rfl⟩ : ∃ N : Nat, y = (N : Int) := ⟨y.toNat, by omega⟩
            have hNG := HALL.out _ HMEM.out hy
            obtain ⟨j, hj⟩ : ∃ j, j = N / 64 := ⟨_, rfl⟩
            have hdv : (N : Int).tdiv 64 = (j : Int) := by rw [tdiv64, hj]
            have hdv2 : (N : Int) / 64 = (j : Int) := by omega
            have hwq : IntKind.i64.wrap (j : Int) = (j : Int) := IntWalk.i64_in _ ⟨by omega, by omega⟩
            have hjn : j < M := by have := HMG.out; omega
            have HB := Lib.hid (fun w => btBit_any w N)
            have HWN := Lib.hid (show WIn (L.set j (L.getD j 0 ||| 2 ^ (N % 64))) (ofB (l.take (q + 1))) from by
              rw [HT.out, hj]; exact HWI.out.put (by omega) (by omega))
            obtain ⟨x, hx⟩ : ∃ x, x = L.getD j 0 := ⟨_, rfl⟩
            obtain ⟨V, hV⟩ : ∃ V, V = w1 := ⟨_, rfl⟩
            obtain ⟨G, hGG⟩ : ∃ G, G = G0 := ⟨_, rfl⟩
            have HPUT := Lib.hid (fun (Y : World) (h : Keeps [] V Y) (z : Nat) => by
              have h2 := W64.put (HO1.out.keeps (hV ▸ h) (by simp)) j (by omega) z
              rw [← hx, ← hGG] at h2
              exact h2)
            have e1 := bits_or_u64_nat x (2 ^ (N % 64)) (by rw [hx]; exact HWI.out.get j) (pow_lt64 (by omega))
            rw [← hx] at HWN
            obtain ⟨z, hz⟩ : ∃ z, z = x ||| 2 ^ (N % 64) := ⟨_, rfl⟩
            rw [← hz] at e1 HWN
            rw [← hGG] at HSZ
            subst hV
            clear hz hx hj HT
            generalize 2 ^ (N % 64) = pw at *
            subst hGG
            obtain ⟨S0, hS0⟩ : ∃ S0 : World → Prop, S0 = fun y => Keeps [G] V y := ⟨_, rfl⟩
            have HSE := Lib.hid hS0
            have hSD : S0 V.drew := by rw [hS0]; exact (Keeps.refl _ _).drew
            clear hS0
            go_wp2_with fail
            refine wp_region_noPanic ?_
            refine wp_region_held_drew (S := S0) (by kernel_rfl) hSD (fun hHeld => ?_)
            have HY := Lib.hid ((Keeps.refl [] V).drew)
            generalize V.drew = YC at *
            refine tw 0 (h := ?_)
            refine tw 1 (h := ?_)
            refine tw 2 (h := ?_)
            refine tk 3 (y := by exact yields_indexW0 rfl _ _ rfl G _ _ j rfl rfl hjn) (h := ?_)
            refine tw 5 (h := ?_)
            iterate 2
              all_goals
                first
                  | apply wpAnyH_ready (rs := [4, 6])
                    · decide +kernel
                    · simp
                    refine acn ?_ (acn ?_ (AllReadyH.nil))
                  | apply wpAnyH_ready (rs := [4])
                    · decide +kernel
                    · simp
                    refine acn ?_ (AllReadyH.nil)
                  | apply wpAnyH_ready (rs := [6])
                    · decide +kernel
                    · simp
                    refine acn ?_ (AllReadyH.nil)
                all_goals
                  intro K hK
                  rw [if_pos (by rfl)]
                  first
                  | refine wp_loadW rfl (g := G) (j := j) (z := .int .u64 (x : Int)) rfl ((HPUT.out YC HY.out 0).2.2) ?_
                    refine hK.out _ _ (by rw [HSE.out]; exact HY.out.more (by simp)) (fun hHeld => ?_); clear hK K; try simp only [Act.put, lsA, lsZ, lsS]
                  | refine wp_call9 35 _ _ rfl [.int .i64 (N : Int)] rfl Tryd.func35 (by kernel_rfl) (by kernel_rfl) ((HB.out _).mono ?_)
                    rintro e YC ⟨rfl, hk⟩
                    refine ⟨_, rfl, ?_⟩
                    replace HY := Lib.hid (HY.out.trans hk (FSub.refl _ _))
                    clear hk
                    refine hK.out _ _ (by rw [HSE.out]; exact HY.out.more (by simp)) (fun hHeld => ?_); clear hK K; try simp only [Act.put, lsA, lsZ, lsS]
            all_goals
              refine tw 7 (h := ?_)
              refine tk 8 (y := by exact yields_indexW0 rfl _ _ rfl G _ _ j rfl rfl hjn) (h := ?_)
              refine rp 9 (h := fun K hK => ?_)
              refine wp_putW rfl (g := G) (j := j) (z := (z : Int)) (old := (x : Int)) rfl rfl ((HPUT.out YC HY.out 0).2.2) ((HPUT.out YC HY.out 0).2.1) ?_
              have HOZ := Lib.hid (HPUT.out YC HY.out z).1
              have HYE := Lib.hid ((HY.out.more (G := [G]) (by simp)).setCell ⟨G, j, none⟩ (.int .u64 (z : Int)) (.inl (by simp)))
              refine hK.out _ _ (by rw [HSE.out]; exact HYE.out) (fun hHeld => ?_); clear hK K; try simp only [Act.put, lsA, lsZ, lsS]
              refine wpAnyH_done (by kernel_rfl) ?_ _
              refine NoPanic.normal ?_
              generalize YC.setCell ⟨G, j, none⟩ (.int .u64 (z : Int)) = YE at *
            all_goals
              have HKE := Lib.hid (show Keeps [] w YE from HK1.out.trans HYE.out (fun q hq => by have := HSZ.out; simp at hq; exact .inr (by omega)))
              have HNE := Lib.hid (HYE.out.heap HN1.out (by have := HSZ.out; simp; omega))
              clear HPUT HYE hHeld hSD HSE HY
              go_wp2_with fail
              go_roundw
              case rel => exact ⟨q + 1, L.set j z, by go_num, by omega, by rw [List.length_set]; exact hL, HWN.out, HOZ.out, HKE.out, HNE.out⟩
              case measure => simp [intOf]; omega
          · rw [decide_eq_false hy]
            have HWN := Lib.hid (show WIn L (ofB (l.take (q + 1))) from by rw [HT.out, withB_in_ HWI.out.set (.inl hy)]; exact HWI.out)
            go_wp2_with fail
            go_roundw
            case rel => exact ⟨q + 1, L, by go_num, by omega, hL, HWN.out, HO1.out, HK1.out, HN1.out⟩
            case measure => simp [intOf]; omega
        · obtain rfl : q = k := by omega
          have hta : l.take q = l := List.take_of_length_le (by rw [HN.out]; exact Nat.le_refl _)
          rw [hta] at HWI
          have HKW := HKQ; have HNW := HNQ
          have HGW := Lib.hid (show ∀ p ∈ own (.slice (some ⟨G0, 0, none⟩) M M), w.heap.size + 1 ≤ p ∧ p < wr.heap.size from fun p hp => by
            have := own_new HOL.out p hp; have := HSZ.out; omega)
          have HSW := Lib.hid (show w.heap.size + 1 ≤ wr.heap.size from lt_of_block HNQ.out)
          have HMD := Lib.hid (btMade_any wr HOL.out.in_ (fun p hp => (HGW.out p hp).2) HWI.out (by omega))
          go_wp2_with fail
          refine HMD.out.mono ?_
          rintro e w4 ⟨st, rfl, hat, hk4, hft⟩
          obtain ⟨A, rfl, hA⟩ := hat.cells
          have HAT := Lib.hid hat; have HK4 := Lib.hid (HKW.out.trans hk4 (FSub.refl _ _)); have HN4 := Lib.hid (hk4.heap HNW.out (by simp)); have HOA := Lib.hid hA
          have HFT := Lib.hid (show ∀ q ∈ btFoot (.agg A.toArray), w.heap.size + 1 ≤ q from fun q hq => by
            rcases hft q hq with h | h
            · exact (HGW.out _ h).1
            · exact Nat.le_trans HSW.out h)
          clear hat hk4 hft hA HMD HNW
          go_wp2_with ((with_reducible refine wpList_putBt HOA.out btZ_ok ?_ ?_ HN4.out ?_); exact rfl; exact rfl)
          intro W2 hW2 hk2
          have HW2 := Lib.hid hW2; have HK5 := Lib.hid hk2
          clear hW2 hk2
          go_wp2_with fail
          try simp only [Exit.inBlock, Exit.then]
          have hks : Keeps [] w W2 := HK4.out.trans HK5.out (fun q hq => .inr (by simp at hq; omega))
          exact bodyPost_ret (results_sk skB rfl _ _ w.heap.size HOA.out rfl HW2.out) rfl ⟨_, rfl, HAT.out.keep HK5.out (fun q hq => by have := HFT.out q hq; simp; omega), hks, fun q hq => by have := HFT.out q hq; omega⟩
end Go.Proofs.YtbeniihbejakaaaDoor
/-
  The program's sets: Count, Within.
-/
namespace Go.Proofs.YtbeniihbejakaaaDoor
open Go.RowKit
set_option maxRecDepth 100000
set_option maxHeartbeats 4000000
def cntW (W : List Nat) (k : Nat) : Nat := ((W.take k).map onesN).sum
theorem cntW_next {W : List Nat} {k : Nat} (hk : k < W.length) : cntW W (k + 1) = cntW W k + onesN (W.getD k 0) := by
  unfold cntW
  rw [List.take_add_one, List.getElem?_eq_getElem hk, Option.toList_some, List.map_append, List.sum_append, getW_in W 0 hk]
  simp
theorem cntW_le (W : List Nat) : ∀ k, k ≤ W.length → cntW W k ≤ 64 * k
  | 0, _ => by simp [cntW]
  | k + 1, h => by
    rw [cntW_next (by omega)]
    have := cntW_le W k (by omega)
    have := onesN_le (W.getD k 0)
    omega
theorem WIn.cnt {W : List Nat} {S : List Int} (h : WIn W S) : S.length = cntW W W.length := by
  have e := h.nums
  rw [e, numsW_len, cntW, List.take_length]
theorem btCount_any (w : World) (st : Value) (S : List Int) (h : BtAt w st S) : Calls Tryd.prog 28 #[st] w fun e w' => e = .returned (.int .i64 (S.length : Int)) ∧ Keeps [] w w' := by
  obtain ⟨v, W, rfl, hI, ho, hW, hlast⟩ := h
  have hW1 := hW.len hlast
  obtain ⟨a, c, rfl, hc, hm, -⟩ := id hI
  have HI := Lib.hid hI; have HW := Lib.hid hW
  have HKA := Lib.hid (show Keeps [] w (w.alloc (.cells #[.slice a W.length c] 27)) from (Keeps.refl _ _).alloc _)
  clear hI hW ho hlast
  generalize hmm : W.length = m at *
  have HMM := Lib.hid hmm
  clear hmm
  go_enter Tryd.func28, Tryd.ntmps28
  go_wp2_with fail
  go_loopw [3, 5, 9] (fun g _ i wr => ∃ k : Nat, i = .int .i64 (k : Int) ∧ g = .int .i64 ((cntW W k : Nat) : Int) ∧ k ≤ m ∧ Keeps [] w wr) (fun _ _ i _ => m - (intOf i).toNat)
  case atStart => exact ⟨0, rfl, rfl, by omega, HKA.out⟩
  case round =>
    obtain ⟨k, rfl, rfl, hk, hkw⟩ := hrel
    have HKW := Lib.hid hkw
    clear hkw
    have hcb := cntW_le W k (by rw [HMM.out]; exact hk)
    by_cases hlt : k < m
    · have hkl : k < W.length := by rw [HMM.out]; exact hlt
      obtain ⟨bk, o, rfl, -, c1⟩ := InW_getD HI.out hkl
      have c2 := HKW.out.cell c1 (by simp)
      have HNX := Lib.hid (cntW_next hkl)
      have HON := Lib.hid (fun w => ones64_any w (HW.out.get k))
      have hol := onesN_le (W.getD k 0)
      generalize W.getD k 0 = x at *
      generalize cntW W k = N at *
      clear c1
      go_wp2_with fail
      refine (HON.out wr).mono ?_
      rintro e w1 ⟨rfl, hk1⟩
      have HK1 := Lib.hid (HKW.out.trans hk1 (FSub.refl _ _))
      clear hk1
      generalize onesN x = z at *
      go_wp2_with fail
      go_roundw
      case rel => exact ⟨k + 1, by go_num, by rw [HNX.out]; go_num, by omega, HK1.out⟩
      case measure => simp [intOf]; omega
    · obtain rfl : k = m := by omega
      have HX := Lib.hid (HW.out.cnt)
      rw [HMM.out] at HX
      go_wp2_with fail
      go_ret
      exact ⟨by rw [HX.out]; rfl, HKW.out⟩
theorem without_zero {x y : Nat} : without64 x y = 0 ↔ ∀ i, x.testBit i = true → y.testBit i = true := by
  constructor
  · intro h i hi
    have := without_bit x y i
    rw [h, hi] at this
    simpa using this.symm
  · intro h
    apply Nat.eq_of_testBit_eq
    intro i
    rw [without_bit, Nat.zero_testBit]
    cases e : x.testBit i with
    | false => rfl
    | true => rw [h i e]; rfl
theorem btWithin_any (w : World) (st : Value) (S : List Int) (st2 : Value) (T : List Int) (h : BtAt w st S) (h2 : BtAt w st2 T) : Calls Tryd.prog 24 #[st, st2] w fun e w' => e = .returned (.bool (withinB S T)) ∧ Keeps [] w w' := by
  obtain ⟨v, W, rfl, hI, ho, hW, hlast⟩ := h
  have hW1 := hW.len hlast
  obtain ⟨a, c, rfl, hc, hm, -⟩ := id hI
  obtain ⟨v2, U, rfl, hJ, ho2, hU, hlast2⟩ := h2
  have hU1 := hU.len hlast2
  obtain ⟨b, d, rfl, hd, hm2, -⟩ := id hJ
  have HI := Lib.hid hI; have HW := Lib.hid hW; have HJ := Lib.hid hJ; have HU := Lib.hid hU; have HL := Lib.hid hlast
  have h0 := heap_alloc_new w (.cells #[.slice a W.length c] 27)
  obtain ⟨X, hX⟩ : ∃ X, X = w.alloc (.cells #[.slice a W.length c] 27) := ⟨_, rfl⟩
  rw [← hX] at h0
  have hXs : X.heap.size = w.heap.size + 1 := by rw [hX, World.size_alloc]
  have hKX : Keeps [] w X := by rw [hX]; exact (Keeps.refl _ _).alloc _
  have h1 := heap_alloc_new X (.cells #[.slice b U.length d] 27)
  obtain ⟨Z, hZ⟩ : ∃ Z, Z = X.alloc (.cells #[.slice b U.length d] 27) := ⟨_, rfl⟩
  rw [← hZ] at h1
  have hKXZ : Keeps [] X Z := by rw [hZ]; exact (Keeps.refl _ _).alloc _
  have HKZ := Lib.hid (hKX.trans hKXZ (FSub.refl _ _))
  have hc0 := cell_lit (hKXZ.heap h0 (by simp)) 0 (v := .slice a W.length c) rfl
  have hc1 := cell_lit h1 0 (v := .slice b U.length d) rfl
  rw [hXs] at hc1
  have HC1 := Lib.hid hc1
  clear hI hW ho hlast hJ hU ho2 hlast2 h0 h1 hKX hKXZ
  generalize hmm : W.length = m at *
  have HMM := Lib.hid hmm
  generalize hnn : U.length = n at *
  have HNN := Lib.hid hnn
  clear hmm hnn
  by_cases hgt : n < m
  case pos =>
    have HR := Lib.hid (show withinB S T = false from by
      rw [Bool.eq_false_iff]
      intro hw
      have h3 := HW.out.last HL.out (by rw [HMM.out]; omega)
      have h4 := wBit_lt ((HU.out.tell _).1 (withinB_iff.1 hw _ h3.2.1))
      rw [HMM.out, HNN.out] at h4
      omega)
    go_enter Tryd.func24, Tryd.ntmps24
    go_wp2_with fail
    go_ret
    exact ⟨by rw [HR.out]; rfl, hX ▸ hZ ▸ HKZ.out⟩
  go_enter Tryd.func24, Tryd.ntmps24
  go_wp2_with fail
  rw [← hX, ← hZ]
  clear hX hZ
  go_loopw [5, 6, 17] (fun _ _ i wr => ∃ k : Nat, i = .int .i64 (k : Int) ∧ k ≤ m ∧ (∀ y : Nat, y < 64 * k → (y : Int) ∈ S → (y : Int) ∈ T) ∧ wr = Z) (fun _ _ i _ => m - (intOf i).toNat)
  case atStart => exact ⟨0, rfl, by omega, fun y h => by omega, rfl⟩
  case round =>
    obtain ⟨k, rfl, hk, hall, rfl⟩ := hrel
    have HALL := Lib.hid hall
    clear hall
    by_cases hlt : k < m
    · have hkl : k < W.length := by rw [HMM.out]; exact hlt
      have hkn : k < U.length := by rw [HNN.out]; omega
      obtain ⟨bk, o, rfl, -, c1⟩ := InW_getD HI.out hkl
      obtain ⟨bk2, o2, rfl, -, d1⟩ := InW_getD HJ.out hkn
      have c2 := HKZ.out.cell c1 (by simp)
      have d2 := HKZ.out.cell d1 (by simp)
      have e1 := bits_andNot_u64 _ _ (HW.out.get k) (HU.out.get k)
      have HZZ := Lib.hid (without_zero (x := W.getD k 0) (y := U.getD k 0))
      have HWX := Lib.hid (show ∀ i, i < 64 → (((64 * k + i : Nat) : Int) ∈ S ↔ (W.getD k 0).testBit i = true) from fun i hi => by
        rw [HW.out.tell]; unfold wBit; rw [show (64 * k + i) / 64 = k by omega, show (64 * k + i) % 64 = i by omega])
      have HUX := Lib.hid (show ∀ i, i < 64 → (((64 * k + i : Nat) : Int) ∈ T ↔ (U.getD k 0).testBit i = true) from fun i hi => by
        rw [HU.out.tell]; unfold wBit; rw [show (64 * k + i) / 64 = k by omega, show (64 * k + i) % 64 = i by omega])
      have HX64 := Lib.hid (show ∀ i, (W.getD k 0).testBit i = true → i < 64 from fun i hi => by
        by_cases h : i < 64
        · exact h
        · rw [Nat.testBit_lt_two_pow (Nat.lt_of_lt_of_le (HW.out.get k) (by rw [← two64]; exact Nat.pow_le_pow_right (by decide) (by omega)))] at hi; cases hi)
      generalize W.getD k 0 = x at *
      generalize U.getD k 0 = y at *
      obtain ⟨z, hz⟩ : ∃ z, z = without64 x y := ⟨_, rfl⟩
      rw [← hz] at e1 HZZ
      have hc1' := HC1.out
      clear c1 d1 hz
      by_cases hz0 : z = 0
      · subst hz0
        have HN := Lib.hid (HZZ.out.1 rfl)
        go_wp2_with fail
        go_roundw
        case rel => exact ⟨k + 1, by go_num, by omega, fun p h1 h2 => by
          by_cases h3 : p < 64 * k
          · exact HALL.out p h3 h2
          · have e : p = 64 * k + (p - 64 * k) := by omega
            rw [e] at h2 ⊢
            have h5 := (HWX.out _ (by omega)).1 h2
            exact (HUX.out _ (by omega)).2 (HN.out _ h5), trivial⟩
        case measure => simp [intOf]; omega
      · have hzb : ((z : Int) != 0) = true := by rw [bne_iff_ne]; omega
        have HR := Lib.hid (show withinB S T = false from by
          rw [Bool.eq_false_iff]
          intro hw
          apply hz0
          rw [HZZ.out]
          intro i hi
          have h6 := HX64.out i hi
          exact (HUX.out i h6).1 (withinB_iff.1 hw _ ((HWX.out i h6).2 hi)))
        clear hz0
        go_wp2_with fail
        go_ret
        exact ⟨by rw [HR.out]; rfl, HKZ.out⟩
    · obtain rfl : k = m := by omega
      have HR := Lib.hid (show withinB S T = true from withinB_iff.2 fun x hx => by
        obtain ⟨h0, hb⟩ := (HW.out.any x).1 hx
        have h3 := wBit_lt hb
        rw [HMM.out] at h3
        have := HALL.out x.toNat h3 (by rwa [Int.toNat_of_nonneg h0])
        rwa [Int.toNat_of_nonneg h0] at this)
      go_wp2_with fail
      go_ret
      exact ⟨by rw [HR.out]; rfl, HKZ.out⟩
end Go.Proofs.YtbeniihbejakaaaDoor
/-
  The program's sets: Union.
-/
namespace Go.Proofs.YtbeniihbejakaaaDoor
open Go.RowKit
set_option maxRecDepth 100000
set_option maxHeartbeats 4000000
theorem union_next {L Q : List Nat} {SP SQ : List Int} {k : Nat} (h : WIn L (unionB SP (SQ.filter fun y => decide (y < 64 * (k : Int))))) (hQ : WIn Q SQ) (hk : k < L.length) (hSP : BIn SP) :
    WIn (L.set k (L.getD k 0 ||| Q.getD k 0)) (unionB SP (SQ.filter fun y => decide (y < 64 * ((k + 1 : Nat) : Int)))) :=
  ⟨set_lt h.lt (or_lt64 (h.get k) (hQ.get k)), unionB_in _ hSP, fun m => by
    have h1 := h.tell m
    rw [mem_unionB] at h1 ⊢
    rw [wBit_set hk]
    simp only [List.mem_filter, decide_eq_true_eq] at h1 ⊢
    by_cases e : m / 64 = k
    · rw [if_pos e, Nat.testBit_or]
      have h2 := hQ.tell m
      unfold wBit at h1 h2
      rw [e] at h1 h2
      have h3 : ¬ ((m : Int) < 64 * (k : Int)) := by omega
      have h4 : ((m : Int) < 64 * ((k + 1 : Nat) : Int)) := by omega
      simp only [h3, h4, and_false, false_and, or_false, and_true] at h1 ⊢
      rw [Bool.or_eq_true, ← h1, ← h2]
      constructor
      · rintro (h5 | h5)
        · exact .inl h5
        · exact .inr h5.1
      · rintro (h5 | h5)
        · exact .inl h5
        · exact .inr ⟨h5, hQ.set.of h5⟩
    · rw [if_neg e, ← h1]
      have h4 : ((m : Int) < 64 * ((k + 1 : Nat) : Int)) ↔ ((m : Int) < 64 * (k : Int)) := by omega
      rw [h4]⟩
theorem last_or {L : List Nat} {k y : Nat} (h : L.getLast? ≠ some 0) : (L.set k (L.getD k 0 ||| y)).getLast? ≠ some 0 := by
  rw [List.getLast?_eq_getElem?] at h ⊢
  rw [List.length_set]
  by_cases e : k = L.length - 1
  · by_cases h0 : k < L.length
    · rw [← e, List.getElem?_set_self h0]
      rw [← e, List.getElem?_eq_getElem h0, ← getW_in L 0 h0] at h
      intro h2
      apply h
      have h3 : L.getD k 0 ||| y = 0 := by simpa using h2
      have : L.getD k 0 = 0 := by
        apply Nat.eq_of_testBit_eq
        intro i
        have h4 := congrArg (fun z => z.testBit i) h3
        simp only [Nat.testBit_or, Nat.zero_testBit, Bool.or_eq_false_iff] at h4
        rw [h4.1, Nat.zero_testBit]
      rw [this]
    · rw [List.getElem?_eq_none (by rw [List.length_set]; omega)]; simp
  · rw [List.getElem?_set_ne e]; exact h
theorem three_blocks (w : World) (u v : Value) : Keeps [] w (((w.alloc (.cells #[u] 27)).alloc (.cells #[v] 27)).alloc (.cells btZA 27)) ∧
    (((w.alloc (.cells #[u] 27)).alloc (.cells #[v] 27)).alloc (.cells btZA 27)).heap[w.heap.size]? = some (.cells #[u] 27 (0, 0)) ∧
    (((w.alloc (.cells #[u] 27)).alloc (.cells #[v] 27)).alloc (.cells btZA 27)).heap[w.heap.size + 1]? = some (.cells #[v] 27 (0, 0)) ∧
    (((w.alloc (.cells #[u] 27)).alloc (.cells #[v] 27)).alloc (.cells btZA 27)).heap[w.heap.size + 2]? = some (.cells btZA 27 (0, 0)) ∧
    w.heap.size + 3 ≤ (((w.alloc (.cells #[u] 27)).alloc (.cells #[v] 27)).alloc (.cells btZA 27)).heap.size := by
  have h0 := heap_alloc_new w (.cells #[u] 27)
  have s0 : (w.alloc (.cells #[u] 27)).heap.size = w.heap.size + 1 := World.size_alloc _ _
  have k0 : Keeps [] w (w.alloc (.cells #[u] 27)) := (Keeps.refl _ _).alloc _
  generalize w.alloc (.cells #[u] 27) = X at *
  have h1 := heap_alloc_new X (.cells #[v] 27)
  have s1 : (X.alloc (.cells #[v] 27)).heap.size = w.heap.size + 2 := by rw [World.size_alloc, s0]
  have k1 : Keeps [] X (X.alloc (.cells #[v] 27)) := (Keeps.refl _ _).alloc _
  generalize X.alloc (.cells #[v] 27) = X2 at *
  have h2 := heap_alloc_new X2 (.cells btZA 27)
  have s2 : (X2.alloc (.cells btZA 27)).heap.size = w.heap.size + 3 := by rw [World.size_alloc, s1]
  have k2 : Keeps [] X2 (X2.alloc (.cells btZA 27)) := (Keeps.refl _ _).alloc _
  rw [s0] at h1
  rw [s1] at h2
  exact ⟨(k0.trans k1 (FSub.refl _ _)).trans k2 (FSub.refl _ _), k2.heap (k1.heap h0 (by simp)) (by simp), k2.heap h1 (by simp), h2, Nat.le_of_eq s2.symm⟩
theorem btUnion_any (w : World) (st : Value) (S : List Int) (st2 : Value) (T : List Int) (h : BtAt w st S) (h2 : BtAt w st2 T) : Calls Tryd.prog 27 #[st, st2] w fun e w' => ∃ st', e = .returned st' ∧ BtAt w' st' (unionB S T) ∧ Keeps [] w w' ∧ FSub (btFoot st') (btFoot st ++ btFoot st2) w.heap.size := by
  obtain ⟨v, W, rfl, hI, ho, hW, hlast⟩ := h
  have hW1 := hW.len hlast
  obtain ⟨a, c, rfl, hc, hm, -⟩ := id hI
  obtain ⟨v2, U, rfl, hJ, ho2, hU, hlast2⟩ := h2
  have hU1 := hU.len hlast2
  obtain ⟨b, d, rfl, hd, hm2, -⟩ := id hJ
  have hUS := unionB_comm hW.set hU.set
  have H1 := Lib.hid (show ∃ (P : List Nat) (SP : List Int) (Q : List Nat) (SQ : List Int), P.length = W.length ∧ Q.length = U.length ∧ P.length ≤ 1024 ∧ rkW64.In w.heap.size w (.slice a W.length c) P ∧ rkW64.In w.heap.size w (.slice b U.length d) Q ∧ WIn P SP ∧ WIn Q SQ ∧ P.getLast? ≠ some 0 ∧ unionB S T = unionB SP SQ from
    ⟨W, S, U, T, rfl, rfl, hW1, hI, hJ, hW, hU, hlast, rfl⟩)
  have H2 := Lib.hid (show ∃ (P : List Nat) (SP : List Int) (Q : List Nat) (SQ : List Int), P.length = U.length ∧ Q.length = W.length ∧ P.length ≤ 1024 ∧ rkW64.In w.heap.size w (.slice b U.length d) P ∧ rkW64.In w.heap.size w (.slice a W.length c) Q ∧ WIn P SP ∧ WIn Q SQ ∧ P.getLast? ≠ some 0 ∧ unionB S T = unionB SP SQ from
    ⟨U, T, W, S, rfl, rfl, hU1, hJ, hI, hU, hW, hlast2, hUS⟩)
  clear hI hW ho hlast hJ hU ho2 hlast2 hUS
  generalize W.length = m at *
  generalize U.length = n at *
  by_cases hlt : m < n
  case neg =>
    go_enter Tryd.func27, Tryd.ntmps27
    go_wp2_with fail
    obtain ⟨YY, hYY⟩ : ∃ YY, YY = ((w.alloc (.cells #[.slice a m c] 27)).alloc (.cells #[.slice b n d] 27)).alloc (.cells btZA 27) := ⟨_, rfl⟩
    obtain ⟨hk, hb0, hb1, hb2, hsz⟩ := three_blocks w (.slice a m c) (.slice b n d)
    rw [← hYY] at hk hb0 hb1 hb2 hsz ⊢
    have HKY := Lib.hid hk; have HB0 := Lib.hid hb0; have HB1 := Lib.hid hb1; have H2 := Lib.hid hb2; have HY3 := Lib.hid hsz
    obtain ⟨P, SP, Q, SQ, p1, p2, p3, p4, p5, p6, p7, p8, p9⟩ := H1.out
    have HPL := Lib.hid p1; have HQL := Lib.hid p2; have HP := Lib.hid p4; have HQ := Lib.hid p5; have HWP := Lib.hid p6; have HWQ := Lib.hid p7; have HPLAST := Lib.hid p8; have HUN := Lib.hid p9
    clear hk hb0 hb1 hb2 hsz hYY p1 p2 p4 p5 p6 p7 p8 p9 H1
    have hb0 := cell_lit HB0.out 0 (v := .slice a m c) rfl
    have HCL := Lib.hid (clone64_any YY (v := .slice a m c) ((HP.out.new HKY.out (Nat.le_refl _)).more HKY.out.size) (by omega))
    refine HCL.out.mono ?_
    rintro e w2 ⟨v2, rfl, hown, hk2⟩
    obtain ⟨a1, c1, rfl, hcc1, -⟩ := hown.shape
    have HOW := Lib.hid hown; have HK2 := Lib.hid (HKY.out.trans hk2 (FSub.refl _ _)); have HN2 := Lib.hid (hk2.heap H2.out (by simp))
    have hb1 := cell_lit (hk2.heap HB1.out (by simp)) 0 (v := .slice b n d) rfl
    rw [HPL.out] at HOW ⊢
    clear hown hk2 HCL hb0
    go_wp2_with fail
    go_loopw [6, 7, 23] (fun _ _ i wr => ∃ (k : Nat) (L : List Nat), i = .int .i64 (k : Int) ∧ k ≤ n ∧ L.length = m ∧ WIn L (unionB SP (SQ.filter fun y => decide (y < 64 * (k : Int)))) ∧ L.getLast? ≠ some 0 ∧ rkW64.Own YY.heap.size wr (.slice a1 m c1) L ∧ Keeps [] w wr ∧ wr.heap[w.heap.size + 2]? = some (.cells btZA 27 (0, 0))) (fun _ _ i _ => n - (intOf i).toNat)
    case atStart => exact ⟨0, _, rfl, by omega, HPL.out, by
      rw [show (SQ.filter fun y => decide (y < 64 * ((0 : Nat) : Int))) = [] from List.filter_eq_nil_iff.2 fun y hy => by have := (HWQ.out.set.of hy).1; simp; omega]
      exact HWP.out, HPLAST.out, HOW.out, HK2.out, HN2.out⟩
    case round =>
      obtain ⟨k, L, rfl, hk, hL, hWL, hlast, hOL, hKL, hNL⟩ := hrel
      have HWL := Lib.hid hWL; have HLAST := Lib.hid hlast; have HOL := Lib.hid hOL; have HKL := Lib.hid hKL; have HNL := Lib.hid hNL
      clear hWL hlast hOL hKL hNL HOW HK2 HN2 hb1
      by_cases hlt : k < n
      · have hkq : k < Q.length := by rw [HQL.out]; exact hlt
        obtain ⟨bk, o, rfl, hbk, d1⟩ := InW_getD HQ.out hkq
        have d2 := HKL.out.cell d1 (by simp)
        obtain ⟨G, cap, e1, hG, hG2⟩ := own_at HOL.out (by omega)
        rw [hL] at e1
        simp only [Value.slice.injEq, true_and] at e1
        obtain ⟨rfl, rfl⟩ := e1
        have hput := fun z => W64.put HOL.out k (by omega) z
        have f1 := (hput 0).2.1
        have f2 := (hput 0).2.2
        have or1 := bits_or_u64_nat (L.getD k 0) (Q.getD k 0) (HWL.out.get k) (HWQ.out.get k)
        have HNXT := Lib.hid (union_next HWL.out HWQ.out (k := k) (by omega) HWP.out.set)
        have HLN := Lib.hid (last_or (k := k) (y := Q.getD k 0) HLAST.out)
        obtain ⟨x, hx⟩ : ∃ x, x = L.getD k 0 := ⟨_, rfl⟩
        obtain ⟨y, hy⟩ : ∃ y, y = Q.getD k 0 := ⟨_, rfl⟩
        rw [← hy] at d2 or1 HNXT HLN
        rw [← hx] at f2 or1 HNXT HLN
        obtain ⟨z, hz⟩ : ∃ z, z = x ||| y := ⟨_, rfl⟩
        rw [← hz] at or1 HNXT HLN
        have HOZ := Lib.hid (hput z).1
        have HKE := Lib.hid ((HKL.out.more (G := []) (by simp)).setCell ⟨G, k, none⟩ (.int .u64 (z : Int)) (.inr (Nat.le_trans HKY.out.size hG)))
        have HNE := Lib.hid (((Keeps.refl [G] wr).setCell ⟨G, k, none⟩ (.int .u64 (z : Int)) (.inl (by simp))).heap HNL.out (by have := HY3.out; simp; omega))
        clear d1 hx hy hz hput hbk hG hG2
        go_wp2_with fail
        go_roundw
        case rel => exact ⟨k + 1, L.set k z, by go_num, by omega, by rw [List.length_set]; exact hL, HNXT.out, HLN.out, HOZ.out, HKE.out, HNE.out⟩
        case measure => simp [intOf]; omega
      · obtain rfl : k = n := by omega
        have HALLQ := Lib.hid (show (SQ.filter fun y => decide (y < 64 * (k : Int))) = SQ from List.filter_eq_self.2 fun y hy => by
          obtain ⟨h0, hb⟩ := (HWQ.out.any y).1 hy
          have := wBit_lt hb
          rw [HQL.out] at this
          simp; omega)
        rw [HALLQ.out] at HWL
        have HOKZ := Lib.hid (btOk1 a1 m c1)
        go_wp2_with ((with_reducible refine wpList_putBt HOKZ.out btZ_ok ?_ ?_ HNL.out ?_); exact rfl; exact rfl)
        intro W2 hW2 hk2
        have HW2 := Lib.hid hW2; have HK5 := Lib.hid hk2
        clear hW2 hk2
        go_wp2_with fail
        try simp only [Exit.inBlock, Exit.then]
        have hks : Keeps [] w W2 := HKL.out.trans HK5.out (fun q hq => .inr (by simp at hq; omega))
        have hoZ := HOL.out.keeps HK5.out (fun q hq => by have := (own_new HOL.out q hq).1; have := HY3.out; simp; omega)
        exact bodyPost_ret (results_sk skB rfl _ _ (w.heap.size + 2) HOKZ.out rfl HW2.out) rfl ⟨_, rfl, ⟨_, L, rfl, by rw [← hL]; exact hL ▸ hoZ.in_, fun q hq => (own_new hoZ q hq).2, by rw [HUN.out]; exact HWL.out, HLAST.out⟩, hks, fun q hq => .inr (by have := (own_new hoZ q hq).1; have := HY3.out; omega)⟩
  go_enter Tryd.func27, Tryd.ntmps27
  go_wp2_with fail
  replace H1 := H2
  obtain ⟨YY, hYY⟩ : ∃ YY, YY = ((w.alloc (.cells #[.slice b n d] 27)).alloc (.cells #[.slice a m c] 27)).alloc (.cells btZA 27) := ⟨_, rfl⟩
  obtain ⟨hk, hb0, hb1, hb2, hsz⟩ := three_blocks w (.slice b n d) (.slice a m c)
  rw [← hYY] at hk hb0 hb1 hb2 hsz ⊢
  have HKY := Lib.hid hk; have HB0 := Lib.hid hb0; have HB1 := Lib.hid hb1; have H2 := Lib.hid hb2; have HY3 := Lib.hid hsz
  obtain ⟨P, SP, Q, SQ, p1, p2, p3, p4, p5, p6, p7, p8, p9⟩ := H1.out
  have HPL := Lib.hid p1; have HQL := Lib.hid p2; have HP := Lib.hid p4; have HQ := Lib.hid p5; have HWP := Lib.hid p6; have HWQ := Lib.hid p7; have HPLAST := Lib.hid p8; have HUN := Lib.hid p9
  clear hk hb0 hb1 hb2 hsz hYY p1 p2 p4 p5 p6 p7 p8 p9 H1
  have hb0 := cell_lit HB0.out 0 (v := .slice b n d) rfl
  have HCL := Lib.hid (clone64_any YY (v := .slice b n d) ((HP.out.new HKY.out (Nat.le_refl _)).more HKY.out.size) (by omega))
  refine HCL.out.mono ?_
  rintro e w2 ⟨v2, rfl, hown, hk2⟩
  obtain ⟨a1, c1, rfl, hcc1, -⟩ := hown.shape
  have HOW := Lib.hid hown; have HK2 := Lib.hid (HKY.out.trans hk2 (FSub.refl _ _)); have HN2 := Lib.hid (hk2.heap H2.out (by simp))
  have hb1 := cell_lit (hk2.heap HB1.out (by simp)) 0 (v := .slice a m c) rfl
  rw [HPL.out] at HOW ⊢
  clear hown hk2 HCL hb0
  go_wp2_with fail
  go_loopw [6, 7, 23] (fun _ _ i wr => ∃ (k : Nat) (L : List Nat), i = .int .i64 (k : Int) ∧ k ≤ m ∧ L.length = n ∧ WIn L (unionB SP (SQ.filter fun y => decide (y < 64 * (k : Int)))) ∧ L.getLast? ≠ some 0 ∧ rkW64.Own YY.heap.size wr (.slice a1 n c1) L ∧ Keeps [] w wr ∧ wr.heap[w.heap.size + 2]? = some (.cells btZA 27 (0, 0))) (fun _ _ i _ => m - (intOf i).toNat)
  case atStart => exact ⟨0, _, rfl, by omega, HPL.out, by
    rw [show (SQ.filter fun y => decide (y < 64 * ((0 : Nat) : Int))) = [] from List.filter_eq_nil_iff.2 fun y hy => by have := (HWQ.out.set.of hy).1; simp; omega]
    exact HWP.out, HPLAST.out, HOW.out, HK2.out, HN2.out⟩
  case round =>
    obtain ⟨k, L, rfl, hk, hL, hWL, hlast, hOL, hKL, hNL⟩ := hrel
    have HWL := Lib.hid hWL; have HLAST := Lib.hid hlast; have HOL := Lib.hid hOL; have HKL := Lib.hid hKL; have HNL := Lib.hid hNL
    clear hWL hlast hOL hKL hNL HOW HK2 HN2 hb1
    by_cases hlt : k < m
    · have hkq : k < Q.length := by rw [HQL.out]; exact hlt
      obtain ⟨bk, o, rfl, hbk, d1⟩ := InW_getD HQ.out hkq
      have d2 := HKL.out.cell d1 (by simp)
      obtain ⟨G, cap, e1, hG, hG2⟩ := own_at HOL.out (by omega)
      rw [hL] at e1
      simp only [Value.slice.injEq, true_and] at e1
      obtain ⟨rfl, rfl⟩ := e1
      have hput := fun z => W64.put HOL.out k (by omega) z
      have f1 := (hput 0).2.1
      have f2 := (hput 0).2.2
      have or1 := bits_or_u64_nat (L.getD k 0) (Q.getD k 0) (HWL.out.get k) (HWQ.out.get k)
      have HNXT := Lib.hid (union_next HWL.out HWQ.out (k := k) (by omega) HWP.out.set)
      have HLN := Lib.hid (last_or (k := k) (y := Q.getD k 0) HLAST.out)
      obtain ⟨x, hx⟩ : ∃ x, x = L.getD k 0 := ⟨_, rfl⟩
      obtain ⟨y, hy⟩ : ∃ y, y = Q.getD k 0 := ⟨_, rfl⟩
      rw [← hy] at d2 or1 HNXT HLN
      rw [← hx] at f2 or1 HNXT HLN
      obtain ⟨z, hz⟩ : ∃ z, z = x ||| y := ⟨_, rfl⟩
      rw [← hz] at or1 HNXT HLN
      have HOZ := Lib.hid (hput z).1
      have HKE := Lib.hid ((HKL.out.more (G := []) (by simp)).setCell ⟨G, k, none⟩ (.int .u64 (z : Int)) (.inr (Nat.le_trans HKY.out.size hG)))
      have HNE := Lib.hid (((Keeps.refl [G] wr).setCell ⟨G, k, none⟩ (.int .u64 (z : Int)) (.inl (by simp))).heap HNL.out (by have := HY3.out; simp; omega))
      clear d1 hx hy hz hput hbk hG hG2
      go_wp2_with fail
      go_roundw
      case rel => exact ⟨k + 1, L.set k z, by go_num, by omega, by rw [List.length_set]; exact hL, HNXT.out, HLN.out, HOZ.out, HKE.out, HNE.out⟩
      case measure => simp [intOf]; omega
    · obtain rfl : k = m := by omega
      have HALLQ := Lib.hid (show (SQ.filter fun y => decide (y < 64 * (k : Int))) = SQ from List.filter_eq_self.2 fun y hy => by
        obtain ⟨h0, hb⟩ := (HWQ.out.any y).1 hy
        have := wBit_lt hb
        rw [HQL.out] at this
        simp; omega)
      rw [HALLQ.out] at HWL
      have HOKZ := Lib.hid (btOk1 a1 n c1)
      go_wp2_with ((with_reducible refine wpList_putBt HOKZ.out btZ_ok ?_ ?_ HNL.out ?_); exact rfl; exact rfl)
      intro W2 hW2 hk2
      have HW2 := Lib.hid hW2; have HK5 := Lib.hid hk2
      clear hW2 hk2
      go_wp2_with fail
      try simp only [Exit.inBlock, Exit.then]
      have hks : Keeps [] w W2 := HKL.out.trans HK5.out (fun q hq => .inr (by simp at hq; omega))
      have hoZ := HOL.out.keeps HK5.out (fun q hq => by have := (own_new HOL.out q hq).1; have := HY3.out; simp; omega)
      exact bodyPost_ret (results_sk skB rfl _ _ (w.heap.size + 2) HOKZ.out rfl HW2.out) rfl ⟨_, rfl, ⟨_, L, rfl, by rw [← hL]; exact hL ▸ hoZ.in_, fun q hq => (own_new hoZ q hq).2, by rw [HUN.out]; exact HWL.out, HLAST.out⟩, hks, fun q hq => .inr (by have := (own_new hoZ q hq).1; have := HY3.out; omega)⟩
end Go.Proofs.YtbeniihbejakaaaDoor
/-
  The program's sets: Down.
-/
namespace Go.Proofs.YtbeniihbejakaaaDoor
open Go.RowKit
set_option maxRecDepth 100000
set_option maxHeartbeats 4000000
theorem bt_two (w : World) (u : Value) : Keeps [] w ((w.alloc (.cells #[u] 27)).alloc (.cells btZA 27)) ∧
    ((w.alloc (.cells #[u] 27)).alloc (.cells btZA 27)).heap[w.heap.size]? = some (.cells #[u] 27 (0, 0)) ∧
    ((w.alloc (.cells #[u] 27)).alloc (.cells btZA 27)).heap[w.heap.size + 1]? = some (.cells btZA 27 (0, 0)) ∧
    w.heap.size + 2 ≤ ((w.alloc (.cells #[u] 27)).alloc (.cells btZA 27)).heap.size := by
  have h0 := heap_alloc_new w (.cells #[u] 27)
  have s0 : (w.alloc (.cells #[u] 27)).heap.size = w.heap.size + 1 := World.size_alloc _ _
  have k0 : Keeps [] w (w.alloc (.cells #[u] 27)) := (Keeps.refl _ _).alloc _
  generalize w.alloc (.cells #[u] 27) = X at *
  have h1 := heap_alloc_new X (.cells btZA 27)
  have s1 : (X.alloc (.cells btZA 27)).heap.size = w.heap.size + 2 := by rw [World.size_alloc, s0]
  have k1 : Keeps [] X (X.alloc (.cells btZA 27)) := (Keeps.refl _ _).alloc _
  rw [s0] at h1
  exact ⟨k0.trans k1 (FSub.refl _ _), k1.heap h0 (by simp), h1, Nat.le_of_eq s1.symm⟩
section
variable {ops : Array Oper} {S : World → Prop} {o : Oper} {a : Act}
theorem yields_indexWi (hw : Region.wanted o (yielded ops a.tmps) = true) (x y : Operand) (ho : o.op = .indexAddr 25 x y) (g of n c k : Nat) (i : Int) (hx : a.eval x = .slice (some ⟨g, of, none⟩) n c) (hy : a.eval y = .int .i64 i) (hi : i = (k : Int)) (hk : k < n) :
    YieldsIf Tryd.prog ops S o (.pointer (some ⟨g, of + k, none⟩)) a := by subst hi; exact yields_indexW hw x y ho g of n c k hx hy hk
end
/-- A word moved down. -/
def downW (x y r : Nat) : Nat := x / 2 ^ r ||| (y * 2 ^ (64 - r)) % 18446744073709551616
theorem downW_bit {x : Nat} (hx : x < 18446744073709551616) (y : Nat) {r i : Nat} (hr : r < 64) (hi : i < 64) : (downW x y r).testBit i = if r + i < 64 then x.testBit (r + i) else y.testBit (r + i - 64) := by
  unfold downW
  rw [Nat.testBit_or, Nat.testBit_div_two_pow, Nat.add_comm i r, show (18446744073709551616 : Nat) = 2 ^ 64 by decide, Nat.testBit_mod_two_pow, decide_eq_true hi, Bool.true_and, Nat.testBit_mul_two_pow]
  by_cases h : r + i < 64
  · rw [if_pos h, decide_eq_false (by omega : ¬ 64 - r ≤ i)]; simp
  · rw [if_neg h, decide_eq_true (by omega : 64 - r ≤ i), show i - (64 - r) = r + i - 64 by omega]
    have : x.testBit (r + i) = false := Nat.testBit_lt_two_pow (Nat.lt_of_lt_of_le hx (by rw [← two64]; exact Nat.pow_le_pow_right (by decide) (by omega)))
    rw [this]; simp
theorem downW_lt {x : Nat} (hx : x < 18446744073709551616) (y r : Nat) : downW x y r < 18446744073709551616 := by
  unfold downW
  exact or_lt64 (Nat.lt_of_le_of_lt (Nat.div_le_self _ _) hx) (Nat.mod_lt _ (by decide))
theorem WIn.down {W L : List Nat} {S : List Int} {x q r k : Nat} {n : Int} (h : WIn W S) (hx : (if n < 0 then (0 : Int) else n) = (x : Int)) (hq : q = x / 64) (hr : r = x % 64) (hL : WIn L ((downB S n).filter fun y => decide (y < 64 * (k : Int)))) (hk : k < L.length) :
    WIn (L.set k (downW (W.getD (q + k) 0) (W.getD (q + k + 1) 0) r)) ((downB S n).filter fun y => decide (y < 64 * ((k + 1 : Nat) : Int))) :=
  ⟨set_lt hL.lt (downW_lt (h.get _) _ _), ⟨(downB_in h.set n).1.filter _, fun y hy => (downB_in h.set n).2 y (List.mem_filter.1 hy).1⟩, fun m => by
    have h1 := hL.tell m
    rw [wBit_set hk]
    simp only [List.mem_filter, decide_eq_true_eq, mem_downB, hx] at h1 ⊢
    by_cases e : m / 64 = k
    · rw [if_pos e, downW_bit (h.get _) _ (by omega) (by omega)]
      have h2 := h.tell (m + x)
      unfold wBit at h2
      rw [show ((m : Int) + (x : Int)) = ((m + x : Nat) : Int) from by omega, h2]
      have h4 : ((m : Int) < 64 * ((k + 1 : Nat) : Int)) := by omega
      by_cases hc : r + m % 64 < 64
      · rw [if_pos hc, show (m + x) / 64 = q + k by omega, show (m + x) % 64 = r + m % 64 by omega]
        constructor
        · rintro ⟨⟨-, h5⟩, -⟩; exact h5
        · intro h5; exact ⟨⟨by omega, h5⟩, h4⟩
      · rw [if_neg hc, show (m + x) / 64 = q + k + 1 by omega, show (m + x) % 64 = r + m % 64 - 64 by omega]
        constructor
        · rintro ⟨⟨-, h5⟩, -⟩; exact h5
        · intro h5; exact ⟨⟨by omega, h5⟩, h4⟩
    · rw [if_neg e, ← h1]
      have h4 : ((m : Int) < 64 * ((k + 1 : Nat) : Int)) ↔ ((m : Int) < 64 * (k : Int)) := by omega
      rw [h4]⟩
theorem btDown_any (w : World) (st : Value) (S : List Int) (n : Int) (h : BtAt w st S) (h64 : I64 n) : Calls Tryd.prog 21 #[st, .int .i64 n] w fun e w' => ∃ st', e = .returned st' ∧ BtAt w' st' (downB S n) ∧ Keeps [] w w' ∧ FSub (btFoot st') (btFoot st) w.heap.size := by
  obtain ⟨v, W, rfl, hI, ho, hW, hlast⟩ := h
  have hW1 := hW.len hlast
  obtain ⟨a, c, rfl, hc, hm, -⟩ := id hI
  have HI := Lib.hid hI; have HW := Lib.hid hW
  obtain ⟨x0, hx0⟩ : ∃ x0 : Nat, (if n < 0 then (0 : Int) else n) = (x0 : Int) := ⟨(if n < 0 then (0 : Int) else n).toNat, by split <;> omega⟩
  have HX0 := Lib.hid hx0
  have hxm : x0 ≤ 9223372036854775807 := by have := h64.2; split at hx0 <;> omega
  have hmax : max n 0 = (x0 : Int) := by split at hx0 <;> omega
  obtain ⟨q, hq⟩ : ∃ q, q = x0 / 64 := ⟨_, rfl⟩
  obtain ⟨r, hr⟩ : ∃ r, r = x0 % 64 := ⟨_, rfl⟩
  have hdv : (x0 : Int).tdiv 64 = (q : Int) := by rw [tdiv64, hq]
  have hdv2 : (x0 : Int) / 64 = (q : Int) := by omega
  have hmd : (x0 : Int).tmod 64 = (r : Int) := by rw [tmod64, hr]
  have hmd2 : (x0 : Int) % 64 = (r : Int) := by omega
  have hr64 : r < 64 := by omega
  have hwq : IntKind.i64.wrap (q : Int) = (q : Int) := IntWalk.i64_in _ ⟨by omega, by omega⟩
  have HQ := Lib.hid hq; have HRR := Lib.hid hr
  obtain ⟨hkz, hb0, hb1, hsz⟩ := bt_two w (.slice a W.length c)
  have HKZ := Lib.hid hkz; have HB1 := Lib.hid hb1; have HSZ := Lib.hid hsz
  have HC0 := Lib.hid (cell_lit hb0 0 (v := .slice a W.length c) rfl)
  clear hI hW ho hx0 h64 hlast hq hr hkz hb0 hb1 hsz
  generalize hmm : W.length = m at *
  have HMM := Lib.hid hmm
  clear hmm
  by_cases hge : m ≤ q
  case pos =>
    have HR := Lib.hid (show downB S n = [] from List.eq_nil_iff_forall_not_mem.2 fun y hy => by
      rw [mem_downB, HX0.out] at hy
      obtain ⟨h0, h1⟩ := hy
      have h2 := wBit_lt ((HW.out.any _).1 h1).2
      rw [HMM.out] at h2
      have := HQ.out
      omega)
    go_enter Tryd.func21, Tryd.ntmps21
    go_wp2_with fail
    exact bodyPost_ret (results_sk skB rfl _ _ (w.heap.size + 1) btZ_ok rfl HB1.out) rfl ⟨_, rfl, by rw [HR.out]; exact BtAt.zero _, HKZ.out, fun q hq => by simp [btFoot, btZ, own, Value.ownBlock] at hq⟩
  have hql : q < W.length := by rw [HMM.out]; omega
  obtain ⟨bk, o, rfl, hbk, -⟩ := InW_getD HI.out hql
  have HCF := Lib.hid (fun (i : Nat) (hi : i < W.length) => by
    obtain ⟨bk', o', e, -, h⟩ := InW_getD HI.out hi
    simp only [Option.some.injEq, Addr.mk.injEq, and_true] at e
    obtain ⟨rfl, rfl⟩ := e
    exact h)
  obtain ⟨Z, hZ⟩ : ∃ Z, Z = (w.alloc (.cells #[.slice (some ⟨bk, o, none⟩) m c] 27)).alloc (.cells btZA 27) := ⟨_, rfl⟩
  rw [← hZ] at HKZ HB1 HSZ HC0
  obtain ⟨w2, hmk, hown, hk2⟩ := run_makeW Z (m - q) (by omega)
  have HMK := Lib.hid (hZ ▸ hmk)
  obtain ⟨G, hG⟩ : ∃ G, G = Z.heap.size := ⟨_, rfl⟩
  have HG := Lib.hid (show w.heap.size + 2 ≤ G from by rw [hG]; exact HSZ.out)
  rw [← hG] at hmk hown
  have HMK := Lib.hid hmk
  have HOW := Lib.hid hown; have HK2 := Lib.hid (HKZ.out.trans hk2 (FSub.refl _ _)); have HN2 := Lib.hid (hk2.heap HB1.out (by simp))
  have hqm : q < m := by omega
  have hqc : q < c := by omega
  clear hmk hown hk2 hql hG
  rw [hZ] at HMK
  go_enter Tryd.func21, Tryd.ntmps21
  go_wp2_with ((with_reducible refine wpList_makeW _ _ ?_ ?_ HMK.out ?_); exact rfl; exact rfl)
  clear hZ HMK HC0
  obtain ⟨M, hM⟩ : ∃ M, M = m - q := ⟨_, rfl⟩
  have hMm : q + M = m := by omega
  rw [← hM] at HOW ⊢
  clear hM
  go_loopw [7, 27] (fun _ i wr => ∃ (k : Nat) (L : List Nat), i = .int .i64 (k : Int) ∧ k ≤ M ∧ L.length = M ∧ WIn L ((downB S n).filter fun y => decide (y < 64 * (k : Int))) ∧ rkW64.Own G wr (.slice (some ⟨G, 0, none⟩) M M) L ∧ Keeps [] w wr ∧ wr.heap[w.heap.size + 1]? = some (.cells btZA 27 (0, 0))) (fun _ i _ => M - (intOf i).toNat)
  case atStart => exact ⟨0, _, rfl, by omega, List.length_replicate, by
    rw [show ((downB S n).filter fun y => decide (y < 64 * ((0 : Nat) : Int))) = [] from List.filter_eq_nil_iff.2 fun y hy => by have := ((downB_in HW.out.set n).of hy).1; simp; omega]
    exact WIn.zeros M, HOW.out, HK2.out, HN2.out⟩
  case round =>
    obtain ⟨k, L, rfl, hk, hL, hWL, hOL, hKL, hNL⟩ := hrel
    have HWL := Lib.hid hWL; have HOL := Lib.hid hOL; have HKL := Lib.hid hKL; have HNL := Lib.hid hNL
    clear hWL hOL hKL hNL HOW HK2 HN2
    by_cases hlt : k < M
    · have hkq : q + k < W.length := by rw [HMM.out]; omega
      have d1 := HKL.out.cell (HCF.out (q + k) hkq) (by simp)
      rw [← Nat.add_assoc] at d1
      have hput := fun z => W64.put HOL.out k (by omega) z
      have f1 := (hput 0).2.1
      have f2 := (hput 0).2.2
      have HNXT := Lib.hid (HW.out.down HX0.out HQ.out HRR.out HWL.out (k := k) (by omega))
      have hgl : ∀ i, W.getD i 0 < 18446744073709551616 := HW.out.get
      obtain ⟨x, hx⟩ : ∃ x, x = W.getD (q + k) 0 := ⟨_, rfl⟩
      have hxl : x < 18446744073709551616 := by rw [hx]; exact hgl _
      rw [← hx] at d1 HNXT
      obtain ⟨y1, hy1⟩ : ∃ y1, y1 = x / 2 ^ r := ⟨_, rfl⟩
      have hsh : (x : Int) / 2 ^ r = (y1 : Int) := by rw [hy1, Int.natCast_ediv, Int.natCast_pow]; rfl
      have hy1l : y1 < 18446744073709551616 := by rw [hy1]; exact Nat.lt_of_le_of_lt (Nat.div_le_self _ _) hxl
      have HO1 := Lib.hid (hput y1).1
      have HK1 := Lib.hid ((HKL.out.more (G := []) (by simp)).setCell ⟨G, k, none⟩ (.int .u64 (y1 : Int)) (.inr (by have := HG.out; show w.heap.size ≤ G; omega)))
      have HN1 := Lib.hid (((Keeps.refl [G] wr).setCell ⟨G, k, none⟩ (.int .u64 (y1 : Int)) (.inl (by simp))).heap HNL.out (by have := HG.out; simp; omega))
      clear hput
      by_cases hk1 : k + 1 < M
      case neg =>
        have HLAST := Lib.hid (show WIn (L.set k y1) ((downB S n).filter fun y => decide (y < 64 * ((k + 1 : Nat) : Int))) from by
          have h0 : W.getD (q + k + 1) 0 = 0 := getW_out W 0 (by rw [HMM.out]; omega)
          have := HNXT.out
          rw [h0, downW, Nat.zero_mul, Nat.zero_mod, Nat.or_zero, ← hy1] at this
          exact this)
        have hk2 : ¬ (k : Int) + 1 < (M : Int) := by omega
        clear hx hy1 hgl
        go_wp2_with fail
        go_roundw
        case rel => exact ⟨k + 1, L.set k y1, by go_num, by omega, by rw [List.length_set]; exact hL, HLAST.out, HO1.out, HK1.out, HN1.out⟩
        case measure => simp [intOf]; omega
      have hk2 : (k : Int) + 1 < (M : Int) := by omega
      have hkq1 : q + (k + 1) < W.length := by rw [HMM.out]; omega
      obtain ⟨V, hV⟩ : ∃ V, V = wr.setCell ⟨G, k, none⟩ (.int .u64 (y1 : Int)) := ⟨_, rfl⟩
      rw [← hV] at HO1 HK1 HN1
      have hcy := HK1.out.cell (HCF.out (q + (k + 1)) hkq1) (by simp)
      rw [← Nat.add_assoc, ← Nat.add_assoc] at hcy
      obtain ⟨y, hy⟩ : ∃ y, y = W.getD (q + k + 1) 0 := ⟨_, rfl⟩
      rw [show q + (k + 1) = q + k + 1 from rfl] at hcy
      rw [← hy] at hcy HNXT
      obtain ⟨t, ht⟩ : ∃ t, t = 64 - r := ⟨_, rfl⟩
      obtain ⟨y2, hy2⟩ : ∃ y2, y2 = (y * 2 ^ t) % 18446744073709551616 := ⟨_, rfl⟩
      have ht1 : (64 : Int) - (r : Int) = (t : Int) := by omega
      have ht64 : t ≤ 64 := by omega
      have hwt : IntKind.i64.wrap (t : Int) = (t : Int) := IntWalk.i64_in _ ⟨by omega, by omega⟩
      have hsl : IntKind.u64.wrap ((y : Int) * 2 ^ t) = (y2 : Int) := by
        rw [IntKind.wrap_u64, hy2, Int.natCast_emod, Int.natCast_mul, Int.natCast_pow]; rfl
      have hy2l : y2 < 18446744073709551616 := by rw [hy2]; exact Nat.mod_lt _ (by decide)
      have e1 := bits_or_u64_nat y1 y2 hy1l hy2l
      obtain ⟨z, hz⟩ : ∃ z, z = y1 ||| y2 := ⟨_, rfl⟩
      rw [← hz] at e1
      have HNXZ := Lib.hid (show WIn (L.set k z) ((downB S n).filter fun y => decide (y < 64 * ((k + 1 : Nat) : Int))) from by
        have := HNXT.out
        rw [downW, ← hy1, ← ht, ← hy2, ← hz] at this
        exact this)
      have HPUT := Lib.hid (fun (Y : World) (h : Keeps [] V Y) (z : Nat) => by
        have h2 := W64.put (HO1.out.keeps h (by simp)) k (by rw [List.length_set]; omega) z
        rw [List.set_set, getW_in _ 0 (by rw [List.length_set]; omega), List.getElem_set_self] at h2
        exact h2)
      have hGV := HG.out
      have hcyF := hcy
      clear hx hy1 hgl hy hy2 hz ht hcy
      obtain ⟨S0, hS0⟩ : ∃ S0 : World → Prop, S0 = fun y => Keeps [G] V y := ⟨_, rfl⟩
      have HSE := Lib.hid hS0
      have hSD : S0 V.drew := by rw [hS0]; exact (Keeps.refl _ _).drew
      have HSC := Lib.hid (fun (w' : World) (hh : S0 w') => show w'.cell? ⟨bk, o + q + (k + 1), none⟩ = some (.int .u64 (y : Int)) from by rw [hS0] at hh; exact hh.cell hcyF (by simp; omega))
      clear hS0 hcyF
      have hsub : k + 1 < M := hk1
      have hwk : IntKind.i64.wrap ((k : Int) + 1) = (k : Int) + 1 := IntWalk.i64_in _ ⟨by omega, by omega⟩
      have hMq : m - q = M := by omega
      go_wp2_with fail
      rw [← hV]
      clear hV
      refine wp_region_noPanic ?_
      refine wp_region_held_drew (S := S0) (by kernel_rfl) hSD (fun hHeld => ?_)
      have HY := Lib.hid ((Keeps.refl [] V).drew)
      generalize V.drew = YC at *
      refine tw 0 (h := ?_)
      refine tw 1 (h := ?_)
      refine tk 2 (y := by exact yields_indexW0 rfl _ _ rfl G _ _ k rfl rfl hlt) (h := ?_)
      refine tw 4 (h := ?_)
      refine tw 5 (h := ?_)
      refine tw 6 (h := ?_)
      refine tk 7 (y := by exact yields_indexWi rfl _ _ rfl bk (o + q) _ _ (k + 1) ((k : Int) + 1) rfl rfl (by omega) hsub) (h := ?_)
      refine tk 8 (y := by exact Or.inl ⟨by rfl, by intro w hSw; have q0 := HSC.out w hSw; go_simp; try with_reducible rfl⟩) (h := ?_)
      refine tw 9 (h := ?_)
      refine tw 10 (h := ?_)
      refine tw 11 (h := ?_)
      refine tw 12 (h := ?_)
      refine rp 3 (h := fun K hK => ?_)
      refine wp_loadW rfl (g := G) (j := k) (z := .int .u64 (y1 : Int)) rfl ((HPUT.out YC HY.out 0).2.2) ?_
      refine hK.out _ _ (by rw [HSE.out]; exact HY.out.more (by simp)) (fun hHeld => ?_); clear hK K; try simp only [Act.put, lsA, lsZ, lsS]
      refine tw 13 (h := ?_)
      refine tk 14 (y := by exact yields_indexW0 rfl _ _ rfl G _ _ k rfl rfl hlt) (h := ?_)
      refine rp 15 (h := fun K hK => ?_)
      refine wp_putW rfl (g := G) (j := k) (z := (z : Int)) (old := (y1 : Int)) rfl rfl ((HPUT.out YC HY.out 0).2.2) ((HPUT.out YC HY.out 0).2.1) ?_
      have HOZ := Lib.hid (HPUT.out YC HY.out z).1
      have HYE := Lib.hid ((HY.out.more (G := [G]) (by simp)).setCell ⟨G, k, none⟩ (.int .u64 (z : Int)) (.inl (by simp)))
      refine hK.out _ _ (by rw [HSE.out]; exact HYE.out) (fun hHeld => ?_); clear hK K; try simp only [Act.put, lsA, lsZ, lsS]
      refine wpAnyH_done (by kernel_rfl) ?_ _
      refine NoPanic.normal ?_
      generalize YC.setCell ⟨G, k, none⟩ (.int .u64 (z : Int)) = YE at *
      have HKE := Lib.hid (show Keeps [] w YE from HK1.out.trans HYE.out (fun q hq => by have := HG.out; simp at hq; exact .inr (by omega)))
      have HNE := Lib.hid (HYE.out.heap HN1.out (by have := HG.out; simp; omega))
      clear HPUT HYE hHeld hSD HSE HY HSC
      go_wp2_with fail
      go_roundw
      case rel => exact ⟨k + 1, L.set k z, by go_num, by omega, by rw [List.length_set]; exact hL, HNXZ.out, HOZ.out, HKE.out, HNE.out⟩
      case measure => simp [intOf]; omega
    · obtain rfl : k = M := by omega
      have HALL := Lib.hid (show ((downB S n).filter fun y => decide (y < 64 * (k : Int))) = downB S n from List.filter_eq_self.2 fun y hy => by
        rw [mem_downB, HX0.out] at hy
        obtain ⟨h0, h1⟩ := hy
        have h2 := wBit_lt ((HW.out.any _).1 h1).2
        rw [HMM.out] at h2
        have := HQ.out
        simp; omega)
      rw [HALL.out] at HWL
      have HKW := HKL; have HNW := HNL
      have HGW := Lib.hid (show ∀ p ∈ own (.slice (some ⟨G, 0, none⟩) k k), w.heap.size + 2 ≤ p ∧ p < wr.heap.size from fun p hp => by
        have := own_new HOL.out p hp; have := HG.out; omega)
      have HSW := Lib.hid (show w.heap.size + 2 ≤ wr.heap.size from lt_of_block HNL.out)
      have HMD := Lib.hid (btMade_any wr HOL.out.in_ (fun p hp => (HGW.out p hp).2) HWL.out (by omega))
      go_wp2_with fail
      refine HMD.out.mono ?_
      rintro e w4 ⟨st, rfl, hat, hk4, hft⟩
      obtain ⟨A, rfl, hA⟩ := hat.cells
      have HAT := Lib.hid hat; have HK4 := Lib.hid (HKW.out.trans hk4 (FSub.refl _ _)); have HN4 := Lib.hid (hk4.heap HNW.out (by simp)); have HOA := Lib.hid hA
      have HFT := Lib.hid (show ∀ q ∈ btFoot (.agg A.toArray), w.heap.size + 2 ≤ q from fun q hq => by
        rcases hft q hq with h | h
        · exact (HGW.out _ h).1
        · exact Nat.le_trans HSW.out h)
      clear hat hk4 hft hA HMD HNW
      go_wp2_with ((with_reducible refine wpList_putBt HOA.out btZ_ok ?_ ?_ HN4.out ?_); exact rfl; exact rfl)
      intro W2 hW2 hk2
      have HW2 := Lib.hid hW2; have HK5 := Lib.hid hk2
      clear hW2 hk2
      go_wp2_with fail
      try simp only [Exit.inBlock, Exit.then]
      have hks : Keeps [] w W2 := HK4.out.trans HK5.out (fun q hq => .inr (by simp at hq; omega))
      exact bodyPost_ret (results_sk skB rfl _ _ (w.heap.size + 1) HOA.out rfl HW2.out) rfl ⟨_, rfl, HAT.out.keep HK5.out (fun q hq => by have := HFT.out q hq; simp; omega), hks, fun q hq => .inr (by have := HFT.out q hq; omega)⟩
end Go.Proofs.YtbeniihbejakaaaDoor
