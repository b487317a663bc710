/-
  What was taken, as a row of events.
-/
import Derived.BigQuiet
import Derived.Test.YtlaccndjlfpjbaaGreatDoorM18
import Derived.Test.YtlaccndjlfpjbaaGreatDoorM12
set_option linter.unusedSimpArgs false
set_option linter.unusedVariables false
namespace Go.Proofs.YtlaccndjlfpjbaaGreatDoor
open Go.RowKit Go.Maps
theorem HAuto.oz {w : World} {a p mb n : Nat} {L : List Ev} {O : List Nat} (h : HAuto w a p mb n L O) : ∀ q ∈ O, q < w.heap.size := by
  obtain ⟨g, on, op, la, ap, h1, h2⟩ := h
  exact h1.past.oz
theorem HAuto.lt {w : World} {a p mb n : Nat} {L : List Ev} {O : List Nat} (h : HAuto w a p mb n L O) : a < w.heap.size ∧ p < w.heap.size ∧ mb < w.heap.size := by
  obtain ⟨g, on, op, la, ap, h1, h2⟩ := h
  exact ⟨lt_of_block h1.cell, lt_of_block h1.past.heap, h1.past.map.lt⟩
theorem Nums.up7 {N M : Nat} {w : World} {v : Value} {l : List Int} (h : Nums N w v l) (hM : N ≤ M) : Nums M w v l := h.more hM
theorem EvAt.up7 {N M : Nat} {w : World} {tx rd : Value} {x : Ev} (h : EvAt N w tx rd x) (hM : N ≤ M) : EvAt M w tx rd x := by
  obtain ⟨⟨a, c, rfl, h1, h2, h3⟩, ⟨a', c', rfl, h4, h5, h6⟩⟩ := h
  refine ⟨⟨a, c, rfl, h1, h2, fun hn => ?_⟩, ⟨a', c', rfl, h4, h5, fun hn => ?_⟩⟩
  · obtain ⟨bk, o, rfl, hb, h7⟩ := h3 hn
    exact ⟨bk, o, rfl, by omega, h7⟩
  · obtain ⟨bk, o, rfl, hb, h7⟩ := h6 hn
    refine ⟨bk, o, rfl, by omega, fun j hj => ?_⟩
    obtain ⟨u, hu, h8⟩ := h7 j hj
    exact ⟨u, hu, h8.more hM⟩
theorem evs_row {base N : Nat} {w : World} {v : Value} {T : EvL} (h : RowE base w v T) (hA : ∀ p ∈ T, EvAt N w p.2.1 p.2.2 p.1) (hN : N ≤ w.heap.size) : Evs w.heap.size w v (evsOf T) := by
  obtain ⟨a, c, rfl, hc, hm⟩ := h.shape
  refine ⟨a, c, by simp [evsOf], by simpa [evsOf] using hc, hm, fun hn => ?_⟩
  have hne : T ≠ [] := fun e => hn (by rw [e]; rfl)
  obtain ⟨g, cap, e, _, _, _, hg, hr⟩ := h.at hne
  simp at e
  obtain ⟨rfl, rfl⟩ := e
  refine ⟨g, 0, rfl, hg, fun j hj => ?_⟩
  have hj2 : j < T.length := by simpa [evsOf] using hj
  have e2 : (evsOf T).getD j evZero = T[j].1 := by simp [evsOf, List.getD, hj2]
  rw [e2]
  refine ⟨T[j].2.1, T[j].2.2, (hA _ (List.getElem_mem hj2)).up7 hN, ?_⟩
  have := hr j hj2
  rw [Nat.zero_add]; exact this
/-- An automaton, and the events that it took. -/
structure TkInv (N : Nat) (w0 wr : World) (A p mb m : Nat) (L : List Ev) (O : List Nat) (tv : Value) (T : EvL) : Prop where
  au : HAuto wr A p mb m L O
  row : RowE w0.heap.size wr tv T
  ev : evsOf T = L
  evs : ∀ q ∈ T, EvAt N wr q.2.1 q.2.2 q.1
  ap : ∀ g ∈ own tv, g ≠ A ∧ g ≠ p ∧ g ≠ mb ∧ g ∉ O
  kp : Keeps [] w0 wr
  lo : w0.heap.size ≤ A ∧ w0.heap.size ≤ p ∧ w0.heap.size ≤ mb ∧ ∀ q ∈ O, w0.heap.size ≤ q
theorem TkInv.new {N : Nat} {w0 wr w' : World} {A p mb m : Nat} {L : List Ev} {O : List Nat} {tv : Value} {T : EvL} (h : TkInv N w0 wr A p mb m L O tv T) (hN : N ≤ w0.heap.size) (hk : Keeps [] wr w') : TkInv N w0 w' A p mb m L O tv T :=
  ⟨h.au.new hk, row_old h.row hk (by simp), h.ev, fun q hq => (h.evs q hq).new hk (Nat.le_trans hN h.kp.size), h.ap, h.kp.trans hk (FSub.refl _ _), h.lo⟩
/-- Step, then nothing or an append. -/
theorem TkInv.step {N : Nat} {w0 wr w' : World} {A p mb m : Nat} {L : List Ev} {O : List Nat} {tv : Value} {T : EvL} (h : TkInv N w0 wr A p mb m L O tv T) (hN : N ≤ w0.heap.size) {x : Ev} {e : Ending} (hs : StepPost wr A p mb m L O x e w') :
    e = .returned (.int .i64 (hErr opChk mayOf L x)) ∧ ∃ m' O', HAuto w' A p mb m' (hNext opChk mayOf L x) O' ∧ RowE w0.heap.size w' tv T ∧ (∀ q ∈ T, EvAt N w' q.2.1 q.2.2 q.1) ∧ (∀ g ∈ own tv, g ≠ A ∧ g ≠ p ∧ g ≠ mb ∧ g ∉ O' ∧ g < w'.heap.size) ∧ Keeps [] w0 w' ∧ (∀ q ∈ O', w0.heap.size ≤ q) ∧ m' ≤ m + 8 := by
  obtain ⟨he, m', O', hA, hk, hf, hm⟩ := hs
  refine ⟨he, m', O', hA, ?_, fun q hq => ?_, fun g hg => ?_, h.kp.trans hk (fun q hq => .inr (by simp at hq; rcases hq with rfl | rfl; exact h.lo.2.1; exact h.lo.2.2.1)), fun q hq => ?_, hm⟩
  · exact row_old h.row hk (fun q hq => by simp; exact ⟨(h.ap q hq).2.1, (h.ap q hq).2.2.1⟩)
  · exact (h.evs q hq).same (hk.same (Nat.le_trans hN h.kp.size) (fun g hg => by simp at hg; rcases hg with rfl | rfl; exact Nat.le_trans hN h.lo.2.1; exact Nat.le_trans hN h.lo.2.2.1))
  · obtain ⟨h1, h2, h3, h4⟩ := h.ap g hg
    have hb := row_base h.row g hg
    exact ⟨h1, h2, h3, fun hq => (hf g hq).elim h4 (fun h5 => by omega), Nat.lt_of_lt_of_le hb.2 hk.size⟩
  · exact (hf q hq).elim (h.lo.2.2.2 q) (fun h5 => Nat.le_trans h.kp.size h5)
theorem TkInv.skip {N : Nat} {w0 wr w' : World} {A p mb m : Nat} {L : List Ev} {O : List Nat} {tv : Value} {T : EvL} (h : TkInv N w0 wr A p mb m L O tv T) (hN : N ≤ w0.heap.size) {x : Ev} {e : Ending} (hs : StepPost wr A p mb m L O x e w') (hx : hErr opChk mayOf L x ≠ 0) :
    ∃ m' O', TkInv N w0 w' A p mb m' L O' tv T ∧ m' ≤ m + 8 := by
  obtain ⟨_, m', O', h1, h2, h3, h4, h5, h6, h7⟩ := h.step hN hs
  rw [hNext_no _ _ hx] at h1
  exact ⟨m', O', ⟨h1, h2, h.ev, h3, fun g hg => ⟨(h4 g hg).1, (h4 g hg).2.1, (h4 g hg).2.2.1, (h4 g hg).2.2.2.1⟩, h5, h.lo.1, h.lo.2.1, h.lo.2.2.1, h6⟩, h7⟩
/-- What Step took is appended. -/
theorem TkInv.take {N : Nat} {w0 wr w1 : World} {A p mb m : Nat} {L : List Ev} {O : List Nat} {tv : Value} {T : EvL} (h : TkInv N w0 wr A p mb m L O tv T) (hN : N ≤ w0.heap.size) {x : Ev} {e : Ending} (hs : StepPost wr A p mb m L O x e w1) (hx : hErr opChk mayOf L x = 0)
    (hn : T.length ≤ 1000) (tx rd : Value) (ht : EvAt N w1 tx rd x) :
    ∃ tv' w2 m' O', (Builtin.append_ #[22, 22] 22 #[tv, .slice (some ⟨w1.heap.size, 0, none⟩) 1 1]).run Tryz.prog (w1.alloc (.cells (evC x tx rd) 42)) = .ok tv' w2 ∧ TkInv N w0 w2 A p mb m' (L ++ [x]) O' tv' (T ++ [(x, tx, rd)]) ∧ m' ≤ m + 8 := by
  obtain ⟨_, m', O', h1, h2, h3, h4, h5, h6, h7⟩ := h.step hN hs
  rw [hNext_yes _ _ hx] at h1
  obtain ⟨tv', w2, hr, ho, hk, hf⟩ := append_ev w1 w0.heap.size h5.size tv T h2 (by omega) x tx rd ht.t.one ht.r.one
  have hN1 : N ≤ w1.heap.size := Nat.le_trans hN h5.size
  have hap : ∀ q ∈ own tv, N ≤ q := fun q hq => Nat.le_trans hN (row_base h2 q hq).1
  refine ⟨tv', w2, m', O', hr, ⟨h1.keeps hk (fun hq => (h4 _ hq).1 rfl) (fun hq => (h4 _ hq).2.1 rfl) (fun hq => (h4 _ hq).2.2.1 rfl) (fun q hq hq2 => (h4 _ hq2).2.2.2.1 hq), ho, by simp [evsOf]; exact h.ev, fun q hq => ?_, fun g hg => ?_, h5.trans hk (fun q hq => .inr (row_base h2 q hq).1), h.lo.1, h.lo.2.1, h.lo.2.2.1, h6⟩, h7⟩
  · rcases List.mem_append.1 hq with hq | hq
    · exact (h3 q hq).same (hk.same hN1 hap)
    · simp at hq; subst hq; exact ht.same (hk.same hN1 hap)
  · rcases hf g hg with h8 | h8
    · exact ⟨(h4 g h8).1, (h4 g h8).2.1, (h4 g h8).2.2.1, (h4 g h8).2.2.2.1⟩
    · obtain ⟨l1, l2, l3⟩ := h1.lt
      exact ⟨by omega, by omega, by omega, fun hq => by have := h1.oz g hq; omega⟩
end Go.Proofs.YtlaccndjlfpjbaaGreatDoor
/-
  HistoryTurns: its walk.
-/
namespace Go.Proofs.YtlaccndjlfpjbaaGreatDoor
open Go.RowKit Go.Maps
set_option maxHeartbeats 16000000
set_option maxRecDepth 100000
theorem HistoryTurns_any (w : World) (hG : Glob4 w) (l : List Ev) (hi : ∀ x ∈ l, x.In) (v : Value) {N : Nat} (hv : Evs N w v l) (hN : N ≤ w.heap.size) :
    Calls Tryz.prog 6 #[v] w fun e w' => e = .returned (.bool true) ∧ Keeps [] w w' := by
  have HFEW := Lib.hid (few7_any w l v hv hN)
  obtain ⟨a, c, rfl, hc, hm, hrow⟩ := hv
  have HR := Lib.hid hrow; have HG := Lib.hid hG; have HL := Lib.hid hi
  have hnn : (l.length : Int) ≤ 9223372036854775807 := by omega
  clear hrow hG hi hm
  generalize hn2 : l.length = n at *
  have HN2 := Lib.hid hn2
  clear hn2
  go_enter Tryz.func6, Tryz.ntmps6
  go_wp2_with fail
  refine (HFEW.out).mono ?_; rintro e w0 ⟨B, rfl, hB, hw0⟩
  rw [hw0]
  clear hw0 HFEW
  cases B with
  | false =>
    have HAW := Lib.hid (awake7_any w HG.out)
    clear hB HR
    go_wp2_with fail
    refine (HAW.out).mono ?_; rintro e w1 ⟨rfl, hk1⟩
    go_wp2_with fail
    go_ret
    exact ⟨rfl, hk1⟩
  | true =>
    have h120 : n ≤ 120 := by have := hB rfl; rw [HN2.out] at this; exact this
    clear hB
    go_wp2_with fail
    refine (hNew_any w).mono ?_; rintro e w1 ⟨A, p, mb, rfl, hA1, hk1, b1, b2, b3⟩
    have HT0 := Lib.hid (show TkInv N w w1 A p mb 0 (hAll opChk mayOf [] (l.take 0)) [] (.slice none 0 0) [] from ⟨by simpa [hAll] using hA1, ⟨rfl, .inl ⟨rfl, rfl⟩⟩, by simp [evsOf, hAll], by simp, by simp [own, Value.ownBlock], hk1, b1, b2, b3, by simp⟩)
    clear hA1 hk1 b1 b2 b3
    go_wp2_with fail
    go_loopw [4, 5] (fun tv i wr => ∃ (k m : Nat) (O : List Nat) (T : EvL), i = .int .i64 k ∧ k ≤ n ∧ m ≤ 8 * k ∧ T.length ≤ k ∧ TkInv N w wr A p mb m (hAll opChk mayOf [] (l.take k)) O tv T) (fun _ i _ => n - (intOf i).toNat)
    case atStart => exact ⟨0, 0, [], [], rfl, by omega, by omega, by simp, HT0.out⟩
    case round =>
      clear HT0
      obtain ⟨k, m, O, T, rfl, hk, hm, hT, hI⟩ := hrel
      by_cases hlt : k < n
      · have hlt2 : k < l.length := by have := HN2.out; omega
        obtain ⟨bk, o, rfl, hbk, hcell⟩ := HR.out (fun e => by rw [e] at hlt2; simp at hlt2)
        obtain ⟨tx, rd, ht, hr⟩ := hcell k hlt
        have hmem : l.getD k evZero ∈ l := getD_in evZero hlt2
        have htk := take_nextD evZero hlt2
        have hxi := HL.out _ hmem
        have hok : HistOk (hAll opChk mayOf [] (l.take k)) := hAll_ok HistOk.nil _ (fun x hx => HL.out x (List.mem_of_mem_take hx))
        have hnx : hNext opChk mayOf (hAll opChk mayOf [] (l.take k)) (l.getD k evZero) = hAll opChk mayOf [] (l.take (k + 1)) := by rw [htk, hAll_snoc]
        have hsame := hI.kp.same hN (by simp)
        have hr2 := rangeAt_same hr hsame hbk
        have HTX := Lib.hid (ht.same hsame)
        have HNX := Lib.hid hnx; have HI := Lib.hid hI; have HOK := Lib.hid hok; have HXI := Lib.hid hxi
        clear hcell ht hr hmem htk hok hnx hI hxi hsame
        generalize hAll opChk mayOf [] (l.take k) = L at *
        generalize l.getD k evZero = x at *
        have HR2 := Lib.hid hr2
        have HST := Lib.hid (hStep_any wr (HG.out.new HI.out.kp) HI.out.au HOK.out (by omega) x HXI.out tx rd HTX.out (Nat.le_trans hN HI.out.kp.size))
        go_wp2_with ((with_reducible apply wpList_load_evM); exact rfl; assumption)
        clear hr2
        refine (HST.out).mono ?_; intro e w2 hst
        have HSP := Lib.hid hst
        obtain ⟨rfl, _⟩ := hst
        clear HST
        by_cases hz : hErr opChk mayOf L x = 0
        · have hk2 : Same N wr w2 := by
            obtain ⟨_, _, _, _, hk, _⟩ := HSP.out
            exact hk.same (Nat.le_trans hN HI.out.kp.size) (fun g hg => by simp at hg; rcases hg with rfl | rfl; exact Nat.le_trans hN HI.out.lo.2.1; exact Nat.le_trans hN HI.out.lo.2.2.1)
          obtain ⟨tv', w3, m', O', hrun, hI3, hm3⟩ := HI.out.take hN HSP.out hz (by omega) tx rd (HTX.out.same hk2)
          have hr3 := rangeAt_same HR2.out hk2 hbk
          rw [← hNext_yes _ _ hz, HNX.out] at hI3
          have HRUN := Lib.hid hrun; have HI3 := Lib.hid hI3
          rw [hz]
          clear hz hk2 hrun hI3 HSP HI HNX HTX HXI HR2
          go_wp2_with (first
            | ((with_reducible apply wpList_load_evM); exact rfl; assumption)
            | ((with_reducible apply wpList_build_evs); exact rfl)
            | (refine wpList_append_run rfl _ _ 22 rfl _ _ tv' w3 rfl rfl HRUN.out ?_))
          clear hr3 HRUN
          go_wp2_with fail
          go_roundw
          case rel => exact ⟨k + 1, m', O', T ++ [(x, tx, rd)], by go_num, by omega, by omega, by simp; omega, HI3.out⟩
          case measure => simp [intOf]; omega
        · obtain ⟨m', O', hI3, hm3⟩ := HI.out.skip hN HSP.out hz
          have hnx := HNX.out
          rw [hNext_no _ _ hz] at hnx
          rw [hnx] at hI3
          have HI3 := Lib.hid hI3
          generalize hErr opChk mayOf L x = E at *
          have t1 : (E == 0) = false := by simpa using hz
          clear hz hnx hI3 HSP HI HNX HTX HXI HR2
          go_wp2_with fail
          go_roundw
          case rel => exact ⟨k + 1, m', O', T, by go_num, by omega, by omega, by omega, HI3.out⟩
          case measure => simp [intOf]; omega
      · obtain rfl : k = n := by omega
        obtain ⟨W1, hW1⟩ : ∃ W1, W1 = wr := ⟨_, rfl⟩
        subst hW1
        have hlen := HN2.out
        rw [← hlen, List.take_length] at hI
        have hok : HistOk (hAll opChk mayOf [] l) := hAll_ok HistOk.nil _ HL.out
        generalize hAll opChk mayOf [] l = L at *
        obtain ⟨at_, ct, rfl, hct, hcm⟩ := hI.row.shape
        have HI := Lib.hid hI; have HOK := Lib.hid hok
        have hTL : L.length = T.length := by rw [← hI.ev]; simp [evsOf]
        have HTL := Lib.hid hTL
        clear hI hok hlen hTL HR
        generalize hTn : T.length = tn at *
        have HTN := Lib.hid hTn
        clear hTn
        have h1B := heap_alloc_lt (o := .cells ((List.replicate 16 (0 : Int)).map (Value.int .u16)).toArray 64) (heap_alloc_new W1 (.cells ((List.replicate 16 false).map Value.bool).toArray 63))
        have h2B := heap_alloc_new (W1.alloc (.cells ((List.replicate 16 false).map Value.bool).toArray 63)) (.cells ((List.replicate 16 (0 : Int)).map (Value.int .u16)).toArray 64)
        have hs2 : (W1.alloc (.cells ((List.replicate 16 false).map Value.bool).toArray 63)).heap.size = W1.heap.size + 1 := by simp
        rw [hs2] at h2B
        have hkB := ((Keeps.refl [] W1).alloc (.cells ((List.replicate 16 false).map Value.bool).toArray 63)).alloc (.cells ((List.replicate 16 (0 : Int)).map (Value.int .u16)).toArray 64)
        have H1B := Lib.hid h1B; have H2B := Lib.hid h2B; have HKB := Lib.hid hkB
        clear h1B h2B hs2 hkB
        go_wp2_with fail
        go_loopw [2, 8, 9, 10, 11, 12, 13, 14] (fun q la i _ _ _ _ _ wr => ∃ (j : Nat) (op : List Bool) (id : List Int) (last : Int), q = .bool false ∧ la = .int .i64 last ∧ i = .int .i64 j ∧ j ≤ tn ∧ wr.heap[W1.heap.size]? = some (.cells (op.map Value.bool).toArray 63 (0, 0)) ∧ wr.heap[W1.heap.size + 1]? = some (.cells (id.map (Value.int .u16)).toArray 64 (0, 0)) ∧
          (j = 0 → op = List.replicate 16 false ∧ id = List.replicate 16 0 ∧ last = -1) ∧ (1 ≤ j → TurnSt (L.take j) op id last) ∧ Keeps [] W1 wr) (fun _ _ i _ _ _ _ _ _ => tn - (intOf i).toNat)
        case atStart => exact ⟨0, _, _, -1, rfl, rfl, rfl, by omega, H1B.out, H2B.out, fun _ => ⟨rfl, rfl, rfl⟩, fun h => by omega, HKB.out⟩
        case round =>
          clear H1B H2B HKB
          obtain ⟨j, op, id, last, rfl, rfl, rfl, hj, h1B, h2B, hj0, hj1, hkp⟩ := hrel
          by_cases hlt : j < tn
          · have hjT : j < T.length := by have := HTN.out; omega
            have hjL : j < L.length := by have := HTL.out; omega
            obtain ⟨g, cap, hge, _, _, _, hgs, hrng⟩ := HI.out.row.at (fun e => by rw [e] at hjT; simp at hjT)
            simp at hge
            obtain ⟨rfl, -⟩ := hge
            have hr := hrng j hjT
            have hat := HI.out.evs _ (List.getElem_mem hjT)
            have hxL : L[j] = (T[j]).1 := by have := HI.out.ev; subst this; simp [evsOf]
            have hxin := HOK.out.i _ (List.getElem_mem hjL)
            have HGX := Lib.hid (hist_good HOK.out.h _ (List.getElem_mem hjL))
            have HT1 := Lib.hid (take_succ_get hjL)
            have hfirst : j = 0 → (L[j]).k = 1 := fun e => by subst e; exact hist_first HOK.out.h hjL
            have hturn := fun (h1 : 1 ≤ j) (c : Nat) hc => hist_turn HOK.out.h h1 hjL (hj1 h1) (c := c) hc
            have honce := fun (n : Nat) (hn : n < j) => @hist_once _ _ L HOK.out.h j n hjL hn
            have hr2 : wr.rangeAt g (j * 19) (evC (T[j]).1 (T[j]).2.1 (T[j]).2.2).toList := rangeAt_same hr (hkp.same (Nat.le_refl _) (by simp)) hgs
            have hx1 := hat.t.one; have hx2 := hat.r.one
            rw [← hxL] at hr2 hat
            have HTX := Lib.hid hat
            have HTURN := Lib.hid hturn; have HONCE := Lib.hid honce; have HFIRST := Lib.hid hfirst; have HXIN := Lib.hid hxin
            have H1B := Lib.hid h1B; have H2B := Lib.hid h2B; have HJ0 := Lib.hid hj0; have HJ1 := Lib.hid hj1; have HKP := Lib.hid hkp
            clear hat hxL hxin hfirst hturn honce hr hrng h1B h2B hj0 hj1 hkp
            generalize L[j] = x at *
            generalize (T[j]).2.1 = tx at *
            generalize (T[j]).2.2 = rd at *
            have HKA := Lib.hid ((Keeps.refl [] wr).alloc (.cells zeroEv 42))
            go_wp2_with (first | ((with_reducible apply wpList_load_evM); exact rfl; assumption) | ((with_reducible apply wpList_put_ev); exact rfl; exact rfl; (first | assumption | (refine heap_alloc_lt ?_; assumption) | (refine heap_alloc_lt (heap_alloc_lt ?_); assumption) | exact heap_alloc_at (by simp)); exact ⟨rfl, rfl⟩; (refine evC_one _ ?_ ?_ <;> first | rfl | assumption)))
            intro W2 hb2 hk2
            have hq2 : Keeps [] wr W2 := HKA.out.trans hk2 (fun q hq => .inr (by simp at hq; omega))
            have HK2 := Lib.hid (HKP.out.trans hq2 (FSub.refl _ _))
            have hB1 := hq2.heap H1B.out (by simp); have hB2 := hq2.heap H2B.out (by simp)
            have hcz : wr.heap.size < W2.heap.size := lt_of_block hb2
            have hbz := lt_of_block H2B.out
            have HB1 := Lib.hid hB1; have HB2 := Lib.hid hB2
            have HX := Lib.hid hb2
            have e0 := ev_cell hb2 0 (evC_0 x tx rd)
            have e1 := ev_cell hb2 1 (evC_1 x tx rd)
            have e2 := ev_cell hb2 2 (evC_2 x tx rd)
            have e10 := ev_cell hb2 10 (evC_10 x tx rd)
            clear hq2 hk2 HKA hr2 hB1 hB2 hb2 H1B H2B HKP hx1 hx2
            generalize wr.heap.size = C at *
            by_cases h0 : j = 0
            · have hk1 := HFIRST.out h0
              rw [hk1] at e0
              obtain ⟨rfl, rfl, rfl⟩ := HJ0.out h0
              subst h0
              have c15 : ¬ 15 < x.c := by have := (good_need HGX.out).1; omega
              have ht1 := HT1.out
              rw [List.take_zero, List.nil_append] at ht1
              have HTZ := Lib.hid (show TurnSt (L.take 1) (List.replicate 16 false) (List.replicate 16 0) (-1) by rw [ht1]; exact TurnSt.zero x)
              clear hk1 ht1 HTURN HONCE HFIRST HJ0 HJ1 HT1
              go_wp2_with fail
              go_roundw
              case rel => exact ⟨1, _, _, -1, rfl, rfl, by go_num, by omega, HB1.out, HB2.out, fun h => by omega, fun _ => HTZ.out, HK2.out⟩
              case measure => simp [intOf]; omega
            · obtain ⟨cc, hcc⟩ := Int.eq_ofNat_of_zero_le HXIN.out.c0
              obtain ⟨k1, hc16, hop, hlast, hide, hnext⟩ := HTURN.out (by omega) cc hcc
              have hst := HJ1.out (by omega)
              have i0 := HXIN.out.i0; have i1 := HXIN.out.i1
              have hw : IntKind.i64.wrap x.id = x.id := by simp [IntKind.wrap, IntKind.bits, IntKind.signed]; omega
              have c15 : ¬ 15 < (cc : Int) := by omega
              have c16 : (cc : Int) < 16 := by omega
              have t1 : (x.k == 1) = false := by simpa using k1
              have tj : ((j : Int) == 0) = false := by simp; omega
              have hol := hst.lo; have hil := hst.li
              have a1 : W2.cell? ⟨W1.heap.size, cc, none⟩ = some (.bool (op.getD cc false)) := by simp [World.cell?, HB1.out, List.getD, hc16, hol]
              have a2 : W2.cell? ⟨W1.heap.size + 1, cc, none⟩ = some (.int .u16 (id.getD cc 0)) := by simp [World.cell?, HB2.out, List.getD, hc16, hil]
              have f1 : W2.frozen? ⟨W1.heap.size, cc, none⟩ = false := by simp [World.frozen?, HB1.out]
              have f2 : W2.frozen? ⟨W1.heap.size + 1, cc, none⟩ = false := by simp [World.frozen?, HB2.out]
              rw [hcc] at e1
              have HNEXT := Lib.hid hnext; have HCC := Lib.hid hcc
              clear HTURN HFIRST HJ0 HJ1 hst hnext hcc k1
              obtain ⟨a3, c3, htx, tc1, tc2, tcells⟩ := HTX.out.t
              subst htx
              have HTC := Lib.hid tcells; clear tcells
              rcases bool_two (hOpens x) with ho | ho
              · have HD := Lib.hid (show decide (x.id ≤ last) = false by have := hlast ho; simp; omega)
                have hof : op.getD cc false = false := by rw [ho] at hop; simpa using hop.symm
                rw [hof] at a1
                rw [ho] at HNEXT
                have hk25 : x.k = 2 ∨ x.k = 5 := by simpa [hOpens] using ho
                clear hop hlast hide hof ho
                rcases hk25 with hk | hk
                · have hte := good_t HGX.out (by omega)
                  rw [hte] at e10
                  rw [hk] at e0 t1
                  go_wp2_with fail
                  have hd := HD.out
                  go_quiet (fail)
                  clear hd
                  go_wp2_with fail
                  have hm1 : (op.map Value.bool).toArray.setIfInBounds cc (.bool true) = ((op.set cc true).map Value.bool).toArray := by simp [List.map_set]
                  have hm2 : (id.map (Value.int .u16)).toArray.setIfInBounds cc (.int .u16 x.id) = ((id.set cc x.id).map (Value.int .u16)).toArray := by simp [List.map_set]
                  have z1 := heap_setCell_same (W2.drewN nq) W1.heap.size cc _ 63 (.bool true) HB1.out
                  have q1 : Keeps [W1.heap.size] W2 ((W2.drewN nq).setCell ⟨W1.heap.size, cc, none⟩ (.bool true)) := ((Keeps.refl _ W2).drewN nq).setCell _ _ (.inl (by simp))
                  have z2 := heap_setCell_same ((W2.drewN nq).setCell ⟨W1.heap.size, cc, none⟩ (.bool true)) (W1.heap.size + 1) cc _ 64 (.int .u16 x.id) (q1.heap HB2.out (by simp))
                  have q2 : Keeps [W1.heap.size + 1] ((W2.drewN nq).setCell ⟨W1.heap.size, cc, none⟩ (.bool true)) (((W2.drewN nq).setCell ⟨W1.heap.size, cc, none⟩ (.bool true)).setCell ⟨W1.heap.size + 1, cc, none⟩ (.int .u16 x.id)) := (Keeps.refl _ _).setCell _ _ (.inl (by simp))
                  have z3 := q2.heap z1 (by simp)
                  rw [hm1] at z3
                  rw [hm2] at z2
                  have q3 := (HK2.out.trans q1 (fun q hq => .inr (by simp at hq; omega))).trans q2 (fun q hq => .inr (by simp at hq; omega))
                  have y10 := q2.cell (q1.cell e10 (by simp; omega)) (by simp; omega)
                  generalize ((W2.drewN nq).setCell ⟨W1.heap.size, cc, none⟩ (.bool true)).setCell ⟨W1.heap.size + 1, cc, none⟩ (.int .u16 x.id) = W3 at *
                  have HZ1 := Lib.hid z3; have HZ2 := Lib.hid z2; have HK3 := Lib.hid q3
                  clear hm1 hm2 z1 z2 z3 q1 q2 q3 HB1 HB2 HK2 e0 e1 e2 e10 a1 a2 f1 f2 HX hcz
                  go_loopw [2, 12, 13, 14] (fun q kk _ _ wz => q = .bool false ∧ kk = .int .i64 0 ∧ wz = W3) (fun _ _ _ _ _ => 0)
                  case atStart => exact ⟨rfl, rfl, rfl⟩
                  case round =>
                    obtain ⟨rfl, rfl, rfl⟩ := hrel
                    go_wp2_with fail
                    go_roundw
                    case rel => exact ⟨j + 1, op.set cc true, id.set cc x.id, x.id, rfl, rfl, by go_num, by omega, HZ1.out, HZ2.out, fun h => by omega, fun _ => by simpa using HNEXT.out, HK3.out⟩
                    case measure => simp [intOf]; omega
                · rw [hk] at e0 t1
                  go_wp2_with fail
                  have hd := HD.out
                  go_quiet (fail)
                  clear hd
                  go_wp2_with fail
                  have hm1 : (op.map Value.bool).toArray.setIfInBounds cc (.bool true) = ((op.set cc true).map Value.bool).toArray := by simp [List.map_set]
                  have hm2 : (id.map (Value.int .u16)).toArray.setIfInBounds cc (.int .u16 x.id) = ((id.set cc x.id).map (Value.int .u16)).toArray := by simp [List.map_set]
                  have z1 := heap_setCell_same (W2.drewN nq) W1.heap.size cc _ 63 (.bool true) HB1.out
                  have q1 : Keeps [W1.heap.size] W2 ((W2.drewN nq).setCell ⟨W1.heap.size, cc, none⟩ (.bool true)) := ((Keeps.refl _ W2).drewN nq).setCell _ _ (.inl (by simp))
                  have z2 := heap_setCell_same ((W2.drewN nq).setCell ⟨W1.heap.size, cc, none⟩ (.bool true)) (W1.heap.size + 1) cc _ 64 (.int .u16 x.id) (q1.heap HB2.out (by simp))
                  have q2 : Keeps [W1.heap.size + 1] ((W2.drewN nq).setCell ⟨W1.heap.size, cc, none⟩ (.bool true)) (((W2.drewN nq).setCell ⟨W1.heap.size, cc, none⟩ (.bool true)).setCell ⟨W1.heap.size + 1, cc, none⟩ (.int .u16 x.id)) := (Keeps.refl _ _).setCell _ _ (.inl (by simp))
                  have z3 := q2.heap z1 (by simp)
                  rw [hm1] at z3
                  rw [hm2] at z2
                  have q3 := (HK2.out.trans q1 (fun q hq => .inr (by simp at hq; omega))).trans q2 (fun q hq => .inr (by simp at hq; omega))
                  have y10 := q2.cell (q1.cell e10 (by simp; omega)) (by simp; omega)
                  generalize ((W2.drewN nq).setCell ⟨W1.heap.size, cc, none⟩ (.bool true)).setCell ⟨W1.heap.size + 1, cc, none⟩ (.int .u16 x.id) = W3 at *
                  have HZ1 := Lib.hid z3; have HZ2 := Lib.hid z2; have HK3 := Lib.hid q3
                  clear hm1 hm2 z1 z2 z3 q1 q2 q3 HB1 HB2 HK2 e0 e1 e2 e10 a1 a2 f1 f2 HX hcz
                  generalize htl : x.t.length = tl at *
                  have HTL5 := Lib.hid htl
                  clear htl
                  go_loopw [2, 12, 13, 14] (fun q kk _ _ wz => ∃ kq nd : Nat, q = .bool false ∧ kk = .int .i64 kq ∧ kq ≤ tl ∧ wz = W3.drewN nd) (fun _ kk _ _ _ => tl - (intOf kk).toNat)
                  case atStart => exact ⟨0, 0, rfl, rfl, by omega, rfl⟩
                  case round =>
                    obtain ⟨kq, nd, rfl, rfl, hkq, rfl⟩ := hrel
                    by_cases hkl : kq < tl
                    · have hkl2 : kq < x.t.length := by have := HTL5.out; omega
                      obtain ⟨xb, xo, rfl, hxb, hxc⟩ := HTC.out (fun e => by rw [e] at hkl2; simp at hkl2)
                      obtain ⟨m1, m2, m3⟩ := hxc kq _ (getD_get micNone hkl2)
                      have hmem := getD_in micNone hkl2
                      replace m1 := HK3.out.cell m1 (by simp); replace m2 := HK3.out.cell m2 (by simp); replace m3 := HK3.out.cell m3 (by simp)
                      have HON2 := Lib.hid (fun (n : Nat) (hn : n < j) (y : Mic) => HONCE.out n hn (y := y) hmem)
                      clear hxc hmem
                      generalize x.t.getD kq micNone = M at *
                      obtain ⟨M1, M2, M3⟩ := M
                      simp only at m1 m2 m3
                      go_wp2_with fail
                      go_loopw [2, 13, 14] (fun q nn _ wz => ∃ ni nd2 : Nat, q = .bool false ∧ nn = .int .i64 ni ∧ ni ≤ j ∧ wz = W3.drewN nd2) (fun _ nn _ _ => j - (intOf nn).toNat)
                      case atStart => exact ⟨0, nd, rfl, rfl, by omega, rfl⟩
                      case round =>
                        obtain ⟨ni, nd2, rfl, rfl, hni, rfl⟩ := hrel
                        by_cases hnl : ni < j
                        · have hniT : ni < T.length := by have := HTN.out; omega
                          have hniL : ni < L.length := by have := HTL.out; omega
                          have hat2 := HI.out.evs _ (List.getElem_mem hniT)
                          obtain ⟨g2, cap2, hge2, _, _, _, _, hrng2⟩ := HI.out.row.at (fun e => by rw [e] at hniT; simp at hniT)
                          simp at hge2
                          obtain ⟨rfl, -⟩ := hge2
                          have hxL2 : (T[ni]).1 = L[ni] := by have := HI.out.ev; subst this; simp [evsOf]
                          have d10 : W1.cell? ⟨g, ni * 19 + 10, none⟩ = some (T[ni]).2.1 := hrng2 ni hniT 10 _ rfl
                          replace d10 := HK3.out.cell d10 (by simp)
                          obtain ⟨a4, c4, ht4, f1, f2, hcells4⟩ := hat2.t
                          rw [ht4] at d10
                          rw [hxL2] at d10 hcells4 f1
                          have HC4 := Lib.hid hcells4
                          have HON3 := Lib.hid (HON2.out ni hnl)
                          clear hat2 hrng2 ht4 hcells4 hxL2
                          generalize hsl : (L[ni]).t = tn4 at *
                          generalize hln : tn4.length = l4 at *
                          have HLN := Lib.hid hln
                          have hl4 : (l4 : Int) ≤ 9223372036854775807 := by omega
                          clear hsl hln
                          go_wp2_with fail
                          go_loopw [2, 14] (fun q mm wz => ∃ mi nd3 : Nat, q = .bool false ∧ mm = .int .i64 mi ∧ mi ≤ l4 ∧ wz = W3.drewN nd3) (fun _ mm _ => l4 - (intOf mm).toNat)
                          case atStart => exact ⟨0, nd2, rfl, rfl, by omega, rfl⟩
                          case round =>
                            obtain ⟨mi, nd3, rfl, rfl, hmi, rfl⟩ := hrel
                            by_cases hml : mi < l4
                            · have hml2 : mi < tn4.length := by have := HLN.out; omega
                              obtain ⟨zb, zo, rfl, hzb, hzc⟩ := HC4.out (fun e => by rw [e] at hml2; simp at hml2)
                              obtain ⟨n1, n2, n3⟩ := hzc mi _ (getD_get micNone hml2)
                              have hmem2 := getD_in micNone hml2
                              replace n1 := HK3.out.cell n1 (by simp); replace n2 := HK3.out.cell n2 (by simp); replace n3 := HK3.out.cell n3 (by simp)
                              clear hzc
                              generalize tn4.getD mi micNone = Y at *
                              obtain ⟨Y1, Y2, Y3⟩ := Y
                              simp only at n1 n2 n3
                              cases M1 with
                              | true =>
                                have hml4 : (mi : Int) < l4 := by omega
                                clear HON3 hmem2
                                go_wp2_with fail
                                go_quiet (fail)
                                go_wp2_with fail
                                go_roundw
                                case rel => exact ⟨mi + 1, _, rfl, by go_num, by omega, rfl⟩
                                case measure => simp [intOf]; omega
                              | false =>
                                have hno := HON3.out _ rfl hmem2
                                have ways : Y1 = true ∨ (Y1 = false ∧ (Y2 == M2) = false) ∨ (Y1 = false ∧ Y2 = M2 ∧ (Y3 == M3) = false) := by
                                  simp only at hno
                                  cases Y1
                                  · by_cases h2 : Y2 = M2
                                    · by_cases h3 : Y3 = M3
                                      · exact absurd ⟨rfl, h2, h3⟩ hno
                                      · exact .inr (.inr ⟨rfl, h2, by simpa using h3⟩)
                                    · exact .inr (.inl ⟨rfl, by simpa using h2⟩)
                                  · exact .inl rfl
                                clear HON3 hno hmem2
                                rcases ways with rfl | ⟨rfl, t9⟩ | ⟨rfl, rfl, t9⟩
                                all_goals
                                  go_wp2_with fail
                                  go_quiet (fail)
                                  go_wp2_with fail
                                  go_roundw
                                  case rel => exact ⟨mi + 1, _, rfl, by go_num, by omega, rfl⟩
                                  case measure => simp [intOf]; omega
                            · obtain rfl : mi = l4 := by omega
                              go_wp2_with fail
                              go_roundw
                              case rel => exact ⟨ni + 1, nd3, rfl, by go_num, by omega, rfl⟩
                              case measure => simp [intOf]; omega
                        · obtain rfl : ni = j := by omega
                          go_wp2_with fail
                          go_roundw
                          case rel => exact ⟨kq + 1, nd2, rfl, by go_num, by omega, rfl⟩
                          case measure => simp [intOf]; omega
                    · obtain rfl : kq = tl := by omega
                      go_wp2_with fail
                      go_roundw
                      case rel => exact ⟨j + 1, op.set cc true, id.set cc x.id, x.id, rfl, rfl, by go_num, by omega, HZ1.out, HZ2.out, fun h => by omega, fun _ => by simpa using HNEXT.out, HK3.out.drewN _⟩
                      case measure => simp [intOf]; omega
              · have hid2 : x.id = id.getD cc 0 := hide ho
                have hof : op.getD cc false = true := by rw [ho] at hop; cases h : op.getD cc false with | true => rfl | false => exact absurd h.symm hop
                rw [hof] at a1
                rw [← hid2] at a2
                rw [ho] at HNEXT
                have hk25 : x.k ≠ 2 ∧ x.k ≠ 5 := by simpa [hOpens] using ho
                have t2 : (x.k == 2) = false := by simpa using hk25.1
                have t5 : (x.k == 5) = false := by simpa using hk25.2
                have hte := good_t HGX.out hk25.2
                rw [hte] at e10
                have ti : (x.id != x.id) = false := by simp
                clear hop hlast hide hof ho hid2 hk25
                go_wp2_with fail
                go_quiet (fail)
                go_wp2_with fail
                have hm1 : (op.map Value.bool).toArray.setIfInBounds cc (.bool false) = ((op.set cc false).map Value.bool).toArray := by simp [List.map_set]
                have hm2 : (id.map (Value.int .u16)).toArray.setIfInBounds cc (.int .u16 x.id) = ((id.set cc x.id).map (Value.int .u16)).toArray := by simp [List.map_set]
                have z1 := heap_setCell_same (W2.drewN nq) W1.heap.size cc _ 63 (.bool false) HB1.out
                have q1 : Keeps [W1.heap.size] W2 ((W2.drewN nq).setCell ⟨W1.heap.size, cc, none⟩ (.bool false)) := ((Keeps.refl _ W2).drewN nq).setCell _ _ (.inl (by simp))
                have z2 := heap_setCell_same ((W2.drewN nq).setCell ⟨W1.heap.size, cc, none⟩ (.bool false)) (W1.heap.size + 1) cc _ 64 (.int .u16 x.id) (q1.heap HB2.out (by simp))
                have q2 : Keeps [W1.heap.size + 1] ((W2.drewN nq).setCell ⟨W1.heap.size, cc, none⟩ (.bool false)) (((W2.drewN nq).setCell ⟨W1.heap.size, cc, none⟩ (.bool false)).setCell ⟨W1.heap.size + 1, cc, none⟩ (.int .u16 x.id)) := (Keeps.refl _ _).setCell _ _ (.inl (by simp))
                have z3 := q2.heap z1 (by simp)
                rw [hm1] at z3
                rw [hm2] at z2
                have q3 := (HK2.out.trans q1 (fun q hq => .inr (by simp at hq; omega))).trans q2 (fun q hq => .inr (by simp at hq; omega))
                have y10 := q2.cell (q1.cell e10 (by simp; omega)) (by simp; omega)
                generalize ((W2.drewN nq).setCell ⟨W1.heap.size, cc, none⟩ (.bool false)).setCell ⟨W1.heap.size + 1, cc, none⟩ (.int .u16 x.id) = W3 at *
                have HZ1 := Lib.hid z3; have HZ2 := Lib.hid z2; have HK3 := Lib.hid q3
                clear hm1 hm2 z1 z2 z3 q1 q2 q3 HB1 HB2 HK2 e0 e1 e2 e10 a1 a2 f1 f2 HX hcz
                go_loopw [2, 12, 13, 14] (fun q kk _ _ wz => q = .bool false ∧ kk = .int .i64 0 ∧ wz = W3) (fun _ _ _ _ _ => 0)
                case atStart => exact ⟨rfl, rfl, rfl⟩
                case round =>
                  obtain ⟨rfl, rfl, rfl⟩ := hrel
                  go_wp2_with fail
                  go_roundw
                  case rel => exact ⟨j + 1, op.set cc false, id.set cc x.id, last, rfl, rfl, by go_num, by omega, HZ1.out, HZ2.out, fun h => by omega, fun _ => by simpa using HNEXT.out, HK3.out⟩
                  case measure => simp [intOf]; omega
          · obtain rfl : j = tn := by omega
            have hev := evs_row HI.out.row HI.out.evs (Nat.le_trans hN HI.out.kp.size)
            rw [HI.out.ev] at hev
            have hRUN : hRun [] L = (L.length, 0) := by
              have := hRun_stop L [] L.length (fun i hi => by simpa using hAll_hist HOK.out.h L.length (Nat.le_refl _) i hi) (Nat.le_refl _) (fun h => absurd h (Nat.lt_irrefl _))
              simpa using this
            have hKw := HI.out.kp.trans hkp (FSub.refl _ _)
            have hall := hAll_any wr (HG.out.new hKw) L HOK.out.i (by have := HTL.out; omega) _ (hev.new hkp (Nat.le_refl _)) hkp.size
            rw [hRUN, HTL.out] at hall
            have HALL := Lib.hid hall; have HKW := Lib.hid hKw
            clear hev hRUN hall hKw h1B h2B hj0 hj1 hkp
            go_wp2_with fail
            refine (HALL.out).mono ?_; rintro e w2 ⟨rfl, hk2⟩
            have HK2 := Lib.hid (HKW.out.trans hk2 (FSub.refl _ _))
            have HAW := Lib.hid (awake7_any w2 (HG.out.new HK2.out))
            have tq : ((j : Int) == (j : Int)) = true := by simp
            clear hk2 HALL
            go_wp2_with fail
            refine (HAW.out).mono ?_; rintro e w3 ⟨rfl, hk3⟩
            go_wp2_with fail
            go_ret
            exact ⟨rfl, HK2.out.trans hk3 (FSub.refl _ _)⟩
end Go.Proofs.YtlaccndjlfpjbaaGreatDoor
