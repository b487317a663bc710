/-
  What is read of an event: micros, lists.
-/
import Derived.Test.YtnehnbhdkhgakaaDoorG24
import Derived.Test.YtnehnbhdkhgakaaDoorG28
import Derived.Test.YtnehnbhdkhgakaaDoorG14
set_option linter.unusedSimpArgs false
set_option linter.unusedVariables false
namespace Go.Proofs.YtnehnbhdkhgakaaDoor
open Go.RowKit
/-- n micros, and where the reader stands behind them. -/
def misS (xs : List Int) : Nat → Int × Nat → Int × Nat
  | 0, s => s
  | n + 1, s => miS xs (misS xs n s)
def misM (xs : List Int) : Nat → Int × Nat → List Mic
  | 0, _ => []
  | n + 1, s => misM xs n s ++ [miM xs (misS xs n s)]
theorem misM_length (xs : List Int) (s : Int × Nat) : ∀ n, (misM xs n s).length = n
  | 0 => rfl
  | n + 1 => by simp [misM, misM_length xs s n]
def micsC (l : List Mic) : List Value := l.flatMap fun m => (micC m).toList
theorem micsC_snoc (l : List Mic) (m : Mic) : micsC (l ++ [m]) = micsC l ++ (micC m).toList := by simp [micsC]
theorem Rdg.fresh {b r g cap : Nat} {xs : List Int} {w W W' : World} {e : Int} {p : Nat} {x : Ev} {tx rd : Value} {F : List Nat} (h : Rdg b r g cap xs w W e p x tx rd) (hk : Keeps F W W') (hF : ∀ q ∈ F, w.heap.size ≤ q)
    (hb : b < w.heap.size) (hr : r < w.heap.size) (hg : g < w.heap.size) : Rdg b r g cap xs w W' e p x tx rd :=
  ⟨hk.heap h.ev (fun q => by have := hF _ q; omega), h.rd.keeps hk (fun q => by have := hF _ q; omega) (fun q => by have := hF _ q; omega), h.keeps.trans hk (fun q hq => .inr (hF q hq)), h.br, h.bg, Nat.lt_of_lt_of_le h.gl hk.size⟩
theorem wp_append_run {P : Program} {w : World} {o : Oper} {a : Act} {K : Act → World → Prop} {Q : Exit → Act → World → Prop} (s x : Operand) (t : TypeId)
    (ho : o.op = .call { callee := .builtin .append, args := #[s, x], argTypes := #[t, t] }) (vs vx v' : Value) (w' : World) (hs : a.eval s = vs) (hx : a.eval x = vx)
    (hr : (Builtin.append_ #[t, t] o.type #[vs, vx]).run P w = .ok v' w') (h : K (a.put o.dst v') w') : o.wp P a w K Q := by
  unfold Oper.wp execOp
  simp only [ho, resolve, invoke, builtin, Sem.run_bind, Sem.run_pure, Result.andThen_ok, List.map_toArray, List.map_cons, List.map_nil, hs, hx, hr]
  exact h
theorem wp_put_cell {o : Oper} {a : Act} {w : World} {K : Act → World → Prop} {Q : Exit → Act → World → Prop} {T : TypeId} {x y : Operand} {b : Nat} {e : Ev} {tx rd : Value} {t : TypeId} {v : Value} (i : Nat) (e' : Ev) (tx' rd' : Value)
    (ho : o.op = .store T x y) (hx : a.eval x = .pointer (some ⟨b, i, none⟩)) (hy : a.eval y = v) (hg : w.heap[b]? = some (.cells (evC e tx rd) t (0, 0))) (hi : (Tryd.prog.info? T).map (·.size) = some 1) (h1 : v.oneCell' = true)
    (hc : ((evC e tx rd)[i]?).isSome = true) (hs : (evC e tx rd).setIfInBounds i v = evC e' tx' rd')
    (h : ∀ W, W.heap[b]? = some (.cells (evC e' tx' rd') t (0, 0)) → Keeps [b] w W → K (a.put o.dst undef) W) : o.wp Tryd.prog a w K Q := by
  have hcell : (w.cell? ⟨b, i, none⟩).isSome = true := by
    cases hq : (evC e tx rd)[i]? with
    | none => rw [hq] at hc; cases hc
    | some u => rw [ev_cell hg i hq]; rfl
  have hrun := run_put1 (P := Tryd.prog) w b i T v hi h1 hcell (ev_thaw hg i)
  unfold Oper.wp execOp
  simp only [ho, hx, hy, Instr.storeAt, Instr.sureAddr, Sem.run_bind, Sem.run_pure, Result.andThen_ok, hrun]
  exact h _ (ev_set hg i v hs) ((Keeps.refl [b] w).own b i v)
theorem Tryd.infoM : (Tryd.prog.info? 34).map (fun i => (i.zero, i.size, i.bytes)) = some (some (.agg #[.bool false, .int .u8 0, .int .u16 0]), 3, 4) := by kernel_rfl
theorem three_new (w : World) (u v x : Value) (t : TypeId) : ∀ j y, [u, v, x][j]? = some y → (w.alloc (.cells #[u, v, x] t)).cell? ((⟨w.heap.size, 0, none⟩ : Addr).add j) = some y := by
  intro j y hj
  match j, hj with
  | 0, hj => simp at hj; subst hj; simp [Addr.add]
  | 1, hj => simp at hj; subst hj; simp [Addr.add]
  | 2, hj => simp at hj; subst hj; simp [Addr.add]
theorem row_one {w : World} {base : Nat} {e : TypeId} {size : Nat} {v : Value} {n : Nat} {xs : List Value} (h : w.ownsRow base e size v n xs) : v.oneCell' = true := by
  rcases h.2 with ⟨rfl, _⟩ | ⟨_, _, _, rfl, _⟩ <;> rfl
theorem row_old {w w' : World} {base : Nat} {e : TypeId} {size : Nat} {v : Value} {n : Nat} {xs : List Value} {F : List Nat} (h : w.ownsRow base e size v n xs) (hk : Keeps F w w') (hF : ∀ q ∈ own v, q ∉ F) : w'.ownsRow base e size v n xs := by
  obtain ⟨h1, h2⟩ := h
  refine ⟨h1, ?_⟩
  rcases h2 with h2 | ⟨q, cap, cur, rfl, hb, hh, r⟩
  · exact .inl h2
  · exact .inr ⟨q, cap, cur, rfl, hb, hk.heap hh (hF q (by simp [own, Value.ownBlock])), r⟩
theorem row_base {w : World} {base : Nat} {e : TypeId} {size : Nat} {v : Value} {n : Nat} {xs : List Value} (h : w.ownsRow base e size v n xs) : ∀ q ∈ own v, base ≤ q ∧ q < w.heap.size := fun q hq => h.lt q (by simpa [own] using hq)
/-- A micro more, behind an own row. -/
theorem append_mic (w : World) (base : Nat) (hbase : base ≤ w.heap.size) (v : Value) (n : Nat) (l : List Value) (hrow : w.ownsRow base 34 3 v n l) (hn : n ≤ 1000) (m : Mic) :
    ∃ v' w', (Builtin.append_ #[27, 27] 27 #[v, .slice (some ⟨w.heap.size, 0, none⟩) 1 1]).run Tryd.prog (w.alloc (.cells (micC m) 34)) = .ok v' w' ∧ w'.ownsRow base 34 3 v' (n + 1) (l ++ (micC m).toList) ∧ Keeps (own v) w w' := by
  obtain ⟨i0, hi, hz0, hz1, hz2⟩ := info_parts Tryd.infoM
  have hk := (Keeps.refl (own v) w).alloc (.cells (micC m) 34)
  have hr2 : (w.alloc (.cells (micC m) 34)).ownsRow base 34 3 v n l := row_old hrow ((Keeps.refl [] w).alloc _) (by simp)
  obtain ⟨v', w', hr, ho, hg, _⟩ := run_append_own (P := Tryd.prog) (w := w.alloc (.cells (micC m) 34)) base 27 27 34 i0 (.agg #[.bool false, .int .u8 0, .int .u16 0]) 3 4 Tryd.underlying27 hi hz0 hz1 hz2 rfl (by decide) v n l hr2
    ⟨w.heap.size, 0, none⟩ 1 1 (micC m).toList rfl (three_new w _ _ _ _) (by intro u hu; simp [micC] at hu; rcases hu with rfl | rfl | rfl <;> rfl) (by unfold maxLen; omega) (by omega) (by simp; omega)
  exact ⟨v', w', hr, ho, hk.grown hg (fun q hq => .inl hq)⟩
set_option maxHeartbeats 8000000 in
set_option maxRecDepth 100000 in
theorem readBegin_any (w0 w : World) (b r g cap p : Nat) (xs : List Int) (e : Int) (x : Ev) (rd : Value) (h : Rdg b r g cap xs w0 w e p x (.slice none 0 0) rd) (hx : InU8 xs) (hl : xs.length ≤ 1000000) (hb : b < w0.heap.size) (hr : r < w0.heap.size) (hg : g < w0.heap.size) (n : Nat) (hn : (n : Int) = vl 1 xs (whE xs e p, whP xs e p)) (s1 : Int × Nat) (hs1 : s1 = st 1 xs (whE xs e p, whP xs e p)) :
    Calls Tryd.prog 48 #[.pointer (some ⟨r, 0, none⟩), .pointer (some ⟨b, 0, none⟩)] w fun z W => ∃ tx, RPost b r g cap xs w0 (misS xs n s1).1 (misS xs n s1).1 (misS xs n s1).2 { x with c := whC xs e p, id := whI xs e p, t := misM xs n s1 } tx rd z W ∧
      W.ownsRow w0.heap.size 34 3 tx n (micsC (misM xs n s1)) := by
  have h1 := readWho_any w0 w b r g cap p xs e x _ rd h hx hl
  generalize whE xs e p = e1 at *
  generalize whP xs e p = p1 at *
  generalize whC xs e p = cc at *
  generalize whI xs e p = ii at *
  have h2 := fun w h => RU8_any w r g cap p1 xs e1 h hx hl
  have f1 : rdErr 1 xs e1 p1 = (st 1 xs (e1, p1)).1 := rfl
  have f2 : rdPos 1 xs e1 p1 = (st 1 xs (e1, p1)).2 := rfl
  have f3 : rdVal 1 xs e1 p1 = vl 1 xs (e1, p1) := rfl
  have a1 : 0 ≤ vl 1 xs (e1, p1) ∧ vl 1 xs (e1, p1) < 256 := rdVal1_b hx _ _
  rw [f1, f2, f3, ← hs1, ← hn] at h2
  rw [← hn] at a1
  have hn2 : n < 256 := by omega
  clear f1 f2 f3 hn hs1 a1
  have hmi := fun w s h hg => readMicro_any w r g cap s xs h hg hx hl
  have her := fun w e p h => Err_any w r g cap p xs e h
  have H1 := Lib.hid h1; have H2 := Lib.hid h2; have HMI := Lib.hid hmi; have HER := Lib.hid her; clear h h1 h2 hx hmi her
  go_enter Tryd.func48, Tryd.ntmps48
  go_wp2_with fail
  refine H1.out.mono ?_; rintro z w1 ⟨rfl, hr1⟩
  have R1 := Lib.hid hr1
  clear H1 hr1
  go_wp2_with fail
  refine (H2.out _ R1.out.rd).mono ?_; rintro z w2 ⟨rfl, hr2, hk2⟩
  have R2 := Lib.hid (R1.out.reads hr2 hk2)
  clear R1 H2 hr2 hk2
  go_wp2_with fail
  go_loopw [10] (fun i W => ∃ (k : Nat) (tx : Value), i = .int .u8 k ∧ k ≤ n ∧ Rdg b r g cap xs w0 W (misS xs k s1).1 (misS xs k s1).2 { x with c := cc, id := ii, t := misM xs k s1 } tx rd ∧
    W.ownsRow w0.heap.size 34 3 tx k (micsC (misM xs k s1))) (fun i _ => n - (intOf i).toNat)
  case atStart => exact ⟨0, .slice none 0 0, rfl, by omega, R2.out.puts (y := { x with c := cc, id := ii, t := [] }) R2.out.ev (Keeps.refl _ _), World.ownsRow_nil _ _ _ _⟩
  case round =>
    obtain ⟨k, tx, rfl, hk, hR, hrow⟩ := hrel
    by_cases hlt : k < n
    · have c10 := ev_cell hR.ev 10 (evC_10 _ _ _)
      have c10D : wr.drew.cell? ⟨b, 10, none⟩ = some tx := c10
      have HRD : Hid (Rdg b r g cap xs w0 wr.drew (misS xs k s1).1 (misS xs k s1).2 { x with c := cc, id := ii, t := misM xs k s1 } tx rd) := hR.news (Keeps.refl [] wr).drew
      have HROW : Hid (wr.drew.ownsRow w0.heap.size 34 3 tx k (micsC (misM xs k s1))) := row_old hrow (Keeps.refl [] wr).drew (by simp)
      have HT1 := Lib.hid (row_one hrow)
      obtain ⟨M, hM⟩ : ∃ M, M = miM xs (misS xs k s1) := ⟨_, rfl⟩
      have hmik := fun w h hg => HMI.out w (misS xs k s1) h hg
      rw [← hM] at hmik
      have hnext : misM xs (k + 1) s1 = misM xs k s1 ++ [M] := by rw [hM]; rfl
      have HAPP := Lib.hid (fun (W : World) (hW : w0.heap.size ≤ W.heap.size) (h : W.ownsRow w0.heap.size 34 3 tx k (micsC (misM xs k s1))) => append_mic W w0.heap.size hW tx k (micsC (misM xs k s1)) h (by omega) M)
      have hsnoc := micsC_snoc (misM xs k s1) M
      rw [← hnext] at hsnoc
      obtain ⟨m1, m2, m3⟩ := M
      simp only [micC] at hmik
      have HMK := Lib.hid hmik; have HNX := Lib.hid hnext; have HSN := Lib.hid hsnoc
      clear c10 hR hrow R2 hM hmik hnext hsnoc HMI
      go_wp2_with fail
      refine wp_region_noPanic ?_
      refine wp_region_held_drew (S := fun _ => True) (by kernel_rfl) trivial (fun hHeld => ?_)
      apply wpAnyH_take (i := 0)
      · simp only [List.getElem?_toArray]; rfl
      · kernel_rfl
      · kernel_rfl
      · kernel_rfl
      · exact fun _ _ _ h => h
      · exact Or.inl ⟨by rfl, by intro w hSw; go_simp; try with_reducible rfl⟩
      · assumption
      try simp only [Act.put, List.setIfInBounds_toArray, List.set_cons_zero, List.set_cons_succ]
      apply wpAnyH_take (i := 1)
      · simp only [List.getElem?_toArray]; rfl
      · kernel_rfl
      · kernel_rfl
      · kernel_rfl
      · exact fun _ _ _ h => h
      · exact Or.inl ⟨by rfl, by intro w hSw; go_simp; try with_reducible rfl⟩
      · assumption
      try simp only [Act.put, List.setIfInBounds_toArray, List.set_cons_zero, List.set_cons_succ]
      apply wpAnyH_take (i := 2)
      · simp only [List.getElem?_toArray]; rfl
      · kernel_rfl
      · kernel_rfl
      · kernel_rfl
      · exact fun _ _ _ h => h
      · exact Or.inl ⟨by rfl, by intro w hSw; go_simp; try with_reducible rfl⟩
      · assumption
      try simp only [Act.put, List.setIfInBounds_toArray, List.set_cons_zero, List.set_cons_succ]
      apply wpAnyH_take (i := 3)
      · simp only [List.getElem?_toArray]; rfl
      · kernel_rfl
      · kernel_rfl
      · kernel_rfl
      · exact fun _ _ _ h => h
      · exact Or.inl ⟨by rfl, by intro w hSw; go_simp; try with_reducible rfl⟩
      · assumption
      try simp only [Act.put, List.setIfInBounds_toArray, List.set_cons_zero, List.set_cons_succ]
      apply wpAnyH_take (i := 5)
      · simp only [List.getElem?_toArray]; rfl
      · kernel_rfl
      · kernel_rfl
      · kernel_rfl
      · exact fun _ _ _ h => h
      · exact Or.inl ⟨by rfl, by intro w hSw; go_simp; try with_reducible rfl⟩
      · assumption
      try simp only [Act.put, List.setIfInBounds_toArray, List.set_cons_zero, List.set_cons_succ]
      apply wpAnyH_ready (rs := [4, 6])
      · kernel_rfl
      · simp
      refine AllReadyH.cons (o := ?o4) ?h4 ?k4 (AllReadyH.cons (o := ?o6) ?h6 ?k6 AllReadyH.nil)
      case h4 => simp only [List.getElem?_toArray]; rfl
      case h6 => simp only [List.getElem?_toArray]; rfl
      case k4 =>
        intro K hK
        rw [if_pos (by rfl)]
        go_simp
        refine hK.out _ _ trivial (fun hHeld => ?_)
        clear hK K
        try simp only [Act.put, List.setIfInBounds_toArray, List.set_cons_zero, List.set_cons_succ]
        apply wpAnyH_ready (rs := [6])
        · kernel_rfl
        · simp
        apply AllReadyH.cons (hs := AllReadyH.nil)
        · simp only [List.getElem?_toArray]; rfl
        intro K hK
        rw [if_pos (by rfl)]
        go_simp
        refine (HMK.out _ HRD.out.rd HRD.out.gl).mono ?_; rintro z wA ⟨rfl, hrA, hkA⟩
        have HRA := Lib.hid (HRD.out.reads hrA hkA)
        have HROWA := Lib.hid (row_old HROW.out hkA (fun q hq => by have := row_base HROW.out q hq; simp; omega))
        have c10A := ev_cell HRA.out.ev 10 (evC_10 _ _ _)
        have hzA : b < wA.heap.size := lt_of_block HRA.out.ev
        clear hrA hkA
        go_wp2_with fail
        refine hK.out _ _ trivial (fun hHeld => ?_)
        clear hK K
        try simp only [Act.put, List.setIfInBounds_toArray, List.set_cons_zero, List.set_cons_succ]
        apply wpAnyH_ready (rs := [7])
        · kernel_rfl
        · simp
        apply AllReadyH.cons (hs := AllReadyH.nil)
        · simp only [List.getElem?_toArray]; rfl
        intro K hK
        rw [if_pos (by rfl)]
        go_simp
        refine hK.out _ _ trivial (fun hHeld => ?_)
        clear hK K
        try simp only [Act.put, List.setIfInBounds_toArray, List.set_cons_zero, List.set_cons_succ]
        have hz1 : w0.heap.size ≤ wA.heap.size := HRA.out.keeps.size
        obtain ⟨v', w4, hr4, ho4, hk4⟩ := HAPP.out wA hz1 HROWA.out
        have HR4 := Lib.hid hr4; have HO4 := Lib.hid ho4
        have HRA4 := Lib.hid (HRA.out.fresh hk4 (fun q hq => (row_base HROWA.out q hq).1) hb hr hg)
        clear hr4 ho4 hk4
        apply wpAnyH_ready (rs := [8])
        · kernel_rfl
        · simp
        apply AllReadyH.cons (hs := AllReadyH.nil)
        · simp only [List.getElem?_toArray]; rfl
        intro K hK
        rw [if_pos (by rfl)]
        refine wp_append_run _ _ 27 rfl _ _ _ _ rfl rfl HR4.out ?_
        refine hK.out _ _ trivial (fun hHeld => ?_)
        clear hK K
        try simp only [Act.put, List.setIfInBounds_toArray, List.set_cons_zero, List.set_cons_succ]
        apply wpAnyH_take (i := 9)
        · simp only [List.getElem?_toArray]; rfl
        · kernel_rfl
        · kernel_rfl
        · kernel_rfl
        · exact fun _ _ _ h => h
        · exact Or.inl ⟨by rfl, by intro w hSw; go_simp; try with_reducible rfl⟩
        · assumption
        try simp only [Act.put, List.setIfInBounds_toArray, List.set_cons_zero, List.set_cons_succ]
        apply wpAnyH_take (i := 10)
        · simp only [List.getElem?_toArray]; rfl
        · kernel_rfl
        · kernel_rfl
        · kernel_rfl
        · exact fun _ _ _ h => h
        · exact Or.inl ⟨by rfl, by intro w hSw; go_simp; try with_reducible rfl⟩
        · assumption
        try simp only [Act.put, List.setIfInBounds_toArray, List.set_cons_zero, List.set_cons_succ]
        apply wpAnyH_ready (rs := [11])
        · kernel_rfl
        · simp
        apply AllReadyH.cons (hs := AllReadyH.nil)
        · simp only [List.getElem?_toArray]; rfl
        intro K hK
        rw [if_pos (by rfl)]
        refine wp_put_cell (T := 27) 10 { x with c := cc, id := ii, t := misM xs (k + 1) s1 } v' rd rfl rfl rfl HRA4.out.ev (by kernel_rfl) (row_one HO4.out) rfl rfl ?_
        intro W5 hb5 hk5
        have HR5 := Lib.hid (HRA4.out.puts hb5 hk5)
        have HO5 := Lib.hid (row_old HO4.out hk5 (fun q hq => by have := (row_base HO4.out q hq).1; simp; omega))
        clear hb5 hk5
        refine hK.out _ _ trivial (fun hHeld => ?_)
        clear hK K
        try simp only [Act.put]
        refine wpAnyH_done (by kernel_rfl) ?_ _
        refine NoPanic.normal ?_
        go_wp2_with fail
        go_roundw
        case rel => exact ⟨k + 1, v', by go_num, by omega, HR5.out, by rw [HSN.out]; exact HO5.out⟩
        case measure => simp [intOf]; omega
      case k6 =>
        intro K hK
        rw [if_pos (by rfl)]
        go_simp
        refine (HMK.out _ HRD.out.rd HRD.out.gl).mono ?_; rintro z wA ⟨rfl, hrA, hkA⟩
        have HRA := Lib.hid (HRD.out.reads hrA hkA)
        have HROWA := Lib.hid (row_old HROW.out hkA (fun q hq => by have := row_base HROW.out q hq; simp; omega))
        have c10A := ev_cell HRA.out.ev 10 (evC_10 _ _ _)
        have hzA : b < wA.heap.size := lt_of_block HRA.out.ev
        clear hrA hkA
        go_wp2_with fail
        refine hK.out _ _ trivial (fun hHeld => ?_)
        clear hK K
        try simp only [Act.put, List.setIfInBounds_toArray, List.set_cons_zero, List.set_cons_succ]
        apply wpAnyH_ready (rs := [4, 7])
        · kernel_rfl
        · simp
        refine AllReadyH.cons (o := ?o4) ?h4 ?k4 (AllReadyH.cons (o := ?o7) ?h7 ?k7 AllReadyH.nil)
        case h4 => simp only [List.getElem?_toArray]; rfl
        case h7 => simp only [List.getElem?_toArray]; rfl
        case k4 =>
          intro K hK
          rw [if_pos (by rfl)]
          go_simp
          refine hK.out _ _ trivial (fun hHeld => ?_)
          clear hK K
          try simp only [Act.put, List.setIfInBounds_toArray, List.set_cons_zero, List.set_cons_succ]
          apply wpAnyH_ready (rs := [7])
          · kernel_rfl
          · simp
          apply AllReadyH.cons (hs := AllReadyH.nil)
          · simp only [List.getElem?_toArray]; rfl
          intro K hK
          rw [if_pos (by rfl)]
          go_simp
          refine hK.out _ _ trivial (fun hHeld => ?_)
          clear hK K
          try simp only [Act.put, List.setIfInBounds_toArray, List.set_cons_zero, List.set_cons_succ]
          have hz1 : w0.heap.size ≤ wA.heap.size := HRA.out.keeps.size
          obtain ⟨v', w4, hr4, ho4, hk4⟩ := HAPP.out wA hz1 HROWA.out
          have HR4 := Lib.hid hr4; have HO4 := Lib.hid ho4
          have HRA4 := Lib.hid (HRA.out.fresh hk4 (fun q hq => (row_base HROWA.out q hq).1) hb hr hg)
          clear hr4 ho4 hk4
          apply wpAnyH_ready (rs := [8])
          · kernel_rfl
          · simp
          apply AllReadyH.cons (hs := AllReadyH.nil)
          · simp only [List.getElem?_toArray]; rfl
          intro K hK
          rw [if_pos (by rfl)]
          refine wp_append_run _ _ 27 rfl _ _ _ _ rfl rfl HR4.out ?_
          refine hK.out _ _ trivial (fun hHeld => ?_)
          clear hK K
          try simp only [Act.put, List.setIfInBounds_toArray, List.set_cons_zero, List.set_cons_succ]
          apply wpAnyH_take (i := 9)
          · simp only [List.getElem?_toArray]; rfl
          · kernel_rfl
          · kernel_rfl
          · kernel_rfl
          · exact fun _ _ _ h => h
          · exact Or.inl ⟨by rfl, by intro w hSw; go_simp; try with_reducible rfl⟩
          · assumption
          try simp only [Act.put, List.setIfInBounds_toArray, List.set_cons_zero, List.set_cons_succ]
          apply wpAnyH_take (i := 10)
          · simp only [List.getElem?_toArray]; rfl
          · kernel_rfl
          · kernel_rfl
          · kernel_rfl
          · exact fun _ _ _ h => h
          · exact Or.inl ⟨by rfl, by intro w hSw; go_simp; try with_reducible rfl⟩
          · assumption
          try simp only [Act.put, List.setIfInBounds_toArray, List.set_cons_zero, List.set_cons_succ]
          apply wpAnyH_ready (rs := [11])
          · kernel_rfl
          · simp
          apply AllReadyH.cons (hs := AllReadyH.nil)
          · simp only [List.getElem?_toArray]; rfl
          intro K hK
          rw [if_pos (by rfl)]
          refine wp_put_cell (T := 27) 10 { x with c := cc, id := ii, t := misM xs (k + 1) s1 } v' rd rfl rfl rfl HRA4.out.ev (by kernel_rfl) (row_one HO4.out) rfl rfl ?_
          intro W5 hb5 hk5
          have HR5 := Lib.hid (HRA4.out.puts hb5 hk5)
          have HO5 := Lib.hid (row_old HO4.out hk5 (fun q hq => by have := (row_base HO4.out q hq).1; simp; omega))
          clear hb5 hk5
          refine hK.out _ _ trivial (fun hHeld => ?_)
          clear hK K
          try simp only [Act.put]
          refine wpAnyH_done (by kernel_rfl) ?_ _
          refine NoPanic.normal ?_
          go_wp2_with fail
          go_roundw
          case rel => exact ⟨k + 1, v', by go_num, by omega, HR5.out, by rw [HSN.out]; exact HO5.out⟩
          case measure => simp [intOf]; omega
        case k7 =>
          intro K hK
          rw [if_pos (by rfl)]
          go_simp
          refine hK.out _ _ trivial (fun hHeld => ?_)
          clear hK K
          try simp only [Act.put, List.setIfInBounds_toArray, List.set_cons_zero, List.set_cons_succ]
          apply wpAnyH_ready (rs := [4])
          · kernel_rfl
          · simp
          apply AllReadyH.cons (hs := AllReadyH.nil)
          · simp only [List.getElem?_toArray]; rfl
          intro K hK
          rw [if_pos (by rfl)]
          go_simp
          refine hK.out _ _ trivial (fun hHeld => ?_)
          clear hK K
          try simp only [Act.put, List.setIfInBounds_toArray, List.set_cons_zero, List.set_cons_succ]
          have hz1 : w0.heap.size ≤ wA.heap.size := HRA.out.keeps.size
          obtain ⟨v', w4, hr4, ho4, hk4⟩ := HAPP.out wA hz1 HROWA.out
          have HR4 := Lib.hid hr4; have HO4 := Lib.hid ho4
          have HRA4 := Lib.hid (HRA.out.fresh hk4 (fun q hq => (row_base HROWA.out q hq).1) hb hr hg)
          clear hr4 ho4 hk4
          apply wpAnyH_ready (rs := [8])
          · kernel_rfl
          · simp
          apply AllReadyH.cons (hs := AllReadyH.nil)
          · simp only [List.getElem?_toArray]; rfl
          intro K hK
          rw [if_pos (by rfl)]
          refine wp_append_run _ _ 27 rfl _ _ _ _ rfl rfl HR4.out ?_
          refine hK.out _ _ trivial (fun hHeld => ?_)
          clear hK K
          try simp only [Act.put, List.setIfInBounds_toArray, List.set_cons_zero, List.set_cons_succ]
          apply wpAnyH_take (i := 9)
          · simp only [List.getElem?_toArray]; rfl
          · kernel_rfl
          · kernel_rfl
          · kernel_rfl
          · exact fun _ _ _ h => h
          · exact Or.inl ⟨by rfl, by intro w hSw; go_simp; try with_reducible rfl⟩
          · assumption
          try simp only [Act.put, List.setIfInBounds_toArray, List.set_cons_zero, List.set_cons_succ]
          apply wpAnyH_take (i := 10)
          · simp only [List.getElem?_toArray]; rfl
          · kernel_rfl
          · kernel_rfl
          · kernel_rfl
          · exact fun _ _ _ h => h
          · exact Or.inl ⟨by rfl, by intro w hSw; go_simp; try with_reducible rfl⟩
          · assumption
          try simp only [Act.put, List.setIfInBounds_toArray, List.set_cons_zero, List.set_cons_succ]
          apply wpAnyH_ready (rs := [11])
          · kernel_rfl
          · simp
          apply AllReadyH.cons (hs := AllReadyH.nil)
          · simp only [List.getElem?_toArray]; rfl
          intro K hK
          rw [if_pos (by rfl)]
          refine wp_put_cell (T := 27) 10 { x with c := cc, id := ii, t := misM xs (k + 1) s1 } v' rd rfl rfl rfl HRA4.out.ev (by kernel_rfl) (row_one HO4.out) rfl rfl ?_
          intro W5 hb5 hk5
          have HR5 := Lib.hid (HRA4.out.puts hb5 hk5)
          have HO5 := Lib.hid (row_old HO4.out hk5 (fun q hq => by have := (row_base HO4.out q hq).1; simp; omega))
          clear hb5 hk5
          refine hK.out _ _ trivial (fun hHeld => ?_)
          clear hK K
          try simp only [Act.put]
          refine wpAnyH_done (by kernel_rfl) ?_ _
          refine NoPanic.normal ?_
          go_wp2_with fail
          go_roundw
          case rel => exact ⟨k + 1, v', by go_num, by omega, HR5.out, by rw [HSN.out]; exact HO5.out⟩
          case measure => simp [intOf]; omega
    · obtain rfl : k = n := by omega
      have HRR := Lib.hid hR
      go_wp2_with fail
      refine (HER.out _ _ _ HRR.out.rd).mono ?_; rintro z w5 ⟨rfl, rfl⟩
      go_wp2_with fail
      go_ret
      exact ⟨tx, ⟨rfl, HRR.out⟩, hrow⟩
end Go.Proofs.YtnehnbhdkhgakaaDoor
/-
  What is read of an event: lists.
-/
namespace Go.Proofs.YtnehnbhdkhgakaaDoor
open Go.RowKit
/-- n lists, and where the reader stands behind them. -/
def liS (xs : List Int) (s : Int × Nat) : Int × Nat := (rlErr xs s.1 s.2, rlPos xs s.1 s.2)
def lisS (xs : List Int) : Nat → Int × Nat → Int × Nat
  | 0, s => s
  | n + 1, s => liS xs (lisS xs n s)
def lisL (xs : List Int) : Nat → Int × Nat → List (List Int)
  | 0, _ => []
  | n + 1, s => lisL xs n s ++ [rlist xs (lisS xs n s).1 (lisS xs n s).2]
theorem lisL_length (xs : List Int) (s : Int × Nat) : ∀ n, (lisL xs n s).length = n
  | 0 => rfl
  | n + 1 => by simp [lisL, lisL_length xs s n]
/-- Rows of numbers, one for each value. -/
def Inner (base : Nat) (W : World) (us : List Value) (ls : List (List Int)) : Prop := us.length = ls.length ∧ ∀ j, j < ls.length → W.ownsRow base 22 1 (us.getD j undef) (ls.getD j []).length ((ls.getD j []).map (.int .u16))
theorem Inner.keeps {base : Nat} {W W' : World} {us : List Value} {ls : List (List Int)} {F : List Nat} (h : Inner base W us ls) (hk : Keeps F W W') (hF : ∀ q ∈ F, q < base ∨ ∃ cs t fr, W.heap[q]? = some (.cells cs t fr) ∧ t ≠ 22) : Inner base W' us ls := by
  refine ⟨h.1, fun j hj => row_old (h.2 j hj) hk (fun q hq hf => ?_)⟩
  rcases hF q hf with h1 | ⟨cs, t, fr, h1, h2⟩
  · have := (row_base (h.2 j hj) q hq).1; omega
  · have hr := h.2 j hj
    rcases hr.2 with ⟨h3, _⟩ | ⟨q', cap, cur, h3, _, hh, _⟩
    · rw [h3] at hq; simp [own, Value.ownBlock] at hq
    · rw [h3] at hq
      simp [own, Value.ownBlock] at hq
      subst hq
      rw [hh] at h1
      simp at h1
      exact h2 h1.2.1.symm
theorem Inner.snoc {base : Nat} {W : World} {us : List Value} {ls : List (List Int)} {u : Value} {l : List Int} (h : Inner base W us ls) (hu : W.ownsRow base 22 1 u l.length (l.map (.int .u16))) : Inner base W (us ++ [u]) (ls ++ [l]) := by
  refine ⟨by simp [h.1], fun j hj => ?_⟩
  simp only [List.length_append, List.length_cons, List.length_nil] at hj
  rcases (by omega : j < ls.length ∨ j = ls.length) with h1 | rfl
  · have e1 : (us ++ [u]).getD j undef = us.getD j undef := by simp [List.getD, List.getElem?_append_left (show j < us.length by rw [h.1]; exact h1)]
    have e2 : (ls ++ [l]).getD j [] = ls.getD j [] := by simp [List.getD, List.getElem?_append_left h1]
    rw [e1, e2]; exact h.2 j h1
  · have e1 : (us ++ [u]).getD ls.length undef = u := by rw [← h.1]; simp [List.getD]
    have e2 : (ls ++ [l]).getD ls.length [] = l := by simp [List.getD]
    rw [e1, e2]; exact hu
theorem row_up {w : World} {base b2 : Nat} {e : TypeId} {size : Nat} {v : Value} {n : Nat} {xs : List Value} (h : w.ownsRow base e size v n xs) (hb : ∀ q ∈ own v, b2 ≤ q) : w.ownsRow b2 e size v n xs := by
  obtain ⟨h1, h2⟩ := h
  refine ⟨h1, ?_⟩
  rcases h2 with h2 | ⟨q, cap, cur, rfl, _, r⟩
  · exact .inl h2
  · exact .inr ⟨q, cap, cur, rfl, hb q (by simp [own, Value.ownBlock]), r⟩
theorem row_kind {w : World} {base : Nat} {e : TypeId} {size : Nat} {v : Value} {n : Nat} {xs : List Value} (h : w.ownsRow base e size v n xs) : ∀ q ∈ own v, ∃ cs fr, w.heap[q]? = some (.cells cs e fr) := by
  intro q hq
  rcases h.2 with ⟨rfl, _⟩ | ⟨q', cap, cur, rfl, _, hh, _⟩
  · simp [own, Value.ownBlock] at hq
  · simp [own, Value.ownBlock] at hq
    subst hq
    exact ⟨_, _, hh⟩
theorem Tryd.infoL : (Tryd.prog.info? 35).map (fun i => (i.zero, i.size, i.bytes)) = some (some (.slice none 0 0), 1, 24) := by kernel_rfl
theorem append_list (w : World) (base : Nat) (hbase : base ≤ w.heap.size) (v : Value) (n : Nat) (l : List Value) (hrow : w.ownsRow base 35 1 v n l) (hn : n ≤ 1000) (u : Value) (hu : u.oneCell' = true) :
    ∃ v' w', (Builtin.append_ #[28, 28] 28 #[v, .slice (some ⟨w.heap.size, 0, none⟩) 1 1]).run Tryd.prog (w.alloc (.cells #[u] 35)) = .ok v' w' ∧ w'.ownsRow base 35 1 v' (n + 1) (l ++ [u]) ∧ Keeps (own v) w w' := by
  obtain ⟨i0, hi, hz0, hz1, hz2⟩ := info_parts Tryd.infoL
  have hk := (Keeps.refl (own v) w).alloc (.cells #[u] 35)
  have hr2 : (w.alloc (.cells #[u] 35)).ownsRow base 35 1 v n l := row_old hrow ((Keeps.refl [] w).alloc _) (by simp)
  obtain ⟨v', w', hr, ho, hg, _⟩ := run_append_own (P := Tryd.prog) (w := w.alloc (.cells #[u] 35)) base 28 28 35 i0 (.slice none 0 0) 1 24 Tryd.underlying28 hi hz0 hz1 hz2 rfl (by decide) v n l hr2
    ⟨w.heap.size, 0, none⟩ 1 1 [u] rfl (one_new w _ _) (by intro y hy; simp at hy; subst hy; exact hu) (by unfold maxLen; omega) (by omega) (by simp; omega)
  exact ⟨v', w', hr, ho, hk.grown hg (fun q hq => .inl hq)⟩
set_option maxHeartbeats 8000000 in
set_option maxRecDepth 100000 in
theorem readCommit_any (w0 w : World) (b r g cap p : Nat) (xs : List Int) (e : Int) (x : Ev) (tx0 : Value) (h : Rdg b r g cap xs w0 w e p x tx0 (.slice none 0 0)) (hx : InU8 xs) (hl : xs.length ≤ 1000000) (hb : b < w0.heap.size) (hr : r < w0.heap.size) (hg : g < w0.heap.size) (n : Nat) (hn : (n : Int) = vl 1 xs (whE xs e p, whP xs e p)) (s1 : Int × Nat) (hs1 : s1 = st 1 xs (whE xs e p, whP xs e p)) :
    Calls Tryd.prog 52 #[.pointer (some ⟨r, 0, none⟩), .pointer (some ⟨b, 0, none⟩)] w fun z W => ∃ tx us, RPost b r g cap xs w0 (lisS xs n s1).1 (lisS xs n s1).1 (lisS xs n s1).2 { x with c := whC xs e p, id := whI xs e p, r := lisL xs n s1 } tx0 tx z W ∧
      W.ownsRow w0.heap.size 35 1 tx n us ∧ Inner w0.heap.size W us (lisL xs n s1) := by
  have h1 := readWho_any w0 w b r g cap p xs e x tx0 _ h hx hl
  generalize whE xs e p = e1 at *
  generalize whP xs e p = p1 at *
  generalize whC xs e p = cc at *
  generalize whI xs e p = ii at *
  have h2 := fun w h => RU8_any w r g cap p1 xs e1 h hx hl
  have f1 : rdErr 1 xs e1 p1 = (st 1 xs (e1, p1)).1 := rfl
  have f2 : rdPos 1 xs e1 p1 = (st 1 xs (e1, p1)).2 := rfl
  have f3 : rdVal 1 xs e1 p1 = vl 1 xs (e1, p1) := rfl
  have a1 : 0 ≤ vl 1 xs (e1, p1) ∧ vl 1 xs (e1, p1) < 256 := rdVal1_b hx _ _
  rw [f1, f2, f3, ← hs1, ← hn] at h2
  rw [← hn] at a1
  have hn2 : n < 256 := by omega
  clear f1 f2 f3 hn hs1 a1
  have hmi := fun w (s : Int × Nat) h => RList_any w r g cap s.2 xs s.1 h hx hl
  have her := fun w e p h => Err_any w r g cap p xs e h
  have H1 := Lib.hid h1; have H2 := Lib.hid h2; have HMI := Lib.hid hmi; have HER := Lib.hid her; clear h h1 h2 hx hmi her
  go_enter Tryd.func52, Tryd.ntmps52
  go_wp2_with fail
  refine H1.out.mono ?_; rintro z w1 ⟨rfl, hr1⟩
  have R1 := Lib.hid hr1
  clear H1 hr1
  go_wp2_with fail
  refine (H2.out _ R1.out.rd).mono ?_; rintro z w2 ⟨rfl, hr2, hk2⟩
  have R2 := Lib.hid (R1.out.reads hr2 hk2)
  clear R1 H2 hr2 hk2
  go_wp2_with fail
  go_loopw [10] (fun i W => ∃ (k : Nat) (tx : Value) (us : List Value), i = .int .u8 k ∧ k ≤ n ∧ Rdg b r g cap xs w0 W (lisS xs k s1).1 (lisS xs k s1).2 { x with c := cc, id := ii, r := lisL xs k s1 } tx0 tx ∧
    W.ownsRow w0.heap.size 35 1 tx k us ∧ Inner w0.heap.size W us (lisL xs k s1)) (fun i _ => n - (intOf i).toNat)
  case atStart => exact ⟨0, .slice none 0 0, [], rfl, by omega, R2.out.puts (y := { x with c := cc, id := ii, r := [] }) R2.out.ev (Keeps.refl _ _), World.ownsRow_nil _ _ _ _, rfl, fun j hj => by simp [lisL] at hj⟩
  case round =>
    obtain ⟨k, tx, us, rfl, hk, hR, hrow, hinn⟩ := hrel
    by_cases hlt : k < n
    · have c10 := ev_cell hR.ev 11 (evC_11 _ _ _)
      have c10D : wr.drew.cell? ⟨b, 11, none⟩ = some tx := c10
      have HRD : Hid (Rdg b r g cap xs w0 wr.drew (lisS xs k s1).1 (lisS xs k s1).2 { x with c := cc, id := ii, r := lisL xs k s1 } tx0 tx) := hR.news (Keeps.refl [] wr).drew
      have HROW : Hid (wr.drew.ownsRow w0.heap.size 35 1 tx k us) := row_old hrow (Keeps.refl [] wr).drew (by simp)
      have HINN : Hid (Inner w0.heap.size wr.drew us (lisL xs k s1)) := hinn.keeps (Keeps.refl [] wr).drew (by simp)
      have HT1 := Lib.hid (row_one hrow)
      have hmik := fun w h => HMI.out w (lisS xs k s1) h
      have hnext : lisL xs (k + 1) s1 = lisL xs k s1 ++ [rlist xs (lisS xs k s1).1 (lisS xs k s1).2] := rfl
      have HAPP := Lib.hid (fun (W : World) (hW : w0.heap.size ≤ W.heap.size) (h : W.ownsRow w0.heap.size 35 1 tx k us) (u : Value) hu => append_list W w0.heap.size hW tx k us h (by omega) u hu)
      have HMK := Lib.hid hmik; have HNX := Lib.hid hnext
      clear c10 hR hrow hinn R2 hmik hnext HMI
      go_wp2_with fail
      refine wp_region_noPanic ?_
      refine wp_region_held_drew (S := fun _ => True) (by kernel_rfl) trivial (fun hHeld => ?_)
      apply wpAnyH_take (i := 0)
      · simp only [List.getElem?_toArray]; rfl
      · kernel_rfl
      · kernel_rfl
      · kernel_rfl
      · exact fun _ _ _ h => h
      · exact Or.inl ⟨by rfl, by intro w hSw; go_simp; try with_reducible rfl⟩
      · assumption
      try simp only [Act.put, List.setIfInBounds_toArray, List.set_cons_zero, List.set_cons_succ]
      apply wpAnyH_take (i := 1)
      · simp only [List.getElem?_toArray]; rfl
      · kernel_rfl
      · kernel_rfl
      · kernel_rfl
      · exact fun _ _ _ h => h
      · exact Or.inl ⟨by rfl, by intro w hSw; go_simp; try with_reducible rfl⟩
      · assumption
      try simp only [Act.put, List.setIfInBounds_toArray, List.set_cons_zero, List.set_cons_succ]
      apply wpAnyH_take (i := 2)
      · simp only [List.getElem?_toArray]; rfl
      · kernel_rfl
      · kernel_rfl
      · kernel_rfl
      · exact fun _ _ _ h => h
      · exact Or.inl ⟨by rfl, by intro w hSw; go_simp; try with_reducible rfl⟩
      · assumption
      try simp only [Act.put, List.setIfInBounds_toArray, List.set_cons_zero, List.set_cons_succ]
      apply wpAnyH_take (i := 3)
      · simp only [List.getElem?_toArray]; rfl
      · kernel_rfl
      · kernel_rfl
      · kernel_rfl
      · exact fun _ _ _ h => h
      · exact Or.inl ⟨by rfl, by intro w hSw; go_simp; try with_reducible rfl⟩
      · assumption
      try simp only [Act.put, List.setIfInBounds_toArray, List.set_cons_zero, List.set_cons_succ]
      apply wpAnyH_take (i := 5)
      · simp only [List.getElem?_toArray]; rfl
      · kernel_rfl
      · kernel_rfl
      · kernel_rfl
      · exact fun _ _ _ h => h
      · exact Or.inl ⟨by rfl, by intro w hSw; go_simp; try with_reducible rfl⟩
      · assumption
      try simp only [Act.put, List.setIfInBounds_toArray, List.set_cons_zero, List.set_cons_succ]
      apply wpAnyH_ready (rs := [4, 6])
      · kernel_rfl
      · simp
      refine AllReadyH.cons (o := ?o4) ?h4 ?k4 (AllReadyH.cons (o := ?o6) ?h6 ?k6 AllReadyH.nil)
      case h4 => simp only [List.getElem?_toArray]; rfl
      case h6 => simp only [List.getElem?_toArray]; rfl
      case k4 =>
        intro K hK
        rw [if_pos (by rfl)]
        go_simp
        refine hK.out _ _ trivial (fun hHeld => ?_)
        clear hK K
        try simp only [Act.put, List.setIfInBounds_toArray, List.set_cons_zero, List.set_cons_succ]
        apply wpAnyH_ready (rs := [6])
        · kernel_rfl
        · simp
        apply AllReadyH.cons (hs := AllReadyH.nil)
        · simp only [List.getElem?_toArray]; rfl
        intro K hK
        rw [if_pos (by rfl)]
        go_simp
        refine (HMK.out _ HRD.out.rd).mono ?_; rintro z wA ⟨u, rfl, hrowA, hrA, hkA, hfsA⟩
        obtain ⟨ua, uc, rfl⟩ := row_form hrowA
        have HRA := Lib.hid (HRD.out.reads hrA hkA)
        have HROWA := Lib.hid (row_old HROW.out hkA (fun q hq => by have := row_base HROW.out q hq; simp; omega))
        have HU1 := Lib.hid (row_one hrowA)
        have hbase : w0.heap.size ≤ wr.drew.heap.size := HRD.out.keeps.size
        have HINA := Lib.hid ((HINN.out.keeps hkA (fun q hq => .inl (by simp at hq; omega))).snoc (row_up hrowA (fun q hq => by rcases hfsA q hq with h | h; simp at h; omega)))
        clear hrowA hfsA hbase
        have c10A := ev_cell HRA.out.ev 11 (evC_11 _ _ _)
        have hzA : b < wA.heap.size := lt_of_block HRA.out.ev
        clear hrA hkA
        go_wp2_with fail
        refine hK.out _ _ trivial (fun hHeld => ?_)
        clear hK K
        try simp only [Act.put, List.setIfInBounds_toArray, List.set_cons_zero, List.set_cons_succ]
        apply wpAnyH_ready (rs := [7])
        · kernel_rfl
        · simp
        apply AllReadyH.cons (hs := AllReadyH.nil)
        · simp only [List.getElem?_toArray]; rfl
        intro K hK
        rw [if_pos (by rfl)]
        go_simp
        refine hK.out _ _ trivial (fun hHeld => ?_)
        clear hK K
        try simp only [Act.put, List.setIfInBounds_toArray, List.set_cons_zero, List.set_cons_succ]
        have hz1 : w0.heap.size ≤ wA.heap.size := HRA.out.keeps.size
        obtain ⟨v', w4, hr4, ho4, hk4⟩ := HAPP.out wA hz1 HROWA.out _ HU1.out
        have HR4 := Lib.hid hr4; have HO4 := Lib.hid ho4
        have HINA4 := Lib.hid (HINA.out.keeps hk4 (fun q hq => .inr (by obtain ⟨cs, fr, h⟩ := row_kind HROWA.out q hq; exact ⟨cs, _, fr, h, by decide⟩)))
        have HRA4 := Lib.hid (HRA.out.fresh hk4 (fun q hq => (row_base HROWA.out q hq).1) hb hr hg)
        clear hr4 ho4 hk4
        apply wpAnyH_ready (rs := [8])
        · kernel_rfl
        · simp
        apply AllReadyH.cons (hs := AllReadyH.nil)
        · simp only [List.getElem?_toArray]; rfl
        intro K hK
        rw [if_pos (by rfl)]
        refine wp_append_run _ _ 28 rfl _ _ _ _ rfl rfl HR4.out ?_
        refine hK.out _ _ trivial (fun hHeld => ?_)
        clear hK K
        try simp only [Act.put, List.setIfInBounds_toArray, List.set_cons_zero, List.set_cons_succ]
        apply wpAnyH_take (i := 9)
        · simp only [List.getElem?_toArray]; rfl
        · kernel_rfl
        · kernel_rfl
        · kernel_rfl
        · exact fun _ _ _ h => h
        · exact Or.inl ⟨by rfl, by intro w hSw; go_simp; try with_reducible rfl⟩
        · assumption
        try simp only [Act.put, List.setIfInBounds_toArray, List.set_cons_zero, List.set_cons_succ]
        apply wpAnyH_take (i := 10)
        · simp only [List.getElem?_toArray]; rfl
        · kernel_rfl
        · kernel_rfl
        · kernel_rfl
        · exact fun _ _ _ h => h
        · exact Or.inl ⟨by rfl, by intro w hSw; go_simp; try with_reducible rfl⟩
        · assumption
        try simp only [Act.put, List.setIfInBounds_toArray, List.set_cons_zero, List.set_cons_succ]
        apply wpAnyH_ready (rs := [11])
        · kernel_rfl
        · simp
        apply AllReadyH.cons (hs := AllReadyH.nil)
        · simp only [List.getElem?_toArray]; rfl
        intro K hK
        rw [if_pos (by rfl)]
        refine wp_put_cell (T := 28) 11 { x with c := cc, id := ii, r := lisL xs (k + 1) s1 } tx0 v' rfl rfl rfl HRA4.out.ev (by kernel_rfl) (row_one HO4.out) rfl rfl ?_
        intro W5 hb5 hk5
        have HR5 := Lib.hid (HRA4.out.puts hb5 hk5)
        have HO5 := Lib.hid (row_old HO4.out hk5 (fun q hq => by have := (row_base HO4.out q hq).1; simp; omega))
        have HI5 := Lib.hid (HINA4.out.keeps hk5 (fun q hq => .inl (by simp at hq; omega)))
        clear hb5 hk5
        refine hK.out _ _ trivial (fun hHeld => ?_)
        clear hK K
        try simp only [Act.put]
        refine wpAnyH_done (by kernel_rfl) ?_ _
        refine NoPanic.normal ?_
        go_wp2_with fail
        go_roundw
        case rel => exact ⟨k + 1, v', _, by go_num, by omega, HR5.out, HO5.out, HI5.out⟩
        case measure => simp [intOf]; omega
      case k6 =>
        intro K hK
        rw [if_pos (by rfl)]
        go_simp
        refine (HMK.out _ HRD.out.rd).mono ?_; rintro z wA ⟨u, rfl, hrowA, hrA, hkA, hfsA⟩
        obtain ⟨ua, uc, rfl⟩ := row_form hrowA
        have HRA := Lib.hid (HRD.out.reads hrA hkA)
        have HROWA := Lib.hid (row_old HROW.out hkA (fun q hq => by have := row_base HROW.out q hq; simp; omega))
        have HU1 := Lib.hid (row_one hrowA)
        have hbase : w0.heap.size ≤ wr.drew.heap.size := HRD.out.keeps.size
        have HINA := Lib.hid ((HINN.out.keeps hkA (fun q hq => .inl (by simp at hq; omega))).snoc (row_up hrowA (fun q hq => by rcases hfsA q hq with h | h; simp at h; omega)))
        clear hrowA hfsA hbase
        have c10A := ev_cell HRA.out.ev 11 (evC_11 _ _ _)
        have hzA : b < wA.heap.size := lt_of_block HRA.out.ev
        clear hrA hkA
        go_wp2_with fail
        refine hK.out _ _ trivial (fun hHeld => ?_)
        clear hK K
        try simp only [Act.put, List.setIfInBounds_toArray, List.set_cons_zero, List.set_cons_succ]
        apply wpAnyH_ready (rs := [4, 7])
        · kernel_rfl
        · simp
        refine AllReadyH.cons (o := ?o4) ?h4 ?k4 (AllReadyH.cons (o := ?o7) ?h7 ?k7 AllReadyH.nil)
        case h4 => simp only [List.getElem?_toArray]; rfl
        case h7 => simp only [List.getElem?_toArray]; rfl
        case k4 =>
          intro K hK
          rw [if_pos (by rfl)]
          go_simp
          refine hK.out _ _ trivial (fun hHeld => ?_)
          clear hK K
          try simp only [Act.put, List.setIfInBounds_toArray, List.set_cons_zero, List.set_cons_succ]
          apply wpAnyH_ready (rs := [7])
          · kernel_rfl
          · simp
          apply AllReadyH.cons (hs := AllReadyH.nil)
          · simp only [List.getElem?_toArray]; rfl
          intro K hK
          rw [if_pos (by rfl)]
          go_simp
          refine hK.out _ _ trivial (fun hHeld => ?_)
          clear hK K
          try simp only [Act.put, List.setIfInBounds_toArray, List.set_cons_zero, List.set_cons_succ]
          have hz1 : w0.heap.size ≤ wA.heap.size := HRA.out.keeps.size
          obtain ⟨v', w4, hr4, ho4, hk4⟩ := HAPP.out wA hz1 HROWA.out _ HU1.out
          have HR4 := Lib.hid hr4; have HO4 := Lib.hid ho4
          have HINA4 := Lib.hid (HINA.out.keeps hk4 (fun q hq => .inr (by obtain ⟨cs, fr, h⟩ := row_kind HROWA.out q hq; exact ⟨cs, _, fr, h, by decide⟩)))
          have HRA4 := Lib.hid (HRA.out.fresh hk4 (fun q hq => (row_base HROWA.out q hq).1) hb hr hg)
          clear hr4 ho4 hk4
          apply wpAnyH_ready (rs := [8])
          · kernel_rfl
          · simp
          apply AllReadyH.cons (hs := AllReadyH.nil)
          · simp only [List.getElem?_toArray]; rfl
          intro K hK
          rw [if_pos (by rfl)]
          refine wp_append_run _ _ 28 rfl _ _ _ _ rfl rfl HR4.out ?_
          refine hK.out _ _ trivial (fun hHeld => ?_)
          clear hK K
          try simp only [Act.put, List.setIfInBounds_toArray, List.set_cons_zero, List.set_cons_succ]
          apply wpAnyH_take (i := 9)
          · simp only [List.getElem?_toArray]; rfl
          · kernel_rfl
          · kernel_rfl
          · kernel_rfl
          · exact fun _ _ _ h => h
          · exact Or.inl ⟨by rfl, by intro w hSw; go_simp; try with_reducible rfl⟩
          · assumption
          try simp only [Act.put, List.setIfInBounds_toArray, List.set_cons_zero, List.set_cons_succ]
          apply wpAnyH_take (i := 10)
          · simp only [List.getElem?_toArray]; rfl
          · kernel_rfl
          · kernel_rfl
          · kernel_rfl
          · exact fun _ _ _ h => h
          · exact Or.inl ⟨by rfl, by intro w hSw; go_simp; try with_reducible rfl⟩
          · assumption
          try simp only [Act.put, List.setIfInBounds_toArray, List.set_cons_zero, List.set_cons_succ]
          apply wpAnyH_ready (rs := [11])
          · kernel_rfl
          · simp
          apply AllReadyH.cons (hs := AllReadyH.nil)
          · simp only [List.getElem?_toArray]; rfl
          intro K hK
          rw [if_pos (by rfl)]
          refine wp_put_cell (T := 28) 11 { x with c := cc, id := ii, r := lisL xs (k + 1) s1 } tx0 v' rfl rfl rfl HRA4.out.ev (by kernel_rfl) (row_one HO4.out) rfl rfl ?_
          intro W5 hb5 hk5
          have HR5 := Lib.hid (HRA4.out.puts hb5 hk5)
          have HO5 := Lib.hid (row_old HO4.out hk5 (fun q hq => by have := (row_base HO4.out q hq).1; simp; omega))
          have HI5 := Lib.hid (HINA4.out.keeps hk5 (fun q hq => .inl (by simp at hq; omega)))
          clear hb5 hk5
          refine hK.out _ _ trivial (fun hHeld => ?_)
          clear hK K
          try simp only [Act.put]
          refine wpAnyH_done (by kernel_rfl) ?_ _
          refine NoPanic.normal ?_
          go_wp2_with fail
          go_roundw
          case rel => exact ⟨k + 1, v', _, by go_num, by omega, HR5.out, HO5.out, HI5.out⟩
          case measure => simp [intOf]; omega
        case k7 =>
          intro K hK
          rw [if_pos (by rfl)]
          go_simp
          refine hK.out _ _ trivial (fun hHeld => ?_)
          clear hK K
          try simp only [Act.put, List.setIfInBounds_toArray, List.set_cons_zero, List.set_cons_succ]
          apply wpAnyH_ready (rs := [4])
          · kernel_rfl
          · simp
          apply AllReadyH.cons (hs := AllReadyH.nil)
          · simp only [List.getElem?_toArray]; rfl
          intro K hK
          rw [if_pos (by rfl)]
          go_simp
          refine hK.out _ _ trivial (fun hHeld => ?_)
          clear hK K
          try simp only [Act.put, List.setIfInBounds_toArray, List.set_cons_zero, List.set_cons_succ]
          have hz1 : w0.heap.size ≤ wA.heap.size := HRA.out.keeps.size
          obtain ⟨v', w4, hr4, ho4, hk4⟩ := HAPP.out wA hz1 HROWA.out _ HU1.out
          have HR4 := Lib.hid hr4; have HO4 := Lib.hid ho4
          have HINA4 := Lib.hid (HINA.out.keeps hk4 (fun q hq => .inr (by obtain ⟨cs, fr, h⟩ := row_kind HROWA.out q hq; exact ⟨cs, _, fr, h, by decide⟩)))
          have HRA4 := Lib.hid (HRA.out.fresh hk4 (fun q hq => (row_base HROWA.out q hq).1) hb hr hg)
          clear hr4 ho4 hk4
          apply wpAnyH_ready (rs := [8])
          · kernel_rfl
          · simp
          apply AllReadyH.cons (hs := AllReadyH.nil)
          · simp only [List.getElem?_toArray]; rfl
          intro K hK
          rw [if_pos (by rfl)]
          refine wp_append_run _ _ 28 rfl _ _ _ _ rfl rfl HR4.out ?_
          refine hK.out _ _ trivial (fun hHeld => ?_)
          clear hK K
          try simp only [Act.put, List.setIfInBounds_toArray, List.set_cons_zero, List.set_cons_succ]
          apply wpAnyH_take (i := 9)
          · simp only [List.getElem?_toArray]; rfl
          · kernel_rfl
          · kernel_rfl
          · kernel_rfl
          · exact fun _ _ _ h => h
          · exact Or.inl ⟨by rfl, by intro w hSw; go_simp; try with_reducible rfl⟩
          · assumption
          try simp only [Act.put, List.setIfInBounds_toArray, List.set_cons_zero, List.set_cons_succ]
          apply wpAnyH_take (i := 10)
          · simp only [List.getElem?_toArray]; rfl
          · kernel_rfl
          · kernel_rfl
          · kernel_rfl
          · exact fun _ _ _ h => h
          · exact Or.inl ⟨by rfl, by intro w hSw; go_simp; try with_reducible rfl⟩
          · assumption
          try simp only [Act.put, List.setIfInBounds_toArray, List.set_cons_zero, List.set_cons_succ]
          apply wpAnyH_ready (rs := [11])
          · kernel_rfl
          · simp
          apply AllReadyH.cons (hs := AllReadyH.nil)
          · simp only [List.getElem?_toArray]; rfl
          intro K hK
          rw [if_pos (by rfl)]
          refine wp_put_cell (T := 28) 11 { x with c := cc, id := ii, r := lisL xs (k + 1) s1 } tx0 v' rfl rfl rfl HRA4.out.ev (by kernel_rfl) (row_one HO4.out) rfl rfl ?_
          intro W5 hb5 hk5
          have HR5 := Lib.hid (HRA4.out.puts hb5 hk5)
          have HO5 := Lib.hid (row_old HO4.out hk5 (fun q hq => by have := (row_base HO4.out q hq).1; simp; omega))
          have HI5 := Lib.hid (HINA4.out.keeps hk5 (fun q hq => .inl (by simp at hq; omega)))
          clear hb5 hk5
          refine hK.out _ _ trivial (fun hHeld => ?_)
          clear hK K
          try simp only [Act.put]
          refine wpAnyH_done (by kernel_rfl) ?_ _
          refine NoPanic.normal ?_
          go_wp2_with fail
          go_roundw
          case rel => exact ⟨k + 1, v', _, by go_num, by omega, HR5.out, HO5.out, HI5.out⟩
          case measure => simp [intOf]; omega
    · obtain rfl : k = n := by omega
      have HRR := Lib.hid hR
      go_wp2_with fail
      refine (HER.out _ _ _ HRR.out.rd).mono ?_; rintro z w5 ⟨rfl, rfl⟩
      go_wp2_with fail
      go_ret
      exact ⟨tx, us, ⟨rfl, HRR.out⟩, hrow, hinn⟩
end Go.Proofs.YtnehnbhdkhgakaaDoor
