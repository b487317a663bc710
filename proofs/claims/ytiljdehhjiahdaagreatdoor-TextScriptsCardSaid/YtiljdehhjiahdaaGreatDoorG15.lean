/-
  The Reader's List, where a list is whole.
-/
import Derived.RangeFuncFrom
import Derived.Test.YtiljdehhjiahdaaGreatDoorG13
import Derived.Test.YtiljdehhjiahdaaGreatDoorG14
import Derived.Test.YtiljdehhjiahdaaGreatDoorG08
set_option linter.unusedSimpArgs false
set_option linter.unusedVariables false
namespace Go.Proofs.YtiljdehhjiahdaaGreatDoor
open Go.RowKit Go.Shelf
attribute [local go_sem] Oper.semAt_some
theorem Tryz.info16 : (Tryz.prog.info? 22).map (fun i => (i.zero, i.size, i.bytes)) = some (some (.int .u16 0), 1, 2) := by kernel_rfl
/-- The numbers of a list. -/
def lnum (xs : List Int) (q j : Nat) : Int := xs.getD (q + 2 * j) 0 * 256 + xs.getD (q + 2 * j + 1) 0
def lnums (xs : List Int) (p : Nat) : List Int := (List.range (xs.getD p 0).toNat).map (lnum xs (p + 1))
/-- What the loop keeps: the variable's box, the row that it has gathered. -/
def LInv (w : World) (BL q : Nat) (xs : List Int) {m : Nat} (pre : List (Fin m)) (W : World) : Prop :=
  ∃ v, W.heap[BL]? = some (.cells #[v] 58 (0, 0)) ∧ W.ownsRow 0 22 1 v pre.length ((pre.map fun x => lnum xs q x.val).map (.int .u16)) ∧ FSub (own v) [] w.heap.size ∧ Keeps [BL] w W

theorem linv_own {w : World} {BL q : Nat} {xs : List Int} {m : Nat} : OwnFrom w.heap.size (fun (pre : List (Fin m)) W => LInv w BL q xs pre W) := by
  rintro pre W W' row ⟨v, hb, hr, hs, hk⟩ hg hrow
  refine ⟨v, ?_, ?_, hs, ?_⟩
  · refine (hg.block BL (lt_of_block hb) fun e => ?_).trans hb
    obtain ⟨_, o, ho, hc⟩ := hrow BL e.symm
    rw [hb] at ho; cases ho; cases hc
  · refine hr.kept hg ?_
    rcases hr.2 with ⟨rfl, _⟩ | ⟨g, cap, cur, rfl, _, hgb, _⟩
    · exact .inl rfl
    · refine .inr fun e' => ?_
      obtain ⟨_, o, ho, hc⟩ := hrow g (by simpa [Value.ownBlock] using e'.symm)
      rw [hgb] at ho; cases ho; cases hc
  · refine ⟨hg.os.trans hk.os, hg.tape.trans hk.tape, hg.output.trans hk.output, Nat.le_trans hk.size hg.size, fun k hkl hF => ?_⟩
    refine (hg.block k (Nat.lt_of_lt_of_le hkl hk.size) fun e => ?_).trans (hk.block k hkl hF)
    have := (hrow k e.symm).1
    omega
/-- The append whose row is told, as one step of a region that draws its order, in a round. -/
theorem step_append_sharpIn {F : Fence} {n : Nat} {P : Program} {ops : Array Oper} {o : Oper} {a : Act} {w : World} {K : Act → World → Prop} {Q : Exit → Act → World → Prop} {E : Prop}
    (hg : o.guard = none) (s x : Operand) (t : TypeId) (hop : o.op = Op.call { callee := Callee.builtin Builtin.append, args := #[s, x], argTypes := #[t, t] })
    (e : TypeId) (i : TypeInfo) (z : Value) (bytes : Nat) (ht : P.underlying t = some (.slice e)) (hi : P.info? e = some i) (hz : i.zero = some z)
    (hsize : i.size = 1) (hby : i.bytes = bytes) (hzs : z.cells.size = 1)
    (v : Value) (k : Nat) (xs : List Value) (hs : a.eval s = v) (hown : w.ownsRow 0 e 1 v k xs)
    (ad : Addr) (m c : Nat) (news : List Value) (hx : a.eval x = .slice (some ad) m c) (hl : news.length = m) (hnews : ∀ j u, news[j]? = some u → w.cell? (ad.add j) = some u) (h1 : ∀ u ∈ news, u.oneCell' = true)
    (h63 : k + m ≤ maxLen) (hbytes : (k + m) * bytes ≤ 140737488355328)
    (hK : ∀ v' w', w'.ownsRow 0 e 1 v' (k + m) (xs ++ news) → Keeps (own v) w w' → FSub (own v') (own v) w.heap.size → K (a.put o.dst v') w') :
    if Region.wanted o (yielded ops a.tmps) = true then Oper.wpIn F n P o a w K Q else E := by
  have hw : Region.wanted o (yielded ops a.tmps) = true := by simp [Region.wanted, hg]
  rw [if_pos hw]
  obtain ⟨v', w', hrun, r1, r2, r3, _⟩ := run_append_sharp (P := P) w t o.type e i z bytes ht hi hz hsize hby hzs v k xs hown ad m c news hl hnews h1 h63 hbytes
  unfold Oper.wpIn
  refine ⟨?_, ?_⟩
  · simp [Oper.about, hop, resolve, Target.leads, Sem.run_pure]
  · rw [Oper.semAt_plain F _ _ (by rw [hop]; intro c hc'; cases hc')]
    simp [execOp, hop, resolve, invoke, builtin, hs, hx, hrun, Result.andThen]
    exact hK v' w' r1 r2 r3
theorem row_cells {w : World} {e : TypeId} {v : Value} {n : Nat} {xs : List Value} (hr : w.ownsRow 0 e 1 v n xs) : ∀ g ∈ own v, ∀ o, w.heap[g]? = some o → o.isCells = true := by
  intro g hg o ho
  rcases hr.2 with ⟨rfl, _⟩ | ⟨g', cap, cur, rfl, _, hh, _⟩
  · simp [own, Value.ownBlock] at hg
  · simp [own, Value.ownBlock] at hg
    subst hg
    rw [hh] at ho; cases ho; rfl
theorem body_end {W3 W X w4 : World} {BL q : Nat} {xs : List Int} {m : Nat} {pre : List (Fin m)} {x : Fin m} {v v' : Value} {tmp : Obj} (hBL : BL + 1 + 1 < W3.heap.size)
    (hkd : Keeps [] W X) (hb : X.heap[BL]? = some (.cells #[v] 58 (0, 0))) (hr : X.ownsRow 0 22 1 v pre.length ((pre.map fun x => lnum xs q x.val).map (.int .u16))) (hs : FSub (own v) [] W3.heap.size) (hk : Keeps [BL] W3 X) (hsz : X.heap.size = W.heap.size)
    (hr4 : w4.ownsRow 0 22 1 v' (pre.length + 1) ((pre.map fun x => lnum xs q x.val).map (.int .u16) ++ [.int .u16 (lnum xs q x.val)])) (hk4 : Keeps (own v) (X.alloc tmp) w4) (hs4 : FSub (own v') (own v) (X.alloc tmp).heap.size) :
    KeepsOthers W (w4.setCell ⟨BL, 0, none⟩ v') ∧ KpC [BL + 1, BL + 1 + 1] W (w4.setCell ⟨BL, 0, none⟩ v') ∧ LInv W3 BL q xs (pre ++ [x]) (w4.setCell ⟨BL, 0, none⟩ v') := by
  have hbX := lt_of_block hb
  have hov : ∀ g ∈ own v, W3.heap.size ≤ g := fun g hg => (hs g hg).elim (fun h => by simp at h) id
  have hXsz := hk.size
  have k1 : Keeps (BL :: own v) X (w4.setCell ⟨BL, 0, none⟩ v') := ((((Keeps.refl [] X).alloc tmp).more (G := BL :: own v) (by simp)).step hk4 (fun g hg => by simp [hg])).setCell _ _ (by simp)
  have hb4 : w4.heap[BL]? = some (.cells #[v] 58 (0, 0)) := hk4.heap (heap_alloc_lt hb) (fun hm => by have := hov BL hm; omega)
  have kW : Keeps (BL :: own v) W (w4.setCell ⟨BL, 0, none⟩ v') := (hkd.more (by simp)).step k1 (fun _ h => h)
  have hlt1 := hs.trans (FSub.refl _ 0) (Nat.zero_le _) (Nat.le_refl _)
  have hs4' : FSub (own v') [] W3.heap.size := hs4.trans hs (by simp; omega) (Nat.le_refl _)
  refine ⟨kW.others ?_, ?_, v', one_setCell hb4, ?_, hs4', ?_⟩
  · intro g hg o ho
    have hoX : X.heap[g]? = some o := hkd.heap ho (by simp)
    simp at hg
    rcases hg with rfl | hg
    · rw [hb] at hoX; cases hoX; rfl
    · exact row_cells hr g hg o hoX
  · intro k hkk
    simp at hkk
    refine kW.block k (by omega) ?_
    simp
    refine ⟨by omega, fun hm => ?_⟩
    have := hov k hm
    omega
  · have e : ((pre ++ [x]).map fun x => lnum xs q x.val).map (Value.int .u16) = (pre.map fun x => lnum xs q x.val).map (.int .u16) ++ [.int .u16 (lnum xs q x.val)] := by simp
    rw [e, List.length_append]
    refine ((Keeps.refl [BL] w4).setCell ⟨BL, 0, none⟩ v' (by simp)).row hr4 (fun g hg hm => ?_)
    simp at hm
    subst hm
    rcases hs4' g hg with h | h
    · simp at h
    · omega
  · exact hk.trans k1 (fun g hg => by
      simp at hg
      rcases hg with rfl | hg
      · exact .inl (by simp)
      · exact .inr (hov g hg))
set_option maxRecDepth 100000 in
set_option maxHeartbeats 4000000 in
theorem RList_ok (w : World) (r g cap p : Nat) (xs : List Int) (h : RAt w r g cap xs 0 p) (hx : InU8 xs) (hl : xs.length ≤ 1000000) (hw : LWhole xs p) :
    Calls Tryz.prog 129 #[.pointer (some ⟨r, 0, none⟩)] w fun x w' => ∃ v, x = .returned v ∧ w'.ownsRow 0 22 1 v (xs.getD p 0).toNat ((lnums xs p).map (.int .u16)) ∧ RAt w' r g cap xs 0 (p + 1 + 2 * (xs.getD p 0).toNat) ∧ Keeps [r] w w' ∧ FSub (own v) [] w.heap.size := by
  obtain ⟨c0, c1, c2, f0, f1, f2⟩ := cell3 h.blk
  obtain ⟨i0, hi, hz0, hz1, hz2⟩ := info_parts Tryz.info16
  obtain ⟨hp, ht⟩ := hw
  have e1 : rdVal 1 xs 0 p = xs.getD p 0 := by rw [rdVal, if_pos ⟨rfl, hp⟩, numOf_1 xs p hp]; rfl
  have e2 : rdErr 1 xs 0 p = 0 := by simp [rdErr]; omega
  have e3 : rdPos 1 xs 0 p = p + 1 := by rw [rdPos, if_pos ⟨rfl, hp⟩]
  have h8 := RU8_any w r g cap p xs 0 h hx hl
  rw [e1, e2, e3] at h8
  clear e1 e2 e3
  have hc := hx p
  unfold lnums
  generalize hn : xs.getD p 0 = n at *
  clear hn
  obtain ⟨m, rfl⟩ := Int.eq_ofNat_of_zero_le hc.1
  rw [Int.toNat_natCast] at *
  have hm : (m : Int) < 256 := hc.2
  have H8 := Lib.hid h8; clear h8 hc
  have HX := Lib.hid hx; clear hx
  refine (callsIn_wide (n := 8)).1 ?_
  refine callsIn_of_wp_marks Tryz.func129 rfl trivial ?_ rfl
  simp only [Tryz.ntmps129, List.size_toArray, List.length_cons, List.length_nil, Nat.reduceAdd, Nat.reduceSub, Array.replicate_succ, Array.replicate_zero, List.push_toArray, List.append_toArray, List.nil_append, List.cons_append]
  gi_wp2_with fail
  refine ⟨trivial, (callsIn_wide.2 (Err_any _ r g cap p xs 0 h)).mono ?_⟩
  rintro x w1 ⟨rfl, rfl⟩
  gi_wp2_with fail
  refine ⟨trivial, (callsIn_wide.2 H8.out).mono ?_⟩
  rintro x w1 ⟨rfl, h1, hk1⟩
  gi_wp2_with fail
  refine ⟨trivial, (callsIn_wide.2 (wid16_any _)).mono ?_⟩
  rintro x w2 ⟨rfl, rfl⟩
  have em : (m : Int) * 2 = ((2 * m : Nat) : Int) := by omega
  gi_wp2_with fail
  refine ⟨trivial, (callsIn_wide.2 (take_ok _ r g cap (p + 1) xs h1 hl (2 * m) ht)).mono ?_⟩
  rintro x w2 ⟨⟨o, c, rfl, hcc, hcl⟩, h2, hk2⟩
  obtain ⟨d0, d1, d2, g0, g1, g2⟩ := cell3 h2.blk
  clear em c0 c1 c2 f0 f1 f2
  have HC := Lib.hid hcl; clear hcl
  gi_wp2_with fail
  refine ⟨trivial, (callsIn_wide.2 (wid16_any _)).mono ?_⟩
  rintro x w3 ⟨rfl, rfl⟩
  clear d0 d1 d2 g0 g1 g2
  obtain ⟨M, hM⟩ : ∃ M, M = 2 * m := ⟨_, rfl⟩
  rw [← hM]
  have HM := Lib.hid hM; clear hM
  gi_wp2_with fail
  refine ⟨trivial, (Chunk_in Fence.wide 7 trivial rfl (some ⟨g, o, none⟩) M c _).mono ?_⟩
  rintro x w3 ⟨rfl, rfl⟩
  gi_wp2_with fail
  obtain ⟨W3, hW3⟩ : ∃ W3, W3 = (((w2.alloc (.cells #[.slice none 0 0] 58)).alloc (.cells #[.slice (some ⟨g, o, none⟩) M c] 84)).alloc (.cells #[.int .i64 2] 3)) := ⟨_, rfl⟩
  have hsz : W3.heap.size = w2.heap.size + 3 := by rw [hW3]; simp
  have bL : W3.heap[w2.heap.size]? = some (.cells #[.slice none 0 0] 58 (0, 0)) := by
    rw [hW3]; exact heap_alloc_lt (heap_alloc_lt (heap_alloc_new w2 _))
  have bS : W3.heap[w2.heap.size + 1]? = some (.cells #[.slice (some ⟨g, o, none⟩) M c] 84 (0, 0)) := by
    rw [hW3]
    have := heap_alloc_new (w2.alloc (.cells #[.slice none 0 0] 58)) (.cells #[.slice (some ⟨g, o, none⟩) M c] 84)
    rw [World.size_alloc] at this
    exact heap_alloc_lt this
  have bN : W3.heap[w2.heap.size + 1 + 1]? = some (.cells #[.int .i64 2] 3 (0, 0)) := by
    rw [hW3]
    have := heap_alloc_new ((w2.alloc (.cells #[.slice none 0 0] 58)).alloc (.cells #[.slice (some ⟨g, o, none⟩) M c] 84)) (.cells #[.int .i64 2] 3)
    rw [World.size_alloc, World.size_alloc] at this
    exact this
  have hk3 : Keeps [] w2 W3 := by rw [hW3]; exact (((Keeps.refl _ _).alloc _).alloc _).alloc _
  rw [← hW3]
  clear hW3
  refine wpIn_rangeFunc_ownF (F := Fence.wide) rfl (by omega) (gf := 169) (lb := #[.pointer (some ⟨w2.heap.size + 1, 0, none⟩), .pointer (some ⟨w2.heap.size + 1 + 1, 0, none⟩)]) rfl trivial (enters_of Tryz.func169 (by kernel_rfl) rfl)
    (encs := fun x : Fin m => chunk g o x) (Kp := KpC [w2.heap.size + 1, w2.heap.size + 1 + 1]) (S := fun ys => ys = List.finRange m) (Sp := fun _ => True) (N := m) (w0 := W3)
    (fun l J Jx W hW hJ hJx hY h0 => Chunk1_in Fence.wide 7 trivial rfl (by omega) l _ _ g o c m M HM.out (by have := HM.out; omega) (by omega) J Jx W hJ hY ((hW.block _ (by omega)).trans bS) ((hW.block _ (by omega)).trans bN) h0)
    (fun h k => KpC.trans h k) (fun W l o o' hl ho _ _ => fun k hk => World.putObj_heap_other (by simp at hk; omega)) (Below.refl _ _) (fun _ => rfl)
    (fun pre W => LInv W3 w2.heap.size (p + 1) xs pre W) (fun _ _ _ => False) linv_own (fun _ _ _ _ _ hs _ _ => hs)
    ⟨_, bL, World.ownsRow_nil _ _ _ _, fun g hg => by simp [own_nil] at hg, Keeps.refl _ _⟩
    (fun x => { tmps := #[.pointer (some ⟨r, 0, none⟩), undef, .slice none 0 0, .int .i64 p, .slice (some ⟨g, o, none⟩) M c, .pointer (some ⟨w2.heap.size, 0, none⟩), .slice (some ⟨g, o + 2 * x.val, none⟩) 2 2, .pointer (some ⟨r, 0, none⟩), .int .i64 0, .bool false,
          .pointer (some ⟨r, 0, none⟩), .pointer (some ⟨r, 0, none⟩), .pointer (some ⟨r, 2, none⟩), .int .i64 p, .pointer (some ⟨r, 0, none⟩), .pointer (some ⟨r, 0, none⟩), .int .u8 m, .int .i64 m, .int .i64 2, .int .i64 (2 * m), .slice (some ⟨g, o, none⟩) M c,
          .pointer (some ⟨r, 0, none⟩), .pointer (some ⟨r, 0, none⟩), .pointer (some ⟨r, 0, none⟩), .pointer (some ⟨r, 1, none⟩), .int .i64 0, .bool false, undef, undef, undef, undef, .slice (some ⟨g, o, none⟩) M c, .int .i64 2,
          .func (.func 169) #[] #[.pointer (some ⟨w2.heap.size + 1, 0, none⟩), .pointer (some ⟨w2.heap.size + 1 + 1, 0, none⟩)], .slice (some ⟨g, o + 2 * x.val, none⟩) 2 2, undef, undef, undef, undef, undef, undef], defers := [] }) ?assign ?body ?done ?stop
  case assign =>
    intro l x W K hK
    simp only [chunk]
    gi_wp2
    exact hK
  case body =>
    rintro l pre x W ⟨v, hb, hr, hs, hk⟩ hlt
    gi_wp2_with fail
    refine wpIn_region_any (by kernel_rfl) ?_
    change wpAnyIn _ _ _ _ _ _ _ _ _ (World.drew _)
    have hkd : Keeps [] W W.drew := (Keeps.refl _ _).drew
    replace hb : W.drew.heap[w2.heap.size]? = some (.cells #[v] 58 (0, 0)) := hb
    replace hr : W.drew.ownsRow 0 22 1 v pre.length ((pre.map fun x => lnum xs (p + 1) x.val).map (.int .u16)) := hr
    replace hk : Keeps [w2.heap.size] W3 W.drew := hk.drew
    have hXW : W.drew.heap.size = W.heap.size := rfl
    generalize W.drew = X at *
    have c0 := cell_of_one hb
    have f0 := free_of_one hb
    have hxz := Lib.hid hXW; clear hXW
    have cA : (X.alloc (.cells #[.int .u16 (lnum xs (p + 1) x.val)] 22)).cell? ⟨w2.heap.size, 0, none⟩ = some v := cell_of_one (heap_alloc_lt hb)
    have hltX := lt_of_block hb
    have hg2 : g < w2.heap.size := by
      have := h2.src 0 (by omega)
      exact World.block_lt_of_cell? w2 _ this
    have cellX : ∀ j, j < 2 * m → X.cell? ⟨g, o + j, none⟩ = some (.int .u8 (xs.getD (p + 1 + j) 0)) := fun j hj =>
      hk.cell (hk3.cell (hk2.cell (HC.out j hj) (by simpa using h2.ne)) (by simp)) (by simp; omega)
    have hcx0 := cellX (2 * x.val) (by have := x.isLt; omega)
    have hcx1 := cellX (2 * x.val + 1) (by have := x.isLt; omega)
    rw [← Nat.add_assoc] at hcx1
    have hj16 : ∀ w, w.cell? ⟨g, o + 2 * x.val, none⟩ = some (.int .u8 (xs.getD (p + 1 + 2 * x.val) 0)) → w.cell? ⟨g, o + 2 * x.val + 1, none⟩ = some (.int .u8 (xs.getD (p + 1 + (2 * x.val + 1)) 0)) →
        Calls Tryz.prog 153 #[.slice (some ⟨g, o + 2 * x.val, none⟩) 2 2] w fun y w' => y = .returned (.int .u16 (lnum xs (p + 1) x.val)) ∧ w = w' := fun w e0 e1 =>
      join16_two w g (o + 2 * x.val) 2 _ _ (HX.out _).1 (HX.out _).2 (HX.out _).1 (HX.out _).2 e0 e1
    have HJ := Lib.hid hj16; clear hj16 cellX
    have hp255 : pre.length < 256 := by omega
    refine wpAnyIn_ready (rs := [0, 1]) (by kernel_rfl) (by simp) ?_
    refine AllReadyIn.cons rfl (fun K hK => ?_) (AllReadyIn.cons rfl (fun K hK => ?_) AllReadyIn.nil)
    · go_simp
      refine hK _ _ ?_
      clear hK K
      refine wpAnyIn_ready (rs := [1]) (by kernel_rfl) (by simp) ?_
      refine AllReadyIn.cons rfl (fun K hK => ?_) AllReadyIn.nil
      go_simp
      refine hK _ _ ?_
      clear hK K
      refine wpAnyIn_ready (rs := [2]) (by kernel_rfl) (by simp) ?_
      refine AllReadyIn.cons rfl (fun K hK => ?_) AllReadyIn.nil
      go_simp
      refine ⟨trivial, (CallsIn.inRound l (callsIn_wide.2 (HJ.out _ hcx0 hcx1))).mono ?_⟩
      rintro y wy ⟨rfl, rfl⟩
      refine hK _ _ ?_
      clear hK K
      refine wpAnyIn_ready (rs := [3]) (by kernel_rfl) (by simp) ?_
      refine AllReadyIn.cons rfl (fun K hK => ?_) AllReadyIn.nil
      go_simp
      refine hK _ _ ?_
      clear hK K
      refine wpAnyIn_ready (rs := [4]) (by kernel_rfl) (by simp) ?_
      refine AllReadyIn.cons rfl (fun K hK => ?_) AllReadyIn.nil
      refine step_append_sharpIn rfl _ _ 58 rfl 22 i0 (.int .u16 0) 2 Tryz.underlying58 hi hz0 hz1 hz2 rfl v pre.length _ rfl (hr.alloc _) ⟨X.heap.size, 0, none⟩ 1 1 [.int .u16 (lnum xs (p + 1) x.val)] rfl rfl (one_new _ _ _) (by simp [Value.oneCell']) (by unfold maxLen; omega) (by omega) ?_
      rintro v' w4 hr4 hk4 hs4
      refine hK _ _ ?_
      clear hK K
      obtain ⟨fA, fB, fC⟩ := body_end (by omega) hkd hb hr hs hk hxz.out hr4 hk4 hs4
      have hb4 : w4.heap[w2.heap.size]? = some (.cells #[v] 58 (0, 0)) := hk4.heap (heap_alloc_lt hb) (fun hm => by have := hs _ hm; simp at this; omega)
      obtain ⟨a', cap', rfl⟩ := row_form hr4
      have cz := cell_of_one hb4
      have fz := free_of_one hb4
      have FA := Lib.hid fA; have FB := Lib.hid fB; have FC := Lib.hid fC; clear fA fB fC hb4 hr4 hk4 hs4
      refine wpAnyIn_ready (rs := [5]) (by kernel_rfl) (by simp) ?_
      refine AllReadyIn.cons rfl (fun K hK => ?_) AllReadyIn.nil
      go_simp
      refine hK _ _ ?_
      clear hK K
      refine wpAnyIn_done (by kernel_rfl) ?_ _
      exact ⟨FA.out, FB.out, FC.out⟩
    · go_simp
      refine hK _ _ ?_
      clear hK K
      refine wpAnyIn_ready (rs := [0, 2]) (by kernel_rfl) (by simp) ?_
      refine AllReadyIn.cons rfl (fun K hK => ?_) (AllReadyIn.cons rfl (fun K hK => ?_) AllReadyIn.nil)
      · go_simp
        refine hK _ _ ?_
        clear hK K
        refine wpAnyIn_ready (rs := [2]) (by kernel_rfl) (by simp) ?_
        refine AllReadyIn.cons rfl (fun K hK => ?_) AllReadyIn.nil
        go_simp
        refine ⟨trivial, (CallsIn.inRound l (callsIn_wide.2 (HJ.out _ hcx0 hcx1))).mono ?_⟩
        rintro y wy ⟨rfl, rfl⟩
        refine hK _ _ ?_
        clear hK K
        refine wpAnyIn_ready (rs := [3]) (by kernel_rfl) (by simp) ?_
        refine AllReadyIn.cons rfl (fun K hK => ?_) AllReadyIn.nil
        go_simp
        refine hK _ _ ?_
        clear hK K
        refine wpAnyIn_ready (rs := [4]) (by kernel_rfl) (by simp) ?_
        refine AllReadyIn.cons rfl (fun K hK => ?_) AllReadyIn.nil
        refine step_append_sharpIn rfl _ _ 58 rfl 22 i0 (.int .u16 0) 2 Tryz.underlying58 hi hz0 hz1 hz2 rfl v pre.length _ rfl (hr.alloc _) ⟨X.heap.size, 0, none⟩ 1 1 [.int .u16 (lnum xs (p + 1) x.val)] rfl rfl (one_new _ _ _) (by simp [Value.oneCell']) (by unfold maxLen; omega) (by omega) ?_
        rintro v' w4 hr4 hk4 hs4
        refine hK _ _ ?_
        clear hK K
        obtain ⟨fA, fB, fC⟩ := body_end (by omega) hkd hb hr hs hk hxz.out hr4 hk4 hs4
        have hb4 : w4.heap[w2.heap.size]? = some (.cells #[v] 58 (0, 0)) := hk4.heap (heap_alloc_lt hb) (fun hm => by have := hs _ hm; simp at this; omega)
        obtain ⟨a', cap', rfl⟩ := row_form hr4
        have cz := cell_of_one hb4
        have fz := free_of_one hb4
        have FA := Lib.hid fA; have FB := Lib.hid fB; have FC := Lib.hid fC; clear fA fB fC hb4 hr4 hk4 hs4
        refine wpAnyIn_ready (rs := [5]) (by kernel_rfl) (by simp) ?_
        refine AllReadyIn.cons rfl (fun K hK => ?_) AllReadyIn.nil
        go_simp
        refine hK _ _ ?_
        clear hK K
        refine wpAnyIn_done (by kernel_rfl) ?_ _
        exact ⟨FA.out, FB.out, FC.out⟩
      · go_simp
        refine ⟨trivial, (CallsIn.inRound l (callsIn_wide.2 (HJ.out _ hcx0 hcx1))).mono ?_⟩
        rintro y wy ⟨rfl, rfl⟩
        refine hK _ _ ?_
        clear hK K
        refine wpAnyIn_ready (rs := [0, 3]) (by kernel_rfl) (by simp) ?_
        refine AllReadyIn.cons rfl (fun K hK => ?_) (AllReadyIn.cons rfl (fun K hK => ?_) AllReadyIn.nil)
        · go_simp
          refine hK _ _ ?_
          clear hK K
          refine wpAnyIn_ready (rs := [3]) (by kernel_rfl) (by simp) ?_
          refine AllReadyIn.cons rfl (fun K hK => ?_) AllReadyIn.nil
          go_simp
          refine hK _ _ ?_
          clear hK K
          refine wpAnyIn_ready (rs := [4]) (by kernel_rfl) (by simp) ?_
          refine AllReadyIn.cons rfl (fun K hK => ?_) AllReadyIn.nil
          refine step_append_sharpIn rfl _ _ 58 rfl 22 i0 (.int .u16 0) 2 Tryz.underlying58 hi hz0 hz1 hz2 rfl v pre.length _ rfl (hr.alloc _) ⟨X.heap.size, 0, none⟩ 1 1 [.int .u16 (lnum xs (p + 1) x.val)] rfl rfl (one_new _ _ _) (by simp [Value.oneCell']) (by unfold maxLen; omega) (by omega) ?_
          rintro v' w4 hr4 hk4 hs4
          refine hK _ _ ?_
          clear hK K
          obtain ⟨fA, fB, fC⟩ := body_end (by omega) hkd hb hr hs hk hxz.out hr4 hk4 hs4
          have hb4 : w4.heap[w2.heap.size]? = some (.cells #[v] 58 (0, 0)) := hk4.heap (heap_alloc_lt hb) (fun hm => by have := hs _ hm; simp at this; omega)
          obtain ⟨a', cap', rfl⟩ := row_form hr4
          have cz := cell_of_one hb4
          have fz := free_of_one hb4
          have FA := Lib.hid fA; have FB := Lib.hid fB; have FC := Lib.hid fC; clear fA fB fC hb4 hr4 hk4 hs4
          refine wpAnyIn_ready (rs := [5]) (by kernel_rfl) (by simp) ?_
          refine AllReadyIn.cons rfl (fun K hK => ?_) AllReadyIn.nil
          go_simp
          refine hK _ _ ?_
          clear hK K
          refine wpAnyIn_done (by kernel_rfl) ?_ _
          exact ⟨FA.out, FB.out, FC.out⟩
        · go_simp
          refine hK _ _ ?_
          clear hK K
          refine wpAnyIn_ready (rs := [0]) (by kernel_rfl) (by simp) ?_
          refine AllReadyIn.cons rfl (fun K hK => ?_) AllReadyIn.nil
          go_simp
          refine hK _ _ ?_
          clear hK K
          refine wpAnyIn_ready (rs := [4]) (by kernel_rfl) (by simp) ?_
          refine AllReadyIn.cons rfl (fun K hK => ?_) AllReadyIn.nil
          refine step_append_sharpIn rfl _ _ 58 rfl 22 i0 (.int .u16 0) 2 Tryz.underlying58 hi hz0 hz1 hz2 rfl v pre.length _ rfl (hr.alloc _) ⟨X.heap.size, 0, none⟩ 1 1 [.int .u16 (lnum xs (p + 1) x.val)] rfl rfl (one_new _ _ _) (by simp [Value.oneCell']) (by unfold maxLen; omega) (by omega) ?_
          rintro v' w4 hr4 hk4 hs4
          refine hK _ _ ?_
          clear hK K
          obtain ⟨fA, fB, fC⟩ := body_end (by omega) hkd hb hr hs hk hxz.out hr4 hk4 hs4
          have hb4 : w4.heap[w2.heap.size]? = some (.cells #[v] 58 (0, 0)) := hk4.heap (heap_alloc_lt hb) (fun hm => by have := hs _ hm; simp at this; omega)
          obtain ⟨a', cap', rfl⟩ := row_form hr4
          have cz := cell_of_one hb4
          have fz := free_of_one hb4
          have FA := Lib.hid fA; have FB := Lib.hid fB; have FC := Lib.hid fC; clear fA fB fC hb4 hr4 hk4 hs4
          refine wpAnyIn_ready (rs := [5]) (by kernel_rfl) (by simp) ?_
          refine AllReadyIn.cons rfl (fun K hK => ?_) AllReadyIn.nil
          go_simp
          refine hK _ _ ?_
          clear hK K
          refine wpAnyIn_done (by kernel_rfl) ?_ _
          exact ⟨FA.out, FB.out, FC.out⟩
  case done =>
    rintro D ys W hD rfl ⟨v, hb, hr, hs, hk⟩ hK
    have hc := cell_of_one hb
    gi_wp2
    refine ⟨by simp, .inl ⟨_, _, rfl, run_takeDeferred hK, ?_⟩⟩
    have hg2 : g < w2.heap.size := by
      have := h2.src 0 (by omega)
      exact World.block_lt_of_cell? w2 _ this
    have hr2 : r < w2.heap.size := lt_of_block h2.blk
    have kk : Keeps [w2.heap.size] w2 (W.putObj D (.deferred none)) := (((hk3.more (by simp)).step hk (fun _ h => h))).putObj D _ (by omega)
    have hw12 := hk1.size
    have hw22 := hk2.size
    have e : ((List.finRange m).map fun x => lnum xs (p + 1) x.val) = (List.range m).map (lnum xs (p + 1)) := by
      apply List.ext_getElem
      · simp
      · intro i h1 h2; simp
    rw [e, List.length_finRange] at hr
    refine ⟨_, results_tmp rfl _ _ _, v, rfl, ownsRow_putObj hr _ hK rfl, h2.keeps kk (by simp; omega) (by simp; omega), ?_, hs.mono (by omega)⟩
    exact ((hk1.step hk2 (fun _ h => h))).trans kk (fun g hg => .inr (by simp at hg; omega))
  case stop =>
    rintro D c pre W _ _ h _
    exact h.elim
end Go.Proofs.YtiljdehhjiahdaaGreatDoor
/-
  The document's reader: lists; when two lists are the same.
-/
namespace Go.Proofs.YtiljdehhjiahdaaGreatDoor
open Go.RowKit
instance (xs : List Int) (p : Nat) : Decidable (LWhole xs p) := by unfold LWhole; infer_instance
def rlist (xs : List Int) (e : Int) (p : Nat) : List Int := if e = 0 ∧ LWhole xs p then lnums xs p else []
def rlErr (xs : List Int) (e : Int) (p : Nat) : Int := if e ≠ 0 then e else if LWhole xs p then 0 else 5
def rlPos (xs : List Int) (e : Int) (p : Nat) : Nat := if e = 0 ∧ LWhole xs p then p + 1 + 2 * (xs.getD p 0).toNat else p
/-- What a List leaves, of either reader. -/
def ListPost (ok : World → Prop) (ls : List Int) (r : Nat) (w : World) (x : Ending) (w' : World) : Prop :=
  ∃ v, x = .returned v ∧ w'.ownsRow 0 22 1 v ls.length (ls.map (.int .u16)) ∧ ok w' ∧ Keeps [r] w w' ∧ FSub (own v) [] w.heap.size
theorem lnums_length (xs : List Int) (p : Nat) : (lnums xs p).length = (xs.getD p 0).toNat := by simp [lnums]
theorem rl_whole {xs : List Int} {p : Nat} (h : LWhole xs p) : rlist xs 0 p = lnums xs p ∧ rlErr xs 0 p = 0 ∧ rlPos xs 0 p = p + 1 + 2 * (xs.getD p 0).toNat :=
  ⟨by rw [rlist, if_pos ⟨rfl, h⟩], by rw [rlErr, if_neg (by simp), if_pos h], by rw [rlPos, if_pos ⟨rfl, h⟩]⟩
theorem rl_torn {xs : List Int} {p : Nat} (h : ¬ LWhole xs p) : rlist xs 0 p = [] ∧ rlErr xs 0 p = 5 ∧ rlPos xs 0 p = p :=
  ⟨by rw [rlist, if_neg (fun g => h g.2)], by rw [rlErr, if_neg (by simp), if_neg h], by rw [rlPos, if_neg (fun g => h g.2)]⟩
theorem rl_err {xs : List Int} {p : Nat} {e : Int} (h : e ≠ 0) : rlist xs e p = [] ∧ rlErr xs e p = e ∧ rlPos xs e p = p :=
  ⟨by rw [rlist, if_neg (fun g => h g.1)], by rw [rlErr, if_pos h], by rw [rlPos, if_neg (fun g => h g.1)]⟩
theorem RList_any (w : World) (r g cap p : Nat) (xs : List Int) (e : Int) (h : RAt w r g cap xs e p) (hx : InU8 xs) (hl : xs.length ≤ 1000000) :
    Calls Tryz.prog 129 #[.pointer (some ⟨r, 0, none⟩)] w (ListPost (fun w' => RAt w' r g cap xs (rlErr xs e p) (rlPos xs e p)) (rlist xs e p) r w) := by
  by_cases he : e = 0
  · subst he
    by_cases hw : LWhole xs p
    · rw [(rl_whole hw).1, (rl_whole hw).2.1, (rl_whole hw).2.2]
      refine (RList_ok w r g cap p xs h hx hl hw).mono fun x w' ⟨v, hv, hr, hR, hk, hs⟩ => ?_
      exact ⟨v, hv, by rw [lnums_length]; exact hr, hR, hk, hs⟩
    · rw [(rl_torn hw).1, (rl_torn hw).2.1, (rl_torn hw).2.2]
      refine (RList_torn w r g cap p xs h hx hl hw).mono fun x w' ⟨hv, hR, hk⟩ => ?_
      exact ⟨_, hv, World.ownsRow_nil _ _ _ _, hR, hk, fun g hg => by simp [own_nil] at hg⟩
  · rw [(rl_err he).1, (rl_err he).2.1, (rl_err he).2.2]
    refine (RList_err w r g cap p xs e h he).mono fun x w' ⟨hv, hw⟩ => ?_
    subst hw
    exact ⟨_, hv, World.ownsRow_nil _ _ _ _, h, Keeps.refl _ _, fun g hg => by simp [own_nil] at hg⟩

theorem numOf_2' (xs : List Int) (q j : Nat) (h : q + 2 * j + 2 ≤ xs.length) : rdVal 2 xs 0 (q + 2 * j) = lnum xs q j := by
  rw [rdVal, if_pos ⟨rfl, h⟩, numOf_2 xs (q + 2 * j) h]
  rfl
/-- A slice's cells, as Same reads them. -/
def SrcAt (w : World) (a : Option Addr) (ls : List Int) : Prop := ls = [] ∨ ∃ lb off, a = some ⟨lb, off, none⟩ ∧ ∀ j, j < ls.length → w.cell? ⟨lb, off + j, none⟩ = some (.int .u16 (ls.getD j 0))
theorem row_srcAt {w : World} {v : Value} {n : Nat} {ls : List Int} (hr : w.ownsRow 0 22 1 v n (ls.map (.int .u16))) : ∃ a c, v = .slice a ls.length c ∧ SrcAt w a ls := by
  have hl : ls.length = n := by simpa using hr.1
  have hr' := hr
  rcases hr.2 with ⟨rfl, rfl⟩ | ⟨g, cap, cur, rfl, _⟩
  · exact ⟨none, 0, by rw [hl], .inl (List.eq_nil_of_length_eq_zero hl)⟩
  · refine ⟨_, cap, by rw [hl], .inr ⟨g, 0, rfl, fun j hj => ?_⟩⟩
    have := hr'.cells (g := g) rfl j (.int .u16 (ls.getD j 0)) (by simp [hj, List.getD])
    have ha : ((⟨g, 0, none⟩ : Addr).add j) = ⟨g, 0 + j, none⟩ := by unfold Addr.add; split <;> simp_all
    rw [ha] at this
    exact this
end Go.Proofs.YtiljdehhjiahdaaGreatDoor
