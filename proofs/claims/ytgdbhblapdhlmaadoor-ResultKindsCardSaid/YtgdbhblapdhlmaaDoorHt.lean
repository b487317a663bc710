/-
  ResultKinds, walked.
-/
import Derived.Test.YtgdbhblapdhlmaaDoorHr
import Derived.Test.YtgdbhblapdhlmaaDoorHm
import Derived.Deep.RegionWith
import Derived.Stop.RegionWithIn
namespace Go.Proofs.YtgdbhblapdhlmaaDoor
open Go.RowKit Go.Shelf
attribute [local go_sem] Oper.semAt_some
theorem run_equalIn_func_nil (w : World) (d : Nat) {ps : _} {rs : _} {v : _} (t : TypeId) (h : Tryd.prog.underlying t = some (.func ps rs v)) (f : Fn) (xs ys : Array Value) :
    (Op.equalIn (d + 1) t (.func f xs ys) .nilFunc).run Tryd.prog w = .ok false w := by
  simp [Op.equalIn, run_underlying h]
theorem run_eql_func_nil (w : World) {ps : _} {rs : _} {v : _} (t : TypeId) (h : Tryd.prog.underlying t = some (.func ps rs v)) (f : Fn) (xs ys : Array Value) :
    (binOp .eql t (.func f xs ys) .nilFunc).run Tryd.prog w = .ok (.bool false) w := by
  simp only [binOp]
  simp [Op.equal, Op.maxDepth, run_equalIn_func_nil w 9999 t h f xs ys]
theorem Keeps.undrew {F : List Nat} {w w' : World} (h : Keeps F w.drew w') : Keeps F w w' := ⟨h.os, h.tape, h.output, h.size, h.block⟩
/-- Where a code only goes on, what the other ways owe may be forgotten. -/
def onlyNormal (Q : Exit → Act → World → Prop) : Exit → Act → World → Prop
  | .normal, a, w => Q .normal a w
  | _, _, _ => False
theorem wp_normal {P : Program} {c : Code} {Q : Exit → Act → World → Prop} {a : Act} {w : World} (h : c.wp P (onlyNormal Q) a w) : c.wp P Q a w :=
  Code.wp_mono (fun e a w h => by cases e <;> first | exact h | exact h.elim) h
/-- How the last statement ends. -/
def EndK (w : World) (B D2 D : Nat) : Exit → Act → World → Prop
  | .normal, a, W => a.tmps.getD 4 undef = .pointer (some ⟨B, 0, none⟩) ∧ a.defers = [{ target := .collected D2, args := #[] }, { target := .collected D, args := #[] }] ∧
      W.heap[B]? = some (.cells #[.bool true] 4 (0, 0)) ∧ W.heap[D2]? = some (.deferred (some [])) ∧ W.heap[D]? = some (.deferred (some [])) ∧ Keeps [] w W
  | _, _, _ => False
theorem endK_leaves {w : World} {B D2 D : Nat} {a : Act} {W : World} (hn : D ≠ D2) (hB : B ≠ D2) (hB2 : B ≠ D) (h2 : w.heap.size ≤ D2) (h1 : w.heap.size ≤ D) (h : EndK w B D2 D .normal a W) :
    bodyPostM Fence.wide 8 Tryd.prog Tryd.f4 (fun e w' => e = .returned (.bool true) ∧ Keeps [] w w') .ret a W := by
  obtain ⟨tm, df⟩ := a
  obtain ⟨ht, hd, hb, g2, g1, hk⟩ := h
  simp only at ht hd
  subst hd
  refine ⟨by simp, .inl ⟨_, _, rfl, run_takeDeferred g2, ?_⟩⟩
  have g1' : (W.putObj D2 (.deferred none)).heap[D]? = some (.deferred (some [])) := (World.putObj_heap_other hn).trans g1
  refine ⟨by simp, .inl ⟨_, _, rfl, run_takeDeferred g1', ?_⟩⟩
  have hb' : ((W.putObj D2 (.deferred none)).putObj D (.deferred none)).heap[B]? = some (.cells #[.bool true] 4 (0, 0)) := (World.putObj_heap_other hB2).trans ((World.putObj_heap_other hB).trans hb)
  have hc := cell_of_one hb'
  refine ⟨.bool true, ?_, rfl, (hk.putObj _ _ h2).putObj _ _ h1⟩
  have ht' : tm[4]?.getD undef = .pointer (some ⟨B, 0, none⟩) := by simpa using ht
  simp [results, Tryd.f4, go_sem, ht', hc]
theorem prefix_snoc {pre ls : List Int} (h : pre <+: ls) (hl : pre.length < ls.length) : pre ++ [ls.getD pre.length 0] <+: ls := by
  obtain ⟨t, rfl⟩ := h
  match t, hl with
  | [], hl => simp at hl
  | y :: t, _ => exact ⟨t, by simp [List.getD]⟩
theorem prefix_no {pre ls : List Int} {x : Int} (h : pre <+: ls) (hx : ls.getD pre.length 0 ≠ x) : ¬ pre ++ [x] <+: ls := by
  rintro ⟨t, rfl⟩
  apply hx
  simp [List.getD]
set_option maxRecDepth 100000 in
set_option maxHeartbeats 4000000 in
theorem kinds_true (w : World) (hG : Glob w) (f k v : Int) (h0 : 0 ≤ k) (h1 : k < 256) :
    Calls Tryd.prog 4 #[.int .u8 f, .agg #[.int .u8 k, .int .u16 v]] w fun e w' => e = .returned (.bool true) ∧ Keeps [] w w' := by
  have hkk := fun w => r3Kinds_any w f
  unfold KindsPost at hkk
  have hlen := kindsL_len f
  have HLS : ∃ ls, kindsL f = ls := ⟨_, rfl⟩
  obtain ⟨ls, hls⟩ := HLS
  rw [hls] at hkk hlen
  have HLS := Lib.hid hls; clear hls
  refine (callsIn_wide (n := 8)).1 ?_
  refine callsIn_of_wp_marks Tryd.func4 rfl trivial ?_ rfl
  simp only [Tryd.ntmps4, List.size_toArray, List.length_cons, List.length_nil, Nat.reduceAdd, Nat.reduceSub, Array.replicate_succ, Array.replicate_zero, List.push_toArray, List.append_toArray, List.nil_append, List.cons_append]
  gi_wp2_with fail
  refine ⟨trivial, (callsIn_wide.2 (hkk _)).mono ?_⟩
  rintro x w1 ⟨a, c, rfl, hs, hk1⟩
  have hb : w1.heap[w.heap.size]? = some (.cells #[.int .u8 k, .int .u16 v] 24 (0, 0)) := hk1.heap (heap_alloc_lt (heap_alloc_new w _)) (by simp)
  have hr : w1.heap[w.heap.size + 1]? = some (.cells #[.bool false] 4 (0, 0)) := by
    have := heap_alloc_new (w.alloc (.cells #[.int .u8 k, .int .u16 v] 24)) (.cells #[.bool false] 4)
    rw [World.size_alloc] at this
    exact hk1.heap this (by simp)
  have hkw : Keeps [] w w1 := (((Keeps.refl _ _).alloc _).alloc _).trans hk1 (FSub.refl _ _)
  clear hk1
  gi_wp2_with fail
  refine ⟨trivial, (callsIn_wide.2 (Kinds_any _ f)).mono ?_⟩
  rintro x w2 ⟨rfl, hw2⟩
  have hnil := fun w f xs ys => run_eql_func_nil w 49 Tryd.underlying49 f xs ys
  obtain ⟨WL, hWL⟩ : ∃ WL, WL = w2.alloc (.cells #[.int .i64 0] 3) := ⟨_, rfl⟩
  have hk1L : Keeps [] w1 WL := by rw [hWL, hw2]; exact (((Keeps.refl _ _).alloc _).alloc _).alloc _
  have hz : WL.heap.size = w1.heap.size + 3 := by rw [hWL, hw2]; simp
  have bS : WL.heap[w1.heap.size]? = some (.cells #[.slice a ls.length c] 46 (0, 0)) := by rw [hWL, hw2]; exact heap_alloc_lt (heap_alloc_lt (heap_alloc_new _ _))
  have bF : WL.heap[w1.heap.size + 1]? = some (.cells #[.int .u8 f] 5 (0, 0)) := by
    rw [hWL, hw2]
    have := heap_alloc_new (w1.alloc (.cells #[.slice a ls.length c] 46)) (.cells #[.int .u8 f] 5)
    rw [World.size_alloc] at this
    exact heap_alloc_lt this
  have bK : WL.heap[w1.heap.size + 1 + 1]? = some (.cells #[.int .i64 0] 3 (0, 0)) := by
    rw [hWL, hw2]
    have := heap_alloc_new ((w1.alloc (.cells #[.slice a ls.length c] 46)).alloc (.cells #[.int .u8 f] 5)) (.cells #[.int .i64 0] 3)
    rw [World.size_alloc, World.size_alloc] at this
    exact this
  have hlt0 := lt_of_block hr
  gi_wp2_with fail
  have hWL2 := hWL
  rw [hw2] at hWL2
  rw [← hWL2]
  clear hWL hWL2 hw2
  refine wpIn_rangeFunc_ownF (F := Fence.wide) rfl (by omega) (gf := 40) (lb := #[.pointer (some ⟨w1.heap.size + 1, 0, none⟩)]) rfl trivial (enters_of Tryd.func40 (by kernel_rfl) rfl)
    (encs := fun x : Int => #[.int .u8 x]) (Kp := fun _ _ => True) (S := fun ys => ys = kindsL f) (Sp := fun pre => pre <+: kindsL f) (N := (kindsL f).length) (w0 := WL)
    (fun l J Jx W hW hJ hJx hY h0 => Kinds1_in Fence.wide 7 trivial rfl (by omega) l (w1.heap.size + 1) f J Jx W hY (cell_of_one ((hW.block _ (by omega)).trans bF)) h0)
    (fun _ _ => trivial) (fun _ _ _ _ _ _ _ _ => trivial) (Below.refl _ _) (fun _ => rfl)
    (fun pre W => pre <+: ls ∧ Keeps [] w1 W ∧ W.heap[w1.heap.size]? = some (.cells #[.slice a ls.length c] 46 (0, 0)) ∧ W.heap[w1.heap.size + 1]? = some (.cells #[.int .u8 f] 5 (0, 0)) ∧ W.heap[w1.heap.size + 1 + 1]? = some (.cells #[.int .i64 pre.length] 3 (0, 0)))
    (fun c pre W => ¬ pre <+: ls)
    ((pure_own _).and ((keeps_own (by omega)).and (cells_own.and (cells_own.and cells_own)))) (fun c => pure_own _)
    ⟨by simp, hk1L, bS, bF, bK⟩
    (fun x => { tmps := #[.int .u8 f, .agg #[.int .u8 k, .int .u16 v], undef, .pointer (some ⟨w.heap.size, 0, none⟩), .pointer (some ⟨w.heap.size + 1, 0, none⟩), .pointer (some ⟨w1.heap.size, 0, none⟩),
        .func (.func 40) #[] #[.pointer (some ⟨w1.heap.size + 1, 0, none⟩)], .pointer (some ⟨w1.heap.size + 1 + 1, 0, none⟩), .int .u8 x, .int .u8 f, .slice a ls.length c, .int .u8 f,
        .func (.func 40) #[] #[.pointer (some ⟨w1.heap.size + 1, 0, none⟩)], .func (.func 40) #[] #[.pointer (some ⟨w1.heap.size + 1, 0, none⟩)], .bool false, .func (.func 40) #[] #[.pointer (some ⟨w1.heap.size + 1, 0, none⟩)], .int .u8 x,
        undef, undef, undef, undef, undef, undef, undef, undef, undef, undef, undef, undef, undef, undef, undef, undef, undef, undef, undef, undef, undef, undef, undef, undef, undef, undef, undef, undef, undef, undef, undef, undef], defers := [] }) ?assign ?body ?done ?stop
  case assign =>
    intro l x W K hK
    gi_wp2
    exact hK
  case body =>
    rintro l pre x W ⟨hp, hk, hS, hF, hK⟩ hlt
    rw [HLS.out] at hlt
    have hsW := hs.keeps hk
    have cS := cell_of_one hS
    have cK := cell_of_one hK
    have fK := free_of_one hK
    have cB := cell_of_one (hk.heap hr (by simp))
    have fB := free_of_one (hk.heap hr (by simp))
    rcases hsW with h | ⟨b, rfl, hsb⟩
    · rw [h] at hlt; simp at hlt
    · have hcell := hsb pre.length hlt
      clear hsb
      have hlt3 : ¬ (ls.length : Int) ≤ pre.length := by omega
      by_cases hx : ls.getD pre.length 0 = x
      · have hsn := prefix_snoc hp hlt
        rw [hx] at hcell hsn
        have hH := Lib.hid hsn; have hHx := Lib.hid hx; clear hsn hx hp
        gi_wp2
        refine ⟨KeepsOthers.setCell _ _ _, trivial, hH.out, hk.setCell _ _ (.inr (show w1.heap.size ≤ w1.heap.size + 1 + 1 by omega)), ?_, ?_, ?_⟩
        · rw [heap_setCell_other _ _ _ _ (by simp; omega)]; exact hS
        · rw [heap_setCell_other _ _ _ _ (by simp)]; exact hF
        · rw [List.length_append]; exact one_setCell hK
      · have hno := prefix_no hp hx
        have hx2 : (ls.getD pre.length 0 != x) = true := by simpa using hx
        have hx3 : (ls.getD pre.length 0 == x) = false := by simpa using hx
        generalize ls.getD pre.length 0 = y at *
        gi_wp2
        exact ⟨KeepsOthers.setCell _ _ _, hno⟩
  case done =>
    rintro D ys W hD rfl ⟨hp, hk, hS, hF, hK⟩ hDf
    rw [HLS.out] at hK
    have hDlt := lt_of_block hDf
    have hsz := hk1L.size
    gi_wp2_with fail
    refine (fun (key : ∀ (D2 : Nat) (W2 : World), W.heap.size ≤ D2 → Keeps [] W W2 → W2.heap[D2]? = some (.deferred (some [])) → _) => wpIn_rangeFunc_ownF (F := Fence.wide) rfl (by omega) (gf := 40) (lb := #[.pointer (some ⟨w1.heap.size + 1, 0, none⟩)]) rfl trivial (enters_of Tryd.func40 (by kernel_rfl) rfl)
      (encs := fun x : Int => #[.int .u8 x]) (Kp := fun _ _ => True) (S := fun ys => ys = kindsL f) (Sp := fun pre => pre <+: kindsL f) (N := (kindsL f).length) (w0 := W)
      (fun l J Jx W' hW hJ hJx hY h0 => Kinds1_in Fence.wide 7 trivial rfl (by omega) l (w1.heap.size + 1) f J Jx W' hY (cell_of_one ((hW.block _ (by omega)).trans hF)) h0)
      (fun _ _ => trivial) (fun _ _ _ _ _ _ _ _ => trivial) (Below.refl _ _) (fun _ => rfl)
      (fun pre W' => Keeps [] W W') (fun c pre W' => c = .exit 2 ∧ Keeps [] W W') (keeps_own (Nat.le_refl _)) (fun c => (pure_own _).and (keeps_own (Nat.le_refl _)))
      (Keeps.refl _ _)
      (fun x => { tmps := #[.int .u8 f, .agg #[.int .u8 k, .int .u16 v], undef, .pointer (some ⟨w.heap.size, 0, none⟩), .pointer (some ⟨w.heap.size + 1, 0, none⟩), .pointer (some ⟨w1.heap.size, 0, none⟩),
          .func (.func 40) #[] #[.pointer (some ⟨w1.heap.size + 1, 0, none⟩)], .pointer (some ⟨w1.heap.size + 1 + 1, 0, none⟩), undef, .int .u8 f, .slice a ls.length c, .int .u8 f,
          .func (.func 40) #[] #[.pointer (some ⟨w1.heap.size + 1, 0, none⟩)], .func (.func 40) #[] #[.pointer (some ⟨w1.heap.size + 1, 0, none⟩)], .bool false, .func (.func 40) #[] #[.pointer (some ⟨w1.heap.size + 1, 0, none⟩)],
          undef, undef, undef, undef, undef, undef, undef, undef, undef, undef, undef, undef, undef, undef, undef, .func (.func 40) #[] #[.pointer (some ⟨w1.heap.size + 1, 0, none⟩)], .int .u8 x,
          undef, undef, undef, undef, undef, undef, undef, undef, undef, undef, undef, undef, undef, undef, undef, undef], defers := [] }) ?assign2 ?body2 (fun D2 _ W2 h1 _ h2 h3 => key D2 W2 h1 h2 h3) (fun D2 c' _ W2 h1 _ h2 h3 => by obtain ⟨rfl, h2⟩ := h2; have hh := key D2 W2 h1 h2 h3; refine wpIn_exit ?_; simpa only [Exit.inBlock, if_pos] using hh)) ?tail2
    case assign2 =>
      intro l x W' K hK
      gi_wp2
      exact hK
    case body2 =>
      rintro l pre x W' hk' _
      gi_wp2
      exact ⟨KeepsOthers.refl _, rfl, hk'⟩
    case tail2 =>
      intro D2 W2 hD2 hk2 hDf2
      replace hDf := hk2.heap hDf (by simp)
      have hkE := hk.trans hk2 (FSub.refl _ _)
      have hS2 := hk2.heap hS (by simp)
      have hK2 := hk2.heap hK (by simp)
      have hb2 := hkE.heap hb (by simp)
      have hr2 := hkE.heap hr (by simp)
      obtain ⟨c0, c1, _⟩ := cell2 hb2
      have cS := cell_of_one hS2
      have cK := cell_of_one hK2
      have cB := cell_of_one hr2
      have fB := free_of_one hr2
      have hG2 := hG.new (hkw.trans hkE (FSub.refl _ _))
      gi_wp2_with fail
      refine wpIn_wide.2 (Code.wp_mono (Q := EndK w (w.heap.size + 1) D2 D) (fun e a' W3 h => ?_) ?_)
      · cases e
        case normal =>
          have hh := endK_leaves (by omega) (by omega) (by omega) (by omega) (by omega) h
          gi_wp2
          exact hh
        all_goals exact h.elim
      · go_region_with (first
          | (go_at_call 22; refine (May_any _ f k v h0 h1).mono ?_; rintro e wA ⟨rfl, hkA⟩; replace hkA := Keeps.undrew hkA; have a0 := hkA.cell c0 (by simp); have a1 := hkA.cell c1 (by simp); have rA := hkA.heap hr2 (by simp); have aB := cell_of_one rA; have aF := free_of_one rA; have gA := hG2.new hkA)
          | (go_at_call 23; refine (r3May_any _ f k v h0 h1).mono ?_; rintro e wB ⟨rfl, hkB⟩; have b0 := hkB.cell a0 (by simp); have rB := hkB.heap rA (by simp); have bB := cell_of_one rB; have bF := free_of_one rB; have gB := gA.new hkB)
          | (go_at_call 7; refine (awake3_true _ gB).mono ?_; rintro e wC ⟨rfl, hkC⟩; have rC := hkC.heap rB (by simp); have eB := cell_of_one rC; have eF := free_of_one rC))
        all_goals
          have hkC3 : Keeps [] W2 wC := (hkA.trans hkB (FSub.refl _ _)).trans hkC (FSub.refl _ _)
          have hE : Keeps [] w wC := (hkw.trans hkE (FSub.refl _ _)).trans hkC3 (FSub.refl _ _)
          have g2 := hkC3.heap hDf2 (by simp)
          have g1 := hkC3.heap hDf (by simp)
          have k1 : Keeps [w.heap.size + 1] wC (wC.setCell ⟨w.heap.size + 1, 0, none⟩ (.bool true)) := (Keeps.refl _ _).setCell _ _ (by simp)
          exact ⟨rfl, rfl, one_setCell rC, k1.heap g2 (by simp; omega), k1.heap g1 (by simp; omega), hE.setCell _ _ (.inr (show w.heap.size ≤ w.heap.size + 1 by omega))⟩
  case stop =>
    rintro D c' pre W hD hpre hno _
    rw [HLS.out] at hpre
    exact absurd hpre hno
end Go.Proofs.YtgdbhblapdhlmaaDoor
