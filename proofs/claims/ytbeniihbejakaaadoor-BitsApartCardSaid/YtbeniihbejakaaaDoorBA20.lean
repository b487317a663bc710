/-
  The program's sets: All, Least.
-/
import Derived.LoopIn
import Derived.TacticsInMore
import Derived.Test.YtbeniihbejakaaaDoorBA19
import Derived.Test.YtbeniihbejakaaaDoorBA13
set_option linter.unusedSimpArgs false
set_option linter.unusedVariables false
namespace Go.Proofs.YtbeniihbejakaaaDoor
open Go.RowKit
attribute [local go_sem] Oper.semAt_some
set_option maxRecDepth 100000
set_option maxHeartbeats 8000000
theorem btAll_any (w : World) (st : Value) (S : List Int) (h : BtAt w st S) : Calls Tryd.prog 29 #[st] w fun e w' => ∃ B A, e = .returned (.func (.func 48) #[] #[.pointer (some ⟨B, 0, none⟩)]) ∧ st = .agg A ∧ w.heap.size ≤ B ∧ w'.heap[B]? = some (.cells A 27 (0, 0)) ∧ Keeps [] w w' := by
  obtain ⟨v, W, rfl, ⟨a, c, rfl, -⟩, -⟩ := h
  have HN := Lib.hid (heap_alloc_new w (.cells #[.slice a W.length c] 27))
  have HKA := Lib.hid (show Keeps [] w (w.alloc (.cells #[.slice a W.length c] 27)) from (Keeps.refl _ _).alloc _)
  go_enter Tryd.func29, Tryd.ntmps29
  go_wp2_with fail
  go_ret
  exact ⟨w.heap.size, _, rfl, rfl, Nat.le_refl _, HN.out, HKA.out⟩
theorem KeC.heap' {F : List Nat} {n : Nat} {w w' : World} (h : KeC F n w w') {g : Nat} {o : Obj} (hb : w.heap[g]? = some o) (hg : g < n) (hF : g ∉ F) : w'.heap[g]? = some o := (h.block g hg hF).trans hb
theorem KeC.cell {F : List Nat} {n : Nat} {w w' : World} (h : KeC F n w w') {p : Addr} {v : Value} (hv : w.cell? p = some v) (hp : p.block < n) (hF : p.block ∉ F) : w'.cell? p = some v :=
  (World.cell?_of_block (h.block p.block hp hF)).trans hv
theorem KeC.newk {F : List Nat} {n : Nat} {w a b : World} (h : KeC F n w a) (hn : n ≤ w.heap.size) (hk : Keeps [] a b) : KeC F n w b := h.trans ((hk.more (by simp)).keC (Nat.le_trans hn h.size))
theorem abides15 {β : Type} {n : Nat} {J : β → World → Prop} (hJ : AbidesFrom n J) {s : β} {a b : World} (h : J s a) (hk : Keeps [] a b) : J s b := hJ s a b none h (show a.grownBy b none from ⟨hk.os, hk.tape, hk.output, hk.size, fun k hk' _ => hk.block k hk' (by simp)⟩) (fun r e => by cases e)
theorem btIter_any {G : World → Prop} (hG15 : ∀ {w}, G w → Glob15 w) (n n0 : Nat) (F : List Nat) (B : Nat) (w : World) (A : List Value) (S : List Int) (hn : 2 ≤ n) (hG : ∀ w', KeC F n0 w w' → G w') (h : BtAt w (.agg A.toArray) S) (hb : w.heap[B]? = some (.cells A.toArray 27 (0, 0))) (hBF : B ∉ F) (hBn : B < n0) (hn0 : n0 ≤ w.heap.size) (hft : ∀ q ∈ btFoot (.agg A.toArray), q ∉ F ∧ q < n0) :
    SeqStopsK Fence.wide n Tryd.prog 48 #[.pointer (some ⟨B, 0, none⟩)] (fun x : Int => #[.int .i64 x]) (KeC F n0) (fun xs => xs = S) (fun pre => pre <+: S) S.length w := by
  intro l J Jx W hW hJ hJx hY h0
  have hk0 : KeC F n0 w W := ⟨hW.os, hW.tape, hW.output, hW.size, fun k hk _ => hW.block k (Nat.lt_of_lt_of_le hk hn0)⟩
  obtain ⟨v, U, eA, hI, ho, hU, hlast⟩ := h
  obtain rfl : A = [v] := by simpa using eA
  have hU1 := hU.len hlast
  obtain ⟨a, c, rfl, hc, hm, -⟩ := id hI
  have HI := Lib.hid hI; have HU := Lib.hid hU
  have HTZ := Lib.hid (fun w' (hk : KeC F n0 w w') (x : Nat) (hx : x < 18446744073709551616) => tz64_any (hG15 (hG w' hk)) hx)
  have HFT := Lib.hid hft
  have HBQ := Lib.hid (show B ∉ F ∧ B < n0 from ⟨hBF, hBn⟩)
  have HB := Lib.hid hb; have HJ := Lib.hid (fun (s : List Int) (a b : World) (h : J s a) (hk : Keeps [] a b) => abides15 hJ h hk)
  have HY := Lib.hid hY
  have hc0 := cell_lit (hk0.heap' hb hBn hBF) 0 rfl
  have HK0 := Lib.hid hk0; have HJ0 := Lib.hid h0; have HN0 := Lib.hid hn0
  have HNU := Lib.hid hU.nums
  clear hW hJ hJx hY h0 hk0 eA hG hft hBF hBn hI ho hU hlast hb hn0
  generalize hmm : U.length = m at *
  have HMM := Lib.hid hmm
  clear hmm
  refine callsIn_of_wp Tryd.func48 rfl trivial ?_ rfl
  simp only [Tryd.ntmps48, List.size_toArray, List.length_cons, List.length_nil, Nat.reduceAdd, Nat.reduceSub, Array.replicate_succ, Array.replicate_zero, List.push_toArray, List.append_toArray, List.nil_append, List.cons_append]
  have hn1 : 1 ≤ n := by omega
  gi_wp2_with fail
  gi_loopw [3, 4, 8] (fun _ _ i wr => ∃ (k : Nat) (pre : List Int), i = .int .i64 (k : Int) ∧ k ≤ m ∧ pre ++ numsW k (U.drop k) = S ∧ J pre wr ∧ KeC F n0 w wr) (fun _ _ i _ => m - (intOf i).toNat)
  case atStart => exact ⟨0, [], rfl, by omega, by rw [List.drop_zero]; exact HNU.out.symm, HJ0.out, HK0.out⟩
  case round =>
    obtain ⟨k, pre, rfl, hk, hpre, hj, hkw⟩ := hrel
    have HPRE := Lib.hid hpre; have HJW := Lib.hid hj; have HKW := Lib.hid hkw
    clear hpre hj hkw HJ0 HK0 HNU
    by_cases hlt : k < m
    · have hkl : k < U.length := by rw [HMM.out]; exact hlt
      obtain ⟨bk, o, rfl, hbk, c1⟩ := InW_getD HI.out hkl
      have hbf := HFT.out bk (by simp [btFoot, own, Value.ownBlock])
      have c2 := HKW.out.cell c1 hbf.2 hbf.1
      have HD := Lib.hid (numsW_drop hkl k)
      have hxl := HU.out.get k
      generalize U.getD k 0 = x at *
      rw [HD.out] at HPRE
      clear c1 hbk hbf
      gi_wp2_with fail
      gi_loopw [4] (fun y wr => ∃ (z : Nat) (pr : List Int), y = .int .u64 (z : Int) ∧ z < 18446744073709551616 ∧ pr ++ (bitsW k z ++ numsW (k + 1) (U.drop (k + 1))) = S ∧ J pr wr ∧ KeC F n0 w wr) (fun y _ => onesN (intOf y).toNat)
      case atStart => exact ⟨x, pre, rfl, hxl, HPRE.out, HJW.out, HKW.out⟩
      case round =>
        obtain ⟨z, pr, rfl, hz, hpr, hjr, hkr⟩ := hrel
        have HPR := Lib.hid hpr; have HJR := Lib.hid hjr; have HKR := Lib.hid hkr
        clear hpr hjr hkr HPRE HJW HKW
        by_cases hz0 : z = 0
        · subst hz0
          rw [bitsW_zero, List.nil_append] at HPR
          gi_wp2_with fail
          go_roundw
          case rel => exact ⟨k + 1, pr, by go_num, by omega, HPR.out, HJR.out, HKR.out⟩
          case measure => simp [intOf]; omega
        · have hst := bitsW_step k hz0 hz
          have hle := congrArg List.length hst
          rw [List.length_cons, bitsW_len, bitsW_len] at hle
          have hzb : ((z : Int) != 0) = true := by rw [bne_iff_ne]; omega
          obtain ⟨hc64, -⟩ := ctz_spec hz0 hz
          have hw1 : IntKind.u64.wrap ((z : Int) - 1) = ((z - 1 : Nat) : Int) := by rw [IntKind.wrap_u64]; omega
          have e1 := bits_and_u64_nat z (z - 1) hz (by omega)
          have hz2 : z &&& (z - 1) < 18446744073709551616 := and_lt64 _ hz
          have HTC := Lib.hid (HTZ.out _ HKR.out z hz)
          rw [hst] at HPR
          obtain ⟨c1, hc1⟩ : ∃ c1, c1 = Lib.ctz 64 z := ⟨_, rfl⟩
          rw [← hc1] at HPR HTC hc64
          obtain ⟨z1, hz1⟩ : ∃ z1, z1 = z - 1 := ⟨_, rfl⟩
          rw [← hz1] at hw1 e1 hz2 HPR hle
          obtain ⟨z2, hz2e⟩ : ∃ z2, z2 = z &&& z1 := ⟨_, rfl⟩
          rw [← hz2e] at e1 hz2 HPR hle
          obtain ⟨X, hX⟩ : ∃ X : Int, X = (k : Int) * 64 + (c1 : Int) := ⟨_, rfl⟩
          rw [show ((64 * k + c1 : Nat) : Int) = X by omega] at HPR
          have hpx : pr ++ [X] <+: S := ⟨bitsW k z2 ++ numsW (k + 1) (U.drop (k + 1)), by rw [← HPR.out]; simp⟩
          have hlen : pr.length < S.length := by
            have := hpx.length_le
            rw [List.length_append] at this
            simp at this
            omega
          have HPX := Lib.hid hpx
          have HPR2 := Lib.hid (show (pr ++ [X]) ++ (bitsW k z2 ++ numsW (k + 1) (U.drop (k + 1))) = S from by rw [← HPR.out]; simp)
          have HLE := Lib.hid hle
          have HXX := Lib.hid hX
          clear hst hle hc1 hz1 hz2e hpx hz0 hX
          gi_wp2_with fail
          refine ⟨trivial, (callsIn_wide.2 HTC.out).mono ?_⟩
          rintro e w1 ⟨rfl, hk1⟩
          have HJ1 := Lib.hid (HJ.out _ _ _ HJR.out hk1); have HK1 := Lib.hid (HKR.out.newk HN0.out hk1)
          clear hk1 HTC HJR HKR
          obtain ⟨fn, tmps, assign, body, hy, hR⟩ := HY.out pr X w1 HJ1.out hlen
          try dsimp only at hy
          have hXX := HXX.out.symm
          clear hlen
          gi_wp2_with fail
          refine hR.mono ?_
          rintro e W3 (⟨rfl, hJ3, hk3⟩ | ⟨rfl, hJx3⟩)
          · have HJ4 := Lib.hid hJ3; have HK4 := Lib.hid (HK1.out.trans hk3)
            clear hy hR hJ3 hk3
            gi_wp2_with fail
            go_roundw
            case rel => exact ⟨z2, pr ++ [X], by go_num, hz2, HPR2.out, HJ4.out, HK4.out⟩
            case measure => have := HLE.out; simp [intOf]; omega
          · have HJ4 := Lib.hid hJx3
            clear hy hR hJx3
            gi_wp2_with fail
            try simp only [Exit.inBlock, Exit.then]
            refine bodyPost_ret (results_none rfl _ _ _) rfl ?_
            exact ⟨⟨_, rfl⟩, .inr ⟨_, HPX.out, HJ4.out⟩⟩
    · obtain rfl : k = m := by omega
      gi_wp2_with fail
      go_end0
      have hps : pre = S := by rw [← HPRE.out, List.drop_eq_nil_of_le (by rw [HMM.out]; exact Nat.le_refl _)]; simp [numsW]
      have hjs := HJW.out
      rw [hps] at hjs
      exact ⟨⟨_, rfl⟩, .inl hjs⟩
end Go.Proofs.YtbeniihbejakaaaDoor
/-
  The program's sets: Least; what they tell, in one.
-/
namespace Go.Proofs.YtbeniihbejakaaaDoor
open Go.RowKit
attribute [local go_sem] Oper.semAt_some
set_option maxRecDepth 100000
set_option maxHeartbeats 8000000
theorem btLeast_any (w : World) (HG : Glob15 w) (st : Value) (S : List Int) (h : BtAt w st S) : Calls Tryd.prog 23 #[st] w fun e w' => e = .returned (.int .i64 (leastB S)) ∧ Keeps [] w w' := by
  obtain ⟨A, rfl, hA⟩ := h.cells
  have HGL := Lib.hid (fun w' (hk : Keeps [] w w') => HG.new hk); have HAT := Lib.hid (fun w' (hk : Keeps [] w w') => h.keep hk (by simp))
  have HOLD := Lib.hid (show ∀ q ∈ btFoot (.agg A.toArray), q < w.heap.size from by
    obtain ⟨v, W, e, -, ho, -⟩ := h
    rw [e]; exact ho)
  have hb0 := heap_alloc_new w (.cells A.toArray 27)
  obtain ⟨X0, hX0⟩ : ∃ X0, X0 = w.alloc (.cells A.toArray 27) := ⟨_, rfl⟩
  rw [← hX0] at hb0
  have hX0s : X0.heap.size = w.heap.size + 1 := by rw [hX0, World.size_alloc]
  have hk0 : Keeps [] w X0 := by rw [hX0]; exact (Keeps.refl _ _).alloc _
  have hb1 := heap_alloc_new X0 (.cells #[.int .i64 0] 3)
  obtain ⟨X, hX⟩ : ∃ X, X = X0.alloc (.cells #[.int .i64 0] 3) := ⟨_, rfl⟩
  rw [← hX, hX0s] at hb1
  have hk1 : Keeps [] X0 X := by rw [hX]; exact (Keeps.refl _ _).alloc _
  have HK := Lib.hid (hk0.trans hk1 (FSub.refl _ _)); have HB0 := Lib.hid (hk1.heap hb0 (by simp)); have HB1 := Lib.hid hb1
  have HXS := Lib.hid (show X.heap.size = w.heap.size + 2 from by rw [hX, World.size_alloc, hX0s])
  have HR2 := Lib.hid (block_range HB0.out)
  have HA := Lib.hid hA
  rw [hX, hX0] at HR2
  clear hb0 hb1 hk0 hk1 h HG hA
  refine (callsIn_wide (n := 12)).1 ?_
  refine callsIn_of_wp_marks Tryd.func23 rfl trivial ?_ rfl
  simp only [Tryd.ntmps23, List.size_toArray, List.length_cons, List.length_nil, Nat.reduceAdd, Nat.reduceSub, Array.replicate_succ, Array.replicate_zero, List.push_toArray, List.append_toArray, List.nil_append, List.cons_append]
  refine wpIn_wide.2 ?_
  go_wp2_with ((with_reducible refine wpList_loadBt (g := w.heap.size) HA.out ?_ ?_ HR2.out ?_); exact rfl; exact rfl)
  rw [← hX0, ← hX]
  clear hX hX0 hX0s HR2
  refine (btAll_any X _ S (HAT.out _ HK.out)).mono ?_
  rintro e y1 ⟨B, A2, rfl, hA2, hBB, hB, hk⟩
  obtain rfl : A2 = A.toArray := by simpa using hA2.symm
  have HB := Lib.hid hB; have HK1 := Lib.hid (HK.out.trans hk (FSub.refl _ _)); have HB11 := Lib.hid (hk.heap HB1.out (by simp))
  have HZ1 := Lib.hid (show w.heap.size + 2 ≤ B ∧ B < y1.heap.size from ⟨by have := HXS.out; omega, lt_of_block hB⟩)
  clear hA2 hBB hB hk HK HB0 HB1 HXS
  go_wp2_with fail
  refine (wpIn_wide (n := 12)).1 ?_
  refine wpIn_rangeFunc_ownF (F := Fence.wide) rfl (by omega) (gf := 48) (lb := #[.pointer (some ⟨B, 0, none⟩)]) rfl trivial (enters_of Tryd.func48 (by kernel_rfl) rfl)
    (encs := fun x : Int => #[.int .i64 x]) (Kp := KeC [w.heap.size + 1] y1.heap.size) (S := fun xs => xs = S) (Sp := fun pre => pre <+: S) (N := S.length) (w0 := y1)
    (btIter_any (G := Glob15) (fun h => h) 11 y1.heap.size [w.heap.size + 1] B y1 A S (by omega) (fun w' hk => HGL.out w' (HK1.out.trans (hk.same rfl) (fun q hq => .inr (by simp at hq; omega)))) (HAT.out _ HK1.out) HB.out (by have := HZ1.out; simp; omega) HZ1.out.2 (Nat.le_refl _) (fun q hq => by have h1 := HOLD.out q hq; have h2 := HZ1.out; exact ⟨by simp; omega, by omega⟩))
    (fun h1 h2 => h1.trans h2) (fun W l o o' hl _ _ _ => keC_b W l o o' hl) (Below.refl _ _) (fun _ => rfl)
    (fun pre Z => pre = [] ∧ Z.heap[w.heap.size + 1]? = some (.cells #[.int .i64 0] 3 (0, 0)) ∧ Keeps [] w Z)
    (fun c pre Z => c = .ret ∧ pre.length = 1 ∧ Z.heap[w.heap.size + 1]? = some (.cells #[.int .i64 (pre.headD 0)] 3 (0, 0)) ∧ Keeps [] w Z)
    ((pure_own _).and (cells_own.and (keeps_own (by have := HZ1.out; omega)))) (fun c => (pure_own _).and ((pure_own _).and (cells_own.and (keeps_own (by have := HZ1.out; omega))))) ⟨rfl, HB11.out, HK1.out⟩
    ?a1 ?assign ?body ?done ?stop
  case assign =>
    intro l x Z K hK
    gi_wp2
    exact hK
  case body =>
    rintro l pre x Z ⟨rfl, hb, hkz⟩ hlen
    have c1 := cell_of_one hb
    have f1 := free_of_one hb
    gi_wp2
    exact ⟨KeepsOthers.setCell _ _ _, rfl, rfl, one_setCell hb, hkz.setCell _ _ (.inr (by show w.heap.size ≤ w.heap.size + 1; omega))⟩
  case stop =>
    rintro D c pre Z hD hpre ⟨rfl, hl, hb, hkz⟩ hKD
    gi_wp2
    obtain ⟨x, rfl⟩ : ∃ x, pre = [x] := List.length_eq_one_iff.1 hl
    have hlb : leastB S = x := by
      obtain ⟨t, rfl⟩ := hpre
      rfl
    refine ⟨by simp, .inl ⟨_, _, rfl, run_takeDeferred hKD, ?_⟩⟩
    have hc5 : (Z.putObj D (.deferred none)).cell? ⟨w.heap.size + 1, 0, none⟩ = some (.int .i64 x) :=
      cell_kept (cell_of_one hb) (grownBy_putObj' _ D (.deferred none)) (fun r e => by cases e; exact ⟨_, hKD, rfl⟩)
    refine ⟨.int .i64 x, ?_, by rw [hlb], hkz.putObj _ _ (by have := HZ1.out; omega)⟩
    simp [results, Tryd.f23, go_sem, hc5]
  case done =>
    rintro D ys Z hD hys ⟨rfl, hb, hkz⟩ hKD
    obtain rfl : S = [] := hys.symm
    have f1 := free_of_one hb
    have c1 := cell_of_one hb
    have HBZ := Lib.hid hb; have HHD := Lib.hid hKD; have HKZ := Lib.hid hkz
    have HDL := Lib.hid (show w.heap.size ≤ D from by have := HZ1.out; omega)
    clear hb hKD hkz
    go_wp2_with fail
    have hK' : (Z.setCell ⟨w.heap.size + 1, 0, none⟩ (.int .i64 (-1))).heap[D]? = some (.deferred (some [])) := (KeepsOthers.setCell Z ⟨w.heap.size + 1, 0, none⟩ (.int .i64 (-1))).same D _ HHD.out rfl
    have hc5 : ((Z.setCell ⟨w.heap.size + 1, 0, none⟩ (.int .i64 (-1))).putObj D (.deferred none)).cell? ⟨w.heap.size + 1, 0, none⟩ = some (.int .i64 (-1)) :=
      cell_kept (cell_of_one (one_setCell HBZ.out)) (grownBy_putObj' _ D (.deferred none)) (fun r e => by cases e; exact ⟨_, hK', rfl⟩)
    refine ⟨by simp, .inl ⟨_, _, rfl, run_takeDeferred hK', ?_⟩⟩
    refine ⟨.int .i64 (-1), ?_, rfl, (HKZ.out.setCell _ _ (.inr (by show w.heap.size ≤ w.heap.size + 1; omega))).putObj _ _ HDL.out⟩
    simp [results, Tryd.f23, go_sem, hc5]
/-- What the program's sets tell. -/
noncomputable def btP : BtProg Glob15 where
  At := BtAt
  foot := btFoot
  cells := BtAt.cells
  in_ := fun h => by obtain ⟨v, W, e, h1, h2, h3, h4⟩ := h; exact h3.set
  keep := fun h hk hF => h.keep hk hF
  old := fun h => by obtain ⟨v, W, e, h1, h2, h3, h4⟩ := h; subst e; exact h2
  keepG := fun h hk => h.new hk
  zero := BtAt.zero
  of := fun w v l _ h hl => btOf_any w v l h hl
  has := fun w st S n _ h h64 => btHas_any w st S n h h64
  with_ := fun w st S n _ h h64 => btWith_any w st S n h h64
  without := fun w st S n _ h h64 => btWithout_any w st S n h h64
  union := fun w st S st2 T _ h h2 => btUnion_any w st S st2 T h h2
  within := fun w st S st2 T _ h h2 => btWithin_any w st S st2 T h h2
  count := fun w st S _ h => btCount_any w st S h
  least := fun w st S hG h => btLeast_any w hG st S h
  gap := fun w st S n hG h h64 => btGap_any w hG st S n h h64
  key := fun w st S _ h => btKey_any w st S h
  fromKey := fun w k _ hk => btFromKey_any w k hk
  down := fun w st S n _ h h64 => btDown_any w st S n h h64
  all := fun w st S _ h => btAll_any w st S h
  iter := fun n n0 F B w A S hn hG h hb hBF hBn hn0 hft => btIter_any (fun h => h) n n0 F B w A S hn hG h hb hBF hBn hn0 hft
end Go.Proofs.YtbeniihbejakaaaDoor
