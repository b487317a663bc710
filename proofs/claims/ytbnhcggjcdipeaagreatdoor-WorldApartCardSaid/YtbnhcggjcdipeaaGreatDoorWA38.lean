/-
  The program's World: Objects.
-/
import Derived.Test.YtbnhcggjcdipeaaGreatDoorWA00
import Derived.Test.YtbnhcggjcdipeaaGreatDoorWA36
import Derived.Test.YtbnhcggjcdipeaaGreatDoorWA25
set_option linter.unusedSimpArgs false
set_option linter.unusedVariables false
namespace Go.Proofs.YtbnhcggjcdipeaaGreatDoor
open Go.RowKit Go.Shelf
attribute [local go_sem] Oper.semAt_some
set_option maxRecDepth 100000
variable {G : World → Prop}
theorem Keeps.grown0 {a b : World} (h : Keeps [] a b) : a.grownBy b none := ⟨h.os, h.tape, h.output, h.size, fun k hk _ => h.block k hk (by simp)⟩
theorem Abides.keeps {β : Type} {n : Nat} {J : β → World → Prop} (hJ : AbidesFrom n J) {s : β} {a b : World} (h : J s a) (hk : Keeps [] a b) : J s b := hJ s a b none h hk.grown0 (fun r e => by cases e)
/-- The objects as an array. -/
def skA : SK := { T := 31, s := 8, d := _, und := Tryz.underlying31, row := rfl, size := by kernel_rfl }
theorem eight {A : List Value} (h : A.length = 8) : ∃ a0 a1 a2 a3 a4 a5 a6 a7, A = [a0, a1, a2, a3, a4, a5, a6, a7] := by
  match A, h with
  | [a0, a1, a2, a3, a4, a5, a6, a7], _ => exact ⟨_, _, _, _, _, _, _, _, rfl⟩
theorem index_S {A : List Value} (hA : skW.Ok A) {k : Nat} {v : Value} (hv : A[k]? = some v) (w : World) : (Instr.index 31 (.agg A.toArray) (.int .i64 k)).run Tryz.prog w = .ok (.agg #[v]) w := by
  obtain ⟨a0, a1, a2, a3, a4, a5, a6, a7, rfl⟩ := eight hA.1
  have hk : k < 8 := by
    obtain ⟨h, -⟩ := List.getElem?_eq_some_iff.1 hv
    exact h
  rcases (by omega : k = 0 ∨ k = 1 ∨ k = 2 ∨ k = 3 ∨ k = 4 ∨ k = 5 ∨ k = 6 ∨ k = 7) with rfl | rfl | rfl | rfl | rfl | rfl | rfl | rfl <;> (obtain rfl := Option.some.inj hv; simp [Instr.index, run_underlying Tryz.underlying31, asIntOf, go_sem]; try rfl)
section
variable {n : Nat} {ops : Array Oper} {rest : List Oper} {a : Act} {w : World} {Q : Exit → Act → World → Prop}
theorem SK.wideL (R : SK) {dst : Option Tmp} {ty : TypeId} {pos : String} {after : Array Edge} {gd : Option (Nat × Bool)} {x : Operand} {g off : Nat} {A : List Value} (hA : R.Ok A)
    (hw : Region.wanted { dst := dst, op := .load R.T x, type := ty, pos := pos, after := after, guard := gd } (yielded ops a.tmps) = true)
    (hx : a.eval x = .pointer (some ⟨g, off, none⟩)) (hr : w.rangeAt g off A) (h : wpListIn Fence.wide n Tryz.prog ops Q rest (a.put dst (.agg A.toArray)) w) :
    wpListIn Fence.wide n Tryz.prog ops Q ({ dst := dst, op := .load R.T x, type := ty, pos := pos, after := after, guard := gd } :: rest) a w :=
  wpListIn_step fun _ hK => by
    rw [if_pos hw]
    exact wp_wide (by intro c h; cases h) (R.wp_load rfl hA hx hr (hK _ _ h))
theorem wideW {dst : Option Tmp} {ty : TypeId} {pos : String} {after : Array Edge} {gd : Option (Nat × Bool)} {x : Operand} {g : Nat} {A : List Value} (hA : skW.Ok A)
    (hw : Region.wanted { dst := dst, op := .load 33 x, type := ty, pos := pos, after := after, guard := gd } (yielded ops a.tmps) = true)
    (hx : a.eval x = .pointer (some ⟨g, 0, none⟩)) (hr : w.rangeAt g 0 A) (h : wpListIn Fence.wide n Tryz.prog ops Q rest (a.put dst (.agg A.toArray)) w) :
    wpListIn Fence.wide n Tryz.prog ops Q ({ dst := dst, op := .load 33 x, type := ty, pos := pos, after := after, guard := gd } :: rest) a w := skW.wideL hA hw hx hr h
theorem wideA {dst : Option Tmp} {ty : TypeId} {pos : String} {after : Array Edge} {gd : Option (Nat × Bool)} {x : Operand} {g : Nat} {A : List Value} (hA : skA.Ok A)
    (hw : Region.wanted { dst := dst, op := .load 31 x, type := ty, pos := pos, after := after, guard := gd } (yielded ops a.tmps) = true)
    (hx : a.eval x = .pointer (some ⟨g, 0, none⟩)) (hr : w.rangeAt g 0 A) (h : wpListIn Fence.wide n Tryz.prog ops Q rest (a.put dst (.agg A.toArray)) w) :
    wpListIn Fence.wide n Tryz.prog ops Q ({ dst := dst, op := .load 31 x, type := ty, pos := pos, after := after, guard := gd } :: rest) a w := skA.wideL hA hw hx hr h
theorem wideM {dst : Option Tmp} {ty : TypeId} {pos : String} {after : Array Edge} {gd : Option (Nat × Bool)} {x : Operand} {g off : Nat} {A : List Value} (hA : skM.Ok A)
    (hw : Region.wanted { dst := dst, op := .load 30 x, type := ty, pos := pos, after := after, guard := gd } (yielded ops a.tmps) = true)
    (hx : a.eval x = .pointer (some ⟨g, off, none⟩)) (hr : w.rangeAt g off A) (h : wpListIn Fence.wide n Tryz.prog ops Q rest (a.put dst (.agg A.toArray)) w) :
    wpListIn Fence.wide n Tryz.prog ops Q ({ dst := dst, op := .load 30 x, type := ty, pos := pos, after := after, guard := gd } :: rest) a w := skM.wideL hA hw hx hr h
theorem widePutM {dst : Option Tmp} {ty : TypeId} {pos : String} {after : Array Edge} {x y : Operand} {g : Nat} {old A : List Value} (hA : skM.Ok A) (hO : skM.Ok old) {t : TypeId}
    (hx : a.eval x = .pointer (some ⟨g, 0, none⟩)) (hy : a.eval y = .agg A.toArray) (hg : w.heap[g]? = some (.cells old.toArray t (0, 0)))
    (h : ∀ W, W.heap[g]? = some (.cells A.toArray t (0, 0)) → Keeps [g] w W → wpListIn Fence.wide n Tryz.prog ops Q rest (a.put dst undef) W) :
    wpListIn Fence.wide n Tryz.prog ops Q ({ dst := dst, op := .store 30 x y, type := ty, pos := pos, after := after, guard := none } :: rest) a w :=
  wpListIn_plain rfl fun _ hK => wp_wide (by intro c h; cases h) (skM.wp_put rfl hA hO hx hy hg (fun W h1 h2 => hK _ _ (h W h1 h2)))
end
theorem wdObjects_any (R : MdProg G) (w : World) {st : Value} {O : Option Wd} (h : WoAt R w st O) : Calls Tryz.prog 28 #[st] w fun e w' => ∃ B A, e = .returned (.func (.func 50) #[] #[.pointer (some ⟨B, 0, none⟩)]) ∧ st = .agg A ∧ w.heap.size ≤ B ∧ w'.heap[B]? = some (.cells A 33 (0, 0)) ∧ Keeps [] w w' := by
  obtain ⟨A, rfl, hA⟩ := h.cells
  have hb := heap_alloc_new w (.cells A.toArray 33)
  have hk : Keeps [] w (w.alloc (.cells A.toArray 33)) := (Keeps.refl _ _).alloc _
  have HB := Lib.hid hb; have HK := Lib.hid hk
  clear hb hk h hA
  go_enter Tryz.func28, Tryz.ntmps28
  go_wp2_with fail
  go_ret
  exact ⟨w.heap.size, A.toArray, rfl, rfl, Nat.le_refl _, HB.out, HK.out⟩
end Go.Proofs.YtbnhcggjcdipeaaGreatDoor
/-
  The program's World: what the iterator over its objects yields.
-/
namespace Go.Proofs.YtbnhcggjcdipeaaGreatDoor
open Go.RowKit Go.Shelf
attribute [local go_sem] Oper.semAt_some
set_option maxRecDepth 100000
set_option maxHeartbeats 8000000
variable {G : World → Prop}
theorem liW_take {m : Int} {l : List Md} (k : Nat) : liW m 0 (l.take k) <+: liW m 0 l := by
  conv => rhs; rw [← List.take_append_drop k l]
  rw [liW_app]
  exact List.prefix_append _ _
theorem WoAt.keB {R : MdProg G} {w w' : World} {F : List Nat} {n : Nat} {st : Value} {O : Option Wd} (h : WoAt R w st O) (hk : KeB F n w w') (hF : ∀ q ∈ wFoot R st, q ∉ F ∧ q < n) : WoAt R w' st O :=
  h.keep hk.keeps (fun q hq => turned_not (hF q hq).2 (hF q hq).1)
theorem KeB.newk {F : List Nat} {n : Nat} {w a b : World} (h : KeB F n w a) (hn : n ≤ w.heap.size) (hk : Keeps [] a b) : KeB F n w b := h.trans ((hk.more (by simp)).keB (Nat.le_trans hn h.size))
theorem wdIter_any (R : MdProg G) (n n0 : Nat) (F : List Nat) (B : Nat) (w : World) (A : List Value) (O : Option Wd) (hn : 2 ≤ n) (hG : ∀ w', KeB F n0 w w' → G w') (h : WoAt R w (.agg A.toArray) O) (hu : wUp O 1000) (hb : w.heap[B]? = some (.cells A.toArray 33 (0, 0))) (hBF : B ∉ F) (hBn : B < n0) (hn0 : n0 ≤ w.heap.size) (hft : ∀ q ∈ wFoot R (.agg A.toArray), q ∉ F ∧ q < n0) :
    SeqStopsK Fence.wide n Tryz.prog 50 #[.pointer (some ⟨B, 0, none⟩)] (fun o : Fin 8 => #[.int .u8 (o.val : Int)]) (KeB F n0) (fun xs => xs.map (·.val) = oWL O) (fun pre => pre.map (·.val) <+: oWL O) (oWL O).length w := by
  intro l J Jx W hW hJ hJx hY h0
  have hk0 : KeB F n0 w W := ⟨hW.os, hW.tape, hW.output, hW.size, fun k hk _ => hW.block k (Nat.lt_of_lt_of_le hk hn0)⟩
  obtain ⟨A', eA, hA⟩ := h.cells
  obtain rfl : A = A' := by simpa using eA
  have HA := Lib.hid hA; have HG := Lib.hid hG; have HU := Lib.hid hu; have HFT := Lib.hid hft; have HBQ := Lib.hid (show B ∉ F ∧ B < n0 from ⟨hBF, hBn⟩)
  have HW := Lib.hid h; have HB := Lib.hid hb; have HJ := Lib.hid (fun (s : List (Fin 8)) (a b : World) (h : J s a) (hk : Keeps [] a b) => Abides.keeps hJ h hk)
  have HMD := Lib.hid (fun w' (hk : KeB F n0 w w') => wdModel_any R w' (hG w' hk) (h.keB hk hft))
  have HY := Lib.hid hY
  have HRB := Lib.hid (block_range (hk0.heap hb hBn hBF))
  have HK0 := Lib.hid hk0; have HJ0 := Lib.hid h0; have HN0 := Lib.hid hn0
  clear hW hJ hJx hY h0 hk0 eA hA hG hu hft hBF hBn h hb hn0
  refine callsIn_of_wp Tryz.func50 rfl trivial ?_ rfl
  simp only [Tryz.ntmps50, List.size_toArray, List.length_cons, List.length_nil, Nat.reduceAdd, Nat.reduceSub, Array.replicate_succ, Array.replicate_zero, List.push_toArray, List.append_toArray, List.nil_append, List.cons_append]
  have hn1 : 1 ≤ n := by omega
  gi_wp2_with ((with_reducible refine wideW (g := B) HA.out ?_ ?_ HRB.out ?_); exact rfl; exact rfl)
  refine ⟨trivial, (callsIn_wide.2 (HMD.out _ HK0.out)).mono ?_⟩
  rintro e w1 ⟨rfl, hk1⟩
  have HJ1 := Lib.hid (HJ.out _ _ _ HJ0.out hk1)
  have HK1 := Lib.hid (HK0.out.newk HN0.out hk1)
  clear hk1 HJ0 HK0 HRB HMD
  cases O with
  | none =>
    rw [show oWM none = 0 from rfl, show (none : Option Wd).isSome = false from rfl]
    gi_wp2_with fail
    try simp only [Exit.inBlock, Exit.then]
    refine bodyPost_ret (results_none rfl _ _ _) rfl ?_
    exact ⟨⟨_, rfl⟩, .inl ⟨[], rfl, HJ1.out⟩⟩
  | some X =>
    rw [show (some X : Option Wd).isSome = true from rfl]
    have HRB := Lib.hid (block_range (HK1.out.heap HB.out HBQ.out.2 HBQ.out.1))
    have HAA := Lib.hid (show skA.Ok A from HA.out)
    have HXI := Lib.hid HW.out.in_
    gi_wp2_with ((with_reducible refine wideA (g := B) HAA.out ?_ ?_ HRB.out ?_); exact rfl; exact rfl)
    gi_loopw [5, 6, 16] (fun _ _ i wr => ∃ (k : Nat) (pre : List (Fin 8)), i = .int .i64 k ∧ k ≤ 8 ∧ pre.map (·.val) = (liW X.m 0 (X.l.take k)).map (·.1) ∧ J pre wr ∧ KeB F n0 w wr) (fun _ _ i _ => 8 - (intOf i).toNat)
    case atStart => exact ⟨0, [], rfl, by omega, rfl, HJ1.out, HK1.out⟩
    case round =>
      obtain ⟨k, pre, rfl, hk, hpre, hj, hkw⟩ := hrel
      have HPRE := Lib.hid hpre; have HJW := Lib.hid hj; have HKW := Lib.hid hkw
      clear hpre hj hkw HJ1 HK1 HRB
      by_cases hlt : k < 8
      · obtain ⟨v, hv, hv1, hat⟩ := HW.out.one hlt
        have hix := index_S HA.out hv
        have HAT := Lib.hid (show R.At wr (.agg #[v]) (some (X.at k)) from R.keep hat HKW.out.keeps (fun q hq => by
          have := HFT.out q (wFoot_mem hv q hq)
          exact turned_not this.2 this.1))
        have HVO := Lib.hid (v_ok hv1)
        have HLN := Lib.hid (show (X.at k).len ≤ 1000 from HU.out X rfl _ (Wd.at_mem HXI.out hlt))
        have HNXT := Lib.hid (liW_next (m := X.m) (l := X.l) (k := k) (by rw [HXI.out.n]; exact hlt))
        have HMO := Lib.hid (Wd.at_in HXI.out hlt).1
        have HC := Lib.hid (show (wr.alloc (.cells mdZA 30)).heap[wr.heap.size]? = some (.cells mdZ.toArray 30 (0, 0)) from heap_alloc_new wr _)
        have HKC := Lib.hid (show Keeps [] wr (wr.alloc (.cells mdZA 30)) from (Keeps.refl _ _).alloc _)
        clear hv hv1 hat
        have hk0 : (k : Int) < 8 := by omega
        have hk1 : 0 ≤ (k : Int) := by omega
        gi_wp2_with ((with_reducible refine widePutM (g := wr.heap.size) (old := mdZ) (A := [v]) HVO.out mdZ_ok ?_ ?_ HC.out ?_); exact rfl; exact rfl)
        intro w2 hW2 hk2
        have hks := HKC.out.trans' hk2 (Nat.le_refl _)
        have HRV := Lib.hid (block_range hW2); have HAT2 := Lib.hid (R.new_ HAT.out hks); have HJ2 := Lib.hid (HJ.out _ _ _ HJW.out hks); have HK2 := Lib.hid (HKW.out.newk HN0.out hks)
        clear hW2 hk2 hks HC HKC HAT HJW HKW
        generalize wr.heap.size = g at *
        gi_wp2_with ((with_reducible refine wideM (g := g) (off := 0) (A := [v]) HVO.out ?_ ?_ HRV.out ?_); exact rfl; exact rfl)
        refine ⟨trivial, (callsIn_wide.2 (R.initial w2 _ _ (HG.out _ HK2.out) HAT2.out HLN.out)).mono ?_⟩
        rintro e w3 ⟨rfl, hk3⟩
        have HJ3 := Lib.hid (HJ.out _ _ _ HJ2.out hk3); have HK3 := Lib.hid (HK2.out.newk HN0.out hk3)
        clear hk3 HAT2 HJ2 HK2 HRV
        rw [show oInit (some (X.at k)) = decide (mdB (X.at k) = mdB (mdInit (X.at k).model)) from rfl, HMO.out]
        have hnx := HNXT.out
        rw [show X.l.getD k (mdInit X.m) = X.at k from rfl] at hnx
        by_cases hi : mdB (X.at k) = mdB (mdInit X.m)
        · rw [decide_eq_true hi]
          rw [if_pos hi, List.append_nil] at hnx
          have HNX := Lib.hid hnx
          clear hi hnx
          gi_wp2_with fail
          refine ⟨fun _ h => (by cases h), ?_⟩
          gi_wp2_with fail
          go_roundw
          case rel => exact ⟨k + 1, pre, by go_num, by omega, by rw [HNX.out]; exact HPRE.out, HJ3.out, HK3.out⟩
          case measure => simp [intOf]; omega
        · rw [decide_eq_false hi]
          rw [if_neg hi] at hnx
          have hpm : (pre ++ [(⟨k, hlt⟩ : Fin 8)]).map (·.val) = (liW X.m 0 (X.l.take (k + 1))).map (·.1) := by rw [hnx, List.map_append, List.map_append, HPRE.out]; rfl
          have HPM := Lib.hid hpm
          have hpx : (pre ++ [(⟨k, hlt⟩ : Fin 8)]).map (·.val) <+: oWL (some X) := by rw [hpm]; exact (liW_take (k + 1)).map _
          have HPX := Lib.hid hpx
          have hlen : pre.length < (oWL (some X)).length := by
            have := hpx.length_le
            rw [List.length_map, List.length_append] at this
            simp at this
            omega
          obtain ⟨fn, tmps, assign, body, hy, hR⟩ := HY.out pre ⟨k, hlt⟩ w3 HJ3.out hlen
          dsimp only at hy
          have ew : IntKind.u8.wrap (k : Int) = (k : Int) := by simp [IntKind.wrap, IntKind.signed, IntKind.bits]; omega
          clear hi hnx hpm hpx hlen
          gi_wp2_with fail
          refine hR.mono ?_
          rintro e W3 (⟨rfl, hJ3, hk3⟩ | ⟨rfl, hJx3⟩)
          · have HJ4 := Lib.hid hJ3; have HK4 := Lib.hid (HK3.out.trans hk3)
            clear hy hR hJ3 hk3
            gi_wp2_with fail
            go_roundw
            case rel => exact ⟨k + 1, _, by go_num, by omega, HPM.out, HJ4.out, HK4.out⟩
            case measure => simp [intOf]; omega
          · have HJ4 := Lib.hid hJx3
            clear hy hR hJx3
            gi_wp2_with fail
            try simp only [Exit.inBlock, Exit.then]
            refine bodyPost_ret (results_none rfl _ _ _) rfl ?_
            exact ⟨⟨_, rfl⟩, .inr ⟨_, HPX.out, HJ4.out⟩⟩
      · obtain rfl : k = 8 := by omega
        gi_wp2_with fail
        go_end0
        exact ⟨⟨_, rfl⟩, .inl ⟨pre, by rw [HPRE.out, List.take_of_length_le (by rw [HXI.out.n]; exact Nat.le_refl _)]; rfl, HJW.out⟩⟩
end Go.Proofs.YtbnhcggjcdipeaaGreatDoor
/-
  The program's World: At, Fits.
-/
namespace Go.Proofs.YtbnhcggjcdipeaaGreatDoor
open Go.RowKit
set_option maxRecDepth 100000
set_option maxHeartbeats 8000000
variable {G : World → Prop}
theorem oWat_far (O : Option Wd) {o : Int} (h : 7 < o) : oWat O o = none := by
  cases O with
  | none => rfl
  | some W => exact if_pos h
theorem oWat_near (O : Option Wd) {k : Nat} (h : k < 8) : oWat O (k : Int) = O.map (·.at k) := by
  cases O with
  | none => rfl
  | some W => show (if 7 < (k : Int) then none else some (W.at (k : Int).toNat)) = _; rw [if_neg (by omega)]; rfl
theorem wdAt_any (R : MdProg G) (w : World) {st : Value} {O : Option Wd} {o : Int} (hG : G w) (h : WoAt R w st O) (ho : 0 ≤ o ∧ o < 256) : Calls Tryz.prog 17 #[st, .int .u8 o] w fun e w' => ∃ s, e = .returned (.tuple #[s, .bool (oWat O o).isSome]) ∧ R.At w' s (oWat O o) ∧ Keeps [] w w' ∧ ∀ q ∈ R.foot s, q ∈ wFoot R st := by
  obtain ⟨A, rfl, hA⟩ := h.cells
  obtain ⟨-, h0, h1, hk⟩ := two_vars w A.toArray mdZA 33 30
  have H1 := Lib.hid (h1.trans (show some (Obj.cells _ _ _) = some (Obj.cells mdZ.toArray 30 (0, 0)) from rfl))
  have H0 := Lib.hid h0; have HK := Lib.hid hk; have HA := Lib.hid hA
  by_cases h7 : 7 < o
  · rw [oWat_far O h7]
    have t1 : 8 ≤ o := by omega
    clear h0 h1 hk hA h h7 hG
    go_enter Tryz.func17, Tryz.ntmps17
    go_wp2_with ((with_reducible refine wpList_putM (g := w.heap.size + 1) (old := mdZ) (A := mdZ) mdZ_ok mdZ_ok ?_ ?_ H1.out ?_); exact rfl; exact rfl)
    intro V hV hkV
    have HV := Lib.hid hV; have HKV := Lib.hid hkV
    clear hV hkV
    go_wp2_with fail
    try simp only [Exit.inBlock, Exit.then]
    exact bodyPost_ret (results_sk1 skM rfl _ _ (w.heap.size + 1) mdZ_ok rfl HV.out) rfl ⟨_, rfl, R.zero _, HK.out.trans HKV.out (fun q hq => .inr (by simp at hq; omega)), fun q hq => by
      have h := R.old (R.zero { w with heap := #[] }) q hq
      simp at h⟩
  · obtain ⟨k, rfl⟩ := Int.eq_ofNat_of_zero_le ho.1
    have hk8 : k < 8 := by omega
    rw [oWat_near O hk8]
    obtain ⟨v, hv, hv1, hat⟩ := h.one hk8
    have HV := Lib.hid (v_ok hv1); have HAT := Lib.hid (R.new_ hat hk)
    have HM := Lib.hid (wdModel_any R _ (R.keepG hG hk) (h.new hk))
    have HFT := Lib.hid (show ∀ q ∈ R.foot (.agg #[v]), q ∈ wFoot R (.agg A.toArray) ∧ q < w.heap.size from fun q hq => ⟨wFoot_mem hv q hq, R.old hat q hq⟩)
    have HRW := Lib.hid (block_range h0)
    have HVA := Lib.hid hv
    have t1 : ¬ 8 ≤ (k : Int) := by omega
    have t2 : (k : Int) < 8 := by omega
    have t3 : 0 ≤ (k : Int) := by omega
    have e : (O.map (·.at k)).isSome = O.isSome := by cases O <;> rfl
    rw [e]
    clear h0 h1 hk hA h h7 hG hv hv1 hat ho e
    go_enter Tryz.func17, Tryz.ntmps17
    go_wp2_with ((with_reducible refine wpList_loadW (g := w.heap.size) HA.out ?_ ?_ HRW.out ?_); exact rfl; exact rfl)
    refine HM.out.mono ?_; rintro e w1 ⟨rfl, hk⟩
    have H01 := Lib.hid (hk.heap H0.out (by simp)); have H11 := Lib.hid (hk.heap H1.out (by simp)); have HK1 := Lib.hid (HK.out.trans hk (FSub.refl _ _)); have HAT1 := Lib.hid (R.new_ HAT.out hk)
    clear hk H0 H1 HK HAT HM HRW
    have HRV := Lib.hid (one_range H01.out HVA.out)
    go_wp2_with (first
      | ((with_reducible refine wpList_loadM (g := w.heap.size) (off := k) (A := [v]) HV.out ?_ ?_ HRV.out ?_); exact rfl; exact rfl)
      | ((with_reducible refine wpList_putM (g := w.heap.size + 1) (old := mdZ) (A := [v]) HV.out mdZ_ok ?_ ?_ H11.out ?_); exact rfl; exact rfl))
    intro V hV hkV
    have HVV := Lib.hid hV; have HKV := Lib.hid hkV
    clear hV hkV
    go_wp2_with fail
    try simp only [Exit.inBlock, Exit.then]
    exact bodyPost_ret (results_sk1 skM rfl _ _ (w.heap.size + 1) HV.out rfl HVV.out) rfl ⟨_, rfl, R.keep HAT1.out HKV.out (fun q hq => by have := (HFT.out q hq).2; simp; omega), HK1.out.trans HKV.out (fun q hq => .inr (by simp at hq; omega)), fun q hq => (HFT.out q hq).1⟩
theorem wdFits_any (R : MdProg G) (w : World) {st : Value} {O : Option Wd} (hG : G w) (h : WoAt R w st O) (hu : wUp O 1000) {c : Int} (hc : 0 ≤ c ∧ c < 256) {x : Opn} (hx : x.In) (r : Ans) : Calls Tryz.prog 15 #[st, .int .u8 c, x.val, .agg (ansC r).toArray] w fun e w' =>
    ∃ st', e = .returned (.tuple #[st', .bool (decide ((oWX O c x).2.2 = 0 ∧ (oWX O c x).2.1 = r))]) ∧ WoAt R w' st' (if (oWX O c x).2.2 = 0 ∧ (oWX O c x).2.1 = r then (oWX O c x).1 else O) ∧ Keeps [] w w' ∧ FSub (wFoot R st') (wFoot R st) w.heap.size := by
  obtain ⟨A, rfl, hA⟩ := h.cells
  obtain ⟨V0, hV0⟩ : ∃ V0, V0 = (((w.alloc (.cells A.toArray 33)).alloc (.cells #[.int .u8 x.f, .int .u8 x.o, .int .u8 x.k, .int .u16 x.a, .int .u16 x.b] 47)).alloc (.cells #[.int .u8 r.k, .int .u16 r.v] 25)).alloc (.cells wdZA 33) := ⟨_, rfl⟩
  obtain ⟨h0, h1, h2, h3, hz, hk⟩ := four_vars w A.toArray #[.int .u8 x.f, .int .u8 x.o, .int .u8 x.k, .int .u16 x.a, .int .u16 x.b] #[.int .u8 r.k, .int .u16 r.v] wdZA 33 47 25 33 hV0
  have H0 := Lib.hid h0; have H2 := Lib.hid (h2.trans (show some (Obj.cells _ _ _) = some (Obj.cells (ansC r).toArray 25 (0, 0)) from rfl)); have H3 := Lib.hid (h3.trans (show some (Obj.cells _ _ _) = some (Obj.cells wdZ.toArray 33 (0, 0)) from rfl))
  have HZ := Lib.hid hz; have HK := Lib.hid hk; have HA := Lib.hid hA; have HAW := Lib.hid h; have HOLD := Lib.hid h.old
  have HST := Lib.hid (wdStep_post R V0 (R.keepG hG hk) (h.new hk) hu hc x hx)
  have HRW := Lib.hid (block_range h0)
  clear h0 h1 h2 h3 hz hk hA h hG hu
  rw [show Value.agg (ansC r).toArray = .agg #[.int .u8 r.k, .int .u16 r.v] from rfl]
  unfold Opn.val
  unfold Opn.val at HST
  generalize oWX O c x = X at *
  obtain ⟨O2, r2, e2⟩ := X
  simp only at HST ⊢
  rw [hV0] at HRW HST
  by_cases h0 : e2 = 0
  · by_cases hr : r2 = r
    · rw [decide_eq_true (And.intro h0 hr), if_pos (And.intro h0 hr)]
      subst hr
      subst h0
      have tk : (r2.k == r2.k) = true := by simp
      have tv : (r2.v == r2.v) = true := by simp
      go_enter Tryz.func15, Tryz.ntmps15
      go_wp2_with ((with_reducible refine wpList_loadW (g := w.heap.size) HA.out ?_ ?_ HRW.out ?_); exact rfl; exact rfl)
      refine (HST.out).mono ?_; rintro e w1 ⟨B, rfl, hat, hk, hap⟩
      rw [← hV0] at hk hap
      have HB := Lib.hid (show skW.Ok B from by
        obtain ⟨C, e, hC⟩ := WoAt.cells (show WoAt R w1 (.agg B.toArray) _ from hat)
        rw [show B = C by simpa using e]; exact hC)
      have HAT := Lib.hid (show WoAt R w1 (.agg B.toArray) _ from hat)
      have HAP := Lib.hid (show FSub (wFoot R (.agg B.toArray)) (wFoot R (.agg A.toArray)) V0.heap.size from hap (fun q => q ∈ wFoot R (.agg A.toArray) ∨ V0.heap.size ≤ q) (fun q hq => .inl hq) (fun q hq => .inr hq))
      have H01 := Lib.hid (hk.heap H0.out (by simp)); have H21 := Lib.hid (hk.heap H2.out (by simp)); have H31 := Lib.hid (hk.heap H3.out (by simp)); have HK1 := Lib.hid (HK.out.trans hk (FSub.refl _ _))
      have HSZ1 := Lib.hid hk.size
      clear hat hk hap HST HRW H0 H2 H3 HK
      clear hV0
      obtain ⟨-, a1, a2, hk⟩ := two_vars w1 wdZA #[.int .u8 0, .int .u16 0] 33 25
      have HN1 := Lib.hid (show _ = some (Obj.cells wdZ.toArray 33 (0, 0)) from a1); have HN2 := Lib.hid (show _ = some (Obj.cells (ansC ⟨0, 0⟩).toArray 25 (0, 0)) from a2)
      have HNK := Lib.hid hk
      clear a1 a2 hk
      go_wp2_with ((with_reducible refine wpList_putW (g := w1.heap.size) (old := wdZ) (A := B) HB.out wdZ_ok ?_ ?_ HN1.out ?_); exact rfl; exact rfl)
      intro W2 hW hkW
      have HM1 := Lib.hid hW; have HM2 := Lib.hid (hkW.heap HN2.out (by simp)); have HMK := Lib.hid (HNK.out.trans' hkW (Nat.le_refl _))
      clear hW hkW HN1 HN2 HNK
      go_wp2_with ((with_reducible refine wpList_putN (g := w1.heap.size + 1) (old := ⟨0, 0⟩) r2 ?_ ?_ HM2.out ?_); exact rfl; exact rfl)
      intro W3 hW hkW
      have HV1 := Lib.hid (hkW.heap HM1.out (by simp)); have HV2 := Lib.hid hW; have hk := HMK.out.trans' hkW (by omega)
      have HAT3 := Lib.hid (HAT.out.new hk)
      have H03 := Lib.hid (hk.heap H01.out (by simp)); have H23 := Lib.hid (hk.heap H21.out (by simp)); have H33 := Lib.hid (hk.heap H31.out (by simp)); have HK3 := Lib.hid (HK1.out.trans hk (FSub.refl _ _))
      have HGB := Lib.hid (show ∀ q ∈ wFoot R (.agg B.toArray), q ≠ w.heap.size + 1 + 1 + 1 from fun q hq => by
        rcases HAP.out q hq with h | h
        · have := HOLD.out q h; omega
        · have := HZ.out; omega)
      have HRB := Lib.hid (block_range HV1.out); have HRA := Lib.hid (block_range H03.out)
      clear hW hkW HM1 HM2 HMK hk HAT H01 H21 H31 HK1
      generalize w1.heap.size = g at *
      go_wp2_with (first
        | ((with_reducible refine wpList_loadN13 (g := g + 1) (y := r2) ?_ ?_ HV2.out ?_); exact rfl; exact rfl)
        | ((with_reducible refine wpList_loadN13 (g := w.heap.size + 1 + 1) (y := r2) ?_ ?_ H23.out ?_); exact rfl; exact rfl)
        | ((with_reducible refine wpList_loadW (g := g) HB.out ?_ ?_ HRB.out ?_); exact rfl; exact rfl)
        | ((with_reducible refine wpList_putW (g := w.heap.size + 1 + 1 + 1) (old := wdZ) (A := B) HB.out wdZ_ok ?_ ?_ H33.out ?_); exact rfl; exact rfl))
      intro W4 hW hkW
      have HW := Lib.hid hW; have HKW := Lib.hid hkW
      clear hW hkW
      go_wp2_with fail
      try simp only [Exit.inBlock, Exit.then]
      exact bodyPost_ret (results_sk1 skW rfl _ _ (w.heap.size + 1 + 1 + 1) HB.out rfl HW.out) rfl ⟨_, rfl, HAT3.out.keep HKW.out (fun q hq => by have := HGB.out q hq; simpa using this), HK3.out.trans HKW.out (fun q hq => .inr (by simp at hq; omega)), fun q hq => (HAP.out q hq).imp id (fun h => by have := HZ.out; omega)⟩
    · rw [decide_eq_false (fun e => hr e.2), if_neg (fun e => hr e.2)]
      subst h0
      go_enter Tryz.func15, Tryz.ntmps15
      go_wp2_with ((with_reducible refine wpList_loadW (g := w.heap.size) HA.out ?_ ?_ HRW.out ?_); exact rfl; exact rfl)
      refine (HST.out).mono ?_; rintro e w1 ⟨B, rfl, hat, hk, hap⟩
      rw [← hV0] at hk hap
      have HB := Lib.hid (show skW.Ok B from by
        obtain ⟨C, e, hC⟩ := WoAt.cells (show WoAt R w1 (.agg B.toArray) _ from hat)
        rw [show B = C by simpa using e]; exact hC)
      have HAT := Lib.hid (show WoAt R w1 (.agg B.toArray) _ from hat)
      have HAP := Lib.hid (show FSub (wFoot R (.agg B.toArray)) (wFoot R (.agg A.toArray)) V0.heap.size from hap (fun q => q ∈ wFoot R (.agg A.toArray) ∨ V0.heap.size ≤ q) (fun q hq => .inl hq) (fun q hq => .inr hq))
      have H01 := Lib.hid (hk.heap H0.out (by simp)); have H21 := Lib.hid (hk.heap H2.out (by simp)); have H31 := Lib.hid (hk.heap H3.out (by simp)); have HK1 := Lib.hid (HK.out.trans hk (FSub.refl _ _))
      have HSZ1 := Lib.hid hk.size
      clear hat hk hap HST HRW H0 H2 H3 HK
      clear hV0
      obtain ⟨-, a1, a2, hk⟩ := two_vars w1 wdZA #[.int .u8 0, .int .u16 0] 33 25
      have HN1 := Lib.hid (show _ = some (Obj.cells wdZ.toArray 33 (0, 0)) from a1); have HN2 := Lib.hid (show _ = some (Obj.cells (ansC ⟨0, 0⟩).toArray 25 (0, 0)) from a2)
      have HNK := Lib.hid hk
      clear a1 a2 hk
      go_wp2_with ((with_reducible refine wpList_putW (g := w1.heap.size) (old := wdZ) (A := B) HB.out wdZ_ok ?_ ?_ HN1.out ?_); exact rfl; exact rfl)
      intro W2 hW hkW
      have HM1 := Lib.hid hW; have HM2 := Lib.hid (hkW.heap HN2.out (by simp)); have HMK := Lib.hid (HNK.out.trans' hkW (Nat.le_refl _))
      clear hW hkW HN1 HN2 HNK
      go_wp2_with ((with_reducible refine wpList_putN (g := w1.heap.size + 1) (old := ⟨0, 0⟩) r2 ?_ ?_ HM2.out ?_); exact rfl; exact rfl)
      intro W3 hW hkW
      have HV1 := Lib.hid (hkW.heap HM1.out (by simp)); have HV2 := Lib.hid hW; have hk := HMK.out.trans' hkW (by omega)
      have HAT3 := Lib.hid (HAT.out.new hk)
      have H03 := Lib.hid (hk.heap H01.out (by simp)); have H23 := Lib.hid (hk.heap H21.out (by simp)); have H33 := Lib.hid (hk.heap H31.out (by simp)); have HK3 := Lib.hid (HK1.out.trans hk (FSub.refl _ _))
      have HGB := Lib.hid (show ∀ q ∈ wFoot R (.agg B.toArray), q ≠ w.heap.size + 1 + 1 + 1 from fun q hq => by
        rcases HAP.out q hq with h | h
        · have := HOLD.out q h; omega
        · have := HZ.out; omega)
      have HRB := Lib.hid (block_range HV1.out); have HRA := Lib.hid (block_range H03.out)
      clear hW hkW HM1 HM2 HMK hk HAT H01 H21 H31 HK1
      generalize w1.heap.size = g at *
      by_cases hk : r2.k = r.k
      · have hv : (r2.v == r.v) = false := by
          have : r2.v ≠ r.v := fun e => hr (by cases r2; cases r; simp_all)
          simpa using this
        go_wp2_with (first
          | ((with_reducible refine wpList_loadN13 (g := g + 1) (y := r2) ?_ ?_ HV2.out ?_); exact rfl; exact rfl)
          | ((with_reducible refine wpList_loadN13 (g := w.heap.size + 1 + 1) (y := r) ?_ ?_ H23.out ?_); exact rfl; exact rfl)
          | ((with_reducible refine wpList_loadW (g := w.heap.size) HA.out ?_ ?_ HRA.out ?_); exact rfl; exact rfl)
          | ((with_reducible refine wpList_putW (g := w.heap.size + 1 + 1 + 1) (old := wdZ) (A := A) HA.out wdZ_ok ?_ ?_ H33.out ?_); exact rfl; exact rfl))
        intro W4 hW hkW
        have HW := Lib.hid hW; have HKW := Lib.hid hkW
        clear hW hkW
        go_wp2_with fail
        try simp only [Exit.inBlock, Exit.then]
        have hk2 : Keeps [] w W4 := HK3.out.trans HKW.out (fun q hq => .inr (by simp at hq; omega))
        exact bodyPost_ret (results_sk1 skW rfl _ _ (w.heap.size + 1 + 1 + 1) HA.out rfl HW.out) rfl ⟨_, rfl, HAW.out.new hk2, hk2, FSub.refl _ _⟩
      · have hv : (r2.k == r.k) = false := by simpa using hk
        clear hk
        go_wp2_with (first
          | ((with_reducible refine wpList_loadN13 (g := g + 1) (y := r2) ?_ ?_ HV2.out ?_); exact rfl; exact rfl)
          | ((with_reducible refine wpList_loadN13 (g := w.heap.size + 1 + 1) (y := r) ?_ ?_ H23.out ?_); exact rfl; exact rfl)
          | ((with_reducible refine wpList_loadW (g := w.heap.size) HA.out ?_ ?_ HRA.out ?_); exact rfl; exact rfl)
          | ((with_reducible refine wpList_putW (g := w.heap.size + 1 + 1 + 1) (old := wdZ) (A := A) HA.out wdZ_ok ?_ ?_ H33.out ?_); exact rfl; exact rfl))
        intro W4 hW hkW
        have HW := Lib.hid hW; have HKW := Lib.hid hkW
        clear hW hkW
        go_wp2_with fail
        try simp only [Exit.inBlock, Exit.then]
        have hk2 : Keeps [] w W4 := HK3.out.trans HKW.out (fun q hq => .inr (by simp at hq; omega))
        exact bodyPost_ret (results_sk1 skW rfl _ _ (w.heap.size + 1 + 1 + 1) HA.out rfl HW.out) rfl ⟨_, rfl, HAW.out.new hk2, hk2, FSub.refl _ _⟩
  · rw [decide_eq_false (fun e => h0 e.1), if_neg (fun e => h0 e.1)]
    have t : (e2 != 0) = true := by simpa using h0
    go_enter Tryz.func15, Tryz.ntmps15
    go_wp2_with ((with_reducible refine wpList_loadW (g := w.heap.size) HA.out ?_ ?_ HRW.out ?_); exact rfl; exact rfl)
    refine (HST.out).mono ?_; rintro e w1 ⟨B, rfl, hat, hk, hap⟩
    rw [← hV0] at hk hap
    have HB := Lib.hid (show skW.Ok B from by
      obtain ⟨C, e, hC⟩ := WoAt.cells (show WoAt R w1 (.agg B.toArray) _ from hat)
      rw [show B = C by simpa using e]; exact hC)
    have HAT := Lib.hid (show WoAt R w1 (.agg B.toArray) _ from hat)
    have HAP := Lib.hid (show FSub (wFoot R (.agg B.toArray)) (wFoot R (.agg A.toArray)) V0.heap.size from hap (fun q => q ∈ wFoot R (.agg A.toArray) ∨ V0.heap.size ≤ q) (fun q hq => .inl hq) (fun q hq => .inr hq))
    have H01 := Lib.hid (hk.heap H0.out (by simp)); have H21 := Lib.hid (hk.heap H2.out (by simp)); have H31 := Lib.hid (hk.heap H3.out (by simp)); have HK1 := Lib.hid (HK.out.trans hk (FSub.refl _ _))
    have HSZ1 := Lib.hid hk.size
    clear hat hk hap HST HRW H0 H2 H3 HK
    clear hV0
    obtain ⟨-, a1, a2, hk⟩ := two_vars w1 wdZA #[.int .u8 0, .int .u16 0] 33 25
    have HN1 := Lib.hid (show _ = some (Obj.cells wdZ.toArray 33 (0, 0)) from a1); have HN2 := Lib.hid (show _ = some (Obj.cells (ansC ⟨0, 0⟩).toArray 25 (0, 0)) from a2)
    have HNK := Lib.hid hk
    clear a1 a2 hk
    go_wp2_with ((with_reducible refine wpList_putW (g := w1.heap.size) (old := wdZ) (A := B) HB.out wdZ_ok ?_ ?_ HN1.out ?_); exact rfl; exact rfl)
    intro W2 hW hkW
    have HM1 := Lib.hid hW; have HM2 := Lib.hid (hkW.heap HN2.out (by simp)); have HMK := Lib.hid (HNK.out.trans' hkW (Nat.le_refl _))
    clear hW hkW HN1 HN2 HNK
    go_wp2_with ((with_reducible refine wpList_putN (g := w1.heap.size + 1) (old := ⟨0, 0⟩) r2 ?_ ?_ HM2.out ?_); exact rfl; exact rfl)
    intro W3 hW hkW
    have HV1 := Lib.hid (hkW.heap HM1.out (by simp)); have HV2 := Lib.hid hW; have hk := HMK.out.trans' hkW (by omega)
    have HAT3 := Lib.hid (HAT.out.new hk)
    have H03 := Lib.hid (hk.heap H01.out (by simp)); have H23 := Lib.hid (hk.heap H21.out (by simp)); have H33 := Lib.hid (hk.heap H31.out (by simp)); have HK3 := Lib.hid (HK1.out.trans hk (FSub.refl _ _))
    have HGB := Lib.hid (show ∀ q ∈ wFoot R (.agg B.toArray), q ≠ w.heap.size + 1 + 1 + 1 from fun q hq => by
      rcases HAP.out q hq with h | h
      · have := HOLD.out q h; omega
      · have := HZ.out; omega)
    have HRB := Lib.hid (block_range HV1.out); have HRA := Lib.hid (block_range H03.out)
    clear hW hkW HM1 HM2 HMK hk HAT H01 H21 H31 HK1
    generalize w1.heap.size = g at *
    go_wp2_with (first
      | ((with_reducible refine wpList_loadN13 (g := g + 1) (y := r2) ?_ ?_ HV2.out ?_); exact rfl; exact rfl)
      | ((with_reducible refine wpList_loadN13 (g := w.heap.size + 1 + 1) (y := r) ?_ ?_ H23.out ?_); exact rfl; exact rfl)
      | ((with_reducible refine wpList_loadW (g := w.heap.size) HA.out ?_ ?_ HRA.out ?_); exact rfl; exact rfl)
      | ((with_reducible refine wpList_putW (g := w.heap.size + 1 + 1 + 1) (old := wdZ) (A := A) HA.out wdZ_ok ?_ ?_ H33.out ?_); exact rfl; exact rfl))
    intro W4 hW hkW
    have HW := Lib.hid hW; have HKW := Lib.hid hkW
    clear hW hkW
    go_wp2_with fail
    try simp only [Exit.inBlock, Exit.then]
    have hk2 : Keeps [] w W4 := HK3.out.trans HKW.out (fun q hq => .inr (by simp at hq; omega))
    exact bodyPost_ret (results_sk1 skW rfl _ _ (w.heap.size + 1 + 1 + 1) HA.out rfl HW.out) rfl ⟨_, rfl, HAW.out.new hk2, hk2, FSub.refl _ _⟩
end Go.Proofs.YtbnhcggjcdipeaaGreatDoor
/-
  The program's World: Same.
-/
namespace Go.Proofs.YtbnhcggjcdipeaaGreatDoor
open Go.RowKit
set_option maxRecDepth 100000
set_option maxHeartbeats 8000000
variable {G : World → Prop}
def eqW (O P : Option Wd) : Bool := (List.range 8).all fun o => oSame (O.map (·.at o)) (P.map (·.at o))
theorem eqW_no {O P : Option Wd} {k : Nat} (hk : k < 8) (h : oSame (O.map (·.at k)) (P.map (·.at k)) = false) : eqW O P = false := by
  unfold eqW
  rw [List.all_eq_false]
  exact ⟨k, List.mem_range.2 hk, by rw [h]; decide⟩
theorem eqW_yes {O P : Option Wd} (h : ∀ j, j < 8 → oSame (O.map (·.at j)) (P.map (·.at j)) = true) : eqW O P = true := by
  unfold eqW
  rw [List.all_eq_true]
  exact fun o ho => h o (List.mem_range.1 ho)
theorem eqW_same (O P : Option Wd) : eqW O P = oWSame O P := by
  cases O with
  | none =>
    cases P with
    | none => rfl
    | some V => exact eqW_no (k := 0) (by decide) rfl
  | some W =>
    cases P with
    | none => exact eqW_no (k := 0) (by decide) rfl
    | some V => rfl
theorem wdEqF_any (R : MdProg G) (F : MdSame R) (w : World) {g1 g2 : Nat} {A B : List Value} {O P : Option Wd} {t u : TypeId} (hG : G w) (h1 : w.heap[g1]? = some (.cells A.toArray t (0, 0))) (h2 : w.heap[g2]? = some (.cells B.toArray u (0, 0))) (hA : WoAt R w (.agg A.toArray) O) (hB : WoAt R w (.agg B.toArray) P) (hu : wUp O 1000) (hv : wUp P 1000) :
    Calls Tryz.prog 44 #[.slice (some ⟨g1, 0, none⟩) 8 8, .slice (some ⟨g2, 0, none⟩) 8 8, .func (.func 45) #[] #[]] w fun e w' => e = .returned (.bool (eqW O P)) ∧ Keeps [] w w' := by
  obtain ⟨Z, hZ⟩ : ∃ Z, Z = eqW O P := ⟨_, rfl⟩
  rw [← hZ]
  have HZ := Lib.hid hZ; have HGL := Lib.hid (fun w' (h : Keeps [] w w') => R.keepG hG h)
  have H1 := Lib.hid h1; have H2 := Lib.hid h2; have HA := Lib.hid hA; have HB := Lib.hid hB; have HU := Lib.hid hu; have HV := Lib.hid hv
  clear hG h1 h2 hA hB hu hv hZ
  go_enter Tryz.func44, Tryz.ntmps44
  go_wp2_with fail
  go_loopw [7, 8, 9, 17] (fun _ _ _ i wr => ∃ k : Nat, k ≤ 8 ∧ i = .int .i64 k ∧ (∀ j, j < k → oSame (O.map (·.at j)) (P.map (·.at j)) = true) ∧ Keeps [] w wr) (fun _ _ _ i _ => 8 - (intOf i).toNat)
  case atStart => exact ⟨0, by omega, rfl, fun j hj => by omega, Keeps.refl _ _⟩
  case round =>
    obtain ⟨k, hk, rfl, hp, hkw⟩ := hrel
    have HP := Lib.hid hp; have HKW := Lib.hid hkw
    clear hp hkw
    by_cases hlt : k < 8
    · obtain ⟨v1, e1, o1, a1⟩ := HA.out.one hlt
      obtain ⟨v2, e2, o2, a2⟩ := HB.out.one hlt
      have HV1 := Lib.hid (v_ok o1); have HV2 := Lib.hid (v_ok o2)
      have HR1 := Lib.hid (one_range (HKW.out.heap H1.out (by simp)) e1); have HE2 := Lib.hid e2
      have HA1 := Lib.hid (R.new_ a1 HKW.out); have HA2 := Lib.hid (R.new_ a2 HKW.out)
      have HL1 := Lib.hid (oLen_at (o := k) (fun W hW => by subst hW; exact HA.out.in_) HU.out hlt); have HL2 := Lib.hid (oLen_at (o := k) (fun W hW => by subst hW; exact HB.out.in_) HV.out hlt)
      have HC := Lib.hid (show (wr.alloc (.cells mdZA 30)).heap[wr.heap.size]? = some (.cells mdZ.toArray 30 (0, 0)) from heap_alloc_new wr _)
      have HKC := Lib.hid (show Keeps [] wr (wr.alloc (.cells mdZA 30)) from (Keeps.refl _ _).alloc _)
      clear o1 o2 a1 a2 e1 e2
      have hk0 : (k : Int) < 8 := by omega
      have hk1 : 0 ≤ (k : Int) := by omega
      go_wp2_with (first
        | ((with_reducible refine wpList_loadM (g := g1) (off := k) (A := [v1]) HV1.out ?_ ?_ HR1.out ?_); exact rfl; exact rfl)
        | ((with_reducible refine wpList_putM (g := wr.heap.size) (old := mdZ) (A := [v1]) HV1.out mdZ_ok ?_ ?_ HC.out ?_); exact rfl; exact rfl))
      intro w2 hW hk2
      have hk := HKC.out.trans' hk2 (Nat.le_refl _)
      have HB1 := Lib.hid hW; have HK2 := Lib.hid (HKW.out.trans hk (FSub.refl _ _))
      have HA12 := Lib.hid (R.new_ HA1.out hk); have HA22 := Lib.hid (R.new_ HA2.out hk)
      have HR2 := Lib.hid (one_range (HK2.out.heap H2.out (by simp)) HE2.out)
      clear hW hk2 hk HC HKC HR1 HA1 HA2 HKW
      generalize wr.heap.size = q1 at *
      have HC := Lib.hid (show (w2.alloc (.cells mdZA 30)).heap[w2.heap.size]? = some (.cells mdZ.toArray 30 (0, 0)) from heap_alloc_new w2 _)
      have HKC := Lib.hid (show Keeps [] w2 (w2.alloc (.cells mdZA 30)) from (Keeps.refl _ _).alloc _)
      go_wp2_with (first
        | ((with_reducible refine wpList_loadM (g := g2) (off := k) (A := [v2]) HV2.out ?_ ?_ HR2.out ?_); exact rfl; exact rfl)
        | ((with_reducible refine wpList_putM (g := w2.heap.size) (old := mdZ) (A := [v2]) HV2.out mdZ_ok ?_ ?_ HC.out ?_); exact rfl; exact rfl))
      intro w3 hW hk3
      have hk := HKC.out.trans' hk3 (Nat.le_refl _)
      have HB2 := Lib.hid hW; have HK3 := Lib.hid (HK2.out.trans hk (FSub.refl _ _))
      have HA13 := Lib.hid (R.new_ HA12.out hk); have HA23 := Lib.hid (R.new_ HA22.out hk)
      have HR1 := Lib.hid (block_range (hk.heap HB1.out (by simp))); have HR3 := Lib.hid (block_range hW)
      clear hW hk3 hk HC HKC HR2 HA12 HA22 HK2 HB1 HB2
      generalize w2.heap.size = q2 at *
      have HS := Lib.hid (F.same w3 _ _ _ _ (HGL.out _ HK3.out) HA13.out HA23.out HL1.out HL2.out)
      by_cases he : oSame (O.map (·.at k)) (P.map (·.at k)) = true
      · have HN := Lib.hid (show ∀ j, j < k + 1 → oSame (O.map (·.at j)) (P.map (·.at j)) = true from fun j hj => by
          rcases Nat.lt_succ_iff_lt_or_eq.1 hj with h | h
          · exact HP.out j h
          · rw [h]; exact he)
        rw [he] at HS
        clear he HP
        go_wp2_with (first
          | ((with_reducible refine wpList_loadM (g := q1) (off := 0) (A := [v1]) HV1.out ?_ ?_ HR1.out ?_); exact rfl; exact rfl)
          | ((with_reducible refine wpList_loadM (g := q2) (off := 0) (A := [v2]) HV2.out ?_ ?_ HR3.out ?_); exact rfl; exact rfl))
        refine HS.out.mono ?_; rintro e w4 ⟨rfl, hk4⟩
        have HK4 := Lib.hid (HK3.out.trans hk4 (FSub.refl _ _))
        clear hk4
        go_wp2_with fail
        go_roundw
        case rel => exact ⟨k + 1, by omega, by go_num, HN.out, HK4.out⟩
        case measure => simp [intOf]; omega
      · have he2 : oSame (O.map (·.at k)) (P.map (·.at k)) = false := by simpa using he
        have HNO := Lib.hid (show Z = false from HZ.out.trans (eqW_no hlt he2))
        rw [he2] at HS
        clear he he2 HP HZ
        go_wp2_with (first
          | ((with_reducible refine wpList_loadM (g := q1) (off := 0) (A := [v1]) HV1.out ?_ ?_ HR1.out ?_); exact rfl; exact rfl)
          | ((with_reducible refine wpList_loadM (g := q2) (off := 0) (A := [v2]) HV2.out ?_ ?_ HR3.out ?_); exact rfl; exact rfl))
        refine HS.out.mono ?_; rintro e w4 ⟨rfl, hk4⟩
        have HK4 := Lib.hid (HK3.out.trans hk4 (FSub.refl _ _))
        clear hk4
        go_wp2_with fail
        go_ret
        exact ⟨by rw [HNO.out]; rfl, HK4.out⟩
    · obtain rfl : k = 8 := by omega
      have HNO := Lib.hid (show Z = true from HZ.out.trans (eqW_yes HP.out))
      clear HP HZ
      go_wp2_with fail
      go_ret
      exact ⟨by rw [HNO.out]; rfl, HKW.out⟩
theorem wdSame_any (R : MdProg G) (F : MdSame R) (w : World) {st st2 : Value} {O P : Option Wd} (hG : G w) (h : WoAt R w st O) (h2 : WoAt R w st2 P) (hu : wUp O 1000) (hv : wUp P 1000) : Calls Tryz.prog 20 #[st, st2] w fun e w' => e = .returned (.bool (oWSame O P)) ∧ Keeps [] w w' := by
  obtain ⟨A, rfl, hA⟩ := h.cells
  obtain ⟨B, rfl, hB⟩ := h2.cells
  obtain ⟨-, h0, h1, hk⟩ := two_vars w A.toArray B.toArray 33 33
  rw [← eqW_same]
  obtain ⟨V, hV⟩ : ∃ V, V = (w.alloc (.cells A.toArray 33)).alloc (.cells B.toArray 33) := ⟨_, rfl⟩
  rw [← hV] at h0 h1 hk
  have HEQ := Lib.hid (fun w' (hkw : Keeps [] V w') => wdEqF_any R F w' (g1 := w.heap.size) (g2 := w.heap.size + 1) (R.keepG hG (hk.trans hkw (FSub.refl _ _))) (hkw.heap h0 (by simp)) (hkw.heap h1 (by simp)) (h.new (hk.trans hkw (FSub.refl _ _))) (h2.new (hk.trans hkw (FSub.refl _ _))) hu hv)
  have HK := Lib.hid hk
  clear h h2 hG hA hB h0 h1 hk hu hv
  go_enter Tryz.func20, Tryz.ntmps20
  have hV2 := hV.symm
  clear hV
  go_wp2_with fail
  obtain ⟨S0, hS0⟩ : ∃ S0 : World → Prop, S0 = fun y => Keeps [] V y := ⟨_, rfl⟩
  have HSE := Lib.hid hS0
  have hSD : S0 V.drew := by rw [hS0]; exact (Keeps.refl _ _).drew
  clear hS0
  refine wp_region_noPanic ?_
  refine wp_region_held_drew (S := S0) (by kernel_rfl) hSD (fun hHeld => ?_)
  refine tw 0 (h := ?_)
  refine tw 1 (h := ?_)
  refine tw 2 (h := ?_)
  refine tw 3 (h := ?_)
  refine rp 4 (h := fun K hK => ?_)
  refine wp_call9 44 _ _ rfl [.slice (some ⟨w.heap.size, 0, none⟩) 8 8, .slice (some ⟨w.heap.size + 1, 0, none⟩) 8 8, .func (.func 45) #[] #[]] rfl Tryz.func44 (by kernel_rfl) (by kernel_rfl) ((HEQ.out _ (Keeps.refl [] V).drew).mono ?_)
  rintro e y1 ⟨rfl, hk1⟩
  refine ⟨_, rfl, ?_⟩
  have HY := Lib.hid ((Keeps.refl [] V).drew.trans hk1 (FSub.refl _ _))
  clear hk1
  refine hK.out _ _ (by rw [HSE.out]; exact HY.out) (fun hHeld => ?_); clear hK K; try simp only [Act.put, lsA, lsZ, lsS]
  refine tw 5 (h := ?_)
  refine wpAnyH_done (by kernel_rfl) ?_ _
  refine NoPanic.normal ?_
  go_wp2_with fail
  go_ret
  exact ⟨rfl, HK.out.trans HY.out (FSub.refl _ _)⟩
end Go.Proofs.YtbnhcggjcdipeaaGreatDoor
