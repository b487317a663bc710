/-
  What is walked without a fence, inside one (as Mhb, for seats without its imports).
-/
import Derived.Test.YtbeniihbejakaaaDoorBD00
import Derived.RangeFuncNested
import Derived.RangeFuncBound
import Derived.RangeFuncCalls
import Derived.RangeFuncLeaves
import Derived.RangeFuncBox
import Derived.RangeFuncFrom
import Derived.Shelf.Abstract
import Derived.Shelf.RegionOpen
import Derived.OwnWalkIn
import Derived.TacticsInMore
import Derived.LoopNIn
import Derived.LoopIn
import Derived.RegionIn
import Derived.Deep.RegionHeld3
import Derived.Test.YtbeniihbejakaaaDoorBD22
import Derived.Test.YtbeniihbejakaaaDoorBD09
set_option linter.unusedSimpArgs false
set_option linter.unusedVariables false
namespace Go.Proofs.YtbeniihbejakaaaDoor
open Go.RowKit
section
variable {n : Nat} {o : Oper} {ops : Array Oper} {md : Region.Mode} {a : Act} {w : World} {K : Act → World → Prop} {Q : Exit → Act → World → Prop} {l : Nat} {id : Nat}
theorem rowsIn_wide15 {row : String} {args : Array Value} {R : Value → World → Prop} (h : Rows Tryd.prog row args w R) : RowsIn Fence.wide n Tryd.prog row args w R := fun c cs _ =>
  let ⟨v, w', r, s⟩ := h c cs; ⟨v, w', r, stepsIn_wide.2 s⟩
theorem upon_wide15 {r : Result Next} (h : o.upon Tryd.prog a K Q r) : o.uponIn Fence.wide n Tryd.prog a K Q r := by
  cases r with
  | ok x w' =>
    cases x with
    | value v => exact h
    | skip => exact h
    | defer d => exact h
    | enter f args => exact ⟨fun hd => (by cases hd), callsIn_wide.2 (Calls.mono h fun e w'' he => by cases e <;> exact he)⟩
    | row row args => exact ⟨fun hd => (by cases hd), rowsIn_wide15 h⟩
    | _ => exact h.elim
  | halt x w' => cases x <;> first | exact h | exact h.elim
theorem wp_round15 (hd : ∀ c, o.op ≠ .defer c) (h : o.wp Tryd.prog a w K Q) : o.wpIn (Fence.wide.inRound l) n Tryd.prog a w K Q :=
  ⟨fun _ _ => trivial, by rw [Oper.semAt_plain _ _ _ hd]; exact upon_wide15 (n := n) h⟩
def noDefer15 (o : Oper) : Bool := match o.op with
  | .defer _ => false
  | _ => true
theorem noDefer_of15 (h : noDefer15 o = true) : ∀ c, o.op ≠ .defer c := fun c e => by
  unfold noDefer15 at h
  rw [e] at h
  cases h
theorem wpAny_round15 (hL : ¬ LetsOut Q) (hd : ∀ (i : Nat) (o : Oper), ops[i]? = some o → noDefer15 o = true) : ∀ (fuel : Nat) (listed : Array Bool) (a : Act) (w : World), wpAny Tryd.prog md ops Q fuel listed a w → wpAnyIn (Fence.wide.inRound l) n Tryd.prog md ops Q fuel listed a w
  | 0, _, _, _, h => h
  | fuel + 1, listed, a, w, h => by
    refine ⟨h.1, fun i hi => ?_⟩
    have h1 := h.2 i hi
    unfold wpOp at h1
    unfold wpOpIn
    cases ho : ops[i]? with
    | none => rw [ho] at h1; exact wpAny_round15 hL hd fuel _ _ _ h1
    | some o =>
      rw [ho] at h1
      simp only at h1 ⊢
      split
      · rename_i hw
        rw [if_pos hw] at h1
        rcases h1 with h1 | h1
        · exact Oper.wpIn_mono (fun a w => wpAny_round15 hL hd fuel _ a w) (wp_round15 (noDefer_of15 (hd i o ho)) h1)
        · exact absurd h1.2 hL
      · rename_i hw
        rw [if_neg hw] at h1
        exact ⟨fun _ _ => trivial, wpAny_round15 hL hd fuel _ _ _ h1⟩
/-- A region of a round that draws its order, walked without the fence. -/
theorem wpIn_region_drawn15 {S : World → Prop} {L : List Oper} (hm : Tryd.prog.follows .mixedOrders = true) (hL : ¬ LetsOut Q) (hd : L.all noDefer15 = true)
    (h : wpAnyH Tryd.prog .any L.toArray Q S L.toArray.size (Array.replicate L.toArray.size false) a { w with drawn := w.drawn + 1 }) : (Code.region id L.toArray true).wpIn (Fence.wide.inRound l) n Tryd.prog Q a w :=
  wpIn_region_any hm (wpAny_round15 hL (fun i o ho => by
    rw [List.getElem?_toArray] at ho
    exact List.all_eq_true.1 hd o (List.mem_of_getElem? ho)) _ _ _ _ (wpAny_of_held _ _ _ _ h))
end
end Go.Proofs.YtbeniihbejakaaaDoor
/-
  The law BitsDown, over any program's sets.
-/
namespace Go.Proofs.YtbeniihbejakaaaDoor
open Go.RowKit
attribute [local go_sem] Oper.semAt_some
set_option maxRecDepth 100000
set_option maxHeartbeats 16000000
variable {G : World → Prop}
theorem u32_mod {a : Int} (h0 : 0 ≤ a) (h1 : a < 4294967296) : ∃ x : Nat, x ≤ 70000 ∧ a.tmod 70001 = (x : Int) ∧ a % 70001 = (x : Int) ∧ IntKind.u32.wrap (x : Int) = (x : Int) ∧ IntKind.i64.wrap (x : Int) = (x : Int) := by
  refine ⟨(a % 70001).toNat, by omega, by rw [Int.tmod_eq_emod_of_nonneg h0]; omega, by omega, ?_, IntWalk.i64_in _ ⟨by omega, by omega⟩⟩
  simp [IntKind.wrap, IntKind.signed, IntKind.bits]; omega
def cntB (x : Int) (l : List Int) : Nat := l.countP fun n => decide (x ≤ n)
theorem cntB_snoc (x : Int) (l : List Int) (n : Int) : cntB x (l ++ [n]) = cntB x l + if x ≤ n then 1 else 0 := by
  unfold cntB
  rw [List.countP_append]
  by_cases h : x ≤ n <;> simp [h]
theorem cntB_le (x : Int) (l : List Int) : cntB x l ≤ l.length := List.countP_le_length
theorem cntB_down (S : List Int) {x : Int} (hx : 0 ≤ x) : (downB S x).length = cntB x S := by
  rw [downB_count S hx, cntB, List.countP_eq_length_filter]
theorem small65 {c : Nat} (h : c ≤ 65536) : -9223372036854775808 ≤ (c : Int) + 1 ∧ (c : Int) + 1 ≤ 9223372036854775807 := ⟨by omega, by omega⟩
theorem small65w {c : Nat} (h : c ≤ 65536) : wrap64 ((c : Int) + 1) = (c : Int) + 1 := by unfold wrap64; omega
theorem i64_wrapped (z : Int) : I64 (IntKind.i64.wrap z) := by
  simp [I64, IntKind.wrap, IntKind.signed, IntKind.bits]; omega
theorem BitsDown_any (R : BtProg G) (w : World) (hG : G w) {v : Value} {l : List Int} (hI : rkZ.In w.heap.size w v l) (ma mb : Int) (ha0 : 0 ≤ ma) (ha1 : ma < 4294967296) (hb0 : 0 ≤ mb) (hb1 : mb < 4294967296) :
    Calls Tryd.prog 7 #[v, .int .u32 ma, .int .u32 mb] w fun e w' => e = .returned (.bool true) ∧ Keeps [] w w' := by
  obtain ⟨al, cl, rfl, hcl, hml, -⟩ := id hI
  have HGL := Lib.hid (fun w' (h : Keeps [] w w') => R.keepG hG h)
  have HIL := Lib.hid hI
  have hRB := heap_alloc_new w (.cells #[.bool false] 4)
  have hRK : Keeps [] w (w.alloc (.cells #[.bool false] 4)) := (Keeps.refl _ _).alloc _
  clear hI
  generalize hnn : l.length = nl at *
  have HNL := Lib.hid hnn
  clear hnn hG
  by_cases hl : nl ≤ 200
  case neg =>
    have HRB := Lib.hid hRB; have HRK := Lib.hid hRK
    clear hRB hRK
    have hl1 : (200 : Int) < (nl : Int) := by omega
    go_enter Tryd.func7, Tryd.ntmps7
    go_wp2_with fail
    refine (awake15_any R _ (HGL.out _ HRK.out)).mono ?_
    rintro e w1 ⟨rfl, hk⟩
    have hb := hk.heap HRB.out (by simp)
    have c0 := cell_of_one hb; have f0 := free_of_one hb
    have HB := Lib.hid hb; have HK1 := Lib.hid (HRK.out.trans hk (FSub.refl _ _))
    clear hb hk
    go_wp2_with fail
    try simp only [Exit.inBlock, Exit.then]
    have hb2 : (w1.setCell ⟨w.heap.size, 0, none⟩ (.bool true)).heap[w.heap.size]? = some (.cells #[.bool true] 4 (0, 0)) := one_setCell HB.out
    have hc5 := cell_of_one hb2
    have hks : Keeps [] w (w1.setCell ⟨w.heap.size, 0, none⟩ (.bool true)) := HK1.out.setCell _ _ (.inr (Nat.le_refl _))
    refine bodyPost_ret (v := .bool true) ?_ rfl ⟨rfl, hks⟩
    simp [results, Tryd.f7, go_sem, hc5]
  obtain ⟨x, hx7, hxt, hxm, hxw, hxi⟩ := u32_mod ha0 ha1
  obtain ⟨y, hy7, hyt, hym, hyw, hyi⟩ := u32_mod hb0 hb1
  obtain ⟨X0, hX0⟩ : ∃ X0, X0 = w.alloc (.cells #[.bool false] 4) := ⟨_, rfl⟩
  rw [← hX0] at hRB hRK
  have hX0s : X0.heap.size = w.heap.size + 1 := by rw [hX0, World.size_alloc]
  have hb1' := heap_alloc_new X0 (.cells #[.int .i64 (x : Int)] 3)
  obtain ⟨X, hX⟩ : ∃ X, X = X0.alloc (.cells #[.int .i64 (x : Int)] 3) := ⟨_, rfl⟩
  rw [← hX, hX0s] at hb1'
  have hk1' : Keeps [] X0 X := by rw [hX]; exact (Keeps.refl _ _).alloc _
  have HK := Lib.hid (hRK.trans hk1' (FSub.refl _ _)); have HBR := Lib.hid (hk1'.heap hRB (by simp)); have HB7 := Lib.hid hb1'
  have HXS := Lib.hid (show X.heap.size = w.heap.size + 2 from by rw [hX, World.size_alloc, hX0s])
  clear hRB hRK hb1' hk1' hX0s
  have HHX := Lib.hid (show X = (w.alloc (.cells #[.bool false] 4)).alloc (.cells #[.int .i64 (x : Int)] 3) from by rw [hX, hX0])
  clear hX hX0 X0
  refine (callsIn_wide (n := 12)).1 ?_
  refine callsIn_of_wp_marks Tryd.func7 rfl trivial ?_ rfl
  simp only [Tryd.ntmps7, List.size_toArray, List.length_cons, List.length_nil, Nat.reduceAdd, Nat.reduceSub, Array.replicate_succ, Array.replicate_zero, List.push_toArray, List.append_toArray, List.nil_append, List.cons_append]
  refine wpIn_wide.2 ?_
  go_wp2_with fail
  rw [← HHX.out]
  clear HHX
  obtain ⟨gR, hgR⟩ : ∃ g, g = w.heap.size := ⟨_, rfl⟩
  obtain ⟨g7, hg7⟩ : ∃ g, g = w.heap.size + 1 := ⟨_, rfl⟩
  rw [← hg7] at HB7 ⊢
  rw [← hgR] at HBR ⊢
  have HRW := Lib.hid hgR; have H7W := Lib.hid hg7
  clear hgR hg7
  refine (R.of X _ l (HGL.out _ HK.out) ((HIL.out.new HK.out (Nat.le_refl _)).more HK.out.size) (by rw [HNL.out]; omega)).mono ?_
  rintro e W2 ⟨st, rfl, hat, hk, hfo⟩
  replace HK := Lib.hid (HK.out.trans hk (FSub.refl _ _)); replace HBR := Lib.hid (hk.heap HBR.out (by simp)); replace HB7 := Lib.hid (hk.heap HB7.out (by simp))
  have HW2S := Lib.hid (show w.heap.size + 2 ≤ W2.heap.size from by rw [← HXS.out]; exact hk.size)
  obtain ⟨A9, rfl, hok⟩ := R.cells hat
  have HO9 := Lib.hid hok
  have HFX := Lib.hid (show ∀ q ∈ R.foot (.agg A9.toArray), w.heap.size + 2 ≤ q from fun q hq => by rw [← HXS.out]; exact hfo q hq)
  clear hfo
  obtain ⟨S, hS⟩ : ∃ S, S = ofB l := ⟨_, rfl⟩
  rw [← hS] at hat
  have H9 := Lib.hid hat
  have HSB := Lib.hid (R.in_ hat)
  clear hat hok hk hS HXS X
  have HNC := Lib.hid (show (W2.alloc (.cells btZA 27)).heap[W2.heap.size]? = some (.cells btZ.toArray 27 (0, 0)) from heap_alloc_new W2 _)
  have HNK := Lib.hid (show Keeps [] W2 (W2.alloc (.cells btZA 27)) from (Keeps.refl _ _).alloc _)
  go_wp2_with ((with_reducible refine wpList_putBt (g := W2.heap.size) (old := btZ) (A := A9) HO9.out btZ_ok ?_ ?_ HNC.out ?_); exact rfl; exact rfl)
  intro V hW hk2
  have hk := HNK.out.trans' hk2 (Nat.le_refl _)
  replace HK := Lib.hid (HK.out.trans hk (FSub.refl _ _)); replace HBR := Lib.hid (hk.heap HBR.out (by simp)); replace HB7 := Lib.hid (hk.heap HB7.out (by simp)); replace H9 := Lib.hid (R.new H9.out hk)
  have HB9 := Lib.hid hW
  obtain ⟨g9, hg9⟩ : ∃ g, g = W2.heap.size := ⟨_, rfl⟩
  rw [← hg9] at HB9 HW2S ⊢
  have HNE9 := Lib.hid (show g9 ≠ gR from by rw [HRW.out]; have := HW2S.out; omega); have HNE7 := Lib.hid (show g7 ≠ gR from by rw [HRW.out, H7W.out]; omega)
  have HV9 := Lib.hid (show g9 < V.heap.size from lt_of_block HB9.out)
  clear hW hk2 HNC HNK hk hg9
  have hxy : IntKind.i64.wrap ((x : Int) + (y : Int)) = (x : Int) + (y : Int) := IntWalk.i64_in _ ⟨by omega, by omega⟩
  have HIX := Lib.hid (show I64 (x : Int) from ⟨by omega, by omega⟩); have HIY := Lib.hid (show I64 (y : Int) from ⟨by omega, by omega⟩); have HIXY := Lib.hid (show I64 ((x : Int) + (y : Int)) from ⟨by omega, by omega⟩)
  obtain ⟨kD, hkD⟩ : ∃ k, k = bs (keyB (downB S ((x : Int) + (y : Int)))) := ⟨_, rfl⟩
  have HKD2 := Lib.hid (show bs (keyB (downB S ((x : Int) + (y : Int)))) = kD from hkD.symm)
  have HKD1 := Lib.hid (show bs (keyB (downB (downB S (x : Int)) (y : Int))) = kD from by rw [downB_down HSB.out (by omega) (by omega), hkD])
  clear hkD
  go_wp2_with fail
  obtain ⟨S0, hS0⟩ : ∃ S0 : World → Prop, S0 = fun y => Keeps [gR] V y := ⟨_, rfl⟩
  have HSE := Lib.hid hS0
  have hSD : S0 V.drew := by rw [hS0]; exact (Keeps.refl _ _).drew
  have HC9 := Lib.hid (fun (w' : World) (hh : S0 w') => show w'.rangeAt g9 0 A9 from by rw [hS0] at hh; exact block_range (hh.heap HB9.out (by simpa using HNE9.out)))
  have HX7 := Lib.hid (fun (w' : World) (hh : S0 w') => show w'.cell? ⟨g7, 0, none⟩ = some _ from by rw [hS0] at hh; exact cell_of_one (hh.heap HB7.out (by simpa using HNE7.out)))
  clear hS0
  refine wp_region_noPanic ?_
  refine wp_region_held_drew (S := S0) (by kernel_rfl) hSD (fun hHeld => ?_)
  have HY := Lib.hid ((Keeps.refl [] V).drew)
  generalize V.drew = YC at *
  refine tk 0 (y := by exact skB.yields HO9.out rfl _ rfl g9 0 rfl HC9.out) (h := ?_)
  refine tk 1 (y := by exact Or.inl ⟨by rfl, by intro w hSw; have q0 := HX7.out w hSw; go_simp; try with_reducible rfl⟩) (h := ?_)
  refine tw 3 (h := ?_)
  refine tk 6 (y := by exact skB.yields HO9.out rfl _ rfl g9 0 rfl HC9.out) (h := ?_)
  refine tk 7 (y := by exact Or.inl ⟨by rfl, by intro w hSw; have q0 := HX7.out w hSw; go_simp; try with_reducible rfl⟩) (h := ?_)
  refine tw 8 (h := ?_)
  refine tw 9 (h := ?_)
  refine rp 2 (h := fun K hK => ?_)
  refine wp_call9 21 _ _ rfl [.agg A9.toArray, .int .i64 (x : Int)] rfl Tryd.func21 (by kernel_rfl) (by kernel_rfl) ((R.down _ _ _ (x : Int) (HGL.out _ (HK.out.trans HY.out (FSub.refl _ _))) (R.new H9.out HY.out) HIX.out).mono ?_)
  rintro e YC ⟨stq, rfl, hat, hk, -⟩
  refine ⟨_, rfl, ?_⟩
  have HQ := Lib.hid hat
  clear hat
  replace HY := Lib.hid (HY.out.trans hk (FSub.refl _ _))
  clear hk
  refine hK.out _ _ (by rw [HSE.out]; exact HY.out.more (by simp)) (fun hHeld => ?_); clear hK K; try simp only [Act.put, lsA, lsZ, lsS]
  refine rp 4 (h := fun K hK => ?_)
  refine wp_call9 21 _ _ rfl [stq, .int .i64 (y : Int)] rfl Tryd.func21 (by kernel_rfl) (by kernel_rfl) ((R.down _ _ _ (y : Int) (HGL.out _ (HK.out.trans HY.out (FSub.refl _ _))) HQ.out HIY.out).mono ?_)
  rintro e YC ⟨stq, rfl, hat, hk, -⟩
  refine ⟨_, rfl, ?_⟩
  have HQ := Lib.hid hat
  clear hat
  replace HY := Lib.hid (HY.out.trans hk (FSub.refl _ _))
  clear hk
  refine hK.out _ _ (by rw [HSE.out]; exact HY.out.more (by simp)) (fun hHeld => ?_); clear hK K; try simp only [Act.put, lsA, lsZ, lsS]
  refine rp 5 (h := fun K hK => ?_)
  refine wp_call9 15 _ _ rfl [stq] rfl Tryd.func15 (by kernel_rfl) (by kernel_rfl) ((R.key _ _ _ (HGL.out _ (HK.out.trans HY.out (FSub.refl _ _))) HQ.out).mono ?_)
  rintro e YC ⟨rfl, hk⟩
  rw [HKD1.out]
  clear HQ
  refine ⟨_, rfl, ?_⟩
  replace HY := Lib.hid (HY.out.trans hk (FSub.refl _ _))
  clear hk
  refine hK.out _ _ (by rw [HSE.out]; exact HY.out.more (by simp)) (fun hHeld => ?_); clear hK K; try simp only [Act.put, lsA, lsZ, lsS]
  refine rp 10 (h := fun K hK => ?_)
  refine wp_call9 21 _ _ rfl [.agg A9.toArray, .int .i64 ((x : Int) + (y : Int))] rfl Tryd.func21 (by kernel_rfl) (by kernel_rfl) ((R.down _ _ _ ((x : Int) + (y : Int)) (HGL.out _ (HK.out.trans HY.out (FSub.refl _ _))) (R.new H9.out HY.out) HIXY.out).mono ?_)
  rintro e YC ⟨stq, rfl, hat, hk, -⟩
  refine ⟨_, rfl, ?_⟩
  have HQ := Lib.hid hat
  clear hat
  replace HY := Lib.hid (HY.out.trans hk (FSub.refl _ _))
  clear hk
  refine hK.out _ _ (by rw [HSE.out]; exact HY.out.more (by simp)) (fun hHeld => ?_); clear hK K; try simp only [Act.put, lsA, lsZ, lsS]
  refine rp 11 (h := fun K hK => ?_)
  refine wp_call9 15 _ _ rfl [stq] rfl Tryd.func15 (by kernel_rfl) (by kernel_rfl) ((R.key _ _ _ (HGL.out _ (HK.out.trans HY.out (FSub.refl _ _))) HQ.out).mono ?_)
  rintro e YC ⟨rfl, hk⟩
  rw [HKD2.out]
  clear HQ
  refine ⟨_, rfl, ?_⟩
  replace HY := Lib.hid (HY.out.trans hk (FSub.refl _ _))
  clear hk
  refine hK.out _ _ (by rw [HSE.out]; exact HY.out.more (by simp)) (fun hHeld => ?_); clear hK K; try simp only [Act.put, lsA, lsZ, lsS]
  refine tw 12 (h := ?_)
  refine wpAnyH_done (by kernel_rfl) ?_ _
  refine NoPanic.normal ?_
  have hk := HY.out
  replace HK := Lib.hid (HK.out.trans hk (FSub.refl _ _)); replace HBR := Lib.hid (hk.heap HBR.out (by simp)); replace HB7 := Lib.hid (hk.heap HB7.out (by simp)); replace H9 := Lib.hid (R.new H9.out hk); replace HB9 := Lib.hid (hk.heap HB9.out (by simp)); replace HV9 := Lib.hid (Nat.lt_of_lt_of_le HV9.out hk.size)
  clear hk hHeld hSD HSE HY HC9 HX7 V
  obtain ⟨V, hV⟩ : ∃ V, V = YC.alloc (.cells #[.int .i64 0] 3) := ⟨_, rfl⟩
  have hk : Keeps [] YC V := by rw [hV]; exact (Keeps.refl _ _).alloc _
  have HF10 := Lib.hid (show ∀ q ∈ R.foot (.agg A9.toArray), q < YC.heap.size from R.old H9.out)
  have hb10 : V.heap[YC.heap.size]? = some (.cells #[.int .i64 0] 3 (0, 0)) := by rw [hV]; exact heap_alloc_new YC _
  replace HK := Lib.hid (HK.out.trans hk (FSub.refl _ _)); replace HBR := Lib.hid (hk.heap HBR.out (by simp)); replace HB7 := Lib.hid (hk.heap HB7.out (by simp)); replace H9 := Lib.hid (R.new H9.out hk); replace HB9 := Lib.hid (hk.heap HB9.out (by simp))
  have HR9 := Lib.hid (block_range HB9.out)
  have HB10 := Lib.hid hb10
  obtain ⟨g10, hg10⟩ : ∃ g, g = YC.heap.size := ⟨_, rfl⟩
  rw [← hg10] at HB10 HV9 HF10
  have HVV := Lib.hid hV; have HG10 := Lib.hid hg10
  rw [hV] at HR9
  clear hk hb10 hV hg10
  go_wp2_with ((with_reducible refine wpList_loadBt (g := g9) HO9.out ?_ ?_ HR9.out ?_); exact rfl; exact rfl)
  rw [← HVV.out, ← HG10.out]
  clear HVV HG10 HR9
  refine (R.all V _ _ (HGL.out _ HK.out) H9.out).mono ?_
  rintro e y1 ⟨B, A2, rfl, hA2, hBB, hB, hk⟩
  obtain rfl : A2 = A9.toArray := by simpa using hA2.symm
  have HZ1 := Lib.hid (show g10 < B ∧ B < y1.heap.size from ⟨Nat.lt_of_lt_of_le (lt_of_block HB10.out) hBB, lt_of_block hB⟩)
  replace HK := Lib.hid (HK.out.trans hk (FSub.refl _ _)); replace HBR := Lib.hid (hk.heap HBR.out (by simp)); replace HB7 := Lib.hid (hk.heap HB7.out (by simp)); replace H9 := Lib.hid (R.new H9.out hk); replace HB9 := Lib.hid (hk.heap HB9.out (by simp)); replace HB10 := Lib.hid (hk.heap HB10.out (by simp))
  have HB := Lib.hid hB
  have HOLD := Lib.hid (show ∀ q ∈ R.foot (.agg A9.toArray), q < y1.heap.size from R.old H9.out)
  clear hA2 hBB hB hk V YC
  have HN9 := Lib.hid (show g9 ≠ g10 from by have := HV9.out; omega)
  have HN7 := Lib.hid (show g7 ≠ g10 ∧ g7 < y1.heap.size from by have h1 := HW2S.out; have h2 := HV9.out; have h3 := H7W.out; exact ⟨by omega, lt_of_block HB7.out⟩)
  have HNR := Lib.hid (show gR ≠ g10 ∧ gR < y1.heap.size from by have h1 := HW2S.out; have h2 := HV9.out; have h3 := HRW.out; exact ⟨by omega, lt_of_block HBR.out⟩)
  have HWG := Lib.hid (show w.heap.size ≤ g10 ∧ w.heap.size ≤ gR from by have h1 := HW2S.out; have h2 := HV9.out; have h3 := HRW.out; exact ⟨by omega, by omega⟩)
  have HFT := Lib.hid (show ∀ q ∈ R.foot (.agg A9.toArray), q ≠ g10 ∧ q ≠ gR from fun q hq => by
    have h1 := HF10.out q hq; have h2 := HFX.out q hq; have h3 := HRW.out; exact ⟨by omega, by omega⟩)
  have hnil := fun w => nil15 w B
  go_wp2_with fail
  clear hnil
  refine (wpIn_wide (n := 12)).1 ?_
  refine wpIn_rangeFunc_ownF (F := Fence.wide) rfl (by omega) (gf := 48) (lb := #[.pointer (some ⟨B, 0, none⟩)]) rfl trivial (enters_of Tryd.func48 (by kernel_rfl) rfl)
    (encs := fun x : Int => #[.int .i64 x]) (Kp := KeC [g10, gR] y1.heap.size) (S := fun xs => xs = S) (Sp := fun pre => pre <+: S) (N := S.length) (w0 := y1)
    (R.iter 11 y1.heap.size [g10, gR] B y1 A9 S (by omega) (fun w' hk => HGL.out w' (HK.out.trans (hk.same rfl) (fun q hq => .inr (by have := HWG.out; simp at hq; omega)))) H9.out HB.out (by have h1 := HZ1.out; have h2 := HW2S.out; have h3 := HV9.out; have h4 := HRW.out; simp; omega) (lt_of_block HB.out) (Nat.le_refl _) (fun q hq => ⟨by have := HFT.out q hq; simpa using this, HOLD.out q hq⟩))
    (fun h1 h2 => h1.trans h2) (fun W l o o' hl _ _ _ => keC_b W l o o' hl) (Below.refl _ _) (fun _ => rfl)
    (fun pre Z => Z.heap[g10]? = some (.cells #[.int .i64 ((cntB (x : Int) pre : Nat) : Int)] 3 (0, 0)) ∧ Keeps [g10] y1 Z)
    (fun _ pre _ => ¬ pre <+: S) (cells_own.and (keeps_own (Nat.le_refl _))) (fun _ => pure_own _) ⟨HB10.out, Keeps.refl _ _⟩
    ?a1 ?assign ?body ?done ?stop
  case assign =>
    intro l n Z K hK
    gi_wp2
    exact hK
  case stop =>
    rintro D c pre Z hD hpre h hKD
    exact absurd hpre h
  case body =>
    rintro l pre n Z ⟨hb10, hkz⟩ hlen
    have c10 := cell_of_one hb10
    have f10 := free_of_one hb10
    have hbr := hkz.heap HBR.out (by simpa using HNR.out.1)
    have fR := free_of_one hbr
    have cR := cell_of_one hbr
    have hb7 := hkz.heap HB7.out (by simpa using HN7.out.1)
    have c7 := cell_of_one hb7
    have hcl := cntB_le (x : Int) pre
    have hS64 := HSB.out.len
    have HKZ := Lib.hid hkz; have HB10Z := Lib.hid hb10; have HBRZ := Lib.hid hbr
    have HCS := Lib.hid (cntB_snoc (x : Int) pre n)
    have HPN := Lib.hid (show n ∉ S → ¬ pre ++ [n] <+: S from fun h hp => h (hp.subset (by simp)))
    by_cases hge : (x : Int) ≤ n
    · rw [if_pos hge] at HCS
      obtain ⟨c, hc⟩ : ∃ c, c = cntB (x : Int) pre := ⟨_, rfl⟩
      rw [← hc] at c10 HB10Z HCS hcl
      have hc5 : c ≤ 65536 := Nat.le_trans hcl (Nat.le_trans (Nat.le_of_lt hlen) hS64)
      have ew : wrap64 ((c : Int) + 1) = (c : Int) + 1 := small65w hc5
      have ew2 : IntKind.i64.wrap ((c : Int) + 1) = (c : Int) + 1 := IntWalk.i64_in _ (small65 hc5)
      obtain ⟨V, hV⟩ : ∃ V, V = Z.setCell ⟨g10, 0, none⟩ (.int .i64 ((c : Int) + 1)) := ⟨_, rfl⟩
      have hkV : Keeps [g10] Z V := by rw [hV]; exact (Keeps.refl [g10] Z).setCell _ _ (.inl (by simp))
      have hb10V : V.heap[g10]? = some (.cells #[.int .i64 ((c : Int) + 1)] 3 (0, 0)) := by rw [hV]; exact one_setCell HB10Z.out
      have HKV := Lib.hid hkV; have HB10V := Lib.hid hb10V; have HVV := Lib.hid hV
      have HKYV := Lib.hid (HKZ.out.trans hkV (fun q hq => .inl hq))
      have H9V := Lib.hid (R.keep H9.out HKYV.out (fun q hq => by simpa using (HFT.out q hq).1))
      have HB9V := Lib.hid (HKYV.out.heap HB9.out (by simpa using HN9.out)); have HB7V := Lib.hid (HKYV.out.heap HB7.out (by simpa using HN7.out.1)); have HBRV := Lib.hid (HKYV.out.heap HBR.out (by simpa using HNR.out.1))
      have HKWV := Lib.hid (show Keeps [] w V from HK.out.trans HKYV.out (fun q hq => .inr (by have := HWG.out; simp at hq; omega)))
      clear hc hV hkV hb10V hb10 hkz hbr hb7
      gi_wp2
      rw [← HVV.out]
      obtain ⟨z, hz⟩ : ∃ z, z = IntKind.i64.wrap (n - (x : Int)) := ⟨_, rfl⟩
      have HIZ := Lib.hid (show I64 z from by rw [hz]; exact i64_wrapped _)
      obtain ⟨bq, hbq⟩ : ∃ q, q = decide (z ∈ downB S (x : Int)) := ⟨_, rfl⟩
      have HBQ := Lib.hid (show decide (z ∈ downB S (x : Int)) = bq from hbq.symm)
      have HBF := Lib.hid (show bq = false → n ∉ S from fun e hn => by
        have h1 := HSB.out.of hn
        have h2 : z = n - (x : Int) := by rw [hz]; exact IntWalk.i64_in _ ⟨by omega, by omega⟩
        rw [hbq, decide_eq_false_iff_not, h2] at e
        exact e (downB_has (by omega) hn hge))
      have hzz := hz.symm
      clear hz hbq
      have HNE9 := HN9; have HNE7 := Lib.hid HN7.out.1
      replace HB9 := HB9V; replace HB7 := HB7V; replace H9 := H9V; replace HK := HKWV
      clear HVV
      obtain ⟨S0, hS0⟩ : ∃ S0 : World → Prop, S0 = fun y => Keeps [g10] V y := ⟨_, rfl⟩
      have HSE := Lib.hid hS0
      have hSD : S0 V.drew := by rw [hS0]; exact (Keeps.refl _ _).drew
      have HC9 := Lib.hid (fun (w' : World) (hh : S0 w') => show w'.rangeAt g9 0 A9 from by rw [hS0] at hh; exact block_range (hh.heap HB9.out (by simpa using HNE9.out)))
      have HX7 := Lib.hid (fun (w' : World) (hh : S0 w') => show w'.cell? ⟨g7, 0, none⟩ = some _ from by rw [hS0] at hh; exact cell_of_one (hh.heap HB7.out (by simpa using HNE7.out)))
      clear hS0
      refine wpIn_region_drawn15 (S := S0) (by kernel_rfl) ?_ rfl ?_
      · rintro ⟨a, w, h⟩; exact h
      have HY := Lib.hid ((Keeps.refl [] V).drew)
      have hHeld := hSD
      have hdr : ({ V with drawn := V.drawn + 1 } : World) = V.drew := rfl
      rw [hdr]
      clear hdr
      generalize V.drew = YC at *
      refine tk 0 (y := by exact skB.yields HO9.out rfl _ rfl g9 0 rfl HC9.out) (h := ?_)
      refine tk 1 (y := by exact Or.inl ⟨by rfl, by intro w hSw; have q0 := HX7.out w hSw; go_simp; try with_reducible rfl⟩) (h := ?_)
      refine tw 3 (h := ?_)
      refine tk 4 (y := by exact Or.inl ⟨by rfl, by intro w hSw; have q0 := HX7.out w hSw; go_simp; try with_reducible rfl⟩) (h := ?_)
      refine tw 5 (h := ?_)
      refine rp 2 (h := fun K hK => ?_)
      refine wp_call9 21 _ _ rfl [.agg A9.toArray, .int .i64 (x : Int)] rfl Tryd.func21 (by kernel_rfl) (by kernel_rfl) ((R.down _ _ _ (x : Int) (HGL.out _ (HK.out.trans HY.out (FSub.refl _ _))) (R.new H9.out HY.out) HIX.out).mono ?_)
      rintro e YC ⟨stq, rfl, hat, hk, -⟩
      refine ⟨_, rfl, ?_⟩
      have HQ := Lib.hid hat
      clear hat
      replace HY := Lib.hid (HY.out.trans hk (FSub.refl _ _))
      clear hk
      refine hK.out _ _ (by rw [HSE.out]; exact HY.out.more (by simp)) (fun hHeld => ?_); clear hK K; try simp only [Act.put, lsA, lsZ, lsS]
      refine rp 6 (h := fun K hK => ?_)
      refine wp_call9 11 _ _ rfl [stq, .int .i64 z] rfl Tryd.func11 (by kernel_rfl) (by kernel_rfl) ((R.has _ _ _ z (HGL.out _ (HK.out.trans HY.out (FSub.refl _ _))) HQ.out HIZ.out).mono ?_)
      rintro e YC ⟨rfl, hk⟩
      rw [HBQ.out]
      clear HQ
      refine ⟨_, rfl, ?_⟩
      replace HY := Lib.hid (HY.out.trans hk (FSub.refl _ _))
      clear hk
      refine hK.out _ _ (by rw [HSE.out]; exact HY.out.more (by simp)) (fun hHeld => ?_); clear hK K; try simp only [Act.put, lsA, lsZ, lsS]
      refine tw 7 (h := ?_)
      refine wpAnyH_done (by kernel_rfl) ?_ _
      have HKE := Lib.hid (show Keeps [g10] Z YC from HKV.out.trans (HY.out.more (by simp)) (fun q hq => .inl hq))
      have HB10E := Lib.hid (HY.out.heap HB10V.out (by simp))
      have hbrE := HY.out.heap HBRV.out (by simp)
      have fRE := free_of_one hbrE
      have cRE := cell_of_one hbrE
      have HOTH := Lib.hid (show KeepsOthers Z YC from HKE.out.others (fun g hg o ho => by
        obtain rfl : g = g10 := by simpa using hg
        rw [HB10Z.out] at ho
        obtain rfl := Option.some.inj ho
        rfl))
      clear hHeld hSD HSE HY HC9 HX7 hbrE
      cases bq with
      | true =>
        gi_wp2
        exact ⟨HOTH.out, (HKE.out.more (G := [g10, gR]) (fun q hq => by simp at hq; simp [hq])).keC HKZ.out.size, by rw [HCS.out]; exact HB10E.out, HKZ.out.trans HKE.out (fun q hq => .inl hq)⟩
      | false =>
        gi_wp2
        exact ⟨HOTH.out.trans (KeepsOthers.setCell _ _ _), HPN.out (by first | exact HBF.out rfl | exact HBF.out trivial)⟩
    · rw [if_neg hge, Nat.add_zero] at HCS
      gi_wp2
      exact ⟨KeepsOthers.refl _, KeC.refl _ _ _, by rw [HCS.out]; exact HB10Z.out, HKZ.out⟩
  case done =>
    rintro D ys Z hD hys ⟨hb10, hkz⟩ hKD
    rw [hys] at hb10
    clear hys
    have HKZ := Lib.hid (show Keeps [] w Z from HK.out.trans hkz (fun q hq => .inr (by have := HWG.out; simp at hq; omega)))
    have HB10Z := Lib.hid hb10
    have HBRZ := Lib.hid (hkz.heap HBR.out (by simpa using HNR.out.1)); have HB7Z := Lib.hid (hkz.heap HB7.out (by simpa using HN7.out.1)); have HB9Z := Lib.hid (hkz.heap HB9.out (by simpa using HN9.out))
    have H9Z := Lib.hid (R.keep H9.out hkz (fun q hq => by simpa using (HFT.out q hq).1))
    have HKD := Lib.hid hKD; have HDL := Lib.hid (show gR < D ∧ w.heap.size ≤ D from by have h1 := HNR.out.2; have h2 := HWG.out.2; exact ⟨by omega, by omega⟩)
    clear hb10 hkz hKD hD HK HBR HB7 HB9 H9 HB10 HB HOLD
    have HR9 := Lib.hid (block_range HB9Z.out)
    have c7 := cell_of_one HB7Z.out
    go_wp2_with ((with_reducible refine wpList_loadBt (g := g9) HO9.out ?_ ?_ HR9.out ?_); exact rfl; exact rfl)
    obtain ⟨gp, hgp⟩ : ∃ g, g = gapB S (x : Int) := ⟨_, rfl⟩
    have hsp := gapB_spec HSB.out (x : Int)
    rw [if_neg (by omega), ← hgp] at hsp
    have hgpl : gp ≤ 70001 + 65536 := by
      by_cases h : gp ≤ (x : Int) + 65536
      · omega
      · exfalso
        have h1 := hsp.2.1 ((x : Int) + 65536) (by omega) (by omega)
        have := (HSB.out.of h1).2
        omega
    have HSP := Lib.hid hsp
    have hxg := hsp.1
    have HGE := Lib.hid (show gapB S (x : Int) = gp from hgp.symm)
    clear hsp hgp HR9 c7
    refine (R.gap _ _ _ (x : Int) (HGL.out _ HKZ.out) H9Z.out HIX.out).mono ?_
    rintro e W5 ⟨rfl, hk⟩
    rw [HGE.out]
    have HK := Lib.hid (HKZ.out.trans hk (FSub.refl _ _)); have HBR := Lib.hid (hk.heap HBRZ.out (by simp)); have HB7 := Lib.hid (hk.heap HB7Z.out (by simp)); have HB9 := Lib.hid (hk.heap HB9Z.out (by simp)); have HB10 := Lib.hid (hk.heap HB10Z.out (by simp)); have H9 := Lib.hid (R.new H9Z.out hk); have HKDD := Lib.hid (hk.heap HKD.out (by simp))
    clear hk HKZ HBRZ HB7Z HB9Z HB10Z H9Z HKD
    have c7 := cell_of_one HB7.out
    go_wp2_with fail
    clear c7
    go_loopw [14] (fun i wr => ∃ n : Int, i = .int .i64 n ∧ (x : Int) ≤ n ∧ n ≤ gp ∧ Keeps [] W5 wr) (fun i _ => (gp - intOf i).toNat)
    case atStart => exact ⟨(x : Int), rfl, by omega, hxg, Keeps.refl _ _⟩
    case round =>
      obtain ⟨n, rfl, hn0, hn1, hkw⟩ := hrel
      have HKR := Lib.hid (HK.out.trans hkw (FSub.refl _ _)); have HB9R := Lib.hid (hkw.heap HB9.out (by simp)); have H9R := Lib.hid (R.new H9.out hkw); have HKWR := Lib.hid hkw
      have HR9 := Lib.hid (block_range HB9R.out)
      clear hkw
      by_cases hlt : n < gp
      · have HIN := Lib.hid (show decide (n ∈ S) = true from decide_eq_true (HSP.out.2.1 n hn0 hlt))
        have HI6 := Lib.hid (show I64 n from ⟨by omega, by omega⟩)
        go_wp2_with ((with_reducible refine wpList_loadBt (g := g9) HO9.out ?_ ?_ HR9.out ?_); exact rfl; exact rfl)
        refine (R.has _ _ _ n (HGL.out _ HKR.out) H9R.out HI6.out).mono ?_
        rintro e W6 ⟨rfl, hk⟩
        rw [HIN.out]
        have HK6 := Lib.hid (HKWR.out.trans hk (FSub.refl _ _))
        clear hk HR9
        go_wp2_with fail
        go_roundw
        case rel => exact ⟨n + 1, by go_num, by omega, by omega, HK6.out⟩
        case measure => simp [intOf]; omega
      · obtain rfl : gp = n := by omega
        have HBRR := Lib.hid (HKWR.out.heap HBR.out (by simp)); have HB7R := Lib.hid (HKWR.out.heap HB7.out (by simp)); have HB10R := Lib.hid (HKWR.out.heap HB10.out (by simp)); have HKDR := Lib.hid (HKWR.out.heap HKDD.out (by simp))
        clear HK HBR HB7 HB9 HB10 H9 HKDD HKWR HR9
        go_wp2_with fail
        obtain ⟨V, hV⟩ : ∃ x, x = wr := ⟨_, rfl⟩
        subst hV
        have HK := HKR; have HB9 := HB9R; have H9 := H9R; have HBR := HBRR; have HB7 := HB7R
        obtain ⟨cc, hcc⟩ : ∃ c, c = cntB (x : Int) S := ⟨_, rfl⟩
        have hb10 := HB10R.out
        rw [← hcc] at hb10
        have HB10 := Lib.hid hb10
        have HCT := Lib.hid (show (downB S (x : Int)).length = cc from by rw [cntB_down S (by omega), hcc])
        have HNE10 := Lib.hid (show g10 ≠ gR from fun e => HNR.out.1 e.symm)
        have HIG := Lib.hid (show I64 gp from ⟨by omega, by omega⟩)
        have HNG := Lib.hid (show decide (gp ∈ S) = false from decide_eq_false HSP.out.2.2)
        have hge : decide ((x : Int) ≤ gp) = true := decide_eq_true hxg
        clear hb10 hcc hxg hn0 hn1 hlt
        obtain ⟨S0, hS0⟩ : ∃ S0 : World → Prop, S0 = fun y => Keeps [gR] V y := ⟨_, rfl⟩
        have HSE := Lib.hid hS0
        have hSD : S0 V.drew := by rw [hS0]; exact (Keeps.refl _ _).drew
        have HC9 := Lib.hid (fun (w' : World) (hh : S0 w') => show w'.rangeAt g9 0 A9 from by rw [hS0] at hh; exact block_range (hh.heap HB9.out (by simpa using HNE9.out)))
        have HX7 := Lib.hid (fun (w' : World) (hh : S0 w') => show w'.cell? ⟨g7, 0, none⟩ = some _ from by rw [hS0] at hh; exact cell_of_one (hh.heap HB7.out (by simpa using HNE7.out)))
        have HX10 := Lib.hid (fun (w' : World) (hh : S0 w') => show w'.cell? ⟨g10, 0, none⟩ = some _ from by rw [hS0] at hh; exact cell_of_one (hh.heap HB10.out (by simpa using HNE10.out)))
        clear hS0
        refine wp_region_noPanic ?_
        refine wp_region_held_drew (S := S0) (by kernel_rfl) hSD (fun hHeld => ?_)
        have HY := Lib.hid ((Keeps.refl [] V).drew)
        generalize V.drew = YC at *
        refine tk 0 (y := by exact skB.yields HO9.out rfl _ rfl g9 0 rfl HC9.out) (h := ?_)
        refine tk 1 (y := by exact Or.inl ⟨by rfl, by intro w hSw; have q0 := HX7.out w hSw; go_simp; try with_reducible rfl⟩) (h := ?_)
        refine tk 4 (y := by exact Or.inl ⟨by rfl, by intro w hSw; have q0 := HX10.out w hSw; go_simp; try with_reducible rfl⟩) (h := ?_)
        refine rp 2 (h := fun K hK => ?_)
        refine wp_call9 21 _ _ rfl [.agg A9.toArray, .int .i64 (x : Int)] rfl Tryd.func21 (by kernel_rfl) (by kernel_rfl) ((R.down _ _ _ (x : Int) (HGL.out _ (HK.out.trans HY.out (FSub.refl _ _))) (R.new H9.out HY.out) HIX.out).mono ?_)
        rintro e YC ⟨stq, rfl, hat, hk, -⟩
        refine ⟨_, rfl, ?_⟩
        have HQ := Lib.hid hat
        clear hat
        replace HY := Lib.hid (HY.out.trans hk (FSub.refl _ _))
        clear hk
        refine hK.out _ _ (by rw [HSE.out]; exact HY.out.more (by simp)) (fun hHeld => ?_); clear hK K; try simp only [Act.put, lsA, lsZ, lsS]
        refine rp 3 (h := fun K hK => ?_)
        refine wp_call9 28 _ _ rfl [stq] rfl Tryd.func28 (by kernel_rfl) (by kernel_rfl) ((R.count _ _ _ (HGL.out _ (HK.out.trans HY.out (FSub.refl _ _))) HQ.out).mono ?_)
        rintro e YC ⟨rfl, hk⟩
        rw [HCT.out]
        clear HQ
        refine ⟨_, rfl, ?_⟩
        replace HY := Lib.hid (HY.out.trans hk (FSub.refl _ _))
        clear hk
        refine hK.out _ _ (by rw [HSE.out]; exact HY.out.more (by simp)) (fun hHeld => ?_); clear hK K; try simp only [Act.put, lsA, lsZ, lsS]
        refine tw 5 (h := ?_)
        refine tw 6 (h := ?_)
        refine tw 7 (h := ?_)
        refine tk 8 (y := by exact Or.inl ⟨by rfl, by intro w hSw; have q0 := HX7.out w hSw; go_simp; try with_reducible rfl⟩) (h := ?_)
        refine tw 9 (h := ?_)
        refine tw 10 (h := ?_)
        refine tw 11 (h := ?_)
        refine tk 12 (y := by exact skB.yields HO9.out rfl _ rfl g9 0 rfl HC9.out) (h := ?_)
        refine tw 13 (h := ?_)
        refine rp 14 (h := fun K hK => ?_)
        refine wp_call9 11 _ _ rfl [.agg A9.toArray, .int .i64 gp] rfl Tryd.func11 (by kernel_rfl) (by kernel_rfl) ((R.has _ _ _ gp (HGL.out _ (HK.out.trans HY.out (FSub.refl _ _))) (R.new H9.out HY.out) HIG.out).mono ?_)
        rintro e YC ⟨rfl, hk⟩
        rw [HNG.out]
        refine ⟨_, rfl, ?_⟩
        replace HY := Lib.hid (HY.out.trans hk (FSub.refl _ _))
        clear hk
        refine hK.out _ _ (by rw [HSE.out]; exact HY.out.more (by simp)) (fun hHeld => ?_); clear hK K; try simp only [Act.put, lsA, lsZ, lsS]
        refine tw 15 (h := ?_)
        refine tw 16 (h := ?_)
        refine tw 17 (h := ?_)
        refine rp 18 (h := fun K hK => ?_)
        refine wp_call9 9 _ _ rfl [] rfl Tryd.func9 (by kernel_rfl) (by kernel_rfl) ((awake15_any R _ (HGL.out _ (HK.out.trans HY.out (FSub.refl _ _)))).mono ?_)
        rintro e YC ⟨rfl, hk⟩
        refine ⟨_, rfl, ?_⟩
        replace HY := Lib.hid (HY.out.trans hk (FSub.refl _ _))
        clear hk
        refine hK.out _ _ (by rw [HSE.out]; exact HY.out.more (by simp)) (fun hHeld => ?_); clear hK K; try simp only [Act.put, lsA, lsZ, lsS]
        refine tw 19 (h := ?_)
        refine rp 20 (h := fun K hK => ?_)
        refine wp_put15 (g := gR) (j := 0) (A := [.bool false]) rfl (by kernel_rfl) rfl rfl (HY.out.heap HBR.out (by simp)) (by simp) rfl (fun YE hV hk => ?_)
        have HVE := Lib.hid hV; have HYE := Lib.hid ((HY.out.more (G := [gR]) (by simp)).trans hk (FSub.refl _ _))
        clear hV hk
        refine hK.out _ _ (by rw [HSE.out]; exact HYE.out) (fun hHeld => ?_); clear hK K; try simp only [Act.put, lsA, lsZ, lsS]
        refine wpAnyH_done (by kernel_rfl) ?_ _
        refine NoPanic.normal ?_
        have HKF := Lib.hid (HK.out.trans HYE.out (fun q hq => .inr (by have := HWG.out; simp at hq; omega)))
        have HDF := Lib.hid (HYE.out.heap HKDR.out (by have := HDL.out; simp; omega))
        clear hHeld hSD HSE HY HYE HC9 HX7 HX10
        go_wp2_with fail
        have hc5 : (YE.putObj D (.deferred none)).cell? ⟨gR, 0, none⟩ = some (.bool true) :=
          cell_kept (cell_of_one HVE.out) (grownBy_putObj' _ D (.deferred none)) (fun r e => by cases e; exact ⟨_, HDF.out, rfl⟩)
        refine ⟨by simp, .inl ⟨_, _, rfl, run_takeDeferred HDF.out, ?_⟩⟩
        refine ⟨.bool true, ?_, rfl, HKF.out.putObj _ _ HDL.out.2⟩
        simp [results, Tryd.f7, go_sem, hc5]
end Go.Proofs.YtbeniihbejakaaaDoor
