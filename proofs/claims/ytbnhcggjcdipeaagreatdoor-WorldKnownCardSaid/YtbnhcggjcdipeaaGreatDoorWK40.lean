/-
  The law WorldKnown, over any program's worlds.
-/
import Derived.Test.YtbnhcggjcdipeaaGreatDoorWK00
import Derived.Deep.RegionHeld3
import Derived.Test.YtbnhcggjcdipeaaGreatDoorWK34
import Derived.Test.YtbnhcggjcdipeaaGreatDoorWK23
import Derived.Test.YtbnhcggjcdipeaaGreatDoorWK08
import Derived.Test.YtbnhcggjcdipeaaGreatDoorWK16
import Derived.Test.YtbnhcggjcdipeaaGreatDoorWK28
import Derived.Test.YtbnhcggjcdipeaaGreatDoorWK35
import Derived.Test.YtbnhcggjcdipeaaGreatDoorWK37
import Derived.Test.YtbnhcggjcdipeaaGreatDoorWK38
import Derived.Test.YtbnhcggjcdipeaaGreatDoorWK36
set_option linter.unusedSimpArgs false
set_option linter.unusedVariables false
namespace Go.Proofs.YtbnhcggjcdipeaaGreatDoor
open Go.RowKit
attribute [local go_sem] Oper.semAt_some
set_option maxRecDepth 100000
set_option maxHeartbeats 8000000
variable {G : World → Prop}
/-- The example's calls. -/
def exT : List Cl := [⟨0, ⟨7, 6, 3, 5, 0⟩⟩, ⟨0, ⟨7, 2, 0, 1, 0⟩⟩]
def exD : List Cl := [⟨0, ⟨8, 6, 3, 0, 0⟩⟩]
def wdG : Wd := bhW wdBB exD
theorem exT_in : ∀ y ∈ exT, y.In := fun y hy => by
  simp only [exT, List.mem_cons, List.not_mem_nil, or_false] at hy
  rcases hy with rfl | rfl
  · exact exA_in _ (by simp [exA])
  · exact exB_in _ (by simp [exB])
theorem exD_in : ∀ y ∈ exD, y.In := fun y hy => by
  simp only [exD, List.mem_cons, List.not_mem_nil, or_false] at hy; subst hy
  exact ⟨by decide, by decide, ⟨by decide, by decide, by decide, by decide, by decide, by decide, by decide, by decide, by decide, by decide⟩⟩
theorem wdBB_in : wdBB.In := bhW_in _ (bhW_in _ (wd0_in (by decide) (by decide)) exA_in) exB_in
theorem exD_li : wdG.li = [(2, .mp (kv0.set 0 (some 1)))] := by kernel_rfl
theorem exD_up : wdG.upto 3 := by
  have h := bhW_upto (W := wdBB) exD wdBB_in exD_in exB_up
  exact h
theorem ex3 : wdT wdG = [50, 61, 123, 48, 58, 49, 125] := by
  have e4 : dec 2 = [50] := dec_lit (n := 2) (by decide)
  have e5 : dec 0 = [48] := dec_lit (n := 0) (by decide)
  have e6 : dec 1 = [49] := dec_lit (n := 1) (by decide)
  unfold wdT
  rw [exD_li, if_neg (by simp)]
  show dec 2 ++ 61 :: (123 :: ((dec 0 ++ 58 :: dec 1) ++ [125])) = _
  rw [e4, e5, e6]
  rfl
theorem torn1 : wdDec 2 [6, 0, 3, 8, 0] = (none, 5) := by kernel_rfl
theorem torn2 : wdDec 2 [8, 0, 0] = (none, 4) := by kernel_rfl
theorem torn3 : wdDec 2 [6, 0, 0] = (none, 4) := by kernel_rfl
theorem torn4 : wdDec 2 [6, 0] = (none, 5) := by kernel_rfl
theorem torn5 : wdDec 2 [2, 0, 3, 1, 0, 1, 2, 0, 3, 1, 0, 1] = (none, 4) := by kernel_rfl
theorem oX1 : oWX (some (wd0 2)) 0 ⟨1, 0, 0, 0, 0⟩ = (some (wd0 2), ⟨0, 0⟩, 10) := by kernel_rfl
theorem oX2 : oWX (some (wd0 2)) 0 ⟨7, 8, 0, 1, 0⟩ = (some (wd0 2), ⟨0, 0⟩, 10) := by kernel_rfl
theorem oX3 : oWX (some (wd0 2)) 16 ⟨7, 0, 0, 1, 0⟩ = (some (wd0 2), ⟨0, 0⟩, 2) := by kernel_rfl
theorem oX4 : oWX none 0 ⟨7, 0, 0, 1, 0⟩ = (none, ⟨0, 0⟩, 1) := rfl
theorem fit1 : decide ((oWX (some wdBB) 0 ⟨6, 2, 0, 0, 0⟩).2.2 = 0 ∧ (oWX (some wdBB) 0 ⟨6, 2, 0, 0, 0⟩).2.1 = ⟨2, 0⟩) = false := by kernel_rfl
theorem fit2 : decide ((oWX (some wdBB) 0 ⟨6, 2, 0, 0, 0⟩).2.2 = 0 ∧ (oWX (some wdBB) 0 ⟨6, 2, 0, 0, 0⟩).2.1 = ⟨1, 1⟩) = true := by kernel_rfl
theorem opS (f o k v c : Int) (h : (0 ≤ f ∧ f < 256) ∧ (0 ≤ o ∧ o < 256) ∧ (0 ≤ k ∧ k < 256) ∧ (0 ≤ v ∧ v < 65536) := by decide) : (⟨f, o, k, v, 0⟩ : Opn).In := ⟨h.1.1, h.1.2, h.2.1.1, h.2.1.2, h.2.2.1.1, h.2.2.1.2, h.2.2.2.1, h.2.2.2.2, (by decide : (0 : Int) ≤ 0), (by decide : (0 : Int) < 65536)⟩
section
variable {ops : Array Oper} {S : World → Prop} {o : Oper} {a : Act}
theorem fldC14 (y : Cl) (w : World) : (Instr.field 49 (.agg (clC y).toArray) 1).run Tryz.prog w = .ok y.x.val w :=
  (run_field Tryz.underlying49 rfl w).trans ((run_partN (n := 5) (k := 1) (cs := (clC y).toArray) Tryz.underlying47 rfl (by kernel_rfl) w).trans (by rfl))
theorem yields_field14 (hw : Region.wanted o (yielded ops a.tmps) = true) (x : Operand) (ho : o.op = .field 49 x 1) {y : Cl} (hx : a.eval x = .agg (clC y).toArray) : YieldsIf Tryz.prog ops S o y.x.val a :=
  Or.inl ⟨hw, by
    intro w _
    unfold execOp
    have h := fldC14 y w
    simp only [ho, hx, Sem.run_bind]
    simp [h, Result.andThen]⟩
end
section
variable {ops : Array Oper} {rest : List Oper} {a : Act} {w : World} {Q : Exit → Act → World → Prop}
theorem wpList_buildC14 {dst : Option Tmp} {ty : TypeId} {pos : String} {after : Array Edge} {y : Operand} {x : Cl} (hy : a.eval y = .agg (clC x).toArray)
    (h : ∀ W, W.heap.size = w.heap.size + 1 → Keeps [] w W → rkC14.In W.heap.size W (.slice (some ⟨w.heap.size, 0, none⟩) 1 1) [x] → wpList Tryz.prog ops Q rest (a.put dst (.slice (some ⟨w.heap.size, 0, none⟩) 1 1)) W) :
    wpList Tryz.prog ops Q ({ dst := dst, op := .buildSlice 22 1 #[(0, y)], type := ty, pos := pos, after := after, guard := none } :: rest) a w :=
  wpList_plain rfl fun _ hK => rkC14.wp_build1 y rfl hy (by show (6 : Nat) ≤ 10000; decide) (hK _ _ (h _ (Array.size_push _) ((Keeps.refl [] w).alloc _) (RK.lit_in rkC14 (N := _) (L := [x]) (heap_alloc_new w _) (by rw [show (w.alloc _).heap.size = w.heap.size + 1 from Array.size_push _]; omega) (by simp))))
end
theorem nil_neq (w : World) (B : Nat) : (binOp .neq 73 (.func (.func 50) #[] #[.pointer (some ⟨B, 0, none⟩)]) .nilFunc).run Tryz.prog w = .ok (.bool true) w := by
  first
    | kernel_rfl
    | rfl
    | simp [binOp, go_sem]
theorem mark14 (w : World) {p D : Nat} (hp : w.heap[p]? = some (.cells #[.bool false] 4 (0, 0))) (hD : w.heap[D]? = some (.deferred (some []))) :
    ((w.setCell ⟨p, 0, none⟩ (.bool true)).heap[D]? = some (.deferred (some []))) ∧ ((w.setCell ⟨p, 0, none⟩ (.bool true)).putObj D (.deferred none)).cell? ⟨p, 0, none⟩ = some (.bool true) := by
  have hK' : (w.setCell ⟨p, 0, none⟩ (.bool true)).heap[D]? = some (.deferred (some [])) := (KeepsOthers.setCell w ⟨p, 0, none⟩ (.bool true)).same D _ hD rfl
  exact ⟨hK', cell_kept (cell_of_one (one_setCell hp)) (grownBy_putObj' _ D (.deferred none)) (fun r e => by cases e; exact ⟨_, hK', rfl⟩)⟩
theorem WorldKnown_any {R : MdProg G} (V : WdProg R) (w : World) (hG : G w) : Calls Tryz.prog 8 #[] w fun e w' => e = .returned (.bool true) ∧ Keeps [] w w' := by
  have HGL := Lib.hid (fun w' (h : Keeps [] w w') => R.keepG hG h)
  obtain ⟨X, hX⟩ : ∃ X, X = w.alloc (.cells #[.bool false] 4) := ⟨_, rfl⟩
  have H0 := Lib.hid (show X.heap[w.heap.size]? = some (.cells #[.bool false] 4 (0, 0)) from by rw [hX]; exact heap_alloc_new w _)
  have HK := Lib.hid (show Keeps [] w X from by rw [hX]; exact (Keeps.refl _ _).alloc _)
  have HX := Lib.hid hX.symm
  have HN := Lib.hid (V.new X 2 (HGL.out _ HK.out) ⟨by decide, by decide⟩)
  rw [if_pos (by decide), show oWNew 2 = some (wd0 2) from rfl] at HN
  have HU2 := Lib.hid (show wUp (some (wd0 2)) 1000 from fun W' e => by obtain rfl := Option.some.inj e; exact wd0_upto 2 1000)
  have HU0 := Lib.hid (show wUp none 1000 from fun W' e => by cases e)
  clear hG hX
  refine (callsIn_wide (n := 12)).1 ?_
  refine callsIn_of_wp_marks Tryz.func8 rfl trivial ?_ rfl
  simp only [Tryz.ntmps8, List.size_toArray, List.length_cons, List.length_nil, Nat.reduceAdd, Nat.reduceSub, Array.replicate_succ, Array.replicate_zero, List.push_toArray, List.append_toArray, List.nil_append, List.cons_append]
  refine wpIn_wide.2 ?_
  go_wp2_with fail
  rw [HX.out]
  refine HN.out.mono ?_; rintro e w1 ⟨st, rfl, hat, hk, -⟩
  clear HN HX
  replace HK := Lib.hid (HK.out.trans hk (FSub.refl _ _))
  replace H0 := Lib.hid (hk.heap H0.out (by simp))
  try replace H1 := Lib.hid (H1.out.new hk)
  try replace HB1 := Lib.hid (hk.heap HB1.out (by simp))
  try replace H3 := Lib.hid (H3.out.new hk)
  try replace HB3 := Lib.hid (hk.heap HB3.out (by simp))
  try replace H4 := Lib.hid (H4.out.new hk)
  try replace HB4 := Lib.hid (hk.heap HB4.out (by simp))
  try replace HBZ := Lib.hid (hk.heap HBZ.out (by simp))
  try replace HKD := Lib.hid (hk.heap HKD.out (by simp))
  obtain ⟨A1, rfl, hok⟩ := hat.cells
  have HO1 := Lib.hid hok
  have H1 := Lib.hid hat
  clear hat hok hk
  have HNC := Lib.hid (show (w1.alloc (.cells wdZA 33)).heap[w1.heap.size]? = some (.cells wdZ.toArray 33 (0, 0)) from heap_alloc_new w1 _)
  have HNK := Lib.hid (show Keeps [] w1 (w1.alloc (.cells wdZA 33)) from (Keeps.refl _ _).alloc _)
  go_wp2_with ((with_reducible refine wpList_putW (g := w1.heap.size) (old := wdZ) (A := A1) HO1.out wdZ_ok ?_ ?_ HNC.out ?_); exact rfl; exact rfl)
  intro V0 hW hk2
  have hk := HNK.out.trans' hk2 (Nat.le_refl _)
  replace HK := Lib.hid (HK.out.trans hk (FSub.refl _ _))
  replace H0 := Lib.hid (hk.heap H0.out (by simp))
  try replace H1 := Lib.hid (H1.out.new hk)
  try replace HB1 := Lib.hid (hk.heap HB1.out (by simp))
  try replace H3 := Lib.hid (H3.out.new hk)
  try replace HB3 := Lib.hid (hk.heap HB3.out (by simp))
  try replace H4 := Lib.hid (H4.out.new hk)
  try replace HB4 := Lib.hid (hk.heap HB4.out (by simp))
  try replace HBZ := Lib.hid (hk.heap HBZ.out (by simp))
  try replace HKD := Lib.hid (hk.heap HKD.out (by simp))
  have HB1 := Lib.hid hW
  clear hk hW hk2 HNC HNK
  generalize w1.heap.size = p1 at *
  go_wp2_with fail
  refine wp_join13 (fun qa qb zv us a => ((((((a.put (some 33) (us.getD 0 undef)).put (some 34) (us.getD 1 undef)).put (some 35) (us.getD 2 undef)).put (some 36) (us.getD 3 undef)).put (some 37) (us.getD 4 undef)).put (some 3) (.pointer (some ⟨qa, 0, none⟩)))) (fun qa _ zv w' => Fin1 (kpW R (some wdBB)) 33 (ApW R A1) V0 qa zv w') ?_ ?_
  · have HGV := Lib.hid (fun w' (h : Keeps [] V0 w') => HGL.out w' (HK.out.trans h (FSub.refl _ _)))
    obtain ⟨S0, hS0⟩ : ∃ S0 : World → Prop, S0 = fun y => Keeps [] V0 y := ⟨_, rfl⟩
    have HSE := Lib.hid hS0
    have hSD : S0 V0.drew := by rw [hS0]; exact (Keeps.refl _ _).drew
    have HSA := Lib.hid (fun (w' : World) (hh : S0 w') => show w'.rangeAt p1 0 A1 from by rw [hS0] at hh; exact block_range (hh.heap HB1.out (by simp)))
    clear hS0
    refine wp_region_noPanic ?_
    refine wp_region_held_drew (S := S0) (by kernel_rfl) hSD (fun hHeld => ?_)
    refine tk 0 (y := by exact skW.yields HO1.out rfl _ rfl p1 0 rfl HSA.out) (h := ?_)
    have HY := Lib.hid ((Keeps.refl [] V0).drew)
    generalize V0.drew = YC at *
    iterate 5
      all_goals
        first
          | apply wpAnyH_ready (rs := [1, 5])
            · decide +kernel
            · simp
            refine acn ?_ (acn ?_ (AllReadyH.nil))
          | apply wpAnyH_ready (rs := [2, 5])
            · decide +kernel
            · simp
            refine acn ?_ (acn ?_ (AllReadyH.nil))
          | apply wpAnyH_ready (rs := [3, 5])
            · decide +kernel
            · simp
            refine acn ?_ (acn ?_ (AllReadyH.nil))
          | apply wpAnyH_ready (rs := [4, 5])
            · decide +kernel
            · simp
            refine acn ?_ (acn ?_ (AllReadyH.nil))
          | apply wpAnyH_ready (rs := [1])
            · decide +kernel
            · simp
            refine acn ?_ (AllReadyH.nil)
          | apply wpAnyH_ready (rs := [2])
            · decide +kernel
            · simp
            refine acn ?_ (AllReadyH.nil)
          | apply wpAnyH_ready (rs := [3])
            · decide +kernel
            · simp
            refine acn ?_ (AllReadyH.nil)
          | apply wpAnyH_ready (rs := [4])
            · decide +kernel
            · simp
            refine acn ?_ (AllReadyH.nil)
          | apply wpAnyH_ready (rs := [5])
            · decide +kernel
            · simp
            refine acn ?_ (AllReadyH.nil)
        all_goals
          intro K hK
          rw [if_pos (by rfl)]
          first
          | refine wp_call9 26 _ _ rfl [.int .u8 6, .int .u8 3, .int .u16 5] rfl Tryz.func26 (by kernel_rfl) (by kernel_rfl) ((put14_any _ 6 3 5).mono ?_)
            rintro e YC ⟨rfl, hk⟩
            refine ⟨_, rfl, ?_⟩
            try replace HIN := Lib.hid ((HIN.out.new hk (Nat.le_refl _)).more hk.size)
            try replace HAFT := Lib.hid (HAFT.out.new hk)
            try replace HBA := Lib.hid (hk.heap HBA.out (by simp))
            replace HY := Lib.hid (HY.out.trans hk (FSub.refl _ _))
            clear hk
            refine hK.out _ _ (by rw [HSE.out]; exact HY.out) (fun hHeld => ?_); clear hK K; try simp only [Act.put, lsA, lsZ, lsS]
          | refine wp_call9 26 _ _ rfl [.int .u8 2, .int .u8 0, .int .u16 1] rfl Tryz.func26 (by kernel_rfl) (by kernel_rfl) ((put14_any _ 2 0 1).mono ?_)
            rintro e YC ⟨rfl, hk⟩
            refine ⟨_, rfl, ?_⟩
            try replace HIN := Lib.hid ((HIN.out.new hk (Nat.le_refl _)).more hk.size)
            try replace HAFT := Lib.hid (HAFT.out.new hk)
            try replace HBA := Lib.hid (hk.heap HBA.out (by simp))
            replace HY := Lib.hid (HY.out.trans hk (FSub.refl _ _))
            clear hk
            refine hK.out _ _ (by rw [HSE.out]; exact HY.out) (fun hHeld => ?_); clear hK K; try simp only [Act.put, lsA, lsZ, lsS]
          | refine rkC14.wp_buildL _ exT rfl (by rw [Array.toList_map]; rfl) (by decide) (by decide) ?_
            have hk : Keeps [] YC (YC.alloc (.cells (rkC14.row exT).toArray 49)) := (Keeps.refl _ _).alloc _
            have hin := RK.lit_in rkC14 (N := YC.heap.size + 1) (L := exT) (heap_alloc_new YC (.cells (rkC14.row exT).toArray 49)) (Nat.lt_succ_self _) (by decide)
            have hsz : (YC.alloc (.cells (rkC14.row exT).toArray 49)).heap.size = YC.heap.size + 1 := Array.size_push _
            rw [← hsz] at hin
            try replace HIN := Lib.hid ((HIN.out.new hk (Nat.le_refl _)).more hk.size)
            try replace HAFT := Lib.hid (HAFT.out.new hk)
            try replace HBA := Lib.hid (hk.heap HBA.out (by simp))
            replace HY := Lib.hid (HY.out.trans hk (FSub.refl _ _))
            have HIN := Lib.hid hin
            clear hk hin hsz
            show K _ (YC.alloc (.cells (rkC14.row exT).toArray 49))
            generalize YC.heap.size = gs at *
            generalize YC.alloc (.cells (rkC14.row exT).toArray 49) = YC at *
            refine hK.out _ _ (by rw [HSE.out]; exact HY.out) (fun hHeld => ?_); clear hK K; try simp only [Act.put, lsA, lsZ, lsS]
          | refine wp_call9 23 _ _ rfl [.agg A1.toArray, .slice (some ⟨gs, 0, none⟩) 2 2] rfl Tryz.func23 (by kernel_rfl) (by kernel_rfl) ((after14_any V YC (W0 := wd0 2) (K := 0) (HGV.out _ HY.out) (H1.out.new HY.out) (wd0_upto 2 0) exT_in HIN.out (by decide)).mono ?_)
            rintro e YC ⟨x1, rfl, haf, hk, hfo⟩
            refine ⟨_, rfl, ?_⟩
            try have HFA := Lib.hid (show ∀ q ∈ wFoot R (.agg x1.toArray), q ≠ ga from fun q hq => by
              rcases hfo q hq with h | h
              · have h1 := H1.out.old q h; have h2 := HGA.out; omega
              · have := lt_of_block HBA.out; omega)
            have HFN := Lib.hid (show ∀ p : Nat → Prop, ApW R A1 p → (∀ q, V0.heap.size ≤ q → p q) → ApW R x1 p from fun p h1 h2 q hq => (hfo q hq).elim (h1 q) (fun h => h2 q (Nat.le_trans HY.out.size h)))
            try replace HIN := Lib.hid ((HIN.out.new hk (Nat.le_refl _)).more hk.size)
            try replace HAFT := Lib.hid (HAFT.out.new hk)
            try replace HBA := Lib.hid (hk.heap HBA.out (by simp))
            replace HY := Lib.hid (HY.out.trans hk (FSub.refl _ _))
            have HAFT := Lib.hid haf
            clear haf hk hfo
            refine hK.out _ _ (by rw [HSE.out]; exact HY.out) (fun hHeld => ?_); clear hK K; try simp only [Act.put, lsA, lsZ, lsS]
          | refine wp_allocW14 rfl ?_
            have hb := heap_alloc_new YC (.cells wdZ.toArray 33)
            have hk : Keeps [] YC (YC.alloc (.cells wdZ.toArray 33)) := (Keeps.refl _ _).alloc _
            have HGA := Lib.hid HY.out.size
            try have HFA := Lib.hid (fun q hq => Nat.ne_of_lt (HAFT.out.old q hq))
            try replace HIN := Lib.hid ((HIN.out.new hk (Nat.le_refl _)).more hk.size)
            try replace HAFT := Lib.hid (HAFT.out.new hk)
            try replace HBA := Lib.hid (hk.heap HBA.out (by simp))
            replace HY := Lib.hid (HY.out.trans hk (FSub.refl _ _))
            have HBA := Lib.hid hb
            clear hk hb
            generalize YC.heap.size = ga at *
            generalize YC.alloc (.cells wdZ.toArray 33) = YC at *
            refine hK.out _ _ (by rw [HSE.out]; exact HY.out) (fun hHeld => ?_); clear hK K; try simp only [Act.put, lsA, lsZ, lsS]
    all_goals
      refine rp 6 (h := fun K hK => ?_)
      refine skW.wp_put rfl (g := ga) (old := wdZ) (A := x1) (kpW_ok R _ x1 _ HAFT.out) wdZ_ok rfl rfl HBA.out (fun YC hV hk => ?_)
      replace HBA := Lib.hid hV
      replace HAFT := Lib.hid (HAFT.out.put hk HFA.out)
      replace HY := Lib.hid (HY.out.trans' hk HGA.out)
      clear hV hk
      refine hK.out _ _ (by rw [HSE.out]; exact HY.out) (fun hHeld => ?_); clear hK K; try simp only [Act.put, lsA, lsZ, lsS]
      refine wpAnyH_done (by kernel_rfl) ?_ _
      refine NoPanic.normal ?_
      exact ⟨rfl, ga, 0, .agg x1.toArray, [_, _, _, _, _], rfl, x1, rfl, HBA.out, HAFT.out, HY.out, HGA.out, HFN.out, HFA.out⟩
  rintro p3 - zv us V1 ⟨A3, rfl, hba, hp, hk, -, -, -⟩
  simp only [Act.put, lsA, lsZ, lsS]
  replace HK := Lib.hid (HK.out.trans hk (FSub.refl _ _))
  replace H0 := Lib.hid (hk.heap H0.out (by simp))
  try replace H1 := Lib.hid (H1.out.new hk)
  try replace HB1 := Lib.hid (hk.heap HB1.out (by simp))
  try replace H3 := Lib.hid (H3.out.new hk)
  try replace HB3 := Lib.hid (hk.heap HB3.out (by simp))
  try replace H4 := Lib.hid (H4.out.new hk)
  try replace HB4 := Lib.hid (hk.heap HB4.out (by simp))
  try replace HBZ := Lib.hid (hk.heap HBZ.out (by simp))
  try replace HKD := Lib.hid (hk.heap HKD.out (by simp))
  have HB3 := Lib.hid (show V1.heap[p3]? = some (.cells A3.toArray 33 (0, 0)) from hba)
  have H3 := Lib.hid (show WoAt R V1 (.agg A3.toArray) (some wdBB) from hp)
  have HO3 := Lib.hid (woAt_ok H3.out)
  clear hba hp hk V0
  go_wp2_with (first
    | ((with_reducible refine wpList_loadW (g := p3) HO3.out ?_ ?_ (block_range HB3.out) ?_); exact rfl; exact rfl)
    | ((with_reducible refine wpList_buildC14 (x := ⟨0, ⟨8, 6, 3, 0, 0⟩⟩) ?_ ?_); exact rfl))
  intro w2 hz hk hin
  replace HK := Lib.hid (HK.out.trans hk (FSub.refl _ _))
  replace H0 := Lib.hid (hk.heap H0.out (by simp))
  try replace H1 := Lib.hid (H1.out.new hk)
  try replace HB1 := Lib.hid (hk.heap HB1.out (by simp))
  try replace H3 := Lib.hid (H3.out.new hk)
  try replace HB3 := Lib.hid (hk.heap HB3.out (by simp))
  try replace H4 := Lib.hid (H4.out.new hk)
  try replace HB4 := Lib.hid (hk.heap HB4.out (by simp))
  try replace HBZ := Lib.hid (hk.heap HBZ.out (by simp))
  try replace HKD := Lib.hid (hk.heap HKD.out (by simp))
  have HIN := Lib.hid hin
  clear hz hk hin
  generalize V1.heap.size = gs at *
  go_wp2_with fail
  refine (after14_any V w2 (W0 := wdBB) (K := 2) (HGL.out _ HK.out) H3.out exB_up exD_in HIN.out (by decide)).mono ?_
  rintro e w3 ⟨B4, rfl, hat, hk, -⟩
  rw [show bhW wdBB exD = wdG from rfl] at hat
  obtain ⟨st, hst⟩ : ∃ st, st = Value.agg B4.toArray := ⟨_, rfl⟩
  rw [← hst] at hat ⊢
  clear hst B4
  clear HIN
  replace HK := Lib.hid (HK.out.trans hk (FSub.refl _ _))
  replace H0 := Lib.hid (hk.heap H0.out (by simp))
  try replace H1 := Lib.hid (H1.out.new hk)
  try replace HB1 := Lib.hid (hk.heap HB1.out (by simp))
  try replace H3 := Lib.hid (H3.out.new hk)
  try replace HB3 := Lib.hid (hk.heap HB3.out (by simp))
  try replace H4 := Lib.hid (H4.out.new hk)
  try replace HB4 := Lib.hid (hk.heap HB4.out (by simp))
  try replace HBZ := Lib.hid (hk.heap HBZ.out (by simp))
  try replace HKD := Lib.hid (hk.heap HKD.out (by simp))
  obtain ⟨A4, rfl, hok⟩ := hat.cells
  have HO4 := Lib.hid hok
  have H4 := Lib.hid hat
  clear hat hok hk
  have HNC := Lib.hid (show (w3.alloc (.cells wdZA 33)).heap[w3.heap.size]? = some (.cells wdZ.toArray 33 (0, 0)) from heap_alloc_new w3 _)
  have HNK := Lib.hid (show Keeps [] w3 (w3.alloc (.cells wdZA 33)) from (Keeps.refl _ _).alloc _)
  go_wp2_with ((with_reducible refine wpList_putW (g := w3.heap.size) (old := wdZ) (A := A4) HO4.out wdZ_ok ?_ ?_ HNC.out ?_); exact rfl; exact rfl)
  intro w4 hW hk2
  have hk := HNK.out.trans' hk2 (Nat.le_refl _)
  replace HK := Lib.hid (HK.out.trans hk (FSub.refl _ _))
  replace H0 := Lib.hid (hk.heap H0.out (by simp))
  try replace H1 := Lib.hid (H1.out.new hk)
  try replace HB1 := Lib.hid (hk.heap HB1.out (by simp))
  try replace H3 := Lib.hid (H3.out.new hk)
  try replace HB3 := Lib.hid (hk.heap HB3.out (by simp))
  try replace H4 := Lib.hid (H4.out.new hk)
  try replace HB4 := Lib.hid (hk.heap HB4.out (by simp))
  try replace HBZ := Lib.hid (hk.heap HBZ.out (by simp))
  try replace HKD := Lib.hid (hk.heap HKD.out (by simp))
  have HB4 := Lib.hid hW
  clear hk hW hk2 HNC HNK
  generalize w3.heap.size = p4 at *
  go_wp2_with fail
  have hTD := works14_any V w4 (HGL.out _ HK.out)
  refine hTD.mono ?_; rintro e w5 ⟨rfl, hk⟩
  clear hTD
  replace HK := Lib.hid (HK.out.trans hk (FSub.refl _ _))
  replace H0 := Lib.hid (hk.heap H0.out (by simp))
  try replace H1 := Lib.hid (H1.out.new hk)
  try replace HB1 := Lib.hid (hk.heap HB1.out (by simp))
  try replace H3 := Lib.hid (H3.out.new hk)
  try replace HB3 := Lib.hid (hk.heap HB3.out (by simp))
  try replace H4 := Lib.hid (H4.out.new hk)
  try replace HB4 := Lib.hid (hk.heap HB4.out (by simp))
  try replace HBZ := Lib.hid (hk.heap HBZ.out (by simp))
  try replace HKD := Lib.hid (hk.heap HKD.out (by simp))
  clear hk
  go_wp2_with ((with_reducible refine wpList_loadW (g := p4) HO4.out ?_ ?_ (block_range HB4.out) ?_); exact rfl; exact rfl)
  have hTD := V.text w5 _ (some wdG) (HGL.out _ HK.out) H4.out (fun W' e => by obtain rfl := Option.some.inj e; exact fun S hS => Nat.le_trans (exD_up S hS) (by decide))
  rw [show oWT (some wdG) = wdT wdG from rfl, ex3, show bs [50, 61, 123, 48, 58, 49, 125] = { data := #[50, 61, 123, 48, 58, 49, 125] } from rfl] at hTD
  refine hTD.mono ?_; rintro e w6 ⟨rfl, hk⟩
  clear hTD
  replace HK := Lib.hid (HK.out.trans hk (FSub.refl _ _))
  replace H0 := Lib.hid (hk.heap H0.out (by simp))
  try replace H1 := Lib.hid (H1.out.new hk)
  try replace HB1 := Lib.hid (hk.heap HB1.out (by simp))
  try replace H3 := Lib.hid (H3.out.new hk)
  try replace HB3 := Lib.hid (hk.heap HB3.out (by simp))
  try replace H4 := Lib.hid (H4.out.new hk)
  try replace HB4 := Lib.hid (hk.heap HB4.out (by simp))
  try replace HBZ := Lib.hid (hk.heap HBZ.out (by simp))
  try replace HKD := Lib.hid (hk.heap HKD.out (by simp))
  clear hk
  clear H4 HB4 HO4
  go_wp2_with fail
  have hTD := undecoded14_true V w6 (HGL.out _ HK.out) torn1 (by decide)
  refine hTD.mono ?_; rintro e w7 ⟨rfl, hk⟩
  clear hTD
  replace HK := Lib.hid (HK.out.trans hk (FSub.refl _ _))
  replace H0 := Lib.hid (hk.heap H0.out (by simp))
  try replace H1 := Lib.hid (H1.out.new hk)
  try replace HB1 := Lib.hid (hk.heap HB1.out (by simp))
  try replace H3 := Lib.hid (H3.out.new hk)
  try replace HB3 := Lib.hid (hk.heap HB3.out (by simp))
  try replace H4 := Lib.hid (H4.out.new hk)
  try replace HB4 := Lib.hid (hk.heap HB4.out (by simp))
  try replace HBZ := Lib.hid (hk.heap HBZ.out (by simp))
  try replace HKD := Lib.hid (hk.heap HKD.out (by simp))
  clear hk
  go_wp2_with fail
  have hTD := undecoded14_true V w7 (HGL.out _ HK.out) torn2 (by decide)
  refine hTD.mono ?_; rintro e w8 ⟨rfl, hk⟩
  clear hTD
  replace HK := Lib.hid (HK.out.trans hk (FSub.refl _ _))
  replace H0 := Lib.hid (hk.heap H0.out (by simp))
  try replace H1 := Lib.hid (H1.out.new hk)
  try replace HB1 := Lib.hid (hk.heap HB1.out (by simp))
  try replace H3 := Lib.hid (H3.out.new hk)
  try replace HB3 := Lib.hid (hk.heap HB3.out (by simp))
  try replace H4 := Lib.hid (H4.out.new hk)
  try replace HB4 := Lib.hid (hk.heap HB4.out (by simp))
  try replace HBZ := Lib.hid (hk.heap HBZ.out (by simp))
  try replace HKD := Lib.hid (hk.heap HKD.out (by simp))
  clear hk
  go_wp2_with fail
  have hTD := undecoded14_true V w8 (HGL.out _ HK.out) torn3 (by decide)
  refine hTD.mono ?_; rintro e w9 ⟨rfl, hk⟩
  clear hTD
  replace HK := Lib.hid (HK.out.trans hk (FSub.refl _ _))
  replace H0 := Lib.hid (hk.heap H0.out (by simp))
  try replace H1 := Lib.hid (H1.out.new hk)
  try replace HB1 := Lib.hid (hk.heap HB1.out (by simp))
  try replace H3 := Lib.hid (H3.out.new hk)
  try replace HB3 := Lib.hid (hk.heap HB3.out (by simp))
  try replace H4 := Lib.hid (H4.out.new hk)
  try replace HB4 := Lib.hid (hk.heap HB4.out (by simp))
  try replace HBZ := Lib.hid (hk.heap HBZ.out (by simp))
  try replace HKD := Lib.hid (hk.heap HKD.out (by simp))
  clear hk
  go_wp2_with fail
  have hTD := undecoded14_true V w9 (HGL.out _ HK.out) torn4 (by decide)
  refine hTD.mono ?_; rintro e w10 ⟨rfl, hk⟩
  clear hTD
  replace HK := Lib.hid (HK.out.trans hk (FSub.refl _ _))
  replace H0 := Lib.hid (hk.heap H0.out (by simp))
  try replace H1 := Lib.hid (H1.out.new hk)
  try replace HB1 := Lib.hid (hk.heap HB1.out (by simp))
  try replace H3 := Lib.hid (H3.out.new hk)
  try replace HB3 := Lib.hid (hk.heap HB3.out (by simp))
  try replace H4 := Lib.hid (H4.out.new hk)
  try replace HB4 := Lib.hid (hk.heap HB4.out (by simp))
  try replace HBZ := Lib.hid (hk.heap HBZ.out (by simp))
  try replace HKD := Lib.hid (hk.heap HKD.out (by simp))
  clear hk
  go_wp2_with fail
  have hTD := undecoded14_true V w10 (HGL.out _ HK.out) torn5 (by decide)
  refine hTD.mono ?_; rintro e w11 ⟨rfl, hk⟩
  clear hTD
  replace HK := Lib.hid (HK.out.trans hk (FSub.refl _ _))
  replace H0 := Lib.hid (hk.heap H0.out (by simp))
  try replace H1 := Lib.hid (H1.out.new hk)
  try replace HB1 := Lib.hid (hk.heap HB1.out (by simp))
  try replace H3 := Lib.hid (H3.out.new hk)
  try replace HB3 := Lib.hid (hk.heap HB3.out (by simp))
  try replace H4 := Lib.hid (H4.out.new hk)
  try replace HB4 := Lib.hid (hk.heap HB4.out (by simp))
  try replace HBZ := Lib.hid (hk.heap HBZ.out (by simp))
  try replace HKD := Lib.hid (hk.heap HKD.out (by simp))
  clear hk
  go_wp2_with fail
  have HN := Lib.hid (V.new w11 4 (HGL.out _ HK.out) ⟨by decide, by decide⟩)
  rw [if_neg (by decide), show oWNew 4 = none from rfl] at HN
  refine HN.out.mono ?_; rintro e w12 ⟨st5, rfl, hat, hk, -⟩
  clear HN
  replace HK := Lib.hid (HK.out.trans hk (FSub.refl _ _))
  replace H0 := Lib.hid (hk.heap H0.out (by simp))
  try replace H1 := Lib.hid (H1.out.new hk)
  try replace HB1 := Lib.hid (hk.heap HB1.out (by simp))
  try replace H3 := Lib.hid (H3.out.new hk)
  try replace HB3 := Lib.hid (hk.heap HB3.out (by simp))
  try replace H4 := Lib.hid (H4.out.new hk)
  try replace HB4 := Lib.hid (hk.heap HB4.out (by simp))
  try replace HBZ := Lib.hid (hk.heap HBZ.out (by simp))
  try replace HKD := Lib.hid (hk.heap HKD.out (by simp))
  obtain ⟨A5, rfl, hok⟩ := hat.cells
  have HO5 := Lib.hid hok
  have H5 := Lib.hid hat
  clear hat hok hk
  have HNC := Lib.hid (show (w12.alloc (.cells wdZA 33)).heap[w12.heap.size]? = some (.cells wdZ.toArray 33 (0, 0)) from heap_alloc_new w12 _)
  have HNK := Lib.hid (show Keeps [] w12 (w12.alloc (.cells wdZA 33)) from (Keeps.refl _ _).alloc _)
  go_wp2_with ((with_reducible refine wpList_putW (g := w12.heap.size) (old := wdZ) (A := A5) HO5.out wdZ_ok ?_ ?_ HNC.out ?_); exact rfl; exact rfl)
  intro w13 hW hk2
  have hk := HNK.out.trans' hk2 (Nat.le_refl _)
  replace HK := Lib.hid (HK.out.trans hk (FSub.refl _ _))
  replace H0 := Lib.hid (hk.heap H0.out (by simp))
  try replace H1 := Lib.hid (H1.out.new hk)
  try replace HB1 := Lib.hid (hk.heap HB1.out (by simp))
  try replace H3 := Lib.hid (H3.out.new hk)
  try replace HB3 := Lib.hid (hk.heap HB3.out (by simp))
  try replace H4 := Lib.hid (H4.out.new hk)
  try replace HB4 := Lib.hid (hk.heap HB4.out (by simp))
  try replace HBZ := Lib.hid (hk.heap HBZ.out (by simp))
  try replace HKD := Lib.hid (hk.heap HKD.out (by simp))
  have HB5 := Lib.hid hW
  clear hk hW hk2 HNC HNK
  generalize w12.heap.size = p5 at *
  clear H5 HB5 HO5
  go_wp2_with ((with_reducible refine wpList_loadW (g := p1) HO1.out ?_ ?_ (block_range HB1.out) ?_); exact rfl; exact rfl)
  have HN := Lib.hid (WdProg.post V w13 (HGL.out _ HK.out) H1.out HU2.out ⟨by decide, by decide⟩ (opS 1 0 0 0 0) (c := 0))
  rw [oX1] at HN
  refine HN.out.mono ?_; rintro e w14 ⟨A7, rfl, hat, hk, -⟩
  rw [show (kpW R (some (wd0 2))).cs A7 = A7 from rfl]
  have HO7 := Lib.hid (show skW.Ok A7 from kpW_ok R _ A7 _ hat)
  clear HN hat
  replace HK := Lib.hid (HK.out.trans hk (FSub.refl _ _))
  replace H0 := Lib.hid (hk.heap H0.out (by simp))
  try replace H1 := Lib.hid (H1.out.new hk)
  try replace HB1 := Lib.hid (hk.heap HB1.out (by simp))
  try replace H3 := Lib.hid (H3.out.new hk)
  try replace HB3 := Lib.hid (hk.heap HB3.out (by simp))
  try replace H4 := Lib.hid (H4.out.new hk)
  try replace HB4 := Lib.hid (hk.heap HB4.out (by simp))
  try replace HBZ := Lib.hid (hk.heap HBZ.out (by simp))
  try replace HKD := Lib.hid (hk.heap HKD.out (by simp))
  clear hk
  obtain ⟨-, h7, h8, hk⟩ := two_vars w14 wdZA #[.int .u8 0, .int .u16 0] 33 25
  have hz := two_blocks w14 wdZA #[.int .u8 0, .int .u16 0] 33 25
  have H7 := Lib.hid (show _ = some (Obj.cells wdZ.toArray _ (0, 0)) from h7); have H8 := Lib.hid (show _ = some (Obj.cells (ansC ⟨0, 0⟩).toArray _ (0, 0)) from h8); have HK8 := Lib.hid hk
  clear h7 h8 hz hk
  go_wp2_with ((with_reducible refine wpList_putW (g := w14.heap.size) (old := wdZ) (A := A7) HO7.out wdZ_ok ?_ ?_ H7.out ?_); exact rfl; exact rfl)
  intro w15 hW hk2
  replace H8 := Lib.hid (hk2.heap H8.out (by simp))
  have HK9 := Lib.hid (HK8.out.trans' hk2 (Nat.le_refl _))
  clear hW hk2 H7 HK8
  go_wp2_with ((with_reducible refine wpList_putN (g := w14.heap.size + 1) (old := ⟨0, 0⟩) ⟨0, 0⟩ ?_ ?_ H8.out ?_); exact rfl; exact rfl)
  intro V0 hW hk2
  have hk := HK9.out.trans' hk2 (Nat.le_succ _)
  replace HK := Lib.hid (HK.out.trans hk (FSub.refl _ _))
  replace H0 := Lib.hid (hk.heap H0.out (by simp))
  try replace H1 := Lib.hid (H1.out.new hk)
  try replace HB1 := Lib.hid (hk.heap HB1.out (by simp))
  try replace H3 := Lib.hid (H3.out.new hk)
  try replace HB3 := Lib.hid (hk.heap HB3.out (by simp))
  try replace H4 := Lib.hid (H4.out.new hk)
  try replace HB4 := Lib.hid (hk.heap HB4.out (by simp))
  try replace HBZ := Lib.hid (hk.heap HBZ.out (by simp))
  try replace HKD := Lib.hid (hk.heap HKD.out (by simp))
  clear hk hW hk2 HK9 H8 HO7
  go_wp2_with fail
  refine wp_join13 (fun qa qb zv us a => (((((((((((a.put (some 86) (us.getD 0 undef)).put (some 87) (us.getD 1 undef)).put (some 88) (us.getD 2 undef)).put (some 89) (us.getD 3 undef)).put (some 85) (us.getD 4 undef)).put (some 90) (us.getD 5 undef)).put (some 91) (us.getD 6 undef)).put (some 92) (us.getD 7 undef)).put (some 10) (.pointer (some ⟨qa, 0, none⟩))).put (some 11) (.pointer (some ⟨qb, 0, none⟩))).put (some 12) (.int .i64 10))) (Fin3 (kpW R (some (wd0 2))) 33 ⟨0, 0⟩ (ApW R A1) V0) ?_ ?_
  · skip
    have HGV := Lib.hid (fun w' (h : Keeps [] V0 w') => HGL.out w' (HK.out.trans h (FSub.refl _ _)))
    obtain ⟨OL, hOL⟩ : ∃ OL, OL = ApW R A1 := ⟨_, rfl⟩
    obtain ⟨KP, hKP⟩ : ∃ KP, KP = kpW R (some (wd0 2)) := ⟨_, rfl⟩
    have HOKP := Lib.hid (show ∀ x w, KP.P x w → skW.Ok (KP.cs x) from by rw [hKP]; exact kpW_ok R _)
    have HOL := Lib.hid (show ∀ p : Nat → Prop, (∀ q, q < V0.heap.size → p q) → OL p from by rw [hOL]; exact fun p hp q hq => hp q (H1.out.old q hq))
    have HST := Lib.hid (fun w' (h : Keeps [] V0 w') => WdProg.post V w' (A := A1) (O := (some (wd0 2))) (HGV.out _ h) (H1.out.new h) HU2.out ⟨by decide, by decide⟩ (opS 7 8 0 1 0) (c := 0))
    rw [oX2, ← hOL, ← hKP] at HST
    rw [← hOL, ← hKP]
    clear hOL hKP
    obtain ⟨S0, hS0⟩ : ∃ S0 : World → Prop, S0 = fun y => Keeps [] V0 y := ⟨_, rfl⟩
    have HSE := Lib.hid hS0
    have hSD : S0 V0.drew := by rw [hS0]; exact (Keeps.refl _ _).drew
    have HSA := Lib.hid (fun (w' : World) (hh : S0 w') => show w'.rangeAt p1 0 A1 from by rw [hS0] at hh; exact block_range (hh.heap HB1.out (by simp)))
    clear hS0
    refine wp_region_noPanic ?_
    refine wp_region_held_drew (S := S0) (by kernel_rfl) hSD (fun hHeld => ?_)
    refine tk 0 (y := by exact skW.yields HO1.out rfl _ rfl p1 0 rfl HSA.out) (h := ?_)
    have HY := Lib.hid ((Keeps.refl [] V0).drew)
    generalize V0.drew = YC at *
    iterate 4
      all_goals
        first
          | apply wpAnyH_ready (rs := [1, 8, 9])
            · decide +kernel
            · simp
            refine acn ?_ (acn ?_ (acn ?_ (AllReadyH.nil)))
          | apply wpAnyH_ready (rs := [3, 8, 9])
            · decide +kernel
            · simp
            refine acn ?_ (acn ?_ (acn ?_ (AllReadyH.nil)))
          | apply wpAnyH_ready (rs := [1, 8])
            · decide +kernel
            · simp
            refine acn ?_ (acn ?_ (AllReadyH.nil))
          | apply wpAnyH_ready (rs := [1, 9])
            · decide +kernel
            · simp
            refine acn ?_ (acn ?_ (AllReadyH.nil))
          | apply wpAnyH_ready (rs := [3, 8])
            · decide +kernel
            · simp
            refine acn ?_ (acn ?_ (AllReadyH.nil))
          | apply wpAnyH_ready (rs := [3, 9])
            · decide +kernel
            · simp
            refine acn ?_ (acn ?_ (AllReadyH.nil))
          | apply wpAnyH_ready (rs := [8, 9])
            · decide +kernel
            · simp
            refine acn ?_ (acn ?_ (AllReadyH.nil))
          | apply wpAnyH_ready (rs := [1])
            · decide +kernel
            · simp
            refine acn ?_ (AllReadyH.nil)
          | apply wpAnyH_ready (rs := [3])
            · decide +kernel
            · simp
            refine acn ?_ (AllReadyH.nil)
          | apply wpAnyH_ready (rs := [8])
            · decide +kernel
            · simp
            refine acn ?_ (AllReadyH.nil)
          | apply wpAnyH_ready (rs := [9])
            · decide +kernel
            · simp
            refine acn ?_ (AllReadyH.nil)
        all_goals
          intro K hK
          rw [if_pos (by rfl)]
          first
          | refine wp_call9 26 _ _ rfl [.int .u8 8, .int .u8 0, .int .u16 1] rfl Tryz.func26 (by kernel_rfl) (by kernel_rfl) ((put14_any _ 8 0 1).mono ?_)
            rintro e YC ⟨rfl, hk⟩
            refine ⟨_, rfl, ?_⟩
            try replace HBA := Lib.hid (hk.heap HBA.out (by simp))
            try replace HBB := Lib.hid (hk.heap HBB.out (by simp))
            try replace HLA := Lib.hid (Nat.lt_of_lt_of_le HLA.out hk.size)
            try replace HLB := Lib.hid (Nat.lt_of_lt_of_le HLB.out hk.size)
            replace HY := Lib.hid (HY.out.trans hk (FSub.refl _ _))
            clear hk
            refine hK.out _ _ (by rw [HSE.out]; exact HY.out) (fun hHeld => ?_); clear hK K; try simp only [Act.put, lsA, lsZ, lsS]
            refine tk 2 (y := by exact yields_field14 rfl _ rfl rfl) (h := ?_)
          | refine wp_call9 13 _ _ rfl [.agg A1.toArray, .int .u8 0, .agg #[.int .u8 7, .int .u8 8, .int .u8 0, .int .u16 1, .int .u16 0]] rfl Tryz.func13 (by kernel_rfl) (by kernel_rfl) ((HST.out _ HY.out).mono ?_)
            rintro e YC ⟨x1, rfl, hpp, hk, hf⟩
            refine ⟨_, rfl, ?_⟩
            try have HFA := Lib.hid (show KP.Ap x1 (fun q => q ≠ ga) from hf _ (HOL.out _ (fun q hq => by have := HGA.out; omega)) (fun q hq => by have := HLA.out; omega))
            try have HFB := Lib.hid (show KP.Ap x1 (fun q => q ≠ gb) from hf _ (HOL.out _ (fun q hq => by have := HGB.out; omega)) (fun q hq => by have := HLB.out; omega))
            have HFN := Lib.hid (show ∀ p : Nat → Prop, OL p → (∀ q, V0.heap.size ≤ q → p q) → KP.Ap x1 p from fun p h1 h2 => hf p h1 (fun q hq => h2 q (Nat.le_trans HY.out.size hq)))
            try replace HBA := Lib.hid (hk.heap HBA.out (by simp))
            try replace HBB := Lib.hid (hk.heap HBB.out (by simp))
            try replace HAT := Lib.hid (KP.new HAT.out hk)
            try replace HLA := Lib.hid (Nat.lt_of_lt_of_le HLA.out hk.size)
            try replace HLB := Lib.hid (Nat.lt_of_lt_of_le HLB.out hk.size)
            replace HY := Lib.hid (HY.out.trans hk (FSub.refl _ _))
            have HAT := Lib.hid hpp
            clear hpp hk hf
            refine hK.out _ _ (by rw [HSE.out]; exact HY.out) (fun hHeld => ?_); clear hK K; try simp only [Act.put, lsA, lsZ, lsS]
            refine tw 4 (h := ?_)
            refine tw 5 (h := ?_)
            refine tw 6 (h := ?_)
            refine tw 7 (h := ?_)
          | refine wp_allocW14 rfl ?_
            have hk : Keeps [] YC (YC.alloc (.cells wdZ.toArray 33)) := (Keeps.refl _ _).alloc _
            have hb := heap_alloc_new YC (.cells wdZ.toArray 33)
            try have HFA := Lib.hid (show KP.Ap x1 (fun q => q ≠ YC.heap.size) from KP.mono (KP.old HAT.out) (fun q hq => Nat.ne_of_lt hq))
            try have HAB := Lib.hid (show YC.heap.size ≠ gb from Nat.ne_of_gt HLB.out)
            have HGA := Lib.hid HY.out.size
            try replace HBA := Lib.hid (hk.heap HBA.out (by simp))
            try replace HBB := Lib.hid (hk.heap HBB.out (by simp))
            try replace HAT := Lib.hid (KP.new HAT.out hk)
            try replace HLA := Lib.hid (Nat.lt_of_lt_of_le HLA.out hk.size)
            try replace HLB := Lib.hid (Nat.lt_of_lt_of_le HLB.out hk.size)
            replace HY := Lib.hid (HY.out.trans hk (FSub.refl _ _))
            have HBA := Lib.hid hb
            have HLA := Lib.hid (lt_of_block hb)
            clear hk hb
            generalize YC.heap.size = ga at *
            generalize YC.alloc (.cells wdZ.toArray 33) = YC at *
            refine hK.out _ _ (by rw [HSE.out]; exact HY.out) (fun hHeld => ?_); clear hK K; try simp only [Act.put, lsA, lsZ, lsS]
          | refine wp_allocA _ _ _ _ rfl ?_
            have hk : Keeps [] YC (YC.alloc (.cells (ansC ⟨0, 0⟩).toArray 25)) := (Keeps.refl _ _).alloc _
            have hb := heap_alloc_new YC (.cells (ansC ⟨0, 0⟩).toArray 25)
            try have HFB := Lib.hid (show KP.Ap x1 (fun q => q ≠ YC.heap.size) from KP.mono (KP.old HAT.out) (fun q hq => Nat.ne_of_lt hq))
            try have HAB := Lib.hid (show ga ≠ YC.heap.size from Nat.ne_of_lt HLA.out)
            have HGB := Lib.hid HY.out.size
            try replace HBA := Lib.hid (hk.heap HBA.out (by simp))
            try replace HBB := Lib.hid (hk.heap HBB.out (by simp))
            try replace HAT := Lib.hid (KP.new HAT.out hk)
            try replace HLA := Lib.hid (Nat.lt_of_lt_of_le HLA.out hk.size)
            try replace HLB := Lib.hid (Nat.lt_of_lt_of_le HLB.out hk.size)
            replace HY := Lib.hid (HY.out.trans hk (FSub.refl _ _))
            have HBB := Lib.hid hb
            have HLB := Lib.hid (lt_of_block hb)
            clear hk hb
            generalize YC.heap.size = gb at *
            generalize YC.alloc (.cells (ansC ⟨0, 0⟩).toArray 25) = YC at *
            refine hK.out _ _ (by rw [HSE.out]; exact HY.out) (fun hHeld => ?_); clear hK K; try simp only [Act.put, lsA, lsZ, lsS]
    all_goals
      refine rp 10 (h := fun K hK => ?_)
      refine skW.wp_put rfl (g := ga) (old := wdZ) (A := KP.cs x1) (HOKP.out _ _ HAT.out) wdZ_ok rfl rfl HBA.out (fun YC hV hk => ?_)
      replace HBA := Lib.hid hV
      replace HBB := Lib.hid (hk.heap HBB.out (by have := HAB.out; simp; exact fun e => this e.symm))
      replace HAT := Lib.hid (KP.put HAT.out hk HFA.out)
      replace HY := Lib.hid (HY.out.trans' hk HGA.out)
      clear hV hk
      refine hK.out _ _ (by rw [HSE.out]; exact HY.out) (fun hHeld => ?_); clear hK K; try simp only [Act.put, lsA, lsZ, lsS]
      refine rp 11 (h := fun K hK => ?_)
      refine wp_putN rfl (g := gb) (old := ⟨0, 0⟩) ⟨0, 0⟩ rfl rfl HBB.out (fun YC hV hk => ?_)
      replace HBB := Lib.hid hV
      replace HBA := Lib.hid (hk.heap HBA.out (by have := HAB.out; simpa using this))
      replace HAT := Lib.hid (KP.put HAT.out hk HFB.out)
      replace HY := Lib.hid (HY.out.trans' hk HGB.out)
      clear hV hk
      refine hK.out _ _ (by rw [HSE.out]; exact HY.out) (fun hHeld => ?_); clear hK K; try simp only [Act.put, lsA, lsZ, lsS]
      refine tw 12 (h := ?_)
      refine wpAnyH_done (by kernel_rfl) ?_ _
      refine NoPanic.normal ?_
      exact ⟨rfl, ga, gb, .agg (KP.cs x1).toArray, [_, _, _, _, _, _, _, _], rfl, x1, rfl, HBA.out, HBB.out, HAT.out, HY.out, HGA.out, HGB.out, HAB.out, HFN.out, KP.and_ HFA.out HFB.out⟩
  rintro - - - us V1 ⟨x1, -, -, -, -, hk, -, -, -, -, -⟩
  simp only [Act.put, lsA, lsZ, lsS]
  replace HK := Lib.hid (HK.out.trans hk (FSub.refl _ _))
  replace H0 := Lib.hid (hk.heap H0.out (by simp))
  try replace H1 := Lib.hid (H1.out.new hk)
  try replace HB1 := Lib.hid (hk.heap HB1.out (by simp))
  try replace H3 := Lib.hid (H3.out.new hk)
  try replace HB3 := Lib.hid (hk.heap HB3.out (by simp))
  try replace H4 := Lib.hid (H4.out.new hk)
  try replace HB4 := Lib.hid (hk.heap HB4.out (by simp))
  try replace HBZ := Lib.hid (hk.heap HBZ.out (by simp))
  try replace HKD := Lib.hid (hk.heap HKD.out (by simp))
  clear hk x1 V0
  obtain ⟨V0, hV0⟩ : ∃ V0, V0 = V1 := ⟨_, rfl⟩
  subst hV0
  go_wp2_with fail
  refine wp_join13 (fun qa qb zv us a => (((((((((((a.put (some 94) (us.getD 0 undef)).put (some 95) (us.getD 1 undef)).put (some 96) (us.getD 2 undef)).put (some 97) (us.getD 3 undef)).put (some 93) (us.getD 4 undef)).put (some 98) (us.getD 5 undef)).put (some 99) (us.getD 6 undef)).put (some 100) (us.getD 7 undef)).put (some 13) (.pointer (some ⟨qa, 0, none⟩))).put (some 14) (.pointer (some ⟨qb, 0, none⟩))).put (some 15) (.int .i64 2))) (Fin3 (kpW R (some (wd0 2))) 33 ⟨0, 0⟩ (ApW R A1) V0) ?_ ?_
  · skip
    have HGV := Lib.hid (fun w' (h : Keeps [] V0 w') => HGL.out w' (HK.out.trans h (FSub.refl _ _)))
    obtain ⟨OL, hOL⟩ : ∃ OL, OL = ApW R A1 := ⟨_, rfl⟩
    obtain ⟨KP, hKP⟩ : ∃ KP, KP = kpW R (some (wd0 2)) := ⟨_, rfl⟩
    have HOKP := Lib.hid (show ∀ x w, KP.P x w → skW.Ok (KP.cs x) from by rw [hKP]; exact kpW_ok R _)
    have HOL := Lib.hid (show ∀ p : Nat → Prop, (∀ q, q < V0.heap.size → p q) → OL p from by rw [hOL]; exact fun p hp q hq => hp q (H1.out.old q hq))
    have HST := Lib.hid (fun w' (h : Keeps [] V0 w') => WdProg.post V w' (A := A1) (O := (some (wd0 2))) (HGV.out _ h) (H1.out.new h) HU2.out ⟨by decide, by decide⟩ (opS 7 0 0 1 0) (c := 16))
    rw [oX3, ← hOL, ← hKP] at HST
    rw [← hOL, ← hKP]
    clear hOL hKP
    obtain ⟨S0, hS0⟩ : ∃ S0 : World → Prop, S0 = fun y => Keeps [] V0 y := ⟨_, rfl⟩
    have HSE := Lib.hid hS0
    have hSD : S0 V0.drew := by rw [hS0]; exact (Keeps.refl _ _).drew
    have HSA := Lib.hid (fun (w' : World) (hh : S0 w') => show w'.rangeAt p1 0 A1 from by rw [hS0] at hh; exact block_range (hh.heap HB1.out (by simp)))
    clear hS0
    refine wp_region_noPanic ?_
    refine wp_region_held_drew (S := S0) (by kernel_rfl) hSD (fun hHeld => ?_)
    refine tk 0 (y := by exact skW.yields HO1.out rfl _ rfl p1 0 rfl HSA.out) (h := ?_)
    have HY := Lib.hid ((Keeps.refl [] V0).drew)
    generalize V0.drew = YC at *
    iterate 4
      all_goals
        first
          | apply wpAnyH_ready (rs := [1, 8, 9])
            · decide +kernel
            · simp
            refine acn ?_ (acn ?_ (acn ?_ (AllReadyH.nil)))
          | apply wpAnyH_ready (rs := [3, 8, 9])
            · decide +kernel
            · simp
            refine acn ?_ (acn ?_ (acn ?_ (AllReadyH.nil)))
          | apply wpAnyH_ready (rs := [1, 8])
            · decide +kernel
            · simp
            refine acn ?_ (acn ?_ (AllReadyH.nil))
          | apply wpAnyH_ready (rs := [1, 9])
            · decide +kernel
            · simp
            refine acn ?_ (acn ?_ (AllReadyH.nil))
          | apply wpAnyH_ready (rs := [3, 8])
            · decide +kernel
            · simp
            refine acn ?_ (acn ?_ (AllReadyH.nil))
          | apply wpAnyH_ready (rs := [3, 9])
            · decide +kernel
            · simp
            refine acn ?_ (acn ?_ (AllReadyH.nil))
          | apply wpAnyH_ready (rs := [8, 9])
            · decide +kernel
            · simp
            refine acn ?_ (acn ?_ (AllReadyH.nil))
          | apply wpAnyH_ready (rs := [1])
            · decide +kernel
            · simp
            refine acn ?_ (AllReadyH.nil)
          | apply wpAnyH_ready (rs := [3])
            · decide +kernel
            · simp
            refine acn ?_ (AllReadyH.nil)
          | apply wpAnyH_ready (rs := [8])
            · decide +kernel
            · simp
            refine acn ?_ (AllReadyH.nil)
          | apply wpAnyH_ready (rs := [9])
            · decide +kernel
            · simp
            refine acn ?_ (AllReadyH.nil)
        all_goals
          intro K hK
          rw [if_pos (by rfl)]
          first
          | refine wp_call9 26 _ _ rfl [.int .u8 0, .int .u8 0, .int .u16 1] rfl Tryz.func26 (by kernel_rfl) (by kernel_rfl) ((put14_any _ 0 0 1).mono ?_)
            rintro e YC ⟨rfl, hk⟩
            refine ⟨_, rfl, ?_⟩
            try replace HBA := Lib.hid (hk.heap HBA.out (by simp))
            try replace HBB := Lib.hid (hk.heap HBB.out (by simp))
            try replace HLA := Lib.hid (Nat.lt_of_lt_of_le HLA.out hk.size)
            try replace HLB := Lib.hid (Nat.lt_of_lt_of_le HLB.out hk.size)
            replace HY := Lib.hid (HY.out.trans hk (FSub.refl _ _))
            clear hk
            refine hK.out _ _ (by rw [HSE.out]; exact HY.out) (fun hHeld => ?_); clear hK K; try simp only [Act.put, lsA, lsZ, lsS]
            refine tk 2 (y := by exact yields_field14 rfl _ rfl rfl) (h := ?_)
          | refine wp_call9 13 _ _ rfl [.agg A1.toArray, .int .u8 16, .agg #[.int .u8 7, .int .u8 0, .int .u8 0, .int .u16 1, .int .u16 0]] rfl Tryz.func13 (by kernel_rfl) (by kernel_rfl) ((HST.out _ HY.out).mono ?_)
            rintro e YC ⟨x1, rfl, hpp, hk, hf⟩
            refine ⟨_, rfl, ?_⟩
            try have HFA := Lib.hid (show KP.Ap x1 (fun q => q ≠ ga) from hf _ (HOL.out _ (fun q hq => by have := HGA.out; omega)) (fun q hq => by have := HLA.out; omega))
            try have HFB := Lib.hid (show KP.Ap x1 (fun q => q ≠ gb) from hf _ (HOL.out _ (fun q hq => by have := HGB.out; omega)) (fun q hq => by have := HLB.out; omega))
            have HFN := Lib.hid (show ∀ p : Nat → Prop, OL p → (∀ q, V0.heap.size ≤ q → p q) → KP.Ap x1 p from fun p h1 h2 => hf p h1 (fun q hq => h2 q (Nat.le_trans HY.out.size hq)))
            try replace HBA := Lib.hid (hk.heap HBA.out (by simp))
            try replace HBB := Lib.hid (hk.heap HBB.out (by simp))
            try replace HAT := Lib.hid (KP.new HAT.out hk)
            try replace HLA := Lib.hid (Nat.lt_of_lt_of_le HLA.out hk.size)
            try replace HLB := Lib.hid (Nat.lt_of_lt_of_le HLB.out hk.size)
            replace HY := Lib.hid (HY.out.trans hk (FSub.refl _ _))
            have HAT := Lib.hid hpp
            clear hpp hk hf
            refine hK.out _ _ (by rw [HSE.out]; exact HY.out) (fun hHeld => ?_); clear hK K; try simp only [Act.put, lsA, lsZ, lsS]
            refine tw 4 (h := ?_)
            refine tw 5 (h := ?_)
            refine tw 6 (h := ?_)
            refine tw 7 (h := ?_)
          | refine wp_allocW14 rfl ?_
            have hk : Keeps [] YC (YC.alloc (.cells wdZ.toArray 33)) := (Keeps.refl _ _).alloc _
            have hb := heap_alloc_new YC (.cells wdZ.toArray 33)
            try have HFA := Lib.hid (show KP.Ap x1 (fun q => q ≠ YC.heap.size) from KP.mono (KP.old HAT.out) (fun q hq => Nat.ne_of_lt hq))
            try have HAB := Lib.hid (show YC.heap.size ≠ gb from Nat.ne_of_gt HLB.out)
            have HGA := Lib.hid HY.out.size
            try replace HBA := Lib.hid (hk.heap HBA.out (by simp))
            try replace HBB := Lib.hid (hk.heap HBB.out (by simp))
            try replace HAT := Lib.hid (KP.new HAT.out hk)
            try replace HLA := Lib.hid (Nat.lt_of_lt_of_le HLA.out hk.size)
            try replace HLB := Lib.hid (Nat.lt_of_lt_of_le HLB.out hk.size)
            replace HY := Lib.hid (HY.out.trans hk (FSub.refl _ _))
            have HBA := Lib.hid hb
            have HLA := Lib.hid (lt_of_block hb)
            clear hk hb
            generalize YC.heap.size = ga at *
            generalize YC.alloc (.cells wdZ.toArray 33) = YC at *
            refine hK.out _ _ (by rw [HSE.out]; exact HY.out) (fun hHeld => ?_); clear hK K; try simp only [Act.put, lsA, lsZ, lsS]
          | refine wp_allocA _ _ _ _ rfl ?_
            have hk : Keeps [] YC (YC.alloc (.cells (ansC ⟨0, 0⟩).toArray 25)) := (Keeps.refl _ _).alloc _
            have hb := heap_alloc_new YC (.cells (ansC ⟨0, 0⟩).toArray 25)
            try have HFB := Lib.hid (show KP.Ap x1 (fun q => q ≠ YC.heap.size) from KP.mono (KP.old HAT.out) (fun q hq => Nat.ne_of_lt hq))
            try have HAB := Lib.hid (show ga ≠ YC.heap.size from Nat.ne_of_lt HLA.out)
            have HGB := Lib.hid HY.out.size
            try replace HBA := Lib.hid (hk.heap HBA.out (by simp))
            try replace HBB := Lib.hid (hk.heap HBB.out (by simp))
            try replace HAT := Lib.hid (KP.new HAT.out hk)
            try replace HLA := Lib.hid (Nat.lt_of_lt_of_le HLA.out hk.size)
            try replace HLB := Lib.hid (Nat.lt_of_lt_of_le HLB.out hk.size)
            replace HY := Lib.hid (HY.out.trans hk (FSub.refl _ _))
            have HBB := Lib.hid hb
            have HLB := Lib.hid (lt_of_block hb)
            clear hk hb
            generalize YC.heap.size = gb at *
            generalize YC.alloc (.cells (ansC ⟨0, 0⟩).toArray 25) = YC at *
            refine hK.out _ _ (by rw [HSE.out]; exact HY.out) (fun hHeld => ?_); clear hK K; try simp only [Act.put, lsA, lsZ, lsS]
    all_goals
      refine rp 10 (h := fun K hK => ?_)
      refine skW.wp_put rfl (g := ga) (old := wdZ) (A := KP.cs x1) (HOKP.out _ _ HAT.out) wdZ_ok rfl rfl HBA.out (fun YC hV hk => ?_)
      replace HBA := Lib.hid hV
      replace HBB := Lib.hid (hk.heap HBB.out (by have := HAB.out; simp; exact fun e => this e.symm))
      replace HAT := Lib.hid (KP.put HAT.out hk HFA.out)
      replace HY := Lib.hid (HY.out.trans' hk HGA.out)
      clear hV hk
      refine hK.out _ _ (by rw [HSE.out]; exact HY.out) (fun hHeld => ?_); clear hK K; try simp only [Act.put, lsA, lsZ, lsS]
      refine rp 11 (h := fun K hK => ?_)
      refine wp_putN rfl (g := gb) (old := ⟨0, 0⟩) ⟨0, 0⟩ rfl rfl HBB.out (fun YC hV hk => ?_)
      replace HBB := Lib.hid hV
      replace HBA := Lib.hid (hk.heap HBA.out (by have := HAB.out; simpa using this))
      replace HAT := Lib.hid (KP.put HAT.out hk HFB.out)
      replace HY := Lib.hid (HY.out.trans' hk HGB.out)
      clear hV hk
      refine hK.out _ _ (by rw [HSE.out]; exact HY.out) (fun hHeld => ?_); clear hK K; try simp only [Act.put, lsA, lsZ, lsS]
      refine tw 12 (h := ?_)
      refine wpAnyH_done (by kernel_rfl) ?_ _
      refine NoPanic.normal ?_
      exact ⟨rfl, ga, gb, .agg (KP.cs x1).toArray, [_, _, _, _, _, _, _, _], rfl, x1, rfl, HBA.out, HBB.out, HAT.out, HY.out, HGA.out, HGB.out, HAB.out, HFN.out, KP.and_ HFA.out HFB.out⟩
  rintro - - - us V1 ⟨x1, -, -, -, -, hk, -, -, -, -, -⟩
  simp only [Act.put, lsA, lsZ, lsS]
  replace HK := Lib.hid (HK.out.trans hk (FSub.refl _ _))
  replace H0 := Lib.hid (hk.heap H0.out (by simp))
  try replace H1 := Lib.hid (H1.out.new hk)
  try replace HB1 := Lib.hid (hk.heap HB1.out (by simp))
  try replace H3 := Lib.hid (H3.out.new hk)
  try replace HB3 := Lib.hid (hk.heap HB3.out (by simp))
  try replace H4 := Lib.hid (H4.out.new hk)
  try replace HB4 := Lib.hid (hk.heap HB4.out (by simp))
  try replace HBZ := Lib.hid (hk.heap HBZ.out (by simp))
  try replace HKD := Lib.hid (hk.heap HKD.out (by simp))
  clear hk x1 V0
  obtain ⟨V0, hV0⟩ : ∃ V0, V0 = V1 := ⟨_, rfl⟩
  subst hV0
  go_wp2_with ((with_reducible refine wpList_loadW (g := p3) HO3.out ?_ ?_ (block_range HB3.out) ?_); exact rfl; exact rfl)
  have HN := Lib.hid (V.fits V0 _ (some wdBB) 0 ⟨6, 2, 0, 0, 0⟩ ⟨2, 0⟩ (HGL.out _ HK.out) H3.out (fun W' e => by obtain rfl := Option.some.inj e; exact fun S hS => Nat.le_trans (exB_up S hS) (by decide)) ⟨by decide, by decide⟩ (opS 6 2 0 0 0) ⟨by decide, by decide⟩)
  rw [fit1] at HN
  refine HN.out.mono ?_; rintro e w16 ⟨st, rfl, hat, hk, -⟩
  clear HN
  replace HK := Lib.hid (HK.out.trans hk (FSub.refl _ _))
  replace H0 := Lib.hid (hk.heap H0.out (by simp))
  try replace H1 := Lib.hid (H1.out.new hk)
  try replace HB1 := Lib.hid (hk.heap HB1.out (by simp))
  try replace H3 := Lib.hid (H3.out.new hk)
  try replace HB3 := Lib.hid (hk.heap HB3.out (by simp))
  try replace H4 := Lib.hid (H4.out.new hk)
  try replace HB4 := Lib.hid (hk.heap HB4.out (by simp))
  try replace HBZ := Lib.hid (hk.heap HBZ.out (by simp))
  try replace HKD := Lib.hid (hk.heap HKD.out (by simp))
  obtain ⟨A16, rfl, hok⟩ := hat.cells
  have HO16 := Lib.hid hok
  have H16 := Lib.hid hat
  clear hat hok hk
  have HNC := Lib.hid (show (w16.alloc (.cells wdZA 33)).heap[w16.heap.size]? = some (.cells wdZ.toArray 33 (0, 0)) from heap_alloc_new w16 _)
  have HNK := Lib.hid (show Keeps [] w16 (w16.alloc (.cells wdZA 33)) from (Keeps.refl _ _).alloc _)
  go_wp2_with ((with_reducible refine wpList_putW (g := w16.heap.size) (old := wdZ) (A := A16) HO16.out wdZ_ok ?_ ?_ HNC.out ?_); exact rfl; exact rfl)
  intro w17 hW hk2
  have hk := HNK.out.trans' hk2 (Nat.le_refl _)
  replace HK := Lib.hid (HK.out.trans hk (FSub.refl _ _))
  replace H0 := Lib.hid (hk.heap H0.out (by simp))
  try replace H1 := Lib.hid (H1.out.new hk)
  try replace HB1 := Lib.hid (hk.heap HB1.out (by simp))
  try replace H3 := Lib.hid (H3.out.new hk)
  try replace HB3 := Lib.hid (hk.heap HB3.out (by simp))
  try replace H4 := Lib.hid (H4.out.new hk)
  try replace HB4 := Lib.hid (hk.heap HB4.out (by simp))
  try replace HBZ := Lib.hid (hk.heap HBZ.out (by simp))
  try replace HKD := Lib.hid (hk.heap HKD.out (by simp))
  have HB16 := Lib.hid hW
  clear hk hW hk2 HNC HNK
  generalize w16.heap.size = p16 at *
  clear H16 HB16 HO16
  go_wp2_with ((with_reducible refine wpList_loadW (g := p3) HO3.out ?_ ?_ (block_range HB3.out) ?_); exact rfl; exact rfl)
  have HN := Lib.hid (V.fits w17 _ (some wdBB) 0 ⟨6, 2, 0, 0, 0⟩ ⟨1, 1⟩ (HGL.out _ HK.out) H3.out (fun W' e => by obtain rfl := Option.some.inj e; exact fun S hS => Nat.le_trans (exB_up S hS) (by decide)) ⟨by decide, by decide⟩ (opS 6 2 0 0 0) ⟨by decide, by decide⟩)
  rw [fit2] at HN
  refine HN.out.mono ?_; rintro e w18 ⟨st, rfl, hat, hk, -⟩
  clear HN
  replace HK := Lib.hid (HK.out.trans hk (FSub.refl _ _))
  replace H0 := Lib.hid (hk.heap H0.out (by simp))
  try replace H1 := Lib.hid (H1.out.new hk)
  try replace HB1 := Lib.hid (hk.heap HB1.out (by simp))
  try replace H3 := Lib.hid (H3.out.new hk)
  try replace HB3 := Lib.hid (hk.heap HB3.out (by simp))
  try replace H4 := Lib.hid (H4.out.new hk)
  try replace HB4 := Lib.hid (hk.heap HB4.out (by simp))
  try replace HBZ := Lib.hid (hk.heap HBZ.out (by simp))
  try replace HKD := Lib.hid (hk.heap HKD.out (by simp))
  obtain ⟨A18, rfl, hok⟩ := hat.cells
  have HO18 := Lib.hid hok
  have H18 := Lib.hid hat
  clear hat hok hk
  have HNC := Lib.hid (show (w18.alloc (.cells wdZA 33)).heap[w18.heap.size]? = some (.cells wdZ.toArray 33 (0, 0)) from heap_alloc_new w18 _)
  have HNK := Lib.hid (show Keeps [] w18 (w18.alloc (.cells wdZA 33)) from (Keeps.refl _ _).alloc _)
  go_wp2_with ((with_reducible refine wpList_putW (g := w18.heap.size) (old := wdZ) (A := A18) HO18.out wdZ_ok ?_ ?_ HNC.out ?_); exact rfl; exact rfl)
  intro w19 hW hk2
  have hk := HNK.out.trans' hk2 (Nat.le_refl _)
  replace HK := Lib.hid (HK.out.trans hk (FSub.refl _ _))
  replace H0 := Lib.hid (hk.heap H0.out (by simp))
  try replace H1 := Lib.hid (H1.out.new hk)
  try replace HB1 := Lib.hid (hk.heap HB1.out (by simp))
  try replace H3 := Lib.hid (H3.out.new hk)
  try replace HB3 := Lib.hid (hk.heap HB3.out (by simp))
  try replace H4 := Lib.hid (H4.out.new hk)
  try replace HB4 := Lib.hid (hk.heap HB4.out (by simp))
  try replace HBZ := Lib.hid (hk.heap HBZ.out (by simp))
  try replace HKD := Lib.hid (hk.heap HKD.out (by simp))
  have HB18 := Lib.hid hW
  clear hk hW hk2 HNC HNK
  generalize w18.heap.size = p18 at *
  clear H18 HB18 HO18
  have hk : Keeps [] w19 (w19.alloc (.cells wdZA 33)) := (Keeps.refl _ _).alloc _
  have HBZ := Lib.hid (show (w19.alloc (.cells wdZA 33)).heap[w19.heap.size]? = some (.cells wdZ.toArray 33 (0, 0)) from heap_alloc_new w19 _)
  replace HK := Lib.hid (HK.out.trans hk (FSub.refl _ _))
  replace H0 := Lib.hid (hk.heap H0.out (by simp))
  replace H1 := Lib.hid (H1.out.new hk)
  replace HB1 := Lib.hid (hk.heap HB1.out (by simp))
  clear hk H3 HB3
  go_wp2_with fail
  generalize w19.alloc (.cells wdZA 33) = V0 at *
  generalize w19.heap.size = pZ at *
  have H3 := Lib.hid (WoAt.zero R V0)
  refine wp_join13 (fun qa qb zv us a => (((((((((((a.put (some 116) (us.getD 0 undef)).put (some 117) (us.getD 1 undef)).put (some 118) (us.getD 2 undef)).put (some 119) (us.getD 3 undef)).put (some 115) (us.getD 4 undef)).put (some 120) (us.getD 5 undef)).put (some 121) (us.getD 6 undef)).put (some 122) (us.getD 7 undef)).put (some 21) (.pointer (some ⟨qa, 0, none⟩))).put (some 22) (.pointer (some ⟨qb, 0, none⟩))).put (some 23) (.int .i64 1))) (Fin3 (kpW R (none)) 33 ⟨0, 0⟩ (ApW R wdZ) V0) ?_ ?_
  · skip
    have HGV := Lib.hid (fun w' (h : Keeps [] V0 w') => HGL.out w' (HK.out.trans h (FSub.refl _ _)))
    obtain ⟨OL, hOL⟩ : ∃ OL, OL = ApW R wdZ := ⟨_, rfl⟩
    obtain ⟨KP, hKP⟩ : ∃ KP, KP = kpW R (none) := ⟨_, rfl⟩
    have HOKP := Lib.hid (show ∀ x w, KP.P x w → skW.Ok (KP.cs x) from by rw [hKP]; exact kpW_ok R _)
    have HOL := Lib.hid (show ∀ p : Nat → Prop, (∀ q, q < V0.heap.size → p q) → OL p from by rw [hOL]; exact fun p hp q hq => hp q (H3.out.old q hq))
    have HST := Lib.hid (fun w' (h : Keeps [] V0 w') => WdProg.post V w' (A := wdZ) (O := (none)) (HGV.out _ h) (H3.out.new h) HU0.out ⟨by decide, by decide⟩ (opS 7 0 0 1 0) (c := 0))
    rw [oX4, ← hOL, ← hKP] at HST
    rw [← hOL, ← hKP]
    clear hOL hKP
    obtain ⟨S0, hS0⟩ : ∃ S0 : World → Prop, S0 = fun y => Keeps [] V0 y := ⟨_, rfl⟩
    have HSE := Lib.hid hS0
    have hSD : S0 V0.drew := by rw [hS0]; exact (Keeps.refl _ _).drew
    have HSA := Lib.hid (fun (w' : World) (hh : S0 w') => show w'.rangeAt pZ 0 wdZ from by rw [hS0] at hh; exact block_range (hh.heap HBZ.out (by simp)))
    clear hS0
    refine wp_region_noPanic ?_
    refine wp_region_held_drew (S := S0) (by kernel_rfl) hSD (fun hHeld => ?_)
    refine tk 0 (y := by exact skW.yields wdZ_ok rfl _ rfl pZ 0 rfl HSA.out) (h := ?_)
    have HY := Lib.hid ((Keeps.refl [] V0).drew)
    generalize V0.drew = YC at *
    iterate 4
      all_goals
        first
          | apply wpAnyH_ready (rs := [1, 8, 9])
            · decide +kernel
            · simp
            refine acn ?_ (acn ?_ (acn ?_ (AllReadyH.nil)))
          | apply wpAnyH_ready (rs := [3, 8, 9])
            · decide +kernel
            · simp
            refine acn ?_ (acn ?_ (acn ?_ (AllReadyH.nil)))
          | apply wpAnyH_ready (rs := [1, 8])
            · decide +kernel
            · simp
            refine acn ?_ (acn ?_ (AllReadyH.nil))
          | apply wpAnyH_ready (rs := [1, 9])
            · decide +kernel
            · simp
            refine acn ?_ (acn ?_ (AllReadyH.nil))
          | apply wpAnyH_ready (rs := [3, 8])
            · decide +kernel
            · simp
            refine acn ?_ (acn ?_ (AllReadyH.nil))
          | apply wpAnyH_ready (rs := [3, 9])
            · decide +kernel
            · simp
            refine acn ?_ (acn ?_ (AllReadyH.nil))
          | apply wpAnyH_ready (rs := [8, 9])
            · decide +kernel
            · simp
            refine acn ?_ (acn ?_ (AllReadyH.nil))
          | apply wpAnyH_ready (rs := [1])
            · decide +kernel
            · simp
            refine acn ?_ (AllReadyH.nil)
          | apply wpAnyH_ready (rs := [3])
            · decide +kernel
            · simp
            refine acn ?_ (AllReadyH.nil)
          | apply wpAnyH_ready (rs := [8])
            · decide +kernel
            · simp
            refine acn ?_ (AllReadyH.nil)
          | apply wpAnyH_ready (rs := [9])
            · decide +kernel
            · simp
            refine acn ?_ (AllReadyH.nil)
        all_goals
          intro K hK
          rw [if_pos (by rfl)]
          first
          | refine wp_call9 26 _ _ rfl [.int .u8 0, .int .u8 0, .int .u16 1] rfl Tryz.func26 (by kernel_rfl) (by kernel_rfl) ((put14_any _ 0 0 1).mono ?_)
            rintro e YC ⟨rfl, hk⟩
            refine ⟨_, rfl, ?_⟩
            try replace HBA := Lib.hid (hk.heap HBA.out (by simp))
            try replace HBB := Lib.hid (hk.heap HBB.out (by simp))
            try replace HLA := Lib.hid (Nat.lt_of_lt_of_le HLA.out hk.size)
            try replace HLB := Lib.hid (Nat.lt_of_lt_of_le HLB.out hk.size)
            replace HY := Lib.hid (HY.out.trans hk (FSub.refl _ _))
            clear hk
            refine hK.out _ _ (by rw [HSE.out]; exact HY.out) (fun hHeld => ?_); clear hK K; try simp only [Act.put, lsA, lsZ, lsS]
            refine tk 2 (y := by exact yields_field14 rfl _ rfl rfl) (h := ?_)
          | refine wp_call9 13 _ _ rfl [.agg wdZ.toArray, .int .u8 0, .agg #[.int .u8 7, .int .u8 0, .int .u8 0, .int .u16 1, .int .u16 0]] rfl Tryz.func13 (by kernel_rfl) (by kernel_rfl) ((HST.out _ HY.out).mono ?_)
            rintro e YC ⟨x1, rfl, hpp, hk, hf⟩
            refine ⟨_, rfl, ?_⟩
            try have HFA := Lib.hid (show KP.Ap x1 (fun q => q ≠ ga) from hf _ (HOL.out _ (fun q hq => by have := HGA.out; omega)) (fun q hq => by have := HLA.out; omega))
            try have HFB := Lib.hid (show KP.Ap x1 (fun q => q ≠ gb) from hf _ (HOL.out _ (fun q hq => by have := HGB.out; omega)) (fun q hq => by have := HLB.out; omega))
            have HFN := Lib.hid (show ∀ p : Nat → Prop, OL p → (∀ q, V0.heap.size ≤ q → p q) → KP.Ap x1 p from fun p h1 h2 => hf p h1 (fun q hq => h2 q (Nat.le_trans HY.out.size hq)))
            try replace HBA := Lib.hid (hk.heap HBA.out (by simp))
            try replace HBB := Lib.hid (hk.heap HBB.out (by simp))
            try replace HAT := Lib.hid (KP.new HAT.out hk)
            try replace HLA := Lib.hid (Nat.lt_of_lt_of_le HLA.out hk.size)
            try replace HLB := Lib.hid (Nat.lt_of_lt_of_le HLB.out hk.size)
            replace HY := Lib.hid (HY.out.trans hk (FSub.refl _ _))
            have HAT := Lib.hid hpp
            clear hpp hk hf
            refine hK.out _ _ (by rw [HSE.out]; exact HY.out) (fun hHeld => ?_); clear hK K; try simp only [Act.put, lsA, lsZ, lsS]
            refine tw 4 (h := ?_)
            refine tw 5 (h := ?_)
            refine tw 6 (h := ?_)
            refine tw 7 (h := ?_)
          | refine wp_allocW14 rfl ?_
            have hk : Keeps [] YC (YC.alloc (.cells wdZ.toArray 33)) := (Keeps.refl _ _).alloc _
            have hb := heap_alloc_new YC (.cells wdZ.toArray 33)
            try have HFA := Lib.hid (show KP.Ap x1 (fun q => q ≠ YC.heap.size) from KP.mono (KP.old HAT.out) (fun q hq => Nat.ne_of_lt hq))
            try have HAB := Lib.hid (show YC.heap.size ≠ gb from Nat.ne_of_gt HLB.out)
            have HGA := Lib.hid HY.out.size
            try replace HBA := Lib.hid (hk.heap HBA.out (by simp))
            try replace HBB := Lib.hid (hk.heap HBB.out (by simp))
            try replace HAT := Lib.hid (KP.new HAT.out hk)
            try replace HLA := Lib.hid (Nat.lt_of_lt_of_le HLA.out hk.size)
            try replace HLB := Lib.hid (Nat.lt_of_lt_of_le HLB.out hk.size)
            replace HY := Lib.hid (HY.out.trans hk (FSub.refl _ _))
            have HBA := Lib.hid hb
            have HLA := Lib.hid (lt_of_block hb)
            clear hk hb
            generalize YC.heap.size = ga at *
            generalize YC.alloc (.cells wdZ.toArray 33) = YC at *
            refine hK.out _ _ (by rw [HSE.out]; exact HY.out) (fun hHeld => ?_); clear hK K; try simp only [Act.put, lsA, lsZ, lsS]
          | refine wp_allocA _ _ _ _ rfl ?_
            have hk : Keeps [] YC (YC.alloc (.cells (ansC ⟨0, 0⟩).toArray 25)) := (Keeps.refl _ _).alloc _
            have hb := heap_alloc_new YC (.cells (ansC ⟨0, 0⟩).toArray 25)
            try have HFB := Lib.hid (show KP.Ap x1 (fun q => q ≠ YC.heap.size) from KP.mono (KP.old HAT.out) (fun q hq => Nat.ne_of_lt hq))
            try have HAB := Lib.hid (show ga ≠ YC.heap.size from Nat.ne_of_lt HLA.out)
            have HGB := Lib.hid HY.out.size
            try replace HBA := Lib.hid (hk.heap HBA.out (by simp))
            try replace HBB := Lib.hid (hk.heap HBB.out (by simp))
            try replace HAT := Lib.hid (KP.new HAT.out hk)
            try replace HLA := Lib.hid (Nat.lt_of_lt_of_le HLA.out hk.size)
            try replace HLB := Lib.hid (Nat.lt_of_lt_of_le HLB.out hk.size)
            replace HY := Lib.hid (HY.out.trans hk (FSub.refl _ _))
            have HBB := Lib.hid hb
            have HLB := Lib.hid (lt_of_block hb)
            clear hk hb
            generalize YC.heap.size = gb at *
            generalize YC.alloc (.cells (ansC ⟨0, 0⟩).toArray 25) = YC at *
            refine hK.out _ _ (by rw [HSE.out]; exact HY.out) (fun hHeld => ?_); clear hK K; try simp only [Act.put, lsA, lsZ, lsS]
    all_goals
      refine rp 10 (h := fun K hK => ?_)
      refine skW.wp_put rfl (g := ga) (old := wdZ) (A := KP.cs x1) (HOKP.out _ _ HAT.out) wdZ_ok rfl rfl HBA.out (fun YC hV hk => ?_)
      replace HBA := Lib.hid hV
      replace HBB := Lib.hid (hk.heap HBB.out (by have := HAB.out; simp; exact fun e => this e.symm))
      replace HAT := Lib.hid (KP.put HAT.out hk HFA.out)
      replace HY := Lib.hid (HY.out.trans' hk HGA.out)
      clear hV hk
      refine hK.out _ _ (by rw [HSE.out]; exact HY.out) (fun hHeld => ?_); clear hK K; try simp only [Act.put, lsA, lsZ, lsS]
      refine rp 11 (h := fun K hK => ?_)
      refine wp_putN rfl (g := gb) (old := ⟨0, 0⟩) ⟨0, 0⟩ rfl rfl HBB.out (fun YC hV hk => ?_)
      replace HBB := Lib.hid hV
      replace HBA := Lib.hid (hk.heap HBA.out (by have := HAB.out; simpa using this))
      replace HAT := Lib.hid (KP.put HAT.out hk HFB.out)
      replace HY := Lib.hid (HY.out.trans' hk HGB.out)
      clear hV hk
      refine hK.out _ _ (by rw [HSE.out]; exact HY.out) (fun hHeld => ?_); clear hK K; try simp only [Act.put, lsA, lsZ, lsS]
      refine tw 12 (h := ?_)
      refine wpAnyH_done (by kernel_rfl) ?_ _
      refine NoPanic.normal ?_
      exact ⟨rfl, ga, gb, .agg (KP.cs x1).toArray, [_, _, _, _, _, _, _, _], rfl, x1, rfl, HBA.out, HBB.out, HAT.out, HY.out, HGA.out, HGB.out, HAB.out, HFN.out, KP.and_ HFA.out HFB.out⟩
  rintro - - - us V1 ⟨x1, -, -, -, -, hk, -, -, -, -, -⟩
  simp only [Act.put, lsA, lsZ, lsS]
  replace HK := Lib.hid (HK.out.trans hk (FSub.refl _ _))
  replace H0 := Lib.hid (hk.heap H0.out (by simp))
  try replace H1 := Lib.hid (H1.out.new hk)
  try replace HB1 := Lib.hid (hk.heap HB1.out (by simp))
  try replace H3 := Lib.hid (H3.out.new hk)
  try replace HB3 := Lib.hid (hk.heap HB3.out (by simp))
  try replace H4 := Lib.hid (H4.out.new hk)
  try replace HB4 := Lib.hid (hk.heap HB4.out (by simp))
  try replace HBZ := Lib.hid (hk.heap HBZ.out (by simp))
  try replace HKD := Lib.hid (hk.heap HKD.out (by simp))
  clear hk x1 V0
  obtain ⟨V0, hV0⟩ : ∃ V0, V0 = V1 := ⟨_, rfl⟩
  subst hV0
  go_wp2_with ((with_reducible refine wpList_loadW (g := pZ) wdZ_ok ?_ ?_ (block_range HBZ.out) ?_); exact rfl; exact rfl)
  have HN := Lib.hid (V.at_ V0 _ none 0 (HGL.out _ HK.out) H3.out ⟨by decide, by decide⟩)
  rw [show oWat none 0 = none from rfl] at HN
  refine HN.out.mono ?_; rintro e w20 ⟨st, rfl, hat, hk, -⟩
  replace HK := Lib.hid (HK.out.trans hk (FSub.refl _ _))
  replace H0 := Lib.hid (hk.heap H0.out (by simp))
  try replace H1 := Lib.hid (H1.out.new hk)
  try replace HB1 := Lib.hid (hk.heap HB1.out (by simp))
  try replace H3 := Lib.hid (H3.out.new hk)
  try replace HB3 := Lib.hid (hk.heap HB3.out (by simp))
  try replace H4 := Lib.hid (H4.out.new hk)
  try replace HB4 := Lib.hid (hk.heap HB4.out (by simp))
  try replace HBZ := Lib.hid (hk.heap HBZ.out (by simp))
  try replace HKD := Lib.hid (hk.heap HKD.out (by simp))
  obtain ⟨B24, rfl, hBo⟩ := R.cells hat
  have HVB := Lib.hid hBo
  have HC := Lib.hid (show (w20.alloc (.cells mdZA 30)).heap[w20.heap.size]? = some (.cells mdZ.toArray 30 (0, 0)) from heap_alloc_new w20 _)
  have HKC := Lib.hid (show Keeps [] w20 (w20.alloc (.cells mdZA 30)) from (Keeps.refl _ _).alloc _)
  clear hat hBo hk HN
  go_wp2_with ((with_reducible refine wpList_putM (g := w20.heap.size) (old := mdZ) (A := B24) HVB.out mdZ_ok ?_ ?_ HC.out ?_); exact rfl; exact rfl)
  intro w21 hW hk2
  have hk := HKC.out.trans' hk2 (Nat.le_refl _)
  replace HK := Lib.hid (HK.out.trans hk (FSub.refl _ _))
  replace H0 := Lib.hid (hk.heap H0.out (by simp))
  try replace H1 := Lib.hid (H1.out.new hk)
  try replace HB1 := Lib.hid (hk.heap HB1.out (by simp))
  try replace H3 := Lib.hid (H3.out.new hk)
  try replace HB3 := Lib.hid (hk.heap HB3.out (by simp))
  try replace H4 := Lib.hid (H4.out.new hk)
  try replace HB4 := Lib.hid (hk.heap HB4.out (by simp))
  try replace HBZ := Lib.hid (hk.heap HBZ.out (by simp))
  try replace HKD := Lib.hid (hk.heap HKD.out (by simp))
  clear hk hW hk2 HC HKC HVB
  go_wp2_with fail
  have HN := Lib.hid (V.dec w21 4 [] (HGL.out _ HK.out) ⟨by decide, by decide⟩ (by decide) trivial)
  rw [show wdDec 4 [] = (none, 10) from rfl] at HN
  refine HN.out.mono ?_; rintro e w22 ⟨st, rfl, hat, hk, -⟩
  clear HN
  replace HK := Lib.hid (HK.out.trans hk (FSub.refl _ _))
  replace H0 := Lib.hid (hk.heap H0.out (by simp))
  try replace H1 := Lib.hid (H1.out.new hk)
  try replace HB1 := Lib.hid (hk.heap HB1.out (by simp))
  try replace H3 := Lib.hid (H3.out.new hk)
  try replace HB3 := Lib.hid (hk.heap HB3.out (by simp))
  try replace H4 := Lib.hid (H4.out.new hk)
  try replace HB4 := Lib.hid (hk.heap HB4.out (by simp))
  try replace HBZ := Lib.hid (hk.heap HBZ.out (by simp))
  try replace HKD := Lib.hid (hk.heap HKD.out (by simp))
  obtain ⟨A26, rfl, hok⟩ := hat.cells
  have HO26 := Lib.hid hok
  have H26 := Lib.hid hat
  clear hat hok hk
  have HNC := Lib.hid (show (w22.alloc (.cells wdZA 33)).heap[w22.heap.size]? = some (.cells wdZ.toArray 33 (0, 0)) from heap_alloc_new w22 _)
  have HNK := Lib.hid (show Keeps [] w22 (w22.alloc (.cells wdZA 33)) from (Keeps.refl _ _).alloc _)
  go_wp2_with ((with_reducible refine wpList_putW (g := w22.heap.size) (old := wdZ) (A := A26) HO26.out wdZ_ok ?_ ?_ HNC.out ?_); exact rfl; exact rfl)
  intro w23 hW hk2
  have hk := HNK.out.trans' hk2 (Nat.le_refl _)
  replace HK := Lib.hid (HK.out.trans hk (FSub.refl _ _))
  replace H0 := Lib.hid (hk.heap H0.out (by simp))
  try replace H1 := Lib.hid (H1.out.new hk)
  try replace HB1 := Lib.hid (hk.heap HB1.out (by simp))
  try replace H3 := Lib.hid (H3.out.new hk)
  try replace HB3 := Lib.hid (hk.heap HB3.out (by simp))
  try replace H4 := Lib.hid (H4.out.new hk)
  try replace HB4 := Lib.hid (hk.heap HB4.out (by simp))
  try replace HBZ := Lib.hid (hk.heap HBZ.out (by simp))
  try replace HKD := Lib.hid (hk.heap HKD.out (by simp))
  have HB26 := Lib.hid hW
  clear hk hW hk2 HNC HNK
  generalize w22.heap.size = p26 at *
  clear H26 HB26 HO26
  go_wp2_with ((with_reducible refine wpList_loadW (g := pZ) wdZ_ok ?_ ?_ (block_range HBZ.out) ?_); exact rfl; exact rfl)
  refine (V.objects w23 _ none (HGL.out _ HK.out) H3.out).mono ?_
  rintro e y ⟨B, A2, rfl, hA2, -, hB, hk⟩
  obtain rfl : A2 = wdZ.toArray := by simpa using hA2.symm
  replace HK := Lib.hid (HK.out.trans hk (FSub.refl _ _))
  replace H0 := Lib.hid (hk.heap H0.out (by simp))
  try replace H1 := Lib.hid (H1.out.new hk)
  try replace HB1 := Lib.hid (hk.heap HB1.out (by simp))
  try replace H3 := Lib.hid (H3.out.new hk)
  try replace HB3 := Lib.hid (hk.heap HB3.out (by simp))
  try replace H4 := Lib.hid (H4.out.new hk)
  try replace HB4 := Lib.hid (hk.heap HB4.out (by simp))
  try replace HBZ := Lib.hid (hk.heap HBZ.out (by simp))
  try replace HKD := Lib.hid (hk.heap HKD.out (by simp))
  have HB := Lib.hid hB
  clear hA2 hB hk
  have hnil := fun w => nil_neq w B
  go_wp2_with fail
  clear hnil
  refine (wpIn_wide (n := 12)).1 ?_
  refine wpIn_rangeFunc_ownF (F := Fence.wide) rfl (by omega) (gf := 50) (lb := #[.pointer (some ⟨B, 0, none⟩)]) rfl trivial (enters_of Tryz.func50 (by kernel_rfl) rfl)
    (encs := fun o : Fin 8 => #[.int .u8 (o.val : Int)]) (Kp := KeB [] y.heap.size) (S := fun xs => xs.map (·.val) = oWL none) (Sp := fun pre => pre.map (·.val) <+: oWL none) (N := (oWL none).length) (w0 := y)
    (V.iter 11 y.heap.size [] B y wdZ none (by omega) (fun w' hk => HGL.out w' (HK.out.trans (hk.same rfl) (FSub.refl _ _))) (WoAt.zero R y) HU0.out HB.out (by simp) (lt_of_block HB.out) (Nat.le_refl _) (fun q hq => ⟨by simp, (WoAt.zero R y).old q hq⟩))
    (fun h1 h2 => h1.trans h2) (fun W l o o' hl _ _ _ => keB_b W l o o' hl) (Below.refl _ _) (fun _ => rfl)
    (fun _ Z => Keeps [] y Z) (fun _ _ _ => False) (keeps_own (Nat.le_refl _)) (fun _ _ _ _ _ h => h.elim) (Keeps.refl _ _)
    ?a1 ?assign ?body ?done ?stop
  case assign =>
    intro l x Z K hK
    gi_wp2
    exact hK
  case body =>
    intro l pre x Z hkz hlen
    exact absurd hlen (Nat.not_lt_zero _)
  case stop =>
    rintro D c pre Z hD hpre h hKD
    exact h.elim
  case done =>
    rintro D ys Z hD hys hk hKD
    have HDL := Lib.hid (show w.heap.size ≤ D from by have := lt_of_block H0.out; omega)
    replace HK := Lib.hid (HK.out.trans hk (FSub.refl _ _))
    replace H0 := Lib.hid (hk.heap H0.out (by simp))
    try replace H1 := Lib.hid (H1.out.new hk)
    try replace HB1 := Lib.hid (hk.heap HB1.out (by simp))
    try replace H3 := Lib.hid (H3.out.new hk)
    try replace HB3 := Lib.hid (hk.heap HB3.out (by simp))
    try replace H4 := Lib.hid (H4.out.new hk)
    try replace HB4 := Lib.hid (hk.heap HB4.out (by simp))
    try replace HBZ := Lib.hid (hk.heap HBZ.out (by simp))
    try replace HKD := Lib.hid (hk.heap HKD.out (by simp))
    have HKD := Lib.hid hKD
    clear hk hKD hys hD HB
    go_wp2_with ((with_reducible refine wpList_loadW (g := pZ) wdZ_ok ?_ ?_ (block_range HBZ.out) ?_); exact rfl; exact rfl)
    have hTD := V.text Z _ none (HGL.out _ HK.out) (WoAt.zero R Z) HU0.out
    rw [show bs (oWT none) = { data := #[45] } from rfl] at hTD
    refine hTD.mono ?_; rintro e z1 ⟨rfl, hk⟩
    clear hTD
    replace HK := Lib.hid (HK.out.trans hk (FSub.refl _ _))
    replace H0 := Lib.hid (hk.heap H0.out (by simp))
    try replace H1 := Lib.hid (H1.out.new hk)
    try replace HB1 := Lib.hid (hk.heap HB1.out (by simp))
    try replace H3 := Lib.hid (H3.out.new hk)
    try replace HB3 := Lib.hid (hk.heap HB3.out (by simp))
    try replace H4 := Lib.hid (H4.out.new hk)
    try replace HB4 := Lib.hid (hk.heap HB4.out (by simp))
    try replace HBZ := Lib.hid (hk.heap HBZ.out (by simp))
    try replace HKD := Lib.hid (hk.heap HKD.out (by simp))
    clear hk
    go_wp2_with ((with_reducible refine wpList_loadW (g := pZ) wdZ_ok ?_ ?_ (block_range HBZ.out) ?_); exact rfl; exact rfl)
    have hTD := V.enc z1 _ none (HGL.out _ HK.out) (WoAt.zero R z1) HU0.out
    rw [show bs (oWB none) = { data := #[] } from rfl] at hTD
    refine hTD.mono ?_; rintro e z2 ⟨rfl, hk⟩
    clear hTD
    replace HK := Lib.hid (HK.out.trans hk (FSub.refl _ _))
    replace H0 := Lib.hid (hk.heap H0.out (by simp))
    try replace H1 := Lib.hid (H1.out.new hk)
    try replace HB1 := Lib.hid (hk.heap HB1.out (by simp))
    try replace H3 := Lib.hid (H3.out.new hk)
    try replace HB3 := Lib.hid (hk.heap HB3.out (by simp))
    try replace H4 := Lib.hid (H4.out.new hk)
    try replace HB4 := Lib.hid (hk.heap HB4.out (by simp))
    try replace HBZ := Lib.hid (hk.heap HBZ.out (by simp))
    try replace HKD := Lib.hid (hk.heap HKD.out (by simp))
    clear hk
    go_wp2_with ((with_reducible refine wpList_loadW (g := pZ) wdZ_ok ?_ ?_ (block_range HBZ.out) ?_); exact rfl; exact rfl)
    have hTD := V.same z2 _ none _ none (HGL.out _ HK.out) (WoAt.zero R z2) (WoAt.zero R z2) HU0.out HU0.out
    rw [show oWSame none none = true from rfl] at hTD
    refine hTD.mono ?_; rintro e z3 ⟨rfl, hk⟩
    clear hTD
    replace HK := Lib.hid (HK.out.trans hk (FSub.refl _ _))
    replace H0 := Lib.hid (hk.heap H0.out (by simp))
    try replace H1 := Lib.hid (H1.out.new hk)
    try replace HB1 := Lib.hid (hk.heap HB1.out (by simp))
    try replace H3 := Lib.hid (H3.out.new hk)
    try replace HB3 := Lib.hid (hk.heap HB3.out (by simp))
    try replace H4 := Lib.hid (H4.out.new hk)
    try replace HB4 := Lib.hid (hk.heap HB4.out (by simp))
    try replace HBZ := Lib.hid (hk.heap HBZ.out (by simp))
    try replace HKD := Lib.hid (hk.heap HKD.out (by simp))
    clear hk
    go_wp2_with (first
      | ((with_reducible refine wpList_loadW (g := pZ) wdZ_ok ?_ ?_ (block_range HBZ.out) ?_); exact rfl; exact rfl)
      | ((with_reducible refine wpList_loadW (g := p1) HO1.out ?_ ?_ (block_range HB1.out) ?_); exact rfl; exact rfl))
    have hTD := V.same z3 _ none _ (some (wd0 2)) (HGL.out _ HK.out) (WoAt.zero R z3) H1.out HU0.out HU2.out
    rw [show oWSame none (some (wd0 2)) = false from rfl] at hTD
    refine hTD.mono ?_; rintro e z4 ⟨rfl, hk⟩
    clear hTD
    replace HK := Lib.hid (HK.out.trans hk (FSub.refl _ _))
    replace H0 := Lib.hid (hk.heap H0.out (by simp))
    try replace H1 := Lib.hid (H1.out.new hk)
    try replace HB1 := Lib.hid (hk.heap HB1.out (by simp))
    try replace H3 := Lib.hid (H3.out.new hk)
    try replace HB3 := Lib.hid (hk.heap HB3.out (by simp))
    try replace H4 := Lib.hid (H4.out.new hk)
    try replace HB4 := Lib.hid (hk.heap HB4.out (by simp))
    try replace HBZ := Lib.hid (hk.heap HBZ.out (by simp))
    try replace HKD := Lib.hid (hk.heap HKD.out (by simp))
    clear hk
    go_wp2_with fail
    have hTD := works14_any V z4 (HGL.out _ HK.out)
    refine hTD.mono ?_; rintro e z5 ⟨rfl, hk⟩
    clear hTD
    replace HK := Lib.hid (HK.out.trans hk (FSub.refl _ _))
    replace H0 := Lib.hid (hk.heap H0.out (by simp))
    try replace H1 := Lib.hid (H1.out.new hk)
    try replace HB1 := Lib.hid (hk.heap HB1.out (by simp))
    try replace H3 := Lib.hid (H3.out.new hk)
    try replace HB3 := Lib.hid (hk.heap HB3.out (by simp))
    try replace H4 := Lib.hid (H4.out.new hk)
    try replace HB4 := Lib.hid (hk.heap HB4.out (by simp))
    try replace HBZ := Lib.hid (hk.heap HBZ.out (by simp))
    try replace HKD := Lib.hid (hk.heap HKD.out (by simp))
    clear hk
    have c0 := cell_of_one H0.out
    have f0 := free_of_one H0.out
    go_wp2_with fail
    obtain ⟨hK', hc⟩ := mark14 z5 H0.out HKD.out
    refine ⟨by simp, .inl ⟨_, _, rfl, run_takeDeferred hK', ?_⟩⟩
    refine ⟨.bool true, ?_, rfl, (HK.out.setCell _ _ (.inr (Nat.le_refl _))).putObj _ _ HDL.out⟩
    simp [results, Tryz.f8, go_sem, hc]
end Go.Proofs.YtbnhcggjcdipeaaGreatDoor
