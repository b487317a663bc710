/-
  The program's State: Step.
-/
import Derived.Test.YtbnhcggjcdipeaaGreatDoorWA00
import Derived.RangeFuncNested
import Derived.RangeFuncBound
import Derived.RangeFuncCalls
import Derived.RangeFuncLeaves
import Derived.RangeFuncBox
import Derived.RangeFuncFrom
import Derived.Shelf.Abstract
import Derived.Shelf.RegionOpen
import Derived.OwnWalkIn
import Derived.TacticsInMore
import Derived.LoopNIn
import Derived.LoopIn
import Derived.RegionIn
import Derived.Shelf.Lay
import Derived.Shelf.LaySoft
import Derived.Shelf.Strings.Builder1
import Derived.Shelf.Strings.Builder2
import Derived.Shelf.Strings.OnBuilder
import Derived.Shelf.Small.Bits
import Derived.Shelf.Strings.BuilderF
import Derived.Shelf.Strings.BuilderK
import Derived.Shelf.Strings.Builder2Cap
import Derived.Shelf.Strconv.Itoa0
import Derived.Shelf.Strconv.Itoa1
import Derived.Shelf.LaysM
import Derived.Shelf.Strconv.Itoa2
import Derived.Shelf.Strconv.Itoa3
import Derived.Test.YtbnhcggjcdipeaaGreatDoorProg
import Derived.Test.YtbnhcggjcdipeaaGreatDoorWA32
import Derived.Test.YtbnhcggjcdipeaaGreatDoorWA25
import Derived.Test.YtbnhcggjcdipeaaGreatDoorWA02
import Derived.Test.YtbnhcggjcdipeaaGreatDoorWA03
import Derived.Test.YtbnhcggjcdipeaaGreatDoorWA21
import Derived.Test.YtbnhcggjcdipeaaGreatDoorWA33
set_option linter.unusedSimpArgs false
set_option linter.unusedVariables false
namespace Go.Proofs.YtbnhcggjcdipeaaGreatDoor
open Go.RowKit
set_option maxRecDepth 100000
def mkOf (m : Int) : Nat := if m = 0 then 72 else if m = 1 then 73 else if m = 2 then 74 else 75
theorem mkOf_any (w : World) {m : Int} (h0 : 0 ≤ m) (h3 : m ≤ 3) : CallsV w (fnV (mkOf m)) [] fun e w' => ∃ k : Kd, e = .returned (.agg k.cs.toArray) ∧ KindB w.heap.size w' m k ∧ Keeps [] w w' := by
  rcases (by omega : m = 0 ∨ m = 1 ∨ m = 2 ∨ m = 3) with rfl | rfl | rfl | rfl
  · exact CallsV.of _ rfl ⟨_, Tryz.func72, by kernel_rfl, by kernel_rfl⟩ (mdRegs_any w)
  · exact CallsV.of _ rfl ⟨_, Tryz.func73, by kernel_rfl, by kernel_rfl⟩ (mdQues_any w)
  · exact CallsV.of _ rfl ⟨_, Tryz.func74, by kernel_rfl, by kernel_rfl⟩ (mdMaps_any w)
  · exact CallsV.of _ rfl ⟨_, Tryz.func75, by kernel_rfl, by kernel_rfl⟩ (mdLocks_any w)
theorem index_mk {m : Int} (h0 : 0 ≤ m) (h3 : m ≤ 3) (w : World) : (Instr.index 119 (.agg #[.func (.func 72) #[] #[], .func (.func 73) #[] #[], .func (.func 74) #[] #[], .func (.func 75) #[] #[]]) (.int .u8 m)).run Tryz.prog w = .ok (fnV (mkOf m)) w := by
  rcases (by omega : m = 0 ∨ m = 1 ∨ m = 2 ∨ m = 3) with rfl | rfl | rfl | rfl
  · exact index_ks0 w
  · exact index_ks1 w
  · exact index_ks2 w
  · exact index_ks3 w
theorem fldS (k : Kd) (w : World) : (Instr.field 106 (.agg k.cs.toArray) 1).run Tryz.prog w = .ok (fv k.s) w := (run_field Tryz.underlying106 rfl w).trans (run_part1 Tryz.underlying101 rfl rfl w)
theorem vars4b (w : World) (A B C D : Array Value) (t1 t2 t3 t4 : TypeId) (W : World) (hW : W = (((w.alloc (.cells A t1)).alloc (.cells B t2)).alloc (.cells C t3)).alloc (.cells D t4)) :
    W.heap[w.heap.size]? = some (.cells A t1 (0, 0)) ∧ W.heap[w.heap.size + 1]? = some (.cells B t2 (0, 0)) := by
  have e : ∀ (W : World) (o : Obj), (W.alloc o).heap.size = W.heap.size + 1 := fun _ _ => Array.size_push _
  subst hW
  refine ⟨((((Keeps.refl [] _).alloc _).alloc _).alloc _).heap (heap_alloc_new w _) (by simp), ?_⟩
  have h := heap_alloc_new (w.alloc (.cells A t1)) (.cells B t2)
  rw [e] at h
  exact (((Keeps.refl [] _).alloc _).alloc _).heap h (by simp)
set_option maxHeartbeats 8000000
theorem mdStep_any (w : World) (hG : Glob13 w) {st : Value} {O : Option Md} (h : StAt w st O) (hl : oLen O ≤ 1000) {c : Int} {x : Opn} (hc0 : 0 ≤ c) (hc1 : c < 256) (hx : x.In) : Calls Tryz.prog 33 #[st, .int .u8 c, x.val] w fun e w' =>
    ∃ st', e = .returned (.tuple #[st', .agg (ansC (oX O c x).2.1).toArray, .int .i64 (oX O c x).2.2]) ∧ StAt w' st' (oX O c x).1 ∧ Keeps [] w w' ∧ FSub (stFoot st') (stFoot st) w.heap.size := by
  obtain ⟨o, rfl, ho⟩ := h.one
  obtain ⟨W, hW⟩ : ∃ W, W = (((w.alloc (.cells #[o] 30)).alloc (.cells #[.int .u8 x.f, .int .u8 x.o, .int .u8 x.k, .int .u16 x.a, .int .u16 x.b] 47)).alloc (.cells #[.nilIface] 30)).alloc (.cells #[.int .u8 0, .int .u16 0] 25) := ⟨_, rfl⟩
  obtain ⟨hk0, h2, h3, hz⟩ := vars4 w _ _ _ _ _ _ _ _ W hW
  obtain ⟨h0, h1⟩ := vars4b w _ _ _ _ _ _ _ _ W hW
  have HWW := Lib.hid hW; have HK := Lib.hid hk0; have H1 := Lib.hid ho; have H0 := Lib.hid h
  have HVS := Lib.hid (show W.heap[w.heap.size]? = some (.cells [o].toArray 30 (0, 0)) from h0); have HVX := Lib.hid (show W.heap[w.heap.size + 1]? = some (.cells (opC x).toArray 47 (0, 0)) from h1)
  have HRS := Lib.hid (show W.heap[w.heap.size + 1 + 1]? = some (.cells mdZ.toArray 30 (0, 0)) from h2); have HRR := Lib.hid (show W.heap[w.heap.size + 1 + 1 + 1]? = some (.cells (ansC ⟨0, 0⟩).toArray 25 (0, 0)) from h3)
  have HA := Lib.hid (h.new hk0); have HG := Lib.hid (hG.new hk0); have HX := Lib.hid hx; have HL := Lib.hid hl
  clear hW hk0 h2 h3 hz h0 h1 ho h hG hx hl
  unfold Opn.val
  cases O with
  | none =>
    rw [show oX none c x = (none, ⟨0, 0⟩, 1) from rfl]
    go_enter Tryz.func33, Tryz.ntmps33
    go_wp2_with fail
    rw [← HWW.out]
    refine (mdModel_any _ HA.out).mono ?_; rintro e w1 ⟨rfl, hk⟩
    replace HK := Lib.hid (HK.out.trans hk (FSub.refl _ _))
    replace HVS := Lib.hid (hk.heap HVS.out (by simp)); replace HVX := Lib.hid (hk.heap HVX.out (by simp))
    replace HRS := Lib.hid (hk.heap HRS.out (by simp)); replace HRR := Lib.hid (hk.heap HRR.out (by simp))
    replace HA := Lib.hid (HA.out.new hk); replace HG := Lib.hid (HG.out.new hk)
    have c0 : w1.cell? ⟨w.heap.size, 0, none⟩ = some o := cell_lit HVS.out 0 rfl
    clear hk HWW
    rw [show oModel none = 0 from rfl, show (none : Option Md).isSome = false from rfl]
    go_wp2_with (first
      | ((with_reducible refine wpList_putM (g := w.heap.size + 1 + 1) (old := mdZ) (A := [o]) (st_ok o H1.out) mdZ_ok ?_ ?_ HRS.out ?_); exact rfl; exact rfl))
    intro W1 hW hkW
    have HW := Lib.hid hW; have HKW := Lib.hid hkW
    have HR2 := Lib.hid (hkW.heap HRR.out (by simp))
    clear hW hkW
    go_wp2_with ((with_reducible refine wpList_putR12 (g := w.heap.size + 1 + 1 + 1) (old := ⟨0, 0⟩) ⟨0, 0⟩ ?_ ?_ HR2.out ?_); exact rfl; exact rfl)
    intro W2 hW hkW
    have HW2 := Lib.hid (hkW.heap HW.out (by simp)); have HKW2 := Lib.hid hkW; have HR3 := Lib.hid hW
    clear hW hkW
    go_wp2_with fail
    try simp only [Exit.inBlock, Exit.then]
    have hk2 : Keeps [] w W2 := (HK.out.trans HKW.out (fun q hq => .inr (by simp at hq; omega))).trans HKW2.out (fun q hq => .inr (by simp at hq; omega))
    exact bodyPost_ret (results_sk3 skM rfl _ _ (w.heap.size + 1 + 1) (w.heap.size + 1 + 1 + 1) (st_ok o H1.out) ⟨0, 0⟩ rfl HW2.out rfl HR3.out) rfl ⟨_, rfl, H0.out.new hk2, hk2, FSub.refl _ _⟩
  | some S =>
    by_cases hc : 15 < c
    · have e0 : oX (some S) c x = (some S, ⟨0, 0⟩, 2) := by show (some (mdX S c x).1, (mdX S c x).2.1, (mdX S c x).2.2) = _; unfold mdX; rw [if_pos hc]
      have z : decide (16 ≤ c) = true := decide_eq_true (by omega)
      rw [e0]
      clear hc0 hc1 hc e0
      go_enter Tryz.func33, Tryz.ntmps33
      go_wp2_with fail
      rw [← HWW.out]
      refine (mdModel_any _ HA.out).mono ?_; rintro e w1 ⟨rfl, hk⟩
      replace HK := Lib.hid (HK.out.trans hk (FSub.refl _ _))
      replace HVS := Lib.hid (hk.heap HVS.out (by simp)); replace HVX := Lib.hid (hk.heap HVX.out (by simp))
      replace HRS := Lib.hid (hk.heap HRS.out (by simp)); replace HRR := Lib.hid (hk.heap HRR.out (by simp))
      replace HA := Lib.hid (HA.out.new hk); replace HG := Lib.hid (HG.out.new hk)
      have c0 : w1.cell? ⟨w.heap.size, 0, none⟩ = some o := cell_lit HVS.out 0 rfl
      clear hk HWW
      rw [show oModel (some S) = S.model from rfl, show (some S).isSome = true from rfl]
      go_wp2_with (first
        | ((with_reducible refine wpList_putM (g := w.heap.size + 1 + 1) (old := mdZ) (A := [o]) (st_ok o H1.out) mdZ_ok ?_ ?_ HRS.out ?_); exact rfl; exact rfl))
      intro W1 hW hkW
      have HW := Lib.hid hW; have HKW := Lib.hid hkW
      have HR2 := Lib.hid (hkW.heap HRR.out (by simp))
      clear hW hkW
      go_wp2_with ((with_reducible refine wpList_putR12 (g := w.heap.size + 1 + 1 + 1) (old := ⟨0, 0⟩) ⟨0, 0⟩ ?_ ?_ HR2.out ?_); exact rfl; exact rfl)
      intro W2 hW hkW
      have HW2 := Lib.hid (hkW.heap HW.out (by simp)); have HKW2 := Lib.hid hkW; have HR3 := Lib.hid hW
      clear hW hkW
      go_wp2_with fail
      try simp only [Exit.inBlock, Exit.then]
      have hk2 : Keeps [] w W2 := (HK.out.trans HKW.out (fun q hq => .inr (by simp at hq; omega))).trans HKW2.out (fun q hq => .inr (by simp at hq; omega))
      exact bodyPost_ret (results_sk3 skM rfl _ _ (w.heap.size + 1 + 1) (w.heap.size + 1 + 1 + 1) (st_ok o H1.out) ⟨0, 0⟩ rfl HW2.out rfl HR3.out) rfl ⟨_, rfl, H0.out.new hk2, hk2, FSub.refl _ _⟩
    · have z : decide (16 ≤ c) = false := decide_eq_false (by omega)
      by_cases hq : opChk S.model x = 0
      · have e0 : oX (some S) c x = (some (mdY S c x).1, (mdY S c x).2, 0) := by show (some (mdX S c x).1, (mdX S c x).2.1, (mdX S c x).2.2) = _; unfold mdX; rw [if_neg hc, if_pos hq]
        rw [e0]
        have HC := Lib.hid (fun w hG => hq ▸ Check4_any w hG S.model x.f x.o x.k x.a x.b S.model_in.1 (by have := S.model_in.2; omega) HX.out)
        have HST := Lib.hid (fun (w w' : World) (k : Kd) (o : Value) (hk : KindAt w S.model k) (hkk : Keeps [] w w') (hg : Glob13 w') (ho : ObAt w' o S) => hk.step w' o S c x hkk hg ho rfl HL.out hc0 (by omega) HX.out hq)
        obtain ⟨t, v, rfl⟩ : ∃ t v, o = .iface t v := by
          obtain ⟨o2, e2, ho⟩ := HA.out
          obtain rfl : o = o2 := by simpa using e2
          exact ObAt.iface ho
        have HF0 := Lib.hid (show ∀ q ∈ obFoot (.iface t v), q < w.heap.size from by
          obtain ⟨o2, e2, ho⟩ := H0.out
          obtain rfl : Value.iface t v = o2 := by simpa using e2
          exact ObAt.old ho)
        have HI := Lib.hid (fun w => index_mk S.model_in.1 S.model_in.2 w)
        have HMK := Lib.hid (fun w => mkOf_any w S.model_in.1 S.model_in.2)
        clear hc0 hc1 hc e0 hq
        generalize mdY S c x = Y at *
        obtain ⟨S2, r⟩ := Y
        simp only at HST ⊢
        go_enter Tryz.func33, Tryz.ntmps33
        go_wp2_with fail
        rw [← HWW.out]
        refine (mdModel_any _ HA.out).mono ?_; rintro e w1 ⟨rfl, hk⟩
        replace HK := Lib.hid (HK.out.trans hk (FSub.refl _ _))
        replace HVS := Lib.hid (hk.heap HVS.out (by simp)); replace HVX := Lib.hid (hk.heap HVX.out (by simp))
        replace HRS := Lib.hid (hk.heap HRS.out (by simp)); replace HRR := Lib.hid (hk.heap HRR.out (by simp))
        replace HA := Lib.hid (HA.out.new hk); replace HG := Lib.hid (HG.out.new hk)
        have c0 : w1.cell? ⟨w.heap.size, 0, none⟩ = some (.iface t v) := cell_lit HVS.out 0 rfl
        clear hk HWW
        rw [show oModel (some S) = S.model from rfl, show (some S).isSome = true from rfl]
        generalize S.model = m at *
        go_wp2_with ((with_reducible refine wpList_loadP (g := w.heap.size + 1) (off := 0) x ?_ ?_ (block_range HVX.out) ?_); exact rfl; exact rfl)
        refine (HC.out _ HG.out.ops).mono ?_; rintro e w2 ⟨rfl, hk⟩
        clear c0
        replace HK := Lib.hid (HK.out.trans hk (FSub.refl _ _))
        replace HVS := Lib.hid (hk.heap HVS.out (by simp)); replace HVX := Lib.hid (hk.heap HVX.out (by simp))
        replace HRS := Lib.hid (hk.heap HRS.out (by simp)); replace HRR := Lib.hid (hk.heap HRR.out (by simp))
        replace HA := Lib.hid (HA.out.new hk); replace HG := Lib.hid (HG.out.new hk)
        clear hk
        go_wp2_with fail
        obtain ⟨S0, hS0⟩ : ∃ S0 : World → Prop, S0 = fun y => Keeps [] w2 y := ⟨_, rfl⟩
        have HSE := Lib.hid hS0
        have hSD : S0 w2.drew := by rw [hS0]; exact ((Keeps.refl [] _).drew).more (by simp)
        have HSO := Lib.hid (fun (w' : World) (hh : S0 w') => show w'.cell? ⟨w.heap.size, 0, none⟩ = some (.iface t v) from by rw [hS0] at hh; exact hh.cell (cell_lit HVS.out 0 rfl) (by simp))
        have HSX := Lib.hid (fun (w' : World) (hh : S0 w') => show w'.rangeAt (w.heap.size + 1) 0 (opC x) from by rw [hS0] at hh; exact fun j v hv => hh.cell (block_range HVX.out j v hv) (by simp))
        clear hS0
        have HQ := Lib.hid ((Keeps.refl [] w2).drew)
        refine wp_region_noPanic ?_
        refine wp_region_held_drew (S := S0) (by kernel_rfl) hSD (fun hHeld => ?_)
        refine tw 1 (h := ?_)
        refine tw 5 (h := ?_)
        refine tk 6 (y := by exact Or.inl ⟨by rfl, by intro w hSw; have q0 := HSO.out w hSw; go_simp; try with_reducible rfl⟩) (h := ?_)
        refine tw 7 (h := ?_)
        refine tk 8 (y := by exact yields_loadP x rfl _ rfl (w.heap.size + 1) 0 rfl HSX.out) (h := ?_)
        generalize w2.drew = YC at *
        iterate 4
          all_goals
            first
              | apply wpAnyH_ready (rs := [0, 14])
                · decide +kernel
                · simp
                refine acn ?_ (acn ?_ (AllReadyH.nil))
              | apply wpAnyH_ready (rs := [3, 14])
                · decide +kernel
                · simp
                refine acn ?_ (acn ?_ (AllReadyH.nil))
              | apply wpAnyH_ready (rs := [9, 14])
                · decide +kernel
                · simp
                refine acn ?_ (acn ?_ (AllReadyH.nil))
              | apply wpAnyH_ready (rs := [0])
                · decide +kernel
                · simp
                refine acn ?_ (AllReadyH.nil)
              | apply wpAnyH_ready (rs := [3])
                · decide +kernel
                · simp
                refine acn ?_ (AllReadyH.nil)
              | apply wpAnyH_ready (rs := [9])
                · decide +kernel
                · simp
                refine acn ?_ (AllReadyH.nil)
              | apply wpAnyH_ready (rs := [14])
                · decide +kernel
                · simp
                refine acn ?_ (AllReadyH.nil)
            all_goals
              intro K hK
              rw [if_pos (by rfl)]
              first
              | refine wp_call9 53 _ _ rfl [] rfl Tryz.func53 (by kernel_rfl) (by kernel_rfl) ((mdKinds_any _).mono ?_)
                rintro e YC ⟨rfl, hk⟩
                refine ⟨_, rfl, ?_⟩
                try replace HBB := Lib.hid (hk.heap HBB.out (by simp))
                try replace HBK := Lib.hid (HBK.out.trans hk (FSub.refl _ _))
                try replace HOB := Lib.hid (HOB.out.new hk)
                replace HQ := Lib.hid (HQ.out.trans hk (FSub.refl _ _))
                clear hk
                refine hK.out _ _ (by rw [HSE.out]; exact HQ.out) (fun hHeld => ?_); clear hK K; try simp only [Act.put, lsA, lsZ, lsS]
                have hi := HI.out
                refine tw 2 (h := ?_)
                clear hi
              | refine wp_callC _ _ _ rfl rfl [] rfl ((HMK.out _).mono ?_)
                rintro e YC ⟨k, rfl, hkb, hk⟩
                refine ⟨_, rfl, ?_⟩
                try replace HBB := Lib.hid (hk.heap HBB.out (by simp))
                try replace HBK := Lib.hid (HBK.out.trans hk (FSub.refl _ _))
                try replace HOB := Lib.hid (HOB.out.new hk)
                replace HQ := Lib.hid (HQ.out.trans hk (FSub.refl _ _))
                have HKD := Lib.hid hkb.at
                have HBK := Lib.hid (Keeps.refl [] YC)
                clear hk hkb
                refine hK.out _ _ (by rw [HSE.out]; exact HQ.out) (fun hHeld => ?_); clear hK K; try simp only [Act.put, lsA, lsZ, lsS]
                have hf := fldS k
                refine tw 4 (h := ?_)
                clear hf
              | refine wp_callC _ _ _ rfl rfl _ rfl ((HST.out _ _ k _ HKD.out HBK.out (HG.out.new HQ.out) (by obtain ⟨o2, e2, ho⟩ := (HA.out.new HQ.out); obtain rfl : Value.iface t v = o2 := (by simpa using e2); exact ho)).mono ?_)
                rintro e YC ⟨o', rfl, ho', hk, hf'⟩
                refine ⟨_, rfl, ?_⟩
                have HFS := Lib.hid (hf'.mono HQ.out.size)
                try have HFN := Lib.hid (show ∀ q ∈ obFoot o', q ≠ gb from fun q hq => by
                  rcases hf' q hq with h | h
                  · have h1 := HF0.out q h; have h2 := HGB.out; have h3 := HK.out.size; omega
                  · have := lt_of_block HBB.out; omega)
                try replace HBB := Lib.hid (hk.heap HBB.out (by simp))
                try replace HBK := Lib.hid (HBK.out.trans hk (FSub.refl _ _))
                try replace HOB := Lib.hid (HOB.out.new hk)
                replace HQ := Lib.hid (HQ.out.trans hk (FSub.refl _ _))
                have HOB := Lib.hid ho'
                clear hk ho' hf'
                refine hK.out _ _ (by rw [HSE.out]; exact HQ.out) (fun hHeld => ?_); clear hK K; try simp only [Act.put, lsA, lsZ, lsS]
                refine tw 10 (h := ?_)
                refine tw 11 (h := ?_)
                refine tw 12 (h := ?_)
                refine tw 13 (h := ?_)
              | refine wp_allocA _ _ _ _ rfl ?_
                have hk : Keeps [] YC (YC.alloc (.cells (ansC ⟨0, 0⟩).toArray 25)) := (Keeps.refl _ _).alloc _
                have hb := heap_alloc_new YC (.cells (ansC ⟨0, 0⟩).toArray 25)
                have HGB := Lib.hid HQ.out.size
                try have HFN := Lib.hid (fun q hq => (show q ≠ YC.heap.size from Nat.ne_of_lt (HOB.out.old q hq)))
                try replace HBB := Lib.hid (hk.heap HBB.out (by simp))
                try replace HBK := Lib.hid (HBK.out.trans hk (FSub.refl _ _))
                try replace HOB := Lib.hid (HOB.out.new hk)
                replace HQ := Lib.hid (HQ.out.trans hk (FSub.refl _ _))
                have HBB := Lib.hid hb
                clear hk hb
                generalize YC.heap.size = gb at *
                generalize YC.alloc (.cells (ansC ⟨0, 0⟩).toArray 25) = YC at *
                refine hK.out _ _ (by rw [HSE.out]; exact HQ.out) (fun hHeld => ?_); clear hK K; try simp only [Act.put, lsA, lsZ, lsS]
        all_goals
          obtain ⟨t2, v2, rfl⟩ := HOB.out.iface
          refine tw 15 (h := ?_)
          refine rp 16 (h := fun K hK => ?_)
          refine wp_putN rfl (g := gb) (old := ⟨0, 0⟩) r rfl rfl HBB.out (fun YC hV hk => ?_)
          replace HBB := Lib.hid hV
          replace HOB := Lib.hid (HOB.out.keep hk (fun q hq => by have := HFN.out q hq; simpa using this))
          replace HQ := Lib.hid (HQ.out.trans' hk HGB.out)
          clear hV hk
          refine hK.out _ _ (by rw [HSE.out]; exact HQ.out) (fun hHeld => ?_); clear hK K; try simp only [Act.put, lsA, lsZ, lsS]
          refine tw 17 (h := ?_)
          refine wpAnyH_done (by kernel_rfl) ?_ _
          refine NoPanic.normal ?_
          go_wp2_with fail
          have HKE := Lib.hid (HK.out.trans HQ.out (FSub.refl _ _))
          have HRS2 := Lib.hid (HQ.out.heap HRS.out (by simp)); have HRR2 := Lib.hid (HQ.out.heap HRR.out (by simp))
          have HLT := Lib.hid (show w.heap.size + 1 + 1 + 1 < gb from Nat.lt_of_lt_of_le (lt_of_block HRR.out) HGB.out)
          obtain ⟨S1, hS1⟩ : ∃ S1 : World → Prop, S1 = fun y => Keeps [w.heap.size + 1 + 1, w.heap.size + 1 + 1 + 1] YC y := ⟨_, rfl⟩
          have HSE1 := Lib.hid hS1
          have hSD1 : S1 YC.drew := by rw [hS1]; exact ((Keeps.refl [] _).drew).more (by simp)
          have HSR := Lib.hid (fun (w' : World) (hh : S1 w') => show w'.rangeAt gb 0 (ansC r) from by rw [hS1] at hh; exact fun j v hv => hh.cell (block_range HBB.out j v hv) (by have := HLT.out; simp; omega))
          clear hS1
          refine wp_region_noPanic ?_
          refine wp_region_held_drew (S := S1) (by kernel_rfl) hSD1 (fun hHeld => ?_)
          refine tw 0 (h := ?_)
          refine tw 1 (h := ?_)
          refine tk 2 (y := by exact yields_ansC (by rfl) _ rfl gb 0 rfl r HSR.out) (h := ?_)
          refine tw 3 (h := ?_)
          refine rp 4 (h := fun K hK => ?_)
          refine skM.wp_put rfl (g := w.heap.size + 1 + 1) (old := mdZ) (A := [.iface t2 v2]) (st_ok _ rfl) mdZ_ok rfl rfl (((Keeps.refl [] YC).drew).heap HRS2.out (by simp)) (fun W6 hV hk => ?_)
          have HV6 := Lib.hid hV
          have HR6 := Lib.hid (hk.heap (((Keeps.refl [] YC).drew).heap HRR2.out (by simp)) (by simp))
          have HQ6 := Lib.hid ((((Keeps.refl [] YC).drew).more (G := [w.heap.size + 1 + 1, w.heap.size + 1 + 1 + 1]) (by simp)).trans (hk.more (by simp)) (FSub.refl _ _))
          clear hV hk
          refine hK.out _ _ (by rw [HSE1.out]; exact HQ6.out) (fun hHeld => ?_); clear hK K; try simp only [Act.put, lsA, lsZ, lsS]
          refine rp 5 (h := fun K hK => ?_)
          refine wp_putN rfl (g := w.heap.size + 1 + 1 + 1) (old := ⟨0, 0⟩) r rfl rfl HR6.out (fun W7 hV hk => ?_)
          have HV7 := Lib.hid (hk.heap HV6.out (by simp))
          have HR7 := Lib.hid hV
          have HQ7 := Lib.hid (HQ6.out.trans (hk.more (by simp)) (FSub.refl _ _))
          clear hV hk
          refine hK.out _ _ (by rw [HSE1.out]; exact HQ7.out) (fun hHeld => ?_); clear hK K; try simp only [Act.put, lsA, lsZ, lsS]
          refine tw 6 (h := ?_)
          refine wpAnyH_done (by kernel_rfl) ?_ _
          refine NoPanic.normal ?_
          go_wp2_with fail
          try simp only [Exit.inBlock, Exit.then]
          exact bodyPost_ret (results_sk3 skM rfl _ _ (w.heap.size + 1 + 1) (w.heap.size + 1 + 1 + 1) (st_ok (.iface t2 v2) rfl) r rfl HV7.out rfl HR7.out) rfl ⟨_, rfl, ⟨_, rfl, HOB.out.keep HQ7.out (fun q hq => by
            rcases HFS.out q hq with h | h
            · have h1 := HF0.out q h; simp; omega
            · have h1 := lt_of_block HRR.out; simp; omega)⟩, HKE.out.trans HQ7.out (fun q hq => .inr (by simp at hq; omega)), HFS.out.mono HK.out.size⟩
      · have e1 := (opChk_or S.model x).resolve_left hq
        have e0 : oX (some S) c x = (some S, ⟨0, 0⟩, 10) := by show (some (mdX S c x).1, (mdX S c x).2.1, (mdX S c x).2.2) = _; unfold mdX; rw [if_neg hc, if_neg hq]
        rw [e0]
        have HC := Lib.hid (fun w hG => e1 ▸ Check4_any w hG S.model x.f x.o x.k x.a x.b S.model_in.1 (by have := S.model_in.2; omega) HX.out)
        clear hc0 hc1 hc e0 hq e1
        go_enter Tryz.func33, Tryz.ntmps33
        go_wp2_with fail
        rw [← HWW.out]
        refine (mdModel_any _ HA.out).mono ?_; rintro e w1 ⟨rfl, hk⟩
        replace HK := Lib.hid (HK.out.trans hk (FSub.refl _ _))
        replace HVS := Lib.hid (hk.heap HVS.out (by simp)); replace HVX := Lib.hid (hk.heap HVX.out (by simp))
        replace HRS := Lib.hid (hk.heap HRS.out (by simp)); replace HRR := Lib.hid (hk.heap HRR.out (by simp))
        replace HA := Lib.hid (HA.out.new hk); replace HG := Lib.hid (HG.out.new hk)
        have c0 : w1.cell? ⟨w.heap.size, 0, none⟩ = some o := cell_lit HVS.out 0 rfl
        clear hk HWW
        rw [show oModel (some S) = S.model from rfl, show (some S).isSome = true from rfl]
        go_wp2_with ((with_reducible refine wpList_loadP (g := w.heap.size + 1) (off := 0) x ?_ ?_ (block_range HVX.out) ?_); exact rfl; exact rfl)
        refine (HC.out _ HG.out.ops).mono ?_; rintro e w2 ⟨rfl, hk⟩
        clear c0
        replace HK := Lib.hid (HK.out.trans hk (FSub.refl _ _))
        replace HVS := Lib.hid (hk.heap HVS.out (by simp)); replace HVX := Lib.hid (hk.heap HVX.out (by simp))
        replace HRS := Lib.hid (hk.heap HRS.out (by simp)); replace HRR := Lib.hid (hk.heap HRR.out (by simp))
        replace HA := Lib.hid (HA.out.new hk); replace HG := Lib.hid (HG.out.new hk)
        have c0 : w2.cell? ⟨w.heap.size, 0, none⟩ = some o := cell_lit HVS.out 0 rfl
        clear hk
        go_wp2_with (first
          | ((with_reducible refine wpList_putM (g := w.heap.size + 1 + 1) (old := mdZ) (A := [o]) (st_ok o H1.out) mdZ_ok ?_ ?_ HRS.out ?_); exact rfl; exact rfl))
        intro W1 hW hkW
        have HW := Lib.hid hW; have HKW := Lib.hid hkW
        have HR2 := Lib.hid (hkW.heap HRR.out (by simp))
        clear hW hkW
        go_wp2_with ((with_reducible refine wpList_putR12 (g := w.heap.size + 1 + 1 + 1) (old := ⟨0, 0⟩) ⟨0, 0⟩ ?_ ?_ HR2.out ?_); exact rfl; exact rfl)
        intro W2 hW hkW
        have HW2 := Lib.hid (hkW.heap HW.out (by simp)); have HKW2 := Lib.hid hkW; have HR3 := Lib.hid hW
        clear hW hkW
        go_wp2_with fail
        try simp only [Exit.inBlock, Exit.then]
        have hk2 : Keeps [] w W2 := (HK.out.trans HKW.out (fun q hq => .inr (by simp at hq; omega))).trans HKW2.out (fun q hq => .inr (by simp at hq; omega))
        exact bodyPost_ret (results_sk3 skM rfl _ _ (w.heap.size + 1 + 1) (w.heap.size + 1 + 1 + 1) (st_ok o H1.out) ⟨0, 0⟩ rfl HW2.out rfl HR3.out) rfl ⟨_, rfl, H0.out.new hk2, hk2, FSub.refl _ _⟩
end Go.Proofs.YtbnhcggjcdipeaaGreatDoor
/-
  The program's State: Fits; all that the program's objects must tell.
-/
namespace Go.Proofs.YtbnhcggjcdipeaaGreatDoor
open Go.RowKit
set_option maxRecDepth 100000
set_option maxHeartbeats 8000000
theorem StAt.old {w : World} {st : Value} {O : Option Md} (h : StAt w st O) : ∀ q ∈ stFoot st, q < w.heap.size := by
  obtain ⟨o, rfl, h⟩ := h
  cases O with
  | none => obtain rfl : o = .nilIface := h; intro q hq; cases hq
  | some S => exact ObAt.old h
theorem StAt.in_ {w : World} {st : Value} {S : Md} (h : StAt w st (some S)) : S.In := by
  obtain ⟨o, rfl, h⟩ := h
  exact ObAt.in_ h
def mdP : MdProg Glob13 where
  At := StAt
  foot := stFoot
  keepG := fun h hk => h.new hk
  keep := fun h hk hF => h.keep hk hF
  old := fun h => h.old
  cells := fun h => by
    obtain ⟨o, rfl, ho⟩ := h.one
    exact ⟨[o], rfl, st_ok o ho⟩
  in_ := fun h => h.in_
  zero := fun w => ⟨_, rfl, rfl⟩
  new := fun w m _ hm => mdNew_any w hm.1
  model := fun w st O _ h => mdModel_any w h
  step := fun w st O c x hG h hl hc hx => mdStep_any w hG h hl hc.1 hc.2 hx
  initial := fun w st O hG h hl => mdInitial_any w hG h hl
  enc := fun w st O hG h hl => mdEncode_any w hG h hl
  text := fun w st O hG h hl => mdText_any w hG h hl
theorem mdP_same : MdSame mdP where
  same := fun w st O st2 P hG h h2 hl hl2 => mdSame_any w hG h h2 hl hl2
theorem mdP_dec : MdDec mdP where
  dec := fun w m b _ hm hb => mdDecode_any w hm.1 hb
end Go.Proofs.YtbnhcggjcdipeaaGreatDoor
