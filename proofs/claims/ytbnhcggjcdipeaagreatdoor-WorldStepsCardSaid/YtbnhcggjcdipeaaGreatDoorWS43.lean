/-
  The law WorldSteps, over any program's worlds.
-/
import Derived.Test.YtbnhcggjcdipeaaGreatDoorWS00
import Derived.Test.YtbnhcggjcdipeaaGreatDoorWS42
import Derived.Test.YtbnhcggjcdipeaaGreatDoorWS40
set_option linter.unusedSimpArgs false
set_option linter.unusedVariables false
namespace Go.Proofs.YtbnhcggjcdipeaaGreatDoor
open Go.RowKit
set_option maxRecDepth 100000
set_option maxHeartbeats 8000000
variable {G : World → Prop}
/-- What Fits tells. -/
def PostF {β : Type} (kp : Kept β) (D : Bool) (ol : (Nat → Prop) → Prop) (w : World) (e : Ending) (w' : World) : Prop :=
  ∃ x : β, e = .returned (.tuple #[.agg (kp.cs x).toArray, .bool D]) ∧ kp.P x w' ∧ Keeps [] w w' ∧ ∀ p : Nat → Prop, ol p → (∀ q, w.heap.size ≤ q → p q) → kp.Ap x p
theorem WdProg.postF {R : MdProg G} (V : WdProg R) (w : World) {A : List Value} {W : Wd} (hG : G w) (h : WoAt R w (.agg A.toArray) (some W)) (hu : W.upto 1000) {c : Int} (hc : 0 ≤ c ∧ c < 256) {x : Opn} (hx : x.In) {r : Ans} (hr : (0 ≤ r.k ∧ r.k < 256) ∧ (0 ≤ r.v ∧ r.v < 65536)) :
    Calls Tryz.prog 15 #[.agg A.toArray, .int .u8 c, x.val, .agg (ansC r).toArray] w (PostF (kpW R (some (if (wdX W c x).2.2 = 0 ∧ (wdX W c x).2.1 = r then (wdX W c x).1 else W))) (decide ((wdX W c x).2.2 = 0 ∧ (wdX W c x).2.1 = r)) (ApW R A) w) := by
  refine (V.fits w _ (some W) c x r hG h (fun V' e => by obtain rfl := Option.some.inj e; exact hu) hc hx hr).mono ?_
  rintro e w' ⟨st', rfl, hat, hk, hf⟩
  obtain ⟨B, rfl, hB⟩ := hat.cells
  refine ⟨B, rfl, ?_, hk, fun p hp hn q hq => (hf q hq).elim (hp q) (hn q)⟩
  have e1 : (if (oWX (some W) c x).2.2 = 0 ∧ (oWX (some W) c x).2.1 = r then (oWX (some W) c x).1 else some W) = some (if (wdX W c x).2.2 = 0 ∧ (wdX W c x).2.1 = r then (wdX W c x).1 else W) := by
    simp only [oWX]
    exact (apply_ite some _ _ _).symm
  rw [e1] at hat
  exact hat
theorem wd0_W14 {w w' : World} {v : Value} {m : Int} (h : rkW.Own w.heap.size w' v (List.replicate 8 (mq0 m))) : W14 w' (wd0 m) v (List.replicate 8 (mq0 m)) :=
  W14.own_ h (by rw [List.map_replicate]; rfl) (fun y hy => by rw [(List.mem_replicate.1 hy).2]; exact D13.init w' m)
theorem wd0_Ap {n : Nat} {w' : World} {v : Value} {m : Int} (h : rkW.Own n w' v (List.replicate 8 (mq0 m))) : Ap14 v (List.replicate 8 (mq0 m)) (fun q => n ≤ q) :=
  ⟨fun _ q hq => (row_base h q hq).1, fun y hy => by
    rw [(List.mem_replicate.1 hy).2]
    exact ⟨fun _ b hb => (nomatch (show b ∈ ([] : List Nat) from hb)), fun _ _ _ b hb => (nomatch (show b ∈ ([] : List Nat) from hb))⟩⟩
theorem WorldSteps_any {R : MdProg G} (V : WdProg R) (w : World) (hG : G w) {m : Int} (h0 : 0 ≤ m) (h3 : m ≤ 3) {v : Value} {l : List Cl} (hl : ∀ y ∈ l, y.In) (hI : rkC14.In w.heap.size w v l) (hn : l.length ≤ 60) (rr : Ans) (hrr : (0 ≤ rr.k ∧ rr.k < 256) ∧ (0 ≤ rr.v ∧ rr.v < 65536)) :
    Calls Tryz.prog 3 #[.int .u8 m, v, .agg (ansC rr).toArray] w fun e w' => e = .returned (.bool true) ∧ Keeps [] w w' := by
  obtain ⟨a, cp, rfl, hc, hm, -⟩ := id hI
  have HZ := Lib.hid (show (w.alloc (.cells #[.int .u8 rr.k, .int .u16 rr.v] 25)).heap[w.heap.size]? = some (.cells (ansC rr).toArray 25 (0, 0)) from heap_alloc_new w _)
  have HK := Lib.hid (show Keeps [] w (w.alloc (.cells #[.int .u8 rr.k, .int .u16 rr.v] 25)) from (Keeps.refl _ _).alloc _)
  have HN := Lib.hid (V.new _ m (R.keepG hG HK.out) ⟨h0, by omega⟩)
  rw [if_pos h3, oNew_some h3] at HN
  have HIN := Lib.hid hI; have HLI := Lib.hid hl; have HGL := Lib.hid (fun w' (h : Keeps [] w w') => R.keepG hG h)
  have HRR := Lib.hid hrr
  have HUP := Lib.hid (fun k => show (bhW (wd0 m) (l.take k)).upto 60 from fun S hS => by
    have h1 := bhW_upto (k := 0) (l.take k) (wd0_in h0 h3) (fun y hy => hl y (List.mem_of_mem_take hy)) (wd0_upto m 0) S hS
    have h2 : (l.take k).length ≤ l.length := by rw [List.length_take]; omega
    omega)
  clear hI hl hG hrr hc hm
  generalize hn2 : l.length = n at *
  have HN2 := Lib.hid hn2
  have hn3 : ¬ (60 : Int) < n := by omega
  clear hn2
  go_enter Tryz.func3, Tryz.ntmps3
  go_wp2_with fail
  refine HN.out.mono ?_; rintro e w1 ⟨st0, rfl, hat, hk, -⟩
  obtain ⟨A0, rfl, hok0⟩ := hat.cells
  have HLG := Lib.hid (lt_of_block (hk.heap HZ.out (by simp)))
  replace HK := Lib.hid (HK.out.trans hk (FSub.refl _ _))
  replace HZ := Lib.hid (hk.heap HZ.out (by simp))
  have HOK0 := Lib.hid hok0; have HAT := Lib.hid hat; have HF0 := Lib.hid (fun q hq => hat.old q hq)
  have HC := Lib.hid (show (w1.alloc (.cells wdZA 33)).heap[w1.heap.size]? = some (.cells wdZ.toArray 33 (0, 0)) from heap_alloc_new w1 _)
  have HKC := Lib.hid (show Keeps [] w1 (w1.alloc (.cells wdZA 33)) from (Keeps.refl _ _).alloc _)
  clear hat hk hok0 HN
  go_wp2_with ((with_reducible refine wpList_putW (g := w1.heap.size) (old := wdZ) (A := A0) HOK0.out wdZ_ok ?_ ?_ HC.out ?_); exact rfl; exact rfl)
  intro w2 hW hk2
  have hk := HKC.out.trans' hk2 (Nat.le_refl _)
  replace HK := Lib.hid (HK.out.trans hk (FSub.refl _ _))
  replace HZ := Lib.hid (hk.heap HZ.out (by simp))
  replace HAT := Lib.hid (HAT.out.new hk)
  have HB := Lib.hid hW
  have HL2 := Lib.hid (lt_of_block hW)
  clear hW hk hk2 HC HKC
  generalize w1.heap.size = g7 at *
  go_wp2_with fail
  refine (r14New_any w2 h0 h3).mono ?_; rintro e w3 ⟨vd, rfl, hown, hk⟩
  replace HK := Lib.hid (HK.out.trans hk (FSub.refl _ _))
  replace HZ := Lib.hid (hk.heap HZ.out (by simp))
  replace HAT := Lib.hid (HAT.out.new hk); replace HB := Lib.hid (hk.heap HB.out (by simp))
  have HI := Lib.hid (wd0_W14 hown)
  have HOW := Lib.hid (wd0_Ap hown)
  have HAO := Lib.hid HI.out.old
  have HOI := Lib.hid (HI.out.ok m)
  have HL4 := Lib.hid (Nat.lt_of_lt_of_le HL2.out hk.size)
  have HC := Lib.hid (show (w3.alloc (.cells #[.int .u8 0, .slice none 0 0] 39)).heap[w3.heap.size]? = some (.cells wdC0.toArray 39 (0, 0)) from heap_alloc_new w3 _)
  have HKC := Lib.hid (show Keeps [] w3 (w3.alloc (.cells #[.int .u8 0, .slice none 0 0] 39)) from (Keeps.refl _ _).alloc _)
  clear hk hown
  go_wp2_with ((with_reducible refine wpList_putV (g := w3.heap.size) (old := wdC0) (A := wdC m vd) HOI.out wdC0_ok ?_ ?_ HC.out ?_); exact rfl; exact rfl)
  intro w4 hW hk2
  have hk := HKC.out.trans' hk2 (Nat.le_refl _)
  replace HK := Lib.hid (HK.out.trans hk (FSub.refl _ _))
  replace HZ := Lib.hid (hk.heap HZ.out (by simp))
  replace HAT := Lib.hid (HAT.out.new hk); replace HB := Lib.hid (hk.heap HB.out (by simp)); replace HI := Lib.hid (HI.out.new hk)
  have HD := Lib.hid hW
  have HAQ := Lib.hid (show Ap14 vd (List.replicate 8 (mq0 m)) (fun q => q ≠ g7 ∧ q ≠ w3.heap.size) from by
    refine ⟨fun hn q hq => ?_, fun y hy => ?_⟩
    · have h1 := HOW.out.1 hn q hq; have h2 := HAO.out.1 hn q hq; have h3 := HL2.out; exact ⟨by omega, by omega⟩
    · rw [(List.mem_replicate.1 hy).2]
      exact ⟨fun _ b hb => (nomatch (show b ∈ ([] : List Nat) from hb)), fun _ _ _ b hb => (nomatch (show b ∈ ([] : List Nat) from hb))⟩)
  have HL3 := Lib.hid (show g7 < w3.heap.size from HL4.out)
  clear hW hk hk2 HC HKC HOW HAO HL4
  generalize w3.heap.size = g9 at *
  go_wp2_with fail
  go_loopw [13] (fun i wr => ∃ (k : Nat) (A : List Value) (v : Value) (L : List Mq), i = .int .i64 k ∧ k ≤ n ∧ skW.Ok A ∧ wr.heap[g7]? = some (.cells A.toArray 33 (0, 0)) ∧ wr.heap[g9]? = some (.cells (wdC m v).toArray 39 (0, 0)) ∧ WoAt R wr (.agg A.toArray) (some (bhW (wd0 m) (l.take k))) ∧ W14 wr (bhW (wd0 m) (l.take k)) v L ∧ (∀ q ∈ wFoot R (.agg A.toArray), q ≠ g7 ∧ q ≠ g9) ∧ Ap14 v L (fun q => q ≠ g7 ∧ q ≠ g9) ∧ wr.heap[w.heap.size]? = some (.cells (ansC rr).toArray 25 (0, 0)) ∧ Keeps [] w wr) (fun i _ => n - (intOf i).toNat)
  case atStart => exact ⟨0, A0, vd, _, rfl, by omega, HOK0.out, HB.out, HD.out, HAT.out, HI.out, fun q hq => by have := HF0.out q hq; have := HL3.out; omega, HAQ.out, HZ.out, HK.out⟩
  case round =>
    clear HOK0 HB HD HAT HI HF0 HAQ HZ HK HOI HL2
    obtain ⟨k, A, v, L, rfl, hk, hok, hb, hd, hat, hi, hft, hoq, hz, hkw⟩ := hrel
    have HOK := Lib.hid hok; have HB := Lib.hid hb; have HD := Lib.hid hd; have HAT0 := Lib.hid hat; have HI := Lib.hid hi; have HFT := Lib.hid hft; have HOQ := Lib.hid hoq; have HZ := Lib.hid hz; have HK := Lib.hid hkw
    have HOD := Lib.hid (hi.ok m)
    obtain ⟨av, cv, rfl, -⟩ := id hi.row
    clear hok hb hd hat hi hft hoq hz hkw
    by_cases hlt : k < n
    · have hkl : k < l.length := by have := HN2.out; omega
      obtain ⟨g, o, rfl, hg, hr⟩ := InC14_at (HIN.out.new HK.out (Nat.le_refl _)) hkl
      have HRW := Lib.hid hr
      have HNX := Lib.hid (bhW_next (W := wd0 m) hkl)
      have HXI := Lib.hid (HLI.out l[k] (List.getElem_mem hkl))
      have HLK := Lib.hid (HUP.out k)
      have HMW := Lib.hid (show (bhW (wd0 m) (l.take k)).m = m from bhW_m _ _)
      have HLU := Lib.hid (HUP.out (k + 1))
      rw [HNX.out] at HLU
      clear hr
      generalize l[k] = y at *
      generalize bhW (wd0 m) (l.take k) = W at *
      generalize L.length = ln at *
      have HWI := Lib.hid HAT0.out.in_
      have HM1 := Lib.hid ((wdX_m W y.c y.x).trans HMW.out)
      obtain ⟨W1, hW1⟩ : ∃ W1, W1 = (wdX W y.c y.x).1 := ⟨_, rfl⟩
      obtain ⟨r, hr⟩ : ∃ r, r = (wdX W y.c y.x).2.1 := ⟨_, rfl⟩
      obtain ⟨e1, he1⟩ : ∃ e1, e1 = (wdX W y.c y.x).2.2 := ⟨_, rfl⟩
      rw [← hW1] at HNX HM1 HLU
      replace HLU := Lib.hid (show W1.upto 1000 from fun S hS => Nat.le_trans (HLU.out S hS) (by decide))
      have HW1 := Lib.hid hW1.symm; have HR1 := Lib.hid hr.symm; have HE1 := Lib.hid he1.symm
      clear hW1 hr he1
      obtain ⟨V0, hV0⟩ : ∃ V0, V0 = wr := ⟨_, rfl⟩
      subst hV0
      go_wp2_with fail
      refine wp_join13 (fun qa qb zv us a => (((((((((((((((((((a.put (some 60) (us.getD 0 undef)).put (some 61) (us.getD 1 undef)).put (some 62) (us.getD 2 undef)).put (some 63) (us.getD 3 undef)).put (some 64) (us.getD 4 undef)).put (some 65) (us.getD 5 undef)).put (some 66) (us.getD 6 undef)).put (some 67) (us.getD 7 undef)).put (some 68) (us.getD 8 undef)).put (some 69) (us.getD 9 undef)).put (some 70) (us.getD 10 undef)).put (some 71) (us.getD 11 undef)).put (some 59) (us.getD 12 undef)).put (some 72) (us.getD 13 undef)).put (some 73) (us.getD 14 undef)).put (some 74) (us.getD 15 undef)).put (some 14) (.pointer (some ⟨qa, 0, none⟩))).put (some 15) (.pointer (some ⟨qb, 0, none⟩))).put (some 16) (.int .i64 e1))) (Fin3 (kpW R (some W1)) 33 r (ApW R A) V0) ?_ ?_
      · obtain ⟨OL, hOL⟩ : ∃ OL, OL = ApW R A := ⟨_, rfl⟩
        obtain ⟨KP, hKP⟩ : ∃ KP, KP = kpW R (some W1) := ⟨_, rfl⟩
        have HOKP := Lib.hid (show ∀ x w, KP.P x w → skW.Ok (KP.cs x) from by rw [hKP]; exact kpW_ok R _)
        have HOL := Lib.hid (show ∀ p : Nat → Prop, (∀ q, q < V0.heap.size → p q) → OL p from by rw [hOL]; exact fun p hp q hq => hp q (HAT0.out.old q hq))
        have HST := Lib.hid (fun w' (h : Keeps [] V0 w') => WdProg.post V w' (A := A) (O := some W) (HGL.out _ (HK.out.trans h (FSub.refl _ _))) (HAT0.out.new h) (fun W' hW' => by obtain rfl := Option.some.inj hW'; exact fun S hS => Nat.le_trans (HLK.out S hS) (by decide)) ⟨HXI.out.c0, HXI.out.c1⟩ HXI.out.x)
        simp only [oWX] at HST
        rw [HW1.out, HR1.out, HE1.out, ← hOL, ← hKP] at HST
        rw [← hOL, ← hKP]
        clear hOL hKP
        obtain ⟨S0, hS0⟩ : ∃ S0 : World → Prop, S0 = fun y => Keeps [] V0 y := ⟨_, rfl⟩
        have HSE := Lib.hid hS0
        have hSD : S0 V0.drew := by rw [hS0]; exact (Keeps.refl _ _).drew
        have HSA := Lib.hid (fun (w' : World) (hh : S0 w') => show w'.rangeAt g7 0 A from by rw [hS0] at hh; exact block_range (hh.heap HB.out (by simp)))
        have HSC := Lib.hid (fun (w' : World) (hh : S0 w') => show w'.cell? ⟨g, o + k * 6, none⟩ = some (.int .u8 y.c) from by rw [hS0] at hh; exact hh.cell (cl_parts HRW.out).1 (by simp))
        have HSX := Lib.hid (fun (w' : World) (hh : S0 w') => show w'.rangeAt g (o + k * 6 + 1) (opC y.x) from by rw [hS0] at hh; exact fun j v hv => hh.cell ((cl_parts HRW.out).2 j v hv) (by simp))
        clear hS0
        refine wp_region_noPanic ?_
        refine wp_region_held_drew (S := S0) (by kernel_rfl) hSD (fun hHeld => ?_)
        refine tk 0 (y := by exact skW.yields HOK.out rfl _ rfl g7 0 rfl HSA.out) (h := ?_)
        refine tw 1 (h := ?_)
        refine tw 2 (h := ?_)
        refine tk 3 (y := by exact yields_indexC14 rfl _ _ rfl g o n cp k rfl rfl hlt) (h := ?_)
        refine tw 4 (h := ?_)
        refine tk 5 (y := by exact Or.inl ⟨by rfl, by intro w hSw; have q0 := HSC.out w hSw; go_simp; try with_reducible rfl⟩) (h := ?_)
        refine tw 6 (h := ?_)
        refine tw 7 (h := ?_)
        refine tk 8 (y := by exact yields_indexC14 rfl _ _ rfl g o n cp k rfl rfl hlt) (h := ?_)
        refine tw 9 (h := ?_)
        refine tk 10 (y := by exact yields_loadP y.x rfl _ rfl g _ rfl HSX.out) (h := ?_)
        have HY := Lib.hid ((Keeps.refl [] V0).drew)
        generalize V0.drew = YC at *
        iterate 3
          all_goals
            first
              | apply wpAnyH_ready (rs := [11, 16, 17])
                · decide +kernel
                · simp
                refine acn ?_ (acn ?_ (acn ?_ (AllReadyH.nil)))
              | apply wpAnyH_ready (rs := [11, 16])
                · decide +kernel
                · simp
                refine acn ?_ (acn ?_ (AllReadyH.nil))
              | apply wpAnyH_ready (rs := [11, 17])
                · decide +kernel
                · simp
                refine acn ?_ (acn ?_ (AllReadyH.nil))
              | apply wpAnyH_ready (rs := [16, 17])
                · decide +kernel
                · simp
                refine acn ?_ (acn ?_ (AllReadyH.nil))
              | apply wpAnyH_ready (rs := [11])
                · decide +kernel
                · simp
                refine acn ?_ (AllReadyH.nil)
              | apply wpAnyH_ready (rs := [16])
                · decide +kernel
                · simp
                refine acn ?_ (AllReadyH.nil)
              | apply wpAnyH_ready (rs := [17])
                · decide +kernel
                · simp
                refine acn ?_ (AllReadyH.nil)
            all_goals
              intro K hK
              rw [if_pos (by rfl)]
              first
              | refine wp_call9 13 _ _ rfl [.agg A.toArray, .int .u8 y.c, y.x.val] rfl Tryz.func13 (by kernel_rfl) (by kernel_rfl) ((HST.out _ HY.out).mono ?_)
                rintro e YC ⟨x1, rfl, hpp, hk, hf⟩
                refine ⟨_, rfl, ?_⟩
                try have HFA := Lib.hid (show KP.Ap x1 (fun q => q ≠ ga) from hf _ (HOL.out _ (fun q hq => by have := HGA.out; omega)) (fun q hq => by have := HLA.out; omega))
                try have HFB := Lib.hid (show KP.Ap x1 (fun q => q ≠ gb) from hf _ (HOL.out _ (fun q hq => by have := HGB.out; omega)) (fun q hq => by have := HLB.out; omega))
                have HFN := Lib.hid (show ∀ p : Nat → Prop, OL p → (∀ q, V0.heap.size ≤ q → p q) → KP.Ap x1 p from fun p h1 h2 => hf p h1 (fun q hq => h2 q (Nat.le_trans HY.out.size hq)))
                try replace HBA := Lib.hid (hk.heap HBA.out (by simp))
                try replace HBB := Lib.hid (hk.heap HBB.out (by simp))
                try replace HAT := Lib.hid (KP.new HAT.out hk)
                try replace HLA := Lib.hid (Nat.lt_of_lt_of_le HLA.out hk.size)
                try replace HLB := Lib.hid (Nat.lt_of_lt_of_le HLB.out hk.size)
                replace HY := Lib.hid (HY.out.trans hk (FSub.refl _ _))
                have HAT := Lib.hid hpp
                clear hpp hk hf
                refine hK.out _ _ (by rw [HSE.out]; exact HY.out) (fun hHeld => ?_); clear hK K; try simp only [Act.put, lsA, lsZ, lsS]
                refine tw 12 (h := ?_)
                refine tw 13 (h := ?_)
                refine tw 14 (h := ?_)
                refine tw 15 (h := ?_)
              | refine wp_allocW14 rfl ?_
                have hk : Keeps [] YC (YC.alloc (.cells wdZ.toArray 33)) := (Keeps.refl _ _).alloc _
                have hb := heap_alloc_new YC (.cells wdZ.toArray 33)
                try have HFA := Lib.hid (show KP.Ap x1 (fun q => q ≠ YC.heap.size) from KP.mono (KP.old HAT.out) (fun q hq => Nat.ne_of_lt hq))
                try have HAB := Lib.hid (show YC.heap.size ≠ gb from Nat.ne_of_gt HLB.out)
                have HGA := Lib.hid HY.out.size
                try replace HBA := Lib.hid (hk.heap HBA.out (by simp))
                try replace HBB := Lib.hid (hk.heap HBB.out (by simp))
                try replace HAT := Lib.hid (KP.new HAT.out hk)
                try replace HLA := Lib.hid (Nat.lt_of_lt_of_le HLA.out hk.size)
                try replace HLB := Lib.hid (Nat.lt_of_lt_of_le HLB.out hk.size)
                replace HY := Lib.hid (HY.out.trans hk (FSub.refl _ _))
                have HBA := Lib.hid hb
                have HLA := Lib.hid (lt_of_block hb)
                clear hk hb
                generalize YC.heap.size = ga at *
                generalize YC.alloc (.cells wdZ.toArray 33) = YC at *
                refine hK.out _ _ (by rw [HSE.out]; exact HY.out) (fun hHeld => ?_); clear hK K; try simp only [Act.put, lsA, lsZ, lsS]
              | refine wp_allocA _ _ _ _ rfl ?_
                have hk : Keeps [] YC (YC.alloc (.cells (ansC ⟨0, 0⟩).toArray 25)) := (Keeps.refl _ _).alloc _
                have hb := heap_alloc_new YC (.cells (ansC ⟨0, 0⟩).toArray 25)
                try have HFB := Lib.hid (show KP.Ap x1 (fun q => q ≠ YC.heap.size) from KP.mono (KP.old HAT.out) (fun q hq => Nat.ne_of_lt hq))
                try have HAB := Lib.hid (show ga ≠ YC.heap.size from Nat.ne_of_lt HLA.out)
                have HGB := Lib.hid HY.out.size
                try replace HBA := Lib.hid (hk.heap HBA.out (by simp))
                try replace HBB := Lib.hid (hk.heap HBB.out (by simp))
                try replace HAT := Lib.hid (KP.new HAT.out hk)
                try replace HLA := Lib.hid (Nat.lt_of_lt_of_le HLA.out hk.size)
                try replace HLB := Lib.hid (Nat.lt_of_lt_of_le HLB.out hk.size)
                replace HY := Lib.hid (HY.out.trans hk (FSub.refl _ _))
                have HBB := Lib.hid hb
                have HLB := Lib.hid (lt_of_block hb)
                clear hk hb
                generalize YC.heap.size = gb at *
                generalize YC.alloc (.cells (ansC ⟨0, 0⟩).toArray 25) = YC at *
                refine hK.out _ _ (by rw [HSE.out]; exact HY.out) (fun hHeld => ?_); clear hK K; try simp only [Act.put, lsA, lsZ, lsS]
        all_goals
          refine rp 18 (h := fun K hK => ?_)
          refine skW.wp_put rfl (g := ga) (old := wdZ) (A := KP.cs x1) (HOKP.out _ _ HAT.out) wdZ_ok rfl rfl HBA.out (fun YC hV hk => ?_)
          replace HBA := Lib.hid hV
          replace HBB := Lib.hid (hk.heap HBB.out (by have := HAB.out; simp; exact fun e => this e.symm))
          replace HAT := Lib.hid (KP.put HAT.out hk HFA.out)
          replace HY := Lib.hid (HY.out.trans' hk HGA.out)
          clear hV hk
          refine hK.out _ _ (by rw [HSE.out]; exact HY.out) (fun hHeld => ?_); clear hK K; try simp only [Act.put, lsA, lsZ, lsS]
          refine rp 19 (h := fun K hK => ?_)
          refine wp_putN rfl (g := gb) (old := ⟨0, 0⟩) r rfl rfl HBB.out (fun YC hV hk => ?_)
          replace HBB := Lib.hid hV
          replace HBA := Lib.hid (hk.heap HBA.out (by have := HAB.out; simpa using this))
          replace HAT := Lib.hid (KP.put HAT.out hk HFB.out)
          replace HY := Lib.hid (HY.out.trans' hk HGB.out)
          clear hV hk
          refine hK.out _ _ (by rw [HSE.out]; exact HY.out) (fun hHeld => ?_); clear hK K; try simp only [Act.put, lsA, lsZ, lsS]
          refine tw 20 (h := ?_)
          refine wpAnyH_done (by kernel_rfl) ?_ _
          refine NoPanic.normal ?_
          exact ⟨rfl, ga, gb, .agg (KP.cs x1).toArray, [_, _, _, _, _, _, _, _, _, _, _, _, _, _, _, _], rfl, x1, rfl, HBA.out, HBB.out, HAT.out, HY.out, HGA.out, HGB.out, HAB.out, HFN.out, KP.and_ HFA.out HFB.out⟩
      rintro p14 p15 zv us V1 ⟨x1, rfl, hba, hbb, hp, hk, hga, hgb, hab, hol, hap⟩
      simp only [Act.put, lsA, lsZ, lsS]
      have HFT1 := Lib.hid (show ∀ q ∈ wFoot R (.agg x1.toArray), q ≠ g7 ∧ q ≠ g9 from hol (fun q => q ≠ g7 ∧ q ≠ g9) HFT.out (fun q hq => by have h1 := lt_of_block HB.out; have h2 := lt_of_block HD.out; omega))
      replace HK := Lib.hid (HK.out.trans hk (FSub.refl _ _))
      try replace HB := Lib.hid (hk.heap HB.out (by simp))
      try replace HD := Lib.hid (hk.heap HD.out (by simp))
      try replace HZ := Lib.hid (hk.heap HZ.out (by simp))
      try replace HAT0 := Lib.hid (HAT0.out.new hk)
      try replace HI := Lib.hid (HI.out.new hk)
      try replace HRW := Lib.hid (fun j v hv => hk.cell (HRW.out j v hv) (by simp))
      try replace HB14 := Lib.hid (hk.heap HB14.out (by simp))
      try replace HB15 := Lib.hid (hk.heap HB15.out (by simp))
      try replace HP1 := Lib.hid (HP1.out.new hk)
      try replace HB17 := Lib.hid (hk.heap HB17.out (by simp))
      try replace HB18 := Lib.hid (hk.heap HB18.out (by simp))
      try replace HP2 := Lib.hid (HP2.out.new hk)
      try replace HB20 := Lib.hid (hk.heap HB20.out (by simp))
      try replace HP3 := Lib.hid (HP3.out.new hk)
      have HB14 := Lib.hid (show V1.heap[p14]? = some (.cells x1.toArray 33 (0, 0)) from hba); have HB15 := Lib.hid hbb
      have HP1 := Lib.hid (show WoAt R V1 (.agg x1.toArray) (some W1) from hp)
      have HO1 := Lib.hid (woAt_ok HP1.out)
      clear hba hbb hp hk hga hgb hab hol hap
      go_wp2_with fail
      refine wp_join13 (fun qa qb zv us a => (((((((((((((((((((a.put (some 76) (us.getD 0 undef)).put (some 77) (us.getD 1 undef)).put (some 78) (us.getD 2 undef)).put (some 79) (us.getD 3 undef)).put (some 80) (us.getD 4 undef)).put (some 81) (us.getD 5 undef)).put (some 82) (us.getD 6 undef)).put (some 83) (us.getD 7 undef)).put (some 84) (us.getD 8 undef)).put (some 85) (us.getD 9 undef)).put (some 86) (us.getD 10 undef)).put (some 87) (us.getD 11 undef)).put (some 75) (us.getD 12 undef)).put (some 88) (us.getD 13 undef)).put (some 89) (us.getD 14 undef)).put (some 90) (us.getD 15 undef)).put (some 17) (.pointer (some ⟨qa, 0, none⟩))).put (some 18) (.pointer (some ⟨qb, 0, none⟩))).put (some 19) (.int .i64 e1))) (Fin3 (kpV W1) 39 r (Ap14 (.slice av ln cv) L) V1) ?_ ?_
      · obtain ⟨OL, hOL⟩ : ∃ OL, OL = Ap14 (.slice av ln cv) L := ⟨_, rfl⟩
        obtain ⟨KP, hKP⟩ : ∃ KP, KP = kpV W1 := ⟨_, rfl⟩
        have HOKP := Lib.hid (show ∀ x w, KP.P x w → skWd.Ok (KP.cs x) from by rw [hKP]; exact fun x w (h : W14 w W1 x.1 x.2) => h.ok _)
        have HOL := Lib.hid (show ∀ p : Nat → Prop, (∀ q, q < V1.heap.size → p q) → OL p from by rw [hOL]; exact fun p hp => Ap14.mono HI.out.old hp)
        have HST := Lib.hid (fun w' (h : Keeps [] V1 w') => r14Step_any w' HWI.out (fun S hS => Nat.le_trans (HLK.out S hS) (by decide)) (HI.out.new h) ⟨HXI.out.c0, HXI.out.c1⟩ y.x HXI.out.x)
        rw [HW1.out, HR1.out, HE1.out, HMW.out, ← hOL, ← hKP] at HST
        rw [← hOL, ← hKP]
        clear hOL hKP
        obtain ⟨S0, hS0⟩ : ∃ S0 : World → Prop, S0 = fun y => Keeps [] V1 y := ⟨_, rfl⟩
        have HSE := Lib.hid hS0
        have hSD : S0 V1.drew := by rw [hS0]; exact (Keeps.refl _ _).drew
        have HSA := Lib.hid (fun (w' : World) (hh : S0 w') => show w'.rangeAt g9 0 (wdC m (.slice av ln cv)) from by rw [hS0] at hh; exact block_range (hh.heap HD.out (by simp)))
        have HSC := Lib.hid (fun (w' : World) (hh : S0 w') => show w'.cell? ⟨g, o + k * 6, none⟩ = some (.int .u8 y.c) from by rw [hS0] at hh; exact hh.cell (cl_parts HRW.out).1 (by simp))
        have HSX := Lib.hid (fun (w' : World) (hh : S0 w') => show w'.rangeAt g (o + k * 6 + 1) (opC y.x) from by rw [hS0] at hh; exact fun j v hv => hh.cell ((cl_parts HRW.out).2 j v hv) (by simp))
        clear hS0
        refine wp_region_noPanic ?_
        refine wp_region_held_drew (S := S0) (by kernel_rfl) hSD (fun hHeld => ?_)
        refine tk 0 (y := by exact skWd.yields HOD.out rfl _ rfl g9 0 rfl HSA.out) (h := ?_)
        refine tw 1 (h := ?_)
        refine tw 2 (h := ?_)
        refine tk 3 (y := by exact yields_indexC14 rfl _ _ rfl g o n cp k rfl rfl hlt) (h := ?_)
        refine tw 4 (h := ?_)
        refine tk 5 (y := by exact Or.inl ⟨by rfl, by intro w hSw; have q0 := HSC.out w hSw; go_simp; try with_reducible rfl⟩) (h := ?_)
        refine tw 6 (h := ?_)
        refine tw 7 (h := ?_)
        refine tk 8 (y := by exact yields_indexC14 rfl _ _ rfl g o n cp k rfl rfl hlt) (h := ?_)
        refine tw 9 (h := ?_)
        refine tk 10 (y := by exact yields_loadP y.x rfl _ rfl g _ rfl HSX.out) (h := ?_)
        have HY := Lib.hid ((Keeps.refl [] V1).drew)
        generalize V1.drew = YC at *
        iterate 3
          all_goals
            first
              | apply wpAnyH_ready (rs := [11, 16, 17])
                · decide +kernel
                · simp
                refine acn ?_ (acn ?_ (acn ?_ (AllReadyH.nil)))
              | apply wpAnyH_ready (rs := [11, 16])
                · decide +kernel
                · simp
                refine acn ?_ (acn ?_ (AllReadyH.nil))
              | apply wpAnyH_ready (rs := [11, 17])
                · decide +kernel
                · simp
                refine acn ?_ (acn ?_ (AllReadyH.nil))
              | apply wpAnyH_ready (rs := [16, 17])
                · decide +kernel
                · simp
                refine acn ?_ (acn ?_ (AllReadyH.nil))
              | apply wpAnyH_ready (rs := [11])
                · decide +kernel
                · simp
                refine acn ?_ (AllReadyH.nil)
              | apply wpAnyH_ready (rs := [16])
                · decide +kernel
                · simp
                refine acn ?_ (AllReadyH.nil)
              | apply wpAnyH_ready (rs := [17])
                · decide +kernel
                · simp
                refine acn ?_ (AllReadyH.nil)
            all_goals
              intro K hK
              rw [if_pos (by rfl)]
              first
              | refine wp_call9 14 _ _ rfl [.agg (wdC m (.slice av ln cv)).toArray, .int .u8 y.c, y.x.val] rfl Tryz.func14 (by kernel_rfl) (by kernel_rfl) ((HST.out _ HY.out).mono ?_)
                rintro e YC ⟨x1, rfl, hpp, hk, hf⟩
                refine ⟨_, rfl, ?_⟩
                try have HFA := Lib.hid (show KP.Ap x1 (fun q => q ≠ ga) from hf _ (HOL.out _ (fun q hq => by have := HGA.out; omega)) (fun q hq => by have := HLA.out; omega))
                try have HFB := Lib.hid (show KP.Ap x1 (fun q => q ≠ gb) from hf _ (HOL.out _ (fun q hq => by have := HGB.out; omega)) (fun q hq => by have := HLB.out; omega))
                have HFN := Lib.hid (show ∀ p : Nat → Prop, OL p → (∀ q, V1.heap.size ≤ q → p q) → KP.Ap x1 p from fun p h1 h2 => hf p h1 (fun q hq => h2 q (Nat.le_trans HY.out.size hq)))
                try replace HBA := Lib.hid (hk.heap HBA.out (by simp))
                try replace HBB := Lib.hid (hk.heap HBB.out (by simp))
                try replace HAT := Lib.hid (KP.new HAT.out hk)
                try replace HLA := Lib.hid (Nat.lt_of_lt_of_le HLA.out hk.size)
                try replace HLB := Lib.hid (Nat.lt_of_lt_of_le HLB.out hk.size)
                replace HY := Lib.hid (HY.out.trans hk (FSub.refl _ _))
                have HAT := Lib.hid hpp
                clear hpp hk hf
                refine hK.out _ _ (by rw [HSE.out]; exact HY.out) (fun hHeld => ?_); clear hK K; try simp only [Act.put, lsA, lsZ, lsS]
                refine tw 12 (h := ?_)
                refine tw 13 (h := ?_)
                refine tw 14 (h := ?_)
                refine tw 15 (h := ?_)
              | refine wp_allocV14 rfl ?_
                have hk : Keeps [] YC (YC.alloc (.cells wdC0.toArray 39)) := (Keeps.refl _ _).alloc _
                have hb := heap_alloc_new YC (.cells wdC0.toArray 39)
                try have HFA := Lib.hid (show KP.Ap x1 (fun q => q ≠ YC.heap.size) from KP.mono (KP.old HAT.out) (fun q hq => Nat.ne_of_lt hq))
                try have HAB := Lib.hid (show YC.heap.size ≠ gb from Nat.ne_of_gt HLB.out)
                have HGA := Lib.hid HY.out.size
                try replace HBA := Lib.hid (hk.heap HBA.out (by simp))
                try replace HBB := Lib.hid (hk.heap HBB.out (by simp))
                try replace HAT := Lib.hid (KP.new HAT.out hk)
                try replace HLA := Lib.hid (Nat.lt_of_lt_of_le HLA.out hk.size)
                try replace HLB := Lib.hid (Nat.lt_of_lt_of_le HLB.out hk.size)
                replace HY := Lib.hid (HY.out.trans hk (FSub.refl _ _))
                have HBA := Lib.hid hb
                have HLA := Lib.hid (lt_of_block hb)
                clear hk hb
                generalize YC.heap.size = ga at *
                generalize YC.alloc (.cells wdC0.toArray 39) = YC at *
                refine hK.out _ _ (by rw [HSE.out]; exact HY.out) (fun hHeld => ?_); clear hK K; try simp only [Act.put, lsA, lsZ, lsS]
              | refine wp_allocA _ _ _ _ rfl ?_
                have hk : Keeps [] YC (YC.alloc (.cells (ansC ⟨0, 0⟩).toArray 25)) := (Keeps.refl _ _).alloc _
                have hb := heap_alloc_new YC (.cells (ansC ⟨0, 0⟩).toArray 25)
                try have HFB := Lib.hid (show KP.Ap x1 (fun q => q ≠ YC.heap.size) from KP.mono (KP.old HAT.out) (fun q hq => Nat.ne_of_lt hq))
                try have HAB := Lib.hid (show ga ≠ YC.heap.size from Nat.ne_of_lt HLA.out)
                have HGB := Lib.hid HY.out.size
                try replace HBA := Lib.hid (hk.heap HBA.out (by simp))
                try replace HBB := Lib.hid (hk.heap HBB.out (by simp))
                try replace HAT := Lib.hid (KP.new HAT.out hk)
                try replace HLA := Lib.hid (Nat.lt_of_lt_of_le HLA.out hk.size)
                try replace HLB := Lib.hid (Nat.lt_of_lt_of_le HLB.out hk.size)
                replace HY := Lib.hid (HY.out.trans hk (FSub.refl _ _))
                have HBB := Lib.hid hb
                have HLB := Lib.hid (lt_of_block hb)
                clear hk hb
                generalize YC.heap.size = gb at *
                generalize YC.alloc (.cells (ansC ⟨0, 0⟩).toArray 25) = YC at *
                refine hK.out _ _ (by rw [HSE.out]; exact HY.out) (fun hHeld => ?_); clear hK K; try simp only [Act.put, lsA, lsZ, lsS]
        all_goals
          refine rp 18 (h := fun K hK => ?_)
          refine skWd.wp_put rfl (g := ga) (old := wdC0) (A := KP.cs x1) (HOKP.out _ _ HAT.out) wdC0_ok rfl rfl HBA.out (fun YC hV hk => ?_)
          replace HBA := Lib.hid hV
          replace HBB := Lib.hid (hk.heap HBB.out (by have := HAB.out; simp; exact fun e => this e.symm))
          replace HAT := Lib.hid (KP.put HAT.out hk HFA.out)
          replace HY := Lib.hid (HY.out.trans' hk HGA.out)
          clear hV hk
          refine hK.out _ _ (by rw [HSE.out]; exact HY.out) (fun hHeld => ?_); clear hK K; try simp only [Act.put, lsA, lsZ, lsS]
          refine rp 19 (h := fun K hK => ?_)
          refine wp_putN rfl (g := gb) (old := ⟨0, 0⟩) r rfl rfl HBB.out (fun YC hV hk => ?_)
          replace HBB := Lib.hid hV
          replace HBA := Lib.hid (hk.heap HBA.out (by have := HAB.out; simpa using this))
          replace HAT := Lib.hid (KP.put HAT.out hk HFB.out)
          replace HY := Lib.hid (HY.out.trans' hk HGB.out)
          clear hV hk
          refine hK.out _ _ (by rw [HSE.out]; exact HY.out) (fun hHeld => ?_); clear hK K; try simp only [Act.put, lsA, lsZ, lsS]
          refine tw 20 (h := ?_)
          refine wpAnyH_done (by kernel_rfl) ?_ _
          refine NoPanic.normal ?_
          exact ⟨rfl, ga, gb, .agg (KP.cs x1).toArray, [_, _, _, _, _, _, _, _, _, _, _, _, _, _, _, _], rfl, x1, rfl, HBA.out, HBB.out, HAT.out, HY.out, HGA.out, HGB.out, HAB.out, HFN.out, KP.and_ HFA.out HFB.out⟩
      rintro p17 p18 zv us V2 ⟨⟨v2, L2⟩, rfl, hba, hbb, hp, hk, hga, hgb, hab, hol, hap⟩
      simp only [Act.put, lsA, lsZ, lsS]
      have HOQ1 := Lib.hid (show Ap14 v2 L2 (fun q => q ≠ g7 ∧ q ≠ g9) from hol (fun q => q ≠ g7 ∧ q ≠ g9) HOQ.out (fun q hq => by have h1 := lt_of_block HB.out; have h2 := lt_of_block HD.out; omega))
      have HP17 := Lib.hid (show p17 ≠ g7 from by have h1 := lt_of_block HB.out; omega)
      replace HK := Lib.hid (HK.out.trans hk (FSub.refl _ _))
      try replace HB := Lib.hid (hk.heap HB.out (by simp))
      try replace HD := Lib.hid (hk.heap HD.out (by simp))
      try replace HZ := Lib.hid (hk.heap HZ.out (by simp))
      try replace HAT0 := Lib.hid (HAT0.out.new hk)
      try replace HI := Lib.hid (HI.out.new hk)
      try replace HRW := Lib.hid (fun j v hv => hk.cell (HRW.out j v hv) (by simp))
      try replace HB14 := Lib.hid (hk.heap HB14.out (by simp))
      try replace HB15 := Lib.hid (hk.heap HB15.out (by simp))
      try replace HP1 := Lib.hid (HP1.out.new hk)
      try replace HB17 := Lib.hid (hk.heap HB17.out (by simp))
      try replace HB18 := Lib.hid (hk.heap HB18.out (by simp))
      try replace HP2 := Lib.hid (HP2.out.new hk)
      try replace HB20 := Lib.hid (hk.heap HB20.out (by simp))
      try replace HP3 := Lib.hid (HP3.out.new hk)
      have HP2 := Lib.hid (show W14 V2 W1 v2 L2 from hp)
      have HO2 := Lib.hid (HP2.out.ok m)
      have HB17 := Lib.hid (show V2.heap[p17]? = some (.cells (wdC m v2).toArray 39 (0, 0)) from by rw [← HM1.out]; exact hba); have HB18 := Lib.hid hbb
      obtain ⟨a2, c2, rfl, -⟩ := id HP2.out.row
      generalize L2.length = ln2 at *
      clear hba hbb hp hk hga hgb hab hol hap
      obtain ⟨D, hD⟩ : ∃ D, D = decide (e1 = 0 ∧ r = rr) := ⟨_, rfl⟩
      obtain ⟨W2, hW2⟩ : ∃ W2, W2 = (if e1 = 0 ∧ r = rr then W1 else W) := ⟨_, rfl⟩
      go_wp2_with fail
      refine wp_join13 (fun qa qb zv us a => ((((((((((((((((((a.put (some 92) (us.getD 0 undef)).put (some 93) (us.getD 1 undef)).put (some 94) (us.getD 2 undef)).put (some 95) (us.getD 3 undef)).put (some 96) (us.getD 4 undef)).put (some 97) (us.getD 5 undef)).put (some 98) (us.getD 6 undef)).put (some 99) (us.getD 7 undef)).put (some 100) (us.getD 8 undef)).put (some 101) (us.getD 9 undef)).put (some 102) (us.getD 10 undef)).put (some 103) (us.getD 11 undef)).put (some 104) (us.getD 12 undef)).put (some 91) (us.getD 13 undef)).put (some 105) (us.getD 14 undef)).put (some 106) (us.getD 15 undef)).put (some 20) (.pointer (some ⟨qa, 0, none⟩))).put (some 21) (.bool D))) (fun qa _ zv w' => Fin1 (kpW R (some W2)) 33 (ApW R A) V2 qa zv w') ?_ ?_
      · obtain ⟨OL, hOL⟩ : ∃ OL, OL = ApW R A := ⟨_, rfl⟩
        obtain ⟨KP, hKP⟩ : ∃ KP, KP = kpW R (some W2) := ⟨_, rfl⟩
        have HOKP := Lib.hid (show ∀ x w, KP.P x w → skW.Ok (KP.cs x) from by rw [hKP]; exact kpW_ok R _)
        have HOL := Lib.hid (show ∀ p : Nat → Prop, (∀ q, q < V2.heap.size → p q) → OL p from by rw [hOL]; exact fun p hp q hq => hp q (HAT0.out.old q hq))
        have HST := Lib.hid (fun w' (h : Keeps [] V2 w') => WdProg.postF V w' (A := A) (W := W) (HGL.out _ (HK.out.trans h (FSub.refl _ _))) (HAT0.out.new h) (fun S hS => Nat.le_trans (HLK.out S hS) (by decide)) ⟨HXI.out.c0, HXI.out.c1⟩ HXI.out.x HRR.out)
        rw [HW1.out, HR1.out, HE1.out, ← hD, ← hW2, ← hOL, ← hKP] at HST
        rw [← hOL, ← hKP]
        clear hOL hKP hD hW2
        obtain ⟨S0, hS0⟩ : ∃ S0 : World → Prop, S0 = fun y => Keeps [] V2 y := ⟨_, rfl⟩
        have HSE := Lib.hid hS0
        have hSD : S0 V2.drew := by rw [hS0]; exact (Keeps.refl _ _).drew
        have HSA := Lib.hid (fun (w' : World) (hh : S0 w') => show w'.rangeAt g7 0 A from by rw [hS0] at hh; exact block_range (hh.heap HB.out (by simp)))
        have HSR := Lib.hid (fun (w' : World) (hh : S0 w') => show w'.rangeAt w.heap.size 0 (ansC rr) from by rw [hS0] at hh; exact fun j v hv => hh.cell (block_range HZ.out j v hv) (by simp))
        have HSC := Lib.hid (fun (w' : World) (hh : S0 w') => show w'.cell? ⟨g, o + k * 6, none⟩ = some (.int .u8 y.c) from by rw [hS0] at hh; exact hh.cell (cl_parts HRW.out).1 (by simp))
        have HSX := Lib.hid (fun (w' : World) (hh : S0 w') => show w'.rangeAt g (o + k * 6 + 1) (opC y.x) from by rw [hS0] at hh; exact fun j v hv => hh.cell ((cl_parts HRW.out).2 j v hv) (by simp))
        clear hS0
        refine wp_region_noPanic ?_
        refine wp_region_held_drew (S := S0) (by kernel_rfl) hSD (fun hHeld => ?_)
        refine tk 0 (y := by exact skW.yields HOK.out rfl _ rfl g7 0 rfl HSA.out) (h := ?_)
        refine tw 1 (h := ?_)
        refine tw 2 (h := ?_)
        refine tk 3 (y := by exact yields_indexC14 rfl _ _ rfl g o n cp k rfl rfl hlt) (h := ?_)
        refine tw 4 (h := ?_)
        refine tk 5 (y := by exact Or.inl ⟨by rfl, by intro w hSw; have q0 := HSC.out w hSw; go_simp; try with_reducible rfl⟩) (h := ?_)
        refine tw 6 (h := ?_)
        refine tw 7 (h := ?_)
        refine tk 8 (y := by exact yields_indexC14 rfl _ _ rfl g o n cp k rfl rfl hlt) (h := ?_)
        refine tw 9 (h := ?_)
        refine tk 10 (y := by exact yields_loadP y.x rfl _ rfl g _ rfl HSX.out) (h := ?_)
        refine tk 11 (y := by exact skR.yields (ansC_ok rr) rfl _ rfl w.heap.size 0 rfl HSR.out) (h := ?_)
        have HY := Lib.hid ((Keeps.refl [] V2).drew)
        generalize V2.drew = YC at *
        iterate 2
          all_goals
            first
              | apply wpAnyH_ready (rs := [12, 16])
                · decide +kernel
                · simp
                refine acn ?_ (acn ?_ (AllReadyH.nil))
              | apply wpAnyH_ready (rs := [12])
                · decide +kernel
                · simp
                refine acn ?_ (AllReadyH.nil)
              | apply wpAnyH_ready (rs := [16])
                · decide +kernel
                · simp
                refine acn ?_ (AllReadyH.nil)
            all_goals
              intro K hK
              rw [if_pos (by rfl)]
              first
              | refine wp_call9 15 _ _ rfl [.agg A.toArray, .int .u8 y.c, y.x.val, .agg (ansC rr).toArray] rfl Tryz.func15 (by kernel_rfl) (by kernel_rfl) ((HST.out _ HY.out).mono ?_)
                rintro e YC ⟨x1, rfl, hpp, hk, hf⟩
                refine ⟨_, rfl, ?_⟩
                try have HFA := Lib.hid (show KP.Ap x1 (fun q => q ≠ ga) from hf _ (HOL.out _ (fun q hq => by have := HGA.out; omega)) (fun q hq => by have := HLA.out; omega))
                have HFN := Lib.hid (show ∀ p : Nat → Prop, OL p → (∀ q, V2.heap.size ≤ q → p q) → KP.Ap x1 p from fun p h1 h2 => hf p h1 (fun q hq => h2 q (Nat.le_trans HY.out.size hq)))
                try replace HBA := Lib.hid (hk.heap HBA.out (by simp))
                try replace HBB := Lib.hid (hk.heap HBB.out (by simp))
                try replace HAT := Lib.hid (KP.new HAT.out hk)
                try replace HLA := Lib.hid (Nat.lt_of_lt_of_le HLA.out hk.size)
                try replace HLB := Lib.hid (Nat.lt_of_lt_of_le HLB.out hk.size)
                replace HY := Lib.hid (HY.out.trans hk (FSub.refl _ _))
                have HAT := Lib.hid hpp
                clear hpp hk hf
                refine hK.out _ _ (by rw [HSE.out]; exact HY.out) (fun hHeld => ?_); clear hK K; try simp only [Act.put, lsA, lsZ, lsS]
                refine tw 13 (h := ?_)
                refine tw 14 (h := ?_)
                refine tw 15 (h := ?_)
              | refine wp_allocW14 rfl ?_
                have hk : Keeps [] YC (YC.alloc (.cells wdZ.toArray 33)) := (Keeps.refl _ _).alloc _
                have hb := heap_alloc_new YC (.cells wdZ.toArray 33)
                try have HFA := Lib.hid (show KP.Ap x1 (fun q => q ≠ YC.heap.size) from KP.mono (KP.old HAT.out) (fun q hq => Nat.ne_of_lt hq))
                try have HAB := Lib.hid (show YC.heap.size ≠ gb from Nat.ne_of_gt HLB.out)
                have HGA := Lib.hid HY.out.size
                try replace HBA := Lib.hid (hk.heap HBA.out (by simp))
                try replace HBB := Lib.hid (hk.heap HBB.out (by simp))
                try replace HAT := Lib.hid (KP.new HAT.out hk)
                try replace HLA := Lib.hid (Nat.lt_of_lt_of_le HLA.out hk.size)
                try replace HLB := Lib.hid (Nat.lt_of_lt_of_le HLB.out hk.size)
                replace HY := Lib.hid (HY.out.trans hk (FSub.refl _ _))
                have HBA := Lib.hid hb
                have HLA := Lib.hid (lt_of_block hb)
                clear hk hb
                generalize YC.heap.size = ga at *
                generalize YC.alloc (.cells wdZ.toArray 33) = YC at *
                refine hK.out _ _ (by rw [HSE.out]; exact HY.out) (fun hHeld => ?_); clear hK K; try simp only [Act.put, lsA, lsZ, lsS]
        all_goals
          refine rp 17 (h := fun K hK => ?_)
          refine skW.wp_put rfl (g := ga) (old := wdZ) (A := KP.cs x1) (HOKP.out _ _ HAT.out) wdZ_ok rfl rfl HBA.out (fun YC hV hk => ?_)
          replace HBA := Lib.hid hV
          replace HAT := Lib.hid (KP.put HAT.out hk HFA.out)
          replace HY := Lib.hid (HY.out.trans' hk HGA.out)
          clear hV hk
          refine hK.out _ _ (by rw [HSE.out]; exact HY.out) (fun hHeld => ?_); clear hK K; try simp only [Act.put, lsA, lsZ, lsS]
          refine tw 18 (h := ?_)
          refine wpAnyH_done (by kernel_rfl) ?_ _
          refine NoPanic.normal ?_
          exact ⟨rfl, ga, 0, .agg (KP.cs x1).toArray, [_, _, _, _, _, _, _, _, _, _, _, _, _, _, _, _], rfl, x1, rfl, HBA.out, HAT.out, HY.out, HGA.out, HFN.out, HFA.out⟩
      rintro p20 - zv us V5 ⟨x3, rfl, hba, hp, hk, hga, hol, hap⟩
      simp only [Act.put, lsA, lsZ, lsS]
      replace HK := Lib.hid (HK.out.trans hk (FSub.refl _ _))
      try replace HB := Lib.hid (hk.heap HB.out (by simp))
      try replace HD := Lib.hid (hk.heap HD.out (by simp))
      try replace HZ := Lib.hid (hk.heap HZ.out (by simp))
      try replace HAT0 := Lib.hid (HAT0.out.new hk)
      try replace HI := Lib.hid (HI.out.new hk)
      try replace HRW := Lib.hid (fun j v hv => hk.cell (HRW.out j v hv) (by simp))
      try replace HB14 := Lib.hid (hk.heap HB14.out (by simp))
      try replace HB15 := Lib.hid (hk.heap HB15.out (by simp))
      try replace HP1 := Lib.hid (HP1.out.new hk)
      try replace HB17 := Lib.hid (hk.heap HB17.out (by simp))
      try replace HB18 := Lib.hid (hk.heap HB18.out (by simp))
      try replace HP2 := Lib.hid (HP2.out.new hk)
      try replace HB20 := Lib.hid (hk.heap HB20.out (by simp))
      try replace HP3 := Lib.hid (HP3.out.new hk)
      have HB20 := Lib.hid (show V5.heap[p20]? = some (.cells x3.toArray 33 (0, 0)) from hba)
      have HP3 := Lib.hid (show WoAt R V5 (.agg x3.toArray) (some W2) from hp)
      have HO3 := Lib.hid (woAt_ok HP3.out)
      clear hba hp hk hga hol hap
      have tk : (r.k == r.k) = true := by simp
      have tv : (r.v == r.v) = true := by simp
      have te : (e1 == e1) = true := by simp
      have HDD := Lib.hid hD; have HSS := Lib.hid hW2
      clear hD hW2
      have hc : (e1 = 0 ∧ r = rr) ∨ (e1 = 0 ∧ r.k = rr.k ∧ r.v ≠ rr.v) ∨ (e1 = 0 ∧ r.k ≠ rr.k) ∨ e1 ≠ 0 := by
        by_cases h1 : e1 = 0
        · by_cases h3 : r.k = rr.k
          · by_cases h4 : r.v = rr.v
            · exact .inl ⟨h1, by cases r; cases rr; simp at h3 h4; simp [h3, h4]⟩
            · exact .inr (.inl ⟨h1, h3, h4⟩)
          · exact .inr (.inr (.inl ⟨h1, h3⟩))
        · exact .inr (.inr (.inr h1))
      rcases hc with ⟨h1, h2⟩ | ⟨h1, h3, h4⟩ | ⟨h1, h3⟩ | h1
      all_goals first
        | obtain rfl : D = true := by rw [HDD.out]; simp [h1, h2]
          obtain rfl : W1 = W2 := by rw [HSS.out, if_pos ⟨h1, h2⟩]
          subst h1 h2
        | obtain rfl : D = false := by rw [HDD.out]; simp [show r ≠ rr from fun h => h3 (by rw [h])]
          obtain rfl : W = W2 := by rw [HSS.out, if_neg (fun h => h3 (by rw [h.2]))]
          subst h1
          have qk : (r.k == rr.k) = false := by simpa using h3
          clear h3
        | obtain rfl : D = false := by rw [HDD.out]; simp [show r ≠ rr from fun h => h4 (by rw [h])]
          obtain rfl : W = W2 := by rw [HSS.out, if_neg (fun h => h4 (by rw [h.2]))]
          subst h1
          have qk : (r.k == rr.k) = true := by simp [h3]
          have qv : (r.v == rr.v) = false := by simpa using h4
          clear h3 h4
        | obtain rfl : D = false := by rw [HDD.out]; simp [h1]
          obtain rfl : W = W2 := by rw [HSS.out, if_neg (fun h => h1 h.1)]
          have q0 : (e1 == 0) = false := by simpa using h1
          clear h1
      all_goals
        go_wp2_with (first
          | ((with_reducible refine wpList_loadW (g := g7) HOK.out ?_ ?_ (block_range HB.out) ?_); exact rfl; exact rfl)
          | ((with_reducible refine wpList_loadW (g := p14) HO1.out ?_ ?_ (block_range HB14.out) ?_); exact rfl; exact rfl)
          | ((with_reducible refine wpList_loadW (g := p20) HO3.out ?_ ?_ (block_range HB20.out) ?_); exact rfl; exact rfl)
          | ((with_reducible refine wpList_loadV (g := g9) (off := 0) HOD.out ?_ ?_ (block_range HD.out) ?_); exact rfl; exact rfl)
          | ((with_reducible refine wpList_loadV (g := p17) (off := 0) HO2.out ?_ ?_ (block_range HB17.out) ?_); exact rfl; exact rfl)
          | ((with_reducible refine wpList_loadN13 (g := p15) (y := r) ?_ ?_ HB15.out ?_); exact rfl; exact rfl)
          | ((with_reducible refine wpList_loadN13 (g := p18) (y := r) ?_ ?_ HB18.out ?_); exact rfl; exact rfl)
          | ((with_reducible refine wpList_loadN13 (g := w.heap.size) (y := rr) ?_ ?_ HZ.out ?_); exact rfl; exact rfl)
          | ((with_reducible refine wpList_loadN13 (g := w.heap.size) (y := r) ?_ ?_ HZ.out ?_); exact rfl; exact rfl))
        first
          | have hTD := told14_any V V5 (HGL.out _ HK.out) HP3.out HLU.out HP2.out
            rw [HM1.out] at hTD
            refine hTD.mono ?_; rintro e V6 ⟨rfl, hk⟩
            clear hTD
            replace HK := Lib.hid (HK.out.trans hk (FSub.refl _ _))
            try replace HB := Lib.hid (hk.heap HB.out (by simp))
            try replace HD := Lib.hid (hk.heap HD.out (by simp))
            try replace HZ := Lib.hid (hk.heap HZ.out (by simp))
            try replace HAT0 := Lib.hid (HAT0.out.new hk)
            try replace HI := Lib.hid (HI.out.new hk)
            try replace HRW := Lib.hid (fun j v hv => hk.cell (HRW.out j v hv) (by simp))
            try replace HB14 := Lib.hid (hk.heap HB14.out (by simp))
            try replace HB15 := Lib.hid (hk.heap HB15.out (by simp))
            try replace HP1 := Lib.hid (HP1.out.new hk)
            try replace HB17 := Lib.hid (hk.heap HB17.out (by simp))
            try replace HB18 := Lib.hid (hk.heap HB18.out (by simp))
            try replace HP2 := Lib.hid (HP2.out.new hk)
            try replace HB20 := Lib.hid (hk.heap HB20.out (by simp))
            try replace HP3 := Lib.hid (HP3.out.new hk)
            clear hk
          | have hTD := told14_any V V5 (HGL.out _ HK.out) HP3.out (fun S hS => Nat.le_trans (HLK.out S hS) (by decide)) HI.out
            rw [HMW.out] at hTD
            refine hTD.mono ?_; rintro e V6 ⟨rfl, hk⟩
            clear hTD
            replace HK := Lib.hid (HK.out.trans hk (FSub.refl _ _))
            try replace HB := Lib.hid (hk.heap HB.out (by simp))
            try replace HD := Lib.hid (hk.heap HD.out (by simp))
            try replace HZ := Lib.hid (hk.heap HZ.out (by simp))
            try replace HAT0 := Lib.hid (HAT0.out.new hk)
            try replace HI := Lib.hid (HI.out.new hk)
            try replace HRW := Lib.hid (fun j v hv => hk.cell (HRW.out j v hv) (by simp))
            try replace HB14 := Lib.hid (hk.heap HB14.out (by simp))
            try replace HB15 := Lib.hid (hk.heap HB15.out (by simp))
            try replace HP1 := Lib.hid (HP1.out.new hk)
            try replace HB17 := Lib.hid (hk.heap HB17.out (by simp))
            try replace HB18 := Lib.hid (hk.heap HB18.out (by simp))
            try replace HP2 := Lib.hid (HP2.out.new hk)
            try replace HB20 := Lib.hid (hk.heap HB20.out (by simp))
            try replace HP3 := Lib.hid (HP3.out.new hk)
            clear hk
        go_wp2_with (first
          | ((with_reducible refine wpList_loadW (g := g7) HOK.out ?_ ?_ (block_range HB.out) ?_); exact rfl; exact rfl)
          | ((with_reducible refine wpList_loadW (g := p14) HO1.out ?_ ?_ (block_range HB14.out) ?_); exact rfl; exact rfl)
          | ((with_reducible refine wpList_loadW (g := p20) HO3.out ?_ ?_ (block_range HB20.out) ?_); exact rfl; exact rfl)
          | ((with_reducible refine wpList_loadV (g := g9) (off := 0) HOD.out ?_ ?_ (block_range HD.out) ?_); exact rfl; exact rfl)
          | ((with_reducible refine wpList_loadV (g := p17) (off := 0) HO2.out ?_ ?_ (block_range HB17.out) ?_); exact rfl; exact rfl)
          | ((with_reducible refine wpList_loadN13 (g := p15) (y := r) ?_ ?_ HB15.out ?_); exact rfl; exact rfl)
          | ((with_reducible refine wpList_loadN13 (g := p18) (y := r) ?_ ?_ HB18.out ?_); exact rfl; exact rfl)
          | ((with_reducible refine wpList_loadN13 (g := w.heap.size) (y := rr) ?_ ?_ HZ.out ?_); exact rfl; exact rfl)
          | ((with_reducible refine wpList_loadN13 (g := w.heap.size) (y := r) ?_ ?_ HZ.out ?_); exact rfl; exact rfl))
        have hTD := told14_any V V6 (HGL.out _ HK.out) HAT0.out (fun S hS => Nat.le_trans (HLK.out S hS) (by decide)) HI.out
        rw [HMW.out] at hTD
        refine hTD.mono ?_; rintro e V7 ⟨rfl, hk⟩
        clear hTD
        replace HK := Lib.hid (HK.out.trans hk (FSub.refl _ _))
        try replace HB := Lib.hid (hk.heap HB.out (by simp))
        try replace HD := Lib.hid (hk.heap HD.out (by simp))
        try replace HZ := Lib.hid (hk.heap HZ.out (by simp))
        try replace HAT0 := Lib.hid (HAT0.out.new hk)
        try replace HI := Lib.hid (HI.out.new hk)
        try replace HRW := Lib.hid (fun j v hv => hk.cell (HRW.out j v hv) (by simp))
        try replace HB14 := Lib.hid (hk.heap HB14.out (by simp))
        try replace HB15 := Lib.hid (hk.heap HB15.out (by simp))
        try replace HP1 := Lib.hid (HP1.out.new hk)
        try replace HB17 := Lib.hid (hk.heap HB17.out (by simp))
        try replace HB18 := Lib.hid (hk.heap HB18.out (by simp))
        try replace HP2 := Lib.hid (HP2.out.new hk)
        try replace HB20 := Lib.hid (hk.heap HB20.out (by simp))
        try replace HP3 := Lib.hid (HP3.out.new hk)
        clear hk
        go_wp2_with (first
          | ((with_reducible refine wpList_loadW (g := g7) HOK.out ?_ ?_ (block_range HB.out) ?_); exact rfl; exact rfl)
          | ((with_reducible refine wpList_loadW (g := p14) HO1.out ?_ ?_ (block_range HB14.out) ?_); exact rfl; exact rfl)
          | ((with_reducible refine wpList_loadW (g := p20) HO3.out ?_ ?_ (block_range HB20.out) ?_); exact rfl; exact rfl)
          | ((with_reducible refine wpList_loadV (g := g9) (off := 0) HOD.out ?_ ?_ (block_range HD.out) ?_); exact rfl; exact rfl)
          | ((with_reducible refine wpList_loadV (g := p17) (off := 0) HO2.out ?_ ?_ (block_range HB17.out) ?_); exact rfl; exact rfl)
          | ((with_reducible refine wpList_loadN13 (g := p15) (y := r) ?_ ?_ HB15.out ?_); exact rfl; exact rfl)
          | ((with_reducible refine wpList_loadN13 (g := p18) (y := r) ?_ ?_ HB18.out ?_); exact rfl; exact rfl)
          | ((with_reducible refine wpList_loadN13 (g := w.heap.size) (y := rr) ?_ ?_ HZ.out ?_); exact rfl; exact rfl)
          | ((with_reducible refine wpList_loadN13 (g := w.heap.size) (y := r) ?_ ?_ HZ.out ?_); exact rfl; exact rfl))
        have hTD := told14_any V V7 (HGL.out _ HK.out) HP1.out HLU.out HP2.out
        rw [HM1.out] at hTD
        refine hTD.mono ?_; rintro e V8 ⟨rfl, hk⟩
        clear hTD
        replace HK := Lib.hid (HK.out.trans hk (FSub.refl _ _))
        try replace HB := Lib.hid (hk.heap HB.out (by simp))
        try replace HD := Lib.hid (hk.heap HD.out (by simp))
        try replace HZ := Lib.hid (hk.heap HZ.out (by simp))
        try replace HAT0 := Lib.hid (HAT0.out.new hk)
        try replace HI := Lib.hid (HI.out.new hk)
        try replace HRW := Lib.hid (fun j v hv => hk.cell (HRW.out j v hv) (by simp))
        try replace HB14 := Lib.hid (hk.heap HB14.out (by simp))
        try replace HB15 := Lib.hid (hk.heap HB15.out (by simp))
        try replace HP1 := Lib.hid (HP1.out.new hk)
        try replace HB17 := Lib.hid (hk.heap HB17.out (by simp))
        try replace HB18 := Lib.hid (hk.heap HB18.out (by simp))
        try replace HP2 := Lib.hid (HP2.out.new hk)
        try replace HB20 := Lib.hid (hk.heap HB20.out (by simp))
        try replace HP3 := Lib.hid (HP3.out.new hk)
        clear hk
        clear HB15 HB18 HB20 HP3 HRW
        go_wp2_with (first
          | ((with_reducible refine wpList_loadW (g := p14) HO1.out ?_ ?_ (block_range HB14.out) ?_); exact rfl; exact rfl)
          | ((with_reducible refine wpList_putW (g := g7) (old := A) (A := x1) HO1.out HOK.out ?_ ?_ HB.out ?_); exact rfl; exact rfl))
        intro V9 hV hk
        have HB9 := Lib.hid hV
        have HD9 := Lib.hid (hk.heap HD.out (by have := HL3.out; simp; omega)); have HZ9 := Lib.hid (hk.heap HZ.out (by have := HLG.out; simp; omega))
        have HB179 := Lib.hid (hk.heap HB17.out (by have := HP17.out; simpa using this))
        have HP19 := Lib.hid (HP1.out.put hk (fun q hq => (HFT1.out q hq).1))
        have HP29 := Lib.hid (HP2.out.keep hk (Ap14.mono HOQ1.out (fun q h => by simpa using h.1)))
        have HK9 := Lib.hid (HK.out.trans hk (fun q hq => .inr (by have := HLG.out; simp at hq; omega)))
        clear hV hk HB HD HZ HB17 HB14 HP1 HP2 HAT0 HI HK
        go_wp2_with (first
          | ((with_reducible refine wpList_loadV (g := p17) (off := 0) HO2.out ?_ ?_ (block_range HB179.out) ?_); exact rfl; exact rfl)
          | ((with_reducible refine wpList_putV (g := g9) (old := wdC m (.slice av ln cv)) (A := wdC m (.slice a2 ln2 c2)) HO2.out HOD.out ?_ ?_ HD9.out ?_); exact rfl; exact rfl))
        intro VA hV hk
        have HDA := Lib.hid hV
        have HBA := Lib.hid (hk.heap HB9.out (by have := HL3.out; simp; omega)); have HZA := Lib.hid (hk.heap HZ9.out (by have := HLG.out; have := HL3.out; simp; omega))
        have HP1A := Lib.hid (HP19.out.put hk (fun q hq => (HFT1.out q hq).2))
        have HP2A := Lib.hid (HP29.out.keep hk (Ap14.mono HOQ1.out (fun q h => by simpa using h.2)))
        have HKA := Lib.hid (HK9.out.trans hk (fun q hq => .inr (by have := HLG.out; have := HL3.out; simp at hq; omega)))
        clear hV hk HB9 HD9 HZ9 HP19 HP29 HB179 HK9
        go_wp2_with fail
        go_roundw
        case rel => exact ⟨k + 1, x1, .slice a2 ln2 c2, L2, by go_num, by omega, HO1.out, HBA.out, HDA.out, by rw [HNX.out]; exact HP1A.out, by rw [HNX.out]; exact HP2A.out, HFT1.out, HOQ1.out, HZA.out, HKA.out⟩
        case measure => simp [intOf]; omega
    · obtain rfl : k = n := by omega
      have hb1 : ¬ (k : Int) < k := by omega
      clear hlt hk
      go_wp2_with ((with_reducible refine wpList_loadW (g := g7) HOK.out ?_ ?_ (block_range HB.out) ?_); exact rfl; exact rfl)
      refine (V.at_ wr _ _ 8 (HGL.out _ HK.out) HAT0.out ⟨by decide, by decide⟩).mono ?_; rintro e V1 ⟨s, rfl, hat, hk, -⟩
      replace HK := Lib.hid (HK.out.trans hk (FSub.refl _ _))
      rw [oWat_far _ (by decide : (7 : Int) < 8)] at hat ⊢
      obtain ⟨As, rfl, hok⟩ := R.cells hat
      have HOS := Lib.hid hok
      have HC := Lib.hid (show (V1.alloc (.cells mdZA 30)).heap[V1.heap.size]? = some (.cells mdZ.toArray 30 (0, 0)) from heap_alloc_new V1 _)
      have HKC := Lib.hid (show Keeps [] V1 (V1.alloc (.cells mdZA 30)) from (Keeps.refl _ _).alloc _)
      clear hat hok hk
      go_wp2_with ((with_reducible refine wpList_putM (g := V1.heap.size) (old := mdZ) (A := As) HOS.out mdZ_ok ?_ ?_ HC.out ?_); exact rfl; exact rfl)
      intro V2 hV hk2
      have hk := HKC.out.trans' hk2 (Nat.le_refl _)
      replace HK := Lib.hid (HK.out.trans hk (FSub.refl _ _))
      clear hV hk hk2 HC HKC
      go_wp2_with fail
      refine (works14_any V V2 (HGL.out _ HK.out)).mono ?_; rintro e V3 ⟨rfl, hk⟩
      have HKF := Lib.hid (HK.out.trans hk (FSub.refl _ _))
      clear hk
      go_wp2_with fail
      go_ret
      exact ⟨rfl, HKF.out⟩
end Go.Proofs.YtbnhcggjcdipeaaGreatDoor
/-
  The law WorldSteps: what is out of its range; all.
-/
namespace Go.Proofs.YtbnhcggjcdipeaaGreatDoor
open Go.RowKit
set_option maxRecDepth 100000
set_option maxHeartbeats 2000000
variable {G : World → Prop}
theorem WorldSteps_out {R : MdProg G} (V : WdProg R) (w : World) (hG : G w) {m : Int} (h0 : 0 ≤ m) (h4 : m < 256) {v : Value} {l : List Cl} (hI : rkC14.In w.heap.size w v l) (hn : 60 < l.length ∨ 3 < m) (rr : Ans) :
    Calls Tryz.prog 3 #[.int .u8 m, v, .agg (ansC rr).toArray] w fun e w' => e = .returned (.bool true) ∧ Keeps [] w w' := by
  obtain ⟨a, cp, rfl, hc, hm, -⟩ := id hI
  have HK := Lib.hid (show Keeps [] w (w.alloc (.cells #[.int .u8 rr.k, .int .u16 rr.v] 25)) from (Keeps.refl _ _).alloc _)
  have HN := Lib.hid (V.new _ m (R.keepG hG HK.out) ⟨h0, h4⟩)
  have HGL := Lib.hid (fun w' (h : Keeps [] w w') => R.keepG hG h)
  clear hI hG hc hm
  generalize l.length = n at *
  by_cases hb : 60 < n
  case pos =>
    have hb1 : (60 : Int) < n := by omega
    clear hn hb HN
    go_enter Tryz.func3, Tryz.ntmps3
    go_wp2_with fail
    refine (works14_any V _ (HGL.out _ HK.out)).mono ?_; rintro e v3 ⟨rfl, hk⟩
    have HKF := Lib.hid (HK.out.trans hk (FSub.refl _ _))
    clear hk
    go_wp2_with fail
    go_ret
    exact ⟨rfl, HKF.out⟩
  have hb1 : ¬ (60 : Int) < n := by omega
  have h3 : ¬ m ≤ 3 := by omega
  rw [if_neg h3, show oWNew m = none from if_neg h3] at HN
  have HM := Lib.hid (show 3 < m ∧ m < 256 from ⟨by omega, h4⟩)
  clear hn hb h3 h0 h4
  go_enter Tryz.func3, Tryz.ntmps3
  go_wp2_with fail
  refine HN.out.mono ?_; rintro e w1 ⟨st0, rfl, hat, hk, -⟩
  obtain ⟨A0, rfl, hok0⟩ := hat.cells
  replace HK := Lib.hid (HK.out.trans hk (FSub.refl _ _))
  have HOK0 := Lib.hid hok0; have HAT := Lib.hid hat
  have HC := Lib.hid (show (w1.alloc (.cells wdZA 33)).heap[w1.heap.size]? = some (.cells wdZ.toArray 33 (0, 0)) from heap_alloc_new w1 _)
  have HKC := Lib.hid (show Keeps [] w1 (w1.alloc (.cells wdZA 33)) from (Keeps.refl _ _).alloc _)
  clear hat hk hok0 HN
  go_wp2_with ((with_reducible refine wpList_putW (g := w1.heap.size) (old := wdZ) (A := A0) HOK0.out wdZ_ok ?_ ?_ HC.out ?_); exact rfl; exact rfl)
  intro w2 hW hk2
  have hk := HKC.out.trans' hk2 (Nat.le_refl _)
  replace HK := Lib.hid (HK.out.trans hk (FSub.refl _ _))
  replace HAT := Lib.hid (HAT.out.new hk)
  have HB := Lib.hid hW
  clear hW hk hk2 HC HKC
  generalize w1.heap.size = g7 at *
  go_wp2_with fail
  refine (r14New_none w2 HM.out.1 HM.out.2).mono ?_; rintro e w3 ⟨rfl, hk⟩
  replace HK := Lib.hid (HK.out.trans hk (FSub.refl _ _))
  replace HAT := Lib.hid (HAT.out.new hk); replace HB := Lib.hid (hk.heap HB.out (by simp))
  have HC := Lib.hid (show (w3.alloc (.cells #[.int .u8 0, .slice none 0 0] 39)).heap[w3.heap.size]? = some (.cells wdC0.toArray 39 (0, 0)) from heap_alloc_new w3 _)
  have HKC := Lib.hid (show Keeps [] w3 (w3.alloc (.cells #[.int .u8 0, .slice none 0 0] 39)) from (Keeps.refl _ _).alloc _)
  clear hk
  go_wp2_with ((with_reducible refine wpList_putV (g := w3.heap.size) (old := wdC0) (A := wdC0) wdC0_ok wdC0_ok ?_ ?_ HC.out ?_); exact rfl; exact rfl)
  intro w4 hW hk2
  have hk := HKC.out.trans' hk2 (Nat.le_refl _)
  replace HK := Lib.hid (HK.out.trans hk (FSub.refl _ _))
  replace HAT := Lib.hid (HAT.out.new hk); replace HB := Lib.hid (hk.heap HB.out (by simp))
  clear hW hk hk2 HC HKC
  generalize w3.heap.size = g9 at *
  go_wp2_with ((with_reducible refine wpList_loadW (g := g7) HOK0.out ?_ ?_ (block_range HB.out) ?_); exact rfl; exact rfl)
  refine (V.model _ _ none (HGL.out _ HK.out) HAT.out).mono ?_; rintro e w5 ⟨rfl, hk⟩
  rw [show (none : Option Wd).isSome = false from rfl]
  replace HK := Lib.hid (HK.out.trans hk (FSub.refl _ _))
  clear hk
  go_wp2_with fail
  refine (works14_any V _ (HGL.out _ HK.out)).mono ?_; rintro e v3 ⟨rfl, hk⟩
  have HKF := Lib.hid (HK.out.trans hk (FSub.refl _ _))
  clear hk
  go_wp2_with fail
  go_ret
  exact ⟨rfl, HKF.out⟩
theorem WorldSteps_all {R : MdProg G} (V : WdProg R) (w : World) (hG : G w) {m : Int} (h0 : 0 ≤ m) (h4 : m < 256) {v : Value} {l : List Cl} (hl : ∀ y ∈ l, y.In) (hI : rkC14.In w.heap.size w v l) (rr : Ans) (hrr : (0 ≤ rr.k ∧ rr.k < 256) ∧ (0 ≤ rr.v ∧ rr.v < 65536)) :
    Calls Tryz.prog 3 #[.int .u8 m, v, .agg (ansC rr).toArray] w fun e w' => e = .returned (.bool true) ∧ Keeps [] w w' := by
  by_cases hn : l.length ≤ 60
  · by_cases h3 : m ≤ 3
    · exact WorldSteps_any V w hG h0 h3 hl hI hn rr hrr
    · exact WorldSteps_out V w hG h0 h4 hI (.inr (by omega)) rr
  · exact WorldSteps_out V w hG h0 h4 hI (.inl (by omega)) rr
end Go.Proofs.YtbnhcggjcdipeaaGreatDoor
