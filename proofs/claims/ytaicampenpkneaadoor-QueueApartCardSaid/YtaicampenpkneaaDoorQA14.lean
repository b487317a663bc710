/-
  QueueApart's walk, over any queue.
-/
import Derived.Test.YtaicampenpkneaaDoorQA13
set_option linter.unusedSimpArgs false
set_option linter.unusedVariables false
namespace Go.Proofs.YtaicampenpkneaaDoor
open Go.RowKit
variable {G : World → Prop}
/-- A region's end, told once: what it puts into which slot, and the facts. -/
theorem wp_fork {P : Program} {c : Code} {Q : Exit → Act → World → Prop} {a : Act} {w : World} (f : Nat → Nat → Value → List Value → Act → Act) (F : Nat → Nat → Value → World → Prop)
    (h : c.wp P (fun e a' w' => e = .normal ∧ ∃ qa qb zv us, a' = f qa qb zv us a ∧ F qa qb zv w') a w)
    (k : ∀ qa qb zv us w', F qa qb zv w' → Q .normal (f qa qb zv us a) w') : c.wp P Q a w :=
  Code.wp_mono (fun e a' w' ⟨he, qa, qb, zv, us, ha, hf⟩ => by subst he; subst ha; exact k qa qb zv us w' hf) h
set_option maxHeartbeats 8000000
set_option maxRecDepth 100000
theorem QueueApart_any (R : QuProg G) (w : World) (hG : G w) {v v2 v3 : Value} {l : List Int} {oa ob : List Opn} (hl : rkU.In w.heap.size w v l) (ha : rkO.In w.heap.size w v2 oa) (hb : rkO.In w.heap.size w v3 ob) (hia : ∀ x ∈ oa, x.In) (hib : ∀ x ∈ ob, x.In) :
    Calls Tryd.prog 7 #[v, v2, v3] w fun e w' => e = .returned (.bool true) ∧ Keeps [] w w' := by
  obtain ⟨a1, c1, rfl, hc1, hm1, -⟩ := id hl
  obtain ⟨a2, c2, rfl, hc2, hm2, -⟩ := id ha
  obtain ⟨a3, c3, rfl, hc3, hm3, -⟩ := id hb
  have HG := Lib.hid hG; have HL := Lib.hid hl; have HA := Lib.hid ha; have HB := Lib.hid hb; have HIA := Lib.hid hia; have HIB := Lib.hid hib
  clear hG hl ha hb hia hib
  by_cases hn : l.length ≤ 100
  · have t2 : ¬ (100 : Int) < l.length := by omega
    by_cases hn2 : oa.length ≤ 100
    · have t3 : ¬ (100 : Int) < oa.length := by omega
      by_cases hn3 : ob.length ≤ 100
      · have t4 : ¬ (100 : Int) < ob.length := by omega
        have HK := Lib.hid (Keeps.refl [] w)
        go_enter Tryd.func7, Tryd.ntmps7
        go_wp2_with fail
        refine (R.of w w.heap.size _ l (R.keepG HG.out HK.out) HL.out (Nat.le_refl _) (by omega)).mono ?_
        rintro e y1 ⟨st, rfl, hz, hk, hfz⟩
        have HKx := Lib.hid (HK.out.trans hk (FSub.refl _ _))
        clear HK
        have HK := HKx
        clear HKx 
        clear hk
        clear hfz
        obtain ⟨zs, rfl, hone⟩ := R.one hz
        have HE := Lib.hid hone; have HZs := Lib.hid hz
        clear hone hz
        have HC := Lib.hid (heap_alloc_new y1 (.cells #[.slice none 0 0] 28))
        go_wp2_with ((with_reducible refine wpList_putSt (g := y1.heap.size) (z := zs) ?_ ?_ HC.out HE.out ?_); exact rfl; exact rfl)
        intro Y1 h9 k9
        have k89 : Keeps [] y1 Y1 := ((Keeps.refl [] y1).alloc _).trans k9 (fun q hq => .inr (by simp at hq; omega))
        have HSq7 := Lib.hid h9
        have HZsx := Lib.hid (R.new_ HZs.out k89)
        have HKx := Lib.hid (HK.out.trans k89 (FSub.refl _ _))
        clear HK HZs
        have HK := HKx; have HZs := HZsx
        clear HKx HZsx
        clear h9 k9 k89 HC HE
        generalize y1.heap.size = q7 at *
        have cq7 : Y1.cell? ⟨q7, 0, none⟩ = some zs := cell_lit HSq7.out 0 rfl
        go_wp2_with fail
        refine (R.run Y1 _ l _ oa (R.keepG HG.out HK.out) HZs.out (by omega) HIA.out ((HA.out.new HK.out (Nat.le_refl _)).more HK.out.size) (by omega)).mono ?_
        rintro e y2 ⟨st, vr, rfl, hz, hi, hk, -⟩
        have HZsx := Lib.hid (R.new_ HZs.out hk)
        have HSq7x := Lib.hid (hk.heap HSq7.out (by simp))
        have HKx := Lib.hid (HK.out.trans hk (FSub.refl _ _))
        clear HK HZs HSq7
        have HK := HKx; have HZs := HZsx; have HSq7 := HSq7x
        clear HKx HZsx HSq7x
        clear hk
        clear hi cq7
        obtain ⟨L1, hL1⟩ : ∃ L1, L1 = stS quX l oa := ⟨_, rfl⟩
        rw [← hL1] at hz
        have HN1 := Lib.hid (show L1.length ≤ 200 from by have := quS_len l oa; rw [hL1]; omega)
        generalize stE quX l oa = er1 at *
        clear hL1
        obtain ⟨zo, rfl, hone⟩ := R.one hz
        have HE := Lib.hid hone; have HZo := Lib.hid hz
        clear hone hz
        have HC := Lib.hid (heap_alloc_new y2 (.cells #[.slice none 0 0] 28))
        go_wp2_with ((with_reducible refine wpList_putSt (g := y2.heap.size) (z := zo) ?_ ?_ HC.out HE.out ?_); exact rfl; exact rfl)
        intro Y2 h9 k9
        have k89 : Keeps [] y2 Y2 := ((Keeps.refl [] y2).alloc _).trans k9 (fun q hq => .inr (by simp at hq; omega))
        have HSq8 := Lib.hid h9
        have HZsx := Lib.hid (R.new_ HZs.out k89)
        have HSq7x := Lib.hid (k89.heap HSq7.out (by simp))
        have HZox := Lib.hid (R.new_ HZo.out k89)
        have HKx := Lib.hid (HK.out.trans k89 (FSub.refl _ _))
        clear HK HZs HSq7 HZo
        have HK := HKx; have HZs := HZsx; have HSq7 := HSq7x; have HZo := HZox
        clear HKx HZsx HSq7x HZox
        clear h9 k9 k89 HC HE
        generalize y2.heap.size = q8 at *
        have cq8 : Y2.cell? ⟨q8, 0, none⟩ = some zo := cell_lit HSq8.out 0 rfl
        go_wp2_with fail
        refine (R.values Y2 _ L1 (R.keepG HG.out HK.out) HZo.out (by have := HN1.out; omega)).mono ?_
        rintro e y_ ⟨vw, rfl, how, hk⟩
        obtain ⟨aw, cw, rfl, hcw, hmw, haw⟩ := U16.own_form how
        have HAW := Lib.hid haw
        clear haw
        have HOW := Lib.hid how.in_
        have HZsx := Lib.hid (R.new_ HZs.out hk)
        have HSq7x := Lib.hid (hk.heap HSq7.out (by simp))
        have HZox := Lib.hid (R.new_ HZo.out hk)
        have HSq8x := Lib.hid (hk.heap HSq8.out (by simp))
        have HKx := Lib.hid (HK.out.trans hk (FSub.refl _ _))
        clear HK HZs HSq7 HZo HSq8
        have HK := HKx; have HZs := HZsx; have HSq7 := HSq7x; have HZo := HZox; have HSq8 := HSq8x
        clear HKx HZsx HSq7x HZox HSq8x
        clear hk how cq8
        have cq7 : y_.cell? ⟨q7, 0, none⟩ = some zs := cell_lit HSq7.out 0 rfl
        go_wp2_with fail
        refine (R.run y_ _ l _ ob (R.keepG HG.out HK.out) HZs.out (by omega) HIB.out ((HB.out.new HK.out (Nat.le_refl _)).more HK.out.size) (by omega)).mono ?_
        rintro e y3 ⟨st, vr2, rfl, hz, hi, hk, -⟩
        have HZsx := Lib.hid (R.new_ HZs.out hk)
        have HSq7x := Lib.hid (hk.heap HSq7.out (by simp))
        have HZox := Lib.hid (R.new_ HZo.out hk)
        have HSq8x := Lib.hid (hk.heap HSq8.out (by simp))
        have HOWx := Lib.hid ((HOW.out.new hk (Nat.le_refl _)).more hk.size)
        have HKx := Lib.hid (HK.out.trans hk (FSub.refl _ _))
        clear HK HZs HSq7 HZo HSq8 HOW
        have HK := HKx; have HZs := HZsx; have HSq7 := HSq7x; have HZo := HZox; have HSq8 := HSq8x; have HOW := HOWx
        clear HKx HZsx HSq7x HZox HSq8x HOWx
        clear hk
        clear hi cq7
        obtain ⟨L2, hL2⟩ : ∃ L2, L2 = stS quX l ob := ⟨_, rfl⟩
        rw [← hL2] at hz
        have HN2 := Lib.hid (show L2.length ≤ 200 from by have := quS_len l ob; rw [hL2]; omega)
        have HL2 := Lib.hid hL2
        generalize stE quX l ob = er2 at *
        clear hL2
        obtain ⟨zt, rfl, hone⟩ := R.one hz
        have HE := Lib.hid hone; have HZt := Lib.hid hz
        clear hone hz
        have HC := Lib.hid (heap_alloc_new y3 (.cells #[.slice none 0 0] 28))
        go_wp2_with ((with_reducible refine wpList_putSt (g := y3.heap.size) (z := zt) ?_ ?_ HC.out HE.out ?_); exact rfl; exact rfl)
        intro Y3 h9 k9
        have k89 : Keeps [] y3 Y3 := ((Keeps.refl [] y3).alloc _).trans k9 (fun q hq => .inr (by simp at hq; omega))
        have HSq12 := Lib.hid h9
        have HZsx := Lib.hid (R.new_ HZs.out k89)
        have HSq7x := Lib.hid (k89.heap HSq7.out (by simp))
        have HZox := Lib.hid (R.new_ HZo.out k89)
        have HSq8x := Lib.hid (k89.heap HSq8.out (by simp))
        have HOWx := Lib.hid ((HOW.out.new k89 (Nat.le_refl _)).more k89.size)
        have HZtx := Lib.hid (R.new_ HZt.out k89)
        have HKx := Lib.hid (HK.out.trans k89 (FSub.refl _ _))
        clear HK HZs HSq7 HZo HSq8 HOW HZt
        have HK := HKx; have HZs := HZsx; have HSq7 := HSq7x; have HZo := HZox; have HSq8 := HSq8x; have HOW := HOWx; have HZt := HZtx
        clear HKx HZsx HSq7x HZox HSq8x HOWx HZtx
        clear h9 k9 k89 HC HE
        generalize y3.heap.size = q12 at *
        go_wp2_with fail
        refine wp_fork (fun qa qb zv us a => ((((((((((a.put (some 54) (us.getD 0 undef)).put (some 55) (us.getD 1 undef)).put (some 56) (us.getD 2 undef)).put (some 53) (us.getD 3 undef)).put (some 57) (us.getD 4 undef)).put (some 58) (us.getD 5 undef)).put (some 59) (us.getD 6 undef)).put (some 15) (.pointer (some ⟨qa, 0, none⟩))).put (some 16) (.pointer (some ⟨qb, 0, none⟩))).put (some 17) (.int .i64 0)))
          (fun qa qb zv w' => w'.heap[qa]? = some (.cells #[zv] 28 (0, 0)) ∧ R.At w' (.agg #[zv]) (L1 ++ [7]) ∧ Keeps [] Y3 w') ?_ ?_
        ·
          obtain ⟨S, hS⟩ : ∃ S : World → Prop, S = fun y => Keeps [] Y3 y := ⟨_, rfl⟩
          have HSE := Lib.hid hS
          have hSD : S Y3.drew := by rw [hS]; exact (Keeps.refl _ _).drew
          have HS0 := Lib.hid (fun (w' : World) (h : S w') => show w'.cell? ⟨q8, 0, none⟩ = some zo from by rw [hS] at h; exact h.cell (cell_lit HSq8.out 0 rfl) (by simp))
          have hd0 : Keeps [] Y3 Y3.drew := (Keeps.refl _ _).drew
          have hz0 := R.new_ HZo.out hd0
          clear hS
          refine wp_region_noPanic ?_
          refine wp_region_held_drew (S := S) (by kernel_rfl) hSD (fun hHeld => ?_)
          generalize Y3.drew = V0 at *
          have HK0 := Lib.hid hd0; have HZo0 := Lib.hid hz0
          clear hd0 hz0
          apply wpAnyH_take (i := 0)
          · simp only [List.getElem?_toArray]; rfl
          · kernel_rfl
          · kernel_rfl
          · kernel_rfl
          · exact fun _ _ _ h => h
          · exact Or.inl ⟨by rfl, by intro w hSw; have q0 := HS0.out w hSw; go_simp; try with_reducible rfl⟩
          · assumption
          try simp only [Act.put, List.setIfInBounds_toArray, List.set_cons_zero, List.set_cons_succ]
          apply wpAnyH_ready (rs := [1, 7, 8])
          · kernel_rfl
          · simp
          apply AllReadyH.cons
          · simp only [List.getElem?_toArray]; rfl
          · intro K hK
            rw [if_pos (by rfl)]
            refine wp_call10 26 _ _ rfl [.int .u16 7] rfl Tryd.func26 (by kernel_rfl) (by kernel_rfl) ((enq10_any _ 7).mono ?_)
            rintro e V1 ⟨rfl, hk⟩
            refine ⟨_, rfl, ?_⟩
            have HK1 := Lib.hid (HK0.out.trans hk (FSub.refl _ _))
            have HZo1 := Lib.hid (R.new_ HZo0.out hk)
            clear hk
            refine hK.out _ _ ?_ (fun hHeld => ?_)
            · exact (by rw [HSE.out]; exact HK1.out)
            clear hK K
            try simp only [Act.put, List.setIfInBounds_toArray, List.set_cons_zero, List.set_cons_succ]
            apply wpAnyH_ready (rs := [2, 7, 8])
            · kernel_rfl
            · simp
            apply AllReadyH.cons
            · simp only [List.getElem?_toArray]; rfl
            · intro K hK
              rw [if_pos (by rfl)]
              refine wp_call10 12 _ _ rfl [.agg #[zo], (kwE 7).val] rfl Tryd.func12 (by kernel_rfl) (by kernel_rfl) ((R.step V1 _ L1 (kwE 7) (R.keepG HG.out (HK.out.trans HK1.out (FSub.refl _ _))) HZo1.out (by have := HN1.out; omega) (enq_in 7 (by decide))).mono ?_)
              rintro e V2 ⟨st, rfl, hz, hk, hf⟩
              rw [quX_enq (by decide) rfl] at hz ⊢
              obtain ⟨zv, rfl, ho⟩ := R.one hz
              have HOV := Lib.hid ho
              clear ho
              refine ⟨_, rfl, ?_⟩
              have HK2 := Lib.hid (HK1.out.trans hk (FSub.refl _ _))
              have HZo2 := Lib.hid (R.new_ HZo1.out hk)
              have HZv2 := Lib.hid hz
              clear hz hf
              clear hk
              refine hK.out _ _ ?_ (fun hHeld => ?_)
              · exact (by rw [HSE.out]; exact HK2.out)
              clear hK K
              try simp only [Act.put, List.setIfInBounds_toArray, List.set_cons_zero, List.set_cons_succ]
              apply wpAnyH_take (i := 3)
              · simp only [List.getElem?_toArray]; rfl
              · kernel_rfl
              · kernel_rfl
              · kernel_rfl
              · exact fun _ _ _ h => h
              · exact Or.inl ⟨by rfl, by intro w hSw; go_simp; try with_reducible rfl⟩
              · assumption
              try simp only [Act.put, List.setIfInBounds_toArray, List.set_cons_zero, List.set_cons_succ]
              apply wpAnyH_take (i := 4)
              · simp only [List.getElem?_toArray]; rfl
              · kernel_rfl
              · kernel_rfl
              · kernel_rfl
              · exact fun _ _ _ h => h
              · exact Or.inl ⟨by rfl, by intro w hSw; go_simp; try with_reducible rfl⟩
              · assumption
              try simp only [Act.put, List.setIfInBounds_toArray, List.set_cons_zero, List.set_cons_succ]
              apply wpAnyH_take (i := 5)
              · simp only [List.getElem?_toArray]; rfl
              · kernel_rfl
              · kernel_rfl
              · kernel_rfl
              · exact fun _ _ _ h => h
              · exact Or.inl ⟨by rfl, by intro w hSw; go_simp; try with_reducible rfl⟩
              · assumption
              try simp only [Act.put, List.setIfInBounds_toArray, List.set_cons_zero, List.set_cons_succ]
              apply wpAnyH_take (i := 6)
              · simp only [List.getElem?_toArray]; rfl
              · kernel_rfl
              · kernel_rfl
              · kernel_rfl
              · exact fun _ _ _ h => h
              · exact Or.inl ⟨by rfl, by intro w hSw; go_simp; try with_reducible rfl⟩
              · assumption
              try simp only [Act.put, List.setIfInBounds_toArray, List.set_cons_zero, List.set_cons_succ]
              apply wpAnyH_ready (rs := [7, 8])
              · kernel_rfl
              · simp
              apply AllReadyH.cons
              · simp only [List.getElem?_toArray]; rfl
              · intro K hK
                rw [if_pos (by rfl)]
                refine wp_allocS _ _ _ _ rfl ?_
                have hk : Keeps [] V2 (V2.alloc (.cells #[.slice none 0 0] 28)) := (Keeps.refl _ _).alloc _
                have hb := heap_alloc_new V2 (.cells #[.slice none 0 0] 28)
                have hl : V2.heap.size < (V2.alloc (.cells #[.slice none 0 0] 28)).heap.size := by rw [show (V2.alloc (.cells #[.slice none 0 0] 28)).heap.size = V2.heap.size + 1 from Array.size_push _]; omega
                have HPoa := Lib.hid (fun p hp => (Nat.ne_of_lt (R.old HZo2.out p hp) : p ≠ V2.heap.size))
                have HPva := Lib.hid (fun p hp => (Nat.ne_of_lt (R.old HZv2.out p hp) : p ≠ V2.heap.size))
                have HGa := Lib.hid HK2.out.size
                generalize V2.alloc (.cells #[.slice none 0 0] 28) = V3 at *
                have HBa3 := Lib.hid hb; have HLa3 := Lib.hid hl
                have HK3 := Lib.hid (HK2.out.trans hk (FSub.refl _ _))
                have HZo3 := Lib.hid (R.new_ HZo2.out hk)
                have HZv3 := Lib.hid (R.new_ HZv2.out hk)
                clear hb hl hk
                generalize V2.heap.size = qa at *
                refine hK.out _ _ ?_ (fun hHeld => ?_)
                · exact (by rw [HSE.out]; exact HK3.out)
                clear hK K
                try simp only [Act.put, List.setIfInBounds_toArray, List.set_cons_zero, List.set_cons_succ]
                apply wpAnyH_ready (rs := [8])
                · kernel_rfl
                · simp
                apply AllReadyH.cons (hs := AllReadyH.nil)
                · simp only [List.getElem?_toArray]; rfl
                intro K hK
                rw [if_pos (by rfl)]
                refine wp_allocA _ _ _ _ rfl ?_
                have hk : Keeps [] V3 (V3.alloc (.cells (ansC ⟨0, 0⟩).toArray 31)) := (Keeps.refl _ _).alloc _
                have hb := heap_alloc_new V3 (.cells (ansC ⟨0, 0⟩).toArray 31)
                have hl : V3.heap.size < (V3.alloc (.cells (ansC ⟨0, 0⟩).toArray 31)).heap.size := by rw [show (V3.alloc (.cells (ansC ⟨0, 0⟩).toArray 31)).heap.size = V3.heap.size + 1 from Array.size_push _]; omega
                have HPob := Lib.hid (fun p hp => (Nat.ne_of_lt (R.old HZo3.out p hp) : p ≠ V3.heap.size))
                have HPvb := Lib.hid (fun p hp => (Nat.ne_of_lt (R.old HZv3.out p hp) : p ≠ V3.heap.size))
                have HAB := Lib.hid (Nat.ne_of_lt HLa3.out)
                have HGb := Lib.hid HK3.out.size
                generalize V3.alloc (.cells (ansC ⟨0, 0⟩).toArray 31) = V4 at *
                have HBb4 := Lib.hid hb; have HLb4 := Lib.hid hl
                have HK4 := Lib.hid (HK3.out.trans hk (FSub.refl _ _))
                have HZo4 := Lib.hid (R.new_ HZo3.out hk)
                have HZv4 := Lib.hid (R.new_ HZv3.out hk)
                have HBa4 := Lib.hid (hk.heap HBa3.out (by simp))
                have HLa4 := Lib.hid (Nat.lt_of_lt_of_le HLa3.out hk.size)
                clear hb hl hk
                generalize V3.heap.size = qb at *
                refine hK.out _ _ ?_ (fun hHeld => ?_)
                · exact (by rw [HSE.out]; exact HK4.out)
                clear hK K
                try simp only [Act.put, List.setIfInBounds_toArray, List.set_cons_zero, List.set_cons_succ]
                apply wpAnyH_ready (rs := [9])
                · kernel_rfl
                · simp
                apply AllReadyH.cons (hs := AllReadyH.nil)
                · simp only [List.getElem?_toArray]; rfl
                intro K hK
                rw [if_pos (by rfl)]
                refine wp_putS (g := qa) (z := zv) rfl rfl rfl HBa4.out HOV.out ?_
                intro W5 h5 k5
                have HA5 := Lib.hid h5
                have HK5 := Lib.hid (HK4.out.trans k5 (fun p hp => .inr (by simp at hp; have := HGa.out; omega)))
                have HB5 := Lib.hid (k5.heap HBb4.out (by simp; have := HAB.out; omega))
                have HZ5 := Lib.hid (R.keep HZv4.out k5 (fun p hp hq => by simp at hq; exact HPva.out p hp hq))
                clear h5 k5
                refine hK.out _ _ ?_ (fun hHeld => ?_)
                · exact (by rw [HSE.out]; exact HK5.out)
                clear hK K
                try simp only [Act.put, List.setIfInBounds_toArray, List.set_cons_zero, List.set_cons_succ]
                apply wpAnyH_ready (rs := [10])
                · kernel_rfl
                · simp
                apply AllReadyH.cons (hs := AllReadyH.nil)
                · simp only [List.getElem?_toArray]; rfl
                intro K hK
                rw [if_pos (by rfl)]
                refine wp_putNw (g := qb) (old := ⟨0, 0⟩) ⟨0, 0⟩ rfl rfl rfl HB5.out ?_
                intro W6 h6 k6
                have HK6 := Lib.hid (HK5.out.trans k6 (fun p hp => .inr (by simp at hp; have := HGb.out; omega)))
                have HA6 := Lib.hid (k6.heap HA5.out (by simp; have := HAB.out; omega))
                have HZ6 := Lib.hid (R.keep HZ5.out k6 (fun p hp hq => by simp at hq; exact HPvb.out p hp hq))
                clear h6 k6
                refine hK.out _ _ ?_ (fun hHeld => ?_)
                · exact (by rw [HSE.out]; exact HK6.out)
                clear hK K
                try simp only [Act.put, List.setIfInBounds_toArray, List.set_cons_zero, List.set_cons_succ]
                apply wpAnyH_take (i := 11)
                · simp only [List.getElem?_toArray]; rfl
                · kernel_rfl
                · kernel_rfl
                · kernel_rfl
                · exact fun _ _ _ h => h
                · exact Or.inl ⟨by rfl, by intro w hSw; go_simp; try with_reducible rfl⟩
                · assumption
                try simp only [Act.put, List.setIfInBounds_toArray, List.set_cons_zero, List.set_cons_succ]
                refine wpAnyH_done (by kernel_rfl) ?_ _
                refine NoPanic.normal ?_
                exact ⟨rfl, qa, qb, zv, [_, _, _, _, _, _, _], rfl, HA6.out, HZ6.out, HK6.out⟩
              apply AllReadyH.cons (hs := AllReadyH.nil)
              · simp only [List.getElem?_toArray]; rfl
              intro K hK
              rw [if_pos (by rfl)]
              refine wp_allocA _ _ _ _ rfl ?_
              have hk : Keeps [] V2 (V2.alloc (.cells (ansC ⟨0, 0⟩).toArray 31)) := (Keeps.refl _ _).alloc _
              have hb := heap_alloc_new V2 (.cells (ansC ⟨0, 0⟩).toArray 31)
              have hl : V2.heap.size < (V2.alloc (.cells (ansC ⟨0, 0⟩).toArray 31)).heap.size := by rw [show (V2.alloc (.cells (ansC ⟨0, 0⟩).toArray 31)).heap.size = V2.heap.size + 1 from Array.size_push _]; omega
              have HPob := Lib.hid (fun p hp => (Nat.ne_of_lt (R.old HZo2.out p hp) : p ≠ V2.heap.size))
              have HPvb := Lib.hid (fun p hp => (Nat.ne_of_lt (R.old HZv2.out p hp) : p ≠ V2.heap.size))
              have HGb := Lib.hid HK2.out.size
              generalize V2.alloc (.cells (ansC ⟨0, 0⟩).toArray 31) = V3 at *
              have HBb3 := Lib.hid hb; have HLb3 := Lib.hid hl
              have HK3 := Lib.hid (HK2.out.trans hk (FSub.refl _ _))
              have HZo3 := Lib.hid (R.new_ HZo2.out hk)
              have HZv3 := Lib.hid (R.new_ HZv2.out hk)
              clear hb hl hk
              generalize V2.heap.size = qb at *
              refine hK.out _ _ ?_ (fun hHeld => ?_)
              · exact (by rw [HSE.out]; exact HK3.out)
              clear hK K
              try simp only [Act.put, List.setIfInBounds_toArray, List.set_cons_zero, List.set_cons_succ]
              apply wpAnyH_ready (rs := [7])
              · kernel_rfl
              · simp
              apply AllReadyH.cons (hs := AllReadyH.nil)
              · simp only [List.getElem?_toArray]; rfl
              intro K hK
              rw [if_pos (by rfl)]
              refine wp_allocS _ _ _ _ rfl ?_
              have hk : Keeps [] V3 (V3.alloc (.cells #[.slice none 0 0] 28)) := (Keeps.refl _ _).alloc _
              have hb := heap_alloc_new V3 (.cells #[.slice none 0 0] 28)
              have hl : V3.heap.size < (V3.alloc (.cells #[.slice none 0 0] 28)).heap.size := by rw [show (V3.alloc (.cells #[.slice none 0 0] 28)).heap.size = V3.heap.size + 1 from Array.size_push _]; omega
              have HPoa := Lib.hid (fun p hp => (Nat.ne_of_lt (R.old HZo3.out p hp) : p ≠ V3.heap.size))
              have HPva := Lib.hid (fun p hp => (Nat.ne_of_lt (R.old HZv3.out p hp) : p ≠ V3.heap.size))
              have HAB := Lib.hid (Nat.ne_of_lt HLb3.out)
              have HGa := Lib.hid HK3.out.size
              generalize V3.alloc (.cells #[.slice none 0 0] 28) = V4 at *
              have HBa4 := Lib.hid hb; have HLa4 := Lib.hid hl
              have HK4 := Lib.hid (HK3.out.trans hk (FSub.refl _ _))
              have HZo4 := Lib.hid (R.new_ HZo3.out hk)
              have HZv4 := Lib.hid (R.new_ HZv3.out hk)
              have HBb4 := Lib.hid (hk.heap HBb3.out (by simp))
              have HLb4 := Lib.hid (Nat.lt_of_lt_of_le HLb3.out hk.size)
              clear hb hl hk
              generalize V3.heap.size = qa at *
              refine hK.out _ _ ?_ (fun hHeld => ?_)
              · exact (by rw [HSE.out]; exact HK4.out)
              clear hK K
              try simp only [Act.put, List.setIfInBounds_toArray, List.set_cons_zero, List.set_cons_succ]
              apply wpAnyH_ready (rs := [9])
              · kernel_rfl
              · simp
              apply AllReadyH.cons (hs := AllReadyH.nil)
              · simp only [List.getElem?_toArray]; rfl
              intro K hK
              rw [if_pos (by rfl)]
              refine wp_putS (g := qa) (z := zv) rfl rfl rfl HBa4.out HOV.out ?_
              intro W5 h5 k5
              have HA5 := Lib.hid h5
              have HK5 := Lib.hid (HK4.out.trans k5 (fun p hp => .inr (by simp at hp; have := HGa.out; omega)))
              have HB5 := Lib.hid (k5.heap HBb4.out (by simp; have := HAB.out; omega))
              have HZ5 := Lib.hid (R.keep HZv4.out k5 (fun p hp hq => by simp at hq; exact HPva.out p hp hq))
              clear h5 k5
              refine hK.out _ _ ?_ (fun hHeld => ?_)
              · exact (by rw [HSE.out]; exact HK5.out)
              clear hK K
              try simp only [Act.put, List.setIfInBounds_toArray, List.set_cons_zero, List.set_cons_succ]
              apply wpAnyH_ready (rs := [10])
              · kernel_rfl
              · simp
              apply AllReadyH.cons (hs := AllReadyH.nil)
              · simp only [List.getElem?_toArray]; rfl
              intro K hK
              rw [if_pos (by rfl)]
              refine wp_putNw (g := qb) (old := ⟨0, 0⟩) ⟨0, 0⟩ rfl rfl rfl HB5.out ?_
              intro W6 h6 k6
              have HK6 := Lib.hid (HK5.out.trans k6 (fun p hp => .inr (by simp at hp; have := HGb.out; omega)))
              have HA6 := Lib.hid (k6.heap HA5.out (by simp; have := HAB.out; omega))
              have HZ6 := Lib.hid (R.keep HZ5.out k6 (fun p hp hq => by simp at hq; exact HPvb.out p hp hq))
              clear h6 k6
              refine hK.out _ _ ?_ (fun hHeld => ?_)
              · exact (by rw [HSE.out]; exact HK6.out)
              clear hK K
              try simp only [Act.put, List.setIfInBounds_toArray, List.set_cons_zero, List.set_cons_succ]
              apply wpAnyH_take (i := 11)
              · simp only [List.getElem?_toArray]; rfl
              · kernel_rfl
              · kernel_rfl
              · kernel_rfl
              · exact fun _ _ _ h => h
              · exact Or.inl ⟨by rfl, by intro w hSw; go_simp; try with_reducible rfl⟩
              · assumption
              try simp only [Act.put, List.setIfInBounds_toArray, List.set_cons_zero, List.set_cons_succ]
              refine wpAnyH_done (by kernel_rfl) ?_ _
              refine NoPanic.normal ?_
              exact ⟨rfl, qa, qb, zv, [_, _, _, _, _, _, _], rfl, HA6.out, HZ6.out, HK6.out⟩
            apply AllReadyH.cons
            · simp only [List.getElem?_toArray]; rfl
            · intro K hK
              rw [if_pos (by rfl)]
              refine wp_allocS _ _ _ _ rfl ?_
              have hk : Keeps [] V1 (V1.alloc (.cells #[.slice none 0 0] 28)) := (Keeps.refl _ _).alloc _
              have hb := heap_alloc_new V1 (.cells #[.slice none 0 0] 28)
              have hl : V1.heap.size < (V1.alloc (.cells #[.slice none 0 0] 28)).heap.size := by rw [show (V1.alloc (.cells #[.slice none 0 0] 28)).heap.size = V1.heap.size + 1 from Array.size_push _]; omega
              have HPoa := Lib.hid (fun p hp => (Nat.ne_of_lt (R.old HZo1.out p hp) : p ≠ V1.heap.size))
              have HGa := Lib.hid HK1.out.size
              generalize V1.alloc (.cells #[.slice none 0 0] 28) = V2 at *
              have HBa2 := Lib.hid hb; have HLa2 := Lib.hid hl
              have HK2 := Lib.hid (HK1.out.trans hk (FSub.refl _ _))
              have HZo2 := Lib.hid (R.new_ HZo1.out hk)
              clear hb hl hk
              generalize V1.heap.size = qa at *
              refine hK.out _ _ ?_ (fun hHeld => ?_)
              · exact (by rw [HSE.out]; exact HK2.out)
              clear hK K
              try simp only [Act.put, List.setIfInBounds_toArray, List.set_cons_zero, List.set_cons_succ]
              apply wpAnyH_ready (rs := [2, 8])
              · kernel_rfl
              · simp
              apply AllReadyH.cons
              · simp only [List.getElem?_toArray]; rfl
              · intro K hK
                rw [if_pos (by rfl)]
                refine wp_call10 12 _ _ rfl [.agg #[zo], (kwE 7).val] rfl Tryd.func12 (by kernel_rfl) (by kernel_rfl) ((R.step V2 _ L1 (kwE 7) (R.keepG HG.out (HK.out.trans HK2.out (FSub.refl _ _))) HZo2.out (by have := HN1.out; omega) (enq_in 7 (by decide))).mono ?_)
                rintro e V3 ⟨st, rfl, hz, hk, hf⟩
                rw [quX_enq (by decide) rfl] at hz ⊢
                obtain ⟨zv, rfl, ho⟩ := R.one hz
                have HOV := Lib.hid ho
                clear ho
                refine ⟨_, rfl, ?_⟩
                have HK3 := Lib.hid (HK2.out.trans hk (FSub.refl _ _))
                have HZo3 := Lib.hid (R.new_ HZo2.out hk)
                have HBa3 := Lib.hid (hk.heap HBa2.out (by simp))
                have HLa3 := Lib.hid (Nat.lt_of_lt_of_le HLa2.out hk.size)
                have HZv3 := Lib.hid hz
                have HPva := Lib.hid (show ∀ p ∈ R.foot (.agg #[zv]), p ≠ qa from fun p hp e => by
                  rcases hf p hp with h | h
                  · exact HPoa.out p h e
                  · have := HLa2.out; omega)
                clear hz hf
                clear hk
                refine hK.out _ _ ?_ (fun hHeld => ?_)
                · exact (by rw [HSE.out]; exact HK3.out)
                clear hK K
                try simp only [Act.put, List.setIfInBounds_toArray, List.set_cons_zero, List.set_cons_succ]
                apply wpAnyH_take (i := 3)
                · simp only [List.getElem?_toArray]; rfl
                · kernel_rfl
                · kernel_rfl
                · kernel_rfl
                · exact fun _ _ _ h => h
                · exact Or.inl ⟨by rfl, by intro w hSw; go_simp; try with_reducible rfl⟩
                · assumption
                try simp only [Act.put, List.setIfInBounds_toArray, List.set_cons_zero, List.set_cons_succ]
                apply wpAnyH_take (i := 4)
                · simp only [List.getElem?_toArray]; rfl
                · kernel_rfl
                · kernel_rfl
                · kernel_rfl
                · exact fun _ _ _ h => h
                · exact Or.inl ⟨by rfl, by intro w hSw; go_simp; try with_reducible rfl⟩
                · assumption
                try simp only [Act.put, List.setIfInBounds_toArray, List.set_cons_zero, List.set_cons_succ]
                apply wpAnyH_take (i := 5)
                · simp only [List.getElem?_toArray]; rfl
                · kernel_rfl
                · kernel_rfl
                · kernel_rfl
                · exact fun _ _ _ h => h
                · exact Or.inl ⟨by rfl, by intro w hSw; go_simp; try with_reducible rfl⟩
                · assumption
                try simp only [Act.put, List.setIfInBounds_toArray, List.set_cons_zero, List.set_cons_succ]
                apply wpAnyH_take (i := 6)
                · simp only [List.getElem?_toArray]; rfl
                · kernel_rfl
                · kernel_rfl
                · kernel_rfl
                · exact fun _ _ _ h => h
                · exact Or.inl ⟨by rfl, by intro w hSw; go_simp; try with_reducible rfl⟩
                · assumption
                try simp only [Act.put, List.setIfInBounds_toArray, List.set_cons_zero, List.set_cons_succ]
                apply wpAnyH_ready (rs := [8])
                · kernel_rfl
                · simp
                apply AllReadyH.cons (hs := AllReadyH.nil)
                · simp only [List.getElem?_toArray]; rfl
                intro K hK
                rw [if_pos (by rfl)]
                refine wp_allocA _ _ _ _ rfl ?_
                have hk : Keeps [] V3 (V3.alloc (.cells (ansC ⟨0, 0⟩).toArray 31)) := (Keeps.refl _ _).alloc _
                have hb := heap_alloc_new V3 (.cells (ansC ⟨0, 0⟩).toArray 31)
                have hl : V3.heap.size < (V3.alloc (.cells (ansC ⟨0, 0⟩).toArray 31)).heap.size := by rw [show (V3.alloc (.cells (ansC ⟨0, 0⟩).toArray 31)).heap.size = V3.heap.size + 1 from Array.size_push _]; omega
                have HPob := Lib.hid (fun p hp => (Nat.ne_of_lt (R.old HZo3.out p hp) : p ≠ V3.heap.size))
                have HPvb := Lib.hid (fun p hp => (Nat.ne_of_lt (R.old HZv3.out p hp) : p ≠ V3.heap.size))
                have HAB := Lib.hid (Nat.ne_of_lt HLa3.out)
                have HGb := Lib.hid HK3.out.size
                generalize V3.alloc (.cells (ansC ⟨0, 0⟩).toArray 31) = V4 at *
                have HBb4 := Lib.hid hb; have HLb4 := Lib.hid hl
                have HK4 := Lib.hid (HK3.out.trans hk (FSub.refl _ _))
                have HZo4 := Lib.hid (R.new_ HZo3.out hk)
                have HZv4 := Lib.hid (R.new_ HZv3.out hk)
                have HBa4 := Lib.hid (hk.heap HBa3.out (by simp))
                have HLa4 := Lib.hid (Nat.lt_of_lt_of_le HLa3.out hk.size)
                clear hb hl hk
                generalize V3.heap.size = qb at *
                refine hK.out _ _ ?_ (fun hHeld => ?_)
                · exact (by rw [HSE.out]; exact HK4.out)
                clear hK K
                try simp only [Act.put, List.setIfInBounds_toArray, List.set_cons_zero, List.set_cons_succ]
                apply wpAnyH_ready (rs := [9])
                · kernel_rfl
                · simp
                apply AllReadyH.cons (hs := AllReadyH.nil)
                · simp only [List.getElem?_toArray]; rfl
                intro K hK
                rw [if_pos (by rfl)]
                refine wp_putS (g := qa) (z := zv) rfl rfl rfl HBa4.out HOV.out ?_
                intro W5 h5 k5
                have HA5 := Lib.hid h5
                have HK5 := Lib.hid (HK4.out.trans k5 (fun p hp => .inr (by simp at hp; have := HGa.out; omega)))
                have HB5 := Lib.hid (k5.heap HBb4.out (by simp; have := HAB.out; omega))
                have HZ5 := Lib.hid (R.keep HZv4.out k5 (fun p hp hq => by simp at hq; exact HPva.out p hp hq))
                clear h5 k5
                refine hK.out _ _ ?_ (fun hHeld => ?_)
                · exact (by rw [HSE.out]; exact HK5.out)
                clear hK K
                try simp only [Act.put, List.setIfInBounds_toArray, List.set_cons_zero, List.set_cons_succ]
                apply wpAnyH_ready (rs := [10])
                · kernel_rfl
                · simp
                apply AllReadyH.cons (hs := AllReadyH.nil)
                · simp only [List.getElem?_toArray]; rfl
                intro K hK
                rw [if_pos (by rfl)]
                refine wp_putNw (g := qb) (old := ⟨0, 0⟩) ⟨0, 0⟩ rfl rfl rfl HB5.out ?_
                intro W6 h6 k6
                have HK6 := Lib.hid (HK5.out.trans k6 (fun p hp => .inr (by simp at hp; have := HGb.out; omega)))
                have HA6 := Lib.hid (k6.heap HA5.out (by simp; have := HAB.out; omega))
                have HZ6 := Lib.hid (R.keep HZ5.out k6 (fun p hp hq => by simp at hq; exact HPvb.out p hp hq))
                clear h6 k6
                refine hK.out _ _ ?_ (fun hHeld => ?_)
                · exact (by rw [HSE.out]; exact HK6.out)
                clear hK K
                try simp only [Act.put, List.setIfInBounds_toArray, List.set_cons_zero, List.set_cons_succ]
                apply wpAnyH_take (i := 11)
                · simp only [List.getElem?_toArray]; rfl
                · kernel_rfl
                · kernel_rfl
                · kernel_rfl
                · exact fun _ _ _ h => h
                · exact Or.inl ⟨by rfl, by intro w hSw; go_simp; try with_reducible rfl⟩
                · assumption
                try simp only [Act.put, List.setIfInBounds_toArray, List.set_cons_zero, List.set_cons_succ]
                refine wpAnyH_done (by kernel_rfl) ?_ _
                refine NoPanic.normal ?_
                exact ⟨rfl, qa, qb, zv, [_, _, _, _, _, _, _], rfl, HA6.out, HZ6.out, HK6.out⟩
              apply AllReadyH.cons (hs := AllReadyH.nil)
              · simp only [List.getElem?_toArray]; rfl
              intro K hK
              rw [if_pos (by rfl)]
              refine wp_allocA _ _ _ _ rfl ?_
              have hk : Keeps [] V2 (V2.alloc (.cells (ansC ⟨0, 0⟩).toArray 31)) := (Keeps.refl _ _).alloc _
              have hb := heap_alloc_new V2 (.cells (ansC ⟨0, 0⟩).toArray 31)
              have hl : V2.heap.size < (V2.alloc (.cells (ansC ⟨0, 0⟩).toArray 31)).heap.size := by rw [show (V2.alloc (.cells (ansC ⟨0, 0⟩).toArray 31)).heap.size = V2.heap.size + 1 from Array.size_push _]; omega
              have HPob := Lib.hid (fun p hp => (Nat.ne_of_lt (R.old HZo2.out p hp) : p ≠ V2.heap.size))
              have HAB := Lib.hid (Nat.ne_of_lt HLa2.out)
              have HGb := Lib.hid HK2.out.size
              generalize V2.alloc (.cells (ansC ⟨0, 0⟩).toArray 31) = V3 at *
              have HBb3 := Lib.hid hb; have HLb3 := Lib.hid hl
              have HK3 := Lib.hid (HK2.out.trans hk (FSub.refl _ _))
              have HZo3 := Lib.hid (R.new_ HZo2.out hk)
              have HBa3 := Lib.hid (hk.heap HBa2.out (by simp))
              have HLa3 := Lib.hid (Nat.lt_of_lt_of_le HLa2.out hk.size)
              clear hb hl hk
              generalize V2.heap.size = qb at *
              refine hK.out _ _ ?_ (fun hHeld => ?_)
              · exact (by rw [HSE.out]; exact HK3.out)
              clear hK K
              try simp only [Act.put, List.setIfInBounds_toArray, List.set_cons_zero, List.set_cons_succ]
              apply wpAnyH_ready (rs := [2])
              · kernel_rfl
              · simp
              apply AllReadyH.cons (hs := AllReadyH.nil)
              · simp only [List.getElem?_toArray]; rfl
              intro K hK
              rw [if_pos (by rfl)]
              refine wp_call10 12 _ _ rfl [.agg #[zo], (kwE 7).val] rfl Tryd.func12 (by kernel_rfl) (by kernel_rfl) ((R.step V3 _ L1 (kwE 7) (R.keepG HG.out (HK.out.trans HK3.out (FSub.refl _ _))) HZo3.out (by have := HN1.out; omega) (enq_in 7 (by decide))).mono ?_)
              rintro e V4 ⟨st, rfl, hz, hk, hf⟩
              rw [quX_enq (by decide) rfl] at hz ⊢
              obtain ⟨zv, rfl, ho⟩ := R.one hz
              have HOV := Lib.hid ho
              clear ho
              refine ⟨_, rfl, ?_⟩
              have HK4 := Lib.hid (HK3.out.trans hk (FSub.refl _ _))
              have HZo4 := Lib.hid (R.new_ HZo3.out hk)
              have HBa4 := Lib.hid (hk.heap HBa3.out (by simp))
              have HLa4 := Lib.hid (Nat.lt_of_lt_of_le HLa3.out hk.size)
              have HBb4 := Lib.hid (hk.heap HBb3.out (by simp))
              have HLb4 := Lib.hid (Nat.lt_of_lt_of_le HLb3.out hk.size)
              have HZv4 := Lib.hid hz
              have HPva := Lib.hid (show ∀ p ∈ R.foot (.agg #[zv]), p ≠ qa from fun p hp e => by
                rcases hf p hp with h | h
                · exact HPoa.out p h e
                · have := HLa3.out; omega)
              have HPvb := Lib.hid (show ∀ p ∈ R.foot (.agg #[zv]), p ≠ qb from fun p hp e => by
                rcases hf p hp with h | h
                · exact HPob.out p h e
                · have := HLb3.out; omega)
              clear hz hf
              clear hk
              refine hK.out _ _ ?_ (fun hHeld => ?_)
              · exact (by rw [HSE.out]; exact HK4.out)
              clear hK K
              try simp only [Act.put, List.setIfInBounds_toArray, List.set_cons_zero, List.set_cons_succ]
              apply wpAnyH_take (i := 3)
              · simp only [List.getElem?_toArray]; rfl
              · kernel_rfl
              · kernel_rfl
              · kernel_rfl
              · exact fun _ _ _ h => h
              · exact Or.inl ⟨by rfl, by intro w hSw; go_simp; try with_reducible rfl⟩
              · assumption
              try simp only [Act.put, List.setIfInBounds_toArray, List.set_cons_zero, List.set_cons_succ]
              apply wpAnyH_take (i := 4)
              · simp only [List.getElem?_toArray]; rfl
              · kernel_rfl
              · kernel_rfl
              · kernel_rfl
              · exact fun _ _ _ h => h
              · exact Or.inl ⟨by rfl, by intro w hSw; go_simp; try with_reducible rfl⟩
              · assumption
              try simp only [Act.put, List.setIfInBounds_toArray, List.set_cons_zero, List.set_cons_succ]
              apply wpAnyH_take (i := 5)
              · simp only [List.getElem?_toArray]; rfl
              · kernel_rfl
              · kernel_rfl
              · kernel_rfl
              · exact fun _ _ _ h => h
              · exact Or.inl ⟨by rfl, by intro w hSw; go_simp; try with_reducible rfl⟩
              · assumption
              try simp only [Act.put, List.setIfInBounds_toArray, List.set_cons_zero, List.set_cons_succ]
              apply wpAnyH_take (i := 6)
              · simp only [List.getElem?_toArray]; rfl
              · kernel_rfl
              · kernel_rfl
              · kernel_rfl
              · exact fun _ _ _ h => h
              · exact Or.inl ⟨by rfl, by intro w hSw; go_simp; try with_reducible rfl⟩
              · assumption
              try simp only [Act.put, List.setIfInBounds_toArray, List.set_cons_zero, List.set_cons_succ]
              apply wpAnyH_ready (rs := [9])
              · kernel_rfl
              · simp
              apply AllReadyH.cons (hs := AllReadyH.nil)
              · simp only [List.getElem?_toArray]; rfl
              intro K hK
              rw [if_pos (by rfl)]
              refine wp_putS (g := qa) (z := zv) rfl rfl rfl HBa4.out HOV.out ?_
              intro W5 h5 k5
              have HA5 := Lib.hid h5
              have HK5 := Lib.hid (HK4.out.trans k5 (fun p hp => .inr (by simp at hp; have := HGa.out; omega)))
              have HB5 := Lib.hid (k5.heap HBb4.out (by simp; have := HAB.out; omega))
              have HZ5 := Lib.hid (R.keep HZv4.out k5 (fun p hp hq => by simp at hq; exact HPva.out p hp hq))
              clear h5 k5
              refine hK.out _ _ ?_ (fun hHeld => ?_)
              · exact (by rw [HSE.out]; exact HK5.out)
              clear hK K
              try simp only [Act.put, List.setIfInBounds_toArray, List.set_cons_zero, List.set_cons_succ]
              apply wpAnyH_ready (rs := [10])
              · kernel_rfl
              · simp
              apply AllReadyH.cons (hs := AllReadyH.nil)
              · simp only [List.getElem?_toArray]; rfl
              intro K hK
              rw [if_pos (by rfl)]
              refine wp_putNw (g := qb) (old := ⟨0, 0⟩) ⟨0, 0⟩ rfl rfl rfl HB5.out ?_
              intro W6 h6 k6
              have HK6 := Lib.hid (HK5.out.trans k6 (fun p hp => .inr (by simp at hp; have := HGb.out; omega)))
              have HA6 := Lib.hid (k6.heap HA5.out (by simp; have := HAB.out; omega))
              have HZ6 := Lib.hid (R.keep HZ5.out k6 (fun p hp hq => by simp at hq; exact HPvb.out p hp hq))
              clear h6 k6
              refine hK.out _ _ ?_ (fun hHeld => ?_)
              · exact (by rw [HSE.out]; exact HK6.out)
              clear hK K
              try simp only [Act.put, List.setIfInBounds_toArray, List.set_cons_zero, List.set_cons_succ]
              apply wpAnyH_take (i := 11)
              · simp only [List.getElem?_toArray]; rfl
              · kernel_rfl
              · kernel_rfl
              · kernel_rfl
              · exact fun _ _ _ h => h
              · exact Or.inl ⟨by rfl, by intro w hSw; go_simp; try with_reducible rfl⟩
              · assumption
              try simp only [Act.put, List.setIfInBounds_toArray, List.set_cons_zero, List.set_cons_succ]
              refine wpAnyH_done (by kernel_rfl) ?_ _
              refine NoPanic.normal ?_
              exact ⟨rfl, qa, qb, zv, [_, _, _, _, _, _, _], rfl, HA6.out, HZ6.out, HK6.out⟩
            apply AllReadyH.cons (hs := AllReadyH.nil)
            · simp only [List.getElem?_toArray]; rfl
            intro K hK
            rw [if_pos (by rfl)]
            refine wp_allocA _ _ _ _ rfl ?_
            have hk : Keeps [] V1 (V1.alloc (.cells (ansC ⟨0, 0⟩).toArray 31)) := (Keeps.refl _ _).alloc _
            have hb := heap_alloc_new V1 (.cells (ansC ⟨0, 0⟩).toArray 31)
            have hl : V1.heap.size < (V1.alloc (.cells (ansC ⟨0, 0⟩).toArray 31)).heap.size := by rw [show (V1.alloc (.cells (ansC ⟨0, 0⟩).toArray 31)).heap.size = V1.heap.size + 1 from Array.size_push _]; omega
            have HPob := Lib.hid (fun p hp => (Nat.ne_of_lt (R.old HZo1.out p hp) : p ≠ V1.heap.size))
            have HGb := Lib.hid HK1.out.size
            generalize V1.alloc (.cells (ansC ⟨0, 0⟩).toArray 31) = V2 at *
            have HBb2 := Lib.hid hb; have HLb2 := Lib.hid hl
            have HK2 := Lib.hid (HK1.out.trans hk (FSub.refl _ _))
            have HZo2 := Lib.hid (R.new_ HZo1.out hk)
            clear hb hl hk
            generalize V1.heap.size = qb at *
            refine hK.out _ _ ?_ (fun hHeld => ?_)
            · exact (by rw [HSE.out]; exact HK2.out)
            clear hK K
            try simp only [Act.put, List.setIfInBounds_toArray, List.set_cons_zero, List.set_cons_succ]
            apply wpAnyH_ready (rs := [2, 7])
            · kernel_rfl
            · simp
            apply AllReadyH.cons
            · simp only [List.getElem?_toArray]; rfl
            · intro K hK
              rw [if_pos (by rfl)]
              refine wp_call10 12 _ _ rfl [.agg #[zo], (kwE 7).val] rfl Tryd.func12 (by kernel_rfl) (by kernel_rfl) ((R.step V2 _ L1 (kwE 7) (R.keepG HG.out (HK.out.trans HK2.out (FSub.refl _ _))) HZo2.out (by have := HN1.out; omega) (enq_in 7 (by decide))).mono ?_)
              rintro e V3 ⟨st, rfl, hz, hk, hf⟩
              rw [quX_enq (by decide) rfl] at hz ⊢
              obtain ⟨zv, rfl, ho⟩ := R.one hz
              have HOV := Lib.hid ho
              clear ho
              refine ⟨_, rfl, ?_⟩
              have HK3 := Lib.hid (HK2.out.trans hk (FSub.refl _ _))
              have HZo3 := Lib.hid (R.new_ HZo2.out hk)
              have HBb3 := Lib.hid (hk.heap HBb2.out (by simp))
              have HLb3 := Lib.hid (Nat.lt_of_lt_of_le HLb2.out hk.size)
              have HZv3 := Lib.hid hz
              have HPvb := Lib.hid (show ∀ p ∈ R.foot (.agg #[zv]), p ≠ qb from fun p hp e => by
                rcases hf p hp with h | h
                · exact HPob.out p h e
                · have := HLb2.out; omega)
              clear hz hf
              clear hk
              refine hK.out _ _ ?_ (fun hHeld => ?_)
              · exact (by rw [HSE.out]; exact HK3.out)
              clear hK K
              try simp only [Act.put, List.setIfInBounds_toArray, List.set_cons_zero, List.set_cons_succ]
              apply wpAnyH_take (i := 3)
              · simp only [List.getElem?_toArray]; rfl
              · kernel_rfl
              · kernel_rfl
              · kernel_rfl
              · exact fun _ _ _ h => h
              · exact Or.inl ⟨by rfl, by intro w hSw; go_simp; try with_reducible rfl⟩
              · assumption
              try simp only [Act.put, List.setIfInBounds_toArray, List.set_cons_zero, List.set_cons_succ]
              apply wpAnyH_take (i := 4)
              · simp only [List.getElem?_toArray]; rfl
              · kernel_rfl
              · kernel_rfl
              · kernel_rfl
              · exact fun _ _ _ h => h
              · exact Or.inl ⟨by rfl, by intro w hSw; go_simp; try with_reducible rfl⟩
              · assumption
              try simp only [Act.put, List.setIfInBounds_toArray, List.set_cons_zero, List.set_cons_succ]
              apply wpAnyH_take (i := 5)
              · simp only [List.getElem?_toArray]; rfl
              · kernel_rfl
              · kernel_rfl
              · kernel_rfl
              · exact fun _ _ _ h => h
              · exact Or.inl ⟨by rfl, by intro w hSw; go_simp; try with_reducible rfl⟩
              · assumption
              try simp only [Act.put, List.setIfInBounds_toArray, List.set_cons_zero, List.set_cons_succ]
              apply wpAnyH_take (i := 6)
              · simp only [List.getElem?_toArray]; rfl
              · kernel_rfl
              · kernel_rfl
              · kernel_rfl
              · exact fun _ _ _ h => h
              · exact Or.inl ⟨by rfl, by intro w hSw; go_simp; try with_reducible rfl⟩
              · assumption
              try simp only [Act.put, List.setIfInBounds_toArray, List.set_cons_zero, List.set_cons_succ]
              apply wpAnyH_ready (rs := [7])
              · kernel_rfl
              · simp
              apply AllReadyH.cons (hs := AllReadyH.nil)
              · simp only [List.getElem?_toArray]; rfl
              intro K hK
              rw [if_pos (by rfl)]
              refine wp_allocS _ _ _ _ rfl ?_
              have hk : Keeps [] V3 (V3.alloc (.cells #[.slice none 0 0] 28)) := (Keeps.refl _ _).alloc _
              have hb := heap_alloc_new V3 (.cells #[.slice none 0 0] 28)
              have hl : V3.heap.size < (V3.alloc (.cells #[.slice none 0 0] 28)).heap.size := by rw [show (V3.alloc (.cells #[.slice none 0 0] 28)).heap.size = V3.heap.size + 1 from Array.size_push _]; omega
              have HPoa := Lib.hid (fun p hp => (Nat.ne_of_lt (R.old HZo3.out p hp) : p ≠ V3.heap.size))
              have HPva := Lib.hid (fun p hp => (Nat.ne_of_lt (R.old HZv3.out p hp) : p ≠ V3.heap.size))
              have HAB := Lib.hid (Nat.ne_of_lt HLb3.out)
              have HGa := Lib.hid HK3.out.size
              generalize V3.alloc (.cells #[.slice none 0 0] 28) = V4 at *
              have HBa4 := Lib.hid hb; have HLa4 := Lib.hid hl
              have HK4 := Lib.hid (HK3.out.trans hk (FSub.refl _ _))
              have HZo4 := Lib.hid (R.new_ HZo3.out hk)
              have HZv4 := Lib.hid (R.new_ HZv3.out hk)
              have HBb4 := Lib.hid (hk.heap HBb3.out (by simp))
              have HLb4 := Lib.hid (Nat.lt_of_lt_of_le HLb3.out hk.size)
              clear hb hl hk
              generalize V3.heap.size = qa at *
              refine hK.out _ _ ?_ (fun hHeld => ?_)
              · exact (by rw [HSE.out]; exact HK4.out)
              clear hK K
              try simp only [Act.put, List.setIfInBounds_toArray, List.set_cons_zero, List.set_cons_succ]
              apply wpAnyH_ready (rs := [9])
              · kernel_rfl
              · simp
              apply AllReadyH.cons (hs := AllReadyH.nil)
              · simp only [List.getElem?_toArray]; rfl
              intro K hK
              rw [if_pos (by rfl)]
              refine wp_putS (g := qa) (z := zv) rfl rfl rfl HBa4.out HOV.out ?_
              intro W5 h5 k5
              have HA5 := Lib.hid h5
              have HK5 := Lib.hid (HK4.out.trans k5 (fun p hp => .inr (by simp at hp; have := HGa.out; omega)))
              have HB5 := Lib.hid (k5.heap HBb4.out (by simp; have := HAB.out; omega))
              have HZ5 := Lib.hid (R.keep HZv4.out k5 (fun p hp hq => by simp at hq; exact HPva.out p hp hq))
              clear h5 k5
              refine hK.out _ _ ?_ (fun hHeld => ?_)
              · exact (by rw [HSE.out]; exact HK5.out)
              clear hK K
              try simp only [Act.put, List.setIfInBounds_toArray, List.set_cons_zero, List.set_cons_succ]
              apply wpAnyH_ready (rs := [10])
              · kernel_rfl
              · simp
              apply AllReadyH.cons (hs := AllReadyH.nil)
              · simp only [List.getElem?_toArray]; rfl
              intro K hK
              rw [if_pos (by rfl)]
              refine wp_putNw (g := qb) (old := ⟨0, 0⟩) ⟨0, 0⟩ rfl rfl rfl HB5.out ?_
              intro W6 h6 k6
              have HK6 := Lib.hid (HK5.out.trans k6 (fun p hp => .inr (by simp at hp; have := HGb.out; omega)))
              have HA6 := Lib.hid (k6.heap HA5.out (by simp; have := HAB.out; omega))
              have HZ6 := Lib.hid (R.keep HZ5.out k6 (fun p hp hq => by simp at hq; exact HPvb.out p hp hq))
              clear h6 k6
              refine hK.out _ _ ?_ (fun hHeld => ?_)
              · exact (by rw [HSE.out]; exact HK6.out)
              clear hK K
              try simp only [Act.put, List.setIfInBounds_toArray, List.set_cons_zero, List.set_cons_succ]
              apply wpAnyH_take (i := 11)
              · simp only [List.getElem?_toArray]; rfl
              · kernel_rfl
              · kernel_rfl
              · kernel_rfl
              · exact fun _ _ _ h => h
              · exact Or.inl ⟨by rfl, by intro w hSw; go_simp; try with_reducible rfl⟩
              · assumption
              try simp only [Act.put, List.setIfInBounds_toArray, List.set_cons_zero, List.set_cons_succ]
              refine wpAnyH_done (by kernel_rfl) ?_ _
              refine NoPanic.normal ?_
              exact ⟨rfl, qa, qb, zv, [_, _, _, _, _, _, _], rfl, HA6.out, HZ6.out, HK6.out⟩
            apply AllReadyH.cons (hs := AllReadyH.nil)
            · simp only [List.getElem?_toArray]; rfl
            intro K hK
            rw [if_pos (by rfl)]
            refine wp_allocS _ _ _ _ rfl ?_
            have hk : Keeps [] V2 (V2.alloc (.cells #[.slice none 0 0] 28)) := (Keeps.refl _ _).alloc _
            have hb := heap_alloc_new V2 (.cells #[.slice none 0 0] 28)
            have hl : V2.heap.size < (V2.alloc (.cells #[.slice none 0 0] 28)).heap.size := by rw [show (V2.alloc (.cells #[.slice none 0 0] 28)).heap.size = V2.heap.size + 1 from Array.size_push _]; omega
            have HPoa := Lib.hid (fun p hp => (Nat.ne_of_lt (R.old HZo2.out p hp) : p ≠ V2.heap.size))
            have HAB := Lib.hid (Nat.ne_of_lt HLb2.out)
            have HGa := Lib.hid HK2.out.size
            generalize V2.alloc (.cells #[.slice none 0 0] 28) = V3 at *
            have HBa3 := Lib.hid hb; have HLa3 := Lib.hid hl
            have HK3 := Lib.hid (HK2.out.trans hk (FSub.refl _ _))
            have HZo3 := Lib.hid (R.new_ HZo2.out hk)
            have HBb3 := Lib.hid (hk.heap HBb2.out (by simp))
            have HLb3 := Lib.hid (Nat.lt_of_lt_of_le HLb2.out hk.size)
            clear hb hl hk
            generalize V2.heap.size = qa at *
            refine hK.out _ _ ?_ (fun hHeld => ?_)
            · exact (by rw [HSE.out]; exact HK3.out)
            clear hK K
            try simp only [Act.put, List.setIfInBounds_toArray, List.set_cons_zero, List.set_cons_succ]
            apply wpAnyH_ready (rs := [2])
            · kernel_rfl
            · simp
            apply AllReadyH.cons (hs := AllReadyH.nil)
            · simp only [List.getElem?_toArray]; rfl
            intro K hK
            rw [if_pos (by rfl)]
            refine wp_call10 12 _ _ rfl [.agg #[zo], (kwE 7).val] rfl Tryd.func12 (by kernel_rfl) (by kernel_rfl) ((R.step V3 _ L1 (kwE 7) (R.keepG HG.out (HK.out.trans HK3.out (FSub.refl _ _))) HZo3.out (by have := HN1.out; omega) (enq_in 7 (by decide))).mono ?_)
            rintro e V4 ⟨st, rfl, hz, hk, hf⟩
            rw [quX_enq (by decide) rfl] at hz ⊢
            obtain ⟨zv, rfl, ho⟩ := R.one hz
            have HOV := Lib.hid ho
            clear ho
            refine ⟨_, rfl, ?_⟩
            have HK4 := Lib.hid (HK3.out.trans hk (FSub.refl _ _))
            have HZo4 := Lib.hid (R.new_ HZo3.out hk)
            have HBb4 := Lib.hid (hk.heap HBb3.out (by simp))
            have HLb4 := Lib.hid (Nat.lt_of_lt_of_le HLb3.out hk.size)
            have HBa4 := Lib.hid (hk.heap HBa3.out (by simp))
            have HLa4 := Lib.hid (Nat.lt_of_lt_of_le HLa3.out hk.size)
            have HZv4 := Lib.hid hz
            have HPvb := Lib.hid (show ∀ p ∈ R.foot (.agg #[zv]), p ≠ qb from fun p hp e => by
              rcases hf p hp with h | h
              · exact HPob.out p h e
              · have := HLb3.out; omega)
            have HPva := Lib.hid (show ∀ p ∈ R.foot (.agg #[zv]), p ≠ qa from fun p hp e => by
              rcases hf p hp with h | h
              · exact HPoa.out p h e
              · have := HLa3.out; omega)
            clear hz hf
            clear hk
            refine hK.out _ _ ?_ (fun hHeld => ?_)
            · exact (by rw [HSE.out]; exact HK4.out)
            clear hK K
            try simp only [Act.put, List.setIfInBounds_toArray, List.set_cons_zero, List.set_cons_succ]
            apply wpAnyH_take (i := 3)
            · simp only [List.getElem?_toArray]; rfl
            · kernel_rfl
            · kernel_rfl
            · kernel_rfl
            · exact fun _ _ _ h => h
            · exact Or.inl ⟨by rfl, by intro w hSw; go_simp; try with_reducible rfl⟩
            · assumption
            try simp only [Act.put, List.setIfInBounds_toArray, List.set_cons_zero, List.set_cons_succ]
            apply wpAnyH_take (i := 4)
            · simp only [List.getElem?_toArray]; rfl
            · kernel_rfl
            · kernel_rfl
            · kernel_rfl
            · exact fun _ _ _ h => h
            · exact Or.inl ⟨by rfl, by intro w hSw; go_simp; try with_reducible rfl⟩
            · assumption
            try simp only [Act.put, List.setIfInBounds_toArray, List.set_cons_zero, List.set_cons_succ]
            apply wpAnyH_take (i := 5)
            · simp only [List.getElem?_toArray]; rfl
            · kernel_rfl
            · kernel_rfl
            · kernel_rfl
            · exact fun _ _ _ h => h
            · exact Or.inl ⟨by rfl, by intro w hSw; go_simp; try with_reducible rfl⟩
            · assumption
            try simp only [Act.put, List.setIfInBounds_toArray, List.set_cons_zero, List.set_cons_succ]
            apply wpAnyH_take (i := 6)
            · simp only [List.getElem?_toArray]; rfl
            · kernel_rfl
            · kernel_rfl
            · kernel_rfl
            · exact fun _ _ _ h => h
            · exact Or.inl ⟨by rfl, by intro w hSw; go_simp; try with_reducible rfl⟩
            · assumption
            try simp only [Act.put, List.setIfInBounds_toArray, List.set_cons_zero, List.set_cons_succ]
            apply wpAnyH_ready (rs := [9])
            · kernel_rfl
            · simp
            apply AllReadyH.cons (hs := AllReadyH.nil)
            · simp only [List.getElem?_toArray]; rfl
            intro K hK
            rw [if_pos (by rfl)]
            refine wp_putS (g := qa) (z := zv) rfl rfl rfl HBa4.out HOV.out ?_
            intro W5 h5 k5
            have HA5 := Lib.hid h5
            have HK5 := Lib.hid (HK4.out.trans k5 (fun p hp => .inr (by simp at hp; have := HGa.out; omega)))
            have HB5 := Lib.hid (k5.heap HBb4.out (by simp; have := HAB.out; omega))
            have HZ5 := Lib.hid (R.keep HZv4.out k5 (fun p hp hq => by simp at hq; exact HPva.out p hp hq))
            clear h5 k5
            refine hK.out _ _ ?_ (fun hHeld => ?_)
            · exact (by rw [HSE.out]; exact HK5.out)
            clear hK K
            try simp only [Act.put, List.setIfInBounds_toArray, List.set_cons_zero, List.set_cons_succ]
            apply wpAnyH_ready (rs := [10])
            · kernel_rfl
            · simp
            apply AllReadyH.cons (hs := AllReadyH.nil)
            · simp only [List.getElem?_toArray]; rfl
            intro K hK
            rw [if_pos (by rfl)]
            refine wp_putNw (g := qb) (old := ⟨0, 0⟩) ⟨0, 0⟩ rfl rfl rfl HB5.out ?_
            intro W6 h6 k6
            have HK6 := Lib.hid (HK5.out.trans k6 (fun p hp => .inr (by simp at hp; have := HGb.out; omega)))
            have HA6 := Lib.hid (k6.heap HA5.out (by simp; have := HAB.out; omega))
            have HZ6 := Lib.hid (R.keep HZ5.out k6 (fun p hp hq => by simp at hq; exact HPvb.out p hp hq))
            clear h6 k6
            refine hK.out _ _ ?_ (fun hHeld => ?_)
            · exact (by rw [HSE.out]; exact HK6.out)
            clear hK K
            try simp only [Act.put, List.setIfInBounds_toArray, List.set_cons_zero, List.set_cons_succ]
            apply wpAnyH_take (i := 11)
            · simp only [List.getElem?_toArray]; rfl
            · kernel_rfl
            · kernel_rfl
            · kernel_rfl
            · exact fun _ _ _ h => h
            · exact Or.inl ⟨by rfl, by intro w hSw; go_simp; try with_reducible rfl⟩
            · assumption
            try simp only [Act.put, List.setIfInBounds_toArray, List.set_cons_zero, List.set_cons_succ]
            refine wpAnyH_done (by kernel_rfl) ?_ _
            refine NoPanic.normal ?_
            exact ⟨rfl, qa, qb, zv, [_, _, _, _, _, _, _], rfl, HA6.out, HZ6.out, HK6.out⟩
          apply AllReadyH.cons
          · simp only [List.getElem?_toArray]; rfl
          · intro K hK
            rw [if_pos (by rfl)]
            refine wp_allocS _ _ _ _ rfl ?_
            have hk : Keeps [] V0 (V0.alloc (.cells #[.slice none 0 0] 28)) := (Keeps.refl _ _).alloc _
            have hb := heap_alloc_new V0 (.cells #[.slice none 0 0] 28)
            have hl : V0.heap.size < (V0.alloc (.cells #[.slice none 0 0] 28)).heap.size := by rw [show (V0.alloc (.cells #[.slice none 0 0] 28)).heap.size = V0.heap.size + 1 from Array.size_push _]; omega
            have HPoa := Lib.hid (fun p hp => (Nat.ne_of_lt (R.old HZo0.out p hp) : p ≠ V0.heap.size))
            have HGa := Lib.hid HK0.out.size
            generalize V0.alloc (.cells #[.slice none 0 0] 28) = V1 at *
            have HBa1 := Lib.hid hb; have HLa1 := Lib.hid hl
            have HK1 := Lib.hid (HK0.out.trans hk (FSub.refl _ _))
            have HZo1 := Lib.hid (R.new_ HZo0.out hk)
            clear hb hl hk
            generalize V0.heap.size = qa at *
            refine hK.out _ _ ?_ (fun hHeld => ?_)
            · exact (by rw [HSE.out]; exact HK1.out)
            clear hK K
            try simp only [Act.put, List.setIfInBounds_toArray, List.set_cons_zero, List.set_cons_succ]
            apply wpAnyH_ready (rs := [1, 8])
            · kernel_rfl
            · simp
            apply AllReadyH.cons
            · simp only [List.getElem?_toArray]; rfl
            · intro K hK
              rw [if_pos (by rfl)]
              refine wp_call10 26 _ _ rfl [.int .u16 7] rfl Tryd.func26 (by kernel_rfl) (by kernel_rfl) ((enq10_any _ 7).mono ?_)
              rintro e V2 ⟨rfl, hk⟩
              refine ⟨_, rfl, ?_⟩
              have HK2 := Lib.hid (HK1.out.trans hk (FSub.refl _ _))
              have HZo2 := Lib.hid (R.new_ HZo1.out hk)
              have HBa2 := Lib.hid (hk.heap HBa1.out (by simp))
              have HLa2 := Lib.hid (Nat.lt_of_lt_of_le HLa1.out hk.size)
              clear hk
              refine hK.out _ _ ?_ (fun hHeld => ?_)
              · exact (by rw [HSE.out]; exact HK2.out)
              clear hK K
              try simp only [Act.put, List.setIfInBounds_toArray, List.set_cons_zero, List.set_cons_succ]
              apply wpAnyH_ready (rs := [2, 8])
              · kernel_rfl
              · simp
              apply AllReadyH.cons
              · simp only [List.getElem?_toArray]; rfl
              · intro K hK
                rw [if_pos (by rfl)]
                refine wp_call10 12 _ _ rfl [.agg #[zo], (kwE 7).val] rfl Tryd.func12 (by kernel_rfl) (by kernel_rfl) ((R.step V2 _ L1 (kwE 7) (R.keepG HG.out (HK.out.trans HK2.out (FSub.refl _ _))) HZo2.out (by have := HN1.out; omega) (enq_in 7 (by decide))).mono ?_)
                rintro e V3 ⟨st, rfl, hz, hk, hf⟩
                rw [quX_enq (by decide) rfl] at hz ⊢
                obtain ⟨zv, rfl, ho⟩ := R.one hz
                have HOV := Lib.hid ho
                clear ho
                refine ⟨_, rfl, ?_⟩
                have HK3 := Lib.hid (HK2.out.trans hk (FSub.refl _ _))
                have HZo3 := Lib.hid (R.new_ HZo2.out hk)
                have HBa3 := Lib.hid (hk.heap HBa2.out (by simp))
                have HLa3 := Lib.hid (Nat.lt_of_lt_of_le HLa2.out hk.size)
                have HZv3 := Lib.hid hz
                have HPva := Lib.hid (show ∀ p ∈ R.foot (.agg #[zv]), p ≠ qa from fun p hp e => by
                  rcases hf p hp with h | h
                  · exact HPoa.out p h e
                  · have := HLa2.out; omega)
                clear hz hf
                clear hk
                refine hK.out _ _ ?_ (fun hHeld => ?_)
                · exact (by rw [HSE.out]; exact HK3.out)
                clear hK K
                try simp only [Act.put, List.setIfInBounds_toArray, List.set_cons_zero, List.set_cons_succ]
                apply wpAnyH_take (i := 3)
                · simp only [List.getElem?_toArray]; rfl
                · kernel_rfl
                · kernel_rfl
                · kernel_rfl
                · exact fun _ _ _ h => h
                · exact Or.inl ⟨by rfl, by intro w hSw; go_simp; try with_reducible rfl⟩
                · assumption
                try simp only [Act.put, List.setIfInBounds_toArray, List.set_cons_zero, List.set_cons_succ]
                apply wpAnyH_take (i := 4)
                · simp only [List.getElem?_toArray]; rfl
                · kernel_rfl
                · kernel_rfl
                · kernel_rfl
                · exact fun _ _ _ h => h
                · exact Or.inl ⟨by rfl, by intro w hSw; go_simp; try with_reducible rfl⟩
                · assumption
                try simp only [Act.put, List.setIfInBounds_toArray, List.set_cons_zero, List.set_cons_succ]
                apply wpAnyH_take (i := 5)
                · simp only [List.getElem?_toArray]; rfl
                · kernel_rfl
                · kernel_rfl
                · kernel_rfl
                · exact fun _ _ _ h => h
                · exact Or.inl ⟨by rfl, by intro w hSw; go_simp; try with_reducible rfl⟩
                · assumption
                try simp only [Act.put, List.setIfInBounds_toArray, List.set_cons_zero, List.set_cons_succ]
                apply wpAnyH_take (i := 6)
                · simp only [List.getElem?_toArray]; rfl
                · kernel_rfl
                · kernel_rfl
                · kernel_rfl
                · exact fun _ _ _ h => h
                · exact Or.inl ⟨by rfl, by intro w hSw; go_simp; try with_reducible rfl⟩
                · assumption
                try simp only [Act.put, List.setIfInBounds_toArray, List.set_cons_zero, List.set_cons_succ]
                apply wpAnyH_ready (rs := [8])
                · kernel_rfl
                · simp
                apply AllReadyH.cons (hs := AllReadyH.nil)
                · simp only [List.getElem?_toArray]; rfl
                intro K hK
                rw [if_pos (by rfl)]
                refine wp_allocA _ _ _ _ rfl ?_
                have hk : Keeps [] V3 (V3.alloc (.cells (ansC ⟨0, 0⟩).toArray 31)) := (Keeps.refl _ _).alloc _
                have hb := heap_alloc_new V3 (.cells (ansC ⟨0, 0⟩).toArray 31)
                have hl : V3.heap.size < (V3.alloc (.cells (ansC ⟨0, 0⟩).toArray 31)).heap.size := by rw [show (V3.alloc (.cells (ansC ⟨0, 0⟩).toArray 31)).heap.size = V3.heap.size + 1 from Array.size_push _]; omega
                have HPob := Lib.hid (fun p hp => (Nat.ne_of_lt (R.old HZo3.out p hp) : p ≠ V3.heap.size))
                have HPvb := Lib.hid (fun p hp => (Nat.ne_of_lt (R.old HZv3.out p hp) : p ≠ V3.heap.size))
                have HAB := Lib.hid (Nat.ne_of_lt HLa3.out)
                have HGb := Lib.hid HK3.out.size
                generalize V3.alloc (.cells (ansC ⟨0, 0⟩).toArray 31) = V4 at *
                have HBb4 := Lib.hid hb; have HLb4 := Lib.hid hl
                have HK4 := Lib.hid (HK3.out.trans hk (FSub.refl _ _))
                have HZo4 := Lib.hid (R.new_ HZo3.out hk)
                have HZv4 := Lib.hid (R.new_ HZv3.out hk)
                have HBa4 := Lib.hid (hk.heap HBa3.out (by simp))
                have HLa4 := Lib.hid (Nat.lt_of_lt_of_le HLa3.out hk.size)
                clear hb hl hk
                generalize V3.heap.size = qb at *
                refine hK.out _ _ ?_ (fun hHeld => ?_)
                · exact (by rw [HSE.out]; exact HK4.out)
                clear hK K
                try simp only [Act.put, List.setIfInBounds_toArray, List.set_cons_zero, List.set_cons_succ]
                apply wpAnyH_ready (rs := [9])
                · kernel_rfl
                · simp
                apply AllReadyH.cons (hs := AllReadyH.nil)
                · simp only [List.getElem?_toArray]; rfl
                intro K hK
                rw [if_pos (by rfl)]
                refine wp_putS (g := qa) (z := zv) rfl rfl rfl HBa4.out HOV.out ?_
                intro W5 h5 k5
                have HA5 := Lib.hid h5
                have HK5 := Lib.hid (HK4.out.trans k5 (fun p hp => .inr (by simp at hp; have := HGa.out; omega)))
                have HB5 := Lib.hid (k5.heap HBb4.out (by simp; have := HAB.out; omega))
                have HZ5 := Lib.hid (R.keep HZv4.out k5 (fun p hp hq => by simp at hq; exact HPva.out p hp hq))
                clear h5 k5
                refine hK.out _ _ ?_ (fun hHeld => ?_)
                · exact (by rw [HSE.out]; exact HK5.out)
                clear hK K
                try simp only [Act.put, List.setIfInBounds_toArray, List.set_cons_zero, List.set_cons_succ]
                apply wpAnyH_ready (rs := [10])
                · kernel_rfl
                · simp
                apply AllReadyH.cons (hs := AllReadyH.nil)
                · simp only [List.getElem?_toArray]; rfl
                intro K hK
                rw [if_pos (by rfl)]
                refine wp_putNw (g := qb) (old := ⟨0, 0⟩) ⟨0, 0⟩ rfl rfl rfl HB5.out ?_
                intro W6 h6 k6
                have HK6 := Lib.hid (HK5.out.trans k6 (fun p hp => .inr (by simp at hp; have := HGb.out; omega)))
                have HA6 := Lib.hid (k6.heap HA5.out (by simp; have := HAB.out; omega))
                have HZ6 := Lib.hid (R.keep HZ5.out k6 (fun p hp hq => by simp at hq; exact HPvb.out p hp hq))
                clear h6 k6
                refine hK.out _ _ ?_ (fun hHeld => ?_)
                · exact (by rw [HSE.out]; exact HK6.out)
                clear hK K
                try simp only [Act.put, List.setIfInBounds_toArray, List.set_cons_zero, List.set_cons_succ]
                apply wpAnyH_take (i := 11)
                · simp only [List.getElem?_toArray]; rfl
                · kernel_rfl
                · kernel_rfl
                · kernel_rfl
                · exact fun _ _ _ h => h
                · exact Or.inl ⟨by rfl, by intro w hSw; go_simp; try with_reducible rfl⟩
                · assumption
                try simp only [Act.put, List.setIfInBounds_toArray, List.set_cons_zero, List.set_cons_succ]
                refine wpAnyH_done (by kernel_rfl) ?_ _
                refine NoPanic.normal ?_
                exact ⟨rfl, qa, qb, zv, [_, _, _, _, _, _, _], rfl, HA6.out, HZ6.out, HK6.out⟩
              apply AllReadyH.cons (hs := AllReadyH.nil)
              · simp only [List.getElem?_toArray]; rfl
              intro K hK
              rw [if_pos (by rfl)]
              refine wp_allocA _ _ _ _ rfl ?_
              have hk : Keeps [] V2 (V2.alloc (.cells (ansC ⟨0, 0⟩).toArray 31)) := (Keeps.refl _ _).alloc _
              have hb := heap_alloc_new V2 (.cells (ansC ⟨0, 0⟩).toArray 31)
              have hl : V2.heap.size < (V2.alloc (.cells (ansC ⟨0, 0⟩).toArray 31)).heap.size := by rw [show (V2.alloc (.cells (ansC ⟨0, 0⟩).toArray 31)).heap.size = V2.heap.size + 1 from Array.size_push _]; omega
              have HPob := Lib.hid (fun p hp => (Nat.ne_of_lt (R.old HZo2.out p hp) : p ≠ V2.heap.size))
              have HAB := Lib.hid (Nat.ne_of_lt HLa2.out)
              have HGb := Lib.hid HK2.out.size
              generalize V2.alloc (.cells (ansC ⟨0, 0⟩).toArray 31) = V3 at *
              have HBb3 := Lib.hid hb; have HLb3 := Lib.hid hl
              have HK3 := Lib.hid (HK2.out.trans hk (FSub.refl _ _))
              have HZo3 := Lib.hid (R.new_ HZo2.out hk)
              have HBa3 := Lib.hid (hk.heap HBa2.out (by simp))
              have HLa3 := Lib.hid (Nat.lt_of_lt_of_le HLa2.out hk.size)
              clear hb hl hk
              generalize V2.heap.size = qb at *
              refine hK.out _ _ ?_ (fun hHeld => ?_)
              · exact (by rw [HSE.out]; exact HK3.out)
              clear hK K
              try simp only [Act.put, List.setIfInBounds_toArray, List.set_cons_zero, List.set_cons_succ]
              apply wpAnyH_ready (rs := [2])
              · kernel_rfl
              · simp
              apply AllReadyH.cons (hs := AllReadyH.nil)
              · simp only [List.getElem?_toArray]; rfl
              intro K hK
              rw [if_pos (by rfl)]
              refine wp_call10 12 _ _ rfl [.agg #[zo], (kwE 7).val] rfl Tryd.func12 (by kernel_rfl) (by kernel_rfl) ((R.step V3 _ L1 (kwE 7) (R.keepG HG.out (HK.out.trans HK3.out (FSub.refl _ _))) HZo3.out (by have := HN1.out; omega) (enq_in 7 (by decide))).mono ?_)
              rintro e V4 ⟨st, rfl, hz, hk, hf⟩
              rw [quX_enq (by decide) rfl] at hz ⊢
              obtain ⟨zv, rfl, ho⟩ := R.one hz
              have HOV := Lib.hid ho
              clear ho
              refine ⟨_, rfl, ?_⟩
              have HK4 := Lib.hid (HK3.out.trans hk (FSub.refl _ _))
              have HZo4 := Lib.hid (R.new_ HZo3.out hk)
              have HBa4 := Lib.hid (hk.heap HBa3.out (by simp))
              have HLa4 := Lib.hid (Nat.lt_of_lt_of_le HLa3.out hk.size)
              have HBb4 := Lib.hid (hk.heap HBb3.out (by simp))
              have HLb4 := Lib.hid (Nat.lt_of_lt_of_le HLb3.out hk.size)
              have HZv4 := Lib.hid hz
              have HPva := Lib.hid (show ∀ p ∈ R.foot (.agg #[zv]), p ≠ qa from fun p hp e => by
                rcases hf p hp with h | h
                · exact HPoa.out p h e
                · have := HLa3.out; omega)
              have HPvb := Lib.hid (show ∀ p ∈ R.foot (.agg #[zv]), p ≠ qb from fun p hp e => by
                rcases hf p hp with h | h
                · exact HPob.out p h e
                · have := HLb3.out; omega)
              clear hz hf
              clear hk
              refine hK.out _ _ ?_ (fun hHeld => ?_)
              · exact (by rw [HSE.out]; exact HK4.out)
              clear hK K
              try simp only [Act.put, List.setIfInBounds_toArray, List.set_cons_zero, List.set_cons_succ]
              apply wpAnyH_take (i := 3)
              · simp only [List.getElem?_toArray]; rfl
              · kernel_rfl
              · kernel_rfl
              · kernel_rfl
              · exact fun _ _ _ h => h
              · exact Or.inl ⟨by rfl, by intro w hSw; go_simp; try with_reducible rfl⟩
              · assumption
              try simp only [Act.put, List.setIfInBounds_toArray, List.set_cons_zero, List.set_cons_succ]
              apply wpAnyH_take (i := 4)
              · simp only [List.getElem?_toArray]; rfl
              · kernel_rfl
              · kernel_rfl
              · kernel_rfl
              · exact fun _ _ _ h => h
              · exact Or.inl ⟨by rfl, by intro w hSw; go_simp; try with_reducible rfl⟩
              · assumption
              try simp only [Act.put, List.setIfInBounds_toArray, List.set_cons_zero, List.set_cons_succ]
              apply wpAnyH_take (i := 5)
              · simp only [List.getElem?_toArray]; rfl
              · kernel_rfl
              · kernel_rfl
              · kernel_rfl
              · exact fun _ _ _ h => h
              · exact Or.inl ⟨by rfl, by intro w hSw; go_simp; try with_reducible rfl⟩
              · assumption
              try simp only [Act.put, List.setIfInBounds_toArray, List.set_cons_zero, List.set_cons_succ]
              apply wpAnyH_take (i := 6)
              · simp only [List.getElem?_toArray]; rfl
              · kernel_rfl
              · kernel_rfl
              · kernel_rfl
              · exact fun _ _ _ h => h
              · exact Or.inl ⟨by rfl, by intro w hSw; go_simp; try with_reducible rfl⟩
              · assumption
              try simp only [Act.put, List.setIfInBounds_toArray, List.set_cons_zero, List.set_cons_succ]
              apply wpAnyH_ready (rs := [9])
              · kernel_rfl
              · simp
              apply AllReadyH.cons (hs := AllReadyH.nil)
              · simp only [List.getElem?_toArray]; rfl
              intro K hK
              rw [if_pos (by rfl)]
              refine wp_putS (g := qa) (z := zv) rfl rfl rfl HBa4.out HOV.out ?_
              intro W5 h5 k5
              have HA5 := Lib.hid h5
              have HK5 := Lib.hid (HK4.out.trans k5 (fun p hp => .inr (by simp at hp; have := HGa.out; omega)))
              have HB5 := Lib.hid (k5.heap HBb4.out (by simp; have := HAB.out; omega))
              have HZ5 := Lib.hid (R.keep HZv4.out k5 (fun p hp hq => by simp at hq; exact HPva.out p hp hq))
              clear h5 k5
              refine hK.out _ _ ?_ (fun hHeld => ?_)
              · exact (by rw [HSE.out]; exact HK5.out)
              clear hK K
              try simp only [Act.put, List.setIfInBounds_toArray, List.set_cons_zero, List.set_cons_succ]
              apply wpAnyH_ready (rs := [10])
              · kernel_rfl
              · simp
              apply AllReadyH.cons (hs := AllReadyH.nil)
              · simp only [List.getElem?_toArray]; rfl
              intro K hK
              rw [if_pos (by rfl)]
              refine wp_putNw (g := qb) (old := ⟨0, 0⟩) ⟨0, 0⟩ rfl rfl rfl HB5.out ?_
              intro W6 h6 k6
              have HK6 := Lib.hid (HK5.out.trans k6 (fun p hp => .inr (by simp at hp; have := HGb.out; omega)))
              have HA6 := Lib.hid (k6.heap HA5.out (by simp; have := HAB.out; omega))
              have HZ6 := Lib.hid (R.keep HZ5.out k6 (fun p hp hq => by simp at hq; exact HPvb.out p hp hq))
              clear h6 k6
              refine hK.out _ _ ?_ (fun hHeld => ?_)
              · exact (by rw [HSE.out]; exact HK6.out)
              clear hK K
              try simp only [Act.put, List.setIfInBounds_toArray, List.set_cons_zero, List.set_cons_succ]
              apply wpAnyH_take (i := 11)
              · simp only [List.getElem?_toArray]; rfl
              · kernel_rfl
              · kernel_rfl
              · kernel_rfl
              · exact fun _ _ _ h => h
              · exact Or.inl ⟨by rfl, by intro w hSw; go_simp; try with_reducible rfl⟩
              · assumption
              try simp only [Act.put, List.setIfInBounds_toArray, List.set_cons_zero, List.set_cons_succ]
              refine wpAnyH_done (by kernel_rfl) ?_ _
              refine NoPanic.normal ?_
              exact ⟨rfl, qa, qb, zv, [_, _, _, _, _, _, _], rfl, HA6.out, HZ6.out, HK6.out⟩
            apply AllReadyH.cons (hs := AllReadyH.nil)
            · simp only [List.getElem?_toArray]; rfl
            intro K hK
            rw [if_pos (by rfl)]
            refine wp_allocA _ _ _ _ rfl ?_
            have hk : Keeps [] V1 (V1.alloc (.cells (ansC ⟨0, 0⟩).toArray 31)) := (Keeps.refl _ _).alloc _
            have hb := heap_alloc_new V1 (.cells (ansC ⟨0, 0⟩).toArray 31)
            have hl : V1.heap.size < (V1.alloc (.cells (ansC ⟨0, 0⟩).toArray 31)).heap.size := by rw [show (V1.alloc (.cells (ansC ⟨0, 0⟩).toArray 31)).heap.size = V1.heap.size + 1 from Array.size_push _]; omega
            have HPob := Lib.hid (fun p hp => (Nat.ne_of_lt (R.old HZo1.out p hp) : p ≠ V1.heap.size))
            have HAB := Lib.hid (Nat.ne_of_lt HLa1.out)
            have HGb := Lib.hid HK1.out.size
            generalize V1.alloc (.cells (ansC ⟨0, 0⟩).toArray 31) = V2 at *
            have HBb2 := Lib.hid hb; have HLb2 := Lib.hid hl
            have HK2 := Lib.hid (HK1.out.trans hk (FSub.refl _ _))
            have HZo2 := Lib.hid (R.new_ HZo1.out hk)
            have HBa2 := Lib.hid (hk.heap HBa1.out (by simp))
            have HLa2 := Lib.hid (Nat.lt_of_lt_of_le HLa1.out hk.size)
            clear hb hl hk
            generalize V1.heap.size = qb at *
            refine hK.out _ _ ?_ (fun hHeld => ?_)
            · exact (by rw [HSE.out]; exact HK2.out)
            clear hK K
            try simp only [Act.put, List.setIfInBounds_toArray, List.set_cons_zero, List.set_cons_succ]
            apply wpAnyH_ready (rs := [1])
            · kernel_rfl
            · simp
            apply AllReadyH.cons (hs := AllReadyH.nil)
            · simp only [List.getElem?_toArray]; rfl
            intro K hK
            rw [if_pos (by rfl)]
            refine wp_call10 26 _ _ rfl [.int .u16 7] rfl Tryd.func26 (by kernel_rfl) (by kernel_rfl) ((enq10_any _ 7).mono ?_)
            rintro e V3 ⟨rfl, hk⟩
            refine ⟨_, rfl, ?_⟩
            have HK3 := Lib.hid (HK2.out.trans hk (FSub.refl _ _))
            have HZo3 := Lib.hid (R.new_ HZo2.out hk)
            have HBa3 := Lib.hid (hk.heap HBa2.out (by simp))
            have HLa3 := Lib.hid (Nat.lt_of_lt_of_le HLa2.out hk.size)
            have HBb3 := Lib.hid (hk.heap HBb2.out (by simp))
            have HLb3 := Lib.hid (Nat.lt_of_lt_of_le HLb2.out hk.size)
            clear hk
            refine hK.out _ _ ?_ (fun hHeld => ?_)
            · exact (by rw [HSE.out]; exact HK3.out)
            clear hK K
            try simp only [Act.put, List.setIfInBounds_toArray, List.set_cons_zero, List.set_cons_succ]
            apply wpAnyH_ready (rs := [2])
            · kernel_rfl
            · simp
            apply AllReadyH.cons (hs := AllReadyH.nil)
            · simp only [List.getElem?_toArray]; rfl
            intro K hK
            rw [if_pos (by rfl)]
            refine wp_call10 12 _ _ rfl [.agg #[zo], (kwE 7).val] rfl Tryd.func12 (by kernel_rfl) (by kernel_rfl) ((R.step V3 _ L1 (kwE 7) (R.keepG HG.out (HK.out.trans HK3.out (FSub.refl _ _))) HZo3.out (by have := HN1.out; omega) (enq_in 7 (by decide))).mono ?_)
            rintro e V4 ⟨st, rfl, hz, hk, hf⟩
            rw [quX_enq (by decide) rfl] at hz ⊢
            obtain ⟨zv, rfl, ho⟩ := R.one hz
            have HOV := Lib.hid ho
            clear ho
            refine ⟨_, rfl, ?_⟩
            have HK4 := Lib.hid (HK3.out.trans hk (FSub.refl _ _))
            have HZo4 := Lib.hid (R.new_ HZo3.out hk)
            have HBa4 := Lib.hid (hk.heap HBa3.out (by simp))
            have HLa4 := Lib.hid (Nat.lt_of_lt_of_le HLa3.out hk.size)
            have HBb4 := Lib.hid (hk.heap HBb3.out (by simp))
            have HLb4 := Lib.hid (Nat.lt_of_lt_of_le HLb3.out hk.size)
            have HZv4 := Lib.hid hz
            have HPva := Lib.hid (show ∀ p ∈ R.foot (.agg #[zv]), p ≠ qa from fun p hp e => by
              rcases hf p hp with h | h
              · exact HPoa.out p h e
              · have := HLa3.out; omega)
            have HPvb := Lib.hid (show ∀ p ∈ R.foot (.agg #[zv]), p ≠ qb from fun p hp e => by
              rcases hf p hp with h | h
              · exact HPob.out p h e
              · have := HLb3.out; omega)
            clear hz hf
            clear hk
            refine hK.out _ _ ?_ (fun hHeld => ?_)
            · exact (by rw [HSE.out]; exact HK4.out)
            clear hK K
            try simp only [Act.put, List.setIfInBounds_toArray, List.set_cons_zero, List.set_cons_succ]
            apply wpAnyH_take (i := 3)
            · simp only [List.getElem?_toArray]; rfl
            · kernel_rfl
            · kernel_rfl
            · kernel_rfl
            · exact fun _ _ _ h => h
            · exact Or.inl ⟨by rfl, by intro w hSw; go_simp; try with_reducible rfl⟩
            · assumption
            try simp only [Act.put, List.setIfInBounds_toArray, List.set_cons_zero, List.set_cons_succ]
            apply wpAnyH_take (i := 4)
            · simp only [List.getElem?_toArray]; rfl
            · kernel_rfl
            · kernel_rfl
            · kernel_rfl
            · exact fun _ _ _ h => h
            · exact Or.inl ⟨by rfl, by intro w hSw; go_simp; try with_reducible rfl⟩
            · assumption
            try simp only [Act.put, List.setIfInBounds_toArray, List.set_cons_zero, List.set_cons_succ]
            apply wpAnyH_take (i := 5)
            · simp only [List.getElem?_toArray]; rfl
            · kernel_rfl
            · kernel_rfl
            · kernel_rfl
            · exact fun _ _ _ h => h
            · exact Or.inl ⟨by rfl, by intro w hSw; go_simp; try with_reducible rfl⟩
            · assumption
            try simp only [Act.put, List.setIfInBounds_toArray, List.set_cons_zero, List.set_cons_succ]
            apply wpAnyH_take (i := 6)
            · simp only [List.getElem?_toArray]; rfl
            · kernel_rfl
            · kernel_rfl
            · kernel_rfl
            · exact fun _ _ _ h => h
            · exact Or.inl ⟨by rfl, by intro w hSw; go_simp; try with_reducible rfl⟩
            · assumption
            try simp only [Act.put, List.setIfInBounds_toArray, List.set_cons_zero, List.set_cons_succ]
            apply wpAnyH_ready (rs := [9])
            · kernel_rfl
            · simp
            apply AllReadyH.cons (hs := AllReadyH.nil)
            · simp only [List.getElem?_toArray]; rfl
            intro K hK
            rw [if_pos (by rfl)]
            refine wp_putS (g := qa) (z := zv) rfl rfl rfl HBa4.out HOV.out ?_
            intro W5 h5 k5
            have HA5 := Lib.hid h5
            have HK5 := Lib.hid (HK4.out.trans k5 (fun p hp => .inr (by simp at hp; have := HGa.out; omega)))
            have HB5 := Lib.hid (k5.heap HBb4.out (by simp; have := HAB.out; omega))
            have HZ5 := Lib.hid (R.keep HZv4.out k5 (fun p hp hq => by simp at hq; exact HPva.out p hp hq))
            clear h5 k5
            refine hK.out _ _ ?_ (fun hHeld => ?_)
            · exact (by rw [HSE.out]; exact HK5.out)
            clear hK K
            try simp only [Act.put, List.setIfInBounds_toArray, List.set_cons_zero, List.set_cons_succ]
            apply wpAnyH_ready (rs := [10])
            · kernel_rfl
            · simp
            apply AllReadyH.cons (hs := AllReadyH.nil)
            · simp only [List.getElem?_toArray]; rfl
            intro K hK
            rw [if_pos (by rfl)]
            refine wp_putNw (g := qb) (old := ⟨0, 0⟩) ⟨0, 0⟩ rfl rfl rfl HB5.out ?_
            intro W6 h6 k6
            have HK6 := Lib.hid (HK5.out.trans k6 (fun p hp => .inr (by simp at hp; have := HGb.out; omega)))
            have HA6 := Lib.hid (k6.heap HA5.out (by simp; have := HAB.out; omega))
            have HZ6 := Lib.hid (R.keep HZ5.out k6 (fun p hp hq => by simp at hq; exact HPvb.out p hp hq))
            clear h6 k6
            refine hK.out _ _ ?_ (fun hHeld => ?_)
            · exact (by rw [HSE.out]; exact HK6.out)
            clear hK K
            try simp only [Act.put, List.setIfInBounds_toArray, List.set_cons_zero, List.set_cons_succ]
            apply wpAnyH_take (i := 11)
            · simp only [List.getElem?_toArray]; rfl
            · kernel_rfl
            · kernel_rfl
            · kernel_rfl
            · exact fun _ _ _ h => h
            · exact Or.inl ⟨by rfl, by intro w hSw; go_simp; try with_reducible rfl⟩
            · assumption
            try simp only [Act.put, List.setIfInBounds_toArray, List.set_cons_zero, List.set_cons_succ]
            refine wpAnyH_done (by kernel_rfl) ?_ _
            refine NoPanic.normal ?_
            exact ⟨rfl, qa, qb, zv, [_, _, _, _, _, _, _], rfl, HA6.out, HZ6.out, HK6.out⟩
          apply AllReadyH.cons (hs := AllReadyH.nil)
          · simp only [List.getElem?_toArray]; rfl
          intro K hK
          rw [if_pos (by rfl)]
          refine wp_allocA _ _ _ _ rfl ?_
          have hk : Keeps [] V0 (V0.alloc (.cells (ansC ⟨0, 0⟩).toArray 31)) := (Keeps.refl _ _).alloc _
          have hb := heap_alloc_new V0 (.cells (ansC ⟨0, 0⟩).toArray 31)
          have hl : V0.heap.size < (V0.alloc (.cells (ansC ⟨0, 0⟩).toArray 31)).heap.size := by rw [show (V0.alloc (.cells (ansC ⟨0, 0⟩).toArray 31)).heap.size = V0.heap.size + 1 from Array.size_push _]; omega
          have HPob := Lib.hid (fun p hp => (Nat.ne_of_lt (R.old HZo0.out p hp) : p ≠ V0.heap.size))
          have HGb := Lib.hid HK0.out.size
          generalize V0.alloc (.cells (ansC ⟨0, 0⟩).toArray 31) = V1 at *
          have HBb1 := Lib.hid hb; have HLb1 := Lib.hid hl
          have HK1 := Lib.hid (HK0.out.trans hk (FSub.refl _ _))
          have HZo1 := Lib.hid (R.new_ HZo0.out hk)
          clear hb hl hk
          generalize V0.heap.size = qb at *
          refine hK.out _ _ ?_ (fun hHeld => ?_)
          · exact (by rw [HSE.out]; exact HK1.out)
          clear hK K
          try simp only [Act.put, List.setIfInBounds_toArray, List.set_cons_zero, List.set_cons_succ]
          apply wpAnyH_ready (rs := [1, 7])
          · kernel_rfl
          · simp
          apply AllReadyH.cons
          · simp only [List.getElem?_toArray]; rfl
          · intro K hK
            rw [if_pos (by rfl)]
            refine wp_call10 26 _ _ rfl [.int .u16 7] rfl Tryd.func26 (by kernel_rfl) (by kernel_rfl) ((enq10_any _ 7).mono ?_)
            rintro e V2 ⟨rfl, hk⟩
            refine ⟨_, rfl, ?_⟩
            have HK2 := Lib.hid (HK1.out.trans hk (FSub.refl _ _))
            have HZo2 := Lib.hid (R.new_ HZo1.out hk)
            have HBb2 := Lib.hid (hk.heap HBb1.out (by simp))
            have HLb2 := Lib.hid (Nat.lt_of_lt_of_le HLb1.out hk.size)
            clear hk
            refine hK.out _ _ ?_ (fun hHeld => ?_)
            · exact (by rw [HSE.out]; exact HK2.out)
            clear hK K
            try simp only [Act.put, List.setIfInBounds_toArray, List.set_cons_zero, List.set_cons_succ]
            apply wpAnyH_ready (rs := [2, 7])
            · kernel_rfl
            · simp
            apply AllReadyH.cons
            · simp only [List.getElem?_toArray]; rfl
            · intro K hK
              rw [if_pos (by rfl)]
              refine wp_call10 12 _ _ rfl [.agg #[zo], (kwE 7).val] rfl Tryd.func12 (by kernel_rfl) (by kernel_rfl) ((R.step V2 _ L1 (kwE 7) (R.keepG HG.out (HK.out.trans HK2.out (FSub.refl _ _))) HZo2.out (by have := HN1.out; omega) (enq_in 7 (by decide))).mono ?_)
              rintro e V3 ⟨st, rfl, hz, hk, hf⟩
              rw [quX_enq (by decide) rfl] at hz ⊢
              obtain ⟨zv, rfl, ho⟩ := R.one hz
              have HOV := Lib.hid ho
              clear ho
              refine ⟨_, rfl, ?_⟩
              have HK3 := Lib.hid (HK2.out.trans hk (FSub.refl _ _))
              have HZo3 := Lib.hid (R.new_ HZo2.out hk)
              have HBb3 := Lib.hid (hk.heap HBb2.out (by simp))
              have HLb3 := Lib.hid (Nat.lt_of_lt_of_le HLb2.out hk.size)
              have HZv3 := Lib.hid hz
              have HPvb := Lib.hid (show ∀ p ∈ R.foot (.agg #[zv]), p ≠ qb from fun p hp e => by
                rcases hf p hp with h | h
                · exact HPob.out p h e
                · have := HLb2.out; omega)
              clear hz hf
              clear hk
              refine hK.out _ _ ?_ (fun hHeld => ?_)
              · exact (by rw [HSE.out]; exact HK3.out)
              clear hK K
              try simp only [Act.put, List.setIfInBounds_toArray, List.set_cons_zero, List.set_cons_succ]
              apply wpAnyH_take (i := 3)
              · simp only [List.getElem?_toArray]; rfl
              · kernel_rfl
              · kernel_rfl
              · kernel_rfl
              · exact fun _ _ _ h => h
              · exact Or.inl ⟨by rfl, by intro w hSw; go_simp; try with_reducible rfl⟩
              · assumption
              try simp only [Act.put, List.setIfInBounds_toArray, List.set_cons_zero, List.set_cons_succ]
              apply wpAnyH_take (i := 4)
              · simp only [List.getElem?_toArray]; rfl
              · kernel_rfl
              · kernel_rfl
              · kernel_rfl
              · exact fun _ _ _ h => h
              · exact Or.inl ⟨by rfl, by intro w hSw; go_simp; try with_reducible rfl⟩
              · assumption
              try simp only [Act.put, List.setIfInBounds_toArray, List.set_cons_zero, List.set_cons_succ]
              apply wpAnyH_take (i := 5)
              · simp only [List.getElem?_toArray]; rfl
              · kernel_rfl
              · kernel_rfl
              · kernel_rfl
              · exact fun _ _ _ h => h
              · exact Or.inl ⟨by rfl, by intro w hSw; go_simp; try with_reducible rfl⟩
              · assumption
              try simp only [Act.put, List.setIfInBounds_toArray, List.set_cons_zero, List.set_cons_succ]
              apply wpAnyH_take (i := 6)
              · simp only [List.getElem?_toArray]; rfl
              · kernel_rfl
              · kernel_rfl
              · kernel_rfl
              · exact fun _ _ _ h => h
              · exact Or.inl ⟨by rfl, by intro w hSw; go_simp; try with_reducible rfl⟩
              · assumption
              try simp only [Act.put, List.setIfInBounds_toArray, List.set_cons_zero, List.set_cons_succ]
              apply wpAnyH_ready (rs := [7])
              · kernel_rfl
              · simp
              apply AllReadyH.cons (hs := AllReadyH.nil)
              · simp only [List.getElem?_toArray]; rfl
              intro K hK
              rw [if_pos (by rfl)]
              refine wp_allocS _ _ _ _ rfl ?_
              have hk : Keeps [] V3 (V3.alloc (.cells #[.slice none 0 0] 28)) := (Keeps.refl _ _).alloc _
              have hb := heap_alloc_new V3 (.cells #[.slice none 0 0] 28)
              have hl : V3.heap.size < (V3.alloc (.cells #[.slice none 0 0] 28)).heap.size := by rw [show (V3.alloc (.cells #[.slice none 0 0] 28)).heap.size = V3.heap.size + 1 from Array.size_push _]; omega
              have HPoa := Lib.hid (fun p hp => (Nat.ne_of_lt (R.old HZo3.out p hp) : p ≠ V3.heap.size))
              have HPva := Lib.hid (fun p hp => (Nat.ne_of_lt (R.old HZv3.out p hp) : p ≠ V3.heap.size))
              have HAB := Lib.hid (Nat.ne_of_lt HLb3.out)
              have HGa := Lib.hid HK3.out.size
              generalize V3.alloc (.cells #[.slice none 0 0] 28) = V4 at *
              have HBa4 := Lib.hid hb; have HLa4 := Lib.hid hl
              have HK4 := Lib.hid (HK3.out.trans hk (FSub.refl _ _))
              have HZo4 := Lib.hid (R.new_ HZo3.out hk)
              have HZv4 := Lib.hid (R.new_ HZv3.out hk)
              have HBb4 := Lib.hid (hk.heap HBb3.out (by simp))
              have HLb4 := Lib.hid (Nat.lt_of_lt_of_le HLb3.out hk.size)
              clear hb hl hk
              generalize V3.heap.size = qa at *
              refine hK.out _ _ ?_ (fun hHeld => ?_)
              · exact (by rw [HSE.out]; exact HK4.out)
              clear hK K
              try simp only [Act.put, List.setIfInBounds_toArray, List.set_cons_zero, List.set_cons_succ]
              apply wpAnyH_ready (rs := [9])
              · kernel_rfl
              · simp
              apply AllReadyH.cons (hs := AllReadyH.nil)
              · simp only [List.getElem?_toArray]; rfl
              intro K hK
              rw [if_pos (by rfl)]
              refine wp_putS (g := qa) (z := zv) rfl rfl rfl HBa4.out HOV.out ?_
              intro W5 h5 k5
              have HA5 := Lib.hid h5
              have HK5 := Lib.hid (HK4.out.trans k5 (fun p hp => .inr (by simp at hp; have := HGa.out; omega)))
              have HB5 := Lib.hid (k5.heap HBb4.out (by simp; have := HAB.out; omega))
              have HZ5 := Lib.hid (R.keep HZv4.out k5 (fun p hp hq => by simp at hq; exact HPva.out p hp hq))
              clear h5 k5
              refine hK.out _ _ ?_ (fun hHeld => ?_)
              · exact (by rw [HSE.out]; exact HK5.out)
              clear hK K
              try simp only [Act.put, List.setIfInBounds_toArray, List.set_cons_zero, List.set_cons_succ]
              apply wpAnyH_ready (rs := [10])
              · kernel_rfl
              · simp
              apply AllReadyH.cons (hs := AllReadyH.nil)
              · simp only [List.getElem?_toArray]; rfl
              intro K hK
              rw [if_pos (by rfl)]
              refine wp_putNw (g := qb) (old := ⟨0, 0⟩) ⟨0, 0⟩ rfl rfl rfl HB5.out ?_
              intro W6 h6 k6
              have HK6 := Lib.hid (HK5.out.trans k6 (fun p hp => .inr (by simp at hp; have := HGb.out; omega)))
              have HA6 := Lib.hid (k6.heap HA5.out (by simp; have := HAB.out; omega))
              have HZ6 := Lib.hid (R.keep HZ5.out k6 (fun p hp hq => by simp at hq; exact HPvb.out p hp hq))
              clear h6 k6
              refine hK.out _ _ ?_ (fun hHeld => ?_)
              · exact (by rw [HSE.out]; exact HK6.out)
              clear hK K
              try simp only [Act.put, List.setIfInBounds_toArray, List.set_cons_zero, List.set_cons_succ]
              apply wpAnyH_take (i := 11)
              · simp only [List.getElem?_toArray]; rfl
              · kernel_rfl
              · kernel_rfl
              · kernel_rfl
              · exact fun _ _ _ h => h
              · exact Or.inl ⟨by rfl, by intro w hSw; go_simp; try with_reducible rfl⟩
              · assumption
              try simp only [Act.put, List.setIfInBounds_toArray, List.set_cons_zero, List.set_cons_succ]
              refine wpAnyH_done (by kernel_rfl) ?_ _
              refine NoPanic.normal ?_
              exact ⟨rfl, qa, qb, zv, [_, _, _, _, _, _, _], rfl, HA6.out, HZ6.out, HK6.out⟩
            apply AllReadyH.cons (hs := AllReadyH.nil)
            · simp only [List.getElem?_toArray]; rfl
            intro K hK
            rw [if_pos (by rfl)]
            refine wp_allocS _ _ _ _ rfl ?_
            have hk : Keeps [] V2 (V2.alloc (.cells #[.slice none 0 0] 28)) := (Keeps.refl _ _).alloc _
            have hb := heap_alloc_new V2 (.cells #[.slice none 0 0] 28)
            have hl : V2.heap.size < (V2.alloc (.cells #[.slice none 0 0] 28)).heap.size := by rw [show (V2.alloc (.cells #[.slice none 0 0] 28)).heap.size = V2.heap.size + 1 from Array.size_push _]; omega
            have HPoa := Lib.hid (fun p hp => (Nat.ne_of_lt (R.old HZo2.out p hp) : p ≠ V2.heap.size))
            have HAB := Lib.hid (Nat.ne_of_lt HLb2.out)
            have HGa := Lib.hid HK2.out.size
            generalize V2.alloc (.cells #[.slice none 0 0] 28) = V3 at *
            have HBa3 := Lib.hid hb; have HLa3 := Lib.hid hl
            have HK3 := Lib.hid (HK2.out.trans hk (FSub.refl _ _))
            have HZo3 := Lib.hid (R.new_ HZo2.out hk)
            have HBb3 := Lib.hid (hk.heap HBb2.out (by simp))
            have HLb3 := Lib.hid (Nat.lt_of_lt_of_le HLb2.out hk.size)
            clear hb hl hk
            generalize V2.heap.size = qa at *
            refine hK.out _ _ ?_ (fun hHeld => ?_)
            · exact (by rw [HSE.out]; exact HK3.out)
            clear hK K
            try simp only [Act.put, List.setIfInBounds_toArray, List.set_cons_zero, List.set_cons_succ]
            apply wpAnyH_ready (rs := [2])
            · kernel_rfl
            · simp
            apply AllReadyH.cons (hs := AllReadyH.nil)
            · simp only [List.getElem?_toArray]; rfl
            intro K hK
            rw [if_pos (by rfl)]
            refine wp_call10 12 _ _ rfl [.agg #[zo], (kwE 7).val] rfl Tryd.func12 (by kernel_rfl) (by kernel_rfl) ((R.step V3 _ L1 (kwE 7) (R.keepG HG.out (HK.out.trans HK3.out (FSub.refl _ _))) HZo3.out (by have := HN1.out; omega) (enq_in 7 (by decide))).mono ?_)
            rintro e V4 ⟨st, rfl, hz, hk, hf⟩
            rw [quX_enq (by decide) rfl] at hz ⊢
            obtain ⟨zv, rfl, ho⟩ := R.one hz
            have HOV := Lib.hid ho
            clear ho
            refine ⟨_, rfl, ?_⟩
            have HK4 := Lib.hid (HK3.out.trans hk (FSub.refl _ _))
            have HZo4 := Lib.hid (R.new_ HZo3.out hk)
            have HBb4 := Lib.hid (hk.heap HBb3.out (by simp))
            have HLb4 := Lib.hid (Nat.lt_of_lt_of_le HLb3.out hk.size)
            have HBa4 := Lib.hid (hk.heap HBa3.out (by simp))
            have HLa4 := Lib.hid (Nat.lt_of_lt_of_le HLa3.out hk.size)
            have HZv4 := Lib.hid hz
            have HPvb := Lib.hid (show ∀ p ∈ R.foot (.agg #[zv]), p ≠ qb from fun p hp e => by
              rcases hf p hp with h | h
              · exact HPob.out p h e
              · have := HLb3.out; omega)
            have HPva := Lib.hid (show ∀ p ∈ R.foot (.agg #[zv]), p ≠ qa from fun p hp e => by
              rcases hf p hp with h | h
              · exact HPoa.out p h e
              · have := HLa3.out; omega)
            clear hz hf
            clear hk
            refine hK.out _ _ ?_ (fun hHeld => ?_)
            · exact (by rw [HSE.out]; exact HK4.out)
            clear hK K
            try simp only [Act.put, List.setIfInBounds_toArray, List.set_cons_zero, List.set_cons_succ]
            apply wpAnyH_take (i := 3)
            · simp only [List.getElem?_toArray]; rfl
            · kernel_rfl
            · kernel_rfl
            · kernel_rfl
            · exact fun _ _ _ h => h
            · exact Or.inl ⟨by rfl, by intro w hSw; go_simp; try with_reducible rfl⟩
            · assumption
            try simp only [Act.put, List.setIfInBounds_toArray, List.set_cons_zero, List.set_cons_succ]
            apply wpAnyH_take (i := 4)
            · simp only [List.getElem?_toArray]; rfl
            · kernel_rfl
            · kernel_rfl
            · kernel_rfl
            · exact fun _ _ _ h => h
            · exact Or.inl ⟨by rfl, by intro w hSw; go_simp; try with_reducible rfl⟩
            · assumption
            try simp only [Act.put, List.setIfInBounds_toArray, List.set_cons_zero, List.set_cons_succ]
            apply wpAnyH_take (i := 5)
            · simp only [List.getElem?_toArray]; rfl
            · kernel_rfl
            · kernel_rfl
            · kernel_rfl
            · exact fun _ _ _ h => h
            · exact Or.inl ⟨by rfl, by intro w hSw; go_simp; try with_reducible rfl⟩
            · assumption
            try simp only [Act.put, List.setIfInBounds_toArray, List.set_cons_zero, List.set_cons_succ]
            apply wpAnyH_take (i := 6)
            · simp only [List.getElem?_toArray]; rfl
            · kernel_rfl
            · kernel_rfl
            · kernel_rfl
            · exact fun _ _ _ h => h
            · exact Or.inl ⟨by rfl, by intro w hSw; go_simp; try with_reducible rfl⟩
            · assumption
            try simp only [Act.put, List.setIfInBounds_toArray, List.set_cons_zero, List.set_cons_succ]
            apply wpAnyH_ready (rs := [9])
            · kernel_rfl
            · simp
            apply AllReadyH.cons (hs := AllReadyH.nil)
            · simp only [List.getElem?_toArray]; rfl
            intro K hK
            rw [if_pos (by rfl)]
            refine wp_putS (g := qa) (z := zv) rfl rfl rfl HBa4.out HOV.out ?_
            intro W5 h5 k5
            have HA5 := Lib.hid h5
            have HK5 := Lib.hid (HK4.out.trans k5 (fun p hp => .inr (by simp at hp; have := HGa.out; omega)))
            have HB5 := Lib.hid (k5.heap HBb4.out (by simp; have := HAB.out; omega))
            have HZ5 := Lib.hid (R.keep HZv4.out k5 (fun p hp hq => by simp at hq; exact HPva.out p hp hq))
            clear h5 k5
            refine hK.out _ _ ?_ (fun hHeld => ?_)
            · exact (by rw [HSE.out]; exact HK5.out)
            clear hK K
            try simp only [Act.put, List.setIfInBounds_toArray, List.set_cons_zero, List.set_cons_succ]
            apply wpAnyH_ready (rs := [10])
            · kernel_rfl
            · simp
            apply AllReadyH.cons (hs := AllReadyH.nil)
            · simp only [List.getElem?_toArray]; rfl
            intro K hK
            rw [if_pos (by rfl)]
            refine wp_putNw (g := qb) (old := ⟨0, 0⟩) ⟨0, 0⟩ rfl rfl rfl HB5.out ?_
            intro W6 h6 k6
            have HK6 := Lib.hid (HK5.out.trans k6 (fun p hp => .inr (by simp at hp; have := HGb.out; omega)))
            have HA6 := Lib.hid (k6.heap HA5.out (by simp; have := HAB.out; omega))
            have HZ6 := Lib.hid (R.keep HZ5.out k6 (fun p hp hq => by simp at hq; exact HPvb.out p hp hq))
            clear h6 k6
            refine hK.out _ _ ?_ (fun hHeld => ?_)
            · exact (by rw [HSE.out]; exact HK6.out)
            clear hK K
            try simp only [Act.put, List.setIfInBounds_toArray, List.set_cons_zero, List.set_cons_succ]
            apply wpAnyH_take (i := 11)
            · simp only [List.getElem?_toArray]; rfl
            · kernel_rfl
            · kernel_rfl
            · kernel_rfl
            · exact fun _ _ _ h => h
            · exact Or.inl ⟨by rfl, by intro w hSw; go_simp; try with_reducible rfl⟩
            · assumption
            try simp only [Act.put, List.setIfInBounds_toArray, List.set_cons_zero, List.set_cons_succ]
            refine wpAnyH_done (by kernel_rfl) ?_ _
            refine NoPanic.normal ?_
            exact ⟨rfl, qa, qb, zv, [_, _, _, _, _, _, _], rfl, HA6.out, HZ6.out, HK6.out⟩
          apply AllReadyH.cons (hs := AllReadyH.nil)
          · simp only [List.getElem?_toArray]; rfl
          intro K hK
          rw [if_pos (by rfl)]
          refine wp_allocS _ _ _ _ rfl ?_
          have hk : Keeps [] V1 (V1.alloc (.cells #[.slice none 0 0] 28)) := (Keeps.refl _ _).alloc _
          have hb := heap_alloc_new V1 (.cells #[.slice none 0 0] 28)
          have hl : V1.heap.size < (V1.alloc (.cells #[.slice none 0 0] 28)).heap.size := by rw [show (V1.alloc (.cells #[.slice none 0 0] 28)).heap.size = V1.heap.size + 1 from Array.size_push _]; omega
          have HPoa := Lib.hid (fun p hp => (Nat.ne_of_lt (R.old HZo1.out p hp) : p ≠ V1.heap.size))
          have HAB := Lib.hid (Nat.ne_of_lt HLb1.out)
          have HGa := Lib.hid HK1.out.size
          generalize V1.alloc (.cells #[.slice none 0 0] 28) = V2 at *
          have HBa2 := Lib.hid hb; have HLa2 := Lib.hid hl
          have HK2 := Lib.hid (HK1.out.trans hk (FSub.refl _ _))
          have HZo2 := Lib.hid (R.new_ HZo1.out hk)
          have HBb2 := Lib.hid (hk.heap HBb1.out (by simp))
          have HLb2 := Lib.hid (Nat.lt_of_lt_of_le HLb1.out hk.size)
          clear hb hl hk
          generalize V1.heap.size = qa at *
          refine hK.out _ _ ?_ (fun hHeld => ?_)
          · exact (by rw [HSE.out]; exact HK2.out)
          clear hK K
          try simp only [Act.put, List.setIfInBounds_toArray, List.set_cons_zero, List.set_cons_succ]
          apply wpAnyH_ready (rs := [1])
          · kernel_rfl
          · simp
          apply AllReadyH.cons (hs := AllReadyH.nil)
          · simp only [List.getElem?_toArray]; rfl
          intro K hK
          rw [if_pos (by rfl)]
          refine wp_call10 26 _ _ rfl [.int .u16 7] rfl Tryd.func26 (by kernel_rfl) (by kernel_rfl) ((enq10_any _ 7).mono ?_)
          rintro e V3 ⟨rfl, hk⟩
          refine ⟨_, rfl, ?_⟩
          have HK3 := Lib.hid (HK2.out.trans hk (FSub.refl _ _))
          have HZo3 := Lib.hid (R.new_ HZo2.out hk)
          have HBb3 := Lib.hid (hk.heap HBb2.out (by simp))
          have HLb3 := Lib.hid (Nat.lt_of_lt_of_le HLb2.out hk.size)
          have HBa3 := Lib.hid (hk.heap HBa2.out (by simp))
          have HLa3 := Lib.hid (Nat.lt_of_lt_of_le HLa2.out hk.size)
          clear hk
          refine hK.out _ _ ?_ (fun hHeld => ?_)
          · exact (by rw [HSE.out]; exact HK3.out)
          clear hK K
          try simp only [Act.put, List.setIfInBounds_toArray, List.set_cons_zero, List.set_cons_succ]
          apply wpAnyH_ready (rs := [2])
          · kernel_rfl
          · simp
          apply AllReadyH.cons (hs := AllReadyH.nil)
          · simp only [List.getElem?_toArray]; rfl
          intro K hK
          rw [if_pos (by rfl)]
          refine wp_call10 12 _ _ rfl [.agg #[zo], (kwE 7).val] rfl Tryd.func12 (by kernel_rfl) (by kernel_rfl) ((R.step V3 _ L1 (kwE 7) (R.keepG HG.out (HK.out.trans HK3.out (FSub.refl _ _))) HZo3.out (by have := HN1.out; omega) (enq_in 7 (by decide))).mono ?_)
          rintro e V4 ⟨st, rfl, hz, hk, hf⟩
          rw [quX_enq (by decide) rfl] at hz ⊢
          obtain ⟨zv, rfl, ho⟩ := R.one hz
          have HOV := Lib.hid ho
          clear ho
          refine ⟨_, rfl, ?_⟩
          have HK4 := Lib.hid (HK3.out.trans hk (FSub.refl _ _))
          have HZo4 := Lib.hid (R.new_ HZo3.out hk)
          have HBb4 := Lib.hid (hk.heap HBb3.out (by simp))
          have HLb4 := Lib.hid (Nat.lt_of_lt_of_le HLb3.out hk.size)
          have HBa4 := Lib.hid (hk.heap HBa3.out (by simp))
          have HLa4 := Lib.hid (Nat.lt_of_lt_of_le HLa3.out hk.size)
          have HZv4 := Lib.hid hz
          have HPvb := Lib.hid (show ∀ p ∈ R.foot (.agg #[zv]), p ≠ qb from fun p hp e => by
            rcases hf p hp with h | h
            · exact HPob.out p h e
            · have := HLb3.out; omega)
          have HPva := Lib.hid (show ∀ p ∈ R.foot (.agg #[zv]), p ≠ qa from fun p hp e => by
            rcases hf p hp with h | h
            · exact HPoa.out p h e
            · have := HLa3.out; omega)
          clear hz hf
          clear hk
          refine hK.out _ _ ?_ (fun hHeld => ?_)
          · exact (by rw [HSE.out]; exact HK4.out)
          clear hK K
          try simp only [Act.put, List.setIfInBounds_toArray, List.set_cons_zero, List.set_cons_succ]
          apply wpAnyH_take (i := 3)
          · simp only [List.getElem?_toArray]; rfl
          · kernel_rfl
          · kernel_rfl
          · kernel_rfl
          · exact fun _ _ _ h => h
          · exact Or.inl ⟨by rfl, by intro w hSw; go_simp; try with_reducible rfl⟩
          · assumption
          try simp only [Act.put, List.setIfInBounds_toArray, List.set_cons_zero, List.set_cons_succ]
          apply wpAnyH_take (i := 4)
          · simp only [List.getElem?_toArray]; rfl
          · kernel_rfl
          · kernel_rfl
          · kernel_rfl
          · exact fun _ _ _ h => h
          · exact Or.inl ⟨by rfl, by intro w hSw; go_simp; try with_reducible rfl⟩
          · assumption
          try simp only [Act.put, List.setIfInBounds_toArray, List.set_cons_zero, List.set_cons_succ]
          apply wpAnyH_take (i := 5)
          · simp only [List.getElem?_toArray]; rfl
          · kernel_rfl
          · kernel_rfl
          · kernel_rfl
          · exact fun _ _ _ h => h
          · exact Or.inl ⟨by rfl, by intro w hSw; go_simp; try with_reducible rfl⟩
          · assumption
          try simp only [Act.put, List.setIfInBounds_toArray, List.set_cons_zero, List.set_cons_succ]
          apply wpAnyH_take (i := 6)
          · simp only [List.getElem?_toArray]; rfl
          · kernel_rfl
          · kernel_rfl
          · kernel_rfl
          · exact fun _ _ _ h => h
          · exact Or.inl ⟨by rfl, by intro w hSw; go_simp; try with_reducible rfl⟩
          · assumption
          try simp only [Act.put, List.setIfInBounds_toArray, List.set_cons_zero, List.set_cons_succ]
          apply wpAnyH_ready (rs := [9])
          · kernel_rfl
          · simp
          apply AllReadyH.cons (hs := AllReadyH.nil)
          · simp only [List.getElem?_toArray]; rfl
          intro K hK
          rw [if_pos (by rfl)]
          refine wp_putS (g := qa) (z := zv) rfl rfl rfl HBa4.out HOV.out ?_
          intro W5 h5 k5
          have HA5 := Lib.hid h5
          have HK5 := Lib.hid (HK4.out.trans k5 (fun p hp => .inr (by simp at hp; have := HGa.out; omega)))
          have HB5 := Lib.hid (k5.heap HBb4.out (by simp; have := HAB.out; omega))
          have HZ5 := Lib.hid (R.keep HZv4.out k5 (fun p hp hq => by simp at hq; exact HPva.out p hp hq))
          clear h5 k5
          refine hK.out _ _ ?_ (fun hHeld => ?_)
          · exact (by rw [HSE.out]; exact HK5.out)
          clear hK K
          try simp only [Act.put, List.setIfInBounds_toArray, List.set_cons_zero, List.set_cons_succ]
          apply wpAnyH_ready (rs := [10])
          · kernel_rfl
          · simp
          apply AllReadyH.cons (hs := AllReadyH.nil)
          · simp only [List.getElem?_toArray]; rfl
          intro K hK
          rw [if_pos (by rfl)]
          refine wp_putNw (g := qb) (old := ⟨0, 0⟩) ⟨0, 0⟩ rfl rfl rfl HB5.out ?_
          intro W6 h6 k6
          have HK6 := Lib.hid (HK5.out.trans k6 (fun p hp => .inr (by simp at hp; have := HGb.out; omega)))
          have HA6 := Lib.hid (k6.heap HA5.out (by simp; have := HAB.out; omega))
          have HZ6 := Lib.hid (R.keep HZ5.out k6 (fun p hp hq => by simp at hq; exact HPvb.out p hp hq))
          clear h6 k6
          refine hK.out _ _ ?_ (fun hHeld => ?_)
          · exact (by rw [HSE.out]; exact HK6.out)
          clear hK K
          try simp only [Act.put, List.setIfInBounds_toArray, List.set_cons_zero, List.set_cons_succ]
          apply wpAnyH_take (i := 11)
          · simp only [List.getElem?_toArray]; rfl
          · kernel_rfl
          · kernel_rfl
          · kernel_rfl
          · exact fun _ _ _ h => h
          · exact Or.inl ⟨by rfl, by intro w hSw; go_simp; try with_reducible rfl⟩
          · assumption
          try simp only [Act.put, List.setIfInBounds_toArray, List.set_cons_zero, List.set_cons_succ]
          refine wpAnyH_done (by kernel_rfl) ?_ _
          refine NoPanic.normal ?_
          exact ⟨rfl, qa, qb, zv, [_, _, _, _, _, _, _], rfl, HA6.out, HZ6.out, HK6.out⟩
        rintro qa qb zv us w7_ ⟨hA7, hZ7, hk⟩
        simp only [Act.put, List.setIfInBounds_toArray, List.set_cons_zero, List.set_cons_succ]
        have HZv := Lib.hid hZ7; have HSqa := Lib.hid hA7
        clear hA7 hZ7
        have HZsx := Lib.hid (R.new_ HZs.out hk)
        have HSq7x := Lib.hid (hk.heap HSq7.out (by simp))
        have HZox := Lib.hid (R.new_ HZo.out hk)
        have HSq8x := Lib.hid (hk.heap HSq8.out (by simp))
        have HOWx := Lib.hid ((HOW.out.new hk (Nat.le_refl _)).more hk.size)
        have HZtx := Lib.hid (R.new_ HZt.out hk)
        have HSq12x := Lib.hid (hk.heap HSq12.out (by simp))
        have HKx := Lib.hid (HK.out.trans hk (FSub.refl _ _))
        clear HK HZs HSq7 HZo HSq8 HOW HZt HSq12
        have HK := HKx; have HZs := HZsx; have HSq7 := HSq7x; have HZo := HZox; have HSq8 := HSq8x; have HOW := HOWx; have HZt := HZtx; have HSq12 := HSq12x
        clear HKx HZsx HSq7x HZox HSq8x HOWx HZtx HSq12x
        clear hk
        go_wp2_with fail
        obtain ⟨S, hS⟩ : ∃ S : World → Prop, S = fun y => Keeps [] w7_ y := ⟨_, rfl⟩
        have HSE := Lib.hid hS
        have hSD : S w7_.drew := by rw [hS]; exact (Keeps.refl _ _).drew
        have HS0 := Lib.hid (fun (w' : World) (h : S w') => show w'.cell? ⟨q8, 0, none⟩ = some zo from by rw [hS] at h; exact h.cell (cell_lit HSq8.out 0 rfl) (by simp))
        have HG0 := Lib.hid (show Keeps [] w7_ w7_.drew from (Keeps.refl _ _).drew)
        clear hS
        refine wp_region_noPanic ?_
        refine wp_region_held_drew (S := S) (by kernel_rfl) hSD (fun hHeld => ?_)
        apply wpAnyH_take (i := 0)
        · simp only [List.getElem?_toArray]; rfl
        · kernel_rfl
        · kernel_rfl
        · kernel_rfl
        · exact fun _ _ _ h => h
        · exact Or.inl ⟨by rfl, by intro w hSw; have q0 := HS0.out w hSw; go_simp; try with_reducible rfl⟩
        · assumption
        try simp only [Act.put, List.setIfInBounds_toArray, List.set_cons_zero, List.set_cons_succ]
        apply wpAnyH_ready (rs := [1])
        · kernel_rfl
        · simp
        apply AllReadyH.cons (hs := AllReadyH.nil)
        · simp only [List.getElem?_toArray]; rfl
        intro K hK
        rw [if_pos (by rfl)]
        refine wp_call10 26 _ _ rfl [.int .u16 9] rfl Tryd.func26 (by kernel_rfl) (by kernel_rfl) ?_
        refine (enq10_any _ 9).mono ?_
        rintro e g1 ⟨rfl, hk⟩
        refine ⟨_, rfl, ?_⟩
        have HG1 := Lib.hid (HG0.out.trans hk (FSub.refl _ _))
        clear hk
        refine hK.out _ _ ?_ (fun hHeld => ?_)
        · exact (by rw [HSE.out]; exact HG1.out)
        clear hK K
        try simp only [Act.put, List.setIfInBounds_toArray, List.set_cons_zero, List.set_cons_succ]
        apply wpAnyH_ready (rs := [2])
        · kernel_rfl
        · simp
        apply AllReadyH.cons (hs := AllReadyH.nil)
        · simp only [List.getElem?_toArray]; rfl
        intro K hK
        rw [if_pos (by rfl)]
        refine wp_call10 12 _ _ rfl [.agg #[zo], (kwE 9).val] rfl Tryd.func12 (by kernel_rfl) (by kernel_rfl) ?_
        refine (R.step g1 _ L1 (kwE 9) (R.keepG HG.out (HK.out.trans HG1.out (FSub.refl _ _))) (R.new_ HZo.out HG1.out) (by have := HN1.out; omega) (enq_in 9 (by decide))).mono ?_
        rintro e g2 ⟨st, rfl, hz, hk, hf⟩
        clear hz hf
        refine ⟨_, rfl, ?_⟩
        have HG2 := Lib.hid (HG1.out.trans hk (FSub.refl _ _))
        clear hk
        refine hK.out _ _ ?_ (fun hHeld => ?_)
        · exact (by rw [HSE.out]; exact HG2.out)
        clear hK K
        try simp only [Act.put, List.setIfInBounds_toArray, List.set_cons_zero, List.set_cons_succ]
        refine wpAnyH_done (by kernel_rfl) ?_ _
        refine NoPanic.normal ?_
        have hk := HG2.out
        have HZsx := Lib.hid (R.new_ HZs.out hk)
        have HSq7x := Lib.hid (hk.heap HSq7.out (by simp))
        have HZox := Lib.hid (R.new_ HZo.out hk)
        have HSq8x := Lib.hid (hk.heap HSq8.out (by simp))
        have HOWx := Lib.hid ((HOW.out.new hk (Nat.le_refl _)).more hk.size)
        have HZtx := Lib.hid (R.new_ HZt.out hk)
        have HSq12x := Lib.hid (hk.heap HSq12.out (by simp))
        have HZvx := Lib.hid (R.new_ HZv.out hk)
        have HSqax := Lib.hid (hk.heap HSqa.out (by simp))
        have HKx := Lib.hid (HK.out.trans hk (FSub.refl _ _))
        clear HK HZs HSq7 HZo HSq8 HOW HZt HSq12 HZv HSqa
        have HK := HKx; have HZs := HZsx; have HSq7 := HSq7x; have HZo := HZox; have HSq8 := HSq8x; have HOW := HOWx; have HZt := HZtx; have HSq12 := HSq12x; have HZv := HZvx; have HSqa := HSqax
        clear HKx HZsx HSq7x HZox HSq8x HOWx HZtx HSq12x HZvx HSqax
        clear hk HG0 HG1 HG2 HSE hSD HS0 hHeld
        go_wp2_with fail
        refine (R.of g2 g2.heap.size _ l (R.keepG HG.out HK.out) ((HL.out.new HK.out (Nat.le_refl _)).more HK.out.size) (Nat.le_refl _) (by omega)).mono ?_
        rintro e y4 ⟨st, rfl, hz, hk, hfz⟩
        have HZsx := Lib.hid (R.new_ HZs.out hk)
        have HSq7x := Lib.hid (hk.heap HSq7.out (by simp))
        have HZox := Lib.hid (R.new_ HZo.out hk)
        have HSq8x := Lib.hid (hk.heap HSq8.out (by simp))
        have HOWx := Lib.hid ((HOW.out.new hk (Nat.le_refl _)).more hk.size)
        have HZtx := Lib.hid (R.new_ HZt.out hk)
        have HSq12x := Lib.hid (hk.heap HSq12.out (by simp))
        have HZvx := Lib.hid (R.new_ HZv.out hk)
        have HSqax := Lib.hid (hk.heap HSqa.out (by simp))
        have HKx := Lib.hid (HK.out.trans hk (FSub.refl _ _))
        clear HK HZs HSq7 HZo HSq8 HOW HZt HSq12 HZv HSqa
        have HK := HKx; have HZs := HZsx; have HSq7 := HSq7x; have HZo := HZox; have HSq8 := HSq8x; have HOW := HOWx; have HZt := HZtx; have HSq12 := HSq12x; have HZv := HZvx; have HSqa := HSqax
        clear HKx HZsx HSq7x HZox HSq8x HOWx HZtx HSq12x HZvx HSqax
        clear hk
        clear hfz
        obtain ⟨zr, rfl, hone⟩ := R.one hz
        have HE := Lib.hid hone; have HZr := Lib.hid hz
        clear hone hz
        clear HE
        go_wp2_with fail
        refine (R.run y4 _ l _ ob (R.keepG HG.out HK.out) HZr.out (by omega) HIB.out ((HB.out.new HK.out (Nat.le_refl _)).more HK.out.size) (by omega)).mono ?_
        rintro e y5 ⟨st, vr3, rfl, hz, hi, hk, -⟩
        have HZsx := Lib.hid (R.new_ HZs.out hk)
        have HSq7x := Lib.hid (hk.heap HSq7.out (by simp))
        have HZox := Lib.hid (R.new_ HZo.out hk)
        have HSq8x := Lib.hid (hk.heap HSq8.out (by simp))
        have HOWx := Lib.hid ((HOW.out.new hk (Nat.le_refl _)).more hk.size)
        have HZtx := Lib.hid (R.new_ HZt.out hk)
        have HSq12x := Lib.hid (hk.heap HSq12.out (by simp))
        have HZvx := Lib.hid (R.new_ HZv.out hk)
        have HSqax := Lib.hid (hk.heap HSqa.out (by simp))
        have HKx := Lib.hid (HK.out.trans hk (FSub.refl _ _))
        clear HK HZs HSq7 HZo HSq8 HOW HZt HSq12 HZv HSqa
        have HK := HKx; have HZs := HZsx; have HSq7 := HSq7x; have HZo := HZox; have HSq8 := HSq8x; have HOW := HOWx; have HZt := HZtx; have HSq12 := HSq12x; have HZv := HZvx; have HSqa := HSqax
        clear HKx HZsx HSq7x HZox HSq8x HOWx HZtx HSq12x HZvx HSqax
        clear hk
        clear hi
        rw [← HL2.out] at hz
        generalize stE quX l ob = er3 at *
        obtain ⟨zg, rfl, hone⟩ := R.one hz
        have HE := Lib.hid hone; have HZg := Lib.hid hz
        clear hone hz
        have HC := Lib.hid (heap_alloc_new y5 (.cells #[.slice none 0 0] 28))
        go_wp2_with ((with_reducible refine wpList_putSt (g := y5.heap.size) (z := zg) ?_ ?_ HC.out HE.out ?_); exact rfl; exact rfl)
        intro Y4 h9 k9
        have k89 : Keeps [] y5 Y4 := ((Keeps.refl [] y5).alloc _).trans k9 (fun q hq => .inr (by simp at hq; omega))
        have HSq18 := Lib.hid h9
        have HZsx := Lib.hid (R.new_ HZs.out k89)
        have HSq7x := Lib.hid (k89.heap HSq7.out (by simp))
        have HZox := Lib.hid (R.new_ HZo.out k89)
        have HSq8x := Lib.hid (k89.heap HSq8.out (by simp))
        have HOWx := Lib.hid ((HOW.out.new k89 (Nat.le_refl _)).more k89.size)
        have HZtx := Lib.hid (R.new_ HZt.out k89)
        have HSq12x := Lib.hid (k89.heap HSq12.out (by simp))
        have HZvx := Lib.hid (R.new_ HZv.out k89)
        have HSqax := Lib.hid (k89.heap HSqa.out (by simp))
        have HZgx := Lib.hid (R.new_ HZg.out k89)
        have HKx := Lib.hid (HK.out.trans k89 (FSub.refl _ _))
        clear HK HZs HSq7 HZo HSq8 HOW HZt HSq12 HZv HSqa HZg
        have HK := HKx; have HZs := HZsx; have HSq7 := HSq7x; have HZo := HZox; have HSq8 := HSq8x; have HOW := HOWx; have HZt := HZtx; have HSq12 := HSq12x; have HZv := HZvx; have HSqa := HSqax; have HZg := HZgx
        clear HKx HZsx HSq7x HZox HSq8x HOWx HZtx HSq12x HZvx HSqax HZgx
        clear h9 k9 k89 HC HE
        generalize y5.heap.size = q18 at *
        go_wp2_with fail
        have hgr : ∀ (V : World) (hk : Keeps [] Y4 V), ∃ v' w', (Builtin.append_ #[22, 22] 22 #[.slice aw L1.length L1.length, .slice (some ⟨V.heap.size, 0, none⟩) 1 1]).run Tryd.prog (V.alloc (.cells #[.int .u16 7] 23)) = .ok v' w' ∧ rkU.Own V.heap.size w' v' (L1 ++ [7]) ∧ Keeps [] V w' := fun V hk => U16.grow (HOW.out.new hk (Nat.le_refl _)) hk.size (by have := HN1.out; omega) HAW.out 7
        have HGR := Lib.hid hgr
        clear hgr
        have hcut := U16.cut3 (a := aw) (n := L1.length) (c := cw) (by rcases HAW.out with ⟨h1, h2⟩ | h; exact .inl ⟨h1, by rw [h2]; rfl⟩; exact .inr h) hcw
        have HCUT := Lib.hid hcut
        clear hcut
        obtain ⟨S, hS⟩ : ∃ S : World → Prop, S = fun y => Keeps [] Y4 y := ⟨_, rfl⟩
        have HSE := Lib.hid hS
        have hSD : S Y4.drew := by rw [hS]; exact (Keeps.refl _ _).drew
        have HS7 := Lib.hid (fun (w' : World) (h : S w') => show w'.cell? ⟨q7, 0, none⟩ = some zs from by rw [hS] at h; exact h.cell (cell_lit HSq7.out 0 rfl) (by simp))
        have HS8 := Lib.hid (fun (w' : World) (h : S w') => show w'.cell? ⟨q8, 0, none⟩ = some zo from by rw [hS] at h; exact h.cell (cell_lit HSq8.out 0 rfl) (by simp))
        have HS12 := Lib.hid (fun (w' : World) (h : S w') => show w'.cell? ⟨q12, 0, none⟩ = some zt from by rw [hS] at h; exact h.cell (cell_lit HSq12.out 0 rfl) (by simp))
        have HS15 := Lib.hid (fun (w' : World) (h : S w') => show w'.cell? ⟨qa, 0, none⟩ = some zv from by rw [hS] at h; exact h.cell (cell_lit HSqa.out 0 rfl) (by simp))
        have HS18 := Lib.hid (fun (w' : World) (h : S w') => show w'.cell? ⟨q18, 0, none⟩ = some zg from by rw [hS] at h; exact h.cell (cell_lit HSq18.out 0 rfl) (by simp))
        have HG0 := Lib.hid (show Keeps [] Y4 Y4.drew from (Keeps.refl _ _).drew)
        clear hS
        refine wp_region_noPanic ?_
        refine wp_region_held_drew (S := S) (by kernel_rfl) hSD (fun hHeld => ?_)
        apply wpAnyH_take (i := 0)
        · simp only [List.getElem?_toArray]; rfl
        · kernel_rfl
        · kernel_rfl
        · kernel_rfl
        · exact fun _ _ _ h => h
        · exact Or.inl ⟨by rfl, by intro w hSw; have q0 := HS7.out w hSw; go_simp; try with_reducible rfl⟩
        · assumption
        try simp only [Act.put, List.setIfInBounds_toArray, List.set_cons_zero, List.set_cons_succ]
        apply wpAnyH_take (i := 1)
        · simp only [List.getElem?_toArray]; rfl
        · kernel_rfl
        · kernel_rfl
        · kernel_rfl
        · exact fun _ _ _ h => h
        · exact Or.inl ⟨by rfl, by intro w hSw; go_simp; try with_reducible rfl⟩
        · assumption
        try simp only [Act.put, List.setIfInBounds_toArray, List.set_cons_zero, List.set_cons_succ]
        apply wpAnyH_ready (rs := [2])
        · kernel_rfl
        · simp
        apply AllReadyH.cons (hs := AllReadyH.nil)
        · simp only [List.getElem?_toArray]; rfl
        intro K hK
        rw [if_pos (by rfl)]
        refine wp_call10 25 _ _ rfl [.agg #[zs], .slice a1 l.length c1] rfl Tryd.func25 (by kernel_rfl) (by kernel_rfl) ?_
        refine (has10_true R _ (R.keepG HG.out (HK.out.trans HG0.out (FSub.refl _ _))) (R.new_ HZs.out HG0.out) (by omega) (HL.out.new (HK.out.trans HG0.out (FSub.refl _ _)) (Nat.le_refl _)) (HK.out.trans HG0.out (FSub.refl _ _)).size).mono ?_
        rintro e g1 ⟨rfl, hk⟩
        refine ⟨_, rfl, ?_⟩
        have HG1 := Lib.hid (HG0.out.trans hk (FSub.refl _ _))
        clear hk
        refine hK.out _ _ ?_ (fun hHeld => ?_)
        · exact (by rw [HSE.out]; exact HG1.out)
        clear hK K
        try simp only [Act.put, List.setIfInBounds_toArray, List.set_cons_zero, List.set_cons_succ]
        apply wpAnyH_take (i := 3)
        · simp only [List.getElem?_toArray]; rfl
        · kernel_rfl
        · kernel_rfl
        · kernel_rfl
        · exact fun _ _ _ h => h
        · exact Or.inl ⟨by rfl, by intro w hSw; go_simp; try with_reducible rfl⟩
        · assumption
        try simp only [Act.put, List.setIfInBounds_toArray, List.set_cons_zero, List.set_cons_succ]
        apply wpAnyH_take (i := 4)
        · simp only [List.getElem?_toArray]; rfl
        · kernel_rfl
        · kernel_rfl
        · kernel_rfl
        · exact fun _ _ _ h => h
        · exact Or.inl ⟨by rfl, by intro w hSw; have q0 := HS8.out w hSw; go_simp; try with_reducible rfl⟩
        · assumption
        try simp only [Act.put, List.setIfInBounds_toArray, List.set_cons_zero, List.set_cons_succ]
        apply wpAnyH_take (i := 5)
        · simp only [List.getElem?_toArray]; rfl
        · kernel_rfl
        · kernel_rfl
        · kernel_rfl
        · exact fun _ _ _ h => h
        · exact Or.inl ⟨by rfl, by intro w hSw; go_simp; try with_reducible rfl⟩
        · assumption
        try simp only [Act.put, List.setIfInBounds_toArray, List.set_cons_zero, List.set_cons_succ]
        apply wpAnyH_ready (rs := [6])
        · kernel_rfl
        · simp
        apply AllReadyH.cons (hs := AllReadyH.nil)
        · simp only [List.getElem?_toArray]; rfl
        intro K hK
        rw [if_pos (by rfl)]
        refine wp_call10 25 _ _ rfl [.agg #[zo], .slice aw L1.length cw] rfl Tryd.func25 (by kernel_rfl) (by kernel_rfl) ?_
        refine (has10_true R g1 (R.keepG HG.out (HK.out.trans HG1.out (FSub.refl _ _))) (R.new_ HZo.out HG1.out) (by have := HN1.out; omega) (HOW.out.new HG1.out (Nat.le_refl _)) HG1.out.size).mono ?_
        rintro e g2 ⟨rfl, hk⟩
        refine ⟨_, rfl, ?_⟩
        have HG2 := Lib.hid (HG1.out.trans hk (FSub.refl _ _))
        clear hk
        refine hK.out _ _ ?_ (fun hHeld => ?_)
        · exact (by rw [HSE.out]; exact HG2.out)
        clear hK K
        try simp only [Act.put, List.setIfInBounds_toArray, List.set_cons_zero, List.set_cons_succ]
        apply wpAnyH_take (i := 7)
        · simp only [List.getElem?_toArray]; rfl
        · kernel_rfl
        · kernel_rfl
        · kernel_rfl
        · exact fun _ _ _ h => h
        · exact Or.inl ⟨by rfl, by intro w hSw; go_simp; try with_reducible rfl⟩
        · assumption
        try simp only [Act.put, List.setIfInBounds_toArray, List.set_cons_zero, List.set_cons_succ]
        apply wpAnyH_take (i := 8)
        · simp only [List.getElem?_toArray]; rfl
        · kernel_rfl
        · kernel_rfl
        · kernel_rfl
        · exact fun _ _ _ h => h
        · exact Or.inl ⟨by rfl, by intro w hSw; go_simp; try with_reducible rfl⟩
        · assumption
        try simp only [Act.put, List.setIfInBounds_toArray, List.set_cons_zero, List.set_cons_succ]
        apply wpAnyH_take (i := 9)
        · simp only [List.getElem?_toArray]; rfl
        · kernel_rfl
        · kernel_rfl
        · kernel_rfl
        · exact fun _ _ _ h => h
        · exact Or.inl ⟨by rfl, by intro w hSw; have q0 := HS12.out w hSw; go_simp; try with_reducible rfl⟩
        · assumption
        try simp only [Act.put, List.setIfInBounds_toArray, List.set_cons_zero, List.set_cons_succ]
        apply wpAnyH_take (i := 10)
        · simp only [List.getElem?_toArray]; rfl
        · kernel_rfl
        · kernel_rfl
        · kernel_rfl
        · exact fun _ _ _ h => h
        · exact Or.inl ⟨by rfl, by intro w hSw; have q0 := HS18.out w hSw; go_simp; try with_reducible rfl⟩
        · assumption
        try simp only [Act.put, List.setIfInBounds_toArray, List.set_cons_zero, List.set_cons_succ]
        apply wpAnyH_ready (rs := [11])
        · kernel_rfl
        · simp
        apply AllReadyH.cons (hs := AllReadyH.nil)
        · simp only [List.getElem?_toArray]; rfl
        intro K hK
        rw [if_pos (by rfl)]
        refine wp_call10 23 _ _ rfl [.agg #[zt], .agg #[zg]] rfl Tryd.func23 (by kernel_rfl) (by kernel_rfl) ?_
        refine (R.same g2 _ L2 _ L2 (R.keepG HG.out (HK.out.trans HG2.out (FSub.refl _ _))) (R.new_ HZt.out HG2.out) (R.new_ HZg.out HG2.out) (by have := HN2.out; omega) (by have := HN2.out; omega)).mono ?_
        rintro e g3 ⟨rfl, hk⟩
        rw [decide_eq_true (rfl : L2 = L2)]
        refine ⟨_, rfl, ?_⟩
        have HG3 := Lib.hid (HG2.out.trans hk (FSub.refl _ _))
        clear hk
        refine hK.out _ _ ?_ (fun hHeld => ?_)
        · exact (by rw [HSE.out]; exact HG3.out)
        clear hK K
        try simp only [Act.put, List.setIfInBounds_toArray, List.set_cons_zero, List.set_cons_succ]
        apply wpAnyH_take (i := 12)
        · simp only [List.getElem?_toArray]; rfl
        · kernel_rfl
        · kernel_rfl
        · kernel_rfl
        · exact fun _ _ _ h => h
        · exact Or.inl ⟨by rfl, by intro w hSw; go_simp; try with_reducible rfl⟩
        · assumption
        try simp only [Act.put, List.setIfInBounds_toArray, List.set_cons_zero, List.set_cons_succ]
        apply wpAnyH_take (i := 13)
        · simp only [List.getElem?_toArray]; rfl
        · kernel_rfl
        · kernel_rfl
        · kernel_rfl
        · exact fun _ _ _ h => h
        · exact Or.inl ⟨by rfl, by intro w hSw; go_simp; try with_reducible rfl⟩
        · assumption
        try simp only [Act.put, List.setIfInBounds_toArray, List.set_cons_zero, List.set_cons_succ]
        apply wpAnyH_take (i := 14)
        · simp only [List.getElem?_toArray]; rfl
        · kernel_rfl
        · kernel_rfl
        · kernel_rfl
        · exact fun _ _ _ h => h
        · exact Or.inl ⟨by rfl, by intro w hSw; have q0 := HS15.out w hSw; go_simp; try with_reducible rfl⟩
        · assumption
        try simp only [Act.put, List.setIfInBounds_toArray, List.set_cons_zero, List.set_cons_succ]
        apply wpAnyH_take (i := 15)
        · simp only [List.getElem?_toArray]; rfl
        · kernel_rfl
        · kernel_rfl
        · kernel_rfl
        · exact fun _ _ _ h => h
        · exact Or.inl ⟨by rfl, by intro w hSw; go_simp; try with_reducible rfl⟩
        · assumption
        try simp only [Act.put, List.setIfInBounds_toArray, List.set_cons_zero, List.set_cons_succ]
        apply wpAnyH_take (i := 16)
        · simp only [List.getElem?_toArray]; rfl
        · kernel_rfl
        · kernel_rfl
        · kernel_rfl
        · exact fun _ _ _ h => h
        · exact Or.inl ⟨by rfl, by intro w hSw; go_simp; try with_reducible rfl⟩
        · assumption
        try simp only [Act.put, List.setIfInBounds_toArray, List.set_cons_zero, List.set_cons_succ]
        apply wpAnyH_take (i := 17)
        · simp only [List.getElem?_toArray]; rfl
        · kernel_rfl
        · kernel_rfl
        · kernel_rfl
        · exact fun _ _ _ h => h
        · exact Or.inl ⟨by rfl, by intro w hSw; go_simp; try with_reducible rfl⟩
        · assumption
        try simp only [Act.put, List.setIfInBounds_toArray, List.set_cons_zero, List.set_cons_succ]
        apply wpAnyH_take (i := 18)
        · simp only [List.getElem?_toArray]; rfl
        · kernel_rfl
        · kernel_rfl
        · kernel_rfl
        · exact fun _ _ _ h => h
        · exact Or.inl ⟨by rfl, by intro w hSw; go_simp; try with_reducible rfl⟩
        · assumption
        try simp only [Act.put, List.setIfInBounds_toArray, List.set_cons_zero, List.set_cons_succ]
        apply wpAnyH_take (i := 19)
        · simp only [List.getElem?_toArray]; rfl
        · kernel_rfl
        · kernel_rfl
        · kernel_rfl
        · exact fun _ _ _ h => h
        · exact Or.inl ⟨by rfl, by intro w hSw; go_simp; try with_reducible rfl⟩
        · assumption
        try simp only [Act.put, List.setIfInBounds_toArray, List.set_cons_zero, List.set_cons_succ]
        apply wpAnyH_take (i := 20)
        · simp only [List.getElem?_toArray]; rfl
        · kernel_rfl
        · kernel_rfl
        · kernel_rfl
        · exact fun _ _ _ h => h
        · exact yields_cut3 (by rfl) (.tmp 86) (.tmp 88) (.tmp 90) rfl (v := .slice aw L1.length cw) (n := L1.length) rfl rfl rfl HCUT.out
        · assumption
        try simp only [Act.put, List.setIfInBounds_toArray, List.set_cons_zero, List.set_cons_succ]
        obtain ⟨va, g5, hrun, hown, hka⟩ := HGR.out g3 HG3.out
        have HRUN := Lib.hid hrun; have HOWN := Lib.hid hown; have HG5 := Lib.hid (HG3.out.trans hka (FSub.refl _ _))
        have HG4 := Lib.hid (show Keeps [] Y4 (g3.alloc (.cells #[.int .u16 7] 23)) from HG3.out.alloc _)
        obtain ⟨av, cv, rfl, hcv, hmv⟩ := hown.shape
        clear hrun hown hka
        apply wpAnyH_ready (rs := [21])
        · kernel_rfl
        · simp
        apply AllReadyH.cons (hs := AllReadyH.nil)
        · simp only [List.getElem?_toArray]; rfl
        intro K hK
        rw [if_pos (by rfl)]
        refine wp_buildU _ rfl (y := 7) rfl ?_
        refine hK.out _ _ ?_ (fun hHeld => ?_)
        · exact (by rw [HSE.out]; exact HG4.out)
        clear hK K
        try simp only [Act.put, List.setIfInBounds_toArray, List.set_cons_zero, List.set_cons_succ]
        apply wpAnyH_ready (rs := [22])
        · kernel_rfl
        · simp
        apply AllReadyH.cons (hs := AllReadyH.nil)
        · simp only [List.getElem?_toArray]; rfl
        intro K hK
        rw [if_pos (by rfl)]
        refine wp_append_run (.tmp 91) (.tmp 92) 22 rfl (.slice aw L1.length L1.length) (.slice (some ⟨g3.heap.size, 0, none⟩) 1 1) (.slice av (L1 ++ [7]).length cv) g5 rfl rfl HRUN.out ?_
        refine hK.out _ _ ?_ (fun hHeld => ?_)
        · exact (by rw [HSE.out]; exact HG5.out)
        clear hK K
        try simp only [Act.put, List.setIfInBounds_toArray, List.set_cons_zero, List.set_cons_succ]
        have hct := has10_true R g5 (R.keepG HG.out (HK.out.trans HG5.out (FSub.refl _ _))) (R.new_ HZv.out HG5.out) (by have := HN1.out; simp; omega) HOWN.out.in_ (Nat.le_refl _)
        have HCT := Lib.hid hct
        clear hct
        apply wpAnyH_ready (rs := [23])
        · kernel_rfl
        · simp
        apply AllReadyH.cons (hs := AllReadyH.nil)
        · simp only [List.getElem?_toArray]; rfl
        intro K hK
        rw [if_pos (by rfl)]
        refine wp_call10 25 _ _ rfl [.agg #[zv], .slice av (L1 ++ [7]).length cv] rfl Tryd.func25 (by kernel_rfl) (by kernel_rfl) ?_
        refine (HCT.out).mono ?_
        rintro e g6 ⟨rfl, hk⟩
        refine ⟨_, rfl, ?_⟩
        have HG6 := Lib.hid (HG5.out.trans hk (FSub.refl _ _))
        clear hk
        refine hK.out _ _ ?_ (fun hHeld => ?_)
        · exact (by rw [HSE.out]; exact HG6.out)
        clear hK K
        try simp only [Act.put, List.setIfInBounds_toArray, List.set_cons_zero, List.set_cons_succ]
        apply wpAnyH_take (i := 24)
        · simp only [List.getElem?_toArray]; rfl
        · kernel_rfl
        · kernel_rfl
        · kernel_rfl
        · exact fun _ _ _ h => h
        · exact Or.inl ⟨by rfl, by intro w hSw; go_simp; try with_reducible rfl⟩
        · assumption
        try simp only [Act.put, List.setIfInBounds_toArray, List.set_cons_zero, List.set_cons_succ]
        apply wpAnyH_take (i := 25)
        · simp only [List.getElem?_toArray]; rfl
        · kernel_rfl
        · kernel_rfl
        · kernel_rfl
        · exact fun _ _ _ h => h
        · exact Or.inl ⟨by rfl, by intro w hSw; go_simp; try with_reducible rfl⟩
        · assumption
        try simp only [Act.put, List.setIfInBounds_toArray, List.set_cons_zero, List.set_cons_succ]
        apply wpAnyH_ready (rs := [26])
        · kernel_rfl
        · simp
        apply AllReadyH.cons (hs := AllReadyH.nil)
        · simp only [List.getElem?_toArray]; rfl
        intro K hK
        rw [if_pos (by rfl)]
        refine wp_call10 10 _ _ rfl [] rfl Tryd.func10 (by kernel_rfl) (by kernel_rfl) ?_
        refine (works10_any R g6 (R.keepG HG.out (HK.out.trans HG6.out (FSub.refl _ _)))).mono ?_
        rintro e g7 ⟨rfl, hk⟩
        refine ⟨_, rfl, ?_⟩
        have HG7 := Lib.hid (HG6.out.trans hk (FSub.refl _ _))
        clear hk
        refine hK.out _ _ ?_ (fun hHeld => ?_)
        · exact (by rw [HSE.out]; exact HG7.out)
        clear hK K
        try simp only [Act.put, List.setIfInBounds_toArray, List.set_cons_zero, List.set_cons_succ]
        apply wpAnyH_take (i := 27)
        · simp only [List.getElem?_toArray]; rfl
        · kernel_rfl
        · kernel_rfl
        · kernel_rfl
        · exact fun _ _ _ h => h
        · exact Or.inl ⟨by rfl, by intro w hSw; go_simp; try with_reducible rfl⟩
        · assumption
        try simp only [Act.put, List.setIfInBounds_toArray, List.set_cons_zero, List.set_cons_succ]
        apply wpAnyH_take (i := 28)
        · simp only [List.getElem?_toArray]; rfl
        · kernel_rfl
        · kernel_rfl
        · kernel_rfl
        · exact fun _ _ _ h => h
        · exact Or.inl ⟨by rfl, by intro w hSw; go_simp; try with_reducible rfl⟩
        · assumption
        try simp only [Act.put, List.setIfInBounds_toArray, List.set_cons_zero, List.set_cons_succ]
        refine wpAnyH_done (by kernel_rfl) ?_ _
        refine NoPanic.normal ?_
        have hk := HG7.out
        have HKZ := Lib.hid (HK.out.trans hk (FSub.refl _ _))
        clear hk
        go_wp2_with fail
        go_ret
        exact ⟨rfl, HKZ.out⟩
      · have t4 : (100 : Int) < ob.length := by omega
        go_enter Tryd.func7, Tryd.ntmps7
        go_wp2_with fail
        refine (works10_any R _ HG.out).mono ?_; rintro e w1 ⟨rfl, hk1⟩
        have HK1 := Lib.hid hk1
        clear hk1
        go_wp2_with fail
        go_ret
        exact ⟨rfl, HK1.out⟩
    · have t3 : (100 : Int) < oa.length := by omega
      go_enter Tryd.func7, Tryd.ntmps7
      go_wp2_with fail
      refine (works10_any R _ HG.out).mono ?_; rintro e w1 ⟨rfl, hk1⟩
      have HK1 := Lib.hid hk1
      clear hk1
      go_wp2_with fail
      go_ret
      exact ⟨rfl, HK1.out⟩
  · have t2 : (100 : Int) < l.length := by omega
    go_enter Tryd.func7, Tryd.ntmps7
    go_wp2_with fail
    refine (works10_any R _ HG.out).mono ?_; rintro e w1 ⟨rfl, hk1⟩
    have HK1 := Lib.hid hk1
    clear hk1
    go_wp2_with fail
    go_ret
    exact ⟨rfl, HK1.out⟩
end Go.Proofs.YtaicampenpkneaaDoor
