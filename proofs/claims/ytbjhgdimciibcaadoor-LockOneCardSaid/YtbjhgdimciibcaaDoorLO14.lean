/-
  LockOne's walk.
-/
import Derived.Test.YtbjhgdimciibcaaDoorLO13
set_option linter.unusedSimpArgs false
set_option linter.unusedVariables false
namespace Go.Proofs.YtbjhgdimciibcaaDoor
open Go.RowKit
set_option maxHeartbeats 8000000
set_option maxRecDepth 100000
theorem LockOne_any (w : World) (hG : Glob4 w) {v : Value} {l : List Cl} (hl : ∀ y ∈ l, y.In) (hI : rkCl.In w.heap.size w v l) : Calls Tryd.prog 6 #[v] w fun e w' => e = .returned (.bool true) ∧ Keeps [] w w' := by
  obtain ⟨a, cp, rfl, hc, hm, -⟩ := id hI
  have HW := Lib.hid (fun w' (h : Keeps [] w w') => works12_any w' (hG.new h))
  by_cases hn : l.length ≤ 200
  · have HIN := Lib.hid hI; have HLI := Lib.hid hl; have HGL := Lib.hid hG
    clear hI hl hG
    generalize hn2 : l.length = n at *
    have HN2 := Lib.hid hn2
    have z0 : ¬ (200 : Int) < n := by omega
    clear hn2 hn
    go_enter Tryd.func6, Tryd.ntmps6
    go_wp2_with fail
    refine (lkNew_any w).mono ?_; rintro e y1 ⟨rfl, rfl⟩
    go_wp2_with fail
    go_loopw [3, 4, 5] (fun sv hv i wr => ∃ (k : Nat) (st h : Int), i = .int .i64 k ∧ k ≤ n ∧ sv = .int .u8 st ∧ hv = .int .i64 h ∧ 0 ≤ st ∧ st ≤ 16 ∧ h = st - 1 ∧ Keeps [] y1 wr) (fun _ _ i _ => n - (intOf i).toNat)
    case atStart => exact ⟨0, 0, -1, rfl, by omega, rfl, rfl, by decide, by decide, by decide, Keeps.refl _ _⟩
    case round =>
      obtain ⟨k, st, h, rfl, hk, rfl, rfl, hs0, hs1, hh, hkw⟩ := hrel
      have HKW := Lib.hid hkw
      have HST := Lib.hid (And.intro hs0 (And.intro hs1 hh))
      by_cases hlt : k < n
      · have hkl : k < l.length := by have := HN2.out; omega
        obtain ⟨g, o, rfl, hg, hr⟩ := InCl_at (HIN.out.new HKW.out (Nat.le_refl _)) hkl
        have HRW := Lib.hid hr
        have HXI := Lib.hid (HLI.out l[k] (List.getElem_mem hkl))
        have hb1 : (k : Int) < n := by omega
        have hb0 : 0 ≤ (k : Int) := by omega
        generalize l[k] = y at *
        have HCI := Lib.hid (And.intro HXI.out.c0 HXI.out.c1)
        have HC12 := Lib.hid (fun W (hk : Keeps [] wr W) => lkStep_any W ((HGL.out.new HKW.out).new hk) y.x (s := st) (c := y.c) ⟨hs0, by omega⟩ ⟨HXI.out.c0, HXI.out.c1⟩ HXI.out.x)
        have wc : IntKind.i64.wrap y.c = y.c := by have := HCI.out; simp [IntKind.wrap, IntKind.signed, IntKind.bits]; omega
        have hw := lkX_ways st y.c y.x
        have HHO := Lib.hid (fun W => lkHolder_any W)
        go_wp2_with fail
        obtain ⟨S, hS⟩ : ∃ S : World → Prop, S = fun y => Keeps [] wr y := ⟨_, rfl⟩
        have HSE := Lib.hid hS
        have hSD : S wr.drew := by rw [hS]; exact (Keeps.refl _ _).drew
        have HS0 := Lib.hid (fun (w' : World) (hh : S w') => show w'.cell? ⟨g, o + k * 6, none⟩ = some (.int .u8 y.c) from by rw [hS] at hh; exact hh.cell (cl_parts HRW.out).1 (by simp))
        have HS1 := Lib.hid (fun (w' : World) (hh : S w') => show w'.rangeAt g (o + k * 6 + 1) (opC y.x) from by rw [hS] at hh; exact fun j v hv => hh.cell ((cl_parts HRW.out).2 j v hv) (by simp))
        clear hS hkw hr
        rcases hw with hw | hw | hw | hw | hw | hw
        · rw [hw.2] at HC12
          have q1 : (st != st) = false := by simp
          clear hw hs0 hs1 hh
          refine wp_region_noPanic ?_
          refine wp_region_held_drew (S := S) (by kernel_rfl) hSD (fun hHeld => ?_)
          apply wpAnyH_take (i := 0)
          · simp only [List.getElem?_toArray]; rfl
          · kernel_rfl
          · kernel_rfl
          · kernel_rfl
          · exact fun _ _ _ h => h
          · exact Or.inl ⟨by rfl, by intro w hSw; go_simp; try with_reducible rfl⟩
          · assumption
          try simp only [Act.put, List.setIfInBounds_toArray, List.set_cons_zero, List.set_cons_succ]
          apply wpAnyH_take (i := 1)
          · simp only [List.getElem?_toArray]; rfl
          · kernel_rfl
          · kernel_rfl
          · kernel_rfl
          · exact fun _ _ _ h => h
          · exact Or.inl ⟨by rfl, by intro w hSw; go_simp; try with_reducible rfl⟩
          · assumption
          try simp only [Act.put, List.setIfInBounds_toArray, List.set_cons_zero, List.set_cons_succ]
          apply wpAnyH_take (i := 2)
          · simp only [List.getElem?_toArray]; rfl
          · kernel_rfl
          · kernel_rfl
          · kernel_rfl
          · exact fun _ _ _ h => h
          · exact Or.inl ⟨by rfl, by intro w hSw; go_simp; try with_reducible rfl⟩
          · assumption
          try simp only [Act.put, List.setIfInBounds_toArray, List.set_cons_zero, List.set_cons_succ]
          apply wpAnyH_take (i := 3)
          · simp only [List.getElem?_toArray]; rfl
          · kernel_rfl
          · kernel_rfl
          · kernel_rfl
          · exact fun _ _ _ h => h
          · exact yields_indexCl rfl _ _ rfl g o n cp k rfl rfl hlt
          · assumption
          try simp only [Act.put, List.setIfInBounds_toArray, List.set_cons_zero, List.set_cons_succ]
          apply wpAnyH_take (i := 4)
          · simp only [List.getElem?_toArray]; rfl
          · kernel_rfl
          · kernel_rfl
          · kernel_rfl
          · exact fun _ _ _ h => h
          · exact Or.inl ⟨by rfl, by intro w hSw; go_simp; try with_reducible rfl⟩
          · assumption
          try simp only [Act.put, List.setIfInBounds_toArray, List.set_cons_zero, List.set_cons_succ]
          apply wpAnyH_take (i := 5)
          · simp only [List.getElem?_toArray]; rfl
          · kernel_rfl
          · kernel_rfl
          · kernel_rfl
          · exact fun _ _ _ h => h
          · exact Or.inl ⟨by rfl, by intro w hSw; have q0 := HS0.out w hSw; go_simp; try with_reducible rfl⟩
          · assumption
          try simp only [Act.put, List.setIfInBounds_toArray, List.set_cons_zero, List.set_cons_succ]
          apply wpAnyH_take (i := 6)
          · simp only [List.getElem?_toArray]; rfl
          · kernel_rfl
          · kernel_rfl
          · kernel_rfl
          · exact fun _ _ _ h => h
          · exact Or.inl ⟨by rfl, by intro w hSw; go_simp; try with_reducible rfl⟩
          · assumption
          try simp only [Act.put, List.setIfInBounds_toArray, List.set_cons_zero, List.set_cons_succ]
          apply wpAnyH_take (i := 7)
          · simp only [List.getElem?_toArray]; rfl
          · kernel_rfl
          · kernel_rfl
          · kernel_rfl
          · exact fun _ _ _ h => h
          · exact Or.inl ⟨by rfl, by intro w hSw; go_simp; try with_reducible rfl⟩
          · assumption
          try simp only [Act.put, List.setIfInBounds_toArray, List.set_cons_zero, List.set_cons_succ]
          apply wpAnyH_take (i := 8)
          · simp only [List.getElem?_toArray]; rfl
          · kernel_rfl
          · kernel_rfl
          · kernel_rfl
          · exact fun _ _ _ h => h
          · exact yields_indexCl rfl _ _ rfl g o n cp k rfl rfl hlt
          · assumption
          try simp only [Act.put, List.setIfInBounds_toArray, List.set_cons_zero, List.set_cons_succ]
          apply wpAnyH_take (i := 9)
          · simp only [List.getElem?_toArray]; rfl
          · kernel_rfl
          · kernel_rfl
          · kernel_rfl
          · exact fun _ _ _ h => h
          · exact Or.inl ⟨by rfl, by intro w hSw; go_simp; try with_reducible rfl⟩
          · assumption
          try simp only [Act.put, List.setIfInBounds_toArray, List.set_cons_zero, List.set_cons_succ]
          apply wpAnyH_take (i := 10)
          · simp only [List.getElem?_toArray]; rfl
          · kernel_rfl
          · kernel_rfl
          · kernel_rfl
          · exact fun _ _ _ h => h
          · exact yields_loadP y.x rfl _ rfl g _ rfl HS1.out
          · assumption
          try simp only [Act.put, List.setIfInBounds_toArray, List.set_cons_zero, List.set_cons_succ]
          apply wpAnyH_ready (rs := [11, 16])
          · kernel_rfl
          · simp
          apply AllReadyH.cons
          · simp only [List.getElem?_toArray]; rfl
          · intro K hK
            rw [if_pos (by rfl)]
            refine wp_call9 10 _ _ rfl [.int .u8 st, .int .u8 y.c, y.x.val] rfl Tryd.func10 (by kernel_rfl) (by kernel_rfl) ((HC12.out _ ((Keeps.refl [] wr).drew)).mono ?_)
            rintro e z1 ⟨rfl, hk⟩
            refine ⟨_, rfl, ?_⟩
            have HZ1 := Lib.hid (((Keeps.refl [] wr).drew).trans hk (FSub.refl _ _))
            clear hk
            refine hK.out _ _ ?_ (fun hHeld => ?_)
            · exact (by rw [HSE.out]; exact HZ1.out)
            clear hK K
            try simp only [Act.put, List.setIfInBounds_toArray, List.set_cons_zero, List.set_cons_succ]
            apply wpAnyH_take (i := 12)
            · simp only [List.getElem?_toArray]; rfl
            · kernel_rfl
            · kernel_rfl
            · kernel_rfl
            · exact fun _ _ _ h => h
            · exact Or.inl ⟨by rfl, by intro w hSw; go_simp; try with_reducible rfl⟩
            · assumption
            try simp only [Act.put, List.setIfInBounds_toArray, List.set_cons_zero, List.set_cons_succ]
            apply wpAnyH_take (i := 13)
            · simp only [List.getElem?_toArray]; rfl
            · kernel_rfl
            · kernel_rfl
            · kernel_rfl
            · exact fun _ _ _ h => h
            · exact Or.inl ⟨by rfl, by intro w hSw; go_simp; try with_reducible rfl⟩
            · assumption
            try simp only [Act.put, List.setIfInBounds_toArray, List.set_cons_zero, List.set_cons_succ]
            apply wpAnyH_take (i := 14)
            · simp only [List.getElem?_toArray]; rfl
            · kernel_rfl
            · kernel_rfl
            · kernel_rfl
            · exact fun _ _ _ h => h
            · exact Or.inl ⟨by rfl, by intro w hSw; go_simp; try with_reducible rfl⟩
            · assumption
            try simp only [Act.put, List.setIfInBounds_toArray, List.set_cons_zero, List.set_cons_succ]
            apply wpAnyH_take (i := 15)
            · simp only [List.getElem?_toArray]; rfl
            · kernel_rfl
            · kernel_rfl
            · kernel_rfl
            · exact fun _ _ _ h => h
            · exact Or.inl ⟨by rfl, by intro w hSw; go_simp; try with_reducible rfl⟩
            · assumption
            try simp only [Act.put, List.setIfInBounds_toArray, List.set_cons_zero, List.set_cons_succ]
            apply wpAnyH_ready (rs := [16])
            · kernel_rfl
            · simp
            apply AllReadyH.cons (hs := AllReadyH.nil)
            · simp only [List.getElem?_toArray]; rfl
            intro K hK
            rw [if_pos (by rfl)]
            refine wp_allocA _ _ _ _ rfl ?_
            have HZ2 := Lib.hid (HZ1.out.alloc (.cells (ansC ⟨0, 0⟩).toArray 27))
            have HB2 := Lib.hid (heap_alloc_new z1 (.cells (ansC ⟨0, 0⟩).toArray 27))
            have HG2 := Lib.hid HZ1.out.size
            generalize z1.alloc (.cells (ansC ⟨0, 0⟩).toArray 27) = z2 at *
            generalize z1.heap.size = gz at *
            refine hK.out _ _ ?_ (fun hHeld => ?_)
            · exact (by rw [HSE.out]; exact HZ2.out)
            clear hK K
            try simp only [Act.put, List.setIfInBounds_toArray, List.set_cons_zero, List.set_cons_succ]
            apply wpAnyH_take (i := 17)
            · simp only [List.getElem?_toArray]; rfl
            · kernel_rfl
            · kernel_rfl
            · kernel_rfl
            · exact fun _ _ _ h => h
            · exact Or.inl ⟨by rfl, by intro w hSw; go_simp; try with_reducible rfl⟩
            · assumption
            try simp only [Act.put, List.setIfInBounds_toArray, List.set_cons_zero, List.set_cons_succ]
            apply wpAnyH_ready (rs := [18])
            · kernel_rfl
            · simp
            apply AllReadyH.cons (hs := AllReadyH.nil)
            · simp only [List.getElem?_toArray]; rfl
            intro K hK
            rw [if_pos (by rfl)]
            refine wp_putN rfl (g := gz) (old := ⟨0, 0⟩) ⟨0, 0⟩ rfl rfl HB2.out (fun z3 hz3 hk => ?_)
            have HB3 := Lib.hid hz3
            have HZ3 := Lib.hid (HZ2.out.trans hk (fun q hq => .inr (by have := HG2.out; simp at hq; omega)))
            clear hz3 hk
            refine hK.out _ _ ?_ (fun hHeld => ?_)
            · exact (by rw [HSE.out]; exact HZ3.out)
            clear hK K
            try simp only [Act.put, List.setIfInBounds_toArray, List.set_cons_zero, List.set_cons_succ]
            apply wpAnyH_take (i := 19)
            · simp only [List.getElem?_toArray]; rfl
            · kernel_rfl
            · kernel_rfl
            · kernel_rfl
            · exact fun _ _ _ h => h
            · exact Or.inl ⟨by rfl, by intro w hSw; go_simp; try with_reducible rfl⟩
            · assumption
            try simp only [Act.put, List.setIfInBounds_toArray, List.set_cons_zero, List.set_cons_succ]
            refine wpAnyH_done (by kernel_rfl) ?_ _
            refine NoPanic.normal ?_
            clear HZ2 HB2
            have HKF := Lib.hid (HKW.out.trans HZ3.out (FSub.refl _ _))
            have d2 : z3.cell? ⟨gz, 0, none⟩ = some (.int .u8 0) := cell_lit HB3.out 0 rfl
            have d3 : z3.cell? ⟨gz, 1, none⟩ = some (.int .u16 0) := cell_lit HB3.out 1 rfl
            clear HB3
            go_wp2_with fail
            go_roundw
            case rel => exact ⟨k + 1, st, h, by go_num, by omega, rfl, rfl, HST.out.1, HST.out.2.1, HST.out.2.2, HKF.out⟩
            case measure => simp [intOf]; omega
          apply AllReadyH.cons (hs := AllReadyH.nil)
          · simp only [List.getElem?_toArray]; rfl
          intro K hK
          rw [if_pos (by rfl)]
          refine wp_allocA _ _ _ _ rfl ?_
          have HZ1 := Lib.hid (((Keeps.refl [] wr).drew).alloc (.cells (ansC ⟨0, 0⟩).toArray 27))
          have HB1 := Lib.hid (show (wr.drew.alloc (.cells (ansC ⟨0, 0⟩).toArray 27)).heap[wr.heap.size]? = some (.cells (ansC ⟨0, 0⟩).toArray 27 (0, 0)) from heap_alloc_new wr.drew _)
          have HGE := Lib.hid (show wr.drew.heap.size = wr.heap.size from rfl)
          rw [HGE.out]
          generalize wr.drew.alloc (.cells (ansC ⟨0, 0⟩).toArray 27) = z1 at *
          refine hK.out _ _ ?_ (fun hHeld => ?_)
          · exact (by rw [HSE.out]; exact HZ1.out)
          clear hK K
          try simp only [Act.put, List.setIfInBounds_toArray, List.set_cons_zero, List.set_cons_succ]
          apply wpAnyH_ready (rs := [11])
          · kernel_rfl
          · simp
          apply AllReadyH.cons (hs := AllReadyH.nil)
          · simp only [List.getElem?_toArray]; rfl
          intro K hK
          rw [if_pos (by rfl)]
          refine wp_call9 10 _ _ rfl [.int .u8 st, .int .u8 y.c, y.x.val] rfl Tryd.func10 (by kernel_rfl) (by kernel_rfl) ((HC12.out _ HZ1.out).mono ?_)
          rintro e z2 ⟨rfl, hk⟩
          refine ⟨_, rfl, ?_⟩
          have HZ2 := Lib.hid (HZ1.out.trans hk (FSub.refl _ _))
          have HB2 := Lib.hid (hk.heap HB1.out (by simp))
          clear hk HB1 HGE
          obtain ⟨gz, hgz⟩ : ∃ gz, gz = wr.heap.size := ⟨_, rfl⟩
          rw [← hgz] at HB2 ⊢
          have HG2 := Lib.hid (show wr.heap.size ≤ gz from Nat.le_of_eq hgz.symm)
          clear hgz
          refine hK.out _ _ ?_ (fun hHeld => ?_)
          · exact (by rw [HSE.out]; exact HZ2.out)
          clear hK K
          try simp only [Act.put, List.setIfInBounds_toArray, List.set_cons_zero, List.set_cons_succ]
          apply wpAnyH_take (i := 12)
          · simp only [List.getElem?_toArray]; rfl
          · kernel_rfl
          · kernel_rfl
          · kernel_rfl
          · exact fun _ _ _ h => h
          · exact Or.inl ⟨by rfl, by intro w hSw; go_simp; try with_reducible rfl⟩
          · assumption
          try simp only [Act.put, List.setIfInBounds_toArray, List.set_cons_zero, List.set_cons_succ]
          apply wpAnyH_take (i := 13)
          · simp only [List.getElem?_toArray]; rfl
          · kernel_rfl
          · kernel_rfl
          · kernel_rfl
          · exact fun _ _ _ h => h
          · exact Or.inl ⟨by rfl, by intro w hSw; go_simp; try with_reducible rfl⟩
          · assumption
          try simp only [Act.put, List.setIfInBounds_toArray, List.set_cons_zero, List.set_cons_succ]
          apply wpAnyH_take (i := 14)
          · simp only [List.getElem?_toArray]; rfl
          · kernel_rfl
          · kernel_rfl
          · kernel_rfl
          · exact fun _ _ _ h => h
          · exact Or.inl ⟨by rfl, by intro w hSw; go_simp; try with_reducible rfl⟩
          · assumption
          try simp only [Act.put, List.setIfInBounds_toArray, List.set_cons_zero, List.set_cons_succ]
          apply wpAnyH_take (i := 15)
          · simp only [List.getElem?_toArray]; rfl
          · kernel_rfl
          · kernel_rfl
          · kernel_rfl
          · exact fun _ _ _ h => h
          · exact Or.inl ⟨by rfl, by intro w hSw; go_simp; try with_reducible rfl⟩
          · assumption
          try simp only [Act.put, List.setIfInBounds_toArray, List.set_cons_zero, List.set_cons_succ]
          apply wpAnyH_take (i := 17)
          · simp only [List.getElem?_toArray]; rfl
          · kernel_rfl
          · kernel_rfl
          · kernel_rfl
          · exact fun _ _ _ h => h
          · exact Or.inl ⟨by rfl, by intro w hSw; go_simp; try with_reducible rfl⟩
          · assumption
          try simp only [Act.put, List.setIfInBounds_toArray, List.set_cons_zero, List.set_cons_succ]
          apply wpAnyH_ready (rs := [18])
          · kernel_rfl
          · simp
          apply AllReadyH.cons (hs := AllReadyH.nil)
          · simp only [List.getElem?_toArray]; rfl
          intro K hK
          rw [if_pos (by rfl)]
          refine wp_putN rfl (g := gz) (old := ⟨0, 0⟩) ⟨0, 0⟩ rfl rfl HB2.out (fun z3 hz3 hk => ?_)
          have HB3 := Lib.hid hz3
          have HZ3 := Lib.hid (HZ2.out.trans hk (fun q hq => .inr (by have := HG2.out; simp at hq; omega)))
          clear hz3 hk
          refine hK.out _ _ ?_ (fun hHeld => ?_)
          · exact (by rw [HSE.out]; exact HZ3.out)
          clear hK K
          try simp only [Act.put, List.setIfInBounds_toArray, List.set_cons_zero, List.set_cons_succ]
          apply wpAnyH_take (i := 19)
          · simp only [List.getElem?_toArray]; rfl
          · kernel_rfl
          · kernel_rfl
          · kernel_rfl
          · exact fun _ _ _ h => h
          · exact Or.inl ⟨by rfl, by intro w hSw; go_simp; try with_reducible rfl⟩
          · assumption
          try simp only [Act.put, List.setIfInBounds_toArray, List.set_cons_zero, List.set_cons_succ]
          refine wpAnyH_done (by kernel_rfl) ?_ _
          refine NoPanic.normal ?_
          clear HZ2 HB2
          have HKF := Lib.hid (HKW.out.trans HZ3.out (FSub.refl _ _))
          have d2 : z3.cell? ⟨gz, 0, none⟩ = some (.int .u8 0) := cell_lit HB3.out 0 rfl
          have d3 : z3.cell? ⟨gz, 1, none⟩ = some (.int .u16 0) := cell_lit HB3.out 1 rfl
          clear HB3
          go_wp2_with fail
          go_roundw
          case rel => exact ⟨k + 1, st, h, by go_num, by omega, rfl, rfl, HST.out.1, HST.out.2.1, HST.out.2.2, HKF.out⟩
          case measure => simp [intOf]; omega
        · rw [hw.2.2] at HC12
          have q1 : (st != st) = false := by simp
          clear hw hs0 hs1 hh
          refine wp_region_noPanic ?_
          refine wp_region_held_drew (S := S) (by kernel_rfl) hSD (fun hHeld => ?_)
          apply wpAnyH_take (i := 0)
          · simp only [List.getElem?_toArray]; rfl
          · kernel_rfl
          · kernel_rfl
          · kernel_rfl
          · exact fun _ _ _ h => h
          · exact Or.inl ⟨by rfl, by intro w hSw; go_simp; try with_reducible rfl⟩
          · assumption
          try simp only [Act.put, List.setIfInBounds_toArray, List.set_cons_zero, List.set_cons_succ]
          apply wpAnyH_take (i := 1)
          · simp only [List.getElem?_toArray]; rfl
          · kernel_rfl
          · kernel_rfl
          · kernel_rfl
          · exact fun _ _ _ h => h
          · exact Or.inl ⟨by rfl, by intro w hSw; go_simp; try with_reducible rfl⟩
          · assumption
          try simp only [Act.put, List.setIfInBounds_toArray, List.set_cons_zero, List.set_cons_succ]
          apply wpAnyH_take (i := 2)
          · simp only [List.getElem?_toArray]; rfl
          · kernel_rfl
          · kernel_rfl
          · kernel_rfl
          · exact fun _ _ _ h => h
          · exact Or.inl ⟨by rfl, by intro w hSw; go_simp; try with_reducible rfl⟩
          · assumption
          try simp only [Act.put, List.setIfInBounds_toArray, List.set_cons_zero, List.set_cons_succ]
          apply wpAnyH_take (i := 3)
          · simp only [List.getElem?_toArray]; rfl
          · kernel_rfl
          · kernel_rfl
          · kernel_rfl
          · exact fun _ _ _ h => h
          · exact yields_indexCl rfl _ _ rfl g o n cp k rfl rfl hlt
          · assumption
          try simp only [Act.put, List.setIfInBounds_toArray, List.set_cons_zero, List.set_cons_succ]
          apply wpAnyH_take (i := 4)
          · simp only [List.getElem?_toArray]; rfl
          · kernel_rfl
          · kernel_rfl
          · kernel_rfl
          · exact fun _ _ _ h => h
          · exact Or.inl ⟨by rfl, by intro w hSw; go_simp; try with_reducible rfl⟩
          · assumption
          try simp only [Act.put, List.setIfInBounds_toArray, List.set_cons_zero, List.set_cons_succ]
          apply wpAnyH_take (i := 5)
          · simp only [List.getElem?_toArray]; rfl
          · kernel_rfl
          · kernel_rfl
          · kernel_rfl
          · exact fun _ _ _ h => h
          · exact Or.inl ⟨by rfl, by intro w hSw; have q0 := HS0.out w hSw; go_simp; try with_reducible rfl⟩
          · assumption
          try simp only [Act.put, List.setIfInBounds_toArray, List.set_cons_zero, List.set_cons_succ]
          apply wpAnyH_take (i := 6)
          · simp only [List.getElem?_toArray]; rfl
          · kernel_rfl
          · kernel_rfl
          · kernel_rfl
          · exact fun _ _ _ h => h
          · exact Or.inl ⟨by rfl, by intro w hSw; go_simp; try with_reducible rfl⟩
          · assumption
          try simp only [Act.put, List.setIfInBounds_toArray, List.set_cons_zero, List.set_cons_succ]
          apply wpAnyH_take (i := 7)
          · simp only [List.getElem?_toArray]; rfl
          · kernel_rfl
          · kernel_rfl
          · kernel_rfl
          · exact fun _ _ _ h => h
          · exact Or.inl ⟨by rfl, by intro w hSw; go_simp; try with_reducible rfl⟩
          · assumption
          try simp only [Act.put, List.setIfInBounds_toArray, List.set_cons_zero, List.set_cons_succ]
          apply wpAnyH_take (i := 8)
          · simp only [List.getElem?_toArray]; rfl
          · kernel_rfl
          · kernel_rfl
          · kernel_rfl
          · exact fun _ _ _ h => h
          · exact yields_indexCl rfl _ _ rfl g o n cp k rfl rfl hlt
          · assumption
          try simp only [Act.put, List.setIfInBounds_toArray, List.set_cons_zero, List.set_cons_succ]
          apply wpAnyH_take (i := 9)
          · simp only [List.getElem?_toArray]; rfl
          · kernel_rfl
          · kernel_rfl
          · kernel_rfl
          · exact fun _ _ _ h => h
          · exact Or.inl ⟨by rfl, by intro w hSw; go_simp; try with_reducible rfl⟩
          · assumption
          try simp only [Act.put, List.setIfInBounds_toArray, List.set_cons_zero, List.set_cons_succ]
          apply wpAnyH_take (i := 10)
          · simp only [List.getElem?_toArray]; rfl
          · kernel_rfl
          · kernel_rfl
          · kernel_rfl
          · exact fun _ _ _ h => h
          · exact yields_loadP y.x rfl _ rfl g _ rfl HS1.out
          · assumption
          try simp only [Act.put, List.setIfInBounds_toArray, List.set_cons_zero, List.set_cons_succ]
          apply wpAnyH_ready (rs := [11, 16])
          · kernel_rfl
          · simp
          apply AllReadyH.cons
          · simp only [List.getElem?_toArray]; rfl
          · intro K hK
            rw [if_pos (by rfl)]
            refine wp_call9 10 _ _ rfl [.int .u8 st, .int .u8 y.c, y.x.val] rfl Tryd.func10 (by kernel_rfl) (by kernel_rfl) ((HC12.out _ ((Keeps.refl [] wr).drew)).mono ?_)
            rintro e z1 ⟨rfl, hk⟩
            refine ⟨_, rfl, ?_⟩
            have HZ1 := Lib.hid (((Keeps.refl [] wr).drew).trans hk (FSub.refl _ _))
            clear hk
            refine hK.out _ _ ?_ (fun hHeld => ?_)
            · exact (by rw [HSE.out]; exact HZ1.out)
            clear hK K
            try simp only [Act.put, List.setIfInBounds_toArray, List.set_cons_zero, List.set_cons_succ]
            apply wpAnyH_take (i := 12)
            · simp only [List.getElem?_toArray]; rfl
            · kernel_rfl
            · kernel_rfl
            · kernel_rfl
            · exact fun _ _ _ h => h
            · exact Or.inl ⟨by rfl, by intro w hSw; go_simp; try with_reducible rfl⟩
            · assumption
            try simp only [Act.put, List.setIfInBounds_toArray, List.set_cons_zero, List.set_cons_succ]
            apply wpAnyH_take (i := 13)
            · simp only [List.getElem?_toArray]; rfl
            · kernel_rfl
            · kernel_rfl
            · kernel_rfl
            · exact fun _ _ _ h => h
            · exact Or.inl ⟨by rfl, by intro w hSw; go_simp; try with_reducible rfl⟩
            · assumption
            try simp only [Act.put, List.setIfInBounds_toArray, List.set_cons_zero, List.set_cons_succ]
            apply wpAnyH_take (i := 14)
            · simp only [List.getElem?_toArray]; rfl
            · kernel_rfl
            · kernel_rfl
            · kernel_rfl
            · exact fun _ _ _ h => h
            · exact Or.inl ⟨by rfl, by intro w hSw; go_simp; try with_reducible rfl⟩
            · assumption
            try simp only [Act.put, List.setIfInBounds_toArray, List.set_cons_zero, List.set_cons_succ]
            apply wpAnyH_take (i := 15)
            · simp only [List.getElem?_toArray]; rfl
            · kernel_rfl
            · kernel_rfl
            · kernel_rfl
            · exact fun _ _ _ h => h
            · exact Or.inl ⟨by rfl, by intro w hSw; go_simp; try with_reducible rfl⟩
            · assumption
            try simp only [Act.put, List.setIfInBounds_toArray, List.set_cons_zero, List.set_cons_succ]
            apply wpAnyH_ready (rs := [16])
            · kernel_rfl
            · simp
            apply AllReadyH.cons (hs := AllReadyH.nil)
            · simp only [List.getElem?_toArray]; rfl
            intro K hK
            rw [if_pos (by rfl)]
            refine wp_allocA _ _ _ _ rfl ?_
            have HZ2 := Lib.hid (HZ1.out.alloc (.cells (ansC ⟨0, 0⟩).toArray 27))
            have HB2 := Lib.hid (heap_alloc_new z1 (.cells (ansC ⟨0, 0⟩).toArray 27))
            have HG2 := Lib.hid HZ1.out.size
            generalize z1.alloc (.cells (ansC ⟨0, 0⟩).toArray 27) = z2 at *
            generalize z1.heap.size = gz at *
            refine hK.out _ _ ?_ (fun hHeld => ?_)
            · exact (by rw [HSE.out]; exact HZ2.out)
            clear hK K
            try simp only [Act.put, List.setIfInBounds_toArray, List.set_cons_zero, List.set_cons_succ]
            apply wpAnyH_take (i := 17)
            · simp only [List.getElem?_toArray]; rfl
            · kernel_rfl
            · kernel_rfl
            · kernel_rfl
            · exact fun _ _ _ h => h
            · exact Or.inl ⟨by rfl, by intro w hSw; go_simp; try with_reducible rfl⟩
            · assumption
            try simp only [Act.put, List.setIfInBounds_toArray, List.set_cons_zero, List.set_cons_succ]
            apply wpAnyH_ready (rs := [18])
            · kernel_rfl
            · simp
            apply AllReadyH.cons (hs := AllReadyH.nil)
            · simp only [List.getElem?_toArray]; rfl
            intro K hK
            rw [if_pos (by rfl)]
            refine wp_putN rfl (g := gz) (old := ⟨0, 0⟩) ⟨0, 0⟩ rfl rfl HB2.out (fun z3 hz3 hk => ?_)
            have HB3 := Lib.hid hz3
            have HZ3 := Lib.hid (HZ2.out.trans hk (fun q hq => .inr (by have := HG2.out; simp at hq; omega)))
            clear hz3 hk
            refine hK.out _ _ ?_ (fun hHeld => ?_)
            · exact (by rw [HSE.out]; exact HZ3.out)
            clear hK K
            try simp only [Act.put, List.setIfInBounds_toArray, List.set_cons_zero, List.set_cons_succ]
            apply wpAnyH_take (i := 19)
            · simp only [List.getElem?_toArray]; rfl
            · kernel_rfl
            · kernel_rfl
            · kernel_rfl
            · exact fun _ _ _ h => h
            · exact Or.inl ⟨by rfl, by intro w hSw; go_simp; try with_reducible rfl⟩
            · assumption
            try simp only [Act.put, List.setIfInBounds_toArray, List.set_cons_zero, List.set_cons_succ]
            refine wpAnyH_done (by kernel_rfl) ?_ _
            refine NoPanic.normal ?_
            clear HZ2 HB2
            have HKF := Lib.hid (HKW.out.trans HZ3.out (FSub.refl _ _))
            have d2 : z3.cell? ⟨gz, 0, none⟩ = some (.int .u8 0) := cell_lit HB3.out 0 rfl
            have d3 : z3.cell? ⟨gz, 1, none⟩ = some (.int .u16 0) := cell_lit HB3.out 1 rfl
            clear HB3
            go_wp2_with fail
            go_roundw
            case rel => exact ⟨k + 1, st, h, by go_num, by omega, rfl, rfl, HST.out.1, HST.out.2.1, HST.out.2.2, HKF.out⟩
            case measure => simp [intOf]; omega
          apply AllReadyH.cons (hs := AllReadyH.nil)
          · simp only [List.getElem?_toArray]; rfl
          intro K hK
          rw [if_pos (by rfl)]
          refine wp_allocA _ _ _ _ rfl ?_
          have HZ1 := Lib.hid (((Keeps.refl [] wr).drew).alloc (.cells (ansC ⟨0, 0⟩).toArray 27))
          have HB1 := Lib.hid (show (wr.drew.alloc (.cells (ansC ⟨0, 0⟩).toArray 27)).heap[wr.heap.size]? = some (.cells (ansC ⟨0, 0⟩).toArray 27 (0, 0)) from heap_alloc_new wr.drew _)
          have HGE := Lib.hid (show wr.drew.heap.size = wr.heap.size from rfl)
          rw [HGE.out]
          generalize wr.drew.alloc (.cells (ansC ⟨0, 0⟩).toArray 27) = z1 at *
          refine hK.out _ _ ?_ (fun hHeld => ?_)
          · exact (by rw [HSE.out]; exact HZ1.out)
          clear hK K
          try simp only [Act.put, List.setIfInBounds_toArray, List.set_cons_zero, List.set_cons_succ]
          apply wpAnyH_ready (rs := [11])
          · kernel_rfl
          · simp
          apply AllReadyH.cons (hs := AllReadyH.nil)
          · simp only [List.getElem?_toArray]; rfl
          intro K hK
          rw [if_pos (by rfl)]
          refine wp_call9 10 _ _ rfl [.int .u8 st, .int .u8 y.c, y.x.val] rfl Tryd.func10 (by kernel_rfl) (by kernel_rfl) ((HC12.out _ HZ1.out).mono ?_)
          rintro e z2 ⟨rfl, hk⟩
          refine ⟨_, rfl, ?_⟩
          have HZ2 := Lib.hid (HZ1.out.trans hk (FSub.refl _ _))
          have HB2 := Lib.hid (hk.heap HB1.out (by simp))
          clear hk HB1 HGE
          obtain ⟨gz, hgz⟩ : ∃ gz, gz = wr.heap.size := ⟨_, rfl⟩
          rw [← hgz] at HB2 ⊢
          have HG2 := Lib.hid (show wr.heap.size ≤ gz from Nat.le_of_eq hgz.symm)
          clear hgz
          refine hK.out _ _ ?_ (fun hHeld => ?_)
          · exact (by rw [HSE.out]; exact HZ2.out)
          clear hK K
          try simp only [Act.put, List.setIfInBounds_toArray, List.set_cons_zero, List.set_cons_succ]
          apply wpAnyH_take (i := 12)
          · simp only [List.getElem?_toArray]; rfl
          · kernel_rfl
          · kernel_rfl
          · kernel_rfl
          · exact fun _ _ _ h => h
          · exact Or.inl ⟨by rfl, by intro w hSw; go_simp; try with_reducible rfl⟩
          · assumption
          try simp only [Act.put, List.setIfInBounds_toArray, List.set_cons_zero, List.set_cons_succ]
          apply wpAnyH_take (i := 13)
          · simp only [List.getElem?_toArray]; rfl
          · kernel_rfl
          · kernel_rfl
          · kernel_rfl
          · exact fun _ _ _ h => h
          · exact Or.inl ⟨by rfl, by intro w hSw; go_simp; try with_reducible rfl⟩
          · assumption
          try simp only [Act.put, List.setIfInBounds_toArray, List.set_cons_zero, List.set_cons_succ]
          apply wpAnyH_take (i := 14)
          · simp only [List.getElem?_toArray]; rfl
          · kernel_rfl
          · kernel_rfl
          · kernel_rfl
          · exact fun _ _ _ h => h
          · exact Or.inl ⟨by rfl, by intro w hSw; go_simp; try with_reducible rfl⟩
          · assumption
          try simp only [Act.put, List.setIfInBounds_toArray, List.set_cons_zero, List.set_cons_succ]
          apply wpAnyH_take (i := 15)
          · simp only [List.getElem?_toArray]; rfl
          · kernel_rfl
          · kernel_rfl
          · kernel_rfl
          · exact fun _ _ _ h => h
          · exact Or.inl ⟨by rfl, by intro w hSw; go_simp; try with_reducible rfl⟩
          · assumption
          try simp only [Act.put, List.setIfInBounds_toArray, List.set_cons_zero, List.set_cons_succ]
          apply wpAnyH_take (i := 17)
          · simp only [List.getElem?_toArray]; rfl
          · kernel_rfl
          · kernel_rfl
          · kernel_rfl
          · exact fun _ _ _ h => h
          · exact Or.inl ⟨by rfl, by intro w hSw; go_simp; try with_reducible rfl⟩
          · assumption
          try simp only [Act.put, List.setIfInBounds_toArray, List.set_cons_zero, List.set_cons_succ]
          apply wpAnyH_ready (rs := [18])
          · kernel_rfl
          · simp
          apply AllReadyH.cons (hs := AllReadyH.nil)
          · simp only [List.getElem?_toArray]; rfl
          intro K hK
          rw [if_pos (by rfl)]
          refine wp_putN rfl (g := gz) (old := ⟨0, 0⟩) ⟨0, 0⟩ rfl rfl HB2.out (fun z3 hz3 hk => ?_)
          have HB3 := Lib.hid hz3
          have HZ3 := Lib.hid (HZ2.out.trans hk (fun q hq => .inr (by have := HG2.out; simp at hq; omega)))
          clear hz3 hk
          refine hK.out _ _ ?_ (fun hHeld => ?_)
          · exact (by rw [HSE.out]; exact HZ3.out)
          clear hK K
          try simp only [Act.put, List.setIfInBounds_toArray, List.set_cons_zero, List.set_cons_succ]
          apply wpAnyH_take (i := 19)
          · simp only [List.getElem?_toArray]; rfl
          · kernel_rfl
          · kernel_rfl
          · kernel_rfl
          · exact fun _ _ _ h => h
          · exact Or.inl ⟨by rfl, by intro w hSw; go_simp; try with_reducible rfl⟩
          · assumption
          try simp only [Act.put, List.setIfInBounds_toArray, List.set_cons_zero, List.set_cons_succ]
          refine wpAnyH_done (by kernel_rfl) ?_ _
          refine NoPanic.normal ?_
          clear HZ2 HB2
          have HKF := Lib.hid (HKW.out.trans HZ3.out (FSub.refl _ _))
          have d2 : z3.cell? ⟨gz, 0, none⟩ = some (.int .u8 0) := cell_lit HB3.out 0 rfl
          have d3 : z3.cell? ⟨gz, 1, none⟩ = some (.int .u16 0) := cell_lit HB3.out 1 rfl
          clear HB3
          go_wp2_with fail
          go_roundw
          case rel => exact ⟨k + 1, st, h, by go_num, by omega, rfl, rfl, HST.out.1, HST.out.2.1, HST.out.2.2, HKF.out⟩
          case measure => simp [intOf]; omega
        · rw [hw.2.2.2.2.2] at HC12
          have f10 : (y.x.f == 10) = true := by simpa using hw.2.2.2.1
          have f11 : (y.x.f == 11) = false := by simp; omega
          have qh : decide (0 ≤ h) = false := decide_eq_false (by omega)
          have e1 : lkWho (y.c + 1) = y.c := by have := HCI.out; unfold lkWho; rw [if_pos (by omega)]; omega
          have e2 : lkHeld (y.c + 1) = true := decide_eq_true (by have := HCI.out; omega)
          have HH := Lib.hid (fun W => e1 ▸ e2 ▸ HHO.out W (y.c + 1) (by have := HCI.out; omega) (by have := HCI.out; omega))
          have HCL := Lib.hid (show y.c ≤ 15 from hw.2.1)
          have qd : decide (0 ≤ y.c) = true := decide_eq_true HCI.out.1
          have qe : (y.c != y.c) = false := by simp
          clear hw hs0 hs1 hh e1 e2 HHO
          refine wp_region_noPanic ?_
          refine wp_region_held_drew (S := S) (by kernel_rfl) hSD (fun hHeld => ?_)
          apply wpAnyH_take (i := 0)
          · simp only [List.getElem?_toArray]; rfl
          · kernel_rfl
          · kernel_rfl
          · kernel_rfl
          · exact fun _ _ _ h => h
          · exact Or.inl ⟨by rfl, by intro w hSw; go_simp; try with_reducible rfl⟩
          · assumption
          try simp only [Act.put, List.setIfInBounds_toArray, List.set_cons_zero, List.set_cons_succ]
          apply wpAnyH_take (i := 1)
          · simp only [List.getElem?_toArray]; rfl
          · kernel_rfl
          · kernel_rfl
          · kernel_rfl
          · exact fun _ _ _ h => h
          · exact Or.inl ⟨by rfl, by intro w hSw; go_simp; try with_reducible rfl⟩
          · assumption
          try simp only [Act.put, List.setIfInBounds_toArray, List.set_cons_zero, List.set_cons_succ]
          apply wpAnyH_take (i := 2)
          · simp only [List.getElem?_toArray]; rfl
          · kernel_rfl
          · kernel_rfl
          · kernel_rfl
          · exact fun _ _ _ h => h
          · exact Or.inl ⟨by rfl, by intro w hSw; go_simp; try with_reducible rfl⟩
          · assumption
          try simp only [Act.put, List.setIfInBounds_toArray, List.set_cons_zero, List.set_cons_succ]
          apply wpAnyH_take (i := 3)
          · simp only [List.getElem?_toArray]; rfl
          · kernel_rfl
          · kernel_rfl
          · kernel_rfl
          · exact fun _ _ _ h => h
          · exact yields_indexCl rfl _ _ rfl g o n cp k rfl rfl hlt
          · assumption
          try simp only [Act.put, List.setIfInBounds_toArray, List.set_cons_zero, List.set_cons_succ]
          apply wpAnyH_take (i := 4)
          · simp only [List.getElem?_toArray]; rfl
          · kernel_rfl
          · kernel_rfl
          · kernel_rfl
          · exact fun _ _ _ h => h
          · exact Or.inl ⟨by rfl, by intro w hSw; go_simp; try with_reducible rfl⟩
          · assumption
          try simp only [Act.put, List.setIfInBounds_toArray, List.set_cons_zero, List.set_cons_succ]
          apply wpAnyH_take (i := 5)
          · simp only [List.getElem?_toArray]; rfl
          · kernel_rfl
          · kernel_rfl
          · kernel_rfl
          · exact fun _ _ _ h => h
          · exact Or.inl ⟨by rfl, by intro w hSw; have q0 := HS0.out w hSw; go_simp; try with_reducible rfl⟩
          · assumption
          try simp only [Act.put, List.setIfInBounds_toArray, List.set_cons_zero, List.set_cons_succ]
          apply wpAnyH_take (i := 6)
          · simp only [List.getElem?_toArray]; rfl
          · kernel_rfl
          · kernel_rfl
          · kernel_rfl
          · exact fun _ _ _ h => h
          · exact Or.inl ⟨by rfl, by intro w hSw; go_simp; try with_reducible rfl⟩
          · assumption
          try simp only [Act.put, List.setIfInBounds_toArray, List.set_cons_zero, List.set_cons_succ]
          apply wpAnyH_take (i := 7)
          · simp only [List.getElem?_toArray]; rfl
          · kernel_rfl
          · kernel_rfl
          · kernel_rfl
          · exact fun _ _ _ h => h
          · exact Or.inl ⟨by rfl, by intro w hSw; go_simp; try with_reducible rfl⟩
          · assumption
          try simp only [Act.put, List.setIfInBounds_toArray, List.set_cons_zero, List.set_cons_succ]
          apply wpAnyH_take (i := 8)
          · simp only [List.getElem?_toArray]; rfl
          · kernel_rfl
          · kernel_rfl
          · kernel_rfl
          · exact fun _ _ _ h => h
          · exact yields_indexCl rfl _ _ rfl g o n cp k rfl rfl hlt
          · assumption
          try simp only [Act.put, List.setIfInBounds_toArray, List.set_cons_zero, List.set_cons_succ]
          apply wpAnyH_take (i := 9)
          · simp only [List.getElem?_toArray]; rfl
          · kernel_rfl
          · kernel_rfl
          · kernel_rfl
          · exact fun _ _ _ h => h
          · exact Or.inl ⟨by rfl, by intro w hSw; go_simp; try with_reducible rfl⟩
          · assumption
          try simp only [Act.put, List.setIfInBounds_toArray, List.set_cons_zero, List.set_cons_succ]
          apply wpAnyH_take (i := 10)
          · simp only [List.getElem?_toArray]; rfl
          · kernel_rfl
          · kernel_rfl
          · kernel_rfl
          · exact fun _ _ _ h => h
          · exact yields_loadP y.x rfl _ rfl g _ rfl HS1.out
          · assumption
          try simp only [Act.put, List.setIfInBounds_toArray, List.set_cons_zero, List.set_cons_succ]
          apply wpAnyH_ready (rs := [11, 16])
          · kernel_rfl
          · simp
          apply AllReadyH.cons
          · simp only [List.getElem?_toArray]; rfl
          · intro K hK
            rw [if_pos (by rfl)]
            refine wp_call9 10 _ _ rfl [.int .u8 st, .int .u8 y.c, y.x.val] rfl Tryd.func10 (by kernel_rfl) (by kernel_rfl) ((HC12.out _ ((Keeps.refl [] wr).drew)).mono ?_)
            rintro e z1 ⟨rfl, hk⟩
            refine ⟨_, rfl, ?_⟩
            have HZ1 := Lib.hid (((Keeps.refl [] wr).drew).trans hk (FSub.refl _ _))
            clear hk
            refine hK.out _ _ ?_ (fun hHeld => ?_)
            · exact (by rw [HSE.out]; exact HZ1.out)
            clear hK K
            try simp only [Act.put, List.setIfInBounds_toArray, List.set_cons_zero, List.set_cons_succ]
            apply wpAnyH_take (i := 12)
            · simp only [List.getElem?_toArray]; rfl
            · kernel_rfl
            · kernel_rfl
            · kernel_rfl
            · exact fun _ _ _ h => h
            · exact Or.inl ⟨by rfl, by intro w hSw; go_simp; try with_reducible rfl⟩
            · assumption
            try simp only [Act.put, List.setIfInBounds_toArray, List.set_cons_zero, List.set_cons_succ]
            apply wpAnyH_take (i := 13)
            · simp only [List.getElem?_toArray]; rfl
            · kernel_rfl
            · kernel_rfl
            · kernel_rfl
            · exact fun _ _ _ h => h
            · exact Or.inl ⟨by rfl, by intro w hSw; go_simp; try with_reducible rfl⟩
            · assumption
            try simp only [Act.put, List.setIfInBounds_toArray, List.set_cons_zero, List.set_cons_succ]
            apply wpAnyH_take (i := 14)
            · simp only [List.getElem?_toArray]; rfl
            · kernel_rfl
            · kernel_rfl
            · kernel_rfl
            · exact fun _ _ _ h => h
            · exact Or.inl ⟨by rfl, by intro w hSw; go_simp; try with_reducible rfl⟩
            · assumption
            try simp only [Act.put, List.setIfInBounds_toArray, List.set_cons_zero, List.set_cons_succ]
            apply wpAnyH_take (i := 15)
            · simp only [List.getElem?_toArray]; rfl
            · kernel_rfl
            · kernel_rfl
            · kernel_rfl
            · exact fun _ _ _ h => h
            · exact Or.inl ⟨by rfl, by intro w hSw; go_simp; try with_reducible rfl⟩
            · assumption
            try simp only [Act.put, List.setIfInBounds_toArray, List.set_cons_zero, List.set_cons_succ]
            apply wpAnyH_ready (rs := [16])
            · kernel_rfl
            · simp
            apply AllReadyH.cons (hs := AllReadyH.nil)
            · simp only [List.getElem?_toArray]; rfl
            intro K hK
            rw [if_pos (by rfl)]
            refine wp_allocA _ _ _ _ rfl ?_
            have HZ2 := Lib.hid (HZ1.out.alloc (.cells (ansC ⟨0, 0⟩).toArray 27))
            have HB2 := Lib.hid (heap_alloc_new z1 (.cells (ansC ⟨0, 0⟩).toArray 27))
            have HG2 := Lib.hid HZ1.out.size
            generalize z1.alloc (.cells (ansC ⟨0, 0⟩).toArray 27) = z2 at *
            generalize z1.heap.size = gz at *
            refine hK.out _ _ ?_ (fun hHeld => ?_)
            · exact (by rw [HSE.out]; exact HZ2.out)
            clear hK K
            try simp only [Act.put, List.setIfInBounds_toArray, List.set_cons_zero, List.set_cons_succ]
            apply wpAnyH_take (i := 17)
            · simp only [List.getElem?_toArray]; rfl
            · kernel_rfl
            · kernel_rfl
            · kernel_rfl
            · exact fun _ _ _ h => h
            · exact Or.inl ⟨by rfl, by intro w hSw; go_simp; try with_reducible rfl⟩
            · assumption
            try simp only [Act.put, List.setIfInBounds_toArray, List.set_cons_zero, List.set_cons_succ]
            apply wpAnyH_ready (rs := [18])
            · kernel_rfl
            · simp
            apply AllReadyH.cons (hs := AllReadyH.nil)
            · simp only [List.getElem?_toArray]; rfl
            intro K hK
            rw [if_pos (by rfl)]
            refine wp_putN rfl (g := gz) (old := ⟨0, 0⟩) ⟨3, 0⟩ rfl rfl HB2.out (fun z3 hz3 hk => ?_)
            have HB3 := Lib.hid hz3
            have HZ3 := Lib.hid (HZ2.out.trans hk (fun q hq => .inr (by have := HG2.out; simp at hq; omega)))
            clear hz3 hk
            refine hK.out _ _ ?_ (fun hHeld => ?_)
            · exact (by rw [HSE.out]; exact HZ3.out)
            clear hK K
            try simp only [Act.put, List.setIfInBounds_toArray, List.set_cons_zero, List.set_cons_succ]
            apply wpAnyH_take (i := 19)
            · simp only [List.getElem?_toArray]; rfl
            · kernel_rfl
            · kernel_rfl
            · kernel_rfl
            · exact fun _ _ _ h => h
            · exact Or.inl ⟨by rfl, by intro w hSw; go_simp; try with_reducible rfl⟩
            · assumption
            try simp only [Act.put, List.setIfInBounds_toArray, List.set_cons_zero, List.set_cons_succ]
            refine wpAnyH_done (by kernel_rfl) ?_ _
            refine NoPanic.normal ?_
            clear HZ2 HB2
            have HKF := Lib.hid (HKW.out.trans HZ3.out (FSub.refl _ _))
            have d2 : z3.cell? ⟨gz, 0, none⟩ = some (.int .u8 3) := cell_lit HB3.out 0 rfl
            have d4 : z3.cell? ⟨g, o + k * 6, none⟩ = some (.int .u8 y.c) := HZ3.out.cell (cl_parts HRW.out).1 (by simp)
            have d5 : z3.cell? ⟨g, o + k * 6 + 1, none⟩ = some (.int .u8 y.x.f) := HZ3.out.cell ((cl_parts HRW.out).2 0 _ rfl) (by simp)
            clear HB3
            go_wp2_with fail
            refine (HH.out z3).mono ?_; rintro e y3 ⟨rfl, rfl⟩
            go_wp2_with fail
            go_roundw
            case rel => exact ⟨k + 1, y.c + 1, y.c, by go_num, by omega, rfl, rfl, by have := HCI.out; omega, by have := HCL.out; omega, by omega, HKF.out⟩
            case measure => simp [intOf]; omega
          apply AllReadyH.cons (hs := AllReadyH.nil)
          · simp only [List.getElem?_toArray]; rfl
          intro K hK
          rw [if_pos (by rfl)]
          refine wp_allocA _ _ _ _ rfl ?_
          have HZ1 := Lib.hid (((Keeps.refl [] wr).drew).alloc (.cells (ansC ⟨0, 0⟩).toArray 27))
          have HB1 := Lib.hid (show (wr.drew.alloc (.cells (ansC ⟨0, 0⟩).toArray 27)).heap[wr.heap.size]? = some (.cells (ansC ⟨0, 0⟩).toArray 27 (0, 0)) from heap_alloc_new wr.drew _)
          have HGE := Lib.hid (show wr.drew.heap.size = wr.heap.size from rfl)
          rw [HGE.out]
          generalize wr.drew.alloc (.cells (ansC ⟨0, 0⟩).toArray 27) = z1 at *
          refine hK.out _ _ ?_ (fun hHeld => ?_)
          · exact (by rw [HSE.out]; exact HZ1.out)
          clear hK K
          try simp only [Act.put, List.setIfInBounds_toArray, List.set_cons_zero, List.set_cons_succ]
          apply wpAnyH_ready (rs := [11])
          · kernel_rfl
          · simp
          apply AllReadyH.cons (hs := AllReadyH.nil)
          · simp only [List.getElem?_toArray]; rfl
          intro K hK
          rw [if_pos (by rfl)]
          refine wp_call9 10 _ _ rfl [.int .u8 st, .int .u8 y.c, y.x.val] rfl Tryd.func10 (by kernel_rfl) (by kernel_rfl) ((HC12.out _ HZ1.out).mono ?_)
          rintro e z2 ⟨rfl, hk⟩
          refine ⟨_, rfl, ?_⟩
          have HZ2 := Lib.hid (HZ1.out.trans hk (FSub.refl _ _))
          have HB2 := Lib.hid (hk.heap HB1.out (by simp))
          clear hk HB1 HGE
          obtain ⟨gz, hgz⟩ : ∃ gz, gz = wr.heap.size := ⟨_, rfl⟩
          rw [← hgz] at HB2 ⊢
          have HG2 := Lib.hid (show wr.heap.size ≤ gz from Nat.le_of_eq hgz.symm)
          clear hgz
          refine hK.out _ _ ?_ (fun hHeld => ?_)
          · exact (by rw [HSE.out]; exact HZ2.out)
          clear hK K
          try simp only [Act.put, List.setIfInBounds_toArray, List.set_cons_zero, List.set_cons_succ]
          apply wpAnyH_take (i := 12)
          · simp only [List.getElem?_toArray]; rfl
          · kernel_rfl
          · kernel_rfl
          · kernel_rfl
          · exact fun _ _ _ h => h
          · exact Or.inl ⟨by rfl, by intro w hSw; go_simp; try with_reducible rfl⟩
          · assumption
          try simp only [Act.put, List.setIfInBounds_toArray, List.set_cons_zero, List.set_cons_succ]
          apply wpAnyH_take (i := 13)
          · simp only [List.getElem?_toArray]; rfl
          · kernel_rfl
          · kernel_rfl
          · kernel_rfl
          · exact fun _ _ _ h => h
          · exact Or.inl ⟨by rfl, by intro w hSw; go_simp; try with_reducible rfl⟩
          · assumption
          try simp only [Act.put, List.setIfInBounds_toArray, List.set_cons_zero, List.set_cons_succ]
          apply wpAnyH_take (i := 14)
          · simp only [List.getElem?_toArray]; rfl
          · kernel_rfl
          · kernel_rfl
          · kernel_rfl
          · exact fun _ _ _ h => h
          · exact Or.inl ⟨by rfl, by intro w hSw; go_simp; try with_reducible rfl⟩
          · assumption
          try simp only [Act.put, List.setIfInBounds_toArray, List.set_cons_zero, List.set_cons_succ]
          apply wpAnyH_take (i := 15)
          · simp only [List.getElem?_toArray]; rfl
          · kernel_rfl
          · kernel_rfl
          · kernel_rfl
          · exact fun _ _ _ h => h
          · exact Or.inl ⟨by rfl, by intro w hSw; go_simp; try with_reducible rfl⟩
          · assumption
          try simp only [Act.put, List.setIfInBounds_toArray, List.set_cons_zero, List.set_cons_succ]
          apply wpAnyH_take (i := 17)
          · simp only [List.getElem?_toArray]; rfl
          · kernel_rfl
          · kernel_rfl
          · kernel_rfl
          · exact fun _ _ _ h => h
          · exact Or.inl ⟨by rfl, by intro w hSw; go_simp; try with_reducible rfl⟩
          · assumption
          try simp only [Act.put, List.setIfInBounds_toArray, List.set_cons_zero, List.set_cons_succ]
          apply wpAnyH_ready (rs := [18])
          · kernel_rfl
          · simp
          apply AllReadyH.cons (hs := AllReadyH.nil)
          · simp only [List.getElem?_toArray]; rfl
          intro K hK
          rw [if_pos (by rfl)]
          refine wp_putN rfl (g := gz) (old := ⟨0, 0⟩) ⟨3, 0⟩ rfl rfl HB2.out (fun z3 hz3 hk => ?_)
          have HB3 := Lib.hid hz3
          have HZ3 := Lib.hid (HZ2.out.trans hk (fun q hq => .inr (by have := HG2.out; simp at hq; omega)))
          clear hz3 hk
          refine hK.out _ _ ?_ (fun hHeld => ?_)
          · exact (by rw [HSE.out]; exact HZ3.out)
          clear hK K
          try simp only [Act.put, List.setIfInBounds_toArray, List.set_cons_zero, List.set_cons_succ]
          apply wpAnyH_take (i := 19)
          · simp only [List.getElem?_toArray]; rfl
          · kernel_rfl
          · kernel_rfl
          · kernel_rfl
          · exact fun _ _ _ h => h
          · exact Or.inl ⟨by rfl, by intro w hSw; go_simp; try with_reducible rfl⟩
          · assumption
          try simp only [Act.put, List.setIfInBounds_toArray, List.set_cons_zero, List.set_cons_succ]
          refine wpAnyH_done (by kernel_rfl) ?_ _
          refine NoPanic.normal ?_
          clear HZ2 HB2
          have HKF := Lib.hid (HKW.out.trans HZ3.out (FSub.refl _ _))
          have d2 : z3.cell? ⟨gz, 0, none⟩ = some (.int .u8 3) := cell_lit HB3.out 0 rfl
          have d4 : z3.cell? ⟨g, o + k * 6, none⟩ = some (.int .u8 y.c) := HZ3.out.cell (cl_parts HRW.out).1 (by simp)
          have d5 : z3.cell? ⟨g, o + k * 6 + 1, none⟩ = some (.int .u8 y.x.f) := HZ3.out.cell ((cl_parts HRW.out).2 0 _ rfl) (by simp)
          clear HB3
          go_wp2_with fail
          refine (HH.out z3).mono ?_; rintro e y3 ⟨rfl, rfl⟩
          go_wp2_with fail
          go_roundw
          case rel => exact ⟨k + 1, y.c + 1, y.c, by go_num, by omega, rfl, rfl, by have := HCI.out; omega, by have := HCL.out; omega, by omega, HKF.out⟩
          case measure => simp [intOf]; omega
        · rw [hw.2.2.2.2.2] at HC12
          have e1 : lkWho st = h := by unfold lkWho; rw [if_pos (by omega)]; omega
          have e2 : lkHeld st = true := decide_eq_true (by omega)
          have HH := Lib.hid (fun W => e1 ▸ e2 ▸ HHO.out W st (by omega) (by omega))
          have wh : IntKind.i64.wrap h = h := by simp [IntKind.wrap, IntKind.signed, IntKind.bits]; omega
          have qd : decide (0 ≤ h) = true := decide_eq_true (by omega)
          have qe : (h != h) = false := by simp
          clear hw hs0 hs1 hh e1 e2 HHO
          refine wp_region_noPanic ?_
          refine wp_region_held_drew (S := S) (by kernel_rfl) hSD (fun hHeld => ?_)
          apply wpAnyH_take (i := 0)
          · simp only [List.getElem?_toArray]; rfl
          · kernel_rfl
          · kernel_rfl
          · kernel_rfl
          · exact fun _ _ _ h => h
          · exact Or.inl ⟨by rfl, by intro w hSw; go_simp; try with_reducible rfl⟩
          · assumption
          try simp only [Act.put, List.setIfInBounds_toArray, List.set_cons_zero, List.set_cons_succ]
          apply wpAnyH_take (i := 1)
          · simp only [List.getElem?_toArray]; rfl
          · kernel_rfl
          · kernel_rfl
          · kernel_rfl
          · exact fun _ _ _ h => h
          · exact Or.inl ⟨by rfl, by intro w hSw; go_simp; try with_reducible rfl⟩
          · assumption
          try simp only [Act.put, List.setIfInBounds_toArray, List.set_cons_zero, List.set_cons_succ]
          apply wpAnyH_take (i := 2)
          · simp only [List.getElem?_toArray]; rfl
          · kernel_rfl
          · kernel_rfl
          · kernel_rfl
          · exact fun _ _ _ h => h
          · exact Or.inl ⟨by rfl, by intro w hSw; go_simp; try with_reducible rfl⟩
          · assumption
          try simp only [Act.put, List.setIfInBounds_toArray, List.set_cons_zero, List.set_cons_succ]
          apply wpAnyH_take (i := 3)
          · simp only [List.getElem?_toArray]; rfl
          · kernel_rfl
          · kernel_rfl
          · kernel_rfl
          · exact fun _ _ _ h => h
          · exact yields_indexCl rfl _ _ rfl g o n cp k rfl rfl hlt
          · assumption
          try simp only [Act.put, List.setIfInBounds_toArray, List.set_cons_zero, List.set_cons_succ]
          apply wpAnyH_take (i := 4)
          · simp only [List.getElem?_toArray]; rfl
          · kernel_rfl
          · kernel_rfl
          · kernel_rfl
          · exact fun _ _ _ h => h
          · exact Or.inl ⟨by rfl, by intro w hSw; go_simp; try with_reducible rfl⟩
          · assumption
          try simp only [Act.put, List.setIfInBounds_toArray, List.set_cons_zero, List.set_cons_succ]
          apply wpAnyH_take (i := 5)
          · simp only [List.getElem?_toArray]; rfl
          · kernel_rfl
          · kernel_rfl
          · kernel_rfl
          · exact fun _ _ _ h => h
          · exact Or.inl ⟨by rfl, by intro w hSw; have q0 := HS0.out w hSw; go_simp; try with_reducible rfl⟩
          · assumption
          try simp only [Act.put, List.setIfInBounds_toArray, List.set_cons_zero, List.set_cons_succ]
          apply wpAnyH_take (i := 6)
          · simp only [List.getElem?_toArray]; rfl
          · kernel_rfl
          · kernel_rfl
          · kernel_rfl
          · exact fun _ _ _ h => h
          · exact Or.inl ⟨by rfl, by intro w hSw; go_simp; try with_reducible rfl⟩
          · assumption
          try simp only [Act.put, List.setIfInBounds_toArray, List.set_cons_zero, List.set_cons_succ]
          apply wpAnyH_take (i := 7)
          · simp only [List.getElem?_toArray]; rfl
          · kernel_rfl
          · kernel_rfl
          · kernel_rfl
          · exact fun _ _ _ h => h
          · exact Or.inl ⟨by rfl, by intro w hSw; go_simp; try with_reducible rfl⟩
          · assumption
          try simp only [Act.put, List.setIfInBounds_toArray, List.set_cons_zero, List.set_cons_succ]
          apply wpAnyH_take (i := 8)
          · simp only [List.getElem?_toArray]; rfl
          · kernel_rfl
          · kernel_rfl
          · kernel_rfl
          · exact fun _ _ _ h => h
          · exact yields_indexCl rfl _ _ rfl g o n cp k rfl rfl hlt
          · assumption
          try simp only [Act.put, List.setIfInBounds_toArray, List.set_cons_zero, List.set_cons_succ]
          apply wpAnyH_take (i := 9)
          · simp only [List.getElem?_toArray]; rfl
          · kernel_rfl
          · kernel_rfl
          · kernel_rfl
          · exact fun _ _ _ h => h
          · exact Or.inl ⟨by rfl, by intro w hSw; go_simp; try with_reducible rfl⟩
          · assumption
          try simp only [Act.put, List.setIfInBounds_toArray, List.set_cons_zero, List.set_cons_succ]
          apply wpAnyH_take (i := 10)
          · simp only [List.getElem?_toArray]; rfl
          · kernel_rfl
          · kernel_rfl
          · kernel_rfl
          · exact fun _ _ _ h => h
          · exact yields_loadP y.x rfl _ rfl g _ rfl HS1.out
          · assumption
          try simp only [Act.put, List.setIfInBounds_toArray, List.set_cons_zero, List.set_cons_succ]
          apply wpAnyH_ready (rs := [11, 16])
          · kernel_rfl
          · simp
          apply AllReadyH.cons
          · simp only [List.getElem?_toArray]; rfl
          · intro K hK
            rw [if_pos (by rfl)]
            refine wp_call9 10 _ _ rfl [.int .u8 st, .int .u8 y.c, y.x.val] rfl Tryd.func10 (by kernel_rfl) (by kernel_rfl) ((HC12.out _ ((Keeps.refl [] wr).drew)).mono ?_)
            rintro e z1 ⟨rfl, hk⟩
            refine ⟨_, rfl, ?_⟩
            have HZ1 := Lib.hid (((Keeps.refl [] wr).drew).trans hk (FSub.refl _ _))
            clear hk
            refine hK.out _ _ ?_ (fun hHeld => ?_)
            · exact (by rw [HSE.out]; exact HZ1.out)
            clear hK K
            try simp only [Act.put, List.setIfInBounds_toArray, List.set_cons_zero, List.set_cons_succ]
            apply wpAnyH_take (i := 12)
            · simp only [List.getElem?_toArray]; rfl
            · kernel_rfl
            · kernel_rfl
            · kernel_rfl
            · exact fun _ _ _ h => h
            · exact Or.inl ⟨by rfl, by intro w hSw; go_simp; try with_reducible rfl⟩
            · assumption
            try simp only [Act.put, List.setIfInBounds_toArray, List.set_cons_zero, List.set_cons_succ]
            apply wpAnyH_take (i := 13)
            · simp only [List.getElem?_toArray]; rfl
            · kernel_rfl
            · kernel_rfl
            · kernel_rfl
            · exact fun _ _ _ h => h
            · exact Or.inl ⟨by rfl, by intro w hSw; go_simp; try with_reducible rfl⟩
            · assumption
            try simp only [Act.put, List.setIfInBounds_toArray, List.set_cons_zero, List.set_cons_succ]
            apply wpAnyH_take (i := 14)
            · simp only [List.getElem?_toArray]; rfl
            · kernel_rfl
            · kernel_rfl
            · kernel_rfl
            · exact fun _ _ _ h => h
            · exact Or.inl ⟨by rfl, by intro w hSw; go_simp; try with_reducible rfl⟩
            · assumption
            try simp only [Act.put, List.setIfInBounds_toArray, List.set_cons_zero, List.set_cons_succ]
            apply wpAnyH_take (i := 15)
            · simp only [List.getElem?_toArray]; rfl
            · kernel_rfl
            · kernel_rfl
            · kernel_rfl
            · exact fun _ _ _ h => h
            · exact Or.inl ⟨by rfl, by intro w hSw; go_simp; try with_reducible rfl⟩
            · assumption
            try simp only [Act.put, List.setIfInBounds_toArray, List.set_cons_zero, List.set_cons_succ]
            apply wpAnyH_ready (rs := [16])
            · kernel_rfl
            · simp
            apply AllReadyH.cons (hs := AllReadyH.nil)
            · simp only [List.getElem?_toArray]; rfl
            intro K hK
            rw [if_pos (by rfl)]
            refine wp_allocA _ _ _ _ rfl ?_
            have HZ2 := Lib.hid (HZ1.out.alloc (.cells (ansC ⟨0, 0⟩).toArray 27))
            have HB2 := Lib.hid (heap_alloc_new z1 (.cells (ansC ⟨0, 0⟩).toArray 27))
            have HG2 := Lib.hid HZ1.out.size
            generalize z1.alloc (.cells (ansC ⟨0, 0⟩).toArray 27) = z2 at *
            generalize z1.heap.size = gz at *
            refine hK.out _ _ ?_ (fun hHeld => ?_)
            · exact (by rw [HSE.out]; exact HZ2.out)
            clear hK K
            try simp only [Act.put, List.setIfInBounds_toArray, List.set_cons_zero, List.set_cons_succ]
            apply wpAnyH_take (i := 17)
            · simp only [List.getElem?_toArray]; rfl
            · kernel_rfl
            · kernel_rfl
            · kernel_rfl
            · exact fun _ _ _ h => h
            · exact Or.inl ⟨by rfl, by intro w hSw; go_simp; try with_reducible rfl⟩
            · assumption
            try simp only [Act.put, List.setIfInBounds_toArray, List.set_cons_zero, List.set_cons_succ]
            apply wpAnyH_ready (rs := [18])
            · kernel_rfl
            · simp
            apply AllReadyH.cons (hs := AllReadyH.nil)
            · simp only [List.getElem?_toArray]; rfl
            intro K hK
            rw [if_pos (by rfl)]
            refine wp_putN rfl (g := gz) (old := ⟨0, 0⟩) ⟨4, 0⟩ rfl rfl HB2.out (fun z3 hz3 hk => ?_)
            have HB3 := Lib.hid hz3
            have HZ3 := Lib.hid (HZ2.out.trans hk (fun q hq => .inr (by have := HG2.out; simp at hq; omega)))
            clear hz3 hk
            refine hK.out _ _ ?_ (fun hHeld => ?_)
            · exact (by rw [HSE.out]; exact HZ3.out)
            clear hK K
            try simp only [Act.put, List.setIfInBounds_toArray, List.set_cons_zero, List.set_cons_succ]
            apply wpAnyH_take (i := 19)
            · simp only [List.getElem?_toArray]; rfl
            · kernel_rfl
            · kernel_rfl
            · kernel_rfl
            · exact fun _ _ _ h => h
            · exact Or.inl ⟨by rfl, by intro w hSw; go_simp; try with_reducible rfl⟩
            · assumption
            try simp only [Act.put, List.setIfInBounds_toArray, List.set_cons_zero, List.set_cons_succ]
            refine wpAnyH_done (by kernel_rfl) ?_ _
            refine NoPanic.normal ?_
            clear HZ2 HB2
            have HKF := Lib.hid (HKW.out.trans HZ3.out (FSub.refl _ _))
            have d2 : z3.cell? ⟨gz, 0, none⟩ = some (.int .u8 4) := cell_lit HB3.out 0 rfl
            have d4 : z3.cell? ⟨g, o + k * 6, none⟩ = some (.int .u8 y.c) := HZ3.out.cell (cl_parts HRW.out).1 (by simp)
            have d5 : z3.cell? ⟨g, o + k * 6 + 1, none⟩ = some (.int .u8 y.x.f) := HZ3.out.cell ((cl_parts HRW.out).2 0 _ rfl) (by simp)
            clear HB3
            go_wp2_with fail
            refine (HH.out z3).mono ?_; rintro e y3 ⟨rfl, rfl⟩
            go_wp2_with fail
            go_roundw
            case rel => exact ⟨k + 1, st, h, by go_num, by omega, rfl, rfl, HST.out.1, HST.out.2.1, HST.out.2.2, HKF.out⟩
            case measure => simp [intOf]; omega
          apply AllReadyH.cons (hs := AllReadyH.nil)
          · simp only [List.getElem?_toArray]; rfl
          intro K hK
          rw [if_pos (by rfl)]
          refine wp_allocA _ _ _ _ rfl ?_
          have HZ1 := Lib.hid (((Keeps.refl [] wr).drew).alloc (.cells (ansC ⟨0, 0⟩).toArray 27))
          have HB1 := Lib.hid (show (wr.drew.alloc (.cells (ansC ⟨0, 0⟩).toArray 27)).heap[wr.heap.size]? = some (.cells (ansC ⟨0, 0⟩).toArray 27 (0, 0)) from heap_alloc_new wr.drew _)
          have HGE := Lib.hid (show wr.drew.heap.size = wr.heap.size from rfl)
          rw [HGE.out]
          generalize wr.drew.alloc (.cells (ansC ⟨0, 0⟩).toArray 27) = z1 at *
          refine hK.out _ _ ?_ (fun hHeld => ?_)
          · exact (by rw [HSE.out]; exact HZ1.out)
          clear hK K
          try simp only [Act.put, List.setIfInBounds_toArray, List.set_cons_zero, List.set_cons_succ]
          apply wpAnyH_ready (rs := [11])
          · kernel_rfl
          · simp
          apply AllReadyH.cons (hs := AllReadyH.nil)
          · simp only [List.getElem?_toArray]; rfl
          intro K hK
          rw [if_pos (by rfl)]
          refine wp_call9 10 _ _ rfl [.int .u8 st, .int .u8 y.c, y.x.val] rfl Tryd.func10 (by kernel_rfl) (by kernel_rfl) ((HC12.out _ HZ1.out).mono ?_)
          rintro e z2 ⟨rfl, hk⟩
          refine ⟨_, rfl, ?_⟩
          have HZ2 := Lib.hid (HZ1.out.trans hk (FSub.refl _ _))
          have HB2 := Lib.hid (hk.heap HB1.out (by simp))
          clear hk HB1 HGE
          obtain ⟨gz, hgz⟩ : ∃ gz, gz = wr.heap.size := ⟨_, rfl⟩
          rw [← hgz] at HB2 ⊢
          have HG2 := Lib.hid (show wr.heap.size ≤ gz from Nat.le_of_eq hgz.symm)
          clear hgz
          refine hK.out _ _ ?_ (fun hHeld => ?_)
          · exact (by rw [HSE.out]; exact HZ2.out)
          clear hK K
          try simp only [Act.put, List.setIfInBounds_toArray, List.set_cons_zero, List.set_cons_succ]
          apply wpAnyH_take (i := 12)
          · simp only [List.getElem?_toArray]; rfl
          · kernel_rfl
          · kernel_rfl
          · kernel_rfl
          · exact fun _ _ _ h => h
          · exact Or.inl ⟨by rfl, by intro w hSw; go_simp; try with_reducible rfl⟩
          · assumption
          try simp only [Act.put, List.setIfInBounds_toArray, List.set_cons_zero, List.set_cons_succ]
          apply wpAnyH_take (i := 13)
          · simp only [List.getElem?_toArray]; rfl
          · kernel_rfl
          · kernel_rfl
          · kernel_rfl
          · exact fun _ _ _ h => h
          · exact Or.inl ⟨by rfl, by intro w hSw; go_simp; try with_reducible rfl⟩
          · assumption
          try simp only [Act.put, List.setIfInBounds_toArray, List.set_cons_zero, List.set_cons_succ]
          apply wpAnyH_take (i := 14)
          · simp only [List.getElem?_toArray]; rfl
          · kernel_rfl
          · kernel_rfl
          · kernel_rfl
          · exact fun _ _ _ h => h
          · exact Or.inl ⟨by rfl, by intro w hSw; go_simp; try with_reducible rfl⟩
          · assumption
          try simp only [Act.put, List.setIfInBounds_toArray, List.set_cons_zero, List.set_cons_succ]
          apply wpAnyH_take (i := 15)
          · simp only [List.getElem?_toArray]; rfl
          · kernel_rfl
          · kernel_rfl
          · kernel_rfl
          · exact fun _ _ _ h => h
          · exact Or.inl ⟨by rfl, by intro w hSw; go_simp; try with_reducible rfl⟩
          · assumption
          try simp only [Act.put, List.setIfInBounds_toArray, List.set_cons_zero, List.set_cons_succ]
          apply wpAnyH_take (i := 17)
          · simp only [List.getElem?_toArray]; rfl
          · kernel_rfl
          · kernel_rfl
          · kernel_rfl
          · exact fun _ _ _ h => h
          · exact Or.inl ⟨by rfl, by intro w hSw; go_simp; try with_reducible rfl⟩
          · assumption
          try simp only [Act.put, List.setIfInBounds_toArray, List.set_cons_zero, List.set_cons_succ]
          apply wpAnyH_ready (rs := [18])
          · kernel_rfl
          · simp
          apply AllReadyH.cons (hs := AllReadyH.nil)
          · simp only [List.getElem?_toArray]; rfl
          intro K hK
          rw [if_pos (by rfl)]
          refine wp_putN rfl (g := gz) (old := ⟨0, 0⟩) ⟨4, 0⟩ rfl rfl HB2.out (fun z3 hz3 hk => ?_)
          have HB3 := Lib.hid hz3
          have HZ3 := Lib.hid (HZ2.out.trans hk (fun q hq => .inr (by have := HG2.out; simp at hq; omega)))
          clear hz3 hk
          refine hK.out _ _ ?_ (fun hHeld => ?_)
          · exact (by rw [HSE.out]; exact HZ3.out)
          clear hK K
          try simp only [Act.put, List.setIfInBounds_toArray, List.set_cons_zero, List.set_cons_succ]
          apply wpAnyH_take (i := 19)
          · simp only [List.getElem?_toArray]; rfl
          · kernel_rfl
          · kernel_rfl
          · kernel_rfl
          · exact fun _ _ _ h => h
          · exact Or.inl ⟨by rfl, by intro w hSw; go_simp; try with_reducible rfl⟩
          · assumption
          try simp only [Act.put, List.setIfInBounds_toArray, List.set_cons_zero, List.set_cons_succ]
          refine wpAnyH_done (by kernel_rfl) ?_ _
          refine NoPanic.normal ?_
          clear HZ2 HB2
          have HKF := Lib.hid (HKW.out.trans HZ3.out (FSub.refl _ _))
          have d2 : z3.cell? ⟨gz, 0, none⟩ = some (.int .u8 4) := cell_lit HB3.out 0 rfl
          have d4 : z3.cell? ⟨g, o + k * 6, none⟩ = some (.int .u8 y.c) := HZ3.out.cell (cl_parts HRW.out).1 (by simp)
          have d5 : z3.cell? ⟨g, o + k * 6 + 1, none⟩ = some (.int .u8 y.x.f) := HZ3.out.cell ((cl_parts HRW.out).2 0 _ rfl) (by simp)
          clear HB3
          go_wp2_with fail
          refine (HH.out z3).mono ?_; rintro e y3 ⟨rfl, rfl⟩
          go_wp2_with fail
          go_roundw
          case rel => exact ⟨k + 1, st, h, by go_num, by omega, rfl, rfl, HST.out.1, HST.out.2.1, HST.out.2.2, HKF.out⟩
          case measure => simp [intOf]; omega
        · rw [hw.2.2.2.2.2] at HC12
          have f10 : (y.x.f == 10) = false := by simp; omega
          have f11 : (y.x.f == 11) = true := by simp; omega
          have HH := Lib.hid (fun W => HHO.out W 0 (by decide) (by decide))
          rw [show lkWho 0 = 0 from rfl, show lkHeld 0 = false from rfl] at HH
          obtain rfl : h = y.c := by omega
          have qe : (y.c != y.c) = false := by simp
          clear hw hs0 hs1 hh HHO
          refine wp_region_noPanic ?_
          refine wp_region_held_drew (S := S) (by kernel_rfl) hSD (fun hHeld => ?_)
          apply wpAnyH_take (i := 0)
          · simp only [List.getElem?_toArray]; rfl
          · kernel_rfl
          · kernel_rfl
          · kernel_rfl
          · exact fun _ _ _ h => h
          · exact Or.inl ⟨by rfl, by intro w hSw; go_simp; try with_reducible rfl⟩
          · assumption
          try simp only [Act.put, List.setIfInBounds_toArray, List.set_cons_zero, List.set_cons_succ]
          apply wpAnyH_take (i := 1)
          · simp only [List.getElem?_toArray]; rfl
          · kernel_rfl
          · kernel_rfl
          · kernel_rfl
          · exact fun _ _ _ h => h
          · exact Or.inl ⟨by rfl, by intro w hSw; go_simp; try with_reducible rfl⟩
          · assumption
          try simp only [Act.put, List.setIfInBounds_toArray, List.set_cons_zero, List.set_cons_succ]
          apply wpAnyH_take (i := 2)
          · simp only [List.getElem?_toArray]; rfl
          · kernel_rfl
          · kernel_rfl
          · kernel_rfl
          · exact fun _ _ _ h => h
          · exact Or.inl ⟨by rfl, by intro w hSw; go_simp; try with_reducible rfl⟩
          · assumption
          try simp only [Act.put, List.setIfInBounds_toArray, List.set_cons_zero, List.set_cons_succ]
          apply wpAnyH_take (i := 3)
          · simp only [List.getElem?_toArray]; rfl
          · kernel_rfl
          · kernel_rfl
          · kernel_rfl
          · exact fun _ _ _ h => h
          · exact yields_indexCl rfl _ _ rfl g o n cp k rfl rfl hlt
          · assumption
          try simp only [Act.put, List.setIfInBounds_toArray, List.set_cons_zero, List.set_cons_succ]
          apply wpAnyH_take (i := 4)
          · simp only [List.getElem?_toArray]; rfl
          · kernel_rfl
          · kernel_rfl
          · kernel_rfl
          · exact fun _ _ _ h => h
          · exact Or.inl ⟨by rfl, by intro w hSw; go_simp; try with_reducible rfl⟩
          · assumption
          try simp only [Act.put, List.setIfInBounds_toArray, List.set_cons_zero, List.set_cons_succ]
          apply wpAnyH_take (i := 5)
          · simp only [List.getElem?_toArray]; rfl
          · kernel_rfl
          · kernel_rfl
          · kernel_rfl
          · exact fun _ _ _ h => h
          · exact Or.inl ⟨by rfl, by intro w hSw; have q0 := HS0.out w hSw; go_simp; try with_reducible rfl⟩
          · assumption
          try simp only [Act.put, List.setIfInBounds_toArray, List.set_cons_zero, List.set_cons_succ]
          apply wpAnyH_take (i := 6)
          · simp only [List.getElem?_toArray]; rfl
          · kernel_rfl
          · kernel_rfl
          · kernel_rfl
          · exact fun _ _ _ h => h
          · exact Or.inl ⟨by rfl, by intro w hSw; go_simp; try with_reducible rfl⟩
          · assumption
          try simp only [Act.put, List.setIfInBounds_toArray, List.set_cons_zero, List.set_cons_succ]
          apply wpAnyH_take (i := 7)
          · simp only [List.getElem?_toArray]; rfl
          · kernel_rfl
          · kernel_rfl
          · kernel_rfl
          · exact fun _ _ _ h => h
          · exact Or.inl ⟨by rfl, by intro w hSw; go_simp; try with_reducible rfl⟩
          · assumption
          try simp only [Act.put, List.setIfInBounds_toArray, List.set_cons_zero, List.set_cons_succ]
          apply wpAnyH_take (i := 8)
          · simp only [List.getElem?_toArray]; rfl
          · kernel_rfl
          · kernel_rfl
          · kernel_rfl
          · exact fun _ _ _ h => h
          · exact yields_indexCl rfl _ _ rfl g o n cp k rfl rfl hlt
          · assumption
          try simp only [Act.put, List.setIfInBounds_toArray, List.set_cons_zero, List.set_cons_succ]
          apply wpAnyH_take (i := 9)
          · simp only [List.getElem?_toArray]; rfl
          · kernel_rfl
          · kernel_rfl
          · kernel_rfl
          · exact fun _ _ _ h => h
          · exact Or.inl ⟨by rfl, by intro w hSw; go_simp; try with_reducible rfl⟩
          · assumption
          try simp only [Act.put, List.setIfInBounds_toArray, List.set_cons_zero, List.set_cons_succ]
          apply wpAnyH_take (i := 10)
          · simp only [List.getElem?_toArray]; rfl
          · kernel_rfl
          · kernel_rfl
          · kernel_rfl
          · exact fun _ _ _ h => h
          · exact yields_loadP y.x rfl _ rfl g _ rfl HS1.out
          · assumption
          try simp only [Act.put, List.setIfInBounds_toArray, List.set_cons_zero, List.set_cons_succ]
          apply wpAnyH_ready (rs := [11, 16])
          · kernel_rfl
          · simp
          apply AllReadyH.cons
          · simp only [List.getElem?_toArray]; rfl
          · intro K hK
            rw [if_pos (by rfl)]
            refine wp_call9 10 _ _ rfl [.int .u8 st, .int .u8 y.c, y.x.val] rfl Tryd.func10 (by kernel_rfl) (by kernel_rfl) ((HC12.out _ ((Keeps.refl [] wr).drew)).mono ?_)
            rintro e z1 ⟨rfl, hk⟩
            refine ⟨_, rfl, ?_⟩
            have HZ1 := Lib.hid (((Keeps.refl [] wr).drew).trans hk (FSub.refl _ _))
            clear hk
            refine hK.out _ _ ?_ (fun hHeld => ?_)
            · exact (by rw [HSE.out]; exact HZ1.out)
            clear hK K
            try simp only [Act.put, List.setIfInBounds_toArray, List.set_cons_zero, List.set_cons_succ]
            apply wpAnyH_take (i := 12)
            · simp only [List.getElem?_toArray]; rfl
            · kernel_rfl
            · kernel_rfl
            · kernel_rfl
            · exact fun _ _ _ h => h
            · exact Or.inl ⟨by rfl, by intro w hSw; go_simp; try with_reducible rfl⟩
            · assumption
            try simp only [Act.put, List.setIfInBounds_toArray, List.set_cons_zero, List.set_cons_succ]
            apply wpAnyH_take (i := 13)
            · simp only [List.getElem?_toArray]; rfl
            · kernel_rfl
            · kernel_rfl
            · kernel_rfl
            · exact fun _ _ _ h => h
            · exact Or.inl ⟨by rfl, by intro w hSw; go_simp; try with_reducible rfl⟩
            · assumption
            try simp only [Act.put, List.setIfInBounds_toArray, List.set_cons_zero, List.set_cons_succ]
            apply wpAnyH_take (i := 14)
            · simp only [List.getElem?_toArray]; rfl
            · kernel_rfl
            · kernel_rfl
            · kernel_rfl
            · exact fun _ _ _ h => h
            · exact Or.inl ⟨by rfl, by intro w hSw; go_simp; try with_reducible rfl⟩
            · assumption
            try simp only [Act.put, List.setIfInBounds_toArray, List.set_cons_zero, List.set_cons_succ]
            apply wpAnyH_take (i := 15)
            · simp only [List.getElem?_toArray]; rfl
            · kernel_rfl
            · kernel_rfl
            · kernel_rfl
            · exact fun _ _ _ h => h
            · exact Or.inl ⟨by rfl, by intro w hSw; go_simp; try with_reducible rfl⟩
            · assumption
            try simp only [Act.put, List.setIfInBounds_toArray, List.set_cons_zero, List.set_cons_succ]
            apply wpAnyH_ready (rs := [16])
            · kernel_rfl
            · simp
            apply AllReadyH.cons (hs := AllReadyH.nil)
            · simp only [List.getElem?_toArray]; rfl
            intro K hK
            rw [if_pos (by rfl)]
            refine wp_allocA _ _ _ _ rfl ?_
            have HZ2 := Lib.hid (HZ1.out.alloc (.cells (ansC ⟨0, 0⟩).toArray 27))
            have HB2 := Lib.hid (heap_alloc_new z1 (.cells (ansC ⟨0, 0⟩).toArray 27))
            have HG2 := Lib.hid HZ1.out.size
            generalize z1.alloc (.cells (ansC ⟨0, 0⟩).toArray 27) = z2 at *
            generalize z1.heap.size = gz at *
            refine hK.out _ _ ?_ (fun hHeld => ?_)
            · exact (by rw [HSE.out]; exact HZ2.out)
            clear hK K
            try simp only [Act.put, List.setIfInBounds_toArray, List.set_cons_zero, List.set_cons_succ]
            apply wpAnyH_take (i := 17)
            · simp only [List.getElem?_toArray]; rfl
            · kernel_rfl
            · kernel_rfl
            · kernel_rfl
            · exact fun _ _ _ h => h
            · exact Or.inl ⟨by rfl, by intro w hSw; go_simp; try with_reducible rfl⟩
            · assumption
            try simp only [Act.put, List.setIfInBounds_toArray, List.set_cons_zero, List.set_cons_succ]
            apply wpAnyH_ready (rs := [18])
            · kernel_rfl
            · simp
            apply AllReadyH.cons (hs := AllReadyH.nil)
            · simp only [List.getElem?_toArray]; rfl
            intro K hK
            rw [if_pos (by rfl)]
            refine wp_putN rfl (g := gz) (old := ⟨0, 0⟩) ⟨3, 0⟩ rfl rfl HB2.out (fun z3 hz3 hk => ?_)
            have HB3 := Lib.hid hz3
            have HZ3 := Lib.hid (HZ2.out.trans hk (fun q hq => .inr (by have := HG2.out; simp at hq; omega)))
            clear hz3 hk
            refine hK.out _ _ ?_ (fun hHeld => ?_)
            · exact (by rw [HSE.out]; exact HZ3.out)
            clear hK K
            try simp only [Act.put, List.setIfInBounds_toArray, List.set_cons_zero, List.set_cons_succ]
            apply wpAnyH_take (i := 19)
            · simp only [List.getElem?_toArray]; rfl
            · kernel_rfl
            · kernel_rfl
            · kernel_rfl
            · exact fun _ _ _ h => h
            · exact Or.inl ⟨by rfl, by intro w hSw; go_simp; try with_reducible rfl⟩
            · assumption
            try simp only [Act.put, List.setIfInBounds_toArray, List.set_cons_zero, List.set_cons_succ]
            refine wpAnyH_done (by kernel_rfl) ?_ _
            refine NoPanic.normal ?_
            clear HZ2 HB2
            have HKF := Lib.hid (HKW.out.trans HZ3.out (FSub.refl _ _))
            have d2 : z3.cell? ⟨gz, 0, none⟩ = some (.int .u8 3) := cell_lit HB3.out 0 rfl
            have d4 : z3.cell? ⟨g, o + k * 6, none⟩ = some (.int .u8 y.c) := HZ3.out.cell (cl_parts HRW.out).1 (by simp)
            have d5 : z3.cell? ⟨g, o + k * 6 + 1, none⟩ = some (.int .u8 y.x.f) := HZ3.out.cell ((cl_parts HRW.out).2 0 _ rfl) (by simp)
            clear HB3
            go_wp2_with fail
            refine (HH.out z3).mono ?_; rintro e y3 ⟨rfl, rfl⟩
            go_wp2_with fail
            go_roundw
            case rel => exact ⟨k + 1, 0, -1, by go_num, by omega, rfl, rfl, by decide, by decide, by decide, HKF.out⟩
            case measure => simp [intOf]; omega
          apply AllReadyH.cons (hs := AllReadyH.nil)
          · simp only [List.getElem?_toArray]; rfl
          intro K hK
          rw [if_pos (by rfl)]
          refine wp_allocA _ _ _ _ rfl ?_
          have HZ1 := Lib.hid (((Keeps.refl [] wr).drew).alloc (.cells (ansC ⟨0, 0⟩).toArray 27))
          have HB1 := Lib.hid (show (wr.drew.alloc (.cells (ansC ⟨0, 0⟩).toArray 27)).heap[wr.heap.size]? = some (.cells (ansC ⟨0, 0⟩).toArray 27 (0, 0)) from heap_alloc_new wr.drew _)
          have HGE := Lib.hid (show wr.drew.heap.size = wr.heap.size from rfl)
          rw [HGE.out]
          generalize wr.drew.alloc (.cells (ansC ⟨0, 0⟩).toArray 27) = z1 at *
          refine hK.out _ _ ?_ (fun hHeld => ?_)
          · exact (by rw [HSE.out]; exact HZ1.out)
          clear hK K
          try simp only [Act.put, List.setIfInBounds_toArray, List.set_cons_zero, List.set_cons_succ]
          apply wpAnyH_ready (rs := [11])
          · kernel_rfl
          · simp
          apply AllReadyH.cons (hs := AllReadyH.nil)
          · simp only [List.getElem?_toArray]; rfl
          intro K hK
          rw [if_pos (by rfl)]
          refine wp_call9 10 _ _ rfl [.int .u8 st, .int .u8 y.c, y.x.val] rfl Tryd.func10 (by kernel_rfl) (by kernel_rfl) ((HC12.out _ HZ1.out).mono ?_)
          rintro e z2 ⟨rfl, hk⟩
          refine ⟨_, rfl, ?_⟩
          have HZ2 := Lib.hid (HZ1.out.trans hk (FSub.refl _ _))
          have HB2 := Lib.hid (hk.heap HB1.out (by simp))
          clear hk HB1 HGE
          obtain ⟨gz, hgz⟩ : ∃ gz, gz = wr.heap.size := ⟨_, rfl⟩
          rw [← hgz] at HB2 ⊢
          have HG2 := Lib.hid (show wr.heap.size ≤ gz from Nat.le_of_eq hgz.symm)
          clear hgz
          refine hK.out _ _ ?_ (fun hHeld => ?_)
          · exact (by rw [HSE.out]; exact HZ2.out)
          clear hK K
          try simp only [Act.put, List.setIfInBounds_toArray, List.set_cons_zero, List.set_cons_succ]
          apply wpAnyH_take (i := 12)
          · simp only [List.getElem?_toArray]; rfl
          · kernel_rfl
          · kernel_rfl
          · kernel_rfl
          · exact fun _ _ _ h => h
          · exact Or.inl ⟨by rfl, by intro w hSw; go_simp; try with_reducible rfl⟩
          · assumption
          try simp only [Act.put, List.setIfInBounds_toArray, List.set_cons_zero, List.set_cons_succ]
          apply wpAnyH_take (i := 13)
          · simp only [List.getElem?_toArray]; rfl
          · kernel_rfl
          · kernel_rfl
          · kernel_rfl
          · exact fun _ _ _ h => h
          · exact Or.inl ⟨by rfl, by intro w hSw; go_simp; try with_reducible rfl⟩
          · assumption
          try simp only [Act.put, List.setIfInBounds_toArray, List.set_cons_zero, List.set_cons_succ]
          apply wpAnyH_take (i := 14)
          · simp only [List.getElem?_toArray]; rfl
          · kernel_rfl
          · kernel_rfl
          · kernel_rfl
          · exact fun _ _ _ h => h
          · exact Or.inl ⟨by rfl, by intro w hSw; go_simp; try with_reducible rfl⟩
          · assumption
          try simp only [Act.put, List.setIfInBounds_toArray, List.set_cons_zero, List.set_cons_succ]
          apply wpAnyH_take (i := 15)
          · simp only [List.getElem?_toArray]; rfl
          · kernel_rfl
          · kernel_rfl
          · kernel_rfl
          · exact fun _ _ _ h => h
          · exact Or.inl ⟨by rfl, by intro w hSw; go_simp; try with_reducible rfl⟩
          · assumption
          try simp only [Act.put, List.setIfInBounds_toArray, List.set_cons_zero, List.set_cons_succ]
          apply wpAnyH_take (i := 17)
          · simp only [List.getElem?_toArray]; rfl
          · kernel_rfl
          · kernel_rfl
          · kernel_rfl
          · exact fun _ _ _ h => h
          · exact Or.inl ⟨by rfl, by intro w hSw; go_simp; try with_reducible rfl⟩
          · assumption
          try simp only [Act.put, List.setIfInBounds_toArray, List.set_cons_zero, List.set_cons_succ]
          apply wpAnyH_ready (rs := [18])
          · kernel_rfl
          · simp
          apply AllReadyH.cons (hs := AllReadyH.nil)
          · simp only [List.getElem?_toArray]; rfl
          intro K hK
          rw [if_pos (by rfl)]
          refine wp_putN rfl (g := gz) (old := ⟨0, 0⟩) ⟨3, 0⟩ rfl rfl HB2.out (fun z3 hz3 hk => ?_)
          have HB3 := Lib.hid hz3
          have HZ3 := Lib.hid (HZ2.out.trans hk (fun q hq => .inr (by have := HG2.out; simp at hq; omega)))
          clear hz3 hk
          refine hK.out _ _ ?_ (fun hHeld => ?_)
          · exact (by rw [HSE.out]; exact HZ3.out)
          clear hK K
          try simp only [Act.put, List.setIfInBounds_toArray, List.set_cons_zero, List.set_cons_succ]
          apply wpAnyH_take (i := 19)
          · simp only [List.getElem?_toArray]; rfl
          · kernel_rfl
          · kernel_rfl
          · kernel_rfl
          · exact fun _ _ _ h => h
          · exact Or.inl ⟨by rfl, by intro w hSw; go_simp; try with_reducible rfl⟩
          · assumption
          try simp only [Act.put, List.setIfInBounds_toArray, List.set_cons_zero, List.set_cons_succ]
          refine wpAnyH_done (by kernel_rfl) ?_ _
          refine NoPanic.normal ?_
          clear HZ2 HB2
          have HKF := Lib.hid (HKW.out.trans HZ3.out (FSub.refl _ _))
          have d2 : z3.cell? ⟨gz, 0, none⟩ = some (.int .u8 3) := cell_lit HB3.out 0 rfl
          have d4 : z3.cell? ⟨g, o + k * 6, none⟩ = some (.int .u8 y.c) := HZ3.out.cell (cl_parts HRW.out).1 (by simp)
          have d5 : z3.cell? ⟨g, o + k * 6 + 1, none⟩ = some (.int .u8 y.x.f) := HZ3.out.cell ((cl_parts HRW.out).2 0 _ rfl) (by simp)
          clear HB3
          go_wp2_with fail
          refine (HH.out z3).mono ?_; rintro e y3 ⟨rfl, rfl⟩
          go_wp2_with fail
          go_roundw
          case rel => exact ⟨k + 1, 0, -1, by go_num, by omega, rfl, rfl, by decide, by decide, by decide, HKF.out⟩
          case measure => simp [intOf]; omega
        · rw [hw.2.2.2.2.2] at HC12
          have wh : IntKind.i64.wrap h = h := by simp [IntKind.wrap, IntKind.signed, IntKind.bits]; omega
          have qe : (h != h) = false := by simp
          by_cases h0 : st = 0
          · have e1 : lkWho st = 0 := by unfold lkWho; rw [if_neg (by omega)]
            have e2 : lkHeld st = false := decide_eq_false (by omega)
            have HH := Lib.hid (fun W => e1 ▸ e2 ▸ HHO.out W st (by omega) (by omega))
            have qd : decide (0 ≤ h) = false := decide_eq_false (by omega)
            clear hw hs0 hs1 hh e1 e2 HHO h0
            refine wp_region_noPanic ?_
            refine wp_region_held_drew (S := S) (by kernel_rfl) hSD (fun hHeld => ?_)
            apply wpAnyH_take (i := 0)
            · simp only [List.getElem?_toArray]; rfl
            · kernel_rfl
            · kernel_rfl
            · kernel_rfl
            · exact fun _ _ _ h => h
            · exact Or.inl ⟨by rfl, by intro w hSw; go_simp; try with_reducible rfl⟩
            · assumption
            try simp only [Act.put, List.setIfInBounds_toArray, List.set_cons_zero, List.set_cons_succ]
            apply wpAnyH_take (i := 1)
            · simp only [List.getElem?_toArray]; rfl
            · kernel_rfl
            · kernel_rfl
            · kernel_rfl
            · exact fun _ _ _ h => h
            · exact Or.inl ⟨by rfl, by intro w hSw; go_simp; try with_reducible rfl⟩
            · assumption
            try simp only [Act.put, List.setIfInBounds_toArray, List.set_cons_zero, List.set_cons_succ]
            apply wpAnyH_take (i := 2)
            · simp only [List.getElem?_toArray]; rfl
            · kernel_rfl
            · kernel_rfl
            · kernel_rfl
            · exact fun _ _ _ h => h
            · exact Or.inl ⟨by rfl, by intro w hSw; go_simp; try with_reducible rfl⟩
            · assumption
            try simp only [Act.put, List.setIfInBounds_toArray, List.set_cons_zero, List.set_cons_succ]
            apply wpAnyH_take (i := 3)
            · simp only [List.getElem?_toArray]; rfl
            · kernel_rfl
            · kernel_rfl
            · kernel_rfl
            · exact fun _ _ _ h => h
            · exact yields_indexCl rfl _ _ rfl g o n cp k rfl rfl hlt
            · assumption
            try simp only [Act.put, List.setIfInBounds_toArray, List.set_cons_zero, List.set_cons_succ]
            apply wpAnyH_take (i := 4)
            · simp only [List.getElem?_toArray]; rfl
            · kernel_rfl
            · kernel_rfl
            · kernel_rfl
            · exact fun _ _ _ h => h
            · exact Or.inl ⟨by rfl, by intro w hSw; go_simp; try with_reducible rfl⟩
            · assumption
            try simp only [Act.put, List.setIfInBounds_toArray, List.set_cons_zero, List.set_cons_succ]
            apply wpAnyH_take (i := 5)
            · simp only [List.getElem?_toArray]; rfl
            · kernel_rfl
            · kernel_rfl
            · kernel_rfl
            · exact fun _ _ _ h => h
            · exact Or.inl ⟨by rfl, by intro w hSw; have q0 := HS0.out w hSw; go_simp; try with_reducible rfl⟩
            · assumption
            try simp only [Act.put, List.setIfInBounds_toArray, List.set_cons_zero, List.set_cons_succ]
            apply wpAnyH_take (i := 6)
            · simp only [List.getElem?_toArray]; rfl
            · kernel_rfl
            · kernel_rfl
            · kernel_rfl
            · exact fun _ _ _ h => h
            · exact Or.inl ⟨by rfl, by intro w hSw; go_simp; try with_reducible rfl⟩
            · assumption
            try simp only [Act.put, List.setIfInBounds_toArray, List.set_cons_zero, List.set_cons_succ]
            apply wpAnyH_take (i := 7)
            · simp only [List.getElem?_toArray]; rfl
            · kernel_rfl
            · kernel_rfl
            · kernel_rfl
            · exact fun _ _ _ h => h
            · exact Or.inl ⟨by rfl, by intro w hSw; go_simp; try with_reducible rfl⟩
            · assumption
            try simp only [Act.put, List.setIfInBounds_toArray, List.set_cons_zero, List.set_cons_succ]
            apply wpAnyH_take (i := 8)
            · simp only [List.getElem?_toArray]; rfl
            · kernel_rfl
            · kernel_rfl
            · kernel_rfl
            · exact fun _ _ _ h => h
            · exact yields_indexCl rfl _ _ rfl g o n cp k rfl rfl hlt
            · assumption
            try simp only [Act.put, List.setIfInBounds_toArray, List.set_cons_zero, List.set_cons_succ]
            apply wpAnyH_take (i := 9)
            · simp only [List.getElem?_toArray]; rfl
            · kernel_rfl
            · kernel_rfl
            · kernel_rfl
            · exact fun _ _ _ h => h
            · exact Or.inl ⟨by rfl, by intro w hSw; go_simp; try with_reducible rfl⟩
            · assumption
            try simp only [Act.put, List.setIfInBounds_toArray, List.set_cons_zero, List.set_cons_succ]
            apply wpAnyH_take (i := 10)
            · simp only [List.getElem?_toArray]; rfl
            · kernel_rfl
            · kernel_rfl
            · kernel_rfl
            · exact fun _ _ _ h => h
            · exact yields_loadP y.x rfl _ rfl g _ rfl HS1.out
            · assumption
            try simp only [Act.put, List.setIfInBounds_toArray, List.set_cons_zero, List.set_cons_succ]
            apply wpAnyH_ready (rs := [11, 16])
            · kernel_rfl
            · simp
            apply AllReadyH.cons
            · simp only [List.getElem?_toArray]; rfl
            · intro K hK
              rw [if_pos (by rfl)]
              refine wp_call9 10 _ _ rfl [.int .u8 st, .int .u8 y.c, y.x.val] rfl Tryd.func10 (by kernel_rfl) (by kernel_rfl) ((HC12.out _ ((Keeps.refl [] wr).drew)).mono ?_)
              rintro e z1 ⟨rfl, hk⟩
              refine ⟨_, rfl, ?_⟩
              have HZ1 := Lib.hid (((Keeps.refl [] wr).drew).trans hk (FSub.refl _ _))
              clear hk
              refine hK.out _ _ ?_ (fun hHeld => ?_)
              · exact (by rw [HSE.out]; exact HZ1.out)
              clear hK K
              try simp only [Act.put, List.setIfInBounds_toArray, List.set_cons_zero, List.set_cons_succ]
              apply wpAnyH_take (i := 12)
              · simp only [List.getElem?_toArray]; rfl
              · kernel_rfl
              · kernel_rfl
              · kernel_rfl
              · exact fun _ _ _ h => h
              · exact Or.inl ⟨by rfl, by intro w hSw; go_simp; try with_reducible rfl⟩
              · assumption
              try simp only [Act.put, List.setIfInBounds_toArray, List.set_cons_zero, List.set_cons_succ]
              apply wpAnyH_take (i := 13)
              · simp only [List.getElem?_toArray]; rfl
              · kernel_rfl
              · kernel_rfl
              · kernel_rfl
              · exact fun _ _ _ h => h
              · exact Or.inl ⟨by rfl, by intro w hSw; go_simp; try with_reducible rfl⟩
              · assumption
              try simp only [Act.put, List.setIfInBounds_toArray, List.set_cons_zero, List.set_cons_succ]
              apply wpAnyH_take (i := 14)
              · simp only [List.getElem?_toArray]; rfl
              · kernel_rfl
              · kernel_rfl
              · kernel_rfl
              · exact fun _ _ _ h => h
              · exact Or.inl ⟨by rfl, by intro w hSw; go_simp; try with_reducible rfl⟩
              · assumption
              try simp only [Act.put, List.setIfInBounds_toArray, List.set_cons_zero, List.set_cons_succ]
              apply wpAnyH_take (i := 15)
              · simp only [List.getElem?_toArray]; rfl
              · kernel_rfl
              · kernel_rfl
              · kernel_rfl
              · exact fun _ _ _ h => h
              · exact Or.inl ⟨by rfl, by intro w hSw; go_simp; try with_reducible rfl⟩
              · assumption
              try simp only [Act.put, List.setIfInBounds_toArray, List.set_cons_zero, List.set_cons_succ]
              apply wpAnyH_ready (rs := [16])
              · kernel_rfl
              · simp
              apply AllReadyH.cons (hs := AllReadyH.nil)
              · simp only [List.getElem?_toArray]; rfl
              intro K hK
              rw [if_pos (by rfl)]
              refine wp_allocA _ _ _ _ rfl ?_
              have HZ2 := Lib.hid (HZ1.out.alloc (.cells (ansC ⟨0, 0⟩).toArray 27))
              have HB2 := Lib.hid (heap_alloc_new z1 (.cells (ansC ⟨0, 0⟩).toArray 27))
              have HG2 := Lib.hid HZ1.out.size
              generalize z1.alloc (.cells (ansC ⟨0, 0⟩).toArray 27) = z2 at *
              generalize z1.heap.size = gz at *
              refine hK.out _ _ ?_ (fun hHeld => ?_)
              · exact (by rw [HSE.out]; exact HZ2.out)
              clear hK K
              try simp only [Act.put, List.setIfInBounds_toArray, List.set_cons_zero, List.set_cons_succ]
              apply wpAnyH_take (i := 17)
              · simp only [List.getElem?_toArray]; rfl
              · kernel_rfl
              · kernel_rfl
              · kernel_rfl
              · exact fun _ _ _ h => h
              · exact Or.inl ⟨by rfl, by intro w hSw; go_simp; try with_reducible rfl⟩
              · assumption
              try simp only [Act.put, List.setIfInBounds_toArray, List.set_cons_zero, List.set_cons_succ]
              apply wpAnyH_ready (rs := [18])
              · kernel_rfl
              · simp
              apply AllReadyH.cons (hs := AllReadyH.nil)
              · simp only [List.getElem?_toArray]; rfl
              intro K hK
              rw [if_pos (by rfl)]
              refine wp_putN rfl (g := gz) (old := ⟨0, 0⟩) ⟨4, 0⟩ rfl rfl HB2.out (fun z3 hz3 hk => ?_)
              have HB3 := Lib.hid hz3
              have HZ3 := Lib.hid (HZ2.out.trans hk (fun q hq => .inr (by have := HG2.out; simp at hq; omega)))
              clear hz3 hk
              refine hK.out _ _ ?_ (fun hHeld => ?_)
              · exact (by rw [HSE.out]; exact HZ3.out)
              clear hK K
              try simp only [Act.put, List.setIfInBounds_toArray, List.set_cons_zero, List.set_cons_succ]
              apply wpAnyH_take (i := 19)
              · simp only [List.getElem?_toArray]; rfl
              · kernel_rfl
              · kernel_rfl
              · kernel_rfl
              · exact fun _ _ _ h => h
              · exact Or.inl ⟨by rfl, by intro w hSw; go_simp; try with_reducible rfl⟩
              · assumption
              try simp only [Act.put, List.setIfInBounds_toArray, List.set_cons_zero, List.set_cons_succ]
              refine wpAnyH_done (by kernel_rfl) ?_ _
              refine NoPanic.normal ?_
              clear HZ2 HB2
              have HKF := Lib.hid (HKW.out.trans HZ3.out (FSub.refl _ _))
              have d2 : z3.cell? ⟨gz, 0, none⟩ = some (.int .u8 4) := cell_lit HB3.out 0 rfl
              have d4 : z3.cell? ⟨g, o + k * 6, none⟩ = some (.int .u8 y.c) := HZ3.out.cell (cl_parts HRW.out).1 (by simp)
              have d5 : z3.cell? ⟨g, o + k * 6 + 1, none⟩ = some (.int .u8 y.x.f) := HZ3.out.cell ((cl_parts HRW.out).2 0 _ rfl) (by simp)
              clear HB3
              go_wp2_with fail
              refine (HH.out z3).mono ?_; rintro e y3 ⟨rfl, rfl⟩
              go_wp2_with fail
              go_roundw
              case rel => exact ⟨k + 1, st, h, by go_num, by omega, rfl, rfl, HST.out.1, HST.out.2.1, HST.out.2.2, HKF.out⟩
              case measure => simp [intOf]; omega
            apply AllReadyH.cons (hs := AllReadyH.nil)
            · simp only [List.getElem?_toArray]; rfl
            intro K hK
            rw [if_pos (by rfl)]
            refine wp_allocA _ _ _ _ rfl ?_
            have HZ1 := Lib.hid (((Keeps.refl [] wr).drew).alloc (.cells (ansC ⟨0, 0⟩).toArray 27))
            have HB1 := Lib.hid (show (wr.drew.alloc (.cells (ansC ⟨0, 0⟩).toArray 27)).heap[wr.heap.size]? = some (.cells (ansC ⟨0, 0⟩).toArray 27 (0, 0)) from heap_alloc_new wr.drew _)
            have HGE := Lib.hid (show wr.drew.heap.size = wr.heap.size from rfl)
            rw [HGE.out]
            generalize wr.drew.alloc (.cells (ansC ⟨0, 0⟩).toArray 27) = z1 at *
            refine hK.out _ _ ?_ (fun hHeld => ?_)
            · exact (by rw [HSE.out]; exact HZ1.out)
            clear hK K
            try simp only [Act.put, List.setIfInBounds_toArray, List.set_cons_zero, List.set_cons_succ]
            apply wpAnyH_ready (rs := [11])
            · kernel_rfl
            · simp
            apply AllReadyH.cons (hs := AllReadyH.nil)
            · simp only [List.getElem?_toArray]; rfl
            intro K hK
            rw [if_pos (by rfl)]
            refine wp_call9 10 _ _ rfl [.int .u8 st, .int .u8 y.c, y.x.val] rfl Tryd.func10 (by kernel_rfl) (by kernel_rfl) ((HC12.out _ HZ1.out).mono ?_)
            rintro e z2 ⟨rfl, hk⟩
            refine ⟨_, rfl, ?_⟩
            have HZ2 := Lib.hid (HZ1.out.trans hk (FSub.refl _ _))
            have HB2 := Lib.hid (hk.heap HB1.out (by simp))
            clear hk HB1 HGE
            obtain ⟨gz, hgz⟩ : ∃ gz, gz = wr.heap.size := ⟨_, rfl⟩
            rw [← hgz] at HB2 ⊢
            have HG2 := Lib.hid (show wr.heap.size ≤ gz from Nat.le_of_eq hgz.symm)
            clear hgz
            refine hK.out _ _ ?_ (fun hHeld => ?_)
            · exact (by rw [HSE.out]; exact HZ2.out)
            clear hK K
            try simp only [Act.put, List.setIfInBounds_toArray, List.set_cons_zero, List.set_cons_succ]
            apply wpAnyH_take (i := 12)
            · simp only [List.getElem?_toArray]; rfl
            · kernel_rfl
            · kernel_rfl
            · kernel_rfl
            · exact fun _ _ _ h => h
            · exact Or.inl ⟨by rfl, by intro w hSw; go_simp; try with_reducible rfl⟩
            · assumption
            try simp only [Act.put, List.setIfInBounds_toArray, List.set_cons_zero, List.set_cons_succ]
            apply wpAnyH_take (i := 13)
            · simp only [List.getElem?_toArray]; rfl
            · kernel_rfl
            · kernel_rfl
            · kernel_rfl
            · exact fun _ _ _ h => h
            · exact Or.inl ⟨by rfl, by intro w hSw; go_simp; try with_reducible rfl⟩
            · assumption
            try simp only [Act.put, List.setIfInBounds_toArray, List.set_cons_zero, List.set_cons_succ]
            apply wpAnyH_take (i := 14)
            · simp only [List.getElem?_toArray]; rfl
            · kernel_rfl
            · kernel_rfl
            · kernel_rfl
            · exact fun _ _ _ h => h
            · exact Or.inl ⟨by rfl, by intro w hSw; go_simp; try with_reducible rfl⟩
            · assumption
            try simp only [Act.put, List.setIfInBounds_toArray, List.set_cons_zero, List.set_cons_succ]
            apply wpAnyH_take (i := 15)
            · simp only [List.getElem?_toArray]; rfl
            · kernel_rfl
            · kernel_rfl
            · kernel_rfl
            · exact fun _ _ _ h => h
            · exact Or.inl ⟨by rfl, by intro w hSw; go_simp; try with_reducible rfl⟩
            · assumption
            try simp only [Act.put, List.setIfInBounds_toArray, List.set_cons_zero, List.set_cons_succ]
            apply wpAnyH_take (i := 17)
            · simp only [List.getElem?_toArray]; rfl
            · kernel_rfl
            · kernel_rfl
            · kernel_rfl
            · exact fun _ _ _ h => h
            · exact Or.inl ⟨by rfl, by intro w hSw; go_simp; try with_reducible rfl⟩
            · assumption
            try simp only [Act.put, List.setIfInBounds_toArray, List.set_cons_zero, List.set_cons_succ]
            apply wpAnyH_ready (rs := [18])
            · kernel_rfl
            · simp
            apply AllReadyH.cons (hs := AllReadyH.nil)
            · simp only [List.getElem?_toArray]; rfl
            intro K hK
            rw [if_pos (by rfl)]
            refine wp_putN rfl (g := gz) (old := ⟨0, 0⟩) ⟨4, 0⟩ rfl rfl HB2.out (fun z3 hz3 hk => ?_)
            have HB3 := Lib.hid hz3
            have HZ3 := Lib.hid (HZ2.out.trans hk (fun q hq => .inr (by have := HG2.out; simp at hq; omega)))
            clear hz3 hk
            refine hK.out _ _ ?_ (fun hHeld => ?_)
            · exact (by rw [HSE.out]; exact HZ3.out)
            clear hK K
            try simp only [Act.put, List.setIfInBounds_toArray, List.set_cons_zero, List.set_cons_succ]
            apply wpAnyH_take (i := 19)
            · simp only [List.getElem?_toArray]; rfl
            · kernel_rfl
            · kernel_rfl
            · kernel_rfl
            · exact fun _ _ _ h => h
            · exact Or.inl ⟨by rfl, by intro w hSw; go_simp; try with_reducible rfl⟩
            · assumption
            try simp only [Act.put, List.setIfInBounds_toArray, List.set_cons_zero, List.set_cons_succ]
            refine wpAnyH_done (by kernel_rfl) ?_ _
            refine NoPanic.normal ?_
            clear HZ2 HB2
            have HKF := Lib.hid (HKW.out.trans HZ3.out (FSub.refl _ _))
            have d2 : z3.cell? ⟨gz, 0, none⟩ = some (.int .u8 4) := cell_lit HB3.out 0 rfl
            have d4 : z3.cell? ⟨g, o + k * 6, none⟩ = some (.int .u8 y.c) := HZ3.out.cell (cl_parts HRW.out).1 (by simp)
            have d5 : z3.cell? ⟨g, o + k * 6 + 1, none⟩ = some (.int .u8 y.x.f) := HZ3.out.cell ((cl_parts HRW.out).2 0 _ rfl) (by simp)
            clear HB3
            go_wp2_with fail
            refine (HH.out z3).mono ?_; rintro e y3 ⟨rfl, rfl⟩
            go_wp2_with fail
            go_roundw
            case rel => exact ⟨k + 1, st, h, by go_num, by omega, rfl, rfl, HST.out.1, HST.out.2.1, HST.out.2.2, HKF.out⟩
            case measure => simp [intOf]; omega
          · have e1 : lkWho st = h := by unfold lkWho; rw [if_pos (by omega)]; omega
            have e2 : lkHeld st = true := decide_eq_true (by omega)
            have HH := Lib.hid (fun W => e1 ▸ e2 ▸ HHO.out W st (by omega) (by omega))
            have qd : decide (0 ≤ h) = true := decide_eq_true (by omega)
            clear hw hs0 hs1 hh e1 e2 HHO h0
            refine wp_region_noPanic ?_
            refine wp_region_held_drew (S := S) (by kernel_rfl) hSD (fun hHeld => ?_)
            apply wpAnyH_take (i := 0)
            · simp only [List.getElem?_toArray]; rfl
            · kernel_rfl
            · kernel_rfl
            · kernel_rfl
            · exact fun _ _ _ h => h
            · exact Or.inl ⟨by rfl, by intro w hSw; go_simp; try with_reducible rfl⟩
            · assumption
            try simp only [Act.put, List.setIfInBounds_toArray, List.set_cons_zero, List.set_cons_succ]
            apply wpAnyH_take (i := 1)
            · simp only [List.getElem?_toArray]; rfl
            · kernel_rfl
            · kernel_rfl
            · kernel_rfl
            · exact fun _ _ _ h => h
            · exact Or.inl ⟨by rfl, by intro w hSw; go_simp; try with_reducible rfl⟩
            · assumption
            try simp only [Act.put, List.setIfInBounds_toArray, List.set_cons_zero, List.set_cons_succ]
            apply wpAnyH_take (i := 2)
            · simp only [List.getElem?_toArray]; rfl
            · kernel_rfl
            · kernel_rfl
            · kernel_rfl
            · exact fun _ _ _ h => h
            · exact Or.inl ⟨by rfl, by intro w hSw; go_simp; try with_reducible rfl⟩
            · assumption
            try simp only [Act.put, List.setIfInBounds_toArray, List.set_cons_zero, List.set_cons_succ]
            apply wpAnyH_take (i := 3)
            · simp only [List.getElem?_toArray]; rfl
            · kernel_rfl
            · kernel_rfl
            · kernel_rfl
            · exact fun _ _ _ h => h
            · exact yields_indexCl rfl _ _ rfl g o n cp k rfl rfl hlt
            · assumption
            try simp only [Act.put, List.setIfInBounds_toArray, List.set_cons_zero, List.set_cons_succ]
            apply wpAnyH_take (i := 4)
            · simp only [List.getElem?_toArray]; rfl
            · kernel_rfl
            · kernel_rfl
            · kernel_rfl
            · exact fun _ _ _ h => h
            · exact Or.inl ⟨by rfl, by intro w hSw; go_simp; try with_reducible rfl⟩
            · assumption
            try simp only [Act.put, List.setIfInBounds_toArray, List.set_cons_zero, List.set_cons_succ]
            apply wpAnyH_take (i := 5)
            · simp only [List.getElem?_toArray]; rfl
            · kernel_rfl
            · kernel_rfl
            · kernel_rfl
            · exact fun _ _ _ h => h
            · exact Or.inl ⟨by rfl, by intro w hSw; have q0 := HS0.out w hSw; go_simp; try with_reducible rfl⟩
            · assumption
            try simp only [Act.put, List.setIfInBounds_toArray, List.set_cons_zero, List.set_cons_succ]
            apply wpAnyH_take (i := 6)
            · simp only [List.getElem?_toArray]; rfl
            · kernel_rfl
            · kernel_rfl
            · kernel_rfl
            · exact fun _ _ _ h => h
            · exact Or.inl ⟨by rfl, by intro w hSw; go_simp; try with_reducible rfl⟩
            · assumption
            try simp only [Act.put, List.setIfInBounds_toArray, List.set_cons_zero, List.set_cons_succ]
            apply wpAnyH_take (i := 7)
            · simp only [List.getElem?_toArray]; rfl
            · kernel_rfl
            · kernel_rfl
            · kernel_rfl
            · exact fun _ _ _ h => h
            · exact Or.inl ⟨by rfl, by intro w hSw; go_simp; try with_reducible rfl⟩
            · assumption
            try simp only [Act.put, List.setIfInBounds_toArray, List.set_cons_zero, List.set_cons_succ]
            apply wpAnyH_take (i := 8)
            · simp only [List.getElem?_toArray]; rfl
            · kernel_rfl
            · kernel_rfl
            · kernel_rfl
            · exact fun _ _ _ h => h
            · exact yields_indexCl rfl _ _ rfl g o n cp k rfl rfl hlt
            · assumption
            try simp only [Act.put, List.setIfInBounds_toArray, List.set_cons_zero, List.set_cons_succ]
            apply wpAnyH_take (i := 9)
            · simp only [List.getElem?_toArray]; rfl
            · kernel_rfl
            · kernel_rfl
            · kernel_rfl
            · exact fun _ _ _ h => h
            · exact Or.inl ⟨by rfl, by intro w hSw; go_simp; try with_reducible rfl⟩
            · assumption
            try simp only [Act.put, List.setIfInBounds_toArray, List.set_cons_zero, List.set_cons_succ]
            apply wpAnyH_take (i := 10)
            · simp only [List.getElem?_toArray]; rfl
            · kernel_rfl
            · kernel_rfl
            · kernel_rfl
            · exact fun _ _ _ h => h
            · exact yields_loadP y.x rfl _ rfl g _ rfl HS1.out
            · assumption
            try simp only [Act.put, List.setIfInBounds_toArray, List.set_cons_zero, List.set_cons_succ]
            apply wpAnyH_ready (rs := [11, 16])
            · kernel_rfl
            · simp
            apply AllReadyH.cons
            · simp only [List.getElem?_toArray]; rfl
            · intro K hK
              rw [if_pos (by rfl)]
              refine wp_call9 10 _ _ rfl [.int .u8 st, .int .u8 y.c, y.x.val] rfl Tryd.func10 (by kernel_rfl) (by kernel_rfl) ((HC12.out _ ((Keeps.refl [] wr).drew)).mono ?_)
              rintro e z1 ⟨rfl, hk⟩
              refine ⟨_, rfl, ?_⟩
              have HZ1 := Lib.hid (((Keeps.refl [] wr).drew).trans hk (FSub.refl _ _))
              clear hk
              refine hK.out _ _ ?_ (fun hHeld => ?_)
              · exact (by rw [HSE.out]; exact HZ1.out)
              clear hK K
              try simp only [Act.put, List.setIfInBounds_toArray, List.set_cons_zero, List.set_cons_succ]
              apply wpAnyH_take (i := 12)
              · simp only [List.getElem?_toArray]; rfl
              · kernel_rfl
              · kernel_rfl
              · kernel_rfl
              · exact fun _ _ _ h => h
              · exact Or.inl ⟨by rfl, by intro w hSw; go_simp; try with_reducible rfl⟩
              · assumption
              try simp only [Act.put, List.setIfInBounds_toArray, List.set_cons_zero, List.set_cons_succ]
              apply wpAnyH_take (i := 13)
              · simp only [List.getElem?_toArray]; rfl
              · kernel_rfl
              · kernel_rfl
              · kernel_rfl
              · exact fun _ _ _ h => h
              · exact Or.inl ⟨by rfl, by intro w hSw; go_simp; try with_reducible rfl⟩
              · assumption
              try simp only [Act.put, List.setIfInBounds_toArray, List.set_cons_zero, List.set_cons_succ]
              apply wpAnyH_take (i := 14)
              · simp only [List.getElem?_toArray]; rfl
              · kernel_rfl
              · kernel_rfl
              · kernel_rfl
              · exact fun _ _ _ h => h
              · exact Or.inl ⟨by rfl, by intro w hSw; go_simp; try with_reducible rfl⟩
              · assumption
              try simp only [Act.put, List.setIfInBounds_toArray, List.set_cons_zero, List.set_cons_succ]
              apply wpAnyH_take (i := 15)
              · simp only [List.getElem?_toArray]; rfl
              · kernel_rfl
              · kernel_rfl
              · kernel_rfl
              · exact fun _ _ _ h => h
              · exact Or.inl ⟨by rfl, by intro w hSw; go_simp; try with_reducible rfl⟩
              · assumption
              try simp only [Act.put, List.setIfInBounds_toArray, List.set_cons_zero, List.set_cons_succ]
              apply wpAnyH_ready (rs := [16])
              · kernel_rfl
              · simp
              apply AllReadyH.cons (hs := AllReadyH.nil)
              · simp only [List.getElem?_toArray]; rfl
              intro K hK
              rw [if_pos (by rfl)]
              refine wp_allocA _ _ _ _ rfl ?_
              have HZ2 := Lib.hid (HZ1.out.alloc (.cells (ansC ⟨0, 0⟩).toArray 27))
              have HB2 := Lib.hid (heap_alloc_new z1 (.cells (ansC ⟨0, 0⟩).toArray 27))
              have HG2 := Lib.hid HZ1.out.size
              generalize z1.alloc (.cells (ansC ⟨0, 0⟩).toArray 27) = z2 at *
              generalize z1.heap.size = gz at *
              refine hK.out _ _ ?_ (fun hHeld => ?_)
              · exact (by rw [HSE.out]; exact HZ2.out)
              clear hK K
              try simp only [Act.put, List.setIfInBounds_toArray, List.set_cons_zero, List.set_cons_succ]
              apply wpAnyH_take (i := 17)
              · simp only [List.getElem?_toArray]; rfl
              · kernel_rfl
              · kernel_rfl
              · kernel_rfl
              · exact fun _ _ _ h => h
              · exact Or.inl ⟨by rfl, by intro w hSw; go_simp; try with_reducible rfl⟩
              · assumption
              try simp only [Act.put, List.setIfInBounds_toArray, List.set_cons_zero, List.set_cons_succ]
              apply wpAnyH_ready (rs := [18])
              · kernel_rfl
              · simp
              apply AllReadyH.cons (hs := AllReadyH.nil)
              · simp only [List.getElem?_toArray]; rfl
              intro K hK
              rw [if_pos (by rfl)]
              refine wp_putN rfl (g := gz) (old := ⟨0, 0⟩) ⟨4, 0⟩ rfl rfl HB2.out (fun z3 hz3 hk => ?_)
              have HB3 := Lib.hid hz3
              have HZ3 := Lib.hid (HZ2.out.trans hk (fun q hq => .inr (by have := HG2.out; simp at hq; omega)))
              clear hz3 hk
              refine hK.out _ _ ?_ (fun hHeld => ?_)
              · exact (by rw [HSE.out]; exact HZ3.out)
              clear hK K
              try simp only [Act.put, List.setIfInBounds_toArray, List.set_cons_zero, List.set_cons_succ]
              apply wpAnyH_take (i := 19)
              · simp only [List.getElem?_toArray]; rfl
              · kernel_rfl
              · kernel_rfl
              · kernel_rfl
              · exact fun _ _ _ h => h
              · exact Or.inl ⟨by rfl, by intro w hSw; go_simp; try with_reducible rfl⟩
              · assumption
              try simp only [Act.put, List.setIfInBounds_toArray, List.set_cons_zero, List.set_cons_succ]
              refine wpAnyH_done (by kernel_rfl) ?_ _
              refine NoPanic.normal ?_
              clear HZ2 HB2
              have HKF := Lib.hid (HKW.out.trans HZ3.out (FSub.refl _ _))
              have d2 : z3.cell? ⟨gz, 0, none⟩ = some (.int .u8 4) := cell_lit HB3.out 0 rfl
              have d4 : z3.cell? ⟨g, o + k * 6, none⟩ = some (.int .u8 y.c) := HZ3.out.cell (cl_parts HRW.out).1 (by simp)
              have d5 : z3.cell? ⟨g, o + k * 6 + 1, none⟩ = some (.int .u8 y.x.f) := HZ3.out.cell ((cl_parts HRW.out).2 0 _ rfl) (by simp)
              clear HB3
              go_wp2_with fail
              refine (HH.out z3).mono ?_; rintro e y3 ⟨rfl, rfl⟩
              go_wp2_with fail
              go_roundw
              case rel => exact ⟨k + 1, st, h, by go_num, by omega, rfl, rfl, HST.out.1, HST.out.2.1, HST.out.2.2, HKF.out⟩
              case measure => simp [intOf]; omega
            apply AllReadyH.cons (hs := AllReadyH.nil)
            · simp only [List.getElem?_toArray]; rfl
            intro K hK
            rw [if_pos (by rfl)]
            refine wp_allocA _ _ _ _ rfl ?_
            have HZ1 := Lib.hid (((Keeps.refl [] wr).drew).alloc (.cells (ansC ⟨0, 0⟩).toArray 27))
            have HB1 := Lib.hid (show (wr.drew.alloc (.cells (ansC ⟨0, 0⟩).toArray 27)).heap[wr.heap.size]? = some (.cells (ansC ⟨0, 0⟩).toArray 27 (0, 0)) from heap_alloc_new wr.drew _)
            have HGE := Lib.hid (show wr.drew.heap.size = wr.heap.size from rfl)
            rw [HGE.out]
            generalize wr.drew.alloc (.cells (ansC ⟨0, 0⟩).toArray 27) = z1 at *
            refine hK.out _ _ ?_ (fun hHeld => ?_)
            · exact (by rw [HSE.out]; exact HZ1.out)
            clear hK K
            try simp only [Act.put, List.setIfInBounds_toArray, List.set_cons_zero, List.set_cons_succ]
            apply wpAnyH_ready (rs := [11])
            · kernel_rfl
            · simp
            apply AllReadyH.cons (hs := AllReadyH.nil)
            · simp only [List.getElem?_toArray]; rfl
            intro K hK
            rw [if_pos (by rfl)]
            refine wp_call9 10 _ _ rfl [.int .u8 st, .int .u8 y.c, y.x.val] rfl Tryd.func10 (by kernel_rfl) (by kernel_rfl) ((HC12.out _ HZ1.out).mono ?_)
            rintro e z2 ⟨rfl, hk⟩
            refine ⟨_, rfl, ?_⟩
            have HZ2 := Lib.hid (HZ1.out.trans hk (FSub.refl _ _))
            have HB2 := Lib.hid (hk.heap HB1.out (by simp))
            clear hk HB1 HGE
            obtain ⟨gz, hgz⟩ : ∃ gz, gz = wr.heap.size := ⟨_, rfl⟩
            rw [← hgz] at HB2 ⊢
            have HG2 := Lib.hid (show wr.heap.size ≤ gz from Nat.le_of_eq hgz.symm)
            clear hgz
            refine hK.out _ _ ?_ (fun hHeld => ?_)
            · exact (by rw [HSE.out]; exact HZ2.out)
            clear hK K
            try simp only [Act.put, List.setIfInBounds_toArray, List.set_cons_zero, List.set_cons_succ]
            apply wpAnyH_take (i := 12)
            · simp only [List.getElem?_toArray]; rfl
            · kernel_rfl
            · kernel_rfl
            · kernel_rfl
            · exact fun _ _ _ h => h
            · exact Or.inl ⟨by rfl, by intro w hSw; go_simp; try with_reducible rfl⟩
            · assumption
            try simp only [Act.put, List.setIfInBounds_toArray, List.set_cons_zero, List.set_cons_succ]
            apply wpAnyH_take (i := 13)
            · simp only [List.getElem?_toArray]; rfl
            · kernel_rfl
            · kernel_rfl
            · kernel_rfl
            · exact fun _ _ _ h => h
            · exact Or.inl ⟨by rfl, by intro w hSw; go_simp; try with_reducible rfl⟩
            · assumption
            try simp only [Act.put, List.setIfInBounds_toArray, List.set_cons_zero, List.set_cons_succ]
            apply wpAnyH_take (i := 14)
            · simp only [List.getElem?_toArray]; rfl
            · kernel_rfl
            · kernel_rfl
            · kernel_rfl
            · exact fun _ _ _ h => h
            · exact Or.inl ⟨by rfl, by intro w hSw; go_simp; try with_reducible rfl⟩
            · assumption
            try simp only [Act.put, List.setIfInBounds_toArray, List.set_cons_zero, List.set_cons_succ]
            apply wpAnyH_take (i := 15)
            · simp only [List.getElem?_toArray]; rfl
            · kernel_rfl
            · kernel_rfl
            · kernel_rfl
            · exact fun _ _ _ h => h
            · exact Or.inl ⟨by rfl, by intro w hSw; go_simp; try with_reducible rfl⟩
            · assumption
            try simp only [Act.put, List.setIfInBounds_toArray, List.set_cons_zero, List.set_cons_succ]
            apply wpAnyH_take (i := 17)
            · simp only [List.getElem?_toArray]; rfl
            · kernel_rfl
            · kernel_rfl
            · kernel_rfl
            · exact fun _ _ _ h => h
            · exact Or.inl ⟨by rfl, by intro w hSw; go_simp; try with_reducible rfl⟩
            · assumption
            try simp only [Act.put, List.setIfInBounds_toArray, List.set_cons_zero, List.set_cons_succ]
            apply wpAnyH_ready (rs := [18])
            · kernel_rfl
            · simp
            apply AllReadyH.cons (hs := AllReadyH.nil)
            · simp only [List.getElem?_toArray]; rfl
            intro K hK
            rw [if_pos (by rfl)]
            refine wp_putN rfl (g := gz) (old := ⟨0, 0⟩) ⟨4, 0⟩ rfl rfl HB2.out (fun z3 hz3 hk => ?_)
            have HB3 := Lib.hid hz3
            have HZ3 := Lib.hid (HZ2.out.trans hk (fun q hq => .inr (by have := HG2.out; simp at hq; omega)))
            clear hz3 hk
            refine hK.out _ _ ?_ (fun hHeld => ?_)
            · exact (by rw [HSE.out]; exact HZ3.out)
            clear hK K
            try simp only [Act.put, List.setIfInBounds_toArray, List.set_cons_zero, List.set_cons_succ]
            apply wpAnyH_take (i := 19)
            · simp only [List.getElem?_toArray]; rfl
            · kernel_rfl
            · kernel_rfl
            · kernel_rfl
            · exact fun _ _ _ h => h
            · exact Or.inl ⟨by rfl, by intro w hSw; go_simp; try with_reducible rfl⟩
            · assumption
            try simp only [Act.put, List.setIfInBounds_toArray, List.set_cons_zero, List.set_cons_succ]
            refine wpAnyH_done (by kernel_rfl) ?_ _
            refine NoPanic.normal ?_
            clear HZ2 HB2
            have HKF := Lib.hid (HKW.out.trans HZ3.out (FSub.refl _ _))
            have d2 : z3.cell? ⟨gz, 0, none⟩ = some (.int .u8 4) := cell_lit HB3.out 0 rfl
            have d4 : z3.cell? ⟨g, o + k * 6, none⟩ = some (.int .u8 y.c) := HZ3.out.cell (cl_parts HRW.out).1 (by simp)
            have d5 : z3.cell? ⟨g, o + k * 6 + 1, none⟩ = some (.int .u8 y.x.f) := HZ3.out.cell ((cl_parts HRW.out).2 0 _ rfl) (by simp)
            clear HB3
            go_wp2_with fail
            refine (HH.out z3).mono ?_; rintro e y3 ⟨rfl, rfl⟩
            go_wp2_with fail
            go_roundw
            case rel => exact ⟨k + 1, st, h, by go_num, by omega, rfl, rfl, HST.out.1, HST.out.2.1, HST.out.2.2, HKF.out⟩
            case measure => simp [intOf]; omega
      · clear hk hkw hs0 hs1 hh
        have hb1 : ¬ (k : Int) < n := by omega
        go_wp2_with fail
        refine (HW.out _ HKW.out).mono ?_; rintro e w3 ⟨rfl, hk3⟩
        have HKF := Lib.hid (HKW.out.trans hk3 (FSub.refl _ _))
        clear hk3
        go_wp2_with fail
        go_ret
        exact ⟨rfl, HKF.out⟩
  · have z0 : (200 : Int) < l.length := by omega
    clear hI hl hG
    go_enter Tryd.func6, Tryd.ntmps6
    go_wp2_with fail
    refine (HW.out _ (Keeps.refl _ _)).mono ?_; rintro e w3 ⟨rfl, hk3⟩
    go_wp2_with fail
    go_ret
    exact ⟨rfl, hk3⟩
end Go.Proofs.YtbjhgdimciibcaaDoor
