/-
  The program's history: why what a client has open may not end so.
-/
import Derived.Test.YtlaccndjlfpjbaaGreatDoorD16
import Derived.Test.YtlaccndjlfpjbaaGreatDoorD17
import Derived.Test.YtlaccndjlfpjbaaGreatDoorD02
import Derived.Test.YtlaccndjlfpjbaaGreatDoorD12
set_option linter.unusedSimpArgs false
set_option linter.unusedVariables false
namespace Go.Proofs.YtlaccndjlfpjbaaGreatDoor
open Go.RowKit Go.Maps
/-- Why what is open may not end so. -/
def pEndE (pe x : Ev) : Int :=
  if pe.k = 0 then 7 else if pe.id = x.id then (if x.k = 3 then mayOf pe.o.f x.rk x.rv else if x.k = 6 ∧ hReads pe.t ≠ x.r.length then 10 else 0) else 7
theorem yields_ev_mid {ops : Array Oper} {S : World → Prop} {o : Oper} {a : Act} {x : Ev} {tx rd : Value} (hw : Region.wanted o (yielded ops a.tmps) = true) (y : Operand) (ho : o.op = .load 42 y) (b off : Nat) (hx : a.eval y = .pointer (some ⟨b, off, none⟩))
    (hS : ∀ w, S w → w.rangeAt b off (evC x tx rd).toList) : YieldsIf Tryz.prog ops S o (.agg (evC x tx rd)) a := by
  have := yieldsIf_load_mid (P := Tryz.prog) hw 42 y ho b off hx (evC x tx rd).toList _ hS Tryz.underlying42 rfl (by rw [evC_len]; kernel_rfl)
  rwa [Array.toArray_toList] at this
theorem wp_put_ev1 {o : Oper} {a : Act} {w : World} {K : Act → World → Prop} {Q : Exit → Act → World → Prop} {x y : Operand} {g : Nat} {old : Array Value} {t : TypeId} {e : Ev} {tx rd : Value}
    (ho : o.op = .store 42 x y) (hx : a.eval x = .pointer (some ⟨g, 0, none⟩)) (hy : a.eval y = .agg (evC e tx rd)) (hg : w.heap[g]? = some (.cells old t (0, 0))) (hs : old.size = 19) (h1 : tx.oneCell' = true) (h2 : rd.oneCell' = true)
    (h : ∀ W, W.heap[g]? = some (.cells (evC e tx rd) t (0, 0)) → Keeps [g] w W → K (a.put o.dst undef) W) : o.wp Tryz.prog a w K Q :=
  wp_store_row 42 x y ho g (evC e tx rd) hx hy t old hg (by kernel_rfl) (by rw [hs]; rfl) (by rw [← Array.all_toList]; exact evC_one e h1 h2) (h _ (setRow_heap w g old (evC e tx rd) t (0, 0) hg) ((Keeps.refl [g] w).setRow g _ (.inl (by simp))))
set_option maxHeartbeats 8000000
set_option maxRecDepth 100000
theorem mayEnd_any (w : World) {p mb n : Nat} {g : Cfg} {on : Bool} {op : EvL} {la : Int} {ap : List Mic} {O : List Nat} (hP : HPast w p mb n g on op la ap O)
    (x : Ev) (hx : x.In) {N : Nat} (tx rd : Value) (ht : EvAt N w tx rd x) (hN : N ≤ w.heap.size) (c : Nat) (hc : c < op.length) (hxc : x.c = (c : Int)) (h8 : (op[c]).1.t.length ≤ 1000) :
    Calls Tryz.prog 41 #[.pointer (some ⟨p, 0, none⟩), .agg (evC x tx rd)] w fun e w' => e = .returned (.int .i64 (pEndE (op[c]).1 x)) ∧ Keeps [] w w' := by
  have HONE1 := Lib.hid ht.t.one
  obtain ⟨ar, cr, rfl, -⟩ := ht.r
  clear ht
  obtain ⟨pin, pt, pr2, pr3⟩ := hP.evs c hc
  have hk0 := (Keeps.refl [] w).alloc (.cells (evC x tx (.slice ar x.r.length cr)) 42)
  have hX := heap_alloc_new w (.cells (evC x tx (.slice ar x.r.length cr)) 42)
  have hc16 : c < 16 := by rw [← hP.len]; exact hc
  have hc16i : (c : Int) < 16 := by omega
  have hP0 := hP.new hk0
  have hrange := past_ev hP0.heap c hc
  have hkd := past_kind hP0.heap c hc
  have hpt0 := pt.keeps hk0 (by simp)
  rw [pr2] at hrange
  have HONE2 := Lib.hid hpt0.mics.one
  obtain ⟨PE, hPE⟩ : ∃ PE, PE = (op[c]).1 := ⟨_, rfl⟩
  obtain ⟨PT, hPT⟩ : ∃ PT, PT = (op[c]).2.1 := ⟨_, rfl⟩
  rw [← hPE, ← hPT] at hpt0
  rw [← hPE, ← hPT] at hrange
  rw [← hPE] at hkd pin h8
  rw [← hPT] at HONE2
  rw [← hPE]
  clear hPE hPT pr2 pr3 pt
  have HPT := Lib.hid hpt0; have HRG := Lib.hid hrange; have HKD := Lib.hid hkd; have HK0 := Lib.hid hk0; have HP0 := Lib.hid hP0.heap
  have e1 := ev_cell hX 1 (evC_1 x tx (.slice ar x.r.length cr))
  rw [hxc] at e1
  have HX := Lib.hid hX
  generalize hR : pEndE PE x = R at *
  have HR := Lib.hid hR
  have HIN := Lib.hid hx; have HPI := Lib.hid pin
  clear hR hX hP hP0 hk0 hx hpt0 hrange hkd pin
  go_enter Tryz.func41, Tryz.ntmps41
  go_wp2_with fail
  generalize w.alloc (.cells (evC x tx (.slice ar x.r.length cr)) 42) = W at *
  generalize w.heap.size = B at *
  obtain ⟨S, hS⟩ : ∃ S : World → Prop, S = fun y => Keeps [] W y := ⟨_, rfl⟩
  have HSE := Lib.hid hS
  have hs1 : ∀ w', S w' → w'.cell? ⟨B, 1, none⟩ = some (.int .u8 c) := fun w' h => by rw [hS] at h; exact h.cell e1 (by simp)
  have HS2 := Lib.hid (fun (w' : World) (h : S w') => show w'.rangeAt p (8 + c * 19) (evC PE PT (.slice none 0 0)).toList from by rw [hS] at h; exact fun j v hj => h.cell (HRG.out j v hj) (by simp))
  have hSD : S W.drew := by rw [hS]; exact (Keeps.refl _ _).drew
  clear hS
  refine wp_region_noPanic ?_
  refine wp_region_held_drew (S := S) (by kernel_rfl) hSD (fun hHeld => ?_)
  apply wpAnyH_take (i := 0)
  · simp only [List.getElem?_toArray]; rfl
  · kernel_rfl
  · kernel_rfl
  · kernel_rfl
  · exact fun _ _ _ h => h
  · exact Or.inl ⟨by rfl, by intro w hSw; go_simp; try with_reducible rfl⟩
  · assumption
  try simp only [Act.put, List.setIfInBounds_toArray, List.set_cons_zero, List.set_cons_succ]
  apply wpAnyH_take (i := 1)
  · simp only [List.getElem?_toArray]; rfl
  · kernel_rfl
  · kernel_rfl
  · kernel_rfl
  · exact fun _ _ _ h => h
  · exact Or.inl ⟨by rfl, by intro w hSw; go_simp; try with_reducible rfl⟩
  · assumption
  try simp only [Act.put, List.setIfInBounds_toArray, List.set_cons_zero, List.set_cons_succ]
  apply wpAnyH_take (i := 2)
  · simp only [List.getElem?_toArray]; rfl
  · kernel_rfl
  · kernel_rfl
  · kernel_rfl
  · exact fun _ _ _ h => h
  · exact Or.inl ⟨by rfl, by intro w hSw; have q0 := hs1 w hSw; go_simp; try with_reducible rfl⟩
  · assumption
  try simp only [Act.put, List.setIfInBounds_toArray, List.set_cons_zero, List.set_cons_succ]
  apply wpAnyH_take (i := 3)
  · simp only [List.getElem?_toArray]; rfl
  · kernel_rfl
  · kernel_rfl
  · kernel_rfl
  · exact fun _ _ _ h => h
  · exact Or.inl ⟨by rfl, by intro w hSw; go_simp; try with_reducible rfl⟩
  · assumption
  try simp only [Act.put, List.setIfInBounds_toArray, List.set_cons_zero, List.set_cons_succ]
  apply wpAnyH_take (i := 4)
  · simp only [List.getElem?_toArray]; rfl
  · kernel_rfl
  · kernel_rfl
  · kernel_rfl
  · exact fun _ _ _ h => h
  · exact Or.inl ⟨by rfl, by intro w hSw; go_simp; try with_reducible rfl⟩
  · assumption
  try simp only [Act.put, List.setIfInBounds_toArray, List.set_cons_zero, List.set_cons_succ]
  apply wpAnyH_take (i := 5)
  · simp only [List.getElem?_toArray]; rfl
  · kernel_rfl
  · kernel_rfl
  · kernel_rfl
  · exact fun _ _ _ h => h
  · exact Or.inl ⟨by rfl, by intro w hSw; go_simp; try with_reducible rfl⟩
  · assumption
  try simp only [Act.put, List.setIfInBounds_toArray, List.set_cons_zero, List.set_cons_succ]
  apply wpAnyH_take (i := 6)
  · simp only [List.getElem?_toArray]; rfl
  · kernel_rfl
  · kernel_rfl
  · kernel_rfl
  · exact fun _ _ _ h => h
  · exact yields_ev_mid (by rfl) _ rfl p (8 + c * 19) rfl HS2.out
  · assumption
  try simp only [Act.put, List.setIfInBounds_toArray, List.set_cons_zero, List.set_cons_succ]
  apply wpAnyH_ready (rs := [7])
  · kernel_rfl
  · simp
  apply AllReadyH.cons (hs := AllReadyH.nil)
  · simp only [List.getElem?_toArray]; rfl
  intro K hK
  rw [if_pos (by rfl)]
  go_simp
  refine hK.out _ _ ?_ (fun hHeld => ?_)
  · exact (by rw [HSE.out]; exact ((Keeps.refl _ _).alloc _).drew)
  clear hK K
  try simp only [Act.put, List.setIfInBounds_toArray, List.set_cons_zero, List.set_cons_succ]
  apply wpAnyH_ready (rs := [8])
  · kernel_rfl
  · simp
  apply AllReadyH.cons (hs := AllReadyH.nil)
  · simp only [List.getElem?_toArray]; rfl
  intro K hK
  rw [if_pos (by rfl)]
  refine wp_put_ev1 rfl rfl rfl (heap_alloc_new W _) rfl HONE2.out rfl ?_
  intro W3 hB3 hk3
  have hkA : Keeps [] W W3 := (((Keeps.refl [] W).alloc (.cells (evC evZero (.slice none 0 0) (.slice none 0 0)) 42)).drew).trans hk3 (fun q hq => .inr (by simp at hq; omega))
  refine hK.out _ _ ?_ (fun hHeld => ?_)
  · exact (by rw [HSE.out]; exact hkA)
  clear hK K
  try simp only [Act.put, List.setIfInBounds_toArray, List.set_cons_zero, List.set_cons_succ]
  refine wpAnyH_done (by kernel_rfl) ?_ _
  refine NoPanic.normal ?_
  have HKA := Lib.hid hkA
  have hbz : B < W.heap.size := lt_of_block HX.out
  have HBUSY := Lib.hid (busy_cell W3 p c PE.k hc16 (hkA.cell HKD.out (by simp)))
  have HX3 := Lib.hid (hkA.heap HX.out (by simp)); have HPT3 := Lib.hid (HPT.out.keeps hkA (by simp))
  have HK3 := Lib.hid (HK0.out.trans hkA (FSub.refl _ _))
  clear hkA hk3 hHeld hs1 HS2 hSD HSE HRG HKD HPT HX HP0 HKA HK0 e1
  generalize W.heap.size = C at *
  have hB := hB3; have hX := HX3.out
  have c2 := ev_cell hB 2 (evC_2 PE PT (.slice none 0 0)); have c3 := ev_cell hB 3 (evC_3 PE PT (.slice none 0 0)); have c10 := ev_cell hB 10 (evC_10 PE PT (.slice none 0 0))
  have e0 := ev_cell hX 0 (evC_0 x tx (.slice ar x.r.length cr)); have e1 := ev_cell hX 1 (evC_1 x tx (.slice ar x.r.length cr)); have e2 := ev_cell hX 2 (evC_2 x tx (.slice ar x.r.length cr))
  have e8 := ev_cell hX 8 (evC_8 x tx (.slice ar x.r.length cr)); have e9 := ev_cell hX 9 (evC_9 x tx (.slice ar x.r.length cr)); have e11 := ev_cell hX 11 (evC_11 x tx (.slice ar x.r.length cr))
  rw [hxc] at e1
  clear hB hX
  by_cases hz : PE.k = 0
  · have hd : decide (PE.k ≠ 0) = false := by simp [hz]
    obtain rfl : R = 7 := HR.out.symm.trans (by unfold pEndE; rw [if_pos hz])
    rw [hd] at HBUSY
    clear HR hz hd
    go_wp2_with fail
    refine (HBUSY.out).mono ?_; rintro e w4 ⟨rfl, rfl⟩
    go_wp2_with fail
    go_ret
    exact ⟨rfl, HK3.out⟩
  · have hd : decide (PE.k ≠ 0) = true := by simp [hz]
    rw [hd] at HBUSY
    clear hd
    by_cases hid : PE.id = x.id
    · have HR2 := Lib.hid (show (if x.k = 3 then mayOf PE.o.f x.rk x.rv else if x.k = 6 ∧ hReads PE.t ≠ x.r.length then 10 else 0) = R by rw [← HR.out]; simp [pEndE, hz, hid])
      rw [hid] at c2
      have hi2 : (x.id != x.id) = false := by simp
      clear HR hz hid
      by_cases h3 : x.k = 3
      · have hr3 : mayOf PE.o.f x.rk x.rv = R := by rw [← HR2.out, if_pos h3]
        rw [h3] at e0
        have hmay := rsMay_any W3 PE.o.f x.rk x.rv HIN.out.rk0 HIN.out.rk1
        rw [hr3] at hmay
        have HMAY := Lib.hid hmay
        clear HR2 h3 hr3 hmay
        go_wp2_with fail
        refine (HBUSY.out).mono ?_; rintro e w4 ⟨rfl, rfl⟩
        go_wp2_with fail
        refine (HMAY.out).mono ?_; rintro e w5 ⟨rfl, hk5⟩
        go_wp2_with fail
        go_ret
        exact ⟨rfl, HK3.out.trans hk5 (FSub.refl _ _)⟩
      · have h3b : (x.k == 3) = false := by simpa using h3
        by_cases h6 : x.k = 6
        · have HR4 := Lib.hid (show (if hReads PE.t ≠ x.r.length then (10 : Int) else 0) = R by rw [← HR2.out]; simp [h6])
          rw [h6] at e0
          clear HR2 h3 h6 h3b
          have HRD := Lib.hid (fun (w' : World) (hk : Keeps [] W3 w') => reads_any w' PE.t PT ((HPT3.out.keeps hk (by simp)).mics) h8 (Nat.le_refl _))
          go_wp2_with fail
          refine (HBUSY.out).mono ?_; rintro e w4 ⟨rfl, rfl⟩
          go_wp2_with fail
          obtain ⟨S, hS⟩ : ∃ S : World → Prop, S = fun y => Keeps [] w4 y := ⟨_, rfl⟩
          have HSE := Lib.hid hS
          have hs1 : ∀ w', S w' → w'.cell? ⟨B, 0, none⟩ = some (.int .u8 6) := fun w' h => by rw [hS] at h; exact h.cell e0 (by simp)
          have hs2 : ∀ w', S w' → w'.cell? ⟨B, 11, none⟩ = some (.slice ar x.r.length cr) := fun w' h => by rw [hS] at h; exact h.cell e11 (by simp)
          have hs3 : ∀ w', S w' → w'.cell? ⟨C, 10, none⟩ = some PT := fun w' h => by rw [hS] at h; exact h.cell c10 (by simp)
          have hSD : S w4.drew := by rw [hS]; exact (Keeps.refl _ _).drew
          clear hS
          refine wp_region_noPanic ?_
          refine wp_region_held_drew (S := S) (by kernel_rfl) hSD (fun hHeld => ?_)
          apply wpAnyH_take (i := 0)
          · simp only [List.getElem?_toArray]; rfl
          · kernel_rfl
          · kernel_rfl
          · kernel_rfl
          · exact fun _ _ _ h => h
          · exact Or.inl ⟨by rfl, by intro w hSw; go_simp; try with_reducible rfl⟩
          · assumption
          try simp only [Act.put, List.setIfInBounds_toArray, List.set_cons_zero, List.set_cons_succ]
          apply wpAnyH_take (i := 1)
          · simp only [List.getElem?_toArray]; rfl
          · kernel_rfl
          · kernel_rfl
          · kernel_rfl
          · exact fun _ _ _ h => h
          · exact Or.inl ⟨by rfl, by intro w hSw; have q0 := hs1 w hSw; go_simp; try with_reducible rfl⟩
          · assumption
          try simp only [Act.put, List.setIfInBounds_toArray, List.set_cons_zero, List.set_cons_succ]
          apply wpAnyH_take (i := 2)
          · simp only [List.getElem?_toArray]; rfl
          · kernel_rfl
          · kernel_rfl
          · kernel_rfl
          · exact fun _ _ _ h => h
          · exact Or.inl ⟨by rfl, by intro w hSw; go_simp; try with_reducible rfl⟩
          · assumption
          try simp only [Act.put, List.setIfInBounds_toArray, List.set_cons_zero, List.set_cons_succ]
          apply wpAnyH_take (i := 3)
          · simp only [List.getElem?_toArray]; rfl
          · kernel_rfl
          · kernel_rfl
          · kernel_rfl
          · exact fun _ _ _ h => h
          · exact Or.inl ⟨by rfl, by intro w hSw; go_simp; try with_reducible rfl⟩
          · assumption
          try simp only [Act.put, List.setIfInBounds_toArray, List.set_cons_zero, List.set_cons_succ]
          apply wpAnyH_take (i := 4)
          · simp only [List.getElem?_toArray]; rfl
          · kernel_rfl
          · kernel_rfl
          · kernel_rfl
          · exact fun _ _ _ h => h
          · exact Or.inl ⟨by rfl, by intro w hSw; go_simp; try with_reducible rfl⟩
          · assumption
          try simp only [Act.put, List.setIfInBounds_toArray, List.set_cons_zero, List.set_cons_succ]
          apply wpAnyH_take (i := 5)
          · simp only [List.getElem?_toArray]; rfl
          · kernel_rfl
          · kernel_rfl
          · kernel_rfl
          · exact fun _ _ _ h => h
          · exact Or.inl ⟨by rfl, by intro w hSw; have q0 := hs2 w hSw; go_simp; try with_reducible rfl⟩
          · assumption
          try simp only [Act.put, List.setIfInBounds_toArray, List.set_cons_zero, List.set_cons_succ]
          apply wpAnyH_take (i := 6)
          · simp only [List.getElem?_toArray]; rfl
          · kernel_rfl
          · kernel_rfl
          · kernel_rfl
          · exact fun _ _ _ h => h
          · exact Or.inl ⟨by rfl, by intro w hSw; go_simp; try with_reducible rfl⟩
          · assumption
          try simp only [Act.put, List.setIfInBounds_toArray, List.set_cons_zero, List.set_cons_succ]
          apply wpAnyH_take (i := 7)
          · simp only [List.getElem?_toArray]; rfl
          · kernel_rfl
          · kernel_rfl
          · kernel_rfl
          · exact fun _ _ _ h => h
          · exact Or.inl ⟨by rfl, by intro w hSw; go_simp; try with_reducible rfl⟩
          · assumption
          try simp only [Act.put, List.setIfInBounds_toArray, List.set_cons_zero, List.set_cons_succ]
          apply wpAnyH_take (i := 8)
          · simp only [List.getElem?_toArray]; rfl
          · kernel_rfl
          · kernel_rfl
          · kernel_rfl
          · exact fun _ _ _ h => h
          · exact Or.inl ⟨by rfl, by intro w hSw; have q0 := hs3 w hSw; go_simp; try with_reducible rfl⟩
          · assumption
          try simp only [Act.put, List.setIfInBounds_toArray, List.set_cons_zero, List.set_cons_succ]
          apply wpAnyH_ready (rs := [9])
          · kernel_rfl
          · simp
          apply AllReadyH.cons (hs := AllReadyH.nil)
          · simp only [List.getElem?_toArray]; rfl
          intro K hK
          rw [if_pos (by rfl)]
          go_simp
          refine (HRD.out _ (Keeps.refl _ _).drew).mono ?_; rintro e w5 ⟨rfl, hk5⟩
          go_wp2_with fail
          have hk5 : Keeps [] w4 w5 := (Keeps.refl [] w4).drew.trans hk5 (FSub.refl _ _)
          have HK5 := Lib.hid (HK3.out.trans hk5 (FSub.refl _ _))
          refine hK.out _ _ ?_ (fun hHeld => ?_)
          · exact (by rw [HSE.out]; exact hk5)
          clear hK K
          try simp only [Act.put, List.setIfInBounds_toArray, List.set_cons_zero, List.set_cons_succ]
          clear hs1 hs2 hs3 hSD HRD
          by_cases hq : hReads PE.t = x.r.length
          · have t1 : ((x.r.length : Int) != (hReads PE.t : Int)) = false := by simp [hq]
            obtain rfl : R = 0 := HR4.out.symm.trans (by simp [hq])
            clear HR4 hq
            apply wpAnyH_take (i := 10)
            · simp only [List.getElem?_toArray]; rfl
            · kernel_rfl
            · kernel_rfl
            · kernel_rfl
            · exact fun _ _ _ h => h
            · exact Or.inl ⟨by rfl, by intro w hSw; go_simp; try with_reducible rfl⟩
            · assumption
            try simp only [Act.put, List.setIfInBounds_toArray, List.set_cons_zero, List.set_cons_succ]
            apply wpAnyH_take (i := 11)
            · simp only [List.getElem?_toArray]; rfl
            · kernel_rfl
            · kernel_rfl
            · kernel_rfl
            · exact fun _ _ _ h => h
            · exact Or.inl ⟨by rfl, by intro w hSw; go_simp; try with_reducible rfl⟩
            · assumption
            try simp only [Act.put, List.setIfInBounds_toArray, List.set_cons_zero, List.set_cons_succ]
            apply wpAnyH_take (i := 12)
            · simp only [List.getElem?_toArray]; rfl
            · kernel_rfl
            · kernel_rfl
            · kernel_rfl
            · exact fun _ _ _ h => h
            · exact Or.inl ⟨by rfl, by intro w hSw; go_simp; try with_reducible rfl⟩
            · assumption
            try simp only [Act.put, List.setIfInBounds_toArray, List.set_cons_zero, List.set_cons_succ]
            refine wpAnyH_done (by kernel_rfl) ?_ _
            refine NoPanic.normal ?_
            go_wp2_with fail
            go_ret
            exact ⟨rfl, HK5.out⟩
          · have t1 : ((x.r.length : Int) != (hReads PE.t : Int)) = true := by simp; omega
            obtain rfl : R = 10 := HR4.out.symm.trans (by simp [hq])
            clear HR4 hq
            apply wpAnyH_take (i := 10)
            · simp only [List.getElem?_toArray]; rfl
            · kernel_rfl
            · kernel_rfl
            · kernel_rfl
            · exact fun _ _ _ h => h
            · exact Or.inl ⟨by rfl, by intro w hSw; go_simp; try with_reducible rfl⟩
            · assumption
            try simp only [Act.put, List.setIfInBounds_toArray, List.set_cons_zero, List.set_cons_succ]
            apply wpAnyH_take (i := 11)
            · simp only [List.getElem?_toArray]; rfl
            · kernel_rfl
            · kernel_rfl
            · kernel_rfl
            · exact fun _ _ _ h => h
            · exact Or.inl ⟨by rfl, by intro w hSw; go_simp; try with_reducible rfl⟩
            · assumption
            try simp only [Act.put, List.setIfInBounds_toArray, List.set_cons_zero, List.set_cons_succ]
            apply wpAnyH_take (i := 12)
            · simp only [List.getElem?_toArray]; rfl
            · kernel_rfl
            · kernel_rfl
            · kernel_rfl
            · exact fun _ _ _ h => h
            · exact Or.inl ⟨by rfl, by intro w hSw; go_simp; try with_reducible rfl⟩
            · assumption
            try simp only [Act.put, List.setIfInBounds_toArray, List.set_cons_zero, List.set_cons_succ]
            refine wpAnyH_done (by kernel_rfl) ?_ _
            refine NoPanic.normal ?_
            go_wp2_with fail
            go_ret
            exact ⟨rfl, HK5.out⟩
        · obtain rfl : R = 0 := HR2.out.symm.trans (by rw [if_neg h3, if_neg (fun h => h6 h.1)])
          have h6b : (x.k == 6) = false := by simpa using h6
          clear HR2 h3 h6
          go_wp2_with fail
          refine (HBUSY.out).mono ?_; rintro e w4 ⟨rfl, rfl⟩
          go_wp2_with fail
          go_quiet (fail)
          go_wp2_with fail
          go_ret
          exact ⟨rfl, HK3.out.drewN nq⟩
    · obtain rfl : R = 7 := HR.out.symm.trans (by simp [pEndE, hz, hid])
      have hid2 : (PE.id != x.id) = true := by simpa using hid
      clear HR hz hid
      go_wp2_with fail
      refine (HBUSY.out).mono ?_; rintro e w4 ⟨rfl, rfl⟩
      go_wp2_with fail
      go_ret
      exact ⟨rfl, HK3.out⟩
end Go.Proofs.YtlaccndjlfpjbaaGreatDoor
/-
  The program's history: why an event may not follow.
-/
namespace Go.Proofs.YtlaccndjlfpjbaaGreatDoor
open Go.RowKit Go.Maps
/-- Why an event may not follow, of what the program keeps. -/
noncomputable def pErrE (g : Cfg) (on : Bool) (la : Int) (ap : List Mic) (pe x : Ev) : Int :=
  if evGood x = false then 4 else if on = decide (x.k = 1) then 11 else if hWrong g.m x.k then 10 else if x.k = 1 then 0 else if hOpens x then pOpenE pe.k g.m la ap x else pEndE pe x
theorem good_mics {x : Ev} (h : evGood x = true) : (∀ m ∈ x.t, m.key < 8) ∧ x.t.length ≤ 8 := by
  by_cases hk : x.k = 5
  · have hf : evFits x = true := by
      unfold evGood at h
      simp only [Bool.and_eq_true] at h
      exact h.1.2
    unfold evFits at hf
    rw [if_neg (by omega), if_neg (by omega), if_neg (by omega), if_pos hk] at hf
    unfold micsGood at hf
    simp only [Bool.and_eq_true, decide_eq_true_eq, List.all_eq_true] at hf
    refine ⟨fun m hm => ?_, hf.1.2⟩
    have := hf.2 m hm
    simp [micGood] at this
    exact this.1
  · rw [good_t h hk]
    exact ⟨by simp, by simp⟩
set_option maxHeartbeats 8000000
set_option maxRecDepth 100000
theorem refusal_any (w : World) (hG : Glob4 w) {p mb n : Nat} {g : Cfg} {on : Bool} {op : EvL} {la : Int} {ap : List Mic} {O : List Nat} (hP : HPast w p mb n g on op la ap O) (g0 : 0 ≤ g.m) (g1 : g.m < 256) (l0 : -1 ≤ la) (l1 : la < 65536)
    (h8 : ∀ c (h : c < op.length), (op[c]).1.t.length ≤ 8) (x : Ev) (hx : x.In) {N : Nat} (tx rd : Value) (ht : EvAt N w tx rd x) (hN : N ≤ w.heap.size) (c : Nat) (hxc : x.c = (c : Int)) :
    Calls Tryz.prog 28 #[.pointer (some ⟨p, 0, none⟩), .agg (evC x tx rd)] w fun e w' => e = .returned (.int .i64 (pErrE g on la ap (op.getD c evZ).1 x)) ∧ Keeps [] w w' := by
  have hk0 := (Keeps.refl [] w).alloc (.cells (evC x tx rd) 42)
  have hX := heap_alloc_new w (.cells (evC x tx rd) 42)
  have hl16 := hP.len
  have HCK := Lib.hid (Check5_any (w.alloc (.cells (evC x tx rd) 42)) (hG.new hk0) x hx tx rd (ht.new hk0 hN) (Nat.le_trans hN hk0.size))
  generalize hR : pErrE g on la ap (op.getD c evZ).1 x = R at *
  have HR := Lib.hid hR
  have HG := Lib.hid hG; have HP := Lib.hid hP; have HT := Lib.hid ht; have HX := Lib.hid hX; have HK0 := Lib.hid hk0; have HIN := Lib.hid hx; have H8 := Lib.hid h8
  clear hR hG hP ht hk0 hx h8
  go_enter Tryz.func28, Tryz.ntmps28
  go_wp2_with ((with_reducible apply wpList_load_ev); exact rfl; (first | assumption | (refine heap_alloc_lt ?_; assumption) | (refine heap_alloc_lt (heap_alloc_lt ?_); assumption) | exact heap_alloc_at (by simp)); exact rfl)
  refine (HCK.out).mono ?_; rintro e w1 ⟨rfl, hk1⟩
  have HK1 := Lib.hid (HK0.out.trans hk1 (FSub.refl _ _))
  have hX1 := hk1.heap hX (by simp)
  clear HCK HK0 hk1 hX HX
  have hB : w.heap.size < w1.heap.size := lt_of_block hX1
  generalize hBq : w.heap.size = B at *
  have HBq := Lib.hid hBq; clear hBq
  have hP1 := HP.out.new HK1.out
  have HP1 := Lib.hid hP1
  have a0 := past_c0 hP1.heap; have a7 := past_c7 hP1.heap
  have e0 := ev_cell hX1 0 (evC_0 x tx rd)
  have HX1 := Lib.hid hX1
  have HT1 := Lib.hid (HT.out.new HK1.out (by rw [HBq.out]; exact hN))
  have HG1 := Lib.hid (HG.out.new HK1.out)
  have hN1 : N ≤ w1.heap.size := by omega
  clear hP1 hX1 HP HT HG
  cases hg : evGood x with
  | false =>
    have he : evErr x = 4 := by unfold evErr; rw [hg]; rfl
    obtain rfl : R = 4 := HR.out.symm.trans (by unfold pErrE; rw [if_pos hg])
    rw [he]
    clear hg he HR
    go_wp2_with fail
    go_ret
    exact ⟨rfl, HK1.out⟩
  | true =>
    have he : evErr x = 0 := by unfold evErr; rw [hg]; rfl
    rw [he]
    obtain ⟨hc16i, hnd, hkk⟩ := good_need hg
    obtain ⟨hk8, hl8⟩ := good_mics hg
    have hc16 : c < 16 := by omega
    have hcl : c < op.length := by omega
    have hpe : op.getD c evZ = op[c] := by simp [List.getD, hcl]
    rw [hpe] at HR
    have HR2 := Lib.hid (show (if on = decide (x.k = 1) then (11 : Int) else if hWrong g.m x.k then 10 else if x.k = 1 then 0 else if hOpens x then pOpenE (op[c]).1.k g.m la ap x else pEndE (op[c]).1 x) = R by rw [← HR.out]; unfold pErrE; rw [hg]; rfl)
    have HND := Lib.hid hnd; have HK8 := Lib.hid hk8
    clear HR hg he hpe hnd hk8
    have hfor := fun w => foreign_any w g.m x.k hkk
    by_cases k1 : x.k = 1
    · rw [k1] at e0 hfor
      have hw1 : decide (hWrong g.m 1) = false := by simp [hWrong]
      rw [hw1] at hfor
      have HFOR := Lib.hid hfor; clear hfor hw1
      cases on with
      | true =>
        obtain rfl : R = 11 := HR2.out.symm.trans (by simp [k1])
        clear HR2 k1
        go_wp2_with fail
        go_quiet (fail)
        go_wp2_with fail
        go_ret
        exact ⟨rfl, HK1.out.drewN nq⟩
      | false =>
        obtain rfl : R = 0 := HR2.out.symm.trans (by simp [k1, hWrong])
        clear HR2 k1
        go_wp2_with fail
        go_quiet (fail)
        go_wp2_with fail
        have hkn := (Keeps.refl [] w1).drewN nq
        have b0 := hkn.cell a0 (by simp); have f0 := hkn.cell e0 (by simp)
        generalize w1.drewN nq = W1 at *
        have HKN := Lib.hid hkn
        clear hkn a0 e0 a7
        go_quiet ((go_at_call 39; exact Calls.quiet_of_same (HFOR.out _)))
        go_wp2_with fail
        go_ret
        exact ⟨rfl, HK1.out.trans (HKN.out.drewN _) (FSub.refl _ _)⟩
    · have t1 : (x.k == 1) = false := by simpa using k1
      cases on with
      | false =>
        obtain rfl : R = 11 := HR2.out.symm.trans (by simp [k1])
        clear HR2 k1 hfor
        go_wp2_with fail
        go_quiet (fail)
        go_wp2_with fail
        go_ret
        exact ⟨rfl, HK1.out.drewN nq⟩
      | true =>
        by_cases hwr : hWrong g.m x.k
        · have hw1 : decide (hWrong g.m x.k) = true := by simpa using hwr
          obtain rfl : R = 10 := HR2.out.symm.trans (by simp [k1, hwr])
          rw [hw1] at hfor
          have HFOR := Lib.hid hfor; clear hfor hw1 HR2 k1 hwr
          go_wp2_with fail
          go_quiet (fail)
          go_wp2_with fail
          have hkn := (Keeps.refl [] w1).drewN nq
          have b0 := hkn.cell a0 (by simp); have f0 := hkn.cell e0 (by simp)
          generalize w1.drewN nq = W1 at *
          have HKN := Lib.hid hkn
          clear hkn a0 e0 a7
          go_quiet ((go_at_call 39; exact Calls.quiet_of_same (HFOR.out _)))
          go_wp2_with fail
          go_ret
          exact ⟨rfl, HK1.out.trans (HKN.out.drewN _) (FSub.refl _ _)⟩
        · have hw1 : decide (hWrong g.m x.k) = false := by simpa using hwr
          have HR3 := Lib.hid (show (if hOpens x then pOpenE (op[c]).1.k g.m la ap x else pEndE (op[c]).1 x) = R by rw [← HR2.out]; simp [k1, hwr])
          rw [hw1] at hfor
          have HFOR := Lib.hid hfor; clear hfor hw1 HR2 k1 hwr
          rcases bool_two (hOpens x) with ho | ho
          · have hk25 : x.k = 2 ∨ x.k = 5 := by simpa [hOpens] using ho
            have HR4 := Lib.hid (show pOpenE (op[c]).1.k g.m la ap x = R by rw [← HR3.out, ho]; rfl)
            clear HR3 ho
            rcases hk25 with h2 | h2
            all_goals
              rw [h2] at e0 HFOR
              have HE0 := Lib.hid e0
              clear h2
              go_wp2_with fail
              go_quiet (fail)
              go_wp2_with fail
              have hkn := (Keeps.refl [] w1).drewN nq
              have b0 := hkn.cell a0 (by simp); have f0 := hkn.cell e0 (by simp)
              generalize w1.drewN nq = W1 at *
              have HKN := Lib.hid hkn
              clear hkn a0 e0 a7
              go_quiet ((go_at_call 39; exact Calls.quiet_of_same (HFOR.out _)))
              have hkm := HKN.out.trans ((Keeps.refl [] W1).drewN nq) (FSub.refl _ _)
              have d0 := hkm.cell (HE0.out) (by simp)
              generalize W1.drewN nq = W2 at *
              have hX2 := hkm.heap HX1.out (by simp)
              have HKM := Lib.hid hkm
              have HMO := Lib.hid (mayOpen_any W2 (HG1.out.new hkm) (HP1.out.new hkm) g0 g1 l0 l1 x HIN.out HK8.out tx rd (HT1.out.new hkm hN1) (Nat.le_trans hN1 hkm.size) c hcl hxc)
              rw [HR4.out] at HMO
              clear b0 f0 hkm HKN HFOR HR4
              go_wp2_with ((with_reducible apply wpList_load_ev); exact rfl; (first | assumption | (refine heap_alloc_lt ?_; assumption) | (refine heap_alloc_lt (heap_alloc_lt ?_); assumption) | exact heap_alloc_at (by simp)); exact rfl)
              refine (HMO.out).mono ?_; rintro e w3 ⟨rfl, hk3⟩
              go_wp2_with fail
              go_ret
              exact ⟨rfl, HK1.out.trans (HKM.out.trans hk3 (FSub.refl _ _)) (FSub.refl _ _)⟩
          · have hk25 : x.k ≠ 2 ∧ x.k ≠ 5 := by simpa [hOpens] using ho
            have t2 : (x.k == 2) = false := by simpa using hk25.1
            have t5 : (x.k == 5) = false := by simpa using hk25.2
            have HR4 := Lib.hid (show pEndE (op[c]).1 x = R by rw [← HR3.out, ho]; rfl)
            clear HR3 ho hk25
            have HE0 := Lib.hid e0
            go_wp2_with fail
            go_quiet (fail)
            go_wp2_with fail
            have hkn := (Keeps.refl [] w1).drewN nq
            have b0 := hkn.cell a0 (by simp); have f0 := hkn.cell e0 (by simp)
            generalize w1.drewN nq = W1 at *
            have HKN := Lib.hid hkn
            clear hkn a0 e0 a7
            go_quiet ((go_at_call 39; exact Calls.quiet_of_same (HFOR.out _)))
            have hkm := HKN.out.trans ((Keeps.refl [] W1).drewN nq) (FSub.refl _ _)
            have d0 := hkm.cell (HE0.out) (by simp)
            generalize W1.drewN nq = W2 at *
            have hX2 := hkm.heap HX1.out (by simp)
            have HKM := Lib.hid hkm
            have HME := Lib.hid (mayEnd_any W2 (HP1.out.new hkm) x HIN.out tx rd (HT1.out.new hkm hN1) (Nat.le_trans hN1 hkm.size) c hcl hxc (Nat.le_trans (H8.out c hcl) (by decide)))
            rw [HR4.out] at HME
            clear b0 f0 hkm HKN HFOR HR4
            go_wp2_with ((with_reducible apply wpList_load_ev); exact rfl; (first | assumption | (refine heap_alloc_lt ?_; assumption) | (refine heap_alloc_lt (heap_alloc_lt ?_); assumption) | exact heap_alloc_at (by simp)); exact rfl)
            refine (HME.out).mono ?_; rintro e w3 ⟨rfl, hk3⟩
            go_wp2_with fail
            go_ret
            exact ⟨rfl, HK1.out.trans (HKM.out.trans hk3 (FSub.refl _ _)) (FSub.refl _ _)⟩
end Go.Proofs.YtlaccndjlfpjbaaGreatDoor
/-
  The program's history: what opens is taken.
-/
namespace Go.Proofs.YtlaccndjlfpjbaaGreatDoor
open Go.RowKit Go.Maps
theorem EvAt.mapKeeps {N mb n : Nat} {ap : List Mic} {w w' : World} {tx rd : Value} {x : Ev} (h : EvAt N w tx rd x) (hm : MapAt w mb n ap) (hk : Keeps [mb] w w') : EvAt N w' tx rd x := by
  have hc : ∀ {bk o : Nat} {v : Value}, w.cell? ⟨bk, o, none⟩ = some v → w'.cell? ⟨bk, o, none⟩ = some v := fun h => hk.cell h (by simpa using map_no_cell hm h)
  obtain ⟨⟨a, c, rfl, h1, h2, h3⟩, ⟨a', c', rfl, h4, h5, h6⟩⟩ := h
  refine ⟨⟨a, c, rfl, h1, h2, fun hn => ?_⟩, ⟨a', c', rfl, h4, h5, fun hn => ?_⟩⟩
  · obtain ⟨bk, o, rfl, hb, h7⟩ := h3 hn
    exact ⟨bk, o, rfl, hb, fun j m hj => ⟨hc (h7 j m hj).1, hc (h7 j m hj).2.1, hc (h7 j m hj).2.2⟩⟩
  · obtain ⟨bk, o, rfl, hb, h7⟩ := h6 hn
    refine ⟨bk, o, rfl, hb, fun j hj => ?_⟩
    obtain ⟨u, hu, a2, c2, rfl, h8, h9, h10⟩ := h7 j hj
    refine ⟨_, hc hu, a2, c2, rfl, h8, h9, fun hn2 => ?_⟩
    obtain ⟨bk2, o2, rfl, hb2, h11⟩ := h10 hn2
    exact ⟨bk2, o2, rfl, hb2, fun i hi => hc (h11 i hi)⟩
set_option maxHeartbeats 8000000
set_option maxRecDepth 100000
/-- What is told behind an event that opens something. -/
def OpensPost (w : World) (p mb n : Nat) (g : Cfg) (on : Bool) (op : EvL) (ap : List Mic) (O : List Nat) (x : Ev) (c : Nat) (e : Ending) (w' : World) : Prop :=
  e = .returned (.tuple #[]) ∧ ∃ tx' O', HPast w' p mb (n + x.t.length) g on (op.set c ({ x with r := [] }, tx', .slice none 0 0)) x.id (ap ++ x.t) O' ∧ Keeps [p, mb] w w' ∧ FSub O' O w.heap.size
theorem accept_open (w : World) {p mb n : Nat} {g : Cfg} {on : Bool} {op : EvL} {la : Int} {ap : List Mic} {O : List Nat} (hP : HPast w p mb n g on op la ap O) (hn : n ≤ 1000000) (x : Ev) (hx : x.In) (hk : x.k = 5 ∨ (x.k = 2 ∧ x.t = [])) (hl : x.t.length ≤ 1000)
    {N : Nat} (tx rd : Value) (ht : EvAt N w tx rd x) (hN : N ≤ w.heap.size) (c : Nat) (hc : c < op.length) (hxc : x.c = (c : Int)) :
    Calls Tryz.prog 29 #[.pointer (some ⟨p, 0, none⟩), .agg (evC x tx rd)] w (OpensPost w p mb n g on op ap O x c) := by
  have hk0 := (Keeps.refl [] w).alloc (.cells (evC x tx rd) 42)
  have hX := heap_alloc_new w (.cells (evC x tx rd) 42)
  have hP0 := hP.new hk0
  have e0 := ev_cell hX 0 (evC_0 x tx rd)
  have e10 := ev_cell hX 10 (evC_10 x tx rd)
  have hmb : w.heap.size ≠ mb := map_no_cell hP0.map e0
  have hpz := lt_of_block hP.heap
  have hpB : p ≠ w.heap.size := by omega
  have ht0 := ht.new hk0 hN
  have hN0 : N ≤ (w.alloc (.cells (evC x tx rd) 42)).heap.size := Nat.le_trans hN hk0.size
  have hc16 : (c : Int) < 16 := by have := hP.len; omega
  have i0 := hx.i0; have i1 := hx.i1
  have hw : IntKind.i64.wrap x.id = x.id := by simp [IntKind.wrap, IntKind.bits, IntKind.signed]; omega
  have HRI := Lib.hid (show ({ x with r := [] } : Ev).In from { hx with r := by simp })
  have HP := Lib.hid hP0; have HK0 := Lib.hid hk0; have HX := Lib.hid hX; have HT := Lib.hid ht0; have HI := Lib.hid hx.t
  clear hP hP0 hk0 hX ht hx ht0
  go_enter Tryz.func29, Tryz.ntmps29
  have e1 := ev_cell HX.out 1 (evC_1 x tx rd); have e2 := ev_cell HX.out 2 (evC_2 x tx rd)
  rw [hxc] at e1
  rcases hk with hk | ⟨hk, hte⟩
  · rw [hk] at e0
    have HADD := Lib.hid (add_any _ HP.out hn x.t HI.out tx HT.out.t hN0 hl)
    go_wp2_with fail
    refine (HADD.out).mono ?_; rintro e W ⟨rfl, hPW, hkW⟩
    have HPW := Lib.hid hPW
    have HKW := Lib.hid ((HK0.out.more (G := [p, mb]) (by simp)).step hkW (fun q hq => by simp at hq; simp [hq]))
    have hXW := hkW.heap HX.out (by simpa using hmb)
    replace e1 := hkW.cell e1 (by simpa using hmb)
    replace e2 := hkW.cell e2 (by simpa using hmb)
    have HTW := Lib.hid (show EvAt N W tx rd x from HT.out.mapKeeps HP.out.map hkW)
    have hNW : N ≤ W.heap.size := Nat.le_trans hN0 hkW.size
    clear HP HK0 HX HT hN0 hk hxc hPW hkW HADD
    go_wp2_with fail
    generalize hBq : w.heap.size = B at *
    have HBq := Lib.hid hBq; clear hBq
    have hPW := HPW.out
    have hp1 := hPW.heap
    have HXW := Lib.hid hXW
    obtain ⟨S, hS⟩ : ∃ S : World → Prop, S = fun y => Keeps [p] W y := ⟨_, rfl⟩
    have HSE := Lib.hid hS
    have hs1 : ∀ w', S w' → w'.cell? ⟨B, 1, none⟩ = some (.int .u8 c) := fun w' h => by rw [hS] at h; exact h.cell e1 (by simpa using hpB.symm)
    have hs2 : ∀ w', S w' → w'.cell? ⟨B, 2, none⟩ = some (.int .u16 x.id) := fun w' h => by rw [hS] at h; exact h.cell e2 (by simpa using hpB.symm)
    have HS3 := Lib.hid (fun (w' : World) (h : S w') => show w'.rangeAt B 0 (evC x tx rd).toList from by rw [hS] at h; exact fun j v hj => by rw [Nat.zero_add]; exact ev_cell (h.heap hXW (by simpa using hpB.symm)) j (by simpa using hj))
    have hSD : S W.drew := by rw [hS]; exact (Keeps.refl _ _).drew
    clear hS
    refine wp_region_noPanic ?_
    refine wp_region_held_drew (S := S) (by kernel_rfl) hSD (fun hHeld => ?_)
    apply wpAnyH_take (i := 0)
    · simp only [List.getElem?_toArray]; rfl
    · kernel_rfl
    · kernel_rfl
    · kernel_rfl
    · exact fun _ _ _ h => h
    · exact Or.inl ⟨by rfl, by intro w hSw; go_simp; try with_reducible rfl⟩
    · assumption
    try simp only [Act.put, List.setIfInBounds_toArray, List.set_cons_zero, List.set_cons_succ]
    apply wpAnyH_take (i := 1)
    · simp only [List.getElem?_toArray]; rfl
    · kernel_rfl
    · kernel_rfl
    · kernel_rfl
    · exact fun _ _ _ h => h
    · exact Or.inl ⟨by rfl, by intro w hSw; go_simp; try with_reducible rfl⟩
    · assumption
    try simp only [Act.put, List.setIfInBounds_toArray, List.set_cons_zero, List.set_cons_succ]
    apply wpAnyH_take (i := 2)
    · simp only [List.getElem?_toArray]; rfl
    · kernel_rfl
    · kernel_rfl
    · kernel_rfl
    · exact fun _ _ _ h => h
    · exact Or.inl ⟨by rfl, by intro w hSw; have q0 := hs1 w hSw; go_simp; try with_reducible rfl⟩
    · assumption
    try simp only [Act.put, List.setIfInBounds_toArray, List.set_cons_zero, List.set_cons_succ]
    apply wpAnyH_take (i := 3)
    · simp only [List.getElem?_toArray]; rfl
    · kernel_rfl
    · kernel_rfl
    · kernel_rfl
    · exact fun _ _ _ h => h
    · exact Or.inl ⟨by rfl, by intro w hSw; go_simp; try with_reducible rfl⟩
    · assumption
    try simp only [Act.put, List.setIfInBounds_toArray, List.set_cons_zero, List.set_cons_succ]
    apply wpAnyH_take (i := 4)
    · simp only [List.getElem?_toArray]; rfl
    · kernel_rfl
    · kernel_rfl
    · kernel_rfl
    · exact fun _ _ _ h => h
    · exact yields_ev_mid (by rfl) _ rfl B 0 rfl HS3.out
    · assumption
    try simp only [Act.put, List.setIfInBounds_toArray, List.set_cons_zero, List.set_cons_succ]
    apply wpAnyH_take (i := 6)
    · simp only [List.getElem?_toArray]; rfl
    · kernel_rfl
    · kernel_rfl
    · kernel_rfl
    · exact fun _ _ _ h => h
    · exact Or.inl ⟨by rfl, by intro w hSw; go_simp; try with_reducible rfl⟩
    · assumption
    try simp only [Act.put, List.setIfInBounds_toArray, List.set_cons_zero, List.set_cons_succ]
    apply wpAnyH_take (i := 7)
    · simp only [List.getElem?_toArray]; rfl
    · kernel_rfl
    · kernel_rfl
    · kernel_rfl
    · exact fun _ _ _ h => h
    · exact Or.inl ⟨by rfl, by intro w hSw; have q0 := hs2 w hSw; go_simp; try with_reducible rfl⟩
    · assumption
    try simp only [Act.put, List.setIfInBounds_toArray, List.set_cons_zero, List.set_cons_succ]
    apply wpAnyH_take (i := 8)
    · simp only [List.getElem?_toArray]; rfl
    · kernel_rfl
    · kernel_rfl
    · kernel_rfl
    · exact fun _ _ _ h => h
    · exact Or.inl ⟨by rfl, by intro w hSw; go_simp; try with_reducible rfl⟩
    · assumption
    try simp only [Act.put, List.setIfInBounds_toArray, List.set_cons_zero, List.set_cons_succ]
    apply wpAnyH_take (i := 9)
    · simp only [List.getElem?_toArray]; rfl
    · kernel_rfl
    · kernel_rfl
    · kernel_rfl
    · exact fun _ _ _ h => h
    · exact Or.inl ⟨by rfl, by intro w hSw; go_simp; try with_reducible rfl⟩
    · assumption
    try simp only [Act.put, List.setIfInBounds_toArray, List.set_cons_zero, List.set_cons_succ]
    apply wpAnyH_take (i := 10)
    · simp only [List.getElem?_toArray]; rfl
    · kernel_rfl
    · kernel_rfl
    · kernel_rfl
    · exact fun _ _ _ h => h
    · exact Or.inl ⟨by rfl, by intro w hSw; go_simp; try with_reducible rfl⟩
    · assumption
    try simp only [Act.put, List.setIfInBounds_toArray, List.set_cons_zero, List.set_cons_succ]
    apply wpAnyH_ready (rs := [5])
    · kernel_rfl
    · simp
    apply AllReadyH.cons (hs := AllReadyH.nil)
    · simp only [List.getElem?_toArray]; rfl
    intro K hK
    rw [if_pos (by rfl)]
    go_simp
    refine (own_any _ x tx rd (HTW.out.new ((Keeps.refl [] W).drew) hNW) hNW hl).mono ?_; rintro e W2 ⟨v2, rfl, hin2, hk2, hown2⟩
    have hk2 : Keeps [] W W2 := (Keeps.refl [] W).drew.trans hk2 (FSub.refl _ _)
    have HP2 := Lib.hid (hPW.new hk2); have HK2 := Lib.hid hk2; have HIN2 := Lib.hid hin2; have HOWN2 := Lib.hid (show ∀ q ∈ own v2, W.heap.size ≤ q ∧ q < W2.heap.size from hown2)
    go_wp2_with fail
    refine hK.out _ _ ?_ (fun hHeld => ?_)
    · exact (by rw [HSE.out]; exact HK2.out.more (by simp))
    clear hK K
    try simp only [Act.put, List.setIfInBounds_toArray, List.set_cons_zero, List.set_cons_succ]
    clear hk2 hin2 hown2 hs1 hs2 HS3 hSD
    apply wpAnyH_take (i := 11)
    · simp only [List.getElem?_toArray]; rfl
    · kernel_rfl
    · kernel_rfl
    · kernel_rfl
    · exact fun _ _ _ h => h
    · exact Or.inl ⟨by rfl, by intro w hSw; go_simp; try with_reducible rfl⟩
    · assumption
    try simp only [Act.put, List.setIfInBounds_toArray, List.set_cons_zero, List.set_cons_succ]
    apply wpAnyH_ready (rs := [12])
    · kernel_rfl
    · simp
    apply AllReadyH.cons (hs := AllReadyH.nil)
    · simp only [List.getElem?_toArray]; rfl
    intro K hK
    rw [if_pos (by rfl)]
    refine wp_put_open { x with r := [] } v2 (.slice none 0 0) c rfl rfl rfl HP2.out.heap hc HIN2.out.mics.one rfl ?_
    intro W3 h3 k3
    have HKX := Lib.hid k3
    have hk3 : Keeps [p] W W3 := (HK2.out.more (G := [p]) (by simp)).step k3 (fun q hq => hq)
    refine hK.out _ _ ?_ (fun hHeld => ?_)
    · exact (by rw [HSE.out]; exact hk3)
    clear hK K
    try simp only [Act.put, List.setIfInBounds_toArray, List.set_cons_zero, List.set_cons_succ]
    have HK3 := Lib.hid hk3
    clear hk3 k3
    apply wpAnyH_take (i := 13)
    · simp only [List.getElem?_toArray]; rfl
    · kernel_rfl
    · kernel_rfl
    · kernel_rfl
    · exact fun _ _ _ h => h
    · exact Or.inl ⟨by rfl, by intro w hSw; go_simp; try with_reducible rfl⟩
    · assumption
    try simp only [Act.put, List.setIfInBounds_toArray, List.set_cons_zero, List.set_cons_succ]
    apply wpAnyH_take (i := 14)
    · simp only [List.getElem?_toArray]; rfl
    · kernel_rfl
    · kernel_rfl
    · kernel_rfl
    · exact fun _ _ _ h => h
    · exact Or.inl ⟨by rfl, by intro w hSw; go_simp; try with_reducible rfl⟩
    · assumption
    try simp only [Act.put, List.setIfInBounds_toArray, List.set_cons_zero, List.set_cons_succ]
    apply wpAnyH_ready (rs := [15])
    · kernel_rfl
    · simp
    apply AllReadyH.cons (hs := AllReadyH.nil)
    · simp only [List.getElem?_toArray]; rfl
    intro K hK
    rw [if_pos (by rfl)]
    refine wp_put_la x.id (by rw [List.length_set]; exact HP2.out.len) rfl rfl rfl h3 ?_
    intro W4 h4 k4
    have hk4 : Keeps [p] W W4 := HK3.out.step k4 (fun q hq => hq)
    have hk24 : Keeps [p] W2 W4 := HKX.out.step k4 (fun q hq => hq)
    refine hK.out _ _ ?_ (fun hHeld => ?_)
    · exact (by rw [HSE.out]; exact hk4)
    clear hK K
    try simp only [Act.put, List.setIfInBounds_toArray, List.set_cons_zero, List.set_cons_succ]
    refine wpAnyH_done (by kernel_rfl) ?_ _
    refine NoPanic.normal ?_
    have h := HP2.out
    have HFIN := Lib.hid (show HPast W4 p mb (n + x.t.length) g on (op.set c ({ x with r := [] }, v2, .slice none 0 0)) x.id (ap ++ x.t) (O ++ own v2) from ⟨h4, by rw [List.length_set]; exact h.len, h.map.keeps hk24 (by simpa using Ne.symm h.pm), fun d hd => by
      rw [List.length_set] at hd
      rw [List.getElem_set]
      split
      · exact ⟨HRI.out, (HIN2.out.keeps hk24 (fun q hq hf => by simp at hf; have := (HOWN2.out q hq).1; have := lt_of_block HPW.out.heap; omega)).more (by simp; intro q hq; exact .inr hq), rfl, rfl⟩
      · exact ⟨(h.evs d hd).1, ((h.evs d hd).2.1.keeps hk24 (fun q hq hf => h.pO (by simp at hf; rw [← hf]; exact hq))).more (by simp; intro q hq; exact .inl hq), (h.evs d hd).2.2⟩,
      h.pm, by
        simp only [List.mem_append, not_or]
        exact ⟨h.pO, fun hq => by have := (HOWN2.out p hq).1; have := lt_of_block HPW.out.heap; omega⟩, by
        simp only [List.mem_append, not_or]
        exact ⟨h.mO, fun hq => by have := (HOWN2.out mb hq).1; have := HPW.out.map.lt; omega⟩, fun q hq => by
          rcases List.mem_append.1 hq with h1 | h1
          · exact Nat.lt_of_lt_of_le (h.oz q h1) hk24.size
          · exact Nat.lt_of_lt_of_le (HOWN2.out q h1).2 hk24.size⟩)
    have HFK := Lib.hid (HKW.out.trans hk4 (fun q hq => .inl (by simp at hq; simp [hq])))
    have HSZ := Lib.hid HKW.out.size
    clear h hk4 hk24 h4 k4 h3
    go_wp2_with fail
    go_end0
    exact ⟨rfl, v2, O ++ own v2, HFIN.out, HFK.out, fun q hq => by
      rcases List.mem_append.1 hq with h | h
      · exact .inl h
      · exact .inr (Nat.le_trans HSZ.out (HOWN2.out q h).1)⟩
  · rw [hk] at e0
    go_wp2_with fail
    have HPW := Lib.hid (show HPast (w.alloc (.cells (evC x tx rd) 42)) p mb (n + x.t.length) g on op la (ap ++ x.t) O by rw [hte]; simpa using HP.out)
    have HKW := Lib.hid (HK0.out.more (G := [p, mb]) (by simp))
    have hXW := HX.out
    have HTW := HT
    have hNW := hN0
    clear HP HK0 HX HT hN0 hk hxc hte
    generalize w.alloc (.cells (evC x tx rd) 42) = W at *
    generalize hBq : w.heap.size = B at *
    have HBq := Lib.hid hBq; clear hBq
    have hPW := HPW.out
    have hp1 := hPW.heap
    have HXW := Lib.hid hXW
    obtain ⟨S, hS⟩ : ∃ S : World → Prop, S = fun y => Keeps [p] W y := ⟨_, rfl⟩
    have HSE := Lib.hid hS
    have hs1 : ∀ w', S w' → w'.cell? ⟨B, 1, none⟩ = some (.int .u8 c) := fun w' h => by rw [hS] at h; exact h.cell e1 (by simpa using hpB.symm)
    have hs2 : ∀ w', S w' → w'.cell? ⟨B, 2, none⟩ = some (.int .u16 x.id) := fun w' h => by rw [hS] at h; exact h.cell e2 (by simpa using hpB.symm)
    have HS3 := Lib.hid (fun (w' : World) (h : S w') => show w'.rangeAt B 0 (evC x tx rd).toList from by rw [hS] at h; exact fun j v hj => by rw [Nat.zero_add]; exact ev_cell (h.heap hXW (by simpa using hpB.symm)) j (by simpa using hj))
    have hSD : S W.drew := by rw [hS]; exact (Keeps.refl _ _).drew
    clear hS
    refine wp_region_noPanic ?_
    refine wp_region_held_drew (S := S) (by kernel_rfl) hSD (fun hHeld => ?_)
    apply wpAnyH_take (i := 0)
    · simp only [List.getElem?_toArray]; rfl
    · kernel_rfl
    · kernel_rfl
    · kernel_rfl
    · exact fun _ _ _ h => h
    · exact Or.inl ⟨by rfl, by intro w hSw; go_simp; try with_reducible rfl⟩
    · assumption
    try simp only [Act.put, List.setIfInBounds_toArray, List.set_cons_zero, List.set_cons_succ]
    apply wpAnyH_take (i := 1)
    · simp only [List.getElem?_toArray]; rfl
    · kernel_rfl
    · kernel_rfl
    · kernel_rfl
    · exact fun _ _ _ h => h
    · exact Or.inl ⟨by rfl, by intro w hSw; go_simp; try with_reducible rfl⟩
    · assumption
    try simp only [Act.put, List.setIfInBounds_toArray, List.set_cons_zero, List.set_cons_succ]
    apply wpAnyH_take (i := 2)
    · simp only [List.getElem?_toArray]; rfl
    · kernel_rfl
    · kernel_rfl
    · kernel_rfl
    · exact fun _ _ _ h => h
    · exact Or.inl ⟨by rfl, by intro w hSw; have q0 := hs1 w hSw; go_simp; try with_reducible rfl⟩
    · assumption
    try simp only [Act.put, List.setIfInBounds_toArray, List.set_cons_zero, List.set_cons_succ]
    apply wpAnyH_take (i := 3)
    · simp only [List.getElem?_toArray]; rfl
    · kernel_rfl
    · kernel_rfl
    · kernel_rfl
    · exact fun _ _ _ h => h
    · exact Or.inl ⟨by rfl, by intro w hSw; go_simp; try with_reducible rfl⟩
    · assumption
    try simp only [Act.put, List.setIfInBounds_toArray, List.set_cons_zero, List.set_cons_succ]
    apply wpAnyH_take (i := 4)
    · simp only [List.getElem?_toArray]; rfl
    · kernel_rfl
    · kernel_rfl
    · kernel_rfl
    · exact fun _ _ _ h => h
    · exact yields_ev_mid (by rfl) _ rfl B 0 rfl HS3.out
    · assumption
    try simp only [Act.put, List.setIfInBounds_toArray, List.set_cons_zero, List.set_cons_succ]
    apply wpAnyH_take (i := 6)
    · simp only [List.getElem?_toArray]; rfl
    · kernel_rfl
    · kernel_rfl
    · kernel_rfl
    · exact fun _ _ _ h => h
    · exact Or.inl ⟨by rfl, by intro w hSw; go_simp; try with_reducible rfl⟩
    · assumption
    try simp only [Act.put, List.setIfInBounds_toArray, List.set_cons_zero, List.set_cons_succ]
    apply wpAnyH_take (i := 7)
    · simp only [List.getElem?_toArray]; rfl
    · kernel_rfl
    · kernel_rfl
    · kernel_rfl
    · exact fun _ _ _ h => h
    · exact Or.inl ⟨by rfl, by intro w hSw; have q0 := hs2 w hSw; go_simp; try with_reducible rfl⟩
    · assumption
    try simp only [Act.put, List.setIfInBounds_toArray, List.set_cons_zero, List.set_cons_succ]
    apply wpAnyH_take (i := 8)
    · simp only [List.getElem?_toArray]; rfl
    · kernel_rfl
    · kernel_rfl
    · kernel_rfl
    · exact fun _ _ _ h => h
    · exact Or.inl ⟨by rfl, by intro w hSw; go_simp; try with_reducible rfl⟩
    · assumption
    try simp only [Act.put, List.setIfInBounds_toArray, List.set_cons_zero, List.set_cons_succ]
    apply wpAnyH_take (i := 9)
    · simp only [List.getElem?_toArray]; rfl
    · kernel_rfl
    · kernel_rfl
    · kernel_rfl
    · exact fun _ _ _ h => h
    · exact Or.inl ⟨by rfl, by intro w hSw; go_simp; try with_reducible rfl⟩
    · assumption
    try simp only [Act.put, List.setIfInBounds_toArray, List.set_cons_zero, List.set_cons_succ]
    apply wpAnyH_take (i := 10)
    · simp only [List.getElem?_toArray]; rfl
    · kernel_rfl
    · kernel_rfl
    · kernel_rfl
    · exact fun _ _ _ h => h
    · exact Or.inl ⟨by rfl, by intro w hSw; go_simp; try with_reducible rfl⟩
    · assumption
    try simp only [Act.put, List.setIfInBounds_toArray, List.set_cons_zero, List.set_cons_succ]
    apply wpAnyH_ready (rs := [5])
    · kernel_rfl
    · simp
    apply AllReadyH.cons (hs := AllReadyH.nil)
    · simp only [List.getElem?_toArray]; rfl
    intro K hK
    rw [if_pos (by rfl)]
    go_simp
    refine (own_any _ x tx rd (HTW.out.new ((Keeps.refl [] W).drew) hNW) hNW hl).mono ?_; rintro e W2 ⟨v2, rfl, hin2, hk2, hown2⟩
    have hk2 : Keeps [] W W2 := (Keeps.refl [] W).drew.trans hk2 (FSub.refl _ _)
    have HP2 := Lib.hid (hPW.new hk2); have HK2 := Lib.hid hk2; have HIN2 := Lib.hid hin2; have HOWN2 := Lib.hid (show ∀ q ∈ own v2, W.heap.size ≤ q ∧ q < W2.heap.size from hown2)
    go_wp2_with fail
    refine hK.out _ _ ?_ (fun hHeld => ?_)
    · exact (by rw [HSE.out]; exact HK2.out.more (by simp))
    clear hK K
    try simp only [Act.put, List.setIfInBounds_toArray, List.set_cons_zero, List.set_cons_succ]
    clear hk2 hin2 hown2 hs1 hs2 HS3 hSD
    apply wpAnyH_take (i := 11)
    · simp only [List.getElem?_toArray]; rfl
    · kernel_rfl
    · kernel_rfl
    · kernel_rfl
    · exact fun _ _ _ h => h
    · exact Or.inl ⟨by rfl, by intro w hSw; go_simp; try with_reducible rfl⟩
    · assumption
    try simp only [Act.put, List.setIfInBounds_toArray, List.set_cons_zero, List.set_cons_succ]
    apply wpAnyH_ready (rs := [12])
    · kernel_rfl
    · simp
    apply AllReadyH.cons (hs := AllReadyH.nil)
    · simp only [List.getElem?_toArray]; rfl
    intro K hK
    rw [if_pos (by rfl)]
    refine wp_put_open { x with r := [] } v2 (.slice none 0 0) c rfl rfl rfl HP2.out.heap hc HIN2.out.mics.one rfl ?_
    intro W3 h3 k3
    have HKX := Lib.hid k3
    have hk3 : Keeps [p] W W3 := (HK2.out.more (G := [p]) (by simp)).step k3 (fun q hq => hq)
    refine hK.out _ _ ?_ (fun hHeld => ?_)
    · exact (by rw [HSE.out]; exact hk3)
    clear hK K
    try simp only [Act.put, List.setIfInBounds_toArray, List.set_cons_zero, List.set_cons_succ]
    have HK3 := Lib.hid hk3
    clear hk3 k3
    apply wpAnyH_take (i := 13)
    · simp only [List.getElem?_toArray]; rfl
    · kernel_rfl
    · kernel_rfl
    · kernel_rfl
    · exact fun _ _ _ h => h
    · exact Or.inl ⟨by rfl, by intro w hSw; go_simp; try with_reducible rfl⟩
    · assumption
    try simp only [Act.put, List.setIfInBounds_toArray, List.set_cons_zero, List.set_cons_succ]
    apply wpAnyH_take (i := 14)
    · simp only [List.getElem?_toArray]; rfl
    · kernel_rfl
    · kernel_rfl
    · kernel_rfl
    · exact fun _ _ _ h => h
    · exact Or.inl ⟨by rfl, by intro w hSw; go_simp; try with_reducible rfl⟩
    · assumption
    try simp only [Act.put, List.setIfInBounds_toArray, List.set_cons_zero, List.set_cons_succ]
    apply wpAnyH_ready (rs := [15])
    · kernel_rfl
    · simp
    apply AllReadyH.cons (hs := AllReadyH.nil)
    · simp only [List.getElem?_toArray]; rfl
    intro K hK
    rw [if_pos (by rfl)]
    refine wp_put_la x.id (by rw [List.length_set]; exact HP2.out.len) rfl rfl rfl h3 ?_
    intro W4 h4 k4
    have hk4 : Keeps [p] W W4 := HK3.out.step k4 (fun q hq => hq)
    have hk24 : Keeps [p] W2 W4 := HKX.out.step k4 (fun q hq => hq)
    refine hK.out _ _ ?_ (fun hHeld => ?_)
    · exact (by rw [HSE.out]; exact hk4)
    clear hK K
    try simp only [Act.put, List.setIfInBounds_toArray, List.set_cons_zero, List.set_cons_succ]
    refine wpAnyH_done (by kernel_rfl) ?_ _
    refine NoPanic.normal ?_
    have h := HP2.out
    have HFIN := Lib.hid (show HPast W4 p mb (n + x.t.length) g on (op.set c ({ x with r := [] }, v2, .slice none 0 0)) x.id (ap ++ x.t) (O ++ own v2) from ⟨h4, by rw [List.length_set]; exact h.len, h.map.keeps hk24 (by simpa using Ne.symm h.pm), fun d hd => by
      rw [List.length_set] at hd
      rw [List.getElem_set]
      split
      · exact ⟨HRI.out, (HIN2.out.keeps hk24 (fun q hq hf => by simp at hf; have := (HOWN2.out q hq).1; have := lt_of_block HPW.out.heap; omega)).more (by simp; intro q hq; exact .inr hq), rfl, rfl⟩
      · exact ⟨(h.evs d hd).1, ((h.evs d hd).2.1.keeps hk24 (fun q hq hf => h.pO (by simp at hf; rw [← hf]; exact hq))).more (by simp; intro q hq; exact .inl hq), (h.evs d hd).2.2⟩,
      h.pm, by
        simp only [List.mem_append, not_or]
        exact ⟨h.pO, fun hq => by have := (HOWN2.out p hq).1; have := lt_of_block HPW.out.heap; omega⟩, by
        simp only [List.mem_append, not_or]
        exact ⟨h.mO, fun hq => by have := (HOWN2.out mb hq).1; have := HPW.out.map.lt; omega⟩, fun q hq => by
          rcases List.mem_append.1 hq with h1 | h1
          · exact Nat.lt_of_lt_of_le (h.oz q h1) hk24.size
          · exact Nat.lt_of_lt_of_le (HOWN2.out q h1).2 hk24.size⟩)
    have HFK := Lib.hid (HKW.out.trans hk4 (fun q hq => .inl (by simp at hq; simp [hq])))
    have HSZ := Lib.hid HKW.out.size
    clear h hk4 hk24 h4 k4 h3
    go_wp2_with fail
    go_end0
    exact ⟨rfl, v2, O ++ own v2, HFIN.out, HFK.out, fun q hq => by
      rcases List.mem_append.1 hq with h | h
      · exact .inl h
      · exact .inr (Nat.le_trans HSZ.out (HOWN2.out q h).1)⟩
end Go.Proofs.YtlaccndjlfpjbaaGreatDoor
/-
  The program's history stands for the events that were taken: mathematics.
-/
namespace Go.Proofs.YtlaccndjlfpjbaaGreatDoor
open Go.RowKit Go.Maps
/-- The events that were taken. -/
structure HistOk (L : List Ev) : Prop where
  h : Hist opChk mayOf L
  i : ∀ x ∈ L, x.In
theorem HistOk.nil : HistOk [] := ⟨.nil, by simp⟩
theorem HistOk.next {L : List Ev} (h : HistOk L) {x : Ev} (hx : x.In) : HistOk (hNext opChk mayOf L x) := by
  refine ⟨h.h.next _ _ x, fun y hy => ?_⟩
  unfold hNext at hy
  split at hy
  · rcases List.mem_append.1 hy with h1 | h1
    · exact h.i y h1
    · simp at h1; rw [h1]; exact hx
  · exact h.i y hy
theorem hist_good {ck : Int → Opn → Int} {my : Int → Int → Int → Int} {L : List Ev} (h : Hist ck my L) : ∀ p ∈ L, evGood p = true := by
  intro p hp
  obtain ⟨i, hi, rfl⟩ := List.mem_iff_getElem.1 hp
  exact hErr_good (h.take i hi)
theorem hMax_lt : ∀ (l : List Ev), (∀ x ∈ l, x.id < 65536) → hMax l < 65536
  | [], _ => by decide
  | x :: r, h => by
    have := hMax_lt r (fun y hy => h y (by simp [hy]))
    have h2 := h x (by simp)
    rw [hMax_cons]; omega
theorem pend_k {L : List Ev} {c : Int} : ((hPend L c).getD evZero).k ≠ 0 ↔ (hPend L c).isSome = true := by
  cases h : hPend L c with
  | none => simp [evZero]
  | some p =>
    have := (hPend_mem h).2.2.1
    simp [hOpens] at this
    simp
    omega
section
variable {L : List Ev} {g : Cfg} {on : Bool} {op : EvL} {la : Int} {ap : List Mic}
theorem Stands.bounds (h : Stands L g on op la ap) (hL : HistOk L) : 0 ≤ g.m ∧ g.m < 256 ∧ -1 ≤ la ∧ la < 65536 := by
  refine ⟨?_, ?_, by rw [h.la]; exact hMax_low _, by rw [h.la]; exact hMax_lt _ (fun x hx => (hL.i x (List.mem_of_mem_tail hx)).i1)⟩
  all_goals
    rw [h.g]
    cases L with
    | nil => decide
    | cons x r => first | exact (hL.i x (by simp)).m0 | exact (hL.i x (by simp)).m1
theorem Stands.len8 (h : Stands L g on op la ap) (hL : HistOk L) (c : Nat) (hc : c < op.length) : (op[c]).1.t.length ≤ 8 := by
  rw [h.op c hc]
  cases hp : hPend L (c : Int) with
  | none => simp [evZero]
  | some p => exact (good_mics (hist_good hL.h p (List.mem_of_mem_tail (hPend_mem hp).1))).2
/-- Why an event may not follow, told of what the program keeps. -/
theorem Stands.err (h : Stands L g on op la ap) (hl : op.length = 16) (x : Ev) (c : Nat) (hxc : x.c = (c : Int)) : pErrE g on la ap (op.getD c evZ).1 x = hErr opChk mayOf L x := by
  unfold pErrE hErr
  cases hg : evGood x with
  | false => rfl
  | true =>
    simp only [Bool.true_eq_false, ↓reduceIte]
    have hc16 : c < op.length := by have := (good_need hg).1; omega
    have hpe : (op.getD c evZ).1 = (hPend L x.c).getD evZero := by rw [hxc, ← h.op c hc16]; simp [List.getD, hc16]
    rw [hpe]
    cases L with
    | nil =>
      have ho : on = false := by rw [h.on]; rfl
      by_cases hk : x.k = 1
      · have hw : ¬ hWrong g.m x.k := by rw [hk]; simp [hWrong]
        simp [ho, hk]
        simp [hWrong]
      · simp [ho, hk]
    | cons y r =>
      have ho : on = true := by rw [h.on]; rfl
      have hgg : g = y.g := h.g
      by_cases hk : x.k = 1
      · simp [ho, hk]
      · rw [if_neg (by simp [ho, hk]), if_neg hk, hgg]
        rw [if_neg hk]
        by_cases hw : hWrong y.g.m x.k
        · simp only [if_pos hw]
        · simp only [if_neg hw]
          congr 1
          · unfold pOpenE hOpenE
            rw [h.la, h.ap]
            simp only [pend_k]
          · unfold pEndE hEndE
            cases hp : hPend (y :: r) x.c with
            | none => rfl
            | some q =>
              have : q.k ≠ 0 := by
                have := (pend_k (L := y :: r) (c := x.c)).2 (by rw [hp]; rfl)
                rw [hp] at this; exact this
              simp [this]
/-- A config is taken. -/
theorem Stands.cfg (h : Stands [] g on op la ap) (x : Ev) : Stands [x] x.g true op la ap :=
  ⟨rfl, rfl, fun c hc => by rw [h.op c hc]; rfl, h.la, h.ap⟩
theorem Stands.opens (h : Stands L g on op la ap) (hl : op.length = 16) (x : Ev) (hx : hErr opChk mayOf L x = 0) (ho : hOpens x = true) (c : Nat) (hxc : x.c = (c : Int)) (tx rd : Value) :
    Stands (L ++ [x]) g on (op.set c ({ x with r := [] }, tx, rd)) x.id (ap ++ x.t) := by
  have hg := hErr_good hx
  have hne : L ≠ [] := by
    rintro rfl
    have := hErr_first hx
    simp [hOpens, this] at ho
  obtain ⟨y, r, rfl⟩ : ∃ y r, L = y :: r := by cases L with | nil => exact absurd rfl hne | cons y r => exact ⟨y, r, rfl⟩
  obtain ⟨-, -, h3⟩ := hErr_later hx
  rw [ho, if_pos rfl] at h3
  obtain ⟨-, hid, -⟩ := hOpen_parts h3
  have hr : ({ x with r := [] } : Ev) = x := by
    have hn := (good_need hg).2.1
    have hk : x.k = 2 ∨ x.k = 5 := by simpa [hOpens] using ho
    have : x.r = [] := by
      rcases hk with hk | hk
      · unfold evNeed at hn
        rw [if_neg (by omega), if_pos hk] at hn
        rw [hn]; rfl
      · unfold evNeed at hn
        rw [if_neg (by omega), if_neg (by omega), if_neg (by omega), if_pos hk] at hn
        rw [hn]; rfl
    cases x; simp at this; rw [this]
  rw [hr]
  refine ⟨h.g, by rw [h.on]; rfl, fun d hd => ?_, ?_, ?_⟩
  · rw [List.length_set] at hd
    rw [List.getElem_set, hPend_snoc hne, ho]
    by_cases hcd : c = d
    · subst hcd; rw [if_pos rfl, if_pos hxc]; rfl
    · rw [if_neg hcd, if_neg (by omega)]; exact h.op d hd
  · have hlow := hMax_low (y :: r).tail
    rw [tail_snoc hne, hMax_snoc]; omega
  · rw [h.ap]; unfold hOld; rw [tail_snoc hne]; simp
theorem Stands.ends (h : Stands L g on op la ap) (hl : op.length = 16) (x : Ev) (hx : hErr opChk mayOf L x = 0) (h1 : x.k ≠ 1) (ho : hOpens x = false) (c : Nat) (hxc : x.c = (c : Int)) :
    Stands (L ++ [x]) g on (op.set c evZ) la ap := by
  have hg := hErr_good hx
  have hne : L ≠ [] := by
    rintro rfl
    exact h1 (hErr_first hx)
  obtain ⟨y, r, rfl⟩ : ∃ y r, L = y :: r := by cases L with | nil => exact absurd rfl hne | cons y r => exact ⟨y, r, rfl⟩
  obtain ⟨-, -, h3⟩ := hErr_later hx
  rw [ho] at h3
  obtain ⟨q, hq, hqid⟩ := hEnd_parts (by simpa using h3)
  have hm := hMax_mem _ _ (hPend_mem hq).1
  have ht := good_t hg (fun e => by simp [hOpens, e] at ho)
  refine ⟨h.g, by rw [h.on]; rfl, fun d hd => ?_, ?_, ?_⟩
  · rw [List.length_set] at hd
    rw [List.getElem_set, hPend_snoc hne, ho]
    by_cases hcd : c = d
    · subst hcd; rw [if_pos rfl, if_pos hxc]; rfl
    · rw [if_neg hcd, if_neg (by omega)]; exact h.op d hd
  · have hlow := hMax_low (y :: r).tail
    rw [h.la, tail_snoc hne, hMax_snoc]; omega
  · rw [h.ap]; unfold hOld; rw [tail_snoc hne]; simp [ht]
end
end Go.Proofs.YtlaccndjlfpjbaaGreatDoor
/-
  The program's history: Step.
-/
namespace Go.Proofs.YtlaccndjlfpjbaaGreatDoor
open Go.RowKit Go.Maps
/-- An automaton that stands for the events that were taken. -/
def HAuto (w : World) (a p mb n : Nat) (L : List Ev) (O : List Nat) : Prop := ∃ g on op la ap, AAt w a p mb n g on op la ap O ∧ Stands L g on op la ap
theorem HAuto.keeps {w w' : World} {F : List Nat} {a p mb n : Nat} {L : List Ev} {O : List Nat} (h : HAuto w a p mb n L O) (hk : Keeps F w w') (ha : a ∉ F) (hp : p ∉ F) (hm : mb ∉ F) (hO : ∀ q ∈ O, q ∉ F) : HAuto w' a p mb n L O := by
  obtain ⟨g, on, op, la, ap, h1, h2⟩ := h
  exact ⟨g, on, op, la, ap, h1.keeps hk ha hp hm hO, h2⟩
theorem HAuto.new {w w' : World} {a p mb n : Nat} {L : List Ev} {O : List Nat} (h : HAuto w a p mb n L O) (hk : Keeps [] w w') : HAuto w' a p mb n L O := h.keeps hk (by simp) (by simp) (by simp) (by simp)
theorem hNew_any (w : World) : Calls Tryz.prog 10 #[] w fun e w' => ∃ a p mb, e = .returned (.pointer (some ⟨a, 0, none⟩)) ∧ HAuto w' a p mb 0 [] [] ∧ Keeps [] w w' ∧ w.heap.size ≤ a ∧ w.heap.size ≤ p ∧ w.heap.size ≤ mb :=
  (new_any w).mono fun e w' ⟨a, p, mb, he, hA, hk, h1, h2, h3⟩ => ⟨a, p, mb, he, ⟨_, _, _, _, _, hA, ⟨rfl, rfl, fun c hc => by rw [open0_at]; rfl, rfl, rfl⟩⟩, hk, h1, h2, h3⟩
/-- What Step tells and leaves. -/
def StepPost (w : World) (a p mb n : Nat) (L : List Ev) (O : List Nat) (x : Ev) (e : Ending) (w' : World) : Prop :=
  e = .returned (.int .i64 (hErr opChk mayOf L x)) ∧ ∃ n' O', HAuto w' a p mb n' (hNext opChk mayOf L x) O' ∧ Keeps [p, mb] w w' ∧ FSub O' O w.heap.size ∧ n' ≤ n + 8
/-- An event that may follow is taken. -/
theorem accept_any (w : World) {p mb n : Nat} {g : Cfg} {on : Bool} {op : EvL} {la : Int} {ap : List Mic} {O : List Nat} {L : List Ev} (hP : HPast w p mb n g on op la ap O) (hS : Stands L g on op la ap) (hn : n ≤ 900000) (x : Ev) (hx : x.In) {N : Nat} (tx rd : Value) (ht : EvAt N w tx rd x) (hN : N ≤ w.heap.size) (c : Nat) (hxc : x.c = (c : Int)) (he : hErr opChk mayOf L x = 0) :
    Calls Tryz.prog 29 #[.pointer (some ⟨p, 0, none⟩), .agg (evC x tx rd)] w fun e w' => e = .returned (.tuple #[]) ∧ ∃ n' g' on' op' la' ap' O', HPast w' p mb n' g' on' op' la' ap' O' ∧ Stands (L ++ [x]) g' on' op' la' ap' ∧ Keeps [p, mb] w w' ∧ FSub O' O w.heap.size ∧ n' ≤ n + 8 := by
  have hg := hErr_good he
  obtain ⟨hc16, -, hkk⟩ := good_need hg
  have hl := hP.len
  have hcl : c < op.length := by omega
  have hl8 := (good_mics hg).2
  by_cases h1 : x.k = 1
  · have hL : L = [] := by
      cases L with
      | nil => rfl
      | cons y r => exact absurd h1 (hErr_later he).1
    subst hL
    exact (accept_cfg w hP x tx rd h1).mono fun e w' ⟨h2, h3, h4⟩ => ⟨h2, n, _, _, _, _, _, O, h3, hS.cfg x, h4.more (by simp), FSub.refl _ _, by omega⟩
  · rcases bool_two (hOpens x) with ho | ho
    · have hk : x.k = 5 ∨ (x.k = 2 ∧ x.t = []) := by
        have : x.k = 2 ∨ x.k = 5 := by simpa [hOpens] using ho
        rcases this with h | h
        · exact .inr ⟨h, good_t hg (by omega)⟩
        · exact .inl h
      exact (accept_open w hP (by omega) x hx hk (by omega) tx rd ht hN c hcl hxc).mono fun e w' ⟨h2, tx', O', h3, h4, h5⟩ => ⟨h2, _, _, _, _, _, _, O', h3, hS.opens hl x he ho c hxc tx' _, h4, h5, by omega⟩
    · have hk : x.k ≠ 2 ∧ x.k ≠ 5 := by simpa [hOpens] using ho
      exact (accept_end w hP x tx rd h1 hk.1 hk.2 c hcl hxc).mono fun e w' ⟨h2, h3, h4⟩ => ⟨h2, n, _, _, _, _, _, O, h3, hS.ends hl x he h1 ho c hxc, h4.more (by simp), FSub.refl _ _, by omega⟩
set_option maxHeartbeats 8000000
set_option maxRecDepth 100000
theorem hStep_any (w : World) (hG : Glob4 w) {a p mb n : Nat} {L : List Ev} {O : List Nat} (hA : HAuto w a p mb n L O) (hL : HistOk L) (hn : n ≤ 900000) (x : Ev) (hx : x.In) {N : Nat} (tx rd : Value) (ht : EvAt N w tx rd x) (hN : N ≤ w.heap.size) :
    Calls Tryz.prog 11 #[.pointer (some ⟨a, 0, none⟩), .agg (evC x tx rd)] w (StepPost w a p mb n L O x) := by
  obtain ⟨g, on, op, la, ap, hA, hS⟩ := hA
  obtain ⟨g0, g1, l0, l1⟩ := hS.bounds hL
  obtain ⟨c, hxc⟩ := Int.eq_ofNat_of_zero_le hx.c0
  have hk0 := (Keeps.refl [] w).alloc (.cells (evC x tx rd) 42)
  have hX := heap_alloc_new w (.cells (evC x tx rd) 42)
  have hA0 := hA.new hk0
  have ca : (w.alloc (.cells (evC x tx rd) 42)).cell? ⟨a, 0, none⟩ = some (.pointer (some ⟨p, 0, none⟩)) := by simp [World.cell?, hA0.cell]
  have hl16 := hA.past.len
  have herr := hS.err hl16 x c hxc
  have HREF := Lib.hid (refusal_any (w.alloc (.cells (evC x tx rd) 42)).drew (hG.new hk0.drew) (hA.past.new hk0.drew) g0 g1 l0 l1 (hS.len8 hL) x hx tx rd (ht.new hk0.drew hN) (Nat.le_trans hN hk0.size) c hxc)
  rw [herr] at HREF
  obtain ⟨R, hR⟩ : ∃ R, R = hErr opChk mayOf L x := ⟨_, rfl⟩
  rw [← hR] at HREF
  have HR := Lib.hid hR
  have HMADE := Lib.hid (made_yes (w.alloc (.cells (evC x tx rd) 42)) a p ca)
  have HA := Lib.hid hA; have HT := Lib.hid ht; have HX := Lib.hid hX; have HK0 := Lib.hid hk0; have HS := Lib.hid hS; have HXC := Lib.hid hxc
  clear hA ht hX hk0 hS hxc herr hR hA0
  go_enter Tryz.func11, Tryz.ntmps11
  go_wp2_with fail
  refine (HMADE.out).mono ?_; rintro e w1 ⟨rfl, hw1⟩
  rw [hw1]
  clear hw1 HMADE
  go_wp2_with fail
  generalize hW : w.alloc (.cells (evC x tx rd) 42) = W at *
  generalize hBq : w.heap.size = B at *
  have HW := Lib.hid hW; have HBq := Lib.hid hBq; clear hW hBq
  refine wp_region_still_tail 5 rfl (by kernel_rfl) ?_
  simp only [List.take_succ_cons, List.take_zero, List.drop_succ_cons, List.drop_zero]
  still_step
  still_step
  still_step
  still_step
  refine wpStill_load_ev (by rfl) _ rfl B rfl HX.out ?_
  refine wpStill_nil ?_
  change wpList _ _ _ _ _ W.drew
  go_wp2_with fail
  refine (HREF.out).mono ?_; rintro e w2 ⟨rfl, hk2⟩
  have hk02 : Keeps [] W w2 := (Keeps.refl [] W).drew.trans hk2 (FSub.refl _ _)
  have HK2 := Lib.hid (HK0.out.trans hk02 (FSub.refl _ _))
  have hX2 := hk02.heap HX.out (by simp)
  clear HREF hk2 hk02 ca HX
  have hN' : N ≤ w.heap.size := by rw [HBq.out]; exact hN
  by_cases hz : R = 0
  · subst hz
    have hA2 := HA.out.new HK2.out
    have ca : w2.cell? ⟨a, 0, none⟩ = some (.pointer (some ⟨p, 0, none⟩)) := by simp [World.cell?, hA2.cell]
    have HACC := Lib.hid (accept_any w2.drew (HA.out.past.new HK2.out.drew) HS.out hn x hx tx rd (HT.out.new HK2.out.drew hN') (Nat.le_trans hN' HK2.out.size) c HXC.out HR.out.symm)
    clear hA2
    go_wp2_with fail
    refine wp_region_still_tail 5 rfl (by kernel_rfl) ?_
    simp only [List.take_succ_cons, List.take_zero, List.drop_succ_cons, List.drop_zero]
    still_step
    still_step
    still_step
    still_step
    refine wpStill_load_ev (by rfl) _ rfl B rfl hX2 ?_
    refine wpStill_nil ?_
    change wpList _ _ _ _ _ w2.drew
    clear hX2 ca
    go_wp2_with fail
    refine (HACC.out).mono ?_; rintro e w3 ⟨rfl, n', g', on', op', la', ap', O', hP3, hS3, hk3, hf3, hn3⟩
    have hk23 : Keeps [p, mb] w2 w3 := ((Keeps.refl [] w2).drew.more (by simp)).step hk3 (fun q hq => hq)
    have HFIN := Lib.hid (show StepPost w a p mb n L O x (.returned (.int .i64 0)) w3 from by
      have hA := HA.out
      refine ⟨by rw [← HR.out], n', O', ?_, (HK2.out.more (by simp)).step hk23 (fun q hq => hq), hf3.mono HK2.out.size, hn3⟩
      rw [hNext_yes _ _ HR.out.symm]
      refine ⟨_, _, _, _, _, ⟨hk23.heap (HK2.out.heap hA.cell (by simp)) (by simp; exact ⟨hA.ap, hA.am⟩), hP3, hA.ap, hA.am, fun hq => ?_⟩, hS3⟩
      rcases hf3 a hq with h | h
      · exact hA.aO h
      · have h1 := lt_of_block hA.cell; have h2 : w.heap.size ≤ w2.drew.heap.size := HK2.out.size; omega)
    clear hP3 hS3 hk3 hf3 hn3 hk23 HACC
    go_wp2_with fail
    go_ret
    exact HFIN.out
  · have t1 : (R != 0) = true := by simpa using hz
    have HFIN := Lib.hid (show StepPost w a p mb n L O x (.returned (.int .i64 R)) w2 from
      ⟨by rw [← HR.out], n, O, by rw [hNext_no _ _ (by rw [← HR.out]; exact hz)]; exact ⟨_, _, _, _, _, HA.out.new HK2.out, HS.out⟩, HK2.out.more (by simp), FSub.refl _ _, by omega⟩)
    clear hX2 hz
    go_wp2_with fail
    go_ret
    exact HFIN.out
end Go.Proofs.YtlaccndjlfpjbaaGreatDoor
/-
  The program's history: All.
-/
namespace Go.Proofs.YtlaccndjlfpjbaaGreatDoor
open Go.RowKit Go.Maps
/-- How many events are taken up to the first that is refused, and why it is. -/
noncomputable def hRun : List Ev → List Ev → Nat × Int
  | _, [] => (0, 0)
  | L, x :: r => if hErr opChk mayOf L x = 0 then ((hRun (L ++ [x]) r).1 + 1, (hRun (L ++ [x]) r).2) else (0, hErr opChk mayOf L x)
theorem hRun_stop : ∀ (l L : List Ev) (k : Nat), (∀ j, j < k → hErr opChk mayOf (L ++ l.take j) (l.getD j evZero) = 0) → k ≤ l.length → (k < l.length → hErr opChk mayOf (L ++ l.take k) (l.getD k evZero) ≠ 0) → hRun L l = (k, if k < l.length then hErr opChk mayOf (L ++ l.take k) (l.getD k evZero) else 0)
  | [], L, k, _, hk, _ => by
    obtain rfl : k = 0 := by simpa using hk
    simp [hRun]
  | x :: r, L, 0, _, _, hn => by
    have := hn (by simp)
    simp at this
    simp [hRun, this]
  | x :: r, L, k + 1, h, hk, hn => by
    have h0 := h 0 (by omega)
    simp at h0
    have ih := hRun_stop r (L ++ [x]) k (fun j hj => by have := h (j + 1) (by omega); simpa using this) (by simpa using hk) (fun hlt => by have := hn (by simpa using hlt); simpa using this)
    unfold hRun
    rw [if_pos h0, ih]
    simp
set_option maxHeartbeats 8000000
set_option maxRecDepth 100000
def zeroEv : Array Value := #[.int .u8 0, .int .u8 0, .int .u16 0, .int .u8 0, .int .u8 0, .int .u8 0, .int .u16 0, .int .u16 0, .int .u8 0, .int .u16 0, .slice none 0 0, .slice none 0 0, .int .u8 0, .int .i64 0, .int .i64 0, .int .i64 0, .bool false, .bool false, .bool false]
theorem hAll_any (w : World) (hG : Glob4 w) (l : List Ev) (hi : ∀ x ∈ l, x.In) (hn : l.length ≤ 1000) (v : Value) {N : Nat} (hv : Evs N w v l) (hN : N ≤ w.heap.size) :
    Calls Tryz.prog 14 #[v] w fun e w' => e = .returned (.tuple #[.int .i64 (hRun [] l).1, .int .i64 (hRun [] l).2]) ∧ Keeps [] w w' := by
  obtain ⟨a, c, rfl, hc, hm, hrow⟩ := hv
  have HR := Lib.hid hrow; have HG := Lib.hid hG; have HL := Lib.hid hi
  have hnn : (l.length : Int) ≤ 9223372036854775807 := by omega
  generalize hRQ : hRun [] l = RQ at *
  have HRQ := Lib.hid hRQ
  clear hrow hG hi hm hRQ
  go_enter Tryz.func14, Tryz.ntmps14
  go_wp2_with fail
  refine (hNew_any w).mono ?_; rintro e w1 ⟨A, p, mb, rfl, hA1, hk1, b1, b2, b3⟩
  have HA1 := Lib.hid hA1; have HK1 := Lib.hid hk1
  clear hA1 hk1
  go_wp2_with fail
  generalize hn2 : l.length = n at *
  have HN2 := Lib.hid hn2
  clear hn2
  go_loopw [2, 3, 5, 6, 7, 11] (fun q s _ _ _ i wr => ∃ (k m : Nat) (O : List Nat), q = .int .i64 0 ∧ s = .int .i64 0 ∧ i = .int .i64 k ∧ k ≤ n ∧ HAuto wr A p mb m (l.take k) O ∧ m ≤ 8 * k ∧ (∀ j, j < k → hErr opChk mayOf (l.take j) (l.getD j evZero) = 0) ∧ HistOk (l.take k) ∧ (∀ q ∈ O, w.heap.size ≤ q) ∧ Keeps [] w wr) (fun _ _ _ _ _ i _ => n - (intOf i).toNat)
  case atStart => exact ⟨0, 0, [], rfl, rfl, rfl, by omega, by simpa using HA1.out, by omega, fun j hj => by omega, by simpa using HistOk.nil, by simp, HK1.out⟩
  case round =>
    clear HA1
    obtain ⟨k, m, O, rfl, rfl, rfl, hk, hA, hm, hall, hok, hO, hkp⟩ := hrel
    by_cases hlt : k < n
    · have hlt2 : k < l.length := by have := HN2.out; omega
      obtain ⟨bk, o, rfl, hbk, hcell⟩ := HR.out (fun e => by rw [e] at hlt2; simp at hlt2)
      obtain ⟨tx, rd, ht, hr⟩ := hcell k hlt
      have hmem : l.getD k evZero ∈ l := getD_in evZero hlt2
      have htk := take_nextD evZero hlt2
      have hxi := HL.out _ hmem
      have hsame : Same N w wr := hkp.same hN (by simp)
      have hr2 := rangeAt_same hr hsame hbk
      have HT := Lib.hid (ht.same hsame)
      have hx1 := ht.t.one
      have hx2 := ht.r.one
      have HTK := Lib.hid htk; have HXI := Lib.hid hxi; have HA := Lib.hid hA; have HALL := Lib.hid hall; have HOK := Lib.hid hok; have HO := Lib.hid hO; have HKP := Lib.hid hkp
      have hN1 : N ≤ wr.heap.size := Nat.le_trans hN hkp.size
      have HKA := Lib.hid ((Keeps.refl [] wr).alloc (.cells zeroEv 42))
      have HX0 : ∃ x, x = l.getD k evZero := ⟨_, rfl⟩
      obtain ⟨x, hx⟩ := HX0
      rw [← hx] at hr2 HT HTK HXI
      have HX := Lib.hid hx
      clear HR hcell ht hr hsame htk hxi hmem hbk hA hall hok hO hkp hx
      go_wp2_with (first | ((with_reducible apply wpList_load_evM); exact rfl; assumption) | ((with_reducible apply wpList_put_ev); exact rfl; exact rfl; (first | assumption | (refine heap_alloc_lt ?_; assumption) | (refine heap_alloc_lt (heap_alloc_lt ?_); assumption) | exact heap_alloc_at (by simp)); exact ⟨rfl, rfl⟩; (refine evC_one _ ?_ ?_ <;> first | rfl | assumption)))
      intro W2 hb2 hk2
      have hq2 : Keeps [] wr W2 := HKA.out.trans hk2 (fun q hq => .inr (by simp at hq; omega))
      have HK2 := Lib.hid (HKP.out.trans hq2 (FSub.refl _ _))
      have HST := Lib.hid (hStep_any W2 (HG.out.new HK2.out) (HA.out.new hq2) HOK.out (by omega) x HXI.out tx rd (HT.out.new hq2 hN1) (Nat.le_trans hN1 hq2.size))
      clear hq2 hk2 HKA HT hr2 HA
      generalize wr.heap.size = c2 at *
      go_wp2_with ((with_reducible apply wpList_load_ev); exact rfl; (first | assumption | (refine heap_alloc_lt ?_; assumption) | (refine heap_alloc_lt (heap_alloc_lt ?_); assumption) | exact heap_alloc_at (by simp)); exact rfl)
      refine HST.out.mono ?_; rintro z w3 ⟨rfl, m', O', hA3, hk3, hf3, hm3⟩
      have hO3 : ∀ q ∈ O', w.heap.size ≤ q := fun q hq => (hf3 q hq).elim (HO.out q) (fun h => Nat.le_trans HK2.out.size h)
      have hk03 : Keeps [] w w3 := HK2.out.trans hk3 (fun q hq => .inr (by simp at hq; rcases hq with rfl | rfl <;> assumption))
      have HA3 := Lib.hid hA3; have HO3 := Lib.hid hO3; have HK3 := Lib.hid hk03
      clear hA3 hk3 hf3 hO3 hk03 HST HK2 HO
      by_cases hz : hErr opChk mayOf (l.take k) x = 0
      · have hnx : hNext opChk mayOf (l.take k) x = l.take (k + 1) := by rw [hNext_yes _ _ hz, HTK.out]
        have HZ := Lib.hid hz; have HNX := Lib.hid hnx
        rw [hz]
        clear hz hnx
        go_wp2_with fail
        go_roundw
        case rel => exact ⟨k + 1, m', O', rfl, rfl, by go_num, by omega, by rw [← HNX.out]; exact HA3.out, by omega,
          fun j hj => (by omega : j < k ∨ j = k).elim (HALL.out j) (fun e => by subst e; rw [← HX.out]; exact HZ.out), by rw [← HNX.out]; exact HOK.out.next HXI.out, HO3.out, HK3.out⟩
        case measure => simp [intOf]; omega
      · have hr := HRQ.out
        rw [hRun_stop l [] k (fun j hj => by simpa using HALL.out j hj) (by omega) (fun _ => by rw [← HX.out]; simpa using hz), if_pos hlt2, ← HX.out] at hr
        have hq : RQ = (k, hErr opChk mayOf (l.take k) x) := by rw [← hr]; simp
        have HQ := Lib.hid hq
        generalize hErr opChk mayOf (l.take k) x = E at *
        have t1 : (E != 0) = true := by simpa using hz
        clear hz hr hq
        go_wp2_with fail
        go_ret2
        obtain rfl := HQ.out
        exact ⟨rfl, HK3.out⟩
    · obtain rfl : k = n := by omega
      have hlen := HN2.out
      have hr := HRQ.out
      rw [hRun_stop l [] k (fun j hj => by simpa using hall j hj) (by omega) (fun h => by omega), if_neg (by omega)] at hr
      have HQ := Lib.hid hr; have HKP := Lib.hid hkp
      clear hr hlen hkp hall hok hA HR HL
      go_wp2_with fail
      go_ret2
      obtain rfl := HQ.out
      exact ⟨rfl, HKP.out⟩
end Go.Proofs.YtlaccndjlfpjbaaGreatDoor
/-
  The law's helpers: few events; events that are written out.
-/
namespace Go.Proofs.YtlaccndjlfpjbaaGreatDoor
open Go.RowKit Go.Maps
/-- The events of the law. -/
def cfgE (m : Int) : Ev := { evZero with k := 1, g := ⟨m, 8, 10, 100, false, false, false⟩ }
def invE (c i f v : Int) : Ev := { evZero with k := 2, c := c, id := i, o := { opZero with f := f, a := v } }
def retE (c i k v : Int) : Ev := { evZero with k := 3, c := c, id := i, rk := k, rv := v }
def plainE (k c i : Int) : Ev := { evZero with k := k, c := c, id := i }
def begE (c i : Int) (l : List Mic) : Ev := { evZero with k := 5, c := c, id := i, t := l }
set_option maxHeartbeats 8000000
set_option maxRecDepth 100000
theorem config7_any (w : World) (m : Int) : Calls Tryz.prog 17 #[.int .u8 m] w fun e w' => e = .returned (.agg (evC (cfgE m) (.slice none 0 0) (.slice none 0 0))) ∧ Keeps [] w w' := by
  go_enter Tryz.func17, Tryz.ntmps17
  go_wp2_with ((with_reducible apply wpList_put_ev); exact rfl; exact rfl; (first | assumption | (refine heap_alloc_lt ?_; assumption) | (refine heap_alloc_lt (heap_alloc_lt ?_); assumption) | exact heap_alloc_at (by simp)); exact ⟨rfl, rfl⟩; exact rfl)
  intro W hb hk
  go_wp2_with fail
  exact bodyPost_ret (results_ev rfl _ _ _ rfl hb) rfl ⟨rfl, ((Keeps.refl [] w).alloc _).trans hk (fun q hq => .inr (by simp at hq; omega))⟩
theorem invoke7_any (w : World) (c i f v : Int) : Calls Tryz.prog 16 #[.int .u8 c, .int .u16 i, .int .u8 f, .int .u16 v] w fun e w' => e = .returned (.agg (evC (invE c i f v) (.slice none 0 0) (.slice none 0 0))) ∧ Keeps [] w w' := by
  go_enter Tryz.func16, Tryz.ntmps16
  go_wp2_with ((with_reducible apply wpList_put_ev); exact rfl; exact rfl; (first | assumption | (refine heap_alloc_lt ?_; assumption) | (refine heap_alloc_lt (heap_alloc_lt ?_); assumption) | exact heap_alloc_at (by simp)); exact ⟨rfl, rfl⟩; exact rfl)
  intro W hb hk
  go_wp2_with fail
  exact bodyPost_ret (results_ev rfl _ _ _ rfl hb) rfl ⟨rfl, ((Keeps.refl [] w).alloc _).trans hk (fun q hq => .inr (by simp at hq; omega))⟩
theorem ret7_any (w : World) (c i k v : Int) : Calls Tryz.prog 19 #[.int .u8 c, .int .u16 i, .int .u8 k, .int .u16 v] w fun e w' => e = .returned (.agg (evC (retE c i k v) (.slice none 0 0) (.slice none 0 0))) ∧ Keeps [] w w' := by
  go_enter Tryz.func19, Tryz.ntmps19
  go_wp2_with ((with_reducible apply wpList_put_ev); exact rfl; exact rfl; (first | assumption | (refine heap_alloc_lt ?_; assumption) | (refine heap_alloc_lt (heap_alloc_lt ?_); assumption) | exact heap_alloc_at (by simp)); exact ⟨rfl, rfl⟩; exact rfl)
  intro W hb hk
  go_wp2_with fail
  exact bodyPost_ret (results_ev rfl _ _ _ rfl hb) rfl ⟨rfl, ((Keeps.refl [] w).alloc _).trans hk (fun q hq => .inr (by simp at hq; omega))⟩
theorem plain7_any (w : World) (k c i : Int) : Calls Tryz.prog 20 #[.int .u8 k, .int .u8 c, .int .u16 i] w fun e w' => e = .returned (.agg (evC (plainE k c i) (.slice none 0 0) (.slice none 0 0))) ∧ Keeps [] w w' := by
  go_enter Tryz.func20, Tryz.ntmps20
  go_wp2_with ((with_reducible apply wpList_put_ev); exact rfl; exact rfl; (first | assumption | (refine heap_alloc_lt ?_; assumption) | (refine heap_alloc_lt (heap_alloc_lt ?_); assumption) | exact heap_alloc_at (by simp)); exact ⟨rfl, rfl⟩; exact rfl)
  intro W hb hk
  go_wp2_with fail
  exact bodyPost_ret (results_ev rfl _ _ _ rfl hb) rfl ⟨rfl, ((Keeps.refl [] w).alloc _).trans hk (fun q hq => .inr (by simp at hq; omega))⟩
theorem begin7_any (w : World) (c i : Int) (a : Option Addr) (n m : Nat) (l : List Mic) : Calls Tryz.prog 18 #[.int .u8 c, .int .u16 i, .slice a n m] w fun e w' => e = .returned (.agg (evC (begE c i l) (.slice a n m) (.slice none 0 0))) ∧ Keeps [] w w' := by
  go_enter Tryz.func18, Tryz.ntmps18
  go_wp2_with ((with_reducible apply wpList_put_ev); exact rfl; exact rfl; exact heap_alloc_at (by simp); exact ⟨rfl, rfl⟩; exact evC_one (begE c i l) rfl rfl)
  intro W hb hk
  go_wp2_with fail
  exact bodyPost_ret (results_ev rfl _ _ _ rfl hb) rfl ⟨rfl, ((Keeps.refl [] w).alloc _).trans hk (fun q hq => .inr (by simp at hq; omega))⟩
end Go.Proofs.YtlaccndjlfpjbaaGreatDoor
/-
  The law's steps: events are answered so.
-/
namespace Go.Proofs.YtlaccndjlfpjbaaGreatDoor
open Go.RowKit Go.Maps
/-- What is answered to events, one behind the other. -/
noncomputable def hAns : List Ev → List Ev → List Int
  | _, [] => []
  | L, x :: r => hErr opChk mayOf L x :: hAns (hNext opChk mayOf L x) r
theorem hAll_snoc {ck : Int → Opn → Int} {my : Int → Int → Int → Int} : ∀ (l L : List Ev) (x : Ev), hAll ck my L (l ++ [x]) = hNext ck my (hAll ck my L l) x
  | [], _, _ => rfl
  | y :: r, L, x => hAll_snoc r (hNext ck my L y) x
theorem hAns_get : ∀ (l L : List Ev) (k : Nat), k < l.length → (hAns L l).getD k 0 = hErr opChk mayOf (hAll opChk mayOf L (l.take k)) (l.getD k evZero)
  | [], _, _, h => by simp at h
  | x :: r, L, 0, _ => rfl
  | x :: r, L, k + 1, h => by
    have := hAns_get r (hNext opChk mayOf L x) k (by simpa using h)
    simpa [hAns, hAll] using this
theorem hAll_ok {L : List Ev} (h : HistOk L) : ∀ l : List Ev, (∀ x ∈ l, x.In) → HistOk (hAll opChk mayOf L l) := by
  intro l
  induction l generalizing L with
  | nil => intro _; exact h
  | cons x r ih => intro hi; exact ih (h.next (hi x (by simp))) (fun y hy => hi y (by simp [hy]))
/-- A slice of errors. -/
def Errs (N : Nat) (w : World) (v : Value) (l : List Int) : Prop :=
  ∃ a c, v = .slice a l.length c ∧ l.length ≤ c ∧ c ≤ 9223372036854775807 ∧ (l ≠ [] → ∃ bk o, a = some ⟨bk, o, none⟩ ∧ bk < N ∧ ∀ j, j < l.length → w.cell? ⟨bk, o + j, none⟩ = some (.int .i64 (l.getD j 0)))
set_option maxHeartbeats 8000000
set_option maxRecDepth 100000
theorem steps7_any (w : World) (hG : Glob4 w) (l : List Ev) (hi : ∀ x ∈ l, x.In) (hn : l.length ≤ 1000) (v u : Value) {N : Nat} (hv : Evs N w v l) (es : List Int) (hu : Errs N w u es) (hN : N ≤ w.heap.size) (hes : hAns [] l = es) (hlen : es.length = l.length) :
    Calls Tryz.prog 22 #[v, u] w fun e w' => e = .returned (.bool true) ∧ Keeps [] w w' := by
  obtain ⟨a, c, rfl, hc, hm, hrow⟩ := hv
  obtain ⟨a2, c2, rfl, hc2, hm2, hrow2⟩ := hu
  have hans : ∀ k, k < l.length → es.getD k 0 = hErr opChk mayOf (hAll opChk mayOf [] (l.take k)) (l.getD k evZero) := fun k hk => by rw [← hes]; exact hAns_get l [] k hk
  have HR := Lib.hid hrow; have HR2 := Lib.hid hrow2; have HG := Lib.hid hG; have HL := Lib.hid hi; have HA := Lib.hid hans
  have hnn : (l.length : Int) ≤ 9223372036854775807 := by omega
  rw [hlen] at hc2
  rw [hlen]
  have HLE := Lib.hid hlen
  have hne : ((l.length : Int) != (l.length : Int)) = false := by simp
  clear hrow hrow2 hG hi hm hans hes hlen
  generalize hn2 : l.length = n at *
  have HN2 := Lib.hid hn2
  clear hn2
  go_enter Tryz.func22, Tryz.ntmps22
  go_wp2_with fail
  refine (hNew_any w).mono ?_; rintro e w1 ⟨A, p, mb, rfl, hA1, hk1, b1, b2, b3⟩
  have HA1 := Lib.hid hA1; have HK1 := Lib.hid hk1
  clear hA1 hk1
  go_wp2_with fail
  go_loopw [4, 6] (fun q i wr => ∃ (k m : Nat) (O : List Nat), q = .bool false ∧ i = .int .i64 k ∧ k ≤ n ∧ HAuto wr A p mb m (hAll opChk mayOf [] (l.take k)) O ∧ m ≤ 8 * k ∧ (∀ q ∈ O, w.heap.size ≤ q) ∧ Keeps [] w wr) (fun _ i _ => n - (intOf i).toNat)
  case atStart => exact ⟨0, 0, [], rfl, rfl, by omega, by simpa [hAll] using HA1.out, by omega, by simp, HK1.out⟩
  case round =>
    clear HA1
    obtain ⟨k, m, O, rfl, rfl, hk, hA, hm, hO, hkp⟩ := hrel
    by_cases hlt : k < n
    · have hlt2 : k < l.length := by have := HN2.out; omega
      obtain ⟨bk, o, rfl, hbk, hcell⟩ := HR.out (fun e => by rw [e] at hlt2; simp at hlt2)
      obtain ⟨bk2, o2, rfl, hbk2, hcell2⟩ := HR2.out (fun e => by have := HLE.out; rw [e] at this; simp at this; omega)
      obtain ⟨tx, rd, ht, hr⟩ := hcell k hlt
      have hc3 := hcell2 k (by have := HLE.out; omega)
      rw [HA.out k hlt] at hc3
      have hmem : l.getD k evZero ∈ l := getD_in evZero hlt2
      have htk := take_nextD evZero hlt2
      have hxi := HL.out _ hmem
      have hok : HistOk (hAll opChk mayOf [] (l.take k)) := hAll_ok HistOk.nil _ (fun x hx => HL.out x (List.mem_of_mem_take hx))
      have HNX := Lib.hid (show hNext opChk mayOf (hAll opChk mayOf [] (l.take k)) (l.getD k evZero) = hAll opChk mayOf [] (l.take (k + 1)) by rw [htk, hAll_snoc])
      have HST := Lib.hid (fun (W : World) (hk : Keeps [] wr W) => hStep_any W (HG.out.new (hkp.trans hk (FSub.refl _ _))) (hA.new hk) hok (by omega) _ hxi tx rd ((ht.same (hkp.same hN (by simp))).new hk (Nat.le_trans hN hkp.size)) (Nat.le_trans hN (Nat.le_trans hkp.size hk.size)))
      have HKP := Lib.hid hkp; have HO := Lib.hid hO
      obtain ⟨S, hS⟩ : ∃ S : World → Prop, S = fun y => Keeps [] w y := ⟨_, rfl⟩
      have HSE := Lib.hid hS
      have hs1 : ∀ w', S w' → w'.cell? ⟨bk2, o2 + k, none⟩ = some (.int .i64 (hErr opChk mayOf (hAll opChk mayOf [] (l.take k)) (l.getD k evZero))) := fun w' h => by rw [hS] at h; exact h.cell hc3 (by simp)
      have HS2 := Lib.hid (fun (w' : World) (h : S w') => show w'.rangeAt bk (o + k * 19) (evC (l.getD k evZero) tx rd).toList from by rw [hS] at h; exact rangeAt_same hr (h.same hN (by simp)) hbk)
      have hSD : S wr.drew := by rw [hS]; exact hkp.drew
      clear hcell hcell2 hS ht hr hc3 hmem htk hxi hok hA hO hkp
      generalize hAll opChk mayOf [] (l.take k) = L at *
      generalize l.getD k evZero = x at *
      obtain ⟨E, hE⟩ : ∃ E, E = hErr opChk mayOf L x := ⟨_, rfl⟩
      rw [← hE] at hs1
      have HE := Lib.hid hE
      clear hE
      go_wp2_with fail
      refine wp_region_noPanic ?_
      refine wp_region_held_drew (S := S) (by kernel_rfl) hSD (fun hHeld => ?_)
      apply wpAnyH_take (i := 0)
      · simp only [List.getElem?_toArray]; rfl
      · kernel_rfl
      · kernel_rfl
      · kernel_rfl
      · exact fun _ _ _ h => h
      · exact Or.inl ⟨by rfl, by intro w hSw; go_simp; try with_reducible rfl⟩
      · assumption
      try simp only [Act.put, List.setIfInBounds_toArray, List.set_cons_zero, List.set_cons_succ]
      apply wpAnyH_take (i := 1)
      · simp only [List.getElem?_toArray]; rfl
      · kernel_rfl
      · kernel_rfl
      · kernel_rfl
      · exact fun _ _ _ h => h
      · exact Or.inl ⟨by rfl, by intro w hSw; go_simp; try with_reducible rfl⟩
      · assumption
      try simp only [Act.put, List.setIfInBounds_toArray, List.set_cons_zero, List.set_cons_succ]
      apply wpAnyH_take (i := 2)
      · simp only [List.getElem?_toArray]; rfl
      · kernel_rfl
      · kernel_rfl
      · kernel_rfl
      · exact fun _ _ _ h => h
      · exact Or.inl ⟨by rfl, by intro w hSw; go_simp; try with_reducible rfl⟩
      · assumption
      try simp only [Act.put, List.setIfInBounds_toArray, List.set_cons_zero, List.set_cons_succ]
      apply wpAnyH_take (i := 3)
      · simp only [List.getElem?_toArray]; rfl
      · kernel_rfl
      · kernel_rfl
      · kernel_rfl
      · exact fun _ _ _ h => h
      · exact Or.inl ⟨by rfl, by intro w hSw; go_simp; try with_reducible rfl⟩
      · assumption
      try simp only [Act.put, List.setIfInBounds_toArray, List.set_cons_zero, List.set_cons_succ]
      apply wpAnyH_take (i := 4)
      · simp only [List.getElem?_toArray]; rfl
      · kernel_rfl
      · kernel_rfl
      · kernel_rfl
      · exact fun _ _ _ h => h
      · exact yields_ev_mid (by rfl) _ rfl bk (o + k * 19) rfl HS2.out
      · assumption
      try simp only [Act.put, List.setIfInBounds_toArray, List.set_cons_zero, List.set_cons_succ]
      apply wpAnyH_take (i := 6)
      · simp only [List.getElem?_toArray]; rfl
      · kernel_rfl
      · kernel_rfl
      · kernel_rfl
      · exact fun _ _ _ h => h
      · exact Or.inl ⟨by rfl, by intro w hSw; go_simp; try with_reducible rfl⟩
      · assumption
      try simp only [Act.put, List.setIfInBounds_toArray, List.set_cons_zero, List.set_cons_succ]
      apply wpAnyH_take (i := 7)
      · simp only [List.getElem?_toArray]; rfl
      · kernel_rfl
      · kernel_rfl
      · kernel_rfl
      · exact fun _ _ _ h => h
      · exact Or.inl ⟨by rfl, by intro w hSw; go_simp; try with_reducible rfl⟩
      · assumption
      try simp only [Act.put, List.setIfInBounds_toArray, List.set_cons_zero, List.set_cons_succ]
      apply wpAnyH_take (i := 8)
      · simp only [List.getElem?_toArray]; rfl
      · kernel_rfl
      · kernel_rfl
      · kernel_rfl
      · exact fun _ _ _ h => h
      · exact Or.inl ⟨by rfl, by intro w hSw; go_simp; try with_reducible rfl⟩
      · assumption
      try simp only [Act.put, List.setIfInBounds_toArray, List.set_cons_zero, List.set_cons_succ]
      apply wpAnyH_take (i := 9)
      · simp only [List.getElem?_toArray]; rfl
      · kernel_rfl
      · kernel_rfl
      · kernel_rfl
      · exact fun _ _ _ h => h
      · exact Or.inl ⟨by rfl, by intro w hSw; have q0 := hs1 w hSw; go_simp; try with_reducible rfl⟩
      · assumption
      try simp only [Act.put, List.setIfInBounds_toArray, List.set_cons_zero, List.set_cons_succ]
      apply wpAnyH_ready (rs := [5])
      · kernel_rfl
      · simp
      apply AllReadyH.cons (hs := AllReadyH.nil)
      · simp only [List.getElem?_toArray]; rfl
      intro K hK
      rw [if_pos (by rfl)]
      go_simp
      refine (HST.out wr.drew (Keeps.refl _ _).drew).mono ?_; rintro e w3 ⟨rfl, m', O', hA3, hk3, hf3, hm3⟩
      rw [← HE.out]
      have hk03 : Keeps [] w w3 := HKP.out.drew.trans hk3 (fun q hq => .inr (by simp at hq; rcases hq with rfl | rfl <;> assumption))
      have HK3 := Lib.hid hk03; have HA3 := Lib.hid hA3
      have HO3 := Lib.hid (show ∀ q ∈ O', w.heap.size ≤ q from fun q hq => (hf3 q hq).elim (HO.out q) (fun h => Nat.le_trans HKP.out.size h))
      have t1 : (E != E) = false := by simp
      go_wp2_with fail
      refine hK.out _ _ ?_ (fun hHeld => ?_)
      · exact (by rw [HSE.out]; exact HK3.out)
      clear hK K
      try simp only [Act.put, List.setIfInBounds_toArray, List.set_cons_zero, List.set_cons_succ]
      clear hs1 HS2 hSD hA3 hk3 hf3 hk03
      apply wpAnyH_take (i := 10)
      · simp only [List.getElem?_toArray]; rfl
      · kernel_rfl
      · kernel_rfl
      · kernel_rfl
      · exact fun _ _ _ h => h
      · exact Or.inl ⟨by rfl, by intro w hSw; go_simp; try with_reducible rfl⟩
      · assumption
      try simp only [Act.put, List.setIfInBounds_toArray, List.set_cons_zero, List.set_cons_succ]
      refine wpAnyH_done (by kernel_rfl) ?_ _
      refine NoPanic.normal ?_
      go_wp2_with fail
      go_roundw
      case rel => exact ⟨k + 1, m', O', rfl, by go_num, by omega, by rw [← HNX.out]; exact HA3.out, by omega, HO3.out, HK3.out⟩
      case measure => simp [intOf]; omega
    · obtain rfl : k = n := by omega
      have HKP := Lib.hid hkp
      clear hA hkp HR HR2
      go_wp2_with fail
      go_ret
      exact ⟨rfl, HKP.out⟩
end Go.Proofs.YtlaccndjlfpjbaaGreatDoor
/-
  The law's awake: slices of events that are written out.
-/
namespace Go.Proofs.YtlaccndjlfpjbaaGreatDoor
open Go.RowKit Go.Maps
/-- Why an event may not follow, where it is valid. -/
def hErrC (L : List Ev) (x : Ev) : Int := if x.k = 1 then (if L = [] then 0 else 11) else match L with
    | [] => 11
    | g :: _ => if hWrong g.g.m x.k then 10 else if hOpens x then hOpenE opChk L g x else hEndE mayOf L x
instance (L : List Ev) : Decidable (L = []) := by cases L with | nil => exact isTrue rfl | cons a r => exact isFalse (by simp)
def hAnsC : List Ev → List Ev → List Int
  | _, [] => []
  | L, x :: r => hErrC L x :: hAnsC (if hErrC L x = 0 then L ++ [x] else L) r
theorem hErr_c {L : List Ev} {x : Ev} (hg : evGood x = true) : hErr opChk mayOf L x = hErrC L x := by
  unfold hErr hErrC
  rw [hg]
  simp only [Bool.true_eq_false, ↓reduceIte]
  by_cases hk : x.k = 1
  · rw [if_pos hk, if_pos hk]
  · rw [if_neg hk, if_neg hk]
    cases L <;> rfl
theorem hAns_c : ∀ (l L : List Ev), (∀ x ∈ l, evGood x = true) → hAns L l = hAnsC L l
  | [], _, _ => rfl
  | x :: r, L, h => by
    have he := hErr_c (L := L) (h x (by simp))
    unfold hAns hAnsC
    rw [hAns_c r _ (fun y hy => h y (by simp [hy]))]
    unfold hNext
    rw [he]
theorem good_of {x : Ev} (h1 : evKind x.k = true) (h2 : x.c < 16) (h3 : evFits x = true) (h4 : evNeed x = x) : evGood x = true := by
  unfold evGood
  rw [h1, h3, h4]
  simp [h2, evSame_self]
set_option maxRecDepth 100000 in
theorem wpList_build_evl {ops : Array Oper} {rest : List Oper} {o : Oper} {a : Act} {w : World} {Q : Exit → Act → World → Prop} (hgd : o.guard = none) (n : Nat) (parts : Array (Nat × Operand)) (ho : o.op = .buildSlice 22 n parts) (L : EvL) (hn : L.length = n) (h0 : 0 < n) (h1 : n ≤ 1000)
    (hp : (parts.toList.map fun (i, x) => (i, a.eval x)) = ((L.map fun p => Value.agg (evC p.1 p.2.1 p.2.2)).zipIdx 0).map fun x => (x.2, x.1))
    (h : wpList Tryz.prog ops Q rest (a.put o.dst (.slice (some ⟨w.heap.size, 0, none⟩) n n)) (w.alloc (.cells (evsC L).toArray 42))) : wpList Tryz.prog ops Q (o :: rest) a w := by
  obtain ⟨i0, hi, hz0, hz1, hz2⟩ := info_parts Tryz.infoE
  refine wpList_buildSlice hgd 22 42 n parts ho (evsC L).toArray i0 _ Tryz.underlying22 hi hz0 (by rw [hz1]; omega) (by rw [hz1]; omega) ?_ h
  rw [hz1, Array.toList_map, hp]
  have := Great.fill_whole (s := 19) (by decide) (L.map fun p => Value.agg (evC p.1 p.2.1 p.2.2)) ((Array.range (n * 19)).map ((Value.agg (evC evZero (.slice none 0 0) (.slice none 0 0))).cells[· % (Value.agg (evC evZero (.slice none 0 0) (.slice none 0 0))).cells.size]!))
    (by intro v hv; obtain ⟨p, _, rfl⟩ := List.mem_map.1 hv; rfl) (by simp [hn])
  rw [this]
  congr 2
  clear this hp h hn
  induction L with
  | nil => rfl
  | cons p r ih => simp only [List.map_cons, List.flatMap_cons, ih]; rfl
theorem evs_lit {N b : Nat} {w : World} {L : EvL} {t : TypeId} {fr : Nat × Nat} (hb : w.heap[b]? = some (.cells (evsC L).toArray t fr)) (hN : b < N) (hL : ∀ p ∈ L, EvAt N w p.2.1 p.2.2 p.1) (hn : L.length ≤ 1000) : Evs N w (.slice (some ⟨b, 0, none⟩) L.length L.length) (L.map (·.1)) := by
  refine ⟨_, L.length, by rw [List.length_map], by rw [List.length_map]; exact Nat.le_refl _, by omega, fun _ => ⟨b, 0, rfl, hN, fun j hj => ?_⟩⟩
  rw [List.length_map] at hj
  have e : (L.map (·.1)).getD j evZero = L[j].1 := by simp [List.getD, hj]
  rw [e]
  refine ⟨L[j].2.1, L[j].2.2, hL _ (List.getElem_mem hj), fun i v hi => ?_⟩
  have := evsC_get L j L[j] (List.getElem?_eq_getElem hj) i v hi
  simp only [World.cell?, hb, Nat.zero_add]
  simpa using this
theorem errs_lit {N b : Nat} {w : World} {es : List Int} {t : TypeId} {fr : Nat × Nat} (hb : w.heap[b]? = some (.cells (es.map (Value.int .i64)).toArray t fr)) (hN : b < N) (hn : es.length ≤ 1000) : Errs N w (.slice (some ⟨b, 0, none⟩) es.length es.length) es := by
  refine ⟨_, es.length, rfl, Nat.le_refl _, by omega, fun _ => ⟨b, 0, rfl, hN, fun j hj => ?_⟩⟩
  simp [World.cell?, hb, List.getD, hj]
theorem cfgE_in (m : Int) (h : 0 ≤ m ∧ m ≤ 4) : (cfgE m).In := { evZero_in with k0 := (by decide : (0 : Int) ≤ 1), k1 := (by decide : (1 : Int) < 256), m0 := h.1, m1 := by show m < 256; omega, mo0 := (by decide : (-9223372036854775808 : Int) ≤ 8), mo1 := (by decide : (8 : Int) ≤ 9223372036854775807), ms0 := (by decide : (-9223372036854775808 : Int) ≤ 10), ms1 := (by decide : (10 : Int) ≤ 9223372036854775807), mt0 := (by decide : (-9223372036854775808 : Int) ≤ 100), mt1 := (by decide : (100 : Int) ≤ 9223372036854775807) }
theorem invE_in (c i f v : Int) (hc : 0 ≤ c ∧ c < 256) (hi : 0 ≤ i ∧ i < 65536) (hf : 0 ≤ f ∧ f < 256) (hv : 0 ≤ v ∧ v < 65536) : (invE c i f v).In :=
  { evZero_in with k0 := (by decide : (0 : Int) ≤ 2), k1 := (by decide : (2 : Int) < 256), c0 := hc.1, c1 := hc.2, i0 := hi.1, i1 := hi.2, o := ⟨hf.1, hf.2, (by decide : (0 : Int) ≤ 0), (by decide : (0 : Int) < 256), (by decide : (0 : Int) ≤ 0), (by decide : (0 : Int) < 256), hv.1, hv.2, (by decide : (0 : Int) ≤ 0), (by decide : (0 : Int) < 65536)⟩ }
theorem retE_in (c i k v : Int) (hc : 0 ≤ c ∧ c < 256) (hi : 0 ≤ i ∧ i < 65536) (hf : 0 ≤ k ∧ k < 256) (hv : 0 ≤ v ∧ v < 65536) : (retE c i k v).In :=
  { evZero_in with k0 := (by decide : (0 : Int) ≤ 3), k1 := (by decide : (3 : Int) < 256), c0 := hc.1, c1 := hc.2, i0 := hi.1, i1 := hi.2, rk0 := hf.1, rk1 := hf.2, rv0 := hv.1, rv1 := hv.2 }
def nil3 (x : Ev) : Ev × Value × Value := (x, .slice none 0 0, .slice none 0 0)
def awakeL : List Ev := [invE 0 5 1 0, cfgE 0, cfgE 0, invE 0 5 1 0, invE 0 6 1 0, retE 0 5 1 0]
theorem nil3_at (N : Nat) (w : World) (x : Ev) (ht : x.t = []) (hr : x.r = []) : EvAt N w (nil3 x).2.1 (nil3 x).2.2 (nil3 x).1 := ⟨by show Mics N w (.slice none 0 0) x.t; rw [ht]; exact Mics.nil _ _, by show Lists N w (.slice none 0 0) x.r; rw [hr]; exact Lists.nil _ _⟩
theorem awake_good : ∀ x ∈ awakeL, evGood x = true := by
  intro x hx
  simp only [awakeL, List.mem_cons, List.not_mem_nil, or_false] at hx
  rcases hx with rfl | rfl | rfl | rfl | rfl | rfl <;> exact good_of rfl (by decide) rfl rfl
theorem awake_ans : hAns [] awakeL = [11, 0, 11, 0, 9, 0] := by
  rw [hAns_c _ _ awake_good]; kernel_rfl
theorem awake_in : ∀ x ∈ awakeL, x.In := by
  intro x hx
  simp only [awakeL, List.mem_cons, List.not_mem_nil, or_false] at hx
  rcases hx with rfl | rfl | rfl | rfl | rfl | rfl
  all_goals first
    | exact cfgE_in 0 (by decide)
    | exact retE_in _ _ _ _ (by decide) (by decide) (by decide) (by decide)
    | exact invE_in _ _ _ _ (by decide) (by decide) (by decide) (by decide)
end Go.Proofs.YtlaccndjlfpjbaaGreatDoor
/-
  The law's awake: its walk.
-/
namespace Go.Proofs.YtlaccndjlfpjbaaGreatDoor
open Go.RowKit Go.Maps
set_option maxHeartbeats 8000000
set_option maxRecDepth 100000
theorem awake7_any (w : World) (hG : Glob4 w) : Calls Tryz.prog 9 #[] w fun e w' => e = .returned (.bool true) ∧ Keeps [] w w' := by
  have hI := fun w c i f v => invoke7_any w c i f v
  have hC := fun w m => config7_any w m
  have hR := fun w c i k v => ret7_any w c i k v
  go_enter Tryz.func9, Tryz.ntmps9
  go_wp2_with fail
  refine (hI _ _ _ _ _).mono ?_; rintro e w1 ⟨rfl, k1⟩
  go_wp2_with fail
  refine (hC _ _).mono ?_; rintro e w2 ⟨rfl, k2⟩
  go_wp2_with fail
  refine (hC _ _).mono ?_; rintro e w3 ⟨rfl, k3⟩
  go_wp2_with fail
  refine (hI _ _ _ _ _).mono ?_; rintro e w4 ⟨rfl, k4⟩
  go_wp2_with fail
  refine (hI _ _ _ _ _).mono ?_; rintro e w5 ⟨rfl, k5⟩
  go_wp2_with fail
  refine (hR _ _ _ _ _).mono ?_; rintro e w6 ⟨rfl, k6⟩
  have K := Lib.hid (((((k1.trans k2 (FSub.refl _ _)).trans k3 (FSub.refl _ _)).trans k4 (FSub.refl _ _)).trans k5 (FSub.refl _ _)).trans k6 (FSub.refl _ _))
  clear k1 k2 k3 k4 k5 k6
  go_wp2_with (first
    | (refine wpList_build_evl rfl 6 _ rfl (awakeL.map nil3) rfl (by decide) (by decide) rfl ?_)
    | (refine wpList_buildFlat rfl 54 30 6 _ rfl .i64 [11, 0, 11, 0, 9, 0] Tryz.underlying54 (by kernel_rfl) (by kernel_rfl) rfl (by decide) (by decide) rfl ?_))
  have hk : Keeps [] w6 ((w6.alloc (.cells (evsC (awakeL.map nil3)).toArray 42)).alloc (.cells (([11, 0, 11, 0, 9, 0] : List Int).map (Value.int .i64)).toArray 30)) := ((Keeps.refl [] w6).alloc _).alloc _
  have h1 := heap_alloc_lt (o := .cells (([11, 0, 11, 0, 9, 0] : List Int).map (Value.int .i64)).toArray 30) (heap_alloc_new w6 (.cells (evsC (awakeL.map nil3)).toArray 42))
  have h2 := heap_alloc_new (w6.alloc (.cells (evsC (awakeL.map nil3)).toArray 42)) (.cells (([11, 0, 11, 0, 9, 0] : List Int).map (Value.int .i64)).toArray 30)
  have hs : (w6.alloc (.cells (evsC (awakeL.map nil3)).toArray 42)).heap.size = w6.heap.size + 1 := by simp
  rw [hs] at h2
  have hsz : w6.heap.size + 2 ≤ ((w6.alloc (.cells (evsC (awakeL.map nil3)).toArray 42)).alloc (.cells (([11, 0, 11, 0, 9, 0] : List Int).map (Value.int .i64)).toArray 30)).heap.size := by simp
  have hE : Evs (w6.heap.size + 2) _ (.slice (some ⟨w6.heap.size, 0, none⟩) (awakeL.map nil3).length (awakeL.map nil3).length) ((awakeL.map nil3).map (·.1)) := evs_lit h1 (by omega) (fun q hq => by
    obtain ⟨x, hx, rfl⟩ := List.mem_map.1 hq
    have hx2 : x.t = [] ∧ x.r = [] := by
      simp only [awakeL, List.mem_cons, List.not_mem_nil, or_false] at hx
      rcases hx with rfl | rfl | rfl | rfl | rfl | rfl <;> exact ⟨rfl, rfl⟩
    exact nil3_at _ _ x hx2.1 hx2.2) (by decide)
  have hQ : Errs (w6.heap.size + 2) _ (.slice (some ⟨w6.heap.size + 1, 0, none⟩) ([11, 0, 11, 0, 9, 0] : List Int).length ([11, 0, 11, 0, 9, 0] : List Int).length) [11, 0, 11, 0, 9, 0] := errs_lit h2 (by omega) (by decide)
  refine (steps7_any _ (hG.new (K.out.trans hk (FSub.refl _ _))) awakeL awake_in (by decide) _ _ hE [11, 0, 11, 0, 9, 0] hQ hsz awake_ans rfl).mono ?_; rintro e w7 ⟨rfl, k7⟩
  have K7 := Lib.hid (K.out.trans (hk.trans k7 (FSub.refl _ _)) (FSub.refl _ _))
  clear hk h1 h2 hs hsz hE hQ k7
  go_wp2_with fail
  go_ret
  exact ⟨rfl, K7.out⟩
end Go.Proofs.YtlaccndjlfpjbaaGreatDoor
/-
  What was taken, as a row of events.
-/
namespace Go.Proofs.YtlaccndjlfpjbaaGreatDoor
open Go.RowKit Go.Maps
theorem HAuto.oz {w : World} {a p mb n : Nat} {L : List Ev} {O : List Nat} (h : HAuto w a p mb n L O) : ∀ q ∈ O, q < w.heap.size := by
  obtain ⟨g, on, op, la, ap, h1, h2⟩ := h
  exact h1.past.oz
theorem HAuto.lt {w : World} {a p mb n : Nat} {L : List Ev} {O : List Nat} (h : HAuto w a p mb n L O) : a < w.heap.size ∧ p < w.heap.size ∧ mb < w.heap.size := by
  obtain ⟨g, on, op, la, ap, h1, h2⟩ := h
  exact ⟨lt_of_block h1.cell, lt_of_block h1.past.heap, h1.past.map.lt⟩
theorem Nums.up7 {N M : Nat} {w : World} {v : Value} {l : List Int} (h : Nums N w v l) (hM : N ≤ M) : Nums M w v l := h.more hM
theorem EvAt.up7 {N M : Nat} {w : World} {tx rd : Value} {x : Ev} (h : EvAt N w tx rd x) (hM : N ≤ M) : EvAt M w tx rd x := by
  obtain ⟨⟨a, c, rfl, h1, h2, h3⟩, ⟨a', c', rfl, h4, h5, h6⟩⟩ := h
  refine ⟨⟨a, c, rfl, h1, h2, fun hn => ?_⟩, ⟨a', c', rfl, h4, h5, fun hn => ?_⟩⟩
  · obtain ⟨bk, o, rfl, hb, h7⟩ := h3 hn
    exact ⟨bk, o, rfl, by omega, h7⟩
  · obtain ⟨bk, o, rfl, hb, h7⟩ := h6 hn
    refine ⟨bk, o, rfl, by omega, fun j hj => ?_⟩
    obtain ⟨u, hu, h8⟩ := h7 j hj
    exact ⟨u, hu, h8.more hM⟩
/-- An automaton, and the events that it took. -/
structure TkInv (N : Nat) (w0 wr : World) (A p mb m : Nat) (L : List Ev) (O : List Nat) (tv : Value) (T : EvL) : Prop where
  au : HAuto wr A p mb m L O
  row : RowE w0.heap.size wr tv T
  ev : evsOf T = L
  evs : ∀ q ∈ T, EvAt N wr q.2.1 q.2.2 q.1
  ap : ∀ g ∈ own tv, g ≠ A ∧ g ≠ p ∧ g ≠ mb ∧ g ∉ O
  kp : Keeps [] w0 wr
  lo : w0.heap.size ≤ A ∧ w0.heap.size ≤ p ∧ w0.heap.size ≤ mb ∧ ∀ q ∈ O, w0.heap.size ≤ q
theorem TkInv.new {N : Nat} {w0 wr w' : World} {A p mb m : Nat} {L : List Ev} {O : List Nat} {tv : Value} {T : EvL} (h : TkInv N w0 wr A p mb m L O tv T) (hN : N ≤ w0.heap.size) (hk : Keeps [] wr w') : TkInv N w0 w' A p mb m L O tv T :=
  ⟨h.au.new hk, row_old h.row hk (by simp), h.ev, fun q hq => (h.evs q hq).new hk (Nat.le_trans hN h.kp.size), h.ap, h.kp.trans hk (FSub.refl _ _), h.lo⟩
/-- Step, then nothing or an append. -/
theorem TkInv.step {N : Nat} {w0 wr w' : World} {A p mb m : Nat} {L : List Ev} {O : List Nat} {tv : Value} {T : EvL} (h : TkInv N w0 wr A p mb m L O tv T) (hN : N ≤ w0.heap.size) {x : Ev} {e : Ending} (hs : StepPost wr A p mb m L O x e w') :
    e = .returned (.int .i64 (hErr opChk mayOf L x)) ∧ ∃ m' O', HAuto w' A p mb m' (hNext opChk mayOf L x) O' ∧ RowE w0.heap.size w' tv T ∧ (∀ q ∈ T, EvAt N w' q.2.1 q.2.2 q.1) ∧ (∀ g ∈ own tv, g ≠ A ∧ g ≠ p ∧ g ≠ mb ∧ g ∉ O' ∧ g < w'.heap.size) ∧ Keeps [] w0 w' ∧ (∀ q ∈ O', w0.heap.size ≤ q) ∧ m' ≤ m + 8 := by
  obtain ⟨he, m', O', hA, hk, hf, hm⟩ := hs
  refine ⟨he, m', O', hA, ?_, fun q hq => ?_, fun g hg => ?_, h.kp.trans hk (fun q hq => .inr (by simp at hq; rcases hq with rfl | rfl; exact h.lo.2.1; exact h.lo.2.2.1)), fun q hq => ?_, hm⟩
  · exact row_old h.row hk (fun q hq => by simp; exact ⟨(h.ap q hq).2.1, (h.ap q hq).2.2.1⟩)
  · exact (h.evs q hq).same (hk.same (Nat.le_trans hN h.kp.size) (fun g hg => by simp at hg; rcases hg with rfl | rfl; exact Nat.le_trans hN h.lo.2.1; exact Nat.le_trans hN h.lo.2.2.1))
  · obtain ⟨h1, h2, h3, h4⟩ := h.ap g hg
    have hb := row_base h.row g hg
    exact ⟨h1, h2, h3, fun hq => (hf g hq).elim h4 (fun h5 => by omega), Nat.lt_of_lt_of_le hb.2 hk.size⟩
  · exact (hf q hq).elim (h.lo.2.2.2 q) (fun h5 => Nat.le_trans h.kp.size h5)
/-- What Step took is appended. -/
theorem TkInv.take {N : Nat} {w0 wr w1 : World} {A p mb m : Nat} {L : List Ev} {O : List Nat} {tv : Value} {T : EvL} (h : TkInv N w0 wr A p mb m L O tv T) (hN : N ≤ w0.heap.size) {x : Ev} {e : Ending} (hs : StepPost wr A p mb m L O x e w1) (hx : hErr opChk mayOf L x = 0)
    (hn : T.length ≤ 1000) (tx rd : Value) (ht : EvAt N w1 tx rd x) :
    ∃ tv' w2 m' O', (Builtin.append_ #[22, 22] 22 #[tv, .slice (some ⟨w1.heap.size, 0, none⟩) 1 1]).run Tryz.prog (w1.alloc (.cells (evC x tx rd) 42)) = .ok tv' w2 ∧ TkInv N w0 w2 A p mb m' (L ++ [x]) O' tv' (T ++ [(x, tx, rd)]) ∧ m' ≤ m + 8 := by
  obtain ⟨_, m', O', h1, h2, h3, h4, h5, h6, h7⟩ := h.step hN hs
  rw [hNext_yes _ _ hx] at h1
  obtain ⟨tv', w2, hr, ho, hk, hf⟩ := append_ev w1 w0.heap.size h5.size tv T h2 (by omega) x tx rd ht.t.one ht.r.one
  have hN1 : N ≤ w1.heap.size := Nat.le_trans hN h5.size
  have hap : ∀ q ∈ own tv, N ≤ q := fun q hq => Nat.le_trans hN (row_base h2 q hq).1
  refine ⟨tv', w2, m', O', hr, ⟨h1.keeps hk (fun hq => (h4 _ hq).1 rfl) (fun hq => (h4 _ hq).2.1 rfl) (fun hq => (h4 _ hq).2.2.1 rfl) (fun q hq hq2 => (h4 _ hq2).2.2.2.1 hq), ho, by simp [evsOf]; exact h.ev, fun q hq => ?_, fun g hg => ?_, h5.trans hk (fun q hq => .inr (row_base h2 q hq).1), h.lo.1, h.lo.2.1, h.lo.2.2.1, h6⟩, h7⟩
  · rcases List.mem_append.1 hq with hq | hq
    · exact (h3 q hq).same (hk.same hN1 hap)
    · simp at hq; subst hq; exact ht.same (hk.same hN1 hap)
  · rcases hf g hg with h8 | h8
    · exact ⟨(h4 g h8).1, (h4 g h8).2.1, (h4 g h8).2.2.1, (h4 g h8).2.2.2.1⟩
    · obtain ⟨l1, l2, l3⟩ := h1.lt
      exact ⟨by omega, by omega, by omega, fun hq => by have := h1.oz g hq; omega⟩
end Go.Proofs.YtlaccndjlfpjbaaGreatDoor
/-
  The document's history: its small functions.
-/
namespace Go.Proofs.YtlaccndjlfpjbaaGreatDoor
open Go.RowKit Go.Maps
set_option maxHeartbeats 8000000
set_option maxRecDepth 100000
theorem cell_lit {w : World} {b : Nat} {cs : Array Value} {t : TypeId} {fr : Nat × Nat} (h : w.heap[b]? = some (.cells cs t fr)) (i : Nat) {v : Value} (hv : cs[i]? = some v) : w.cell? ⟨b, i, none⟩ = some v := by
  simp only [World.cell?, h]; exact hv
end Go.Proofs.YtlaccndjlfpjbaaGreatDoor
