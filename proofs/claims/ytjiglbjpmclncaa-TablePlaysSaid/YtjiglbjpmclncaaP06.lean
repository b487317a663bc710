/-
  The document's table: Invoke.
-/
import Derived.StillTailTactics
import Derived.Deep.RegionHeld3
import Derived.Test.YtjiglbjpmclncaaP05
set_option linter.unusedSimpArgs false
set_option linter.unusedVariables false
namespace Go.Proofs.Ytjiglbjpmclncaa
open Go.RowKit
/-- What a call that may change the table tells and leaves. -/
def T8Post (b base : Nat) (w : World) (v : Value) (r : Int × Tb) (e : Ending) (w' : World) : Prop :=
  e = .returned (.int .i64 r.1) ∧ ∃ v', T8At b base w' v' r.2 ∧ Keeps (b :: own v) w w' ∧ FSub (own v') (own v) w.heap.size
theorem wp_put_rows8 {o : Oper} {a : Act} {w : World} {K : Act → World → Prop} {Q : Exit → Act → World → Prop} {x y : Operand} {b : Nat} {t : TypeId} {u v l : Value} {ad : Option Addr} {n c : Nat} (hv : v = .slice ad n c)
    (ho : o.op = .store 53 x y) (hx : a.eval x = .pointer (some ⟨b, 0, none⟩)) (hy : a.eval y = v) (hg : w.heap[b]? = some (.cells #[u, l] t (0, 0)))
    (h : ∀ W, W.heap[b]? = some (.cells #[v, l] t (0, 0)) → Keeps [b] w W → K (a.put o.dst undef) W) : o.wp Try.prog a w K Q := by
  subst hv
  have hrun := run_put1 (P := Try.prog) w b 0 53 (.slice ad n c) (by kernel_rfl) rfl (by simp [World.cell?, hg]) (by simp [World.frozen?, hg])
  unfold Oper.wp execOp
  simp only [ho, hx, hy, Instr.storeAt, Instr.sureAddr, Sem.run_bind, Sem.run_pure, Result.andThen_ok, hrun]
  exact h _ (by rw [heap_setCell_same w b 0 _ t _ hg]; rfl) ((Keeps.refl [b] w).setCell _ _ (.inl (by simp)))
theorem wp_build_row8 {o : Oper} {a : Act} {w : World} {K : Act → World → Prop} {Q : Exit → Act → World → Prop} {y : Operand} {x : Rw} (ho : o.op = .buildSlice 53 1 #[(0, y)]) (hy : a.eval y = .agg (rwC x).toArray)
    (h : K (a.put o.dst (.slice (some ⟨w.heap.size, 0, none⟩) 1 1)) (w.alloc (.cells (rwC x).toArray 45))) : o.wp Try.prog a w K Q :=
  rk8.wp_build1 y ho hy (by decide) h
theorem yields_op8 {ops : Array Oper} {S : World → Prop} {o : Oper} {a : Act} {x : Opn} (hw : Region.wanted o (yielded ops a.tmps) = true) (y : Operand) (ho : o.op = .load 30 y) (b off : Nat) (hx : a.eval y = .pointer (some ⟨b, off, none⟩))
    (hS : ∀ w, S w → w.rangeAt b off [.int .u8 x.f, .int .u8 x.o, .int .u8 x.k, .int .u16 x.a, .int .u16 x.b]) : YieldsIf Try.prog ops S o (.agg #[.int .u8 x.f, .int .u8 x.o, .int .u8 x.k, .int .u16 x.a, .int .u16 x.b]) a :=
  yieldsIf_load_mid (P := Try.prog) hw 30 y ho b off hx [.int .u8 x.f, .int .u8 x.o, .int .u8 x.k, .int .u16 x.a, .int .u16 x.b] _ hS Try.underlying30 rfl (by kernel_rfl)
set_option maxHeartbeats 8000000
set_option maxRecDepth 100000
theorem r8Invoke_any (w : World) {b base : Nat} {v : Value} {t : Tb} (hT : T8At b base w v t) (hbase : base ≤ w.heap.size) (hn : t.L.length ≤ 90000) (c id : Int) (o : Opn) (at_ : Int) :
    Calls Try.prog 37 #[.pointer (some ⟨b, 0, none⟩), .int .u8 c, .int .u16 id, o.val, .int .i64 at_] w (T8Post b base w v (tbInv t c id o at_)) := by
  have hk0 := (Keeps.refl [] w).alloc (.cells #[.int .u8 o.f, .int .u8 o.o, .int .u8 o.k, .int .u16 o.a, .int .u16 o.b] 30)
  have hX := heap_alloc_new w (.cells #[.int .u8 o.f, .int .u8 o.o, .int .u8 o.k, .int .u16 o.a, .int .u16 o.b] 30)
  have hT0 := hT.new hk0
  have HMAY := Lib.hid (r8may_any _ hT0 at_); have HAT := Lib.hid (r8at_any _ hT0 id)
  have HOW := Lib.hid (show ∀ q ∈ own v, q ≠ w.heap.size from fun q hq e => by have := (row_base hT.row q hq).2; omega)
  have HBN := Lib.hid (show w.heap.size ≠ b from fun e => by have := lt_of_block hT.heap; omega)
  have HB := Lib.hid (Nat.le_trans hbase hk0.size)
  have HK0 := Lib.hid hk0; have HX := Lib.hid hX; have HT := Lib.hid hT0
  clear hT hT0 hk0 hX
  unfold Opn.val
  go_enter Try.func37, Try.ntmps37
  go_wp2_with fail
  generalize w.alloc _ = W at *
  generalize hBe : w.heap.size = B at *
  have HBE := Lib.hid (Nat.le_of_eq hBe)
  clear hBe
  refine (HMAY.out).mono ?_; rintro e w1 ⟨rfl, rfl⟩
  by_cases hm : tbMay t at_ = true
  · rw [hm]
    go_wp2_with fail
    refine (HAT.out).mono ?_; rintro e w2 ⟨rfl, rfl⟩
    cases hi : rwIdx id t.L with
    | some k =>
      have HR := Lib.hid (show T8Post b base w v (tbInv t c id o at_) (.returned (.int .i64 8)) w2 from by
        unfold tbInv
        rw [hm, hi]
        exact ⟨rfl, v, HT.out, HK0.out.more (by simp), FSub.refl _ _⟩)
      clear HMAY HAT
      simp only [idxOf]
      go_wp2_with fail
      go_ret
      exact HR.out
    | none =>
      simp only [idxOf]
      obtain ⟨a0, cp, hv0, hc, hmx⟩ := HT.out.row.shape
      subst hv0
      have hv : w2.cell? ⟨b, 0, none⟩ = some (.slice a0 t.L.length cp) := HT.out.cells.1
      obtain ⟨v', w3, hrun, hrow, hk2, hf2⟩ := rk8.append1 w2.drew base HB.out (.slice a0 t.L.length cp) t.L (HT.out.row.keeps ((Keeps.refl [] w2).drew) (by simp)) (rwNew c id o at_) (by omega)
      have hk12 : Keeps (own (.slice a0 t.L.length cp)) w2 w3 := ((Keeps.refl [] w2).drew.more (by simp)).step hk2 (fun q hq => hq)
      have hbo : b ∉ own (.slice a0 t.L.length cp) := fun hq => by have := (row_base HT.out.row b hq).1; have := HT.out.bb; omega
      have HC3 := Lib.hid (hk12.heap HT.out.heap hbo)
      have HRUN := Lib.hid (show (Builtin.append_ #[53, 53] 53 #[.slice a0 t.L.length cp, .slice (some ⟨w2.drew.heap.size, 0, none⟩) 1 1]).run Try.prog (w2.drew.alloc (.cells (rwC (rwNew c id o at_)).toArray 45)) = .ok v' w3 from hrun)
      have HK12 := Lib.hid hk12; have HROW := Lib.hid hrow; have HF2 := Lib.hid hf2
      have HKB := Lib.hid (((Keeps.refl [] w2).drew).alloc (.cells (rwC (rwNew c id o at_)).toArray 45))
      obtain ⟨a9, c9, rfl, hc9, hm9⟩ := hrow.shape
      have HNO := Lib.hid (show B ∉ own (.slice a0 t.L.length cp) from fun hq => HOW.out B hq rfl)
      have HCA := Lib.hid (show (w2.drew.alloc (.cells (rwC (rwNew c id o at_)).toArray 45)).cell? ⟨b, 0, none⟩ = some (.slice a0 t.L.length cp) from HKB.out.cell hv (by simp))
      have hs1 : w2.drew.cell? ⟨b, 0, none⟩ = some (.slice a0 t.L.length cp) := hv
      clear hrun hk12 hrow hf2 hk2 hbo hv HMAY HAT
      go_wp2_with fail
      obtain ⟨S, hS⟩ : ∃ S : World → Prop, S = fun y => Keeps (b :: own (.slice a0 t.L.length cp)) w2 y := ⟨_, rfl⟩
      have HSE := Lib.hid hS
      have hSD : S w2.drew := by rw [hS]; exact (Keeps.refl _ _).drew
      have HS2 := Lib.hid (fun (w' : World) (h : S w') => show w'.rangeAt B 0 [.int .u8 o.f, .int .u8 o.o, .int .u8 o.k, .int .u16 o.a, .int .u16 o.b] from by rw [hS] at h; exact fun i u hi => h.cell (by have := HX.out; simp only [World.cell?, this, Nat.zero_add]; simpa using hi) (by simp; exact ⟨HBN.out, HNO.out⟩))
      clear hS
      refine wp_region_noPanic ?_
      refine wp_region_held_drew (S := S) (by kernel_rfl) hSD (fun hHeld => ?_)
      apply wpAnyH_take (i := 0)
      · simp only [List.getElem?_toArray]; rfl
      · kernel_rfl
      · kernel_rfl
      · kernel_rfl
      · exact fun _ _ _ h => h
      · exact Or.inl ⟨by rfl, by intro w hSw; go_simp; try with_reducible rfl⟩
      · assumption
      try simp only [Act.put, List.setIfInBounds_toArray, List.set_cons_zero, List.set_cons_succ]
      apply wpAnyH_take (i := 1)
      · simp only [List.getElem?_toArray]; rfl
      · kernel_rfl
      · kernel_rfl
      · kernel_rfl
      · exact fun _ _ _ h => h
      · exact Or.inl ⟨by rfl, by intro w hSw; go_simp; try with_reducible rfl⟩
      · assumption
      try simp only [Act.put, List.setIfInBounds_toArray, List.set_cons_zero, List.set_cons_succ]
      apply wpAnyH_take (i := 2)
      · simp only [List.getElem?_toArray]; rfl
      · kernel_rfl
      · kernel_rfl
      · kernel_rfl
      · exact fun _ _ _ h => h
      · exact Or.inl ⟨by rfl, by intro w hSw; go_simp; try with_reducible rfl⟩
      · assumption
      try simp only [Act.put, List.setIfInBounds_toArray, List.set_cons_zero, List.set_cons_succ]
      apply wpAnyH_take (i := 3)
      · simp only [List.getElem?_toArray]; rfl
      · kernel_rfl
      · kernel_rfl
      · kernel_rfl
      · exact fun _ _ _ h => h
      · exact Or.inl ⟨by rfl, by intro w hSw; go_simp; try with_reducible rfl⟩
      · assumption
      try simp only [Act.put, List.setIfInBounds_toArray, List.set_cons_zero, List.set_cons_succ]
      apply wpAnyH_take (i := 5)
      · simp only [List.getElem?_toArray]; rfl
      · kernel_rfl
      · kernel_rfl
      · kernel_rfl
      · exact fun _ _ _ h => h
      · exact Or.inl ⟨by rfl, by intro w hSw; go_simp; try with_reducible rfl⟩
      · assumption
      try simp only [Act.put, List.setIfInBounds_toArray, List.set_cons_zero, List.set_cons_succ]
      apply wpAnyH_take (i := 6)
      · simp only [List.getElem?_toArray]; rfl
      · kernel_rfl
      · kernel_rfl
      · kernel_rfl
      · exact fun _ _ _ h => h
      · exact Or.inl ⟨by rfl, by intro w hSw; go_simp; try with_reducible rfl⟩
      · assumption
      try simp only [Act.put, List.setIfInBounds_toArray, List.set_cons_zero, List.set_cons_succ]
      apply wpAnyH_take (i := 7)
      · simp only [List.getElem?_toArray]; rfl
      · kernel_rfl
      · kernel_rfl
      · kernel_rfl
      · exact fun _ _ _ h => h
      · exact yields_op8 (by rfl) _ rfl B 0 rfl HS2.out
      · assumption
      try simp only [Act.put, List.setIfInBounds_toArray, List.set_cons_zero, List.set_cons_succ]
      apply wpAnyH_take (i := 8)
      · simp only [List.getElem?_toArray]; rfl
      · kernel_rfl
      · kernel_rfl
      · kernel_rfl
      · exact fun _ _ _ h => h
      · exact Or.inl ⟨by rfl, by intro w hSw; go_simp; try with_reducible rfl⟩
      · assumption
      try simp only [Act.put, List.setIfInBounds_toArray, List.set_cons_zero, List.set_cons_succ]
      apply wpAnyH_take (i := 9)
      · simp only [List.getElem?_toArray]; rfl
      · kernel_rfl
      · kernel_rfl
      · kernel_rfl
      · exact fun _ _ _ h => h
      · exact Or.inl ⟨by rfl, by intro w hSw; go_simp; try with_reducible rfl⟩
      · assumption
      try simp only [Act.put, List.setIfInBounds_toArray, List.set_cons_zero, List.set_cons_succ]
      apply wpAnyH_ready (rs := [4, 10])
      · kernel_rfl
      · simp
      apply AllReadyH.cons
      · simp only [List.getElem?_toArray]; rfl
      · intro K hK
        rw [if_pos (by rfl)]
        go_wp2_with fail
        refine hK.out _ _ ?_ (fun hHeld => ?_)
        · exact (by rw [HSE.out]; exact (Keeps.refl _ _).drew)
        clear hK K
        try simp only [Act.put, List.setIfInBounds_toArray, List.set_cons_zero, List.set_cons_succ]
        apply wpAnyH_ready (rs := [10])
        · kernel_rfl
        · simp
        apply AllReadyH.cons (hs := AllReadyH.nil)
        · simp only [List.getElem?_toArray]; rfl
        intro K hK
        rw [if_pos (by rfl)]
        refine wp_build_row8 (x := rwNew c id o at_) rfl rfl ?_
        refine hK.out _ _ ?_ (fun hHeld => ?_)
        · exact (by rw [HSE.out]; exact HKB.out.more (by simp))
        clear hK K
        try simp only [Act.put, List.setIfInBounds_toArray, List.set_cons_zero, List.set_cons_succ]
        apply wpAnyH_ready (rs := [11])
        · kernel_rfl
        · simp
        apply AllReadyH.cons (hs := AllReadyH.nil)
        · simp only [List.getElem?_toArray]; rfl
        intro K hK
        rw [if_pos (by rfl)]
        refine wp_append_run _ _ 53 rfl _ _ _ w3 rfl rfl HRUN.out ?_
        refine hK.out _ _ ?_ (fun hHeld => ?_)
        · exact (by rw [HSE.out]; exact HK12.out.more (fun q hq => List.mem_cons_of_mem _ hq))
        clear hK K
        try simp only [Act.put, List.setIfInBounds_toArray, List.set_cons_zero, List.set_cons_succ]
        apply wpAnyH_take (i := 12)
        · simp only [List.getElem?_toArray]; rfl
        · kernel_rfl
        · kernel_rfl
        · kernel_rfl
        · exact fun _ _ _ h => h
        · exact Or.inl ⟨by rfl, by intro w hSw; go_simp; try with_reducible rfl⟩
        · assumption
        try simp only [Act.put, List.setIfInBounds_toArray, List.set_cons_zero, List.set_cons_succ]
        apply wpAnyH_take (i := 13)
        · simp only [List.getElem?_toArray]; rfl
        · kernel_rfl
        · kernel_rfl
        · kernel_rfl
        · exact fun _ _ _ h => h
        · exact Or.inl ⟨by rfl, by intro w hSw; go_simp; try with_reducible rfl⟩
        · assumption
        try simp only [Act.put, List.setIfInBounds_toArray, List.set_cons_zero, List.set_cons_succ]
        apply wpAnyH_ready (rs := [14])
        · kernel_rfl
        · simp
        apply AllReadyH.cons (hs := AllReadyH.nil)
        · simp only [List.getElem?_toArray]; rfl
        intro K hK
        rw [if_pos (by rfl)]
        refine wp_put_rows8 rfl rfl rfl rfl HC3.out ?_
        intro w4 h4 k4
        have hk14 : Keeps (b :: own (.slice a0 t.L.length cp)) w2 w4 := (HK12.out.more (fun q hq => List.mem_cons_of_mem _ hq)).step (k4.more (by simp)) (fun q hq => hq)
        refine hK.out _ _ ?_ (fun hHeld => ?_)
        · exact (by rw [HSE.out]; exact hk14)
        clear hK K
        try simp only [Act.put, List.setIfInBounds_toArray, List.set_cons_zero, List.set_cons_succ]
        refine wpAnyH_done (by kernel_rfl) ?_ _
        refine NoPanic.normal ?_
        have HC4 := Lib.hid h4
        have hrow4 := RK.Own.keeps HROW.out k4 (fun q hq hb => by have h1 := (row_base HROW.out q hq).1; have h2 := HT.out.bb; simp at hb; omega)
        have HROW4 := Lib.hid hrow4; have HK14 := Lib.hid hk14
        have HFIN := Lib.hid (show T8Post b base w (.slice a0 t.L.length cp) (tbInv t c id o at_) (.returned (.int .i64 0)) (w4.setCell ⟨b, 1, none⟩ (.int .i64 at_)) from by
          have k5 : Keeps [b] w4 (w4.setCell ⟨b, 1, none⟩ (.int .i64 at_)) := (Keeps.refl [b] w4).setCell _ _ (.inl (by simp))
          rw [show tbInv t c id o at_ = (0, ⟨t.L ++ [rwNew c id o at_], at_⟩) by unfold tbInv; rw [hm, hi]; rfl]
          refine ⟨rfl, _, ⟨?_, RK.Own.keeps HROW4.out k5 (fun q hq hb => by have h1 := (row_base HROW4.out q hq).1; have h2 := HT.out.bb; simp at hb; omega), HT.out.bb, by simp; omega⟩, ?_, FSub.mono HF2.out HK0.out.size⟩
          · rw [heap_setCell_same w4 b 1 _ _ _ HC4.out]; rfl
          · exact (HK0.out.more (by simp)).step (HK14.out.step (k5.more (by simp)) (fun q hq => hq)) (fun q hq => hq))
        have g1 : w4.cell? ⟨b, 1, none⟩ = some (.int .i64 t.last) := by simp [World.cell?, HC4.out]
        have g2 : w4.frozen? ⟨b, 1, none⟩ = false := by simp [World.frozen?, HC4.out]
        clear hHeld h4 k4 hk14 HS2 hSD hrow4 HRUN HROW HROW4 HC4 HC3
        go_wp2_with fail
        go_ret
        exact HFIN.out
      apply AllReadyH.cons (hs := AllReadyH.nil)
      · simp only [List.getElem?_toArray]; rfl
      · intro K hK
        rw [if_pos (by rfl)]
        refine wp_build_row8 (x := rwNew c id o at_) rfl rfl ?_
        refine hK.out _ _ ?_ (fun hHeld => ?_)
        · exact (by rw [HSE.out]; exact HKB.out.more (by simp))
        clear hK K
        try simp only [Act.put, List.setIfInBounds_toArray, List.set_cons_zero, List.set_cons_succ]
        generalize hW9 : w2.drew.alloc (.cells (rwC (rwNew c id o at_)).toArray 45) = W9 at *
        clear hW9
        have hs2 := HCA.out
        apply wpAnyH_ready (rs := [4])
        · kernel_rfl
        · simp
        apply AllReadyH.cons (hs := AllReadyH.nil)
        · simp only [List.getElem?_toArray]; rfl
        intro K hK
        rw [if_pos (by rfl)]
        go_wp2_with fail
        refine hK.out _ _ ?_ (fun hHeld => ?_)
        · exact (by rw [HSE.out]; exact HKB.out.more (by simp))
        clear hK K
        try simp only [Act.put, List.setIfInBounds_toArray, List.set_cons_zero, List.set_cons_succ]
        clear hs2
        apply wpAnyH_ready (rs := [11])
        · kernel_rfl
        · simp
        apply AllReadyH.cons (hs := AllReadyH.nil)
        · simp only [List.getElem?_toArray]; rfl
        intro K hK
        rw [if_pos (by rfl)]
        refine wp_append_run _ _ 53 rfl _ _ _ w3 rfl rfl HRUN.out ?_
        refine hK.out _ _ ?_ (fun hHeld => ?_)
        · exact (by rw [HSE.out]; exact HK12.out.more (fun q hq => List.mem_cons_of_mem _ hq))
        clear hK K
        try simp only [Act.put, List.setIfInBounds_toArray, List.set_cons_zero, List.set_cons_succ]
        apply wpAnyH_take (i := 12)
        · simp only [List.getElem?_toArray]; rfl
        · kernel_rfl
        · kernel_rfl
        · kernel_rfl
        · exact fun _ _ _ h => h
        · exact Or.inl ⟨by rfl, by intro w hSw; go_simp; try with_reducible rfl⟩
        · assumption
        try simp only [Act.put, List.setIfInBounds_toArray, List.set_cons_zero, List.set_cons_succ]
        apply wpAnyH_take (i := 13)
        · simp only [List.getElem?_toArray]; rfl
        · kernel_rfl
        · kernel_rfl
        · kernel_rfl
        · exact fun _ _ _ h => h
        · exact Or.inl ⟨by rfl, by intro w hSw; go_simp; try with_reducible rfl⟩
        · assumption
        try simp only [Act.put, List.setIfInBounds_toArray, List.set_cons_zero, List.set_cons_succ]
        apply wpAnyH_ready (rs := [14])
        · kernel_rfl
        · simp
        apply AllReadyH.cons (hs := AllReadyH.nil)
        · simp only [List.getElem?_toArray]; rfl
        intro K hK
        rw [if_pos (by rfl)]
        refine wp_put_rows8 rfl rfl rfl rfl HC3.out ?_
        intro w4 h4 k4
        have hk14 : Keeps (b :: own (.slice a0 t.L.length cp)) w2 w4 := (HK12.out.more (fun q hq => List.mem_cons_of_mem _ hq)).step (k4.more (by simp)) (fun q hq => hq)
        refine hK.out _ _ ?_ (fun hHeld => ?_)
        · exact (by rw [HSE.out]; exact hk14)
        clear hK K
        try simp only [Act.put, List.setIfInBounds_toArray, List.set_cons_zero, List.set_cons_succ]
        refine wpAnyH_done (by kernel_rfl) ?_ _
        refine NoPanic.normal ?_
        have HC4 := Lib.hid h4
        have hrow4 := RK.Own.keeps HROW.out k4 (fun q hq hb => by have h1 := (row_base HROW.out q hq).1; have h2 := HT.out.bb; simp at hb; omega)
        have HROW4 := Lib.hid hrow4; have HK14 := Lib.hid hk14
        have HFIN := Lib.hid (show T8Post b base w (.slice a0 t.L.length cp) (tbInv t c id o at_) (.returned (.int .i64 0)) (w4.setCell ⟨b, 1, none⟩ (.int .i64 at_)) from by
          have k5 : Keeps [b] w4 (w4.setCell ⟨b, 1, none⟩ (.int .i64 at_)) := (Keeps.refl [b] w4).setCell _ _ (.inl (by simp))
          rw [show tbInv t c id o at_ = (0, ⟨t.L ++ [rwNew c id o at_], at_⟩) by unfold tbInv; rw [hm, hi]; rfl]
          refine ⟨rfl, _, ⟨?_, RK.Own.keeps HROW4.out k5 (fun q hq hb => by have h1 := (row_base HROW4.out q hq).1; have h2 := HT.out.bb; simp at hb; omega), HT.out.bb, by simp; omega⟩, ?_, FSub.mono HF2.out HK0.out.size⟩
          · rw [heap_setCell_same w4 b 1 _ _ _ HC4.out]; rfl
          · exact (HK0.out.more (by simp)).step (HK14.out.step (k5.more (by simp)) (fun q hq => hq)) (fun q hq => hq))
        have g1 : w4.cell? ⟨b, 1, none⟩ = some (.int .i64 t.last) := by simp [World.cell?, HC4.out]
        have g2 : w4.frozen? ⟨b, 1, none⟩ = false := by simp [World.frozen?, HC4.out]
        clear hHeld h4 k4 hk14 HS2 hSD hrow4 HRUN HROW HROW4 HC4 HC3
        go_wp2_with fail
        go_ret
        exact HFIN.out
  · have hm2 : tbMay t at_ = false := by simpa using hm
    have HR := Lib.hid (show T8Post b base w v (tbInv t c id o at_) (.returned (.int .i64 2)) w1 from by
      unfold tbInv
      rw [if_pos hm2]
      exact ⟨rfl, v, HT.out, HK0.out.more (by simp), FSub.refl _ _⟩)
    rw [hm2]
    clear HMAY HAT
    go_wp2_with fail
    go_ret
    exact HR.out
end Go.Proofs.Ytjiglbjpmclncaa
/-
  The document's table: a row's end (Return, Info).
-/
namespace Go.Proofs.Ytjiglbjpmclncaa
open Go.RowKit
section
variable {ops : Array Oper} {rest : List Oper} {a : Act} {w : World} {Q : Exit → Act → World → Prop}
/-- One cell of a row in a block of its own is put. -/
theorem wpList_cell8 {T : TypeId} {dst : Option Tmp} {ty : TypeId} {pos : String} {after : Array Edge} {x y : Operand} {b i : Nat} {v : Value} {r r' : Rw} {t : TypeId} (hi : (Try.prog.info? T).map (·.size) = some 1) (h1 : v.oneCell' = true)
    (hx : a.eval x = .pointer (some ⟨b, i, none⟩)) (hy : a.eval y = v) (hg : w.heap[b]? = some (.cells (rwC r).toArray t (0, 0))) (hl : i < 12) (he : (rwC r).toArray.setIfInBounds i v = (rwC r').toArray)
    (h : ∀ W, W.heap[b]? = some (.cells (rwC r').toArray t (0, 0)) → Keeps [b] w W → wpList Try.prog ops Q rest (a.put dst undef) W) :
    wpList Try.prog ops Q ({ dst := dst, op := .store T x y, type := ty, pos := pos, after := after, guard := none } :: rest) a w := by
  refine wpList_plain rfl fun K hK => ?_
  have hrun := run_put1 (P := Try.prog) w b i T v hi h1 (by rw [rw_cell hg i (v := (rwC r)[i]'(by rw [rwC_len]; exact hl)) (List.getElem?_eq_getElem _)]; rfl) (by simp [World.frozen?, hg])
  unfold Oper.wp execOp
  simp only [hx, hy, Instr.storeAt, Instr.sureAddr, Sem.run_bind, Sem.run_pure, Result.andThen_ok, hrun]
  exact hK _ _ (h _ (by rw [heap_setCell_same w b i _ t _ hg, he]) ((Keeps.refl [b] w).setCell _ _ (.inl (by simp))))
/-- A row's answer is put. -/
theorem wpList_res8 {dst : Option Tmp} {ty : TypeId} {pos : String} {after : Array Edge} {x y : Operand} {b : Nat} {r : Rw} {t : TypeId} {k v : Int}
    (hx : a.eval x = .pointer (some ⟨b, 7, none⟩)) (hy : a.eval y = .agg #[.int .u8 k, .int .u16 v]) (hg : w.heap[b]? = some (.cells (rwC r).toArray t (0, 0)))
    (h : ∀ W, W.heap[b]? = some (.cells (rwC { r with rk := k, rv := v }).toArray t (0, 0)) → Keeps [b] w W → wpList Try.prog ops Q rest (a.put dst undef) W) :
    wpList Try.prog ops Q ({ dst := dst, op := .store 32 x y, type := ty, pos := pos, after := after, guard := none } :: rest) a w := by
  have g1 := heap_setCell_same w b 7 _ t (.int .u8 k) hg
  have g2 := heap_setCell_same _ b 8 _ t (.int .u16 v) g1
  refine wpList_store_mid rfl 32 x y rfl b 7 #[.int .u8 k, .int .u16 v] hx hy (fun j hj => ⟨?_, by simp [World.frozen?, hg]⟩) (by kernel_rfl) (by rw [← Array.all_toList]; rfl)
    (h _ g2 (((Keeps.refl [b] w).setCell ⟨b, 7, none⟩ _ (.inl (by simp))).setCell ⟨b, 8, none⟩ _ (.inl (by simp))))
  have hj2 : j < 2 := hj
  rcases (by omega : j = 0 ∨ j = 1) with rfl | rfl
  all_goals rw [rw_cell hg _ rfl]; rfl
end
theorem Keeps.setCellsQ {F : List Nat} {w : World} {g : Nat} (hg : g ∈ F) : ∀ (vs : List Value) (o : Nat) {w' : World}, Keeps F w w' → Keeps F w (w'.setCells g o vs)
  | [], _, _, h => h
  | v :: r, o, w', h => Keeps.setCellsQ hg r (o + 1) (h.setCell ⟨g, o, none⟩ v (.inl (by simpa using hg)))
/-- The cells of a row of structs are there, and may be put. -/
theorem RK.Own.hold {α : Type} {R : RK α} {base : Nat} {w : World} {g cap : Nat} {L : List α} (h : R.Own base w (.slice (some ⟨g, 0, none⟩) L.length cap) L) (k : Nat) (hk : k < L.length) : ∀ j, j < R.s → (w.cell? ⟨g, k * R.s + j, none⟩).isSome = true ∧ w.frozen? ⟨g, k * R.s + j, none⟩ = false := by
  intro j hj
  rcases h.2 with ⟨e, _⟩ | ⟨g', cap', cur, e, hb, hh, hc, hm, hcs, htk⟩
  · cases e
  · simp only [Value.slice.injEq, Option.some.injEq, Addr.mk.injEq, and_true, true_and] at e
    obtain ⟨rfl, rfl⟩ := e
    have hlt : k * R.s + j < cur.size := by
      rw [hcs]
      have h1 : (k + 1) * R.s ≤ cap * R.s := Nat.mul_le_mul_right _ (by omega)
      rw [Nat.add_mul] at h1
      omega
    exact ⟨by simp [World.cell?, hh, hlt], by simp [World.frozen?, hh]⟩
set_option maxHeartbeats 8000000
set_option maxRecDepth 100000
theorem r8End_any (w : World) {b base : Nat} {v : Value} {t : Tb} (hT : T8At b base w v t) (id : Int) (done : Bool) (rk rv at_ : Int) :
    Calls Try.prog 38 #[.pointer (some ⟨b, 0, none⟩), .int .u16 id, .bool done, .agg #[.int .u8 rk, .int .u16 rv], .int .i64 at_] w (T8Post b base w v (tbEnd t id done rk rv at_)) := by
  have hk0 := (Keeps.refl [] w).alloc (.cells #[.int .u8 rk, .int .u16 rv] 32)
  have hX := heap_alloc_new w (.cells #[.int .u8 rk, .int .u16 rv] 32)
  have hT0 := hT.new hk0
  have HMAY := Lib.hid (r8may_any _ hT0 at_); have HAT := Lib.hid (r8at_any _ hT0 id)
  have HK0 := Lib.hid hk0; have HX := Lib.hid hX; have HT := Lib.hid hT0
  clear hT hT0 hk0 hX
  go_enter Try.func38, Try.ntmps38
  go_wp2_with fail
  generalize w.alloc _ = W at *
  generalize hBe : w.heap.size = B at *
  have HBE := Lib.hid (Nat.le_of_eq hBe)
  clear hBe
  refine (HMAY.out).mono ?_; rintro e w1 ⟨rfl, rfl⟩
  by_cases hm : tbMay t at_ = true
  · rw [hm]
    go_wp2_with fail
    refine (HAT.out).mono ?_; rintro e w2 ⟨rfl, rfl⟩
    cases hi : rwIdx id t.L with
    | none =>
      have HR := Lib.hid (show T8Post b base w v (tbEnd t id done rk rv at_) (.returned (.int .i64 7)) w2 from by
        unfold tbEnd
        rw [hm, hi]
        exact ⟨rfl, v, HT.out, HK0.out.more (by simp), FSub.refl _ _⟩)
      clear HMAY HAT
      simp only [idxOf]
      go_wp2_with fail
      go_ret
      exact HR.out
    | some k =>
      simp only [idxOf]
      obtain ⟨hk, -, -⟩ := rwIdx_some hi
      obtain ⟨g, cap, rfl, hc, hmx, -, hg, hrow⟩ := HT.out.row.at (fun e => by rw [e] at hk; simp at hk)
      have hr0 : w2.rangeAt g (k * 12) (rwC t.L[k]) := hrow k hk
      have HRW := Lib.hid hr0
      obtain ⟨-, -, m9, -⟩ := rw_cells hr0
      obtain ⟨hv, -⟩ := HT.out.cells
      have HG := Lib.hid (List.getElem?_eq_getElem hk)
      clear hrow hr0 HMAY HAT
      generalize t.L[k] = r at *
      generalize hn2 : t.L.length = n at *
      have HN2 := Lib.hid hn2
      clear hn2
      by_cases hst : r.st = 0
      · have HR := Lib.hid (show tbEnd t id done rk rv at_ = (0, ⟨t.L.set k (rwEnd r done rk rv at_), at_⟩) by unfold tbEnd; rw [hm, hi]; simp only [HG.out]; rw [if_pos hst]; rfl)
        rw [hst] at m9
        have hka := (Keeps.refl [] w2).alloc (.cells #[.int .u8 0, .int .u16 0, .int .u8 0, .int .u8 0, .int .u8 0, .int .u16 0, .int .u16 0, .int .u8 0, .int .u16 0, .int .u8 0, .int .i64 0, .int .i64 0] 45)
        have HC0 := Lib.hid (show (w2.alloc (.cells #[.int .u8 0, .int .u16 0, .int .u8 0, .int .u8 0, .int .u8 0, .int .u16 0, .int .u16 0, .int .u8 0, .int .u16 0, .int .u8 0, .int .i64 0, .int .i64 0] 45)).heap[w2.heap.size]? = some (.cells (rwC rwZero).toArray 45 (0, 0)) from heap_alloc_new w2 (.cells #[.int .u8 0, .int .u16 0, .int .u8 0, .int .u8 0, .int .u8 0, .int .u16 0, .int .u16 0, .int .u8 0, .int .u16 0, .int .u8 0, .int .i64 0, .int .i64 0] 45))
        have HKA := Lib.hid hka
        have HCN := Lib.hid (Nat.le_refl w2.heap.size)
        clear hka
        go_wp2_with (first | ((with_reducible refine wpList_load8 (g := g) (off := k * 12) (y := r) rfl ?_ HRW.out ?_); exact rfl) | ((with_reducible refine wpList_put8 (old := rwZero) (r := r) ?_ ?_ HC0.out ?_); exact rfl; exact rfl))
        intro W1 h1 k1
        have HK1 := Lib.hid (show Keeps [] w2 W1 from HKA.out.trans k1 (fun q hq => .inr (by simp at hq; omega)))
        have HC1 := Lib.hid h1
        clear h1 k1 HC0 HKA HRW m9 hv
        generalize hCe : w2.heap.size = C at *
        have HCE := Lib.hid hCe
        clear hCe
        cases done with
        | true =>
          go_wp2_with ((with_reducible refine wpList_cell8 (T := 5) (b := C) (i := 9) (v := .int .u8 1) (r := r) (r' := { r with st := 1 }) ?_ ?_ ?_ ?_ HC1.out ?_ ?_ ?_); kernel_rfl; exact rfl; exact rfl; exact rfl; decide; exact rfl)
          intro W2 h2 k2
          have HK2 := Lib.hid (HK1.out.trans k2 (fun q hq => .inr (by simp at hq; have := HCE.out; omega)))
          have HC2 := Lib.hid h2
          have hb2 := HK2.out.heap HX.out (by simp)
          have x0 := cell_lit hb2 0 rfl
          have x1 := cell_lit hb2 1 rfl
          clear h2 k2 hb2 HK1 HC1
          go_wp2_with ((with_reducible refine wpList_res8 (b := C) (r := { r with st := 1 }) (k := rk) (v := rv) ?_ ?_ HC2.out ?_); exact rfl; exact rfl)
          intro W3 h3 k3
          have HK3 := Lib.hid (HK2.out.trans k3 (fun q hq => .inr (by simp at hq; have := HCE.out; omega)))
          have HC3 := Lib.hid h3
          clear h3 k3 x0 x1 HK2 HC2
          go_wp2_with ((with_reducible refine wpList_cell8 (T := 3) (b := C) (i := 11) (v := .int .i64 at_) (r := { r with st := 1, rk := rk, rv := rv }) (r' := { r with st := 1, rk := rk, rv := rv, to := at_ }) ?_ ?_ ?_ ?_ HC3.out ?_ ?_ ?_); kernel_rfl; exact rfl; exact rfl; exact rfl; decide; exact rfl)
          intro W4 h4 k4
          have HKX := Lib.hid (HK3.out.trans k4 (fun q hq => .inr (by simp at hq; have := HCE.out; omega)))
          have HCX := Lib.hid h4
          clear h4 k4 HK3 HC3
          go_wp2_with fail
          obtain ⟨S, hS⟩ : ∃ S : World → Prop, S = fun y => Keeps (own (.slice (some ⟨g, 0, none⟩) n cap)) W4 y := ⟨_, rfl⟩
          have HSE := Lib.hid hS
          have hSD : S (W4).drew := by rw [hS]; exact (Keeps.refl _ _).drew
          have HTX := Lib.hid (HT.out.new HKX.out)
          have HS3 := Lib.hid (fun (w' : World) (h : S w') => show w'.cell? ⟨b, 0, none⟩ = some (.slice (some ⟨g, 0, none⟩) n cap) from by rw [hS] at h; exact h.cell HTX.out.cells.1 (fun hq => by have := (row_base HTX.out.row b hq).1; have := HTX.out.bb; omega))
          have HS4 := Lib.hid (fun (w' : World) (h : S w') => show w'.rangeAt C 0 (rwC ({ r with st := 1, rk := rk, rv := rv, to := at_ } : Rw)) from by rw [hS] at h; exact fun i u hi => h.cell (by rw [Nat.zero_add]; exact rw_cell HCX.out i hi) (fun hq => by have := (row_base HT.out.row C hq).2; have := HCE.out; omega))
          have HROW9 := Lib.hid (show rk8.Own base (W4).drew (.slice (some ⟨g, 0, none⟩) t.L.length cap) t.L from by rw [HN2.out]; exact HTX.out.row.keeps ((Keeps.refl [] _).drew) (by simp))
          clear hS
          refine wp_region_noPanic ?_
          refine wp_region_held_drew (S := S) (by kernel_rfl) hSD (fun hHeld => ?_)
          apply wpAnyH_take (i := 0)
          · simp only [List.getElem?_toArray]; rfl
          · kernel_rfl
          · kernel_rfl
          · kernel_rfl
          · exact fun _ _ _ h => h
          · exact Or.inl ⟨by rfl, by intro w hSw; go_simp; try with_reducible rfl⟩
          · assumption
          try simp only [Act.put, List.setIfInBounds_toArray, List.set_cons_zero, List.set_cons_succ]
          apply wpAnyH_take (i := 1)
          · simp only [List.getElem?_toArray]; rfl
          · kernel_rfl
          · kernel_rfl
          · kernel_rfl
          · exact fun _ _ _ h => h
          · exact Or.inl ⟨by rfl, by intro w hSw; go_simp; try with_reducible rfl⟩
          · assumption
          try simp only [Act.put, List.setIfInBounds_toArray, List.set_cons_zero, List.set_cons_succ]
          apply wpAnyH_take (i := 2)
          · simp only [List.getElem?_toArray]; rfl
          · kernel_rfl
          · kernel_rfl
          · kernel_rfl
          · exact fun _ _ _ h => h
          · exact Or.inl ⟨by rfl, by intro w hSw; go_simp; try with_reducible rfl⟩
          · assumption
          try simp only [Act.put, List.setIfInBounds_toArray, List.set_cons_zero, List.set_cons_succ]
          apply wpAnyH_take (i := 3)
          · simp only [List.getElem?_toArray]; rfl
          · kernel_rfl
          · kernel_rfl
          · kernel_rfl
          · exact fun _ _ _ h => h
          · exact Or.inl ⟨by rfl, by intro w hSw; have q0 := HS3.out w hSw; go_simp; try with_reducible rfl⟩
          · assumption
          try simp only [Act.put, List.setIfInBounds_toArray, List.set_cons_zero, List.set_cons_succ]
          apply wpAnyH_take (i := 4)
          · simp only [List.getElem?_toArray]; rfl
          · kernel_rfl
          · kernel_rfl
          · kernel_rfl
          · exact fun _ _ _ h => h
          · exact Or.inl ⟨by rfl, by intro w hSw; go_simp; try with_reducible rfl⟩
          · assumption
          try simp only [Act.put, List.setIfInBounds_toArray, List.set_cons_zero, List.set_cons_succ]
          apply wpAnyH_take (i := 5)
          · simp only [List.getElem?_toArray]; rfl
          · kernel_rfl
          · kernel_rfl
          · kernel_rfl
          · exact fun _ _ _ h => h
          · exact rk8.yields Try.underlying45 rfl (by rfl) _ rfl C 0 rfl ({ r with st := 1, rk := rk, rv := rv, to := at_ } : Rw) HS4.out
          · assumption
          try simp only [Act.put, List.setIfInBounds_toArray, List.set_cons_zero, List.set_cons_succ]
          apply wpAnyH_take (i := 6)
          · simp only [List.getElem?_toArray]; rfl
          · kernel_rfl
          · kernel_rfl
          · kernel_rfl
          · exact fun _ _ _ h => h
          · exact Or.inl ⟨by rfl, by intro w hSw; go_simp; try with_reducible rfl⟩
          · assumption
          try simp only [Act.put, List.setIfInBounds_toArray, List.set_cons_zero, List.set_cons_succ]
          apply wpAnyH_ready (rs := [7])
          · kernel_rfl
          · simp
          apply AllReadyH.cons (hs := AllReadyH.nil)
          · simp only [List.getElem?_toArray]; rfl
          intro K hK
          rw [if_pos (by rfl)]
          refine rk8.wp_store (g := g) (off := k * 12) (y := ({ r with st := 1, rk := rk, rv := rv, to := at_ } : Rw)) rfl rfl rfl (HROW9.out.hold k (by rw [HN2.out]; exact hk)) ?_
          generalize hW5 : World.setCells _ _ _ _ = W5 at *
          have hrow5 : rk8.Own base W5 (.slice (some ⟨g, 0, none⟩) t.L.length cap) (t.L.set k ({ r with st := 1, rk := rk, rv := rv, to := at_ } : Rw)) := by rw [← hW5]; exact HROW9.out.set k (by rw [HN2.out]; exact hk) _
          have hk5 : Keeps (own (.slice (some ⟨g, 0, none⟩) n cap)) (W4) W5 := by rw [← hW5]; exact Keeps.setCellsQ (by simp [own, Value.ownBlock]) _ _ ((Keeps.refl _ _).drew)
          have HROW5 := Lib.hid hrow5; have HK5 := Lib.hid hk5
          clear hrow5 hk5 hW5
          refine hK.out _ _ ?_ (fun hHeld => ?_)
          · exact (by rw [HSE.out]; exact HK5.out)
          clear hK K
          try simp only [Act.put, List.setIfInBounds_toArray, List.set_cons_zero, List.set_cons_succ]
          refine wpAnyH_done (by kernel_rfl) ?_ _
          refine NoPanic.normal ?_
          have hb5 := HK5.out.heap HTX.out.heap (fun hq => by have := (row_base HTX.out.row b hq).1; have := HTX.out.bb; omega)
          have HFIN := Lib.hid (show T8Post b base w (.slice (some ⟨g, 0, none⟩) n cap) (tbEnd t id _ rk rv at_) (.returned (.int .i64 0)) (W5.setCell ⟨b, 1, none⟩ (.int .i64 at_)) from by
            have k5 : Keeps [b] W5 (W5.setCell ⟨b, 1, none⟩ (.int .i64 at_)) := (Keeps.refl [b] W5).setCell _ _ (.inl (by simp))
            rw [HR.out]
            refine ⟨rfl, _, ⟨?_, RK.Own.keeps (by rw [← HN2.out]; exact HROW5.out) k5 (fun q hq hb => by have h1 := (row_base HT.out.row q hq).1; have h2 := HT.out.bb; simp at hb; omega), HT.out.bb, by rw [List.length_set]; exact HT.out.few⟩, ?_, FSub.refl _ _⟩
            · rw [heap_setCell_same W5 b 1 _ _ _ hb5]; rfl
            · exact (HK0.out.more (by simp)).step ((HKX.out.more (by simp)).step ((HK5.out.more (fun q hq => List.mem_cons_of_mem _ hq)).step (k5.more (by simp)) (fun q hq => hq)) (fun q hq => hq)) (fun q hq => hq))
          have g1 : W5.cell? ⟨b, 1, none⟩ = some (.int .i64 t.last) := by simp [World.cell?, hb5]
          have g2 : W5.frozen? ⟨b, 1, none⟩ = false := by simp [World.frozen?, hb5]
          clear hHeld hSD hb5 HROW5 HROW9 HS3 HS4
          go_wp2_with fail
          go_ret
          exact HFIN.out
        | false =>
          go_wp2_with ((with_reducible refine wpList_cell8 (T := 5) (b := C) (i := 9) (v := .int .u8 2) (r := r) (r' := { r with st := 2 }) ?_ ?_ ?_ ?_ HC1.out ?_ ?_ ?_); kernel_rfl; exact rfl; exact rfl; exact rfl; decide; exact rfl)
          intro W4 h4 k4
          have HKX := Lib.hid (HK1.out.trans k4 (fun q hq => .inr (by simp at hq; have := HCE.out; omega)))
          have HCX := Lib.hid h4
          clear h4 k4 HK1 HC1
          go_wp2_with fail
          obtain ⟨S, hS⟩ : ∃ S : World → Prop, S = fun y => Keeps (own (.slice (some ⟨g, 0, none⟩) n cap)) W4 y := ⟨_, rfl⟩
          have HSE := Lib.hid hS
          have hSD : S (W4).drew := by rw [hS]; exact (Keeps.refl _ _).drew
          have HTX := Lib.hid (HT.out.new HKX.out)
          have HS3 := Lib.hid (fun (w' : World) (h : S w') => show w'.cell? ⟨b, 0, none⟩ = some (.slice (some ⟨g, 0, none⟩) n cap) from by rw [hS] at h; exact h.cell HTX.out.cells.1 (fun hq => by have := (row_base HTX.out.row b hq).1; have := HTX.out.bb; omega))
          have HS4 := Lib.hid (fun (w' : World) (h : S w') => show w'.rangeAt C 0 (rwC ({ r with st := 2 } : Rw)) from by rw [hS] at h; exact fun i u hi => h.cell (by rw [Nat.zero_add]; exact rw_cell HCX.out i hi) (fun hq => by have := (row_base HT.out.row C hq).2; have := HCE.out; omega))
          have HROW9 := Lib.hid (show rk8.Own base (W4).drew (.slice (some ⟨g, 0, none⟩) t.L.length cap) t.L from by rw [HN2.out]; exact HTX.out.row.keeps ((Keeps.refl [] _).drew) (by simp))
          clear hS
          refine wp_region_noPanic ?_
          refine wp_region_held_drew (S := S) (by kernel_rfl) hSD (fun hHeld => ?_)
          apply wpAnyH_take (i := 0)
          · simp only [List.getElem?_toArray]; rfl
          · kernel_rfl
          · kernel_rfl
          · kernel_rfl
          · exact fun _ _ _ h => h
          · exact Or.inl ⟨by rfl, by intro w hSw; go_simp; try with_reducible rfl⟩
          · assumption
          try simp only [Act.put, List.setIfInBounds_toArray, List.set_cons_zero, List.set_cons_succ]
          apply wpAnyH_take (i := 1)
          · simp only [List.getElem?_toArray]; rfl
          · kernel_rfl
          · kernel_rfl
          · kernel_rfl
          · exact fun _ _ _ h => h
          · exact Or.inl ⟨by rfl, by intro w hSw; go_simp; try with_reducible rfl⟩
          · assumption
          try simp only [Act.put, List.setIfInBounds_toArray, List.set_cons_zero, List.set_cons_succ]
          apply wpAnyH_take (i := 2)
          · simp only [List.getElem?_toArray]; rfl
          · kernel_rfl
          · kernel_rfl
          · kernel_rfl
          · exact fun _ _ _ h => h
          · exact Or.inl ⟨by rfl, by intro w hSw; go_simp; try with_reducible rfl⟩
          · assumption
          try simp only [Act.put, List.setIfInBounds_toArray, List.set_cons_zero, List.set_cons_succ]
          apply wpAnyH_take (i := 3)
          · simp only [List.getElem?_toArray]; rfl
          · kernel_rfl
          · kernel_rfl
          · kernel_rfl
          · exact fun _ _ _ h => h
          · exact Or.inl ⟨by rfl, by intro w hSw; have q0 := HS3.out w hSw; go_simp; try with_reducible rfl⟩
          · assumption
          try simp only [Act.put, List.setIfInBounds_toArray, List.set_cons_zero, List.set_cons_succ]
          apply wpAnyH_take (i := 4)
          · simp only [List.getElem?_toArray]; rfl
          · kernel_rfl
          · kernel_rfl
          · kernel_rfl
          · exact fun _ _ _ h => h
          · exact Or.inl ⟨by rfl, by intro w hSw; go_simp; try with_reducible rfl⟩
          · assumption
          try simp only [Act.put, List.setIfInBounds_toArray, List.set_cons_zero, List.set_cons_succ]
          apply wpAnyH_take (i := 5)
          · simp only [List.getElem?_toArray]; rfl
          · kernel_rfl
          · kernel_rfl
          · kernel_rfl
          · exact fun _ _ _ h => h
          · exact rk8.yields Try.underlying45 rfl (by rfl) _ rfl C 0 rfl ({ r with st := 2 } : Rw) HS4.out
          · assumption
          try simp only [Act.put, List.setIfInBounds_toArray, List.set_cons_zero, List.set_cons_succ]
          apply wpAnyH_take (i := 6)
          · simp only [List.getElem?_toArray]; rfl
          · kernel_rfl
          · kernel_rfl
          · kernel_rfl
          · exact fun _ _ _ h => h
          · exact Or.inl ⟨by rfl, by intro w hSw; go_simp; try with_reducible rfl⟩
          · assumption
          try simp only [Act.put, List.setIfInBounds_toArray, List.set_cons_zero, List.set_cons_succ]
          apply wpAnyH_ready (rs := [7])
          · kernel_rfl
          · simp
          apply AllReadyH.cons (hs := AllReadyH.nil)
          · simp only [List.getElem?_toArray]; rfl
          intro K hK
          rw [if_pos (by rfl)]
          refine rk8.wp_store (g := g) (off := k * 12) (y := ({ r with st := 2 } : Rw)) rfl rfl rfl (HROW9.out.hold k (by rw [HN2.out]; exact hk)) ?_
          generalize hW5 : World.setCells _ _ _ _ = W5 at *
          have hrow5 : rk8.Own base W5 (.slice (some ⟨g, 0, none⟩) t.L.length cap) (t.L.set k ({ r with st := 2 } : Rw)) := by rw [← hW5]; exact HROW9.out.set k (by rw [HN2.out]; exact hk) _
          have hk5 : Keeps (own (.slice (some ⟨g, 0, none⟩) n cap)) (W4) W5 := by rw [← hW5]; exact Keeps.setCellsQ (by simp [own, Value.ownBlock]) _ _ ((Keeps.refl _ _).drew)
          have HROW5 := Lib.hid hrow5; have HK5 := Lib.hid hk5
          clear hrow5 hk5 hW5
          refine hK.out _ _ ?_ (fun hHeld => ?_)
          · exact (by rw [HSE.out]; exact HK5.out)
          clear hK K
          try simp only [Act.put, List.setIfInBounds_toArray, List.set_cons_zero, List.set_cons_succ]
          refine wpAnyH_done (by kernel_rfl) ?_ _
          refine NoPanic.normal ?_
          have hb5 := HK5.out.heap HTX.out.heap (fun hq => by have := (row_base HTX.out.row b hq).1; have := HTX.out.bb; omega)
          have HFIN := Lib.hid (show T8Post b base w (.slice (some ⟨g, 0, none⟩) n cap) (tbEnd t id _ rk rv at_) (.returned (.int .i64 0)) (W5.setCell ⟨b, 1, none⟩ (.int .i64 at_)) from by
            have k5 : Keeps [b] W5 (W5.setCell ⟨b, 1, none⟩ (.int .i64 at_)) := (Keeps.refl [b] W5).setCell _ _ (.inl (by simp))
            rw [HR.out]
            refine ⟨rfl, _, ⟨?_, RK.Own.keeps (by rw [← HN2.out]; exact HROW5.out) k5 (fun q hq hb => by have h1 := (row_base HT.out.row q hq).1; have h2 := HT.out.bb; simp at hb; omega), HT.out.bb, by rw [List.length_set]; exact HT.out.few⟩, ?_, FSub.refl _ _⟩
            · rw [heap_setCell_same W5 b 1 _ _ _ hb5]; rfl
            · exact (HK0.out.more (by simp)).step ((HKX.out.more (by simp)).step ((HK5.out.more (fun q hq => List.mem_cons_of_mem _ hq)).step (k5.more (by simp)) (fun q hq => hq)) (fun q hq => hq)) (fun q hq => hq))
          have g1 : W5.cell? ⟨b, 1, none⟩ = some (.int .i64 t.last) := by simp [World.cell?, hb5]
          have g2 : W5.frozen? ⟨b, 1, none⟩ = false := by simp [World.frozen?, hb5]
          clear hHeld hSD hb5 HROW5 HROW9 HS3 HS4
          go_wp2_with fail
          go_ret
          exact HFIN.out
      · have hs2 : (r.st != 0) = true := by simpa using hst
        have HR := Lib.hid (show T8Post b base w (.slice (some ⟨g, 0, none⟩) n cap) (tbEnd t id done rk rv at_) (.returned (.int .i64 7)) w2 from by
          unfold tbEnd
          rw [hm, hi]
          simp only [HG.out]
          rw [if_neg hst]
          exact ⟨rfl, _, HT.out, HK0.out.more (by simp), FSub.refl _ _⟩)
        clear hst
        go_wp2_with fail
        go_ret
        exact HR.out
  · have hm2 : tbMay t at_ = false := by simpa using hm
    have HR := Lib.hid (show T8Post b base w v (tbEnd t id done rk rv at_) (.returned (.int .i64 2)) w1 from by
      unfold tbEnd
      rw [if_pos hm2]
      exact ⟨rfl, v, HT.out, HK0.out.more (by simp), FSub.refl _ _⟩)
    rw [hm2]
    clear HMAY HAT
    go_wp2_with fail
    go_ret
    exact HR.out
end Go.Proofs.Ytjiglbjpmclncaa
/-
  The document's table: the rows that stay, Remove, Settle.
-/
namespace Go.Proofs.Ytjiglbjpmclncaa
open Go.RowKit
theorem wpList_build8 {ops : Array Oper} {rest : List Oper} {a : Act} {w : World} {Q : Exit → Act → World → Prop} {dst : Option Tmp} {ty : TypeId} {pos : String} {after : Array Edge} {y : Operand} {x : Rw} (hy : a.eval y = .agg (rwC x).toArray)
    (h : wpList Try.prog ops Q rest (a.put dst (.slice (some ⟨w.heap.size, 0, none⟩) 1 1)) (w.alloc (.cells (rwC x).toArray 45))) :
    wpList Try.prog ops Q ({ dst := dst, op := .buildSlice 53 1 #[(0, y)], type := ty, pos := pos, after := after, guard := none } :: rest) a w :=
  wpList_plain rfl fun _ hK => wp_build_row8 rfl hy (hK _ _ h)
/-- Whether a row stays. -/
def rwStay (id st : Int) (by_ : Bool) (r : Rw) : Bool := if by_ then decide (r.st ≠ st) else decide (r.id ≠ id)
theorem filter_takeS {α : Type} (p : α → Bool) {l : List α} {k : Nat} (h : k < l.length) : (l.take (k + 1)).filter p = (l.take k).filter p ++ if p l[k] then [l[k]] else [] := by
  rw [List.take_add_one, List.getElem?_eq_getElem h, Option.toList_some, List.filter_append]
  cases hp : p l[k] <;> simp [hp]
set_option maxHeartbeats 8000000
set_option maxRecDepth 100000
theorem r8without_any (w : World) {b base : Nat} {v : Value} {t : Tb} (hT : T8At b base w v t) (id st : Int) (by_ : Bool) :
    Calls Try.prog 51 #[.pointer (some ⟨b, 0, none⟩), .int .u16 id, .int .u8 st, .bool by_] w fun e w' => ∃ v', e = .returned v' ∧ rk8.Own w.heap.size w' v' (t.L.filter (rwStay id st by_)) ∧ Keeps [] w w' := by
  obtain ⟨a, cp, rfl, hc, hm⟩ := hT.row.shape
  obtain ⟨hv, -⟩ := hT.cells
  have hfew := hT.few
  have HT := Lib.hid hT
  clear hT
  generalize hn2 : t.L.length = n at *
  have HN2 := Lib.hid hn2
  clear hn2
  obtain ⟨N, hN⟩ : ∃ N, N = w.heap.size := ⟨_, rfl⟩
  have HNE := Lib.hid hN
  rw [← hN]
  clear hN
  go_enter Try.func51, Try.ntmps51
  go_wp2_with fail
  go_loopw [9, 10] (fun z i wr => ∃ k : Nat, i = .int .i64 k ∧ k ≤ n ∧ rk8.Own N wr z ((t.L.take k).filter (rwStay id st by_)) ∧ Keeps [] w wr) (fun _ i _ => n - (intOf i).toNat)
  case atStart => exact ⟨0, rfl, by omega, RK.Own.nil rk8 _ _, Keeps.refl _ _⟩
  case round =>
    obtain ⟨k, rfl, hk, hz, hkw⟩ := hrel
    have hv1 := hkw.cell hv (by simp)
    by_cases hlt : k < n
    · have hkl : k < t.L.length := by have := HN2.out; omega
      obtain ⟨g, cap, hg, -, -, -, -, hrow⟩ := (HT.out.new hkw).row.at (fun e => by rw [e] at hkl; simp at hkl)
      simp at hg
      obtain ⟨rfl, -, -⟩ := hg
      have HRW := Lib.hid (show wr.rangeAt g (k * 12) (rwC t.L[k]) from hrow k hkl)
      obtain ⟨-, m1, m9, -⟩ := rw_cells HRW.out
      have HTK := Lib.hid (filter_takeS (rwStay id st by_) hkl)
      have HZ := Lib.hid hz; have HKW := Lib.hid hkw
      have HFL := Lib.hid (show ((t.L.take k).filter (rwStay id st by_)).length ≤ 100000 from Nat.le_trans (List.length_filter_le _ _) (by rw [List.length_take]; omega))
      obtain ⟨az, cz, rfl, hcz, hmz⟩ := hz.shape
      clear hrow hz hkw hv
      generalize t.L[k] = r at *
      cases by_ with
      | true =>
        by_cases he : r.st = st
        · have hp : ¬ rwStay id st true r = true := by simp [rwStay, he]
          have te : (r.st != st) = false := by simp [he]
          rw [he] at m9 te
          clear he
          have htk := HTK.out
          rw [if_neg hp, List.append_nil] at htk
          have HTK2 := Lib.hid htk
          clear hp htk HTK
          go_wp2_with fail
          go_roundw
          case rel => exact ⟨k + 1, by go_num, by omega, by rw [HTK2.out]; exact HZ.out, HKW.out⟩
          case measure => simp [intOf]; omega
        · have hp : rwStay id st true r = true := by simp [rwStay, he]
          have te : (r.st != st) = true := by simp [he]
          clear he
          have htk := HTK.out
          rw [if_pos hp] at htk
          have HTK2 := Lib.hid htk
          obtain ⟨v', w3, hrun, hrow3, hk3, hf3⟩ := rk8.append1 wr N (by rw [HNE.out]; exact HKW.out.size) _ _ HZ.out r (by have := HFL.out; omega)
          have HRUN := Lib.hid (show (Builtin.append_ #[53, 53] 53 #[.slice az ((t.L.take k).filter (rwStay id st true)).length cz, .slice (some ⟨wr.heap.size, 0, none⟩) 1 1]).run Try.prog (wr.alloc (.cells (rwC r).toArray 45)) = .ok v' w3 from hrun)
          have HROW := Lib.hid hrow3
          have HK3 := Lib.hid (HKW.out.trans hk3 (fun q hq => .inr (by have := (row_base HZ.out q hq).1; have := HNE.out; omega)))
          obtain ⟨a9, c9, rfl, -, -⟩ := hrow3.shape
          clear hp htk HTK hrun hrow3 hk3 hf3
          go_wp2_with (first
            | ((with_reducible refine wpList_load8 (g := g) (off := k * 12) (y := r) rfl ?_ HRW.out ?_); exact rfl)
            | ((with_reducible refine wpList_build8 (x := r) ?_ ?_); exact rfl)
            | (refine wpList_append_run rfl _ _ 53 rfl _ _ _ w3 rfl rfl HRUN.out ?_))
          clear HRUN HRW m1 m9 hv1 HZ HKW
          go_wp2_with fail
          go_roundw
          case rel => exact ⟨k + 1, by go_num, by omega, by rw [HTK2.out]; have h := HROW.out; rw [List.length_append] at h; exact h, HK3.out⟩
          case measure => simp [intOf]; omega
      | false =>
        by_cases he : r.id = id
        · have hp : ¬ rwStay id st false r = true := by simp [rwStay, he]
          have te : (r.id != id) = false := by simp [he]
          rw [he] at m1 te
          clear he
          have htk := HTK.out
          rw [if_neg hp, List.append_nil] at htk
          have HTK2 := Lib.hid htk
          clear hp htk HTK
          go_wp2_with fail
          go_roundw
          case rel => exact ⟨k + 1, by go_num, by omega, by rw [HTK2.out]; exact HZ.out, HKW.out⟩
          case measure => simp [intOf]; omega
        · have hp : rwStay id st false r = true := by simp [rwStay, he]
          have te : (r.id != id) = true := by simp [he]
          clear he
          have htk := HTK.out
          rw [if_pos hp] at htk
          have HTK2 := Lib.hid htk
          obtain ⟨v', w3, hrun, hrow3, hk3, hf3⟩ := rk8.append1 wr N (by rw [HNE.out]; exact HKW.out.size) _ _ HZ.out r (by have := HFL.out; omega)
          have HRUN := Lib.hid (show (Builtin.append_ #[53, 53] 53 #[.slice az ((t.L.take k).filter (rwStay id st false)).length cz, .slice (some ⟨wr.heap.size, 0, none⟩) 1 1]).run Try.prog (wr.alloc (.cells (rwC r).toArray 45)) = .ok v' w3 from hrun)
          have HROW := Lib.hid hrow3
          have HK3 := Lib.hid (HKW.out.trans hk3 (fun q hq => .inr (by have := (row_base HZ.out q hq).1; have := HNE.out; omega)))
          obtain ⟨a9, c9, rfl, -, -⟩ := hrow3.shape
          clear hp htk HTK hrun hrow3 hk3 hf3
          go_wp2_with (first
            | ((with_reducible refine wpList_load8 (g := g) (off := k * 12) (y := r) rfl ?_ HRW.out ?_); exact rfl)
            | ((with_reducible refine wpList_build8 (x := r) ?_ ?_); exact rfl)
            | (refine wpList_append_run rfl _ _ 53 rfl _ _ _ w3 rfl rfl HRUN.out ?_))
          clear HRUN HRW m1 m9 hv1 HZ HKW
          go_wp2_with fail
          go_roundw
          case rel => exact ⟨k + 1, by go_num, by omega, by rw [HTK2.out]; have h := HROW.out; rw [List.length_append] at h; exact h, HK3.out⟩
          case measure => simp [intOf]; omega
    · obtain rfl : k = n := by omega
      have HZ := Lib.hid (show rk8.Own N wr u9 (t.L.filter (rwStay id st by_)) from by rw [← HN2.out, List.take_length] at hz; exact hz)
      have HKW := Lib.hid hkw
      clear hz hkw
      go_wp2_with fail
      go_ret
      exact ⟨_, rfl, HZ.out, HKW.out⟩
theorem RK.Own.up {α : Type} {R : RK α} {base N : Nat} {w : World} {v : Value} {L : List α} (h : R.Own N w v L) (hb : base ≤ N) : R.Own base w v L := row_up h (fun q hq => Nat.le_trans hb (row_base h q hq).1)
/-- What a table is whose rows are put anew. -/
theorem T8At.put {b base N : Nat} {w w1 w2 : World} {v v' : Value} {t : Tb} {L : List Rw} (hT : T8At b base w v t) (hbase : base ≤ w.heap.size) (hN : w.heap.size ≤ N) (h1 : Keeps [] w w1) (hrow : rk8.Own N w1 v' L) (hl : L.length ≤ t.L.length) (hw2 : w2 = w1.setCell ⟨b, 0, none⟩ v') :
    T8At b base w2 v' ⟨L, t.last⟩ ∧ Keeps (b :: own v) w w2 ∧ FSub (own v') (own v) w.heap.size := by
  subst hw2
  have hb1 := h1.heap hT.heap (by simp)
  have hbw := lt_of_block hT.heap
  have k5 : Keeps [b] w1 (w1.setCell ⟨b, 0, none⟩ v') := (Keeps.refl [b] w1).setCell _ _ (.inl (by simp))
  refine ⟨⟨?_, (hrow.keeps k5 (fun q hq hb => ?_)).up (Nat.le_trans hbase hN), hT.bb, Nat.le_trans hl hT.few⟩, (h1.more (by simp)).step (k5.more (by simp)) (fun q hq => hq), fun q hq => .inr (Nat.le_trans hN (row_base hrow q hq).1)⟩
  · rw [heap_setCell_same w1 b 0 _ _ _ hb1]; rfl
  · have := (row_base hrow q hq).1; simp at hb; omega
theorem r8Remove_any (w : World) {b base : Nat} {v : Value} {t : Tb} (hT : T8At b base w v t) (hbase : base ≤ w.heap.size) (id : Int) :
    Calls Try.prog 39 #[.pointer (some ⟨b, 0, none⟩), .int .u16 id] w (T8Post b base w v (tbRem t id)) := by
  have HAT := Lib.hid (r8at_any _ hT id)
  have HW := Lib.hid (r8without_any _ hT id 0 false)
  have HT := Lib.hid hT
  clear hT
  go_enter Try.func39, Try.ntmps39
  go_wp2_with fail
  refine (HAT.out).mono ?_; rintro e w2 ⟨rfl, rfl⟩
  cases hi : rwIdx id t.L with
  | none =>
    have HR := Lib.hid (show T8Post b base w2 v (tbRem t id) (.returned (.int .i64 7)) w2 from by
      unfold tbRem
      rw [hi]
      exact ⟨rfl, v, HT.out, Keeps.refl _ _, FSub.refl _ _⟩)
    clear HAT HW
    simp only [idxOf]
    go_wp2_with fail
    go_ret
    exact HR.out
  | some k =>
    have HR := Lib.hid (show tbRem t id = (0, ⟨t.L.filter (rwStay id 0 false), t.last⟩) by unfold tbRem; rw [hi]; rfl)
    clear HAT
    simp only [idxOf]
    go_wp2_with fail
    refine (HW.out).mono ?_; rintro e w3 ⟨v', rfl, hrow, hk3⟩
    have hb3 := hk3.heap HT.out.heap (by simp)
    have g1 : w3.cell? ⟨b, 0, none⟩ = some v := by simp [World.cell?, hb3]
    have g2 : w3.frozen? ⟨b, 0, none⟩ = false := by simp [World.frozen?, hb3]
    have HP := Lib.hid (HT.out.put hbase (Nat.le_refl _) hk3 hrow (List.length_filter_le _ _) rfl)
    obtain ⟨a9, c9, rfl, -, -⟩ := hrow.shape
    clear hrow hk3 hb3 HW
    go_wp2_with fail
    go_ret
    exact ⟨by rw [HR.out]; rfl, _, by rw [HR.out]; exact HP.out.1, HP.out.2.1, HP.out.2.2⟩
theorem r8Settle_any (w : World) {b base : Nat} {v : Value} {t : Tb} (hT : T8At b base w v t) (hbase : base ≤ w.heap.size) :
    Calls Try.prog 40 #[.pointer (some ⟨b, 0, none⟩)] w (T8Post b base w v (((tbSettle t).1 : Int), (tbSettle t).2)) := by
  have HAT := Lib.hid (r8Count_any _ hT 1)
  have HW := Lib.hid (r8without_any _ hT 0 1 true)
  have HT := Lib.hid hT
  clear hT
  go_enter Try.func40, Try.ntmps40
  go_wp2_with fail
  refine (HAT.out).mono ?_; rintro e w2 ⟨rfl, rfl⟩
  have HR := Lib.hid (show tbSettle t = (tbCount t 1, ⟨t.L.filter (rwStay 0 1 true), t.last⟩) from rfl)
  generalize tbCount t 1 = D at *
  clear HAT
  go_wp2_with fail
  refine (HW.out).mono ?_; rintro e w3 ⟨v', rfl, hrow, hk3⟩
  have hb3 := hk3.heap HT.out.heap (by simp)
  have g1 : w3.cell? ⟨b, 0, none⟩ = some v := by simp [World.cell?, hb3]
  have g2 : w3.frozen? ⟨b, 0, none⟩ = false := by simp [World.frozen?, hb3]
  have HP := Lib.hid (HT.out.put hbase (Nat.le_refl _) hk3 hrow (List.length_filter_le _ _) rfl)
  obtain ⟨a9, c9, rfl, -, -⟩ := hrow.shape
  clear hrow hk3 hb3 HW
  go_wp2_with fail
  go_ret
  exact ⟨by rw [HR.out]; rfl, _, by rw [HR.out]; exact HP.out.1, HP.out.2.1, HP.out.2.2⟩
end Go.Proofs.Ytjiglbjpmclncaa
