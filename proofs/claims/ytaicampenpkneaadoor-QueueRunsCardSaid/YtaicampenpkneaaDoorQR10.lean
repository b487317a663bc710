/-
  The law's steps and works, over any queue.
-/
import Derived.Test.YtaicampenpkneaaDoorQR09
set_option linter.unusedSimpArgs false
set_option linter.unusedVariables false
namespace Go.Proofs.YtaicampenpkneaaDoor
open Go.RowKit
variable {G : World → Prop}
section
variable {o : Oper} {a : Act} {w : World} {K : Act → World → Prop} {Q : Exit → Act → World → Prop}
theorem wp_call10 {fn : Func} (f : FuncId) (args : Array Operand) (tys : Array TypeId) (ho : o.op = .call { callee := .value (.func f), args := args, argTypes := tys }) (vs : List Value) (hv : args.toList.map a.eval = vs)
    (hf : Tryd.prog.funcs[f]? = some fn) (hname : (fn.name == "runtime.NumGoroutine") = false) (hb : fn.body.isNone = false)
    (h : Calls Tryd.prog f vs.toArray w fun e w' => ∃ v, e = .returned v ∧ K (a.put o.dst v) w') : o.wp Tryd.prog a w K Q := by
  have hv2 : args.map a.eval = vs.toArray := by rw [← hv]; apply Array.ext'; simp
  unfold Oper.wp execOp
  have h1 : fn.name ≠ "runtime.NumGoroutine" := by simpa using hname
  have h2 : ∃ z, fn.body = some z := by
    cases h : fn.body with
    | none => rw [h] at hb; cases hb
    | some z => exact ⟨z, rfl⟩
  obtain ⟨z, h2⟩ := h2
  simp only [ho, resolve, invoke, Sem.run_bind, Sem.run_pure, Result.andThen_ok, hv2, Act.eval, Deferred.ofValue, Array.empty_append, Array.append_empty]
  simp [callFunc, hf, h1, h2, Sem.run]
  rw [Oper.upon_enter]
  exact h.mono fun e w' ⟨v, he, hk⟩ => by subst he; exact hk
theorem run_allocS (w : World) : (Instr.alloc 28 true (.tuple #[])).run Tryd.prog w = .ok (.pointer (some ⟨w.heap.size, 0, none⟩)) (w.alloc (.cells #[.slice none 0 0] 28)) := by kernel_rfl
theorem wp_allocS (o : Oper) (a : Act) (w : World) (K : Act → World → Prop) (ho : o.op = .alloc 28) (h : K (a.put o.dst (.pointer (some ⟨w.heap.size, 0, none⟩))) (w.alloc (.cells #[.slice none 0 0] 28))) : o.wp Tryd.prog a w K Q := by
  unfold Oper.wp execOp
  simp only [ho, Sem.run_bind, run_allocS, Result.andThen_ok, Sem.run_pure]
  exact h
theorem run_allocA (w : World) : (Instr.alloc 31 true (.tuple #[])).run Tryd.prog w = .ok (.pointer (some ⟨w.heap.size, 0, none⟩)) (w.alloc (.cells (ansC ⟨0, 0⟩).toArray 31)) := by kernel_rfl
theorem wp_allocA (o : Oper) (a : Act) (w : World) (K : Act → World → Prop) (ho : o.op = .alloc 31) (h : K (a.put o.dst (.pointer (some ⟨w.heap.size, 0, none⟩))) (w.alloc (.cells (ansC ⟨0, 0⟩).toArray 31))) : o.wp Tryd.prog a w K Q := by
  unfold Oper.wp execOp
  simp only [ho, Sem.run_bind, run_allocA, Result.andThen_ok, Sem.run_pure]
  exact h
theorem wp_putS {x y : Operand} {g : Nat} {old : Value} {z : Value} {t : TypeId} (ho : o.op = .store 28 x y)
    (hx : a.eval x = .pointer (some ⟨g, 0, none⟩)) (hy : a.eval y = .agg #[z]) (hg : w.heap[g]? = some (.cells #[old] t (0, 0))) (h1 : z.oneCell' = true)
    (h : ∀ W, W.heap[g]? = some (.cells #[z] t (0, 0)) → Keeps [g] w W → K (a.put o.dst undef) W) : o.wp Tryd.prog a w K Q :=
  wp_store_row 28 x y ho g #[z] hx hy t #[old] hg (by kernel_rfl) rfl (by simp [h1]) (h _ (setRow_heap w g #[old] #[z] t (0, 0) hg) ((Keeps.refl [g] w).setRow g _ (.inl (by simp))))
theorem wp_putNw {x y : Operand} {g : Nat} {old : Ans} (r : Ans) {t : TypeId} (ho : o.op = .store 31 x y)
    (hx : a.eval x = .pointer (some ⟨g, 0, none⟩)) (hy : a.eval y = .agg (ansC r).toArray) (hg : w.heap[g]? = some (.cells (ansC old).toArray t (0, 0)))
    (h : ∀ W, W.heap[g]? = some (.cells (ansC r).toArray t (0, 0)) → Keeps [g] w W → K (a.put o.dst undef) W) : o.wp Tryd.prog a w K Q :=
  wp_store_row 31 x y ho g (ansC r).toArray hx hy t (ansC old).toArray hg (by kernel_rfl) rfl (by rw [← Array.all_toList, List.all_eq_true]; exact ansC_one r) (h _ (setRow_heap w g (ansC old).toArray (ansC r).toArray t (0, 0) hg) ((Keeps.refl [g] w).setRow g _ (.inl (by simp))))
end
set_option maxHeartbeats 8000000
set_option maxRecDepth 100000
theorem steps10_any (R : QuProg G) (w : World) (hG : G w) {v v2 : Value} {l m : List Int} {N M : Nat} (hl : rkU.In N w v l) (hN : N ≤ w.heap.size) (hll : l.length ≤ 900) (x : Opn) (hx : x.In) (y : Ans) (hm : rkU.In M w v2 m) (hM : M ≤ w.heap.size)
    (hq : (quX l x).1 = m ∧ (quX l x).2.1 = y ∧ (quX l x).2.2 = 0) :
    Calls Tryd.prog 28 #[v, x.val, .agg (ansC y).toArray, v2] w fun e w' => e = .returned (.bool true) ∧ Keeps [] w w' := by
  have HKS := Lib.hid (show Keeps [] w ((w.alloc (.cells (opC x).toArray 25)).alloc (.cells (ansC y).toArray 31)) from ((Keeps.refl _ _).alloc _).alloc _)
  have HO := Lib.hid (show ((w.alloc (.cells (opC x).toArray 25)).alloc (.cells (ansC y).toArray 31)).heap[w.heap.size]? = some (.cells (opC x).toArray 25 (0, 0)) from ((Keeps.refl [] (w.alloc (.cells (opC x).toArray 25))).alloc _).heap (heap_alloc_new w _) (by simp))
  have HA := Lib.hid (show ((w.alloc (.cells (opC x).toArray 25)).alloc (.cells (ansC y).toArray 31)).heap[w.heap.size + 1]? = some (.cells (ansC y).toArray 31 (0, 0)) from by
    have h := heap_alloc_new (w.alloc (.cells (opC x).toArray 25)) (.cells (ansC y).toArray 31)
    rw [show (w.alloc (.cells (opC x).toArray 25)).heap.size = w.heap.size + 1 from Array.size_push _] at h
    exact h)
  have HG := Lib.hid hG; have HL := Lib.hid hl; have HM := Lib.hid hm; have HX := Lib.hid hx; have HQ := Lib.hid hq
  obtain ⟨a1, c1, rfl, hc1, hm1, -⟩ := id hl
  obtain ⟨a2, c2, rfl, hc2, hm2, -⟩ := id hm
  clear hG hl hm hx hq
  obtain ⟨B, hB⟩ : ∃ B, B = w.heap.size := ⟨_, rfl⟩
  obtain ⟨yk, yv⟩ := y
  unfold Opn.val
  simp only [ansC, opC] at *
  go_enter Tryd.func28, Tryd.ntmps28
  go_wp2_with fail
  rw [← hB] at HO HA ⊢
  generalize (w.alloc (.cells [.int .u8 x.f, .int .u8 x.o, .int .u8 x.k, .int .u16 x.a, .int .u16 x.b].toArray 25)).alloc (.cells [.int .u8 yk, .int .u16 yv].toArray 31) = W at *
  obtain ⟨S, hS⟩ : ∃ S : World → Prop, S = fun y => Keeps [] W y := ⟨_, rfl⟩
  have HSE := Lib.hid hS
  have hSD : S W.drew := by rw [hS]; exact (Keeps.refl _ _).drew
  have HS0 := Lib.hid (fun (w' : World) (h : S w') => show w'.rangeAt B 0 (opC x) from by
    rw [hS] at h
    intro j v hv
    rw [Nat.zero_add]
    exact h.cell (cell_lit HO.out j (by simpa [opC] using hv)) (by simp))
  have hd0 : Keeps [] W W.drew := (Keeps.refl _ _).drew
  clear hS
  refine Code.wp_mono (Q := fun e a' w' => e = .normal ∧ ∃ (qa qb : Nat) (zv u1 u2 u3 u4 u5 u6 u7 u8 : Value), a' = { tmps := #[.slice a1 l.length c1, .agg #[.int .u8 x.f, .int .u8 x.o, .int .u8 x.k, .int .u16 x.a, .int .u16 x.b], .agg #[.int .u8 yk, .int .u16 yv], .slice a2 m.length c2, undef, .pointer (some ⟨B, 0, none⟩), .pointer (some ⟨B + 1, 0, none⟩), undef, .bool false, .pointer (some ⟨qa, 0, none⟩), .pointer (some ⟨qb, 0, none⟩), .int .i64 0, u1, u2, u3, u4, u5, u6, u7, u8, undef, undef, undef, undef, undef, undef, undef, undef, undef, undef, undef, undef], defers := [] } ∧
    w'.heap[qa]? = some (Obj.cells #[zv] 28 (0, 0)) ∧ w'.heap[qb]? = some (Obj.cells (ansC ⟨yk, yv⟩).toArray 31 (0, 0)) ∧ R.At w' (.agg #[zv]) m ∧ Keeps [] W w') ?_ ?_
  rotate_left
  ·
    refine wp_region_noPanic ?_
    refine wp_region_held_drew (S := S) (by kernel_rfl) hSD (fun hHeld => ?_)
    generalize W.drew = Y0 at *
    have HK0 := Lib.hid hd0
    clear hd0
    apply wpAnyH_take (i := 0)
    · simp only [List.getElem?_toArray]; rfl
    · kernel_rfl
    · kernel_rfl
    · kernel_rfl
    · exact fun _ _ _ h => h
    · exact Or.inl ⟨by rfl, by intro w hSw; go_simp; try with_reducible rfl⟩
    · assumption
    try simp only [Act.put, List.setIfInBounds_toArray, List.set_cons_zero, List.set_cons_succ]
    apply wpAnyH_take (i := 2)
    · simp only [List.getElem?_toArray]; rfl
    · kernel_rfl
    · kernel_rfl
    · kernel_rfl
    · exact fun _ _ _ h => h
    · exact rkO.yields Tryd.underlying25 rfl (by rfl) _ rfl B 0 rfl x HS0.out
    · assumption
    try simp only [Act.put, List.setIfInBounds_toArray, List.set_cons_zero, List.set_cons_succ]
    apply wpAnyH_ready (rs := [1, 8, 9])
    · kernel_rfl
    · simp
    apply AllReadyH.cons
    · simp only [List.getElem?_toArray]; rfl
    · intro K hK
      rw [if_pos (by rfl)]
      refine wp_call10 11 _ _ rfl [.slice a1 l.length c1] rfl Tryd.func11 (by kernel_rfl) (by kernel_rfl) ((R.of Y0 N _ l (R.keepG HG.out (HKS.out.trans HK0.out (FSub.refl _ _))) (HL.out.new (HKS.out.trans HK0.out (FSub.refl _ _)) hN) (Nat.le_trans hN (HKS.out.trans HK0.out (FSub.refl _ _)).size) (by omega)).mono ?_)
      rintro e Y1 ⟨st, rfl, hz, hk, hf⟩
      obtain ⟨zu, rfl, ho⟩ := R.one hz
      clear ho
      refine ⟨_, rfl, ?_⟩
      have HK1 := Lib.hid (HK0.out.trans hk (FSub.refl _ _))
      have HZu1 := Lib.hid hz
      clear hz hf
      clear hk
      refine hK.out _ _ ?_ (fun hHeld => ?_)
      · exact (by rw [HSE.out]; exact HK1.out)
      clear hK K
      try simp only [Act.put, List.setIfInBounds_toArray, List.set_cons_zero, List.set_cons_succ]
      apply wpAnyH_ready (rs := [3, 8, 9])
      · kernel_rfl
      · simp
      apply AllReadyH.cons
      · simp only [List.getElem?_toArray]; rfl
      · intro K hK
        rw [if_pos (by rfl)]
        refine wp_call10 12 _ _ rfl [.agg #[zu], .agg (opC x).toArray] rfl Tryd.func12 (by kernel_rfl) (by kernel_rfl) ((R.step Y1 _ l x (R.keepG HG.out (HKS.out.trans HK1.out (FSub.refl _ _))) HZu1.out (by omega) HX.out).mono ?_)
        rintro e Y2 ⟨st, rfl, hz, hk, hf⟩
        rw [HQ.out.1] at hz
        rw [HQ.out.2.1, HQ.out.2.2]
        obtain ⟨zv, rfl, ho⟩ := R.one hz
        have HOV := Lib.hid ho
        clear ho
        refine ⟨_, rfl, ?_⟩
        have HK2 := Lib.hid (HK1.out.trans hk (FSub.refl _ _))
        have HZu2 := Lib.hid (R.new_ HZu1.out hk)
        have HZv2 := Lib.hid hz
        clear hz hf
        clear hk
        refine hK.out _ _ ?_ (fun hHeld => ?_)
        · exact (by rw [HSE.out]; exact HK2.out)
        clear hK K
        try simp only [Act.put, List.setIfInBounds_toArray, List.set_cons_zero, List.set_cons_succ]
        apply wpAnyH_take (i := 4)
        · simp only [List.getElem?_toArray]; rfl
        · kernel_rfl
        · kernel_rfl
        · kernel_rfl
        · exact fun _ _ _ h => h
        · exact Or.inl ⟨by rfl, by intro w hSw; go_simp; try with_reducible rfl⟩
        · assumption
        try simp only [Act.put, List.setIfInBounds_toArray, List.set_cons_zero, List.set_cons_succ]
        apply wpAnyH_take (i := 5)
        · simp only [List.getElem?_toArray]; rfl
        · kernel_rfl
        · kernel_rfl
        · kernel_rfl
        · exact fun _ _ _ h => h
        · exact Or.inl ⟨by rfl, by intro w hSw; go_simp; try with_reducible rfl⟩
        · assumption
        try simp only [Act.put, List.setIfInBounds_toArray, List.set_cons_zero, List.set_cons_succ]
        apply wpAnyH_take (i := 6)
        · simp only [List.getElem?_toArray]; rfl
        · kernel_rfl
        · kernel_rfl
        · kernel_rfl
        · exact fun _ _ _ h => h
        · exact Or.inl ⟨by rfl, by intro w hSw; go_simp; try with_reducible rfl⟩
        · assumption
        try simp only [Act.put, List.setIfInBounds_toArray, List.set_cons_zero, List.set_cons_succ]
        apply wpAnyH_take (i := 7)
        · simp only [List.getElem?_toArray]; rfl
        · kernel_rfl
        · kernel_rfl
        · kernel_rfl
        · exact fun _ _ _ h => h
        · exact Or.inl ⟨by rfl, by intro w hSw; go_simp; try with_reducible rfl⟩
        · assumption
        try simp only [Act.put, List.setIfInBounds_toArray, List.set_cons_zero, List.set_cons_succ]
        apply wpAnyH_ready (rs := [8, 9])
        · kernel_rfl
        · simp
        apply AllReadyH.cons
        · simp only [List.getElem?_toArray]; rfl
        · intro K hK
          rw [if_pos (by rfl)]
          refine wp_allocS _ _ _ _ rfl ?_
          have hk : Keeps [] Y2 (Y2.alloc (.cells #[.slice none 0 0] 28)) := (Keeps.refl _ _).alloc _
          have hb := heap_alloc_new Y2 (.cells #[.slice none 0 0] 28)
          have hl : Y2.heap.size < (Y2.alloc (.cells #[.slice none 0 0] 28)).heap.size := by rw [show (Y2.alloc (.cells #[.slice none 0 0] 28)).heap.size = Y2.heap.size + 1 from Array.size_push _]; omega
          have HPua := Lib.hid (fun p hp => (Nat.ne_of_lt (R.old HZu2.out p hp) : p ≠ Y2.heap.size))
          have HPva := Lib.hid (fun p hp => (Nat.ne_of_lt (R.old HZv2.out p hp) : p ≠ Y2.heap.size))
          have HGa := Lib.hid HK2.out.size
          generalize Y2.alloc (.cells #[.slice none 0 0] 28) = Y3 at *
          have HBa3 := Lib.hid hb; have HLa3 := Lib.hid hl
          have HK3 := Lib.hid (HK2.out.trans hk (FSub.refl _ _))
          have HZu3 := Lib.hid (R.new_ HZu2.out hk)
          have HZv3 := Lib.hid (R.new_ HZv2.out hk)
          clear hb hl hk
          generalize Y2.heap.size = qa at *
          refine hK.out _ _ ?_ (fun hHeld => ?_)
          · exact (by rw [HSE.out]; exact HK3.out)
          clear hK K
          try simp only [Act.put, List.setIfInBounds_toArray, List.set_cons_zero, List.set_cons_succ]
          apply wpAnyH_ready (rs := [9])
          · kernel_rfl
          · simp
          apply AllReadyH.cons (hs := AllReadyH.nil)
          · simp only [List.getElem?_toArray]; rfl
          intro K hK
          rw [if_pos (by rfl)]
          refine wp_allocA _ _ _ _ rfl ?_
          have hk : Keeps [] Y3 (Y3.alloc (.cells (ansC ⟨0, 0⟩).toArray 31)) := (Keeps.refl _ _).alloc _
          have hb := heap_alloc_new Y3 (.cells (ansC ⟨0, 0⟩).toArray 31)
          have hl : Y3.heap.size < (Y3.alloc (.cells (ansC ⟨0, 0⟩).toArray 31)).heap.size := by rw [show (Y3.alloc (.cells (ansC ⟨0, 0⟩).toArray 31)).heap.size = Y3.heap.size + 1 from Array.size_push _]; omega
          have HPub := Lib.hid (fun p hp => (Nat.ne_of_lt (R.old HZu3.out p hp) : p ≠ Y3.heap.size))
          have HPvb := Lib.hid (fun p hp => (Nat.ne_of_lt (R.old HZv3.out p hp) : p ≠ Y3.heap.size))
          have HAB := Lib.hid (Nat.ne_of_lt HLa3.out)
          have HGb := Lib.hid HK3.out.size
          generalize Y3.alloc (.cells (ansC ⟨0, 0⟩).toArray 31) = Y4 at *
          have HBb4 := Lib.hid hb; have HLb4 := Lib.hid hl
          have HK4 := Lib.hid (HK3.out.trans hk (FSub.refl _ _))
          have HZu4 := Lib.hid (R.new_ HZu3.out hk)
          have HZv4 := Lib.hid (R.new_ HZv3.out hk)
          have HBa4 := Lib.hid (hk.heap HBa3.out (by simp))
          have HLa4 := Lib.hid (Nat.lt_of_lt_of_le HLa3.out hk.size)
          clear hb hl hk
          generalize Y3.heap.size = qb at *
          refine hK.out _ _ ?_ (fun hHeld => ?_)
          · exact (by rw [HSE.out]; exact HK4.out)
          clear hK K
          try simp only [Act.put, List.setIfInBounds_toArray, List.set_cons_zero, List.set_cons_succ]
          apply wpAnyH_ready (rs := [10])
          · kernel_rfl
          · simp
          apply AllReadyH.cons (hs := AllReadyH.nil)
          · simp only [List.getElem?_toArray]; rfl
          intro K hK
          rw [if_pos (by rfl)]
          refine wp_putS (g := qa) (z := zv) rfl rfl rfl HBa4.out HOV.out ?_
          intro W5 h5 k5
          have HA5 := Lib.hid h5
          have HK5 := Lib.hid (HK4.out.trans k5 (fun p hp => .inr (by simp at hp; have := HGa.out; omega)))
          have HB5 := Lib.hid (k5.heap HBb4.out (by simp; have := HAB.out; omega))
          have HZ5 := Lib.hid (R.keep HZv4.out k5 (fun p hp hq => by simp at hq; exact HPva.out p hp hq))
          clear h5 k5
          refine hK.out _ _ ?_ (fun hHeld => ?_)
          · exact (by rw [HSE.out]; exact HK5.out)
          clear hK K
          try simp only [Act.put, List.setIfInBounds_toArray, List.set_cons_zero, List.set_cons_succ]
          apply wpAnyH_ready (rs := [11])
          · kernel_rfl
          · simp
          apply AllReadyH.cons (hs := AllReadyH.nil)
          · simp only [List.getElem?_toArray]; rfl
          intro K hK
          rw [if_pos (by rfl)]
          refine wp_putNw (g := qb) (old := ⟨0, 0⟩) ⟨yk, yv⟩ rfl rfl rfl HB5.out ?_
          intro W6 h6 k6
          have HB6 := Lib.hid h6
          have HK6 := Lib.hid (HK5.out.trans k6 (fun p hp => .inr (by simp at hp; have := HGb.out; omega)))
          have HA6 := Lib.hid (k6.heap HA5.out (by simp; have := HAB.out; omega))
          have HZ6 := Lib.hid (R.keep HZ5.out k6 (fun p hp hq => by simp at hq; exact HPvb.out p hp hq))
          clear h6 k6
          refine hK.out _ _ ?_ (fun hHeld => ?_)
          · exact (by rw [HSE.out]; exact HK6.out)
          clear hK K
          try simp only [Act.put, List.setIfInBounds_toArray, List.set_cons_zero, List.set_cons_succ]
          apply wpAnyH_take (i := 12)
          · simp only [List.getElem?_toArray]; rfl
          · kernel_rfl
          · kernel_rfl
          · kernel_rfl
          · exact fun _ _ _ h => h
          · exact Or.inl ⟨by rfl, by intro w hSw; go_simp; try with_reducible rfl⟩
          · assumption
          try simp only [Act.put, List.setIfInBounds_toArray, List.set_cons_zero, List.set_cons_succ]
          refine wpAnyH_done (by kernel_rfl) ?_ _
          refine NoPanic.normal ?_
          exact ⟨rfl, qa, qb, zv, _, _, _, _, _, _, _, _, rfl, HA6.out, HB6.out, HZ6.out, HK6.out⟩
        apply AllReadyH.cons (hs := AllReadyH.nil)
        · simp only [List.getElem?_toArray]; rfl
        intro K hK
        rw [if_pos (by rfl)]
        refine wp_allocA _ _ _ _ rfl ?_
        have hk : Keeps [] Y2 (Y2.alloc (.cells (ansC ⟨0, 0⟩).toArray 31)) := (Keeps.refl _ _).alloc _
        have hb := heap_alloc_new Y2 (.cells (ansC ⟨0, 0⟩).toArray 31)
        have hl : Y2.heap.size < (Y2.alloc (.cells (ansC ⟨0, 0⟩).toArray 31)).heap.size := by rw [show (Y2.alloc (.cells (ansC ⟨0, 0⟩).toArray 31)).heap.size = Y2.heap.size + 1 from Array.size_push _]; omega
        have HPub := Lib.hid (fun p hp => (Nat.ne_of_lt (R.old HZu2.out p hp) : p ≠ Y2.heap.size))
        have HPvb := Lib.hid (fun p hp => (Nat.ne_of_lt (R.old HZv2.out p hp) : p ≠ Y2.heap.size))
        have HGb := Lib.hid HK2.out.size
        generalize Y2.alloc (.cells (ansC ⟨0, 0⟩).toArray 31) = Y3 at *
        have HBb3 := Lib.hid hb; have HLb3 := Lib.hid hl
        have HK3 := Lib.hid (HK2.out.trans hk (FSub.refl _ _))
        have HZu3 := Lib.hid (R.new_ HZu2.out hk)
        have HZv3 := Lib.hid (R.new_ HZv2.out hk)
        clear hb hl hk
        generalize Y2.heap.size = qb at *
        refine hK.out _ _ ?_ (fun hHeld => ?_)
        · exact (by rw [HSE.out]; exact HK3.out)
        clear hK K
        try simp only [Act.put, List.setIfInBounds_toArray, List.set_cons_zero, List.set_cons_succ]
        apply wpAnyH_ready (rs := [8])
        · kernel_rfl
        · simp
        apply AllReadyH.cons (hs := AllReadyH.nil)
        · simp only [List.getElem?_toArray]; rfl
        intro K hK
        rw [if_pos (by rfl)]
        refine wp_allocS _ _ _ _ rfl ?_
        have hk : Keeps [] Y3 (Y3.alloc (.cells #[.slice none 0 0] 28)) := (Keeps.refl _ _).alloc _
        have hb := heap_alloc_new Y3 (.cells #[.slice none 0 0] 28)
        have hl : Y3.heap.size < (Y3.alloc (.cells #[.slice none 0 0] 28)).heap.size := by rw [show (Y3.alloc (.cells #[.slice none 0 0] 28)).heap.size = Y3.heap.size + 1 from Array.size_push _]; omega
        have HPua := Lib.hid (fun p hp => (Nat.ne_of_lt (R.old HZu3.out p hp) : p ≠ Y3.heap.size))
        have HPva := Lib.hid (fun p hp => (Nat.ne_of_lt (R.old HZv3.out p hp) : p ≠ Y3.heap.size))
        have HAB := Lib.hid (Nat.ne_of_lt HLb3.out)
        have HGa := Lib.hid HK3.out.size
        generalize Y3.alloc (.cells #[.slice none 0 0] 28) = Y4 at *
        have HBa4 := Lib.hid hb; have HLa4 := Lib.hid hl
        have HK4 := Lib.hid (HK3.out.trans hk (FSub.refl _ _))
        have HZu4 := Lib.hid (R.new_ HZu3.out hk)
        have HZv4 := Lib.hid (R.new_ HZv3.out hk)
        have HBb4 := Lib.hid (hk.heap HBb3.out (by simp))
        have HLb4 := Lib.hid (Nat.lt_of_lt_of_le HLb3.out hk.size)
        clear hb hl hk
        generalize Y3.heap.size = qa at *
        refine hK.out _ _ ?_ (fun hHeld => ?_)
        · exact (by rw [HSE.out]; exact HK4.out)
        clear hK K
        try simp only [Act.put, List.setIfInBounds_toArray, List.set_cons_zero, List.set_cons_succ]
        apply wpAnyH_ready (rs := [10])
        · kernel_rfl
        · simp
        apply AllReadyH.cons (hs := AllReadyH.nil)
        · simp only [List.getElem?_toArray]; rfl
        intro K hK
        rw [if_pos (by rfl)]
        refine wp_putS (g := qa) (z := zv) rfl rfl rfl HBa4.out HOV.out ?_
        intro W5 h5 k5
        have HA5 := Lib.hid h5
        have HK5 := Lib.hid (HK4.out.trans k5 (fun p hp => .inr (by simp at hp; have := HGa.out; omega)))
        have HB5 := Lib.hid (k5.heap HBb4.out (by simp; have := HAB.out; omega))
        have HZ5 := Lib.hid (R.keep HZv4.out k5 (fun p hp hq => by simp at hq; exact HPva.out p hp hq))
        clear h5 k5
        refine hK.out _ _ ?_ (fun hHeld => ?_)
        · exact (by rw [HSE.out]; exact HK5.out)
        clear hK K
        try simp only [Act.put, List.setIfInBounds_toArray, List.set_cons_zero, List.set_cons_succ]
        apply wpAnyH_ready (rs := [11])
        · kernel_rfl
        · simp
        apply AllReadyH.cons (hs := AllReadyH.nil)
        · simp only [List.getElem?_toArray]; rfl
        intro K hK
        rw [if_pos (by rfl)]
        refine wp_putNw (g := qb) (old := ⟨0, 0⟩) ⟨yk, yv⟩ rfl rfl rfl HB5.out ?_
        intro W6 h6 k6
        have HB6 := Lib.hid h6
        have HK6 := Lib.hid (HK5.out.trans k6 (fun p hp => .inr (by simp at hp; have := HGb.out; omega)))
        have HA6 := Lib.hid (k6.heap HA5.out (by simp; have := HAB.out; omega))
        have HZ6 := Lib.hid (R.keep HZ5.out k6 (fun p hp hq => by simp at hq; exact HPvb.out p hp hq))
        clear h6 k6
        refine hK.out _ _ ?_ (fun hHeld => ?_)
        · exact (by rw [HSE.out]; exact HK6.out)
        clear hK K
        try simp only [Act.put, List.setIfInBounds_toArray, List.set_cons_zero, List.set_cons_succ]
        apply wpAnyH_take (i := 12)
        · simp only [List.getElem?_toArray]; rfl
        · kernel_rfl
        · kernel_rfl
        · kernel_rfl
        · exact fun _ _ _ h => h
        · exact Or.inl ⟨by rfl, by intro w hSw; go_simp; try with_reducible rfl⟩
        · assumption
        try simp only [Act.put, List.setIfInBounds_toArray, List.set_cons_zero, List.set_cons_succ]
        refine wpAnyH_done (by kernel_rfl) ?_ _
        refine NoPanic.normal ?_
        exact ⟨rfl, qa, qb, zv, _, _, _, _, _, _, _, _, rfl, HA6.out, HB6.out, HZ6.out, HK6.out⟩
      apply AllReadyH.cons
      · simp only [List.getElem?_toArray]; rfl
      · intro K hK
        rw [if_pos (by rfl)]
        refine wp_allocS _ _ _ _ rfl ?_
        have hk : Keeps [] Y1 (Y1.alloc (.cells #[.slice none 0 0] 28)) := (Keeps.refl _ _).alloc _
        have hb := heap_alloc_new Y1 (.cells #[.slice none 0 0] 28)
        have hl : Y1.heap.size < (Y1.alloc (.cells #[.slice none 0 0] 28)).heap.size := by rw [show (Y1.alloc (.cells #[.slice none 0 0] 28)).heap.size = Y1.heap.size + 1 from Array.size_push _]; omega
        have HPua := Lib.hid (fun p hp => (Nat.ne_of_lt (R.old HZu1.out p hp) : p ≠ Y1.heap.size))
        have HGa := Lib.hid HK1.out.size
        generalize Y1.alloc (.cells #[.slice none 0 0] 28) = Y2 at *
        have HBa2 := Lib.hid hb; have HLa2 := Lib.hid hl
        have HK2 := Lib.hid (HK1.out.trans hk (FSub.refl _ _))
        have HZu2 := Lib.hid (R.new_ HZu1.out hk)
        clear hb hl hk
        generalize Y1.heap.size = qa at *
        refine hK.out _ _ ?_ (fun hHeld => ?_)
        · exact (by rw [HSE.out]; exact HK2.out)
        clear hK K
        try simp only [Act.put, List.setIfInBounds_toArray, List.set_cons_zero, List.set_cons_succ]
        apply wpAnyH_ready (rs := [3, 9])
        · kernel_rfl
        · simp
        apply AllReadyH.cons
        · simp only [List.getElem?_toArray]; rfl
        · intro K hK
          rw [if_pos (by rfl)]
          refine wp_call10 12 _ _ rfl [.agg #[zu], .agg (opC x).toArray] rfl Tryd.func12 (by kernel_rfl) (by kernel_rfl) ((R.step Y2 _ l x (R.keepG HG.out (HKS.out.trans HK2.out (FSub.refl _ _))) HZu2.out (by omega) HX.out).mono ?_)
          rintro e Y3 ⟨st, rfl, hz, hk, hf⟩
          rw [HQ.out.1] at hz
          rw [HQ.out.2.1, HQ.out.2.2]
          obtain ⟨zv, rfl, ho⟩ := R.one hz
          have HOV := Lib.hid ho
          clear ho
          refine ⟨_, rfl, ?_⟩
          have HK3 := Lib.hid (HK2.out.trans hk (FSub.refl _ _))
          have HZu3 := Lib.hid (R.new_ HZu2.out hk)
          have HBa3 := Lib.hid (hk.heap HBa2.out (by simp))
          have HLa3 := Lib.hid (Nat.lt_of_lt_of_le HLa2.out hk.size)
          have HZv3 := Lib.hid hz
          have HPva := Lib.hid (show ∀ p ∈ R.foot (.agg #[zv]), p ≠ qa from fun p hp e => by
            rcases hf p hp with h | h
            · exact HPua.out p h e
            · have := HLa2.out; omega)
          clear hz hf
          clear hk
          refine hK.out _ _ ?_ (fun hHeld => ?_)
          · exact (by rw [HSE.out]; exact HK3.out)
          clear hK K
          try simp only [Act.put, List.setIfInBounds_toArray, List.set_cons_zero, List.set_cons_succ]
          apply wpAnyH_take (i := 4)
          · simp only [List.getElem?_toArray]; rfl
          · kernel_rfl
          · kernel_rfl
          · kernel_rfl
          · exact fun _ _ _ h => h
          · exact Or.inl ⟨by rfl, by intro w hSw; go_simp; try with_reducible rfl⟩
          · assumption
          try simp only [Act.put, List.setIfInBounds_toArray, List.set_cons_zero, List.set_cons_succ]
          apply wpAnyH_take (i := 5)
          · simp only [List.getElem?_toArray]; rfl
          · kernel_rfl
          · kernel_rfl
          · kernel_rfl
          · exact fun _ _ _ h => h
          · exact Or.inl ⟨by rfl, by intro w hSw; go_simp; try with_reducible rfl⟩
          · assumption
          try simp only [Act.put, List.setIfInBounds_toArray, List.set_cons_zero, List.set_cons_succ]
          apply wpAnyH_take (i := 6)
          · simp only [List.getElem?_toArray]; rfl
          · kernel_rfl
          · kernel_rfl
          · kernel_rfl
          · exact fun _ _ _ h => h
          · exact Or.inl ⟨by rfl, by intro w hSw; go_simp; try with_reducible rfl⟩
          · assumption
          try simp only [Act.put, List.setIfInBounds_toArray, List.set_cons_zero, List.set_cons_succ]
          apply wpAnyH_take (i := 7)
          · simp only [List.getElem?_toArray]; rfl
          · kernel_rfl
          · kernel_rfl
          · kernel_rfl
          · exact fun _ _ _ h => h
          · exact Or.inl ⟨by rfl, by intro w hSw; go_simp; try with_reducible rfl⟩
          · assumption
          try simp only [Act.put, List.setIfInBounds_toArray, List.set_cons_zero, List.set_cons_succ]
          apply wpAnyH_ready (rs := [9])
          · kernel_rfl
          · simp
          apply AllReadyH.cons (hs := AllReadyH.nil)
          · simp only [List.getElem?_toArray]; rfl
          intro K hK
          rw [if_pos (by rfl)]
          refine wp_allocA _ _ _ _ rfl ?_
          have hk : Keeps [] Y3 (Y3.alloc (.cells (ansC ⟨0, 0⟩).toArray 31)) := (Keeps.refl _ _).alloc _
          have hb := heap_alloc_new Y3 (.cells (ansC ⟨0, 0⟩).toArray 31)
          have hl : Y3.heap.size < (Y3.alloc (.cells (ansC ⟨0, 0⟩).toArray 31)).heap.size := by rw [show (Y3.alloc (.cells (ansC ⟨0, 0⟩).toArray 31)).heap.size = Y3.heap.size + 1 from Array.size_push _]; omega
          have HPub := Lib.hid (fun p hp => (Nat.ne_of_lt (R.old HZu3.out p hp) : p ≠ Y3.heap.size))
          have HPvb := Lib.hid (fun p hp => (Nat.ne_of_lt (R.old HZv3.out p hp) : p ≠ Y3.heap.size))
          have HAB := Lib.hid (Nat.ne_of_lt HLa3.out)
          have HGb := Lib.hid HK3.out.size
          generalize Y3.alloc (.cells (ansC ⟨0, 0⟩).toArray 31) = Y4 at *
          have HBb4 := Lib.hid hb; have HLb4 := Lib.hid hl
          have HK4 := Lib.hid (HK3.out.trans hk (FSub.refl _ _))
          have HZu4 := Lib.hid (R.new_ HZu3.out hk)
          have HZv4 := Lib.hid (R.new_ HZv3.out hk)
          have HBa4 := Lib.hid (hk.heap HBa3.out (by simp))
          have HLa4 := Lib.hid (Nat.lt_of_lt_of_le HLa3.out hk.size)
          clear hb hl hk
          generalize Y3.heap.size = qb at *
          refine hK.out _ _ ?_ (fun hHeld => ?_)
          · exact (by rw [HSE.out]; exact HK4.out)
          clear hK K
          try simp only [Act.put, List.setIfInBounds_toArray, List.set_cons_zero, List.set_cons_succ]
          apply wpAnyH_ready (rs := [10])
          · kernel_rfl
          · simp
          apply AllReadyH.cons (hs := AllReadyH.nil)
          · simp only [List.getElem?_toArray]; rfl
          intro K hK
          rw [if_pos (by rfl)]
          refine wp_putS (g := qa) (z := zv) rfl rfl rfl HBa4.out HOV.out ?_
          intro W5 h5 k5
          have HA5 := Lib.hid h5
          have HK5 := Lib.hid (HK4.out.trans k5 (fun p hp => .inr (by simp at hp; have := HGa.out; omega)))
          have HB5 := Lib.hid (k5.heap HBb4.out (by simp; have := HAB.out; omega))
          have HZ5 := Lib.hid (R.keep HZv4.out k5 (fun p hp hq => by simp at hq; exact HPva.out p hp hq))
          clear h5 k5
          refine hK.out _ _ ?_ (fun hHeld => ?_)
          · exact (by rw [HSE.out]; exact HK5.out)
          clear hK K
          try simp only [Act.put, List.setIfInBounds_toArray, List.set_cons_zero, List.set_cons_succ]
          apply wpAnyH_ready (rs := [11])
          · kernel_rfl
          · simp
          apply AllReadyH.cons (hs := AllReadyH.nil)
          · simp only [List.getElem?_toArray]; rfl
          intro K hK
          rw [if_pos (by rfl)]
          refine wp_putNw (g := qb) (old := ⟨0, 0⟩) ⟨yk, yv⟩ rfl rfl rfl HB5.out ?_
          intro W6 h6 k6
          have HB6 := Lib.hid h6
          have HK6 := Lib.hid (HK5.out.trans k6 (fun p hp => .inr (by simp at hp; have := HGb.out; omega)))
          have HA6 := Lib.hid (k6.heap HA5.out (by simp; have := HAB.out; omega))
          have HZ6 := Lib.hid (R.keep HZ5.out k6 (fun p hp hq => by simp at hq; exact HPvb.out p hp hq))
          clear h6 k6
          refine hK.out _ _ ?_ (fun hHeld => ?_)
          · exact (by rw [HSE.out]; exact HK6.out)
          clear hK K
          try simp only [Act.put, List.setIfInBounds_toArray, List.set_cons_zero, List.set_cons_succ]
          apply wpAnyH_take (i := 12)
          · simp only [List.getElem?_toArray]; rfl
          · kernel_rfl
          · kernel_rfl
          · kernel_rfl
          · exact fun _ _ _ h => h
          · exact Or.inl ⟨by rfl, by intro w hSw; go_simp; try with_reducible rfl⟩
          · assumption
          try simp only [Act.put, List.setIfInBounds_toArray, List.set_cons_zero, List.set_cons_succ]
          refine wpAnyH_done (by kernel_rfl) ?_ _
          refine NoPanic.normal ?_
          exact ⟨rfl, qa, qb, zv, _, _, _, _, _, _, _, _, rfl, HA6.out, HB6.out, HZ6.out, HK6.out⟩
        apply AllReadyH.cons (hs := AllReadyH.nil)
        · simp only [List.getElem?_toArray]; rfl
        intro K hK
        rw [if_pos (by rfl)]
        refine wp_allocA _ _ _ _ rfl ?_
        have hk : Keeps [] Y2 (Y2.alloc (.cells (ansC ⟨0, 0⟩).toArray 31)) := (Keeps.refl _ _).alloc _
        have hb := heap_alloc_new Y2 (.cells (ansC ⟨0, 0⟩).toArray 31)
        have hl : Y2.heap.size < (Y2.alloc (.cells (ansC ⟨0, 0⟩).toArray 31)).heap.size := by rw [show (Y2.alloc (.cells (ansC ⟨0, 0⟩).toArray 31)).heap.size = Y2.heap.size + 1 from Array.size_push _]; omega
        have HPub := Lib.hid (fun p hp => (Nat.ne_of_lt (R.old HZu2.out p hp) : p ≠ Y2.heap.size))
        have HAB := Lib.hid (Nat.ne_of_lt HLa2.out)
        have HGb := Lib.hid HK2.out.size
        generalize Y2.alloc (.cells (ansC ⟨0, 0⟩).toArray 31) = Y3 at *
        have HBb3 := Lib.hid hb; have HLb3 := Lib.hid hl
        have HK3 := Lib.hid (HK2.out.trans hk (FSub.refl _ _))
        have HZu3 := Lib.hid (R.new_ HZu2.out hk)
        have HBa3 := Lib.hid (hk.heap HBa2.out (by simp))
        have HLa3 := Lib.hid (Nat.lt_of_lt_of_le HLa2.out hk.size)
        clear hb hl hk
        generalize Y2.heap.size = qb at *
        refine hK.out _ _ ?_ (fun hHeld => ?_)
        · exact (by rw [HSE.out]; exact HK3.out)
        clear hK K
        try simp only [Act.put, List.setIfInBounds_toArray, List.set_cons_zero, List.set_cons_succ]
        apply wpAnyH_ready (rs := [3])
        · kernel_rfl
        · simp
        apply AllReadyH.cons (hs := AllReadyH.nil)
        · simp only [List.getElem?_toArray]; rfl
        intro K hK
        rw [if_pos (by rfl)]
        refine wp_call10 12 _ _ rfl [.agg #[zu], .agg (opC x).toArray] rfl Tryd.func12 (by kernel_rfl) (by kernel_rfl) ((R.step Y3 _ l x (R.keepG HG.out (HKS.out.trans HK3.out (FSub.refl _ _))) HZu3.out (by omega) HX.out).mono ?_)
        rintro e Y4 ⟨st, rfl, hz, hk, hf⟩
        rw [HQ.out.1] at hz
        rw [HQ.out.2.1, HQ.out.2.2]
        obtain ⟨zv, rfl, ho⟩ := R.one hz
        have HOV := Lib.hid ho
        clear ho
        refine ⟨_, rfl, ?_⟩
        have HK4 := Lib.hid (HK3.out.trans hk (FSub.refl _ _))
        have HZu4 := Lib.hid (R.new_ HZu3.out hk)
        have HBa4 := Lib.hid (hk.heap HBa3.out (by simp))
        have HLa4 := Lib.hid (Nat.lt_of_lt_of_le HLa3.out hk.size)
        have HBb4 := Lib.hid (hk.heap HBb3.out (by simp))
        have HLb4 := Lib.hid (Nat.lt_of_lt_of_le HLb3.out hk.size)
        have HZv4 := Lib.hid hz
        have HPva := Lib.hid (show ∀ p ∈ R.foot (.agg #[zv]), p ≠ qa from fun p hp e => by
          rcases hf p hp with h | h
          · exact HPua.out p h e
          · have := HLa3.out; omega)
        have HPvb := Lib.hid (show ∀ p ∈ R.foot (.agg #[zv]), p ≠ qb from fun p hp e => by
          rcases hf p hp with h | h
          · exact HPub.out p h e
          · have := HLb3.out; omega)
        clear hz hf
        clear hk
        refine hK.out _ _ ?_ (fun hHeld => ?_)
        · exact (by rw [HSE.out]; exact HK4.out)
        clear hK K
        try simp only [Act.put, List.setIfInBounds_toArray, List.set_cons_zero, List.set_cons_succ]
        apply wpAnyH_take (i := 4)
        · simp only [List.getElem?_toArray]; rfl
        · kernel_rfl
        · kernel_rfl
        · kernel_rfl
        · exact fun _ _ _ h => h
        · exact Or.inl ⟨by rfl, by intro w hSw; go_simp; try with_reducible rfl⟩
        · assumption
        try simp only [Act.put, List.setIfInBounds_toArray, List.set_cons_zero, List.set_cons_succ]
        apply wpAnyH_take (i := 5)
        · simp only [List.getElem?_toArray]; rfl
        · kernel_rfl
        · kernel_rfl
        · kernel_rfl
        · exact fun _ _ _ h => h
        · exact Or.inl ⟨by rfl, by intro w hSw; go_simp; try with_reducible rfl⟩
        · assumption
        try simp only [Act.put, List.setIfInBounds_toArray, List.set_cons_zero, List.set_cons_succ]
        apply wpAnyH_take (i := 6)
        · simp only [List.getElem?_toArray]; rfl
        · kernel_rfl
        · kernel_rfl
        · kernel_rfl
        · exact fun _ _ _ h => h
        · exact Or.inl ⟨by rfl, by intro w hSw; go_simp; try with_reducible rfl⟩
        · assumption
        try simp only [Act.put, List.setIfInBounds_toArray, List.set_cons_zero, List.set_cons_succ]
        apply wpAnyH_take (i := 7)
        · simp only [List.getElem?_toArray]; rfl
        · kernel_rfl
        · kernel_rfl
        · kernel_rfl
        · exact fun _ _ _ h => h
        · exact Or.inl ⟨by rfl, by intro w hSw; go_simp; try with_reducible rfl⟩
        · assumption
        try simp only [Act.put, List.setIfInBounds_toArray, List.set_cons_zero, List.set_cons_succ]
        apply wpAnyH_ready (rs := [10])
        · kernel_rfl
        · simp
        apply AllReadyH.cons (hs := AllReadyH.nil)
        · simp only [List.getElem?_toArray]; rfl
        intro K hK
        rw [if_pos (by rfl)]
        refine wp_putS (g := qa) (z := zv) rfl rfl rfl HBa4.out HOV.out ?_
        intro W5 h5 k5
        have HA5 := Lib.hid h5
        have HK5 := Lib.hid (HK4.out.trans k5 (fun p hp => .inr (by simp at hp; have := HGa.out; omega)))
        have HB5 := Lib.hid (k5.heap HBb4.out (by simp; have := HAB.out; omega))
        have HZ5 := Lib.hid (R.keep HZv4.out k5 (fun p hp hq => by simp at hq; exact HPva.out p hp hq))
        clear h5 k5
        refine hK.out _ _ ?_ (fun hHeld => ?_)
        · exact (by rw [HSE.out]; exact HK5.out)
        clear hK K
        try simp only [Act.put, List.setIfInBounds_toArray, List.set_cons_zero, List.set_cons_succ]
        apply wpAnyH_ready (rs := [11])
        · kernel_rfl
        · simp
        apply AllReadyH.cons (hs := AllReadyH.nil)
        · simp only [List.getElem?_toArray]; rfl
        intro K hK
        rw [if_pos (by rfl)]
        refine wp_putNw (g := qb) (old := ⟨0, 0⟩) ⟨yk, yv⟩ rfl rfl rfl HB5.out ?_
        intro W6 h6 k6
        have HB6 := Lib.hid h6
        have HK6 := Lib.hid (HK5.out.trans k6 (fun p hp => .inr (by simp at hp; have := HGb.out; omega)))
        have HA6 := Lib.hid (k6.heap HA5.out (by simp; have := HAB.out; omega))
        have HZ6 := Lib.hid (R.keep HZ5.out k6 (fun p hp hq => by simp at hq; exact HPvb.out p hp hq))
        clear h6 k6
        refine hK.out _ _ ?_ (fun hHeld => ?_)
        · exact (by rw [HSE.out]; exact HK6.out)
        clear hK K
        try simp only [Act.put, List.setIfInBounds_toArray, List.set_cons_zero, List.set_cons_succ]
        apply wpAnyH_take (i := 12)
        · simp only [List.getElem?_toArray]; rfl
        · kernel_rfl
        · kernel_rfl
        · kernel_rfl
        · exact fun _ _ _ h => h
        · exact Or.inl ⟨by rfl, by intro w hSw; go_simp; try with_reducible rfl⟩
        · assumption
        try simp only [Act.put, List.setIfInBounds_toArray, List.set_cons_zero, List.set_cons_succ]
        refine wpAnyH_done (by kernel_rfl) ?_ _
        refine NoPanic.normal ?_
        exact ⟨rfl, qa, qb, zv, _, _, _, _, _, _, _, _, rfl, HA6.out, HB6.out, HZ6.out, HK6.out⟩
      apply AllReadyH.cons (hs := AllReadyH.nil)
      · simp only [List.getElem?_toArray]; rfl
      intro K hK
      rw [if_pos (by rfl)]
      refine wp_allocA _ _ _ _ rfl ?_
      have hk : Keeps [] Y1 (Y1.alloc (.cells (ansC ⟨0, 0⟩).toArray 31)) := (Keeps.refl _ _).alloc _
      have hb := heap_alloc_new Y1 (.cells (ansC ⟨0, 0⟩).toArray 31)
      have hl : Y1.heap.size < (Y1.alloc (.cells (ansC ⟨0, 0⟩).toArray 31)).heap.size := by rw [show (Y1.alloc (.cells (ansC ⟨0, 0⟩).toArray 31)).heap.size = Y1.heap.size + 1 from Array.size_push _]; omega
      have HPub := Lib.hid (fun p hp => (Nat.ne_of_lt (R.old HZu1.out p hp) : p ≠ Y1.heap.size))
      have HGb := Lib.hid HK1.out.size
      generalize Y1.alloc (.cells (ansC ⟨0, 0⟩).toArray 31) = Y2 at *
      have HBb2 := Lib.hid hb; have HLb2 := Lib.hid hl
      have HK2 := Lib.hid (HK1.out.trans hk (FSub.refl _ _))
      have HZu2 := Lib.hid (R.new_ HZu1.out hk)
      clear hb hl hk
      generalize Y1.heap.size = qb at *
      refine hK.out _ _ ?_ (fun hHeld => ?_)
      · exact (by rw [HSE.out]; exact HK2.out)
      clear hK K
      try simp only [Act.put, List.setIfInBounds_toArray, List.set_cons_zero, List.set_cons_succ]
      apply wpAnyH_ready (rs := [3, 8])
      · kernel_rfl
      · simp
      apply AllReadyH.cons
      · simp only [List.getElem?_toArray]; rfl
      · intro K hK
        rw [if_pos (by rfl)]
        refine wp_call10 12 _ _ rfl [.agg #[zu], .agg (opC x).toArray] rfl Tryd.func12 (by kernel_rfl) (by kernel_rfl) ((R.step Y2 _ l x (R.keepG HG.out (HKS.out.trans HK2.out (FSub.refl _ _))) HZu2.out (by omega) HX.out).mono ?_)
        rintro e Y3 ⟨st, rfl, hz, hk, hf⟩
        rw [HQ.out.1] at hz
        rw [HQ.out.2.1, HQ.out.2.2]
        obtain ⟨zv, rfl, ho⟩ := R.one hz
        have HOV := Lib.hid ho
        clear ho
        refine ⟨_, rfl, ?_⟩
        have HK3 := Lib.hid (HK2.out.trans hk (FSub.refl _ _))
        have HZu3 := Lib.hid (R.new_ HZu2.out hk)
        have HBb3 := Lib.hid (hk.heap HBb2.out (by simp))
        have HLb3 := Lib.hid (Nat.lt_of_lt_of_le HLb2.out hk.size)
        have HZv3 := Lib.hid hz
        have HPvb := Lib.hid (show ∀ p ∈ R.foot (.agg #[zv]), p ≠ qb from fun p hp e => by
          rcases hf p hp with h | h
          · exact HPub.out p h e
          · have := HLb2.out; omega)
        clear hz hf
        clear hk
        refine hK.out _ _ ?_ (fun hHeld => ?_)
        · exact (by rw [HSE.out]; exact HK3.out)
        clear hK K
        try simp only [Act.put, List.setIfInBounds_toArray, List.set_cons_zero, List.set_cons_succ]
        apply wpAnyH_take (i := 4)
        · simp only [List.getElem?_toArray]; rfl
        · kernel_rfl
        · kernel_rfl
        · kernel_rfl
        · exact fun _ _ _ h => h
        · exact Or.inl ⟨by rfl, by intro w hSw; go_simp; try with_reducible rfl⟩
        · assumption
        try simp only [Act.put, List.setIfInBounds_toArray, List.set_cons_zero, List.set_cons_succ]
        apply wpAnyH_take (i := 5)
        · simp only [List.getElem?_toArray]; rfl
        · kernel_rfl
        · kernel_rfl
        · kernel_rfl
        · exact fun _ _ _ h => h
        · exact Or.inl ⟨by rfl, by intro w hSw; go_simp; try with_reducible rfl⟩
        · assumption
        try simp only [Act.put, List.setIfInBounds_toArray, List.set_cons_zero, List.set_cons_succ]
        apply wpAnyH_take (i := 6)
        · simp only [List.getElem?_toArray]; rfl
        · kernel_rfl
        · kernel_rfl
        · kernel_rfl
        · exact fun _ _ _ h => h
        · exact Or.inl ⟨by rfl, by intro w hSw; go_simp; try with_reducible rfl⟩
        · assumption
        try simp only [Act.put, List.setIfInBounds_toArray, List.set_cons_zero, List.set_cons_succ]
        apply wpAnyH_take (i := 7)
        · simp only [List.getElem?_toArray]; rfl
        · kernel_rfl
        · kernel_rfl
        · kernel_rfl
        · exact fun _ _ _ h => h
        · exact Or.inl ⟨by rfl, by intro w hSw; go_simp; try with_reducible rfl⟩
        · assumption
        try simp only [Act.put, List.setIfInBounds_toArray, List.set_cons_zero, List.set_cons_succ]
        apply wpAnyH_ready (rs := [8])
        · kernel_rfl
        · simp
        apply AllReadyH.cons (hs := AllReadyH.nil)
        · simp only [List.getElem?_toArray]; rfl
        intro K hK
        rw [if_pos (by rfl)]
        refine wp_allocS _ _ _ _ rfl ?_
        have hk : Keeps [] Y3 (Y3.alloc (.cells #[.slice none 0 0] 28)) := (Keeps.refl _ _).alloc _
        have hb := heap_alloc_new Y3 (.cells #[.slice none 0 0] 28)
        have hl : Y3.heap.size < (Y3.alloc (.cells #[.slice none 0 0] 28)).heap.size := by rw [show (Y3.alloc (.cells #[.slice none 0 0] 28)).heap.size = Y3.heap.size + 1 from Array.size_push _]; omega
        have HPua := Lib.hid (fun p hp => (Nat.ne_of_lt (R.old HZu3.out p hp) : p ≠ Y3.heap.size))
        have HPva := Lib.hid (fun p hp => (Nat.ne_of_lt (R.old HZv3.out p hp) : p ≠ Y3.heap.size))
        have HAB := Lib.hid (Nat.ne_of_lt HLb3.out)
        have HGa := Lib.hid HK3.out.size
        generalize Y3.alloc (.cells #[.slice none 0 0] 28) = Y4 at *
        have HBa4 := Lib.hid hb; have HLa4 := Lib.hid hl
        have HK4 := Lib.hid (HK3.out.trans hk (FSub.refl _ _))
        have HZu4 := Lib.hid (R.new_ HZu3.out hk)
        have HZv4 := Lib.hid (R.new_ HZv3.out hk)
        have HBb4 := Lib.hid (hk.heap HBb3.out (by simp))
        have HLb4 := Lib.hid (Nat.lt_of_lt_of_le HLb3.out hk.size)
        clear hb hl hk
        generalize Y3.heap.size = qa at *
        refine hK.out _ _ ?_ (fun hHeld => ?_)
        · exact (by rw [HSE.out]; exact HK4.out)
        clear hK K
        try simp only [Act.put, List.setIfInBounds_toArray, List.set_cons_zero, List.set_cons_succ]
        apply wpAnyH_ready (rs := [10])
        · kernel_rfl
        · simp
        apply AllReadyH.cons (hs := AllReadyH.nil)
        · simp only [List.getElem?_toArray]; rfl
        intro K hK
        rw [if_pos (by rfl)]
        refine wp_putS (g := qa) (z := zv) rfl rfl rfl HBa4.out HOV.out ?_
        intro W5 h5 k5
        have HA5 := Lib.hid h5
        have HK5 := Lib.hid (HK4.out.trans k5 (fun p hp => .inr (by simp at hp; have := HGa.out; omega)))
        have HB5 := Lib.hid (k5.heap HBb4.out (by simp; have := HAB.out; omega))
        have HZ5 := Lib.hid (R.keep HZv4.out k5 (fun p hp hq => by simp at hq; exact HPva.out p hp hq))
        clear h5 k5
        refine hK.out _ _ ?_ (fun hHeld => ?_)
        · exact (by rw [HSE.out]; exact HK5.out)
        clear hK K
        try simp only [Act.put, List.setIfInBounds_toArray, List.set_cons_zero, List.set_cons_succ]
        apply wpAnyH_ready (rs := [11])
        · kernel_rfl
        · simp
        apply AllReadyH.cons (hs := AllReadyH.nil)
        · simp only [List.getElem?_toArray]; rfl
        intro K hK
        rw [if_pos (by rfl)]
        refine wp_putNw (g := qb) (old := ⟨0, 0⟩) ⟨yk, yv⟩ rfl rfl rfl HB5.out ?_
        intro W6 h6 k6
        have HB6 := Lib.hid h6
        have HK6 := Lib.hid (HK5.out.trans k6 (fun p hp => .inr (by simp at hp; have := HGb.out; omega)))
        have HA6 := Lib.hid (k6.heap HA5.out (by simp; have := HAB.out; omega))
        have HZ6 := Lib.hid (R.keep HZ5.out k6 (fun p hp hq => by simp at hq; exact HPvb.out p hp hq))
        clear h6 k6
        refine hK.out _ _ ?_ (fun hHeld => ?_)
        · exact (by rw [HSE.out]; exact HK6.out)
        clear hK K
        try simp only [Act.put, List.setIfInBounds_toArray, List.set_cons_zero, List.set_cons_succ]
        apply wpAnyH_take (i := 12)
        · simp only [List.getElem?_toArray]; rfl
        · kernel_rfl
        · kernel_rfl
        · kernel_rfl
        · exact fun _ _ _ h => h
        · exact Or.inl ⟨by rfl, by intro w hSw; go_simp; try with_reducible rfl⟩
        · assumption
        try simp only [Act.put, List.setIfInBounds_toArray, List.set_cons_zero, List.set_cons_succ]
        refine wpAnyH_done (by kernel_rfl) ?_ _
        refine NoPanic.normal ?_
        exact ⟨rfl, qa, qb, zv, _, _, _, _, _, _, _, _, rfl, HA6.out, HB6.out, HZ6.out, HK6.out⟩
      apply AllReadyH.cons (hs := AllReadyH.nil)
      · simp only [List.getElem?_toArray]; rfl
      intro K hK
      rw [if_pos (by rfl)]
      refine wp_allocS _ _ _ _ rfl ?_
      have hk : Keeps [] Y2 (Y2.alloc (.cells #[.slice none 0 0] 28)) := (Keeps.refl _ _).alloc _
      have hb := heap_alloc_new Y2 (.cells #[.slice none 0 0] 28)
      have hl : Y2.heap.size < (Y2.alloc (.cells #[.slice none 0 0] 28)).heap.size := by rw [show (Y2.alloc (.cells #[.slice none 0 0] 28)).heap.size = Y2.heap.size + 1 from Array.size_push _]; omega
      have HPua := Lib.hid (fun p hp => (Nat.ne_of_lt (R.old HZu2.out p hp) : p ≠ Y2.heap.size))
      have HAB := Lib.hid (Nat.ne_of_lt HLb2.out)
      have HGa := Lib.hid HK2.out.size
      generalize Y2.alloc (.cells #[.slice none 0 0] 28) = Y3 at *
      have HBa3 := Lib.hid hb; have HLa3 := Lib.hid hl
      have HK3 := Lib.hid (HK2.out.trans hk (FSub.refl _ _))
      have HZu3 := Lib.hid (R.new_ HZu2.out hk)
      have HBb3 := Lib.hid (hk.heap HBb2.out (by simp))
      have HLb3 := Lib.hid (Nat.lt_of_lt_of_le HLb2.out hk.size)
      clear hb hl hk
      generalize Y2.heap.size = qa at *
      refine hK.out _ _ ?_ (fun hHeld => ?_)
      · exact (by rw [HSE.out]; exact HK3.out)
      clear hK K
      try simp only [Act.put, List.setIfInBounds_toArray, List.set_cons_zero, List.set_cons_succ]
      apply wpAnyH_ready (rs := [3])
      · kernel_rfl
      · simp
      apply AllReadyH.cons (hs := AllReadyH.nil)
      · simp only [List.getElem?_toArray]; rfl
      intro K hK
      rw [if_pos (by rfl)]
      refine wp_call10 12 _ _ rfl [.agg #[zu], .agg (opC x).toArray] rfl Tryd.func12 (by kernel_rfl) (by kernel_rfl) ((R.step Y3 _ l x (R.keepG HG.out (HKS.out.trans HK3.out (FSub.refl _ _))) HZu3.out (by omega) HX.out).mono ?_)
      rintro e Y4 ⟨st, rfl, hz, hk, hf⟩
      rw [HQ.out.1] at hz
      rw [HQ.out.2.1, HQ.out.2.2]
      obtain ⟨zv, rfl, ho⟩ := R.one hz
      have HOV := Lib.hid ho
      clear ho
      refine ⟨_, rfl, ?_⟩
      have HK4 := Lib.hid (HK3.out.trans hk (FSub.refl _ _))
      have HZu4 := Lib.hid (R.new_ HZu3.out hk)
      have HBb4 := Lib.hid (hk.heap HBb3.out (by simp))
      have HLb4 := Lib.hid (Nat.lt_of_lt_of_le HLb3.out hk.size)
      have HBa4 := Lib.hid (hk.heap HBa3.out (by simp))
      have HLa4 := Lib.hid (Nat.lt_of_lt_of_le HLa3.out hk.size)
      have HZv4 := Lib.hid hz
      have HPvb := Lib.hid (show ∀ p ∈ R.foot (.agg #[zv]), p ≠ qb from fun p hp e => by
        rcases hf p hp with h | h
        · exact HPub.out p h e
        · have := HLb3.out; omega)
      have HPva := Lib.hid (show ∀ p ∈ R.foot (.agg #[zv]), p ≠ qa from fun p hp e => by
        rcases hf p hp with h | h
        · exact HPua.out p h e
        · have := HLa3.out; omega)
      clear hz hf
      clear hk
      refine hK.out _ _ ?_ (fun hHeld => ?_)
      · exact (by rw [HSE.out]; exact HK4.out)
      clear hK K
      try simp only [Act.put, List.setIfInBounds_toArray, List.set_cons_zero, List.set_cons_succ]
      apply wpAnyH_take (i := 4)
      · simp only [List.getElem?_toArray]; rfl
      · kernel_rfl
      · kernel_rfl
      · kernel_rfl
      · exact fun _ _ _ h => h
      · exact Or.inl ⟨by rfl, by intro w hSw; go_simp; try with_reducible rfl⟩
      · assumption
      try simp only [Act.put, List.setIfInBounds_toArray, List.set_cons_zero, List.set_cons_succ]
      apply wpAnyH_take (i := 5)
      · simp only [List.getElem?_toArray]; rfl
      · kernel_rfl
      · kernel_rfl
      · kernel_rfl
      · exact fun _ _ _ h => h
      · exact Or.inl ⟨by rfl, by intro w hSw; go_simp; try with_reducible rfl⟩
      · assumption
      try simp only [Act.put, List.setIfInBounds_toArray, List.set_cons_zero, List.set_cons_succ]
      apply wpAnyH_take (i := 6)
      · simp only [List.getElem?_toArray]; rfl
      · kernel_rfl
      · kernel_rfl
      · kernel_rfl
      · exact fun _ _ _ h => h
      · exact Or.inl ⟨by rfl, by intro w hSw; go_simp; try with_reducible rfl⟩
      · assumption
      try simp only [Act.put, List.setIfInBounds_toArray, List.set_cons_zero, List.set_cons_succ]
      apply wpAnyH_take (i := 7)
      · simp only [List.getElem?_toArray]; rfl
      · kernel_rfl
      · kernel_rfl
      · kernel_rfl
      · exact fun _ _ _ h => h
      · exact Or.inl ⟨by rfl, by intro w hSw; go_simp; try with_reducible rfl⟩
      · assumption
      try simp only [Act.put, List.setIfInBounds_toArray, List.set_cons_zero, List.set_cons_succ]
      apply wpAnyH_ready (rs := [10])
      · kernel_rfl
      · simp
      apply AllReadyH.cons (hs := AllReadyH.nil)
      · simp only [List.getElem?_toArray]; rfl
      intro K hK
      rw [if_pos (by rfl)]
      refine wp_putS (g := qa) (z := zv) rfl rfl rfl HBa4.out HOV.out ?_
      intro W5 h5 k5
      have HA5 := Lib.hid h5
      have HK5 := Lib.hid (HK4.out.trans k5 (fun p hp => .inr (by simp at hp; have := HGa.out; omega)))
      have HB5 := Lib.hid (k5.heap HBb4.out (by simp; have := HAB.out; omega))
      have HZ5 := Lib.hid (R.keep HZv4.out k5 (fun p hp hq => by simp at hq; exact HPva.out p hp hq))
      clear h5 k5
      refine hK.out _ _ ?_ (fun hHeld => ?_)
      · exact (by rw [HSE.out]; exact HK5.out)
      clear hK K
      try simp only [Act.put, List.setIfInBounds_toArray, List.set_cons_zero, List.set_cons_succ]
      apply wpAnyH_ready (rs := [11])
      · kernel_rfl
      · simp
      apply AllReadyH.cons (hs := AllReadyH.nil)
      · simp only [List.getElem?_toArray]; rfl
      intro K hK
      rw [if_pos (by rfl)]
      refine wp_putNw (g := qb) (old := ⟨0, 0⟩) ⟨yk, yv⟩ rfl rfl rfl HB5.out ?_
      intro W6 h6 k6
      have HB6 := Lib.hid h6
      have HK6 := Lib.hid (HK5.out.trans k6 (fun p hp => .inr (by simp at hp; have := HGb.out; omega)))
      have HA6 := Lib.hid (k6.heap HA5.out (by simp; have := HAB.out; omega))
      have HZ6 := Lib.hid (R.keep HZ5.out k6 (fun p hp hq => by simp at hq; exact HPvb.out p hp hq))
      clear h6 k6
      refine hK.out _ _ ?_ (fun hHeld => ?_)
      · exact (by rw [HSE.out]; exact HK6.out)
      clear hK K
      try simp only [Act.put, List.setIfInBounds_toArray, List.set_cons_zero, List.set_cons_succ]
      apply wpAnyH_take (i := 12)
      · simp only [List.getElem?_toArray]; rfl
      · kernel_rfl
      · kernel_rfl
      · kernel_rfl
      · exact fun _ _ _ h => h
      · exact Or.inl ⟨by rfl, by intro w hSw; go_simp; try with_reducible rfl⟩
      · assumption
      try simp only [Act.put, List.setIfInBounds_toArray, List.set_cons_zero, List.set_cons_succ]
      refine wpAnyH_done (by kernel_rfl) ?_ _
      refine NoPanic.normal ?_
      exact ⟨rfl, qa, qb, zv, _, _, _, _, _, _, _, _, rfl, HA6.out, HB6.out, HZ6.out, HK6.out⟩
    apply AllReadyH.cons
    · simp only [List.getElem?_toArray]; rfl
    · intro K hK
      rw [if_pos (by rfl)]
      refine wp_allocS _ _ _ _ rfl ?_
      have hk : Keeps [] Y0 (Y0.alloc (.cells #[.slice none 0 0] 28)) := (Keeps.refl _ _).alloc _
      have hb := heap_alloc_new Y0 (.cells #[.slice none 0 0] 28)
      have hl : Y0.heap.size < (Y0.alloc (.cells #[.slice none 0 0] 28)).heap.size := by rw [show (Y0.alloc (.cells #[.slice none 0 0] 28)).heap.size = Y0.heap.size + 1 from Array.size_push _]; omega
      have HGa := Lib.hid HK0.out.size
      generalize Y0.alloc (.cells #[.slice none 0 0] 28) = Y1 at *
      have HBa1 := Lib.hid hb; have HLa1 := Lib.hid hl
      have HK1 := Lib.hid (HK0.out.trans hk (FSub.refl _ _))
      clear hb hl hk
      generalize Y0.heap.size = qa at *
      refine hK.out _ _ ?_ (fun hHeld => ?_)
      · exact (by rw [HSE.out]; exact HK1.out)
      clear hK K
      try simp only [Act.put, List.setIfInBounds_toArray, List.set_cons_zero, List.set_cons_succ]
      apply wpAnyH_ready (rs := [1, 9])
      · kernel_rfl
      · simp
      apply AllReadyH.cons
      · simp only [List.getElem?_toArray]; rfl
      · intro K hK
        rw [if_pos (by rfl)]
        refine wp_call10 11 _ _ rfl [.slice a1 l.length c1] rfl Tryd.func11 (by kernel_rfl) (by kernel_rfl) ((R.of Y1 N _ l (R.keepG HG.out (HKS.out.trans HK1.out (FSub.refl _ _))) (HL.out.new (HKS.out.trans HK1.out (FSub.refl _ _)) hN) (Nat.le_trans hN (HKS.out.trans HK1.out (FSub.refl _ _)).size) (by omega)).mono ?_)
        rintro e Y2 ⟨st, rfl, hz, hk, hf⟩
        obtain ⟨zu, rfl, ho⟩ := R.one hz
        clear ho
        refine ⟨_, rfl, ?_⟩
        have HK2 := Lib.hid (HK1.out.trans hk (FSub.refl _ _))
        have HBa2 := Lib.hid (hk.heap HBa1.out (by simp))
        have HLa2 := Lib.hid (Nat.lt_of_lt_of_le HLa1.out hk.size)
        have HZu2 := Lib.hid hz
        have HPua := Lib.hid (show ∀ p ∈ R.foot (.agg #[zu]), p ≠ qa from fun p hp e => by
          have := hf p hp; have := HLa1.out; omega)
        clear hz hf
        clear hk
        refine hK.out _ _ ?_ (fun hHeld => ?_)
        · exact (by rw [HSE.out]; exact HK2.out)
        clear hK K
        try simp only [Act.put, List.setIfInBounds_toArray, List.set_cons_zero, List.set_cons_succ]
        apply wpAnyH_ready (rs := [3, 9])
        · kernel_rfl
        · simp
        apply AllReadyH.cons
        · simp only [List.getElem?_toArray]; rfl
        · intro K hK
          rw [if_pos (by rfl)]
          refine wp_call10 12 _ _ rfl [.agg #[zu], .agg (opC x).toArray] rfl Tryd.func12 (by kernel_rfl) (by kernel_rfl) ((R.step Y2 _ l x (R.keepG HG.out (HKS.out.trans HK2.out (FSub.refl _ _))) HZu2.out (by omega) HX.out).mono ?_)
          rintro e Y3 ⟨st, rfl, hz, hk, hf⟩
          rw [HQ.out.1] at hz
          rw [HQ.out.2.1, HQ.out.2.2]
          obtain ⟨zv, rfl, ho⟩ := R.one hz
          have HOV := Lib.hid ho
          clear ho
          refine ⟨_, rfl, ?_⟩
          have HK3 := Lib.hid (HK2.out.trans hk (FSub.refl _ _))
          have HZu3 := Lib.hid (R.new_ HZu2.out hk)
          have HBa3 := Lib.hid (hk.heap HBa2.out (by simp))
          have HLa3 := Lib.hid (Nat.lt_of_lt_of_le HLa2.out hk.size)
          have HZv3 := Lib.hid hz
          have HPva := Lib.hid (show ∀ p ∈ R.foot (.agg #[zv]), p ≠ qa from fun p hp e => by
            rcases hf p hp with h | h
            · exact HPua.out p h e
            · have := HLa2.out; omega)
          clear hz hf
          clear hk
          refine hK.out _ _ ?_ (fun hHeld => ?_)
          · exact (by rw [HSE.out]; exact HK3.out)
          clear hK K
          try simp only [Act.put, List.setIfInBounds_toArray, List.set_cons_zero, List.set_cons_succ]
          apply wpAnyH_take (i := 4)
          · simp only [List.getElem?_toArray]; rfl
          · kernel_rfl
          · kernel_rfl
          · kernel_rfl
          · exact fun _ _ _ h => h
          · exact Or.inl ⟨by rfl, by intro w hSw; go_simp; try with_reducible rfl⟩
          · assumption
          try simp only [Act.put, List.setIfInBounds_toArray, List.set_cons_zero, List.set_cons_succ]
          apply wpAnyH_take (i := 5)
          · simp only [List.getElem?_toArray]; rfl
          · kernel_rfl
          · kernel_rfl
          · kernel_rfl
          · exact fun _ _ _ h => h
          · exact Or.inl ⟨by rfl, by intro w hSw; go_simp; try with_reducible rfl⟩
          · assumption
          try simp only [Act.put, List.setIfInBounds_toArray, List.set_cons_zero, List.set_cons_succ]
          apply wpAnyH_take (i := 6)
          · simp only [List.getElem?_toArray]; rfl
          · kernel_rfl
          · kernel_rfl
          · kernel_rfl
          · exact fun _ _ _ h => h
          · exact Or.inl ⟨by rfl, by intro w hSw; go_simp; try with_reducible rfl⟩
          · assumption
          try simp only [Act.put, List.setIfInBounds_toArray, List.set_cons_zero, List.set_cons_succ]
          apply wpAnyH_take (i := 7)
          · simp only [List.getElem?_toArray]; rfl
          · kernel_rfl
          · kernel_rfl
          · kernel_rfl
          · exact fun _ _ _ h => h
          · exact Or.inl ⟨by rfl, by intro w hSw; go_simp; try with_reducible rfl⟩
          · assumption
          try simp only [Act.put, List.setIfInBounds_toArray, List.set_cons_zero, List.set_cons_succ]
          apply wpAnyH_ready (rs := [9])
          · kernel_rfl
          · simp
          apply AllReadyH.cons (hs := AllReadyH.nil)
          · simp only [List.getElem?_toArray]; rfl
          intro K hK
          rw [if_pos (by rfl)]
          refine wp_allocA _ _ _ _ rfl ?_
          have hk : Keeps [] Y3 (Y3.alloc (.cells (ansC ⟨0, 0⟩).toArray 31)) := (Keeps.refl _ _).alloc _
          have hb := heap_alloc_new Y3 (.cells (ansC ⟨0, 0⟩).toArray 31)
          have hl : Y3.heap.size < (Y3.alloc (.cells (ansC ⟨0, 0⟩).toArray 31)).heap.size := by rw [show (Y3.alloc (.cells (ansC ⟨0, 0⟩).toArray 31)).heap.size = Y3.heap.size + 1 from Array.size_push _]; omega
          have HPub := Lib.hid (fun p hp => (Nat.ne_of_lt (R.old HZu3.out p hp) : p ≠ Y3.heap.size))
          have HPvb := Lib.hid (fun p hp => (Nat.ne_of_lt (R.old HZv3.out p hp) : p ≠ Y3.heap.size))
          have HAB := Lib.hid (Nat.ne_of_lt HLa3.out)
          have HGb := Lib.hid HK3.out.size
          generalize Y3.alloc (.cells (ansC ⟨0, 0⟩).toArray 31) = Y4 at *
          have HBb4 := Lib.hid hb; have HLb4 := Lib.hid hl
          have HK4 := Lib.hid (HK3.out.trans hk (FSub.refl _ _))
          have HZu4 := Lib.hid (R.new_ HZu3.out hk)
          have HZv4 := Lib.hid (R.new_ HZv3.out hk)
          have HBa4 := Lib.hid (hk.heap HBa3.out (by simp))
          have HLa4 := Lib.hid (Nat.lt_of_lt_of_le HLa3.out hk.size)
          clear hb hl hk
          generalize Y3.heap.size = qb at *
          refine hK.out _ _ ?_ (fun hHeld => ?_)
          · exact (by rw [HSE.out]; exact HK4.out)
          clear hK K
          try simp only [Act.put, List.setIfInBounds_toArray, List.set_cons_zero, List.set_cons_succ]
          apply wpAnyH_ready (rs := [10])
          · kernel_rfl
          · simp
          apply AllReadyH.cons (hs := AllReadyH.nil)
          · simp only [List.getElem?_toArray]; rfl
          intro K hK
          rw [if_pos (by rfl)]
          refine wp_putS (g := qa) (z := zv) rfl rfl rfl HBa4.out HOV.out ?_
          intro W5 h5 k5
          have HA5 := Lib.hid h5
          have HK5 := Lib.hid (HK4.out.trans k5 (fun p hp => .inr (by simp at hp; have := HGa.out; omega)))
          have HB5 := Lib.hid (k5.heap HBb4.out (by simp; have := HAB.out; omega))
          have HZ5 := Lib.hid (R.keep HZv4.out k5 (fun p hp hq => by simp at hq; exact HPva.out p hp hq))
          clear h5 k5
          refine hK.out _ _ ?_ (fun hHeld => ?_)
          · exact (by rw [HSE.out]; exact HK5.out)
          clear hK K
          try simp only [Act.put, List.setIfInBounds_toArray, List.set_cons_zero, List.set_cons_succ]
          apply wpAnyH_ready (rs := [11])
          · kernel_rfl
          · simp
          apply AllReadyH.cons (hs := AllReadyH.nil)
          · simp only [List.getElem?_toArray]; rfl
          intro K hK
          rw [if_pos (by rfl)]
          refine wp_putNw (g := qb) (old := ⟨0, 0⟩) ⟨yk, yv⟩ rfl rfl rfl HB5.out ?_
          intro W6 h6 k6
          have HB6 := Lib.hid h6
          have HK6 := Lib.hid (HK5.out.trans k6 (fun p hp => .inr (by simp at hp; have := HGb.out; omega)))
          have HA6 := Lib.hid (k6.heap HA5.out (by simp; have := HAB.out; omega))
          have HZ6 := Lib.hid (R.keep HZ5.out k6 (fun p hp hq => by simp at hq; exact HPvb.out p hp hq))
          clear h6 k6
          refine hK.out _ _ ?_ (fun hHeld => ?_)
          · exact (by rw [HSE.out]; exact HK6.out)
          clear hK K
          try simp only [Act.put, List.setIfInBounds_toArray, List.set_cons_zero, List.set_cons_succ]
          apply wpAnyH_take (i := 12)
          · simp only [List.getElem?_toArray]; rfl
          · kernel_rfl
          · kernel_rfl
          · kernel_rfl
          · exact fun _ _ _ h => h
          · exact Or.inl ⟨by rfl, by intro w hSw; go_simp; try with_reducible rfl⟩
          · assumption
          try simp only [Act.put, List.setIfInBounds_toArray, List.set_cons_zero, List.set_cons_succ]
          refine wpAnyH_done (by kernel_rfl) ?_ _
          refine NoPanic.normal ?_
          exact ⟨rfl, qa, qb, zv, _, _, _, _, _, _, _, _, rfl, HA6.out, HB6.out, HZ6.out, HK6.out⟩
        apply AllReadyH.cons (hs := AllReadyH.nil)
        · simp only [List.getElem?_toArray]; rfl
        intro K hK
        rw [if_pos (by rfl)]
        refine wp_allocA _ _ _ _ rfl ?_
        have hk : Keeps [] Y2 (Y2.alloc (.cells (ansC ⟨0, 0⟩).toArray 31)) := (Keeps.refl _ _).alloc _
        have hb := heap_alloc_new Y2 (.cells (ansC ⟨0, 0⟩).toArray 31)
        have hl : Y2.heap.size < (Y2.alloc (.cells (ansC ⟨0, 0⟩).toArray 31)).heap.size := by rw [show (Y2.alloc (.cells (ansC ⟨0, 0⟩).toArray 31)).heap.size = Y2.heap.size + 1 from Array.size_push _]; omega
        have HPub := Lib.hid (fun p hp => (Nat.ne_of_lt (R.old HZu2.out p hp) : p ≠ Y2.heap.size))
        have HAB := Lib.hid (Nat.ne_of_lt HLa2.out)
        have HGb := Lib.hid HK2.out.size
        generalize Y2.alloc (.cells (ansC ⟨0, 0⟩).toArray 31) = Y3 at *
        have HBb3 := Lib.hid hb; have HLb3 := Lib.hid hl
        have HK3 := Lib.hid (HK2.out.trans hk (FSub.refl _ _))
        have HZu3 := Lib.hid (R.new_ HZu2.out hk)
        have HBa3 := Lib.hid (hk.heap HBa2.out (by simp))
        have HLa3 := Lib.hid (Nat.lt_of_lt_of_le HLa2.out hk.size)
        clear hb hl hk
        generalize Y2.heap.size = qb at *
        refine hK.out _ _ ?_ (fun hHeld => ?_)
        · exact (by rw [HSE.out]; exact HK3.out)
        clear hK K
        try simp only [Act.put, List.setIfInBounds_toArray, List.set_cons_zero, List.set_cons_succ]
        apply wpAnyH_ready (rs := [3])
        · kernel_rfl
        · simp
        apply AllReadyH.cons (hs := AllReadyH.nil)
        · simp only [List.getElem?_toArray]; rfl
        intro K hK
        rw [if_pos (by rfl)]
        refine wp_call10 12 _ _ rfl [.agg #[zu], .agg (opC x).toArray] rfl Tryd.func12 (by kernel_rfl) (by kernel_rfl) ((R.step Y3 _ l x (R.keepG HG.out (HKS.out.trans HK3.out (FSub.refl _ _))) HZu3.out (by omega) HX.out).mono ?_)
        rintro e Y4 ⟨st, rfl, hz, hk, hf⟩
        rw [HQ.out.1] at hz
        rw [HQ.out.2.1, HQ.out.2.2]
        obtain ⟨zv, rfl, ho⟩ := R.one hz
        have HOV := Lib.hid ho
        clear ho
        refine ⟨_, rfl, ?_⟩
        have HK4 := Lib.hid (HK3.out.trans hk (FSub.refl _ _))
        have HZu4 := Lib.hid (R.new_ HZu3.out hk)
        have HBa4 := Lib.hid (hk.heap HBa3.out (by simp))
        have HLa4 := Lib.hid (Nat.lt_of_lt_of_le HLa3.out hk.size)
        have HBb4 := Lib.hid (hk.heap HBb3.out (by simp))
        have HLb4 := Lib.hid (Nat.lt_of_lt_of_le HLb3.out hk.size)
        have HZv4 := Lib.hid hz
        have HPva := Lib.hid (show ∀ p ∈ R.foot (.agg #[zv]), p ≠ qa from fun p hp e => by
          rcases hf p hp with h | h
          · exact HPua.out p h e
          · have := HLa3.out; omega)
        have HPvb := Lib.hid (show ∀ p ∈ R.foot (.agg #[zv]), p ≠ qb from fun p hp e => by
          rcases hf p hp with h | h
          · exact HPub.out p h e
          · have := HLb3.out; omega)
        clear hz hf
        clear hk
        refine hK.out _ _ ?_ (fun hHeld => ?_)
        · exact (by rw [HSE.out]; exact HK4.out)
        clear hK K
        try simp only [Act.put, List.setIfInBounds_toArray, List.set_cons_zero, List.set_cons_succ]
        apply wpAnyH_take (i := 4)
        · simp only [List.getElem?_toArray]; rfl
        · kernel_rfl
        · kernel_rfl
        · kernel_rfl
        · exact fun _ _ _ h => h
        · exact Or.inl ⟨by rfl, by intro w hSw; go_simp; try with_reducible rfl⟩
        · assumption
        try simp only [Act.put, List.setIfInBounds_toArray, List.set_cons_zero, List.set_cons_succ]
        apply wpAnyH_take (i := 5)
        · simp only [List.getElem?_toArray]; rfl
        · kernel_rfl
        · kernel_rfl
        · kernel_rfl
        · exact fun _ _ _ h => h
        · exact Or.inl ⟨by rfl, by intro w hSw; go_simp; try with_reducible rfl⟩
        · assumption
        try simp only [Act.put, List.setIfInBounds_toArray, List.set_cons_zero, List.set_cons_succ]
        apply wpAnyH_take (i := 6)
        · simp only [List.getElem?_toArray]; rfl
        · kernel_rfl
        · kernel_rfl
        · kernel_rfl
        · exact fun _ _ _ h => h
        · exact Or.inl ⟨by rfl, by intro w hSw; go_simp; try with_reducible rfl⟩
        · assumption
        try simp only [Act.put, List.setIfInBounds_toArray, List.set_cons_zero, List.set_cons_succ]
        apply wpAnyH_take (i := 7)
        · simp only [List.getElem?_toArray]; rfl
        · kernel_rfl
        · kernel_rfl
        · kernel_rfl
        · exact fun _ _ _ h => h
        · exact Or.inl ⟨by rfl, by intro w hSw; go_simp; try with_reducible rfl⟩
        · assumption
        try simp only [Act.put, List.setIfInBounds_toArray, List.set_cons_zero, List.set_cons_succ]
        apply wpAnyH_ready (rs := [10])
        · kernel_rfl
        · simp
        apply AllReadyH.cons (hs := AllReadyH.nil)
        · simp only [List.getElem?_toArray]; rfl
        intro K hK
        rw [if_pos (by rfl)]
        refine wp_putS (g := qa) (z := zv) rfl rfl rfl HBa4.out HOV.out ?_
        intro W5 h5 k5
        have HA5 := Lib.hid h5
        have HK5 := Lib.hid (HK4.out.trans k5 (fun p hp => .inr (by simp at hp; have := HGa.out; omega)))
        have HB5 := Lib.hid (k5.heap HBb4.out (by simp; have := HAB.out; omega))
        have HZ5 := Lib.hid (R.keep HZv4.out k5 (fun p hp hq => by simp at hq; exact HPva.out p hp hq))
        clear h5 k5
        refine hK.out _ _ ?_ (fun hHeld => ?_)
        · exact (by rw [HSE.out]; exact HK5.out)
        clear hK K
        try simp only [Act.put, List.setIfInBounds_toArray, List.set_cons_zero, List.set_cons_succ]
        apply wpAnyH_ready (rs := [11])
        · kernel_rfl
        · simp
        apply AllReadyH.cons (hs := AllReadyH.nil)
        · simp only [List.getElem?_toArray]; rfl
        intro K hK
        rw [if_pos (by rfl)]
        refine wp_putNw (g := qb) (old := ⟨0, 0⟩) ⟨yk, yv⟩ rfl rfl rfl HB5.out ?_
        intro W6 h6 k6
        have HB6 := Lib.hid h6
        have HK6 := Lib.hid (HK5.out.trans k6 (fun p hp => .inr (by simp at hp; have := HGb.out; omega)))
        have HA6 := Lib.hid (k6.heap HA5.out (by simp; have := HAB.out; omega))
        have HZ6 := Lib.hid (R.keep HZ5.out k6 (fun p hp hq => by simp at hq; exact HPvb.out p hp hq))
        clear h6 k6
        refine hK.out _ _ ?_ (fun hHeld => ?_)
        · exact (by rw [HSE.out]; exact HK6.out)
        clear hK K
        try simp only [Act.put, List.setIfInBounds_toArray, List.set_cons_zero, List.set_cons_succ]
        apply wpAnyH_take (i := 12)
        · simp only [List.getElem?_toArray]; rfl
        · kernel_rfl
        · kernel_rfl
        · kernel_rfl
        · exact fun _ _ _ h => h
        · exact Or.inl ⟨by rfl, by intro w hSw; go_simp; try with_reducible rfl⟩
        · assumption
        try simp only [Act.put, List.setIfInBounds_toArray, List.set_cons_zero, List.set_cons_succ]
        refine wpAnyH_done (by kernel_rfl) ?_ _
        refine NoPanic.normal ?_
        exact ⟨rfl, qa, qb, zv, _, _, _, _, _, _, _, _, rfl, HA6.out, HB6.out, HZ6.out, HK6.out⟩
      apply AllReadyH.cons (hs := AllReadyH.nil)
      · simp only [List.getElem?_toArray]; rfl
      intro K hK
      rw [if_pos (by rfl)]
      refine wp_allocA _ _ _ _ rfl ?_
      have hk : Keeps [] Y1 (Y1.alloc (.cells (ansC ⟨0, 0⟩).toArray 31)) := (Keeps.refl _ _).alloc _
      have hb := heap_alloc_new Y1 (.cells (ansC ⟨0, 0⟩).toArray 31)
      have hl : Y1.heap.size < (Y1.alloc (.cells (ansC ⟨0, 0⟩).toArray 31)).heap.size := by rw [show (Y1.alloc (.cells (ansC ⟨0, 0⟩).toArray 31)).heap.size = Y1.heap.size + 1 from Array.size_push _]; omega
      have HAB := Lib.hid (Nat.ne_of_lt HLa1.out)
      have HGb := Lib.hid HK1.out.size
      generalize Y1.alloc (.cells (ansC ⟨0, 0⟩).toArray 31) = Y2 at *
      have HBb2 := Lib.hid hb; have HLb2 := Lib.hid hl
      have HK2 := Lib.hid (HK1.out.trans hk (FSub.refl _ _))
      have HBa2 := Lib.hid (hk.heap HBa1.out (by simp))
      have HLa2 := Lib.hid (Nat.lt_of_lt_of_le HLa1.out hk.size)
      clear hb hl hk
      generalize Y1.heap.size = qb at *
      refine hK.out _ _ ?_ (fun hHeld => ?_)
      · exact (by rw [HSE.out]; exact HK2.out)
      clear hK K
      try simp only [Act.put, List.setIfInBounds_toArray, List.set_cons_zero, List.set_cons_succ]
      apply wpAnyH_ready (rs := [1])
      · kernel_rfl
      · simp
      apply AllReadyH.cons (hs := AllReadyH.nil)
      · simp only [List.getElem?_toArray]; rfl
      intro K hK
      rw [if_pos (by rfl)]
      refine wp_call10 11 _ _ rfl [.slice a1 l.length c1] rfl Tryd.func11 (by kernel_rfl) (by kernel_rfl) ((R.of Y2 N _ l (R.keepG HG.out (HKS.out.trans HK2.out (FSub.refl _ _))) (HL.out.new (HKS.out.trans HK2.out (FSub.refl _ _)) hN) (Nat.le_trans hN (HKS.out.trans HK2.out (FSub.refl _ _)).size) (by omega)).mono ?_)
      rintro e Y3 ⟨st, rfl, hz, hk, hf⟩
      obtain ⟨zu, rfl, ho⟩ := R.one hz
      clear ho
      refine ⟨_, rfl, ?_⟩
      have HK3 := Lib.hid (HK2.out.trans hk (FSub.refl _ _))
      have HBa3 := Lib.hid (hk.heap HBa2.out (by simp))
      have HLa3 := Lib.hid (Nat.lt_of_lt_of_le HLa2.out hk.size)
      have HBb3 := Lib.hid (hk.heap HBb2.out (by simp))
      have HLb3 := Lib.hid (Nat.lt_of_lt_of_le HLb2.out hk.size)
      have HZu3 := Lib.hid hz
      have HPua := Lib.hid (show ∀ p ∈ R.foot (.agg #[zu]), p ≠ qa from fun p hp e => by
        have := hf p hp; have := HLa2.out; omega)
      have HPub := Lib.hid (show ∀ p ∈ R.foot (.agg #[zu]), p ≠ qb from fun p hp e => by
        have := hf p hp; have := HLb2.out; omega)
      clear hz hf
      clear hk
      refine hK.out _ _ ?_ (fun hHeld => ?_)
      · exact (by rw [HSE.out]; exact HK3.out)
      clear hK K
      try simp only [Act.put, List.setIfInBounds_toArray, List.set_cons_zero, List.set_cons_succ]
      apply wpAnyH_ready (rs := [3])
      · kernel_rfl
      · simp
      apply AllReadyH.cons (hs := AllReadyH.nil)
      · simp only [List.getElem?_toArray]; rfl
      intro K hK
      rw [if_pos (by rfl)]
      refine wp_call10 12 _ _ rfl [.agg #[zu], .agg (opC x).toArray] rfl Tryd.func12 (by kernel_rfl) (by kernel_rfl) ((R.step Y3 _ l x (R.keepG HG.out (HKS.out.trans HK3.out (FSub.refl _ _))) HZu3.out (by omega) HX.out).mono ?_)
      rintro e Y4 ⟨st, rfl, hz, hk, hf⟩
      rw [HQ.out.1] at hz
      rw [HQ.out.2.1, HQ.out.2.2]
      obtain ⟨zv, rfl, ho⟩ := R.one hz
      have HOV := Lib.hid ho
      clear ho
      refine ⟨_, rfl, ?_⟩
      have HK4 := Lib.hid (HK3.out.trans hk (FSub.refl _ _))
      have HZu4 := Lib.hid (R.new_ HZu3.out hk)
      have HBa4 := Lib.hid (hk.heap HBa3.out (by simp))
      have HLa4 := Lib.hid (Nat.lt_of_lt_of_le HLa3.out hk.size)
      have HBb4 := Lib.hid (hk.heap HBb3.out (by simp))
      have HLb4 := Lib.hid (Nat.lt_of_lt_of_le HLb3.out hk.size)
      have HZv4 := Lib.hid hz
      have HPva := Lib.hid (show ∀ p ∈ R.foot (.agg #[zv]), p ≠ qa from fun p hp e => by
        rcases hf p hp with h | h
        · exact HPua.out p h e
        · have := HLa3.out; omega)
      have HPvb := Lib.hid (show ∀ p ∈ R.foot (.agg #[zv]), p ≠ qb from fun p hp e => by
        rcases hf p hp with h | h
        · exact HPub.out p h e
        · have := HLb3.out; omega)
      clear hz hf
      clear hk
      refine hK.out _ _ ?_ (fun hHeld => ?_)
      · exact (by rw [HSE.out]; exact HK4.out)
      clear hK K
      try simp only [Act.put, List.setIfInBounds_toArray, List.set_cons_zero, List.set_cons_succ]
      apply wpAnyH_take (i := 4)
      · simp only [List.getElem?_toArray]; rfl
      · kernel_rfl
      · kernel_rfl
      · kernel_rfl
      · exact fun _ _ _ h => h
      · exact Or.inl ⟨by rfl, by intro w hSw; go_simp; try with_reducible rfl⟩
      · assumption
      try simp only [Act.put, List.setIfInBounds_toArray, List.set_cons_zero, List.set_cons_succ]
      apply wpAnyH_take (i := 5)
      · simp only [List.getElem?_toArray]; rfl
      · kernel_rfl
      · kernel_rfl
      · kernel_rfl
      · exact fun _ _ _ h => h
      · exact Or.inl ⟨by rfl, by intro w hSw; go_simp; try with_reducible rfl⟩
      · assumption
      try simp only [Act.put, List.setIfInBounds_toArray, List.set_cons_zero, List.set_cons_succ]
      apply wpAnyH_take (i := 6)
      · simp only [List.getElem?_toArray]; rfl
      · kernel_rfl
      · kernel_rfl
      · kernel_rfl
      · exact fun _ _ _ h => h
      · exact Or.inl ⟨by rfl, by intro w hSw; go_simp; try with_reducible rfl⟩
      · assumption
      try simp only [Act.put, List.setIfInBounds_toArray, List.set_cons_zero, List.set_cons_succ]
      apply wpAnyH_take (i := 7)
      · simp only [List.getElem?_toArray]; rfl
      · kernel_rfl
      · kernel_rfl
      · kernel_rfl
      · exact fun _ _ _ h => h
      · exact Or.inl ⟨by rfl, by intro w hSw; go_simp; try with_reducible rfl⟩
      · assumption
      try simp only [Act.put, List.setIfInBounds_toArray, List.set_cons_zero, List.set_cons_succ]
      apply wpAnyH_ready (rs := [10])
      · kernel_rfl
      · simp
      apply AllReadyH.cons (hs := AllReadyH.nil)
      · simp only [List.getElem?_toArray]; rfl
      intro K hK
      rw [if_pos (by rfl)]
      refine wp_putS (g := qa) (z := zv) rfl rfl rfl HBa4.out HOV.out ?_
      intro W5 h5 k5
      have HA5 := Lib.hid h5
      have HK5 := Lib.hid (HK4.out.trans k5 (fun p hp => .inr (by simp at hp; have := HGa.out; omega)))
      have HB5 := Lib.hid (k5.heap HBb4.out (by simp; have := HAB.out; omega))
      have HZ5 := Lib.hid (R.keep HZv4.out k5 (fun p hp hq => by simp at hq; exact HPva.out p hp hq))
      clear h5 k5
      refine hK.out _ _ ?_ (fun hHeld => ?_)
      · exact (by rw [HSE.out]; exact HK5.out)
      clear hK K
      try simp only [Act.put, List.setIfInBounds_toArray, List.set_cons_zero, List.set_cons_succ]
      apply wpAnyH_ready (rs := [11])
      · kernel_rfl
      · simp
      apply AllReadyH.cons (hs := AllReadyH.nil)
      · simp only [List.getElem?_toArray]; rfl
      intro K hK
      rw [if_pos (by rfl)]
      refine wp_putNw (g := qb) (old := ⟨0, 0⟩) ⟨yk, yv⟩ rfl rfl rfl HB5.out ?_
      intro W6 h6 k6
      have HB6 := Lib.hid h6
      have HK6 := Lib.hid (HK5.out.trans k6 (fun p hp => .inr (by simp at hp; have := HGb.out; omega)))
      have HA6 := Lib.hid (k6.heap HA5.out (by simp; have := HAB.out; omega))
      have HZ6 := Lib.hid (R.keep HZ5.out k6 (fun p hp hq => by simp at hq; exact HPvb.out p hp hq))
      clear h6 k6
      refine hK.out _ _ ?_ (fun hHeld => ?_)
      · exact (by rw [HSE.out]; exact HK6.out)
      clear hK K
      try simp only [Act.put, List.setIfInBounds_toArray, List.set_cons_zero, List.set_cons_succ]
      apply wpAnyH_take (i := 12)
      · simp only [List.getElem?_toArray]; rfl
      · kernel_rfl
      · kernel_rfl
      · kernel_rfl
      · exact fun _ _ _ h => h
      · exact Or.inl ⟨by rfl, by intro w hSw; go_simp; try with_reducible rfl⟩
      · assumption
      try simp only [Act.put, List.setIfInBounds_toArray, List.set_cons_zero, List.set_cons_succ]
      refine wpAnyH_done (by kernel_rfl) ?_ _
      refine NoPanic.normal ?_
      exact ⟨rfl, qa, qb, zv, _, _, _, _, _, _, _, _, rfl, HA6.out, HB6.out, HZ6.out, HK6.out⟩
    apply AllReadyH.cons (hs := AllReadyH.nil)
    · simp only [List.getElem?_toArray]; rfl
    intro K hK
    rw [if_pos (by rfl)]
    refine wp_allocA _ _ _ _ rfl ?_
    have hk : Keeps [] Y0 (Y0.alloc (.cells (ansC ⟨0, 0⟩).toArray 31)) := (Keeps.refl _ _).alloc _
    have hb := heap_alloc_new Y0 (.cells (ansC ⟨0, 0⟩).toArray 31)
    have hl : Y0.heap.size < (Y0.alloc (.cells (ansC ⟨0, 0⟩).toArray 31)).heap.size := by rw [show (Y0.alloc (.cells (ansC ⟨0, 0⟩).toArray 31)).heap.size = Y0.heap.size + 1 from Array.size_push _]; omega
    have HGb := Lib.hid HK0.out.size
    generalize Y0.alloc (.cells (ansC ⟨0, 0⟩).toArray 31) = Y1 at *
    have HBb1 := Lib.hid hb; have HLb1 := Lib.hid hl
    have HK1 := Lib.hid (HK0.out.trans hk (FSub.refl _ _))
    clear hb hl hk
    generalize Y0.heap.size = qb at *
    refine hK.out _ _ ?_ (fun hHeld => ?_)
    · exact (by rw [HSE.out]; exact HK1.out)
    clear hK K
    try simp only [Act.put, List.setIfInBounds_toArray, List.set_cons_zero, List.set_cons_succ]
    apply wpAnyH_ready (rs := [1, 8])
    · kernel_rfl
    · simp
    apply AllReadyH.cons
    · simp only [List.getElem?_toArray]; rfl
    · intro K hK
      rw [if_pos (by rfl)]
      refine wp_call10 11 _ _ rfl [.slice a1 l.length c1] rfl Tryd.func11 (by kernel_rfl) (by kernel_rfl) ((R.of Y1 N _ l (R.keepG HG.out (HKS.out.trans HK1.out (FSub.refl _ _))) (HL.out.new (HKS.out.trans HK1.out (FSub.refl _ _)) hN) (Nat.le_trans hN (HKS.out.trans HK1.out (FSub.refl _ _)).size) (by omega)).mono ?_)
      rintro e Y2 ⟨st, rfl, hz, hk, hf⟩
      obtain ⟨zu, rfl, ho⟩ := R.one hz
      clear ho
      refine ⟨_, rfl, ?_⟩
      have HK2 := Lib.hid (HK1.out.trans hk (FSub.refl _ _))
      have HBb2 := Lib.hid (hk.heap HBb1.out (by simp))
      have HLb2 := Lib.hid (Nat.lt_of_lt_of_le HLb1.out hk.size)
      have HZu2 := Lib.hid hz
      have HPub := Lib.hid (show ∀ p ∈ R.foot (.agg #[zu]), p ≠ qb from fun p hp e => by
        have := hf p hp; have := HLb1.out; omega)
      clear hz hf
      clear hk
      refine hK.out _ _ ?_ (fun hHeld => ?_)
      · exact (by rw [HSE.out]; exact HK2.out)
      clear hK K
      try simp only [Act.put, List.setIfInBounds_toArray, List.set_cons_zero, List.set_cons_succ]
      apply wpAnyH_ready (rs := [3, 8])
      · kernel_rfl
      · simp
      apply AllReadyH.cons
      · simp only [List.getElem?_toArray]; rfl
      · intro K hK
        rw [if_pos (by rfl)]
        refine wp_call10 12 _ _ rfl [.agg #[zu], .agg (opC x).toArray] rfl Tryd.func12 (by kernel_rfl) (by kernel_rfl) ((R.step Y2 _ l x (R.keepG HG.out (HKS.out.trans HK2.out (FSub.refl _ _))) HZu2.out (by omega) HX.out).mono ?_)
        rintro e Y3 ⟨st, rfl, hz, hk, hf⟩
        rw [HQ.out.1] at hz
        rw [HQ.out.2.1, HQ.out.2.2]
        obtain ⟨zv, rfl, ho⟩ := R.one hz
        have HOV := Lib.hid ho
        clear ho
        refine ⟨_, rfl, ?_⟩
        have HK3 := Lib.hid (HK2.out.trans hk (FSub.refl _ _))
        have HZu3 := Lib.hid (R.new_ HZu2.out hk)
        have HBb3 := Lib.hid (hk.heap HBb2.out (by simp))
        have HLb3 := Lib.hid (Nat.lt_of_lt_of_le HLb2.out hk.size)
        have HZv3 := Lib.hid hz
        have HPvb := Lib.hid (show ∀ p ∈ R.foot (.agg #[zv]), p ≠ qb from fun p hp e => by
          rcases hf p hp with h | h
          · exact HPub.out p h e
          · have := HLb2.out; omega)
        clear hz hf
        clear hk
        refine hK.out _ _ ?_ (fun hHeld => ?_)
        · exact (by rw [HSE.out]; exact HK3.out)
        clear hK K
        try simp only [Act.put, List.setIfInBounds_toArray, List.set_cons_zero, List.set_cons_succ]
        apply wpAnyH_take (i := 4)
        · simp only [List.getElem?_toArray]; rfl
        · kernel_rfl
        · kernel_rfl
        · kernel_rfl
        · exact fun _ _ _ h => h
        · exact Or.inl ⟨by rfl, by intro w hSw; go_simp; try with_reducible rfl⟩
        · assumption
        try simp only [Act.put, List.setIfInBounds_toArray, List.set_cons_zero, List.set_cons_succ]
        apply wpAnyH_take (i := 5)
        · simp only [List.getElem?_toArray]; rfl
        · kernel_rfl
        · kernel_rfl
        · kernel_rfl
        · exact fun _ _ _ h => h
        · exact Or.inl ⟨by rfl, by intro w hSw; go_simp; try with_reducible rfl⟩
        · assumption
        try simp only [Act.put, List.setIfInBounds_toArray, List.set_cons_zero, List.set_cons_succ]
        apply wpAnyH_take (i := 6)
        · simp only [List.getElem?_toArray]; rfl
        · kernel_rfl
        · kernel_rfl
        · kernel_rfl
        · exact fun _ _ _ h => h
        · exact Or.inl ⟨by rfl, by intro w hSw; go_simp; try with_reducible rfl⟩
        · assumption
        try simp only [Act.put, List.setIfInBounds_toArray, List.set_cons_zero, List.set_cons_succ]
        apply wpAnyH_take (i := 7)
        · simp only [List.getElem?_toArray]; rfl
        · kernel_rfl
        · kernel_rfl
        · kernel_rfl
        · exact fun _ _ _ h => h
        · exact Or.inl ⟨by rfl, by intro w hSw; go_simp; try with_reducible rfl⟩
        · assumption
        try simp only [Act.put, List.setIfInBounds_toArray, List.set_cons_zero, List.set_cons_succ]
        apply wpAnyH_ready (rs := [8])
        · kernel_rfl
        · simp
        apply AllReadyH.cons (hs := AllReadyH.nil)
        · simp only [List.getElem?_toArray]; rfl
        intro K hK
        rw [if_pos (by rfl)]
        refine wp_allocS _ _ _ _ rfl ?_
        have hk : Keeps [] Y3 (Y3.alloc (.cells #[.slice none 0 0] 28)) := (Keeps.refl _ _).alloc _
        have hb := heap_alloc_new Y3 (.cells #[.slice none 0 0] 28)
        have hl : Y3.heap.size < (Y3.alloc (.cells #[.slice none 0 0] 28)).heap.size := by rw [show (Y3.alloc (.cells #[.slice none 0 0] 28)).heap.size = Y3.heap.size + 1 from Array.size_push _]; omega
        have HPua := Lib.hid (fun p hp => (Nat.ne_of_lt (R.old HZu3.out p hp) : p ≠ Y3.heap.size))
        have HPva := Lib.hid (fun p hp => (Nat.ne_of_lt (R.old HZv3.out p hp) : p ≠ Y3.heap.size))
        have HAB := Lib.hid (Nat.ne_of_lt HLb3.out)
        have HGa := Lib.hid HK3.out.size
        generalize Y3.alloc (.cells #[.slice none 0 0] 28) = Y4 at *
        have HBa4 := Lib.hid hb; have HLa4 := Lib.hid hl
        have HK4 := Lib.hid (HK3.out.trans hk (FSub.refl _ _))
        have HZu4 := Lib.hid (R.new_ HZu3.out hk)
        have HZv4 := Lib.hid (R.new_ HZv3.out hk)
        have HBb4 := Lib.hid (hk.heap HBb3.out (by simp))
        have HLb4 := Lib.hid (Nat.lt_of_lt_of_le HLb3.out hk.size)
        clear hb hl hk
        generalize Y3.heap.size = qa at *
        refine hK.out _ _ ?_ (fun hHeld => ?_)
        · exact (by rw [HSE.out]; exact HK4.out)
        clear hK K
        try simp only [Act.put, List.setIfInBounds_toArray, List.set_cons_zero, List.set_cons_succ]
        apply wpAnyH_ready (rs := [10])
        · kernel_rfl
        · simp
        apply AllReadyH.cons (hs := AllReadyH.nil)
        · simp only [List.getElem?_toArray]; rfl
        intro K hK
        rw [if_pos (by rfl)]
        refine wp_putS (g := qa) (z := zv) rfl rfl rfl HBa4.out HOV.out ?_
        intro W5 h5 k5
        have HA5 := Lib.hid h5
        have HK5 := Lib.hid (HK4.out.trans k5 (fun p hp => .inr (by simp at hp; have := HGa.out; omega)))
        have HB5 := Lib.hid (k5.heap HBb4.out (by simp; have := HAB.out; omega))
        have HZ5 := Lib.hid (R.keep HZv4.out k5 (fun p hp hq => by simp at hq; exact HPva.out p hp hq))
        clear h5 k5
        refine hK.out _ _ ?_ (fun hHeld => ?_)
        · exact (by rw [HSE.out]; exact HK5.out)
        clear hK K
        try simp only [Act.put, List.setIfInBounds_toArray, List.set_cons_zero, List.set_cons_succ]
        apply wpAnyH_ready (rs := [11])
        · kernel_rfl
        · simp
        apply AllReadyH.cons (hs := AllReadyH.nil)
        · simp only [List.getElem?_toArray]; rfl
        intro K hK
        rw [if_pos (by rfl)]
        refine wp_putNw (g := qb) (old := ⟨0, 0⟩) ⟨yk, yv⟩ rfl rfl rfl HB5.out ?_
        intro W6 h6 k6
        have HB6 := Lib.hid h6
        have HK6 := Lib.hid (HK5.out.trans k6 (fun p hp => .inr (by simp at hp; have := HGb.out; omega)))
        have HA6 := Lib.hid (k6.heap HA5.out (by simp; have := HAB.out; omega))
        have HZ6 := Lib.hid (R.keep HZ5.out k6 (fun p hp hq => by simp at hq; exact HPvb.out p hp hq))
        clear h6 k6
        refine hK.out _ _ ?_ (fun hHeld => ?_)
        · exact (by rw [HSE.out]; exact HK6.out)
        clear hK K
        try simp only [Act.put, List.setIfInBounds_toArray, List.set_cons_zero, List.set_cons_succ]
        apply wpAnyH_take (i := 12)
        · simp only [List.getElem?_toArray]; rfl
        · kernel_rfl
        · kernel_rfl
        · kernel_rfl
        · exact fun _ _ _ h => h
        · exact Or.inl ⟨by rfl, by intro w hSw; go_simp; try with_reducible rfl⟩
        · assumption
        try simp only [Act.put, List.setIfInBounds_toArray, List.set_cons_zero, List.set_cons_succ]
        refine wpAnyH_done (by kernel_rfl) ?_ _
        refine NoPanic.normal ?_
        exact ⟨rfl, qa, qb, zv, _, _, _, _, _, _, _, _, rfl, HA6.out, HB6.out, HZ6.out, HK6.out⟩
      apply AllReadyH.cons (hs := AllReadyH.nil)
      · simp only [List.getElem?_toArray]; rfl
      intro K hK
      rw [if_pos (by rfl)]
      refine wp_allocS _ _ _ _ rfl ?_
      have hk : Keeps [] Y2 (Y2.alloc (.cells #[.slice none 0 0] 28)) := (Keeps.refl _ _).alloc _
      have hb := heap_alloc_new Y2 (.cells #[.slice none 0 0] 28)
      have hl : Y2.heap.size < (Y2.alloc (.cells #[.slice none 0 0] 28)).heap.size := by rw [show (Y2.alloc (.cells #[.slice none 0 0] 28)).heap.size = Y2.heap.size + 1 from Array.size_push _]; omega
      have HPua := Lib.hid (fun p hp => (Nat.ne_of_lt (R.old HZu2.out p hp) : p ≠ Y2.heap.size))
      have HAB := Lib.hid (Nat.ne_of_lt HLb2.out)
      have HGa := Lib.hid HK2.out.size
      generalize Y2.alloc (.cells #[.slice none 0 0] 28) = Y3 at *
      have HBa3 := Lib.hid hb; have HLa3 := Lib.hid hl
      have HK3 := Lib.hid (HK2.out.trans hk (FSub.refl _ _))
      have HZu3 := Lib.hid (R.new_ HZu2.out hk)
      have HBb3 := Lib.hid (hk.heap HBb2.out (by simp))
      have HLb3 := Lib.hid (Nat.lt_of_lt_of_le HLb2.out hk.size)
      clear hb hl hk
      generalize Y2.heap.size = qa at *
      refine hK.out _ _ ?_ (fun hHeld => ?_)
      · exact (by rw [HSE.out]; exact HK3.out)
      clear hK K
      try simp only [Act.put, List.setIfInBounds_toArray, List.set_cons_zero, List.set_cons_succ]
      apply wpAnyH_ready (rs := [3])
      · kernel_rfl
      · simp
      apply AllReadyH.cons (hs := AllReadyH.nil)
      · simp only [List.getElem?_toArray]; rfl
      intro K hK
      rw [if_pos (by rfl)]
      refine wp_call10 12 _ _ rfl [.agg #[zu], .agg (opC x).toArray] rfl Tryd.func12 (by kernel_rfl) (by kernel_rfl) ((R.step Y3 _ l x (R.keepG HG.out (HKS.out.trans HK3.out (FSub.refl _ _))) HZu3.out (by omega) HX.out).mono ?_)
      rintro e Y4 ⟨st, rfl, hz, hk, hf⟩
      rw [HQ.out.1] at hz
      rw [HQ.out.2.1, HQ.out.2.2]
      obtain ⟨zv, rfl, ho⟩ := R.one hz
      have HOV := Lib.hid ho
      clear ho
      refine ⟨_, rfl, ?_⟩
      have HK4 := Lib.hid (HK3.out.trans hk (FSub.refl _ _))
      have HZu4 := Lib.hid (R.new_ HZu3.out hk)
      have HBb4 := Lib.hid (hk.heap HBb3.out (by simp))
      have HLb4 := Lib.hid (Nat.lt_of_lt_of_le HLb3.out hk.size)
      have HBa4 := Lib.hid (hk.heap HBa3.out (by simp))
      have HLa4 := Lib.hid (Nat.lt_of_lt_of_le HLa3.out hk.size)
      have HZv4 := Lib.hid hz
      have HPvb := Lib.hid (show ∀ p ∈ R.foot (.agg #[zv]), p ≠ qb from fun p hp e => by
        rcases hf p hp with h | h
        · exact HPub.out p h e
        · have := HLb3.out; omega)
      have HPva := Lib.hid (show ∀ p ∈ R.foot (.agg #[zv]), p ≠ qa from fun p hp e => by
        rcases hf p hp with h | h
        · exact HPua.out p h e
        · have := HLa3.out; omega)
      clear hz hf
      clear hk
      refine hK.out _ _ ?_ (fun hHeld => ?_)
      · exact (by rw [HSE.out]; exact HK4.out)
      clear hK K
      try simp only [Act.put, List.setIfInBounds_toArray, List.set_cons_zero, List.set_cons_succ]
      apply wpAnyH_take (i := 4)
      · simp only [List.getElem?_toArray]; rfl
      · kernel_rfl
      · kernel_rfl
      · kernel_rfl
      · exact fun _ _ _ h => h
      · exact Or.inl ⟨by rfl, by intro w hSw; go_simp; try with_reducible rfl⟩
      · assumption
      try simp only [Act.put, List.setIfInBounds_toArray, List.set_cons_zero, List.set_cons_succ]
      apply wpAnyH_take (i := 5)
      · simp only [List.getElem?_toArray]; rfl
      · kernel_rfl
      · kernel_rfl
      · kernel_rfl
      · exact fun _ _ _ h => h
      · exact Or.inl ⟨by rfl, by intro w hSw; go_simp; try with_reducible rfl⟩
      · assumption
      try simp only [Act.put, List.setIfInBounds_toArray, List.set_cons_zero, List.set_cons_succ]
      apply wpAnyH_take (i := 6)
      · simp only [List.getElem?_toArray]; rfl
      · kernel_rfl
      · kernel_rfl
      · kernel_rfl
      · exact fun _ _ _ h => h
      · exact Or.inl ⟨by rfl, by intro w hSw; go_simp; try with_reducible rfl⟩
      · assumption
      try simp only [Act.put, List.setIfInBounds_toArray, List.set_cons_zero, List.set_cons_succ]
      apply wpAnyH_take (i := 7)
      · simp only [List.getElem?_toArray]; rfl
      · kernel_rfl
      · kernel_rfl
      · kernel_rfl
      · exact fun _ _ _ h => h
      · exact Or.inl ⟨by rfl, by intro w hSw; go_simp; try with_reducible rfl⟩
      · assumption
      try simp only [Act.put, List.setIfInBounds_toArray, List.set_cons_zero, List.set_cons_succ]
      apply wpAnyH_ready (rs := [10])
      · kernel_rfl
      · simp
      apply AllReadyH.cons (hs := AllReadyH.nil)
      · simp only [List.getElem?_toArray]; rfl
      intro K hK
      rw [if_pos (by rfl)]
      refine wp_putS (g := qa) (z := zv) rfl rfl rfl HBa4.out HOV.out ?_
      intro W5 h5 k5
      have HA5 := Lib.hid h5
      have HK5 := Lib.hid (HK4.out.trans k5 (fun p hp => .inr (by simp at hp; have := HGa.out; omega)))
      have HB5 := Lib.hid (k5.heap HBb4.out (by simp; have := HAB.out; omega))
      have HZ5 := Lib.hid (R.keep HZv4.out k5 (fun p hp hq => by simp at hq; exact HPva.out p hp hq))
      clear h5 k5
      refine hK.out _ _ ?_ (fun hHeld => ?_)
      · exact (by rw [HSE.out]; exact HK5.out)
      clear hK K
      try simp only [Act.put, List.setIfInBounds_toArray, List.set_cons_zero, List.set_cons_succ]
      apply wpAnyH_ready (rs := [11])
      · kernel_rfl
      · simp
      apply AllReadyH.cons (hs := AllReadyH.nil)
      · simp only [List.getElem?_toArray]; rfl
      intro K hK
      rw [if_pos (by rfl)]
      refine wp_putNw (g := qb) (old := ⟨0, 0⟩) ⟨yk, yv⟩ rfl rfl rfl HB5.out ?_
      intro W6 h6 k6
      have HB6 := Lib.hid h6
      have HK6 := Lib.hid (HK5.out.trans k6 (fun p hp => .inr (by simp at hp; have := HGb.out; omega)))
      have HA6 := Lib.hid (k6.heap HA5.out (by simp; have := HAB.out; omega))
      have HZ6 := Lib.hid (R.keep HZ5.out k6 (fun p hp hq => by simp at hq; exact HPvb.out p hp hq))
      clear h6 k6
      refine hK.out _ _ ?_ (fun hHeld => ?_)
      · exact (by rw [HSE.out]; exact HK6.out)
      clear hK K
      try simp only [Act.put, List.setIfInBounds_toArray, List.set_cons_zero, List.set_cons_succ]
      apply wpAnyH_take (i := 12)
      · simp only [List.getElem?_toArray]; rfl
      · kernel_rfl
      · kernel_rfl
      · kernel_rfl
      · exact fun _ _ _ h => h
      · exact Or.inl ⟨by rfl, by intro w hSw; go_simp; try with_reducible rfl⟩
      · assumption
      try simp only [Act.put, List.setIfInBounds_toArray, List.set_cons_zero, List.set_cons_succ]
      refine wpAnyH_done (by kernel_rfl) ?_ _
      refine NoPanic.normal ?_
      exact ⟨rfl, qa, qb, zv, _, _, _, _, _, _, _, _, rfl, HA6.out, HB6.out, HZ6.out, HK6.out⟩
    apply AllReadyH.cons (hs := AllReadyH.nil)
    · simp only [List.getElem?_toArray]; rfl
    intro K hK
    rw [if_pos (by rfl)]
    refine wp_allocS _ _ _ _ rfl ?_
    have hk : Keeps [] Y1 (Y1.alloc (.cells #[.slice none 0 0] 28)) := (Keeps.refl _ _).alloc _
    have hb := heap_alloc_new Y1 (.cells #[.slice none 0 0] 28)
    have hl : Y1.heap.size < (Y1.alloc (.cells #[.slice none 0 0] 28)).heap.size := by rw [show (Y1.alloc (.cells #[.slice none 0 0] 28)).heap.size = Y1.heap.size + 1 from Array.size_push _]; omega
    have HAB := Lib.hid (Nat.ne_of_lt HLb1.out)
    have HGa := Lib.hid HK1.out.size
    generalize Y1.alloc (.cells #[.slice none 0 0] 28) = Y2 at *
    have HBa2 := Lib.hid hb; have HLa2 := Lib.hid hl
    have HK2 := Lib.hid (HK1.out.trans hk (FSub.refl _ _))
    have HBb2 := Lib.hid (hk.heap HBb1.out (by simp))
    have HLb2 := Lib.hid (Nat.lt_of_lt_of_le HLb1.out hk.size)
    clear hb hl hk
    generalize Y1.heap.size = qa at *
    refine hK.out _ _ ?_ (fun hHeld => ?_)
    · exact (by rw [HSE.out]; exact HK2.out)
    clear hK K
    try simp only [Act.put, List.setIfInBounds_toArray, List.set_cons_zero, List.set_cons_succ]
    apply wpAnyH_ready (rs := [1])
    · kernel_rfl
    · simp
    apply AllReadyH.cons (hs := AllReadyH.nil)
    · simp only [List.getElem?_toArray]; rfl
    intro K hK
    rw [if_pos (by rfl)]
    refine wp_call10 11 _ _ rfl [.slice a1 l.length c1] rfl Tryd.func11 (by kernel_rfl) (by kernel_rfl) ((R.of Y2 N _ l (R.keepG HG.out (HKS.out.trans HK2.out (FSub.refl _ _))) (HL.out.new (HKS.out.trans HK2.out (FSub.refl _ _)) hN) (Nat.le_trans hN (HKS.out.trans HK2.out (FSub.refl _ _)).size) (by omega)).mono ?_)
    rintro e Y3 ⟨st, rfl, hz, hk, hf⟩
    obtain ⟨zu, rfl, ho⟩ := R.one hz
    clear ho
    refine ⟨_, rfl, ?_⟩
    have HK3 := Lib.hid (HK2.out.trans hk (FSub.refl _ _))
    have HBb3 := Lib.hid (hk.heap HBb2.out (by simp))
    have HLb3 := Lib.hid (Nat.lt_of_lt_of_le HLb2.out hk.size)
    have HBa3 := Lib.hid (hk.heap HBa2.out (by simp))
    have HLa3 := Lib.hid (Nat.lt_of_lt_of_le HLa2.out hk.size)
    have HZu3 := Lib.hid hz
    have HPub := Lib.hid (show ∀ p ∈ R.foot (.agg #[zu]), p ≠ qb from fun p hp e => by
      have := hf p hp; have := HLb2.out; omega)
    have HPua := Lib.hid (show ∀ p ∈ R.foot (.agg #[zu]), p ≠ qa from fun p hp e => by
      have := hf p hp; have := HLa2.out; omega)
    clear hz hf
    clear hk
    refine hK.out _ _ ?_ (fun hHeld => ?_)
    · exact (by rw [HSE.out]; exact HK3.out)
    clear hK K
    try simp only [Act.put, List.setIfInBounds_toArray, List.set_cons_zero, List.set_cons_succ]
    apply wpAnyH_ready (rs := [3])
    · kernel_rfl
    · simp
    apply AllReadyH.cons (hs := AllReadyH.nil)
    · simp only [List.getElem?_toArray]; rfl
    intro K hK
    rw [if_pos (by rfl)]
    refine wp_call10 12 _ _ rfl [.agg #[zu], .agg (opC x).toArray] rfl Tryd.func12 (by kernel_rfl) (by kernel_rfl) ((R.step Y3 _ l x (R.keepG HG.out (HKS.out.trans HK3.out (FSub.refl _ _))) HZu3.out (by omega) HX.out).mono ?_)
    rintro e Y4 ⟨st, rfl, hz, hk, hf⟩
    rw [HQ.out.1] at hz
    rw [HQ.out.2.1, HQ.out.2.2]
    obtain ⟨zv, rfl, ho⟩ := R.one hz
    have HOV := Lib.hid ho
    clear ho
    refine ⟨_, rfl, ?_⟩
    have HK4 := Lib.hid (HK3.out.trans hk (FSub.refl _ _))
    have HZu4 := Lib.hid (R.new_ HZu3.out hk)
    have HBb4 := Lib.hid (hk.heap HBb3.out (by simp))
    have HLb4 := Lib.hid (Nat.lt_of_lt_of_le HLb3.out hk.size)
    have HBa4 := Lib.hid (hk.heap HBa3.out (by simp))
    have HLa4 := Lib.hid (Nat.lt_of_lt_of_le HLa3.out hk.size)
    have HZv4 := Lib.hid hz
    have HPvb := Lib.hid (show ∀ p ∈ R.foot (.agg #[zv]), p ≠ qb from fun p hp e => by
      rcases hf p hp with h | h
      · exact HPub.out p h e
      · have := HLb3.out; omega)
    have HPva := Lib.hid (show ∀ p ∈ R.foot (.agg #[zv]), p ≠ qa from fun p hp e => by
      rcases hf p hp with h | h
      · exact HPua.out p h e
      · have := HLa3.out; omega)
    clear hz hf
    clear hk
    refine hK.out _ _ ?_ (fun hHeld => ?_)
    · exact (by rw [HSE.out]; exact HK4.out)
    clear hK K
    try simp only [Act.put, List.setIfInBounds_toArray, List.set_cons_zero, List.set_cons_succ]
    apply wpAnyH_take (i := 4)
    · simp only [List.getElem?_toArray]; rfl
    · kernel_rfl
    · kernel_rfl
    · kernel_rfl
    · exact fun _ _ _ h => h
    · exact Or.inl ⟨by rfl, by intro w hSw; go_simp; try with_reducible rfl⟩
    · assumption
    try simp only [Act.put, List.setIfInBounds_toArray, List.set_cons_zero, List.set_cons_succ]
    apply wpAnyH_take (i := 5)
    · simp only [List.getElem?_toArray]; rfl
    · kernel_rfl
    · kernel_rfl
    · kernel_rfl
    · exact fun _ _ _ h => h
    · exact Or.inl ⟨by rfl, by intro w hSw; go_simp; try with_reducible rfl⟩
    · assumption
    try simp only [Act.put, List.setIfInBounds_toArray, List.set_cons_zero, List.set_cons_succ]
    apply wpAnyH_take (i := 6)
    · simp only [List.getElem?_toArray]; rfl
    · kernel_rfl
    · kernel_rfl
    · kernel_rfl
    · exact fun _ _ _ h => h
    · exact Or.inl ⟨by rfl, by intro w hSw; go_simp; try with_reducible rfl⟩
    · assumption
    try simp only [Act.put, List.setIfInBounds_toArray, List.set_cons_zero, List.set_cons_succ]
    apply wpAnyH_take (i := 7)
    · simp only [List.getElem?_toArray]; rfl
    · kernel_rfl
    · kernel_rfl
    · kernel_rfl
    · exact fun _ _ _ h => h
    · exact Or.inl ⟨by rfl, by intro w hSw; go_simp; try with_reducible rfl⟩
    · assumption
    try simp only [Act.put, List.setIfInBounds_toArray, List.set_cons_zero, List.set_cons_succ]
    apply wpAnyH_ready (rs := [10])
    · kernel_rfl
    · simp
    apply AllReadyH.cons (hs := AllReadyH.nil)
    · simp only [List.getElem?_toArray]; rfl
    intro K hK
    rw [if_pos (by rfl)]
    refine wp_putS (g := qa) (z := zv) rfl rfl rfl HBa4.out HOV.out ?_
    intro W5 h5 k5
    have HA5 := Lib.hid h5
    have HK5 := Lib.hid (HK4.out.trans k5 (fun p hp => .inr (by simp at hp; have := HGa.out; omega)))
    have HB5 := Lib.hid (k5.heap HBb4.out (by simp; have := HAB.out; omega))
    have HZ5 := Lib.hid (R.keep HZv4.out k5 (fun p hp hq => by simp at hq; exact HPva.out p hp hq))
    clear h5 k5
    refine hK.out _ _ ?_ (fun hHeld => ?_)
    · exact (by rw [HSE.out]; exact HK5.out)
    clear hK K
    try simp only [Act.put, List.setIfInBounds_toArray, List.set_cons_zero, List.set_cons_succ]
    apply wpAnyH_ready (rs := [11])
    · kernel_rfl
    · simp
    apply AllReadyH.cons (hs := AllReadyH.nil)
    · simp only [List.getElem?_toArray]; rfl
    intro K hK
    rw [if_pos (by rfl)]
    refine wp_putNw (g := qb) (old := ⟨0, 0⟩) ⟨yk, yv⟩ rfl rfl rfl HB5.out ?_
    intro W6 h6 k6
    have HB6 := Lib.hid h6
    have HK6 := Lib.hid (HK5.out.trans k6 (fun p hp => .inr (by simp at hp; have := HGb.out; omega)))
    have HA6 := Lib.hid (k6.heap HA5.out (by simp; have := HAB.out; omega))
    have HZ6 := Lib.hid (R.keep HZ5.out k6 (fun p hp hq => by simp at hq; exact HPvb.out p hp hq))
    clear h6 k6
    refine hK.out _ _ ?_ (fun hHeld => ?_)
    · exact (by rw [HSE.out]; exact HK6.out)
    clear hK K
    try simp only [Act.put, List.setIfInBounds_toArray, List.set_cons_zero, List.set_cons_succ]
    apply wpAnyH_take (i := 12)
    · simp only [List.getElem?_toArray]; rfl
    · kernel_rfl
    · kernel_rfl
    · kernel_rfl
    · exact fun _ _ _ h => h
    · exact Or.inl ⟨by rfl, by intro w hSw; go_simp; try with_reducible rfl⟩
    · assumption
    try simp only [Act.put, List.setIfInBounds_toArray, List.set_cons_zero, List.set_cons_succ]
    refine wpAnyH_done (by kernel_rfl) ?_ _
    refine NoPanic.normal ?_
    exact ⟨rfl, qa, qb, zv, _, _, _, _, _, _, _, _, rfl, HA6.out, HB6.out, HZ6.out, HK6.out⟩
  · rintro e a' W7 ⟨rfl, qa, qb, zv, u1, u2, u3, u4, u5, u6, u7, u8, rfl, hA7, hB7, hZ7, hK7⟩
    have HKF := Lib.hid (HKS.out.trans hK7 (FSub.refl _ _))
    have HZ := Lib.hid hZ7
    have cA : W7.cell? ⟨qa, 0, none⟩ = some zv := cell_lit hA7 0 rfl
    have cB0 : W7.cell? ⟨qb, 0, none⟩ = some (.int .u8 yk) := cell_lit hB7 0 rfl
    have cB1 : W7.cell? ⟨qb, 1, none⟩ = some (.int .u16 yv) := cell_lit hB7 1 rfl
    have cA0 : W7.cell? ⟨B + 1, 0, none⟩ = some (.int .u8 yk) := cell_lit (hK7.heap HA.out (by simp)) 0 rfl
    have cA1 : W7.cell? ⟨B + 1, 1, none⟩ = some (.int .u16 yv) := cell_lit (hK7.heap HA.out (by simp)) 1 rfl
    have t1 : (yk == yk) = true := by simp
    have t2 : (yv == yv) = true := by simp
    clear hA7 hB7 hZ7 hK7 HSE hSD HS0 hd0 HO HA hB
    go_wp2_with fail
    refine (has10_any R W7 (R.keepG HG.out HKF.out) HZ.out (by have h := quX_len l x; rw [HQ.out.1] at h; omega) (HM.out.new HKF.out hM) (Nat.le_trans hM HKF.out.size)).mono ?_
    rintro e w8 ⟨rfl, hk8⟩
    have HK8 := Lib.hid (HKF.out.trans hk8 (FSub.refl _ _))
    clear hk8
    rw [decide_eq_true (rfl : m = m)]
    go_wp2_with fail
    go_ret
    exact ⟨rfl, HK8.out⟩
end Go.Proofs.YtaicampenpkneaaDoor
/-
  The law's works, over any queue.
-/
namespace Go.Proofs.YtaicampenpkneaaDoor
open Go.RowKit
variable {G : World → Prop}
theorem U16.nil (w : World) : rkU.In 0 w (.slice none 0 0) [] := ⟨none, 0, rfl, Nat.le_refl _, by decide, fun h => absurd rfl h⟩
theorem U16.lit {w : World} {b n : Nat} {L : List Int} (hb : w.heap[b]? = some (.cells (L.map (Value.int .u16)).toArray 23 (0, 0))) (hn : n = L.length) (hm : L.length ≤ 1000) : rkU.In (b + 1) w (.slice (some ⟨b, 0, none⟩) n n) L := by
  subst hn
  refine ⟨_, _, rfl, Nat.le_refl _, by omega, fun _ => ⟨b, 0, rfl, by omega, fun j hj i u hi => ?_⟩⟩
  have h0 : i = 0 ∧ u = .int .u16 L[j] := by
    cases i with
    | zero => exact ⟨rfl, by simpa [rkU, u16C] using hi.symm⟩
    | succ i => simp [rkU, u16C] at hi
  obtain ⟨rfl, rfl⟩ := h0
  rw [show 0 + j * rkU.s + 0 = j from by show 0 + j * 1 + 0 = j; omega]
  exact cell_lit hb j (by simp [hj])
set_option maxHeartbeats 8000000
set_option maxRecDepth 100000
theorem enq_in (a : Int) (h : 0 ≤ a ∧ a < 65536) : (⟨4, 0, 0, a, 0⟩ : Opn).In := by
  obtain ⟨h0, h1⟩ := h
  constructor <;> simp <;> omega
theorem deq_in : (⟨5, 0, 0, 0, 0⟩ : Opn).In := ⟨by decide, by decide, by decide, by decide, by decide, by decide, by decide, by decide, by decide, by decide⟩
theorem works10_any (R : QuProg G) (w : World) (hG : G w) : Calls Tryd.prog 10 #[] w fun e w' => e = .returned (.bool true) ∧ Keeps [] w w' := by
  have HG := Lib.hid hG
  clear hG
  go_enter Tryd.func10, Tryd.ntmps10
  go_wp2_with fail
  refine (enq10_any w 5).mono ?_; rintro e w1 ⟨rfl, hk1⟩
  have HK1 := Lib.hid (show Keeps [] w (w1.alloc (.cells #[.int .u16 5] 23)) from hk1.alloc _)
  have HI1 := Lib.hid (U16.lit (L := [5]) (n := 1) (heap_alloc_new w1 (.cells #[.int .u16 5] 23)) rfl (by decide))
  have HZ1 := Lib.hid (show w1.heap.size + 1 ≤ (w1.alloc (.cells #[.int .u16 5] 23)).heap.size from Nat.le_of_eq (Array.size_push _).symm)
  clear hk1
  go_wp2_with fail
  refine (steps10_any R _ (R.keepG HG.out HK1.out) (l := []) (m := [5]) (U16.nil _) (Nat.zero_le _) (by decide) ⟨4, 0, 0, 5, 0⟩ (enq_in 5 (by decide)) ⟨0, 0⟩ HI1.out HZ1.out ⟨by decide, by decide, by decide⟩).mono ?_
  rintro e w2 ⟨rfl, hk2⟩
  have HK2 := Lib.hid (show Keeps [] w (w2.alloc (.cells #[.int .u16 5, .int .u16 7] 23)) from (HK1.out.trans hk2 (FSub.refl _ _)).alloc _)
  have HI2 := Lib.hid (U16.lit (L := [5, 7]) (n := 2) (heap_alloc_new w2 (.cells #[.int .u16 5, .int .u16 7] 23)) rfl (by decide))
  have HZ2 := Lib.hid (show w2.heap.size + 1 ≤ (w2.alloc (.cells #[.int .u16 5, .int .u16 7] 23)).heap.size from Nat.le_of_eq (Array.size_push _).symm)
  clear hk2 HK1 HI1 HZ1
  go_wp2_with fail
  refine (deq10_any _).mono ?_; rintro e w3 ⟨rfl, hk3⟩
  have hka : Keeps [] w3 (w3.alloc (.cells #[.int .u16 7] 23)) := (Keeps.refl _ _).alloc _
  have HK3 := Lib.hid ((HK2.out.trans hk3 (FSub.refl _ _)).trans hka (FSub.refl _ _))
  have HI3 := Lib.hid ((HI2.out.new hk3 HZ2.out).new hka (Nat.le_trans HZ2.out hk3.size))
  have HZ3 := Lib.hid (Nat.le_trans (Nat.le_trans HZ2.out hk3.size) hka.size)
  have HJ3 := Lib.hid (U16.lit (L := [7]) (n := 1) (heap_alloc_new w3 (.cells #[.int .u16 7] 23)) rfl (by decide))
  have HY3 := Lib.hid (show w3.heap.size + 1 ≤ (w3.alloc (.cells #[.int .u16 7] 23)).heap.size from Nat.le_of_eq (Array.size_push _).symm)
  clear hk3 hka HK2 HI2 HZ2
  generalize w2.heap.size = b2 at *
  go_wp2_with fail
  refine (steps10_any R _ (R.keepG HG.out HK3.out) (l := [5, 7]) (m := [7]) HI3.out HZ3.out (by decide) ⟨5, 0, 0, 0, 0⟩ deq_in ⟨1, 5⟩ HJ3.out HY3.out ⟨by decide, by decide, by decide⟩).mono ?_
  rintro e w4 ⟨rfl, hk4⟩
  have HK4 := Lib.hid (HK3.out.trans hk4 (FSub.refl _ _))
  clear hk4 HK3 HI3 HZ3 HJ3 HY3
  go_wp2_with fail
  refine (deq10_any _).mono ?_; rintro e w5 ⟨rfl, hk5⟩
  have HK5 := Lib.hid (HK4.out.trans hk5 (FSub.refl _ _))
  clear hk5 HK4
  go_wp2_with fail
  refine (steps10_any R _ (R.keepG HG.out HK5.out) (l := []) (m := []) (U16.nil _) (Nat.zero_le _) (by decide) ⟨5, 0, 0, 0, 0⟩ deq_in ⟨2, 0⟩ (U16.nil _) (Nat.zero_le _) ⟨by decide, by decide, by decide⟩).mono ?_
  rintro e w6 ⟨rfl, hk6⟩
  have HK6 := Lib.hid (HK5.out.trans hk6 (FSub.refl _ _))
  clear hk6 HK5
  go_wp2_with fail
  refine (R.new _ (R.keepG HG.out HK6.out)).mono ?_; rintro e w7 ⟨st, rfl, hz7, hk7, -⟩
  have HK7 := Lib.hid (HK6.out.trans hk7 (FSub.refl _ _))
  have HZ7 := Lib.hid hz7
  clear hk7 hz7 HK6
  go_wp2_with fail
  refine (has10_any R w7 (R.keepG HG.out HK7.out) HZ7.out (by decide) (U16.nil _) (Nat.zero_le _)).mono ?_; rintro e w8 ⟨rfl, hk8⟩
  have HK8 := Lib.hid (HK7.out.trans hk8 (FSub.refl _ _))
  clear hk8 HK7
  go_wp2_with fail
  go_ret
  exact ⟨rfl, HK8.out⟩
end Go.Proofs.YtaicampenpkneaaDoor
/-
  QueueSteps' walk, over any queue.
-/
namespace Go.Proofs.YtaicampenpkneaaDoor
open Go.RowKit
variable {G : World → Prop}
section
variable {ops : Array Oper} {rest : List Oper} {a : Act} {w : World} {Q : Exit → Act → World → Prop}
theorem wpList_loadX10 {dst : Option Tmp} {ty : TypeId} {pos : String} {after : Array Edge} {gd : Option (Nat × Bool)} {x : Operand} {g off : Nat} (y : Opn)
    (hw : Region.wanted { dst := dst, op := .load 25 x, type := ty, pos := pos, after := after, guard := gd } (yielded ops a.tmps) = true)
    (hx : a.eval x = .pointer (some ⟨g, off, none⟩)) (hr : w.rangeAt g off (opC y)) (h : wpList Tryd.prog ops Q rest (a.put dst (.agg #[.int .u8 y.f, .int .u8 y.o, .int .u8 y.k, .int .u16 y.a, .int .u16 y.b])) w) :
    wpList Tryd.prog ops Q ({ dst := dst, op := .load 25 x, type := ty, pos := pos, after := after, guard := gd } :: rest) a w :=
  wpList_loadO hw hx hr h
theorem wpList_putSt {dst : Option Tmp} {ty : TypeId} {pos : String} {after : Array Edge} {x y : Operand} {g : Nat} {old z : Value} {t : TypeId}
    (hx : a.eval x = .pointer (some ⟨g, 0, none⟩)) (hy : a.eval y = .agg #[z]) (hg : w.heap[g]? = some (.cells #[old] t (0, 0))) (h1 : z.oneCell' = true)
    (h : ∀ W, W.heap[g]? = some (.cells #[z] t (0, 0)) → Keeps [g] w W → wpList Tryd.prog ops Q rest (a.put dst undef) W) :
    wpList Tryd.prog ops Q ({ dst := dst, op := .store 28 x y, type := ty, pos := pos, after := after, guard := none } :: rest) a w :=
  wpList_plain rfl fun _ hK => wp_putS rfl hx hy hg h1 fun W h2 h3 => hK _ _ (h W h2 h3)
end
set_option maxHeartbeats 8000000
set_option maxRecDepth 100000
end Go.Proofs.YtaicampenpkneaaDoor
