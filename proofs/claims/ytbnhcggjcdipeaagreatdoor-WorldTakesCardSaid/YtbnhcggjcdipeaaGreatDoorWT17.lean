/-
  The program's queue: perform.
-/
import Derived.Test.YtbnhcggjcdipeaaGreatDoorWT00
import Derived.Test.YtbnhcggjcdipeaaGreatDoorWT16
set_option linter.unusedSimpArgs false
set_option linter.unusedVariables false
namespace Go.Proofs.YtbnhcggjcdipeaaGreatDoor
open Go.RowKit
theorem QF.one {base : Nat} {w : World} {v : Value} {l : List Int} (h : QF base w v l) : v.oneCell' = true := by
  obtain ⟨a, c, rfl, -⟩ := h.free
  rfl
theorem opChk_queue {x : Opn} (h : opChk 1 x = 0) : x.f = 4 ∨ x.f = 5 := by
  unfold opChk at h
  split at h
  · rename_i hh
    simp only [Bool.and_eq_true, beq_iff_eq] at hh
    have := hh.2
    unfold opM at this
    split at this
    · assumption
    · split at this
      · exact absurd this (by decide)
      · split at this
        · exact absurd this (by decide)
        · exact absurd this (by decide)
  · exact absurd h (by decide)
/-- Which step an operation takes. -/
def quKs (f : Int) : Nat := if f = 4 then 197 else 198
theorem quKs_func (f : Int) : ∃ fn, Tryz.prog.funcs[quKs f]? = some fn ∧ (fn.name == "runtime.NumGoroutine") = false ∧ fn.body.isNone = false := by
  unfold quKs
  split
  · exact ⟨_, Tryz.func197, by kernel_rfl, by kernel_rfl⟩
  · exact ⟨_, Tryz.func198, by kernel_rfl, by kernel_rfl⟩
theorem quAct_any (w : World) {base : Nat} (hb : base ≤ w.heap.size) {v : Value} {l : List Int} (h : QF base w v l) (hl : l.length ≤ 1000000) (x : Opn) (hx : opChk 1 x = 0) :
    Calls Tryz.prog (quKs x.f) #[.agg #[v], x.val] w (StPost base w v (quX l x).1 (quX l x).2.1) := by
  unfold quKs
  by_cases hf : x.f = 4
  · rw [if_pos hf, quX_enq hx hf]
    exact quEnq_any w hb h hl x
  · rw [if_neg hf]
    cases l with
    | nil =>
      rw [quX_none hx hf]
      rw [h.in_.2 rfl]
      exact quDeq_none w base x
    | cons y r =>
      rw [quX_deq hx hf]
      by_cases hr : r = []
      · subst hr
        exact quDeq_one w h x
      · exact quDeq_more w h hr (by simp at hl; omega) x
theorem index_steps {f : Int} (h : f = 4 ∨ f = 5) (w : World) : (Instr.index 283 (.agg stepsC) (.int .u8 f)).run Tryz.prog w = .ok (fnV (quKs f)) w := by
  rcases h with rfl | rfl
  · kernel_rfl
  · kernel_rfl
section
variable {ops : Array Oper} {S : World → Prop} {o : Oper} {a : Act} {w : World} {K : Act → World → Prop} {Q : Exit → Act → World → Prop}
theorem yields_idxS (hw : Region.wanted o (yielded ops a.tmps) = true) (x y : Operand) (ho : o.op = .index 283 x y) {f : Int} (hx : a.eval x = .agg stepsC) (hy : a.eval y = .int .u8 f) (hf : f = 4 ∨ f = 5) : YieldsIf Tryz.prog ops S o (fnV (quKs f)) a :=
  Or.inl ⟨hw, by
    intro w _
    unfold execOp
    have h := index_steps hf w
    simp only [ho, hx, hy, Sem.run_bind]
    simp [h, Result.andThen]⟩
theorem yields_loadQ (hw : Region.wanted o (yielded ops a.tmps) = true) (x : Operand) (ho : o.op = .load 184 x) (g : Nat) (hx : a.eval x = .pointer (some ⟨g, 0, none⟩)) (z : Value) (hS : ∀ w, S w → w.cell? ⟨g, 0, none⟩ = some z) : YieldsIf Tryz.prog ops S o (.agg #[z]) a :=
  yieldsIf_load_mid (P := Tryz.prog) hw 184 x ho g 0 hx [z] _ (fun w h j u hj => by
    match j, hj with
    | 0, hj => simp at hj; subst hj; simpa using hS w h
    | j + 1, hj => simp at hj) Tryz.underlying184 rfl (by kernel_rfl)
theorem run_allocQ (w : World) : (Instr.alloc 184 true (.tuple #[])).run Tryz.prog w = .ok (.pointer (some ⟨w.heap.size, 0, none⟩)) (w.alloc (.cells #[.slice none 0 0] 184)) := by kernel_rfl
theorem wp_allocQ (o : Oper) (a : Act) (w : World) (K : Act → World → Prop) (ho : o.op = .alloc 184) (h : K (a.put o.dst (.pointer (some ⟨w.heap.size, 0, none⟩))) (w.alloc (.cells #[.slice none 0 0] 184))) : o.wp Tryz.prog a w K Q := by
  unfold Oper.wp execOp
  simp only [ho, Sem.run_bind, run_allocQ, Result.andThen_ok, Sem.run_pure]
  exact h
theorem run_allocN (w : World) : (Instr.alloc 25 true (.tuple #[])).run Tryz.prog w = .ok (.pointer (some ⟨w.heap.size, 0, none⟩)) (w.alloc (.cells (ansC ⟨0, 0⟩).toArray 25)) := by kernel_rfl
theorem wp_allocN (o : Oper) (a : Act) (w : World) (K : Act → World → Prop) (ho : o.op = .alloc 25) (h : K (a.put o.dst (.pointer (some ⟨w.heap.size, 0, none⟩))) (w.alloc (.cells (ansC ⟨0, 0⟩).toArray 25))) : o.wp Tryz.prog a w K Q := by
  unfold Oper.wp execOp
  simp only [ho, Sem.run_bind, run_allocN, Result.andThen_ok, Sem.run_pure]
  exact h
end
/-- What perform tells. -/
def PfPost (base : Nat) (w : World) (v : Value) (l : List Int) (x : Opn) (e : Ending) (w' : World) : Prop :=
  ∃ v', e = .returned (.tuple #[.agg #[v'], .agg (ansC (quX l x).2.1).toArray, .int .i64 (quX l x).2.2]) ∧ QF base w' v' (quX l x).1 ∧ Keeps (frees base v) w w' ∧ FSub (own v') (own v) w.heap.size ∧ ((quX l x).2.2 ≠ 0 → v' = v)
set_option maxHeartbeats 8000000
set_option maxRecDepth 100000
theorem perform_any (w : World) (hG : Glob4 w) {base : Nat} (hb : base ≤ w.heap.size) {v : Value} {l : List Int} (h : QF base w v l) (hl : l.length ≤ 1000000) (x : Opn) (hx : x.In) :
    Calls Tryz.prog 148 #[.agg #[v], x.val] w (PfPost base w v l x) := by
  have hone := h.one
  obtain ⟨W, hW⟩ : ∃ W, W = (((w.alloc (.cells #[v] 184)).alloc (.cells #[.int .u8 x.f, .int .u8 x.o, .int .u8 x.k, .int .u16 x.a, .int .u16 x.b] 47)).alloc (.cells #[.slice none 0 0] 184)).alloc (.cells (ansC ⟨0, 0⟩).toArray 25) := ⟨_, rfl⟩
  have HF4 := Lib.hid (vars_q w v _ W _ _ hW)
  have HCHK := Lib.hid (fun w hG => Check4_any w hG 1 x.f x.o x.k x.a x.b (by decide) (by decide) hx)
  have HGL := Lib.hid hG
  have HRR := Lib.hid (show w.heap.size = w.heap.size from rfl)
  simp only [show (ansC ⟨0, 0⟩).toArray = #[Value.int .u8 0, .int .u16 0] from rfl] at hW
  have HWW := Lib.hid hW
  have HQ := Lib.hid h
  have HV := Lib.hid h.in_.old
  have HBS := Lib.hid hb
  have HLL := Lib.hid hl
  clear hb hW hG h hl hx HRR
  unfold Opn.val
  go_enter Tryz.func148, Tryz.ntmps148
  go_wp2_with fail
  refine (HCHK.out _ (HGL.out.new (by rw [← HWW.out]; exact HF4.out.1))).mono ?_; rintro e w1 ⟨rfl, hk1⟩
  rw [← HWW.out] at hk1
  obtain ⟨R, hR⟩ : ∃ R, R = w.heap.size := ⟨_, rfl⟩
  obtain ⟨hk0, h0, h1, h2, h3, hz⟩ := HF4.out
  have hbs := HBS.out; have hv := HV.out
  have HRL := Lib.hid (show w.heap.size ≤ R from Nat.le_of_eq hR.symm)
  rw [← hR] at h0 h1 h2 h3 hz hbs hv ⊢
  have HQ1 := Lib.hid ((HQ.out.keeps hk0 (by simp)).keeps hk1 (by simp))
  have HKW := Lib.hid (hk0.trans hk1 (FSub.refl _ _))
  have H0 := Lib.hid (hk1.heap h0 (by simp)); have H1 := Lib.hid (hk1.heap h1 (by simp)); have H2 := Lib.hid (hk1.heap h2 (by simp)); have H3 := Lib.hid (hk1.heap h3 (by simp))
  have HSZ := Lib.hid (show R + 4 ≤ w1.heap.size from by have := hk1.size; omega)
  clear HBS HV
  have HBS := Lib.hid hbs; have HV := Lib.hid hv
  have HFR := Lib.hid (show ∀ q ∈ frees base v, q < R from fun q hq => hv q (mem_frees.1 hq).1)
  have HONE := Lib.hid hone
  clear hone hR hk0 h0 h1 h2 h3 hz hbs hv hk1 HWW HF4 HCHK HGL
  rw [show (⟨x.f, x.o, x.k, x.a, x.b⟩ : Opn) = x from rfl]
  rcases opChk_or 1 x with hck | hck
  · rw [hck]
    have HCK := Lib.hid hck; have HF := Lib.hid (opChk_queue hck)
    clear hck
    have hone := HONE.out
    obtain ⟨m, hm⟩ : ∃ m, m = (quX l x).1 := ⟨_, rfl⟩
    obtain ⟨y, hy⟩ : ∃ y, y = (quX l x).2.1 := ⟨_, rfl⟩
    have HACT := Lib.hid (fun (Y : World) (hb : base ≤ Y.heap.size) (hq : QF base Y v l) => show Calls Tryz.prog (quKs x.f) #[.agg #[v], x.val] Y (StPost base Y v m y) from by rw [hm, hy]; exact quAct_any Y hb hq HLL.out x HCK.out)
    have HM := Lib.hid hm; have HY := Lib.hid hy; have HE := Lib.hid (show (quX l x).2.2 = 0 from by rw [quX_err]; exact HCK.out)
    clear hm hy
    go_wp2_with fail
    obtain ⟨S, hS⟩ : ∃ S : World → Prop, S = fun y => Keeps (frees base v) w1 y := ⟨_, rfl⟩
    have HSE := Lib.hid hS
    have hSD : S w1.drew := by rw [hS]; exact (Keeps.refl _ _).drew
    have HS0 := Lib.hid (fun (w' : World) (h : S w') => show w'.cell? ⟨R, 0, none⟩ = some v from by rw [hS] at h; exact h.cell (cell_lit H0.out 0 rfl) (fun hq => by have := HFR.out _ hq; exact absurd this (Nat.lt_irrefl _)))
    have HS1 := Lib.hid (fun (w' : World) (h : S w') => show w'.rangeAt (R + 1) 0 (opC x) from by
      rw [hS] at h
      intro j v hv
      rw [Nat.zero_add]
      exact h.cell (cell_lit H1.out j (by simpa [opC] using hv)) (fun hq => by have := HFR.out _ hq; simp at this; omega))
    have HS2 := Lib.hid (fun (w' : World) (h : S w') => show w'.cell? ⟨R + 1, 0, none⟩ = some (.int .u8 x.f) from by rw [hS] at h; exact h.cell (cell_lit H1.out 0 rfl) (fun hq => by have := HFR.out _ hq; simp at this; omega))
    have hd0 : Keeps [] w1 w1.drew := (Keeps.refl _ _).drew
    clear hS hone
    refine Code.wp_mono (Q := fun e a' w' => e = .normal ∧ ∃ (qa qb : Nat) (v2 u1 u2 u3 u4 u5 u6 u7 u8 u9 u10 : Value), a' = { tmps := #[.agg #[v], .agg #[.int .u8 x.f, .int .u8 x.o, .int .u8 x.k, .int .u16 x.a, .int .u16 x.b], .pointer (some ⟨R, 0, none⟩), .pointer (some ⟨R + 1, 0, none⟩), .pointer (some ⟨R + 1 + 1, 0, none⟩), .pointer (some ⟨R + 1 + 1 + 1, 0, none⟩), .int .i64 0, .int .i64 0, .pointer (some ⟨qa, 0, none⟩), .pointer (some ⟨qb, 0, none⟩), .agg #[.int .u8 x.f, .int .u8 x.o, .int .u8 x.k, .int .u16 x.a, .int .u16 x.b], .int .i64 0, .int .i64 0, .bool false, undef, undef, undef, u1, u2, u3, u4, u5, u6, u7, u8, u9, u10, undef, undef], defers := [] } ∧
      w'.heap[qa]? = some (Obj.cells #[v2] 184 (0, 0)) ∧ w'.heap[qb]? = some (Obj.cells (ansC y).toArray 25 (0, 0)) ∧ R + 4 ≤ qa ∧ R + 4 ≤ qb ∧ (∀ q ∈ own v2, q ∈ own v ∨ R + 4 ≤ q) ∧ QF base w' v2 m ∧ Keeps (frees base v) w1 w') ?_ ?_
    rotate_left
    ·
      refine wp_region_noPanic ?_
      refine wp_region_held_drew (S := S) (by kernel_rfl) hSD (fun hHeld => ?_)
      generalize w1.drew = Y0 at *
      have HQ0 := Lib.hid (HQ1.out.keeps hd0 (by simp))
      have HK0 := Lib.hid hd0
      clear hd0
      apply wpAnyH_take (i := 1)
      · simp only [List.getElem?_toArray]; rfl
      iterate 3 (· kernel_rfl)
      · exact fun _ _ _ h => h
      · exact Or.inl ⟨by rfl, by intro w hSw; go_simp; try with_reducible rfl⟩
      · assumption
      try simp only [Act.put, lsA, lsZ, lsS]
      apply wpAnyH_take (i := 2)
      · simp only [List.getElem?_toArray]; rfl
      iterate 3 (· kernel_rfl)
      · exact fun _ _ _ h => h
      · exact Or.inl ⟨by rfl, by intro w hSw; have q0 := HS2.out w hSw; go_simp; try with_reducible rfl⟩
      · assumption
      try simp only [Act.put, lsA, lsZ, lsS]
      apply wpAnyH_take (i := 4)
      · simp only [List.getElem?_toArray]; rfl
      iterate 3 (· kernel_rfl)
      · exact fun _ _ _ h => h
      · exact yields_loadQ (by rfl) (.tmp 2) rfl R rfl v HS0.out
      · assumption
      try simp only [Act.put, lsA, lsZ, lsS]
      apply wpAnyH_take (i := 5)
      · simp only [List.getElem?_toArray]; rfl
      iterate 3 (· kernel_rfl)
      · exact fun _ _ _ h => h
      · exact yields_opC (by rfl) _ rfl (R + 1) 0 rfl x HS1.out
      · assumption
      try simp only [Act.put, lsA, lsZ, lsS]
      apply wpAnyH_ready (rs := [0, 10, 11])
      · kernel_rfl
      · simp
      apply AllReadyH.cons
      · simp only [List.getElem?_toArray]; rfl
      · intro K hK
        rw [if_pos (by rfl)]
        refine wp_call9 181 _ _ rfl [] rfl Tryz.func181 (by kernel_rfl) (by kernel_rfl) ((quSteps_any Y0).mono ?_)
        rintro e Y1 ⟨rfl, hk⟩
        refine ⟨_, rfl, ?_⟩
        have HK1 := Lib.hid (HK0.out.trans hk (FSub.refl _ _))
        have HQ1 := Lib.hid (HQ0.out.keeps hk (by simp))
        clear hk
        refine hK.out _ _ ?_ (fun hHeld => ?_)
        · exact (by rw [HSE.out]; exact HK1.out.more (by simp))
        clear hK K
        try simp only [Act.put, lsA, lsZ, lsS]
        apply wpAnyH_take (i := 3)
        · simp only [List.getElem?_toArray]; rfl
        iterate 3 (· kernel_rfl)
        · exact fun _ _ _ h => h
        · exact yields_idxS (by rfl) (.tmp 18) (.tmp 20) rfl rfl rfl HF.out
        · assumption
        try simp only [Act.put, lsA, lsZ, lsS]
        apply wpAnyH_ready (rs := [6, 10, 11])
        · kernel_rfl
        · simp
        apply AllReadyH.cons
        · simp only [List.getElem?_toArray]; rfl
        · intro K hK
          rw [if_pos (by rfl)]
          refine wp_callV (k := quKs x.f) _ _ _ rfl rfl [.agg #[v], x.val] rfl (quKs_func x.f) ((HACT.out Y1 (by have := HBS.out; have := HSZ.out; have := HK1.out.size; omega) HQ1.out).mono ?_)
          rintro e Y2 ⟨v2, rfl, hq, hk, hs⟩
          refine ⟨_, rfl, ?_⟩
          have HK2 := Lib.hid ((HK1.out.more (by simp)).trans hk (FSub.refl _ _))
          have HQ2 := Lib.hid hq
          have HOW := Lib.hid (show ∀ q ∈ own v2, q ∈ own v ∨ R + 4 ≤ q from fun q hq => (hs q hq).imp id (fun h => by have := HSZ.out; have := HK1.out.size; omega))
          clear hq hk hs
          refine hK.out _ _ ?_ (fun hHeld => ?_)
          · exact (by rw [HSE.out]; exact HK2.out)
          clear hK K
          try simp only [Act.put, lsA, lsZ, lsS]
          apply wpAnyH_take (i := 7)
          · simp only [List.getElem?_toArray]; rfl
          iterate 3 (· kernel_rfl)
          · exact fun _ _ _ h => h
          · exact Or.inl ⟨by rfl, by intro w hSw; go_simp; try with_reducible rfl⟩
          · assumption
          try simp only [Act.put, lsA, lsZ, lsS]
          apply wpAnyH_take (i := 8)
          · simp only [List.getElem?_toArray]; rfl
          iterate 3 (· kernel_rfl)
          · exact fun _ _ _ h => h
          · exact Or.inl ⟨by rfl, by intro w hSw; go_simp; try with_reducible rfl⟩
          · assumption
          try simp only [Act.put, lsA, lsZ, lsS]
          apply wpAnyH_take (i := 9)
          · simp only [List.getElem?_toArray]; rfl
          iterate 3 (· kernel_rfl)
          · exact fun _ _ _ h => h
          · exact Or.inl ⟨by rfl, by intro w hSw; go_simp; try with_reducible rfl⟩
          · assumption
          try simp only [Act.put, lsA, lsZ, lsS]
          apply wpAnyH_ready (rs := [10, 11])
          · kernel_rfl
          · simp
          apply AllReadyH.cons
          · simp only [List.getElem?_toArray]; rfl
          · intro K hK
            rw [if_pos (by rfl)]
            refine wp_allocQ _ _ _ _ rfl ?_
            have hk : Keeps [] Y2 (Y2.alloc (.cells #[.slice none 0 0] 184)) := (Keeps.refl _ _).alloc _
            have hb := heap_alloc_new Y2 (.cells #[.slice none 0 0] 184)
            have hz : (Y2.alloc (.cells #[.slice none 0 0] 184)).heap.size = Y2.heap.size + 1 := Array.size_push _
            obtain ⟨qa, hqa⟩ : ∃ q, q = Y2.heap.size := ⟨_, rfl⟩
            rw [← hqa] at hb hz ⊢
            generalize Y2.alloc (.cells #[.slice none 0 0] 184) = Y3 at *
            have HK3 := Lib.hid (HK2.out.trans hk (fun q hq => by simp at hq))
            have HQ3 := Lib.hid (HQ2.out.keeps hk (by simp))
            have HBa3 := Lib.hid hb
            have HLa3 := Lib.hid (show w1.heap.size ≤ qa ∧ qa < Y3.heap.size from ⟨by have := HK2.out.size; omega, by omega⟩)
            have HNa := Lib.hid (show ∀ q ∈ own v2, q ≠ qa from fun q hq => by have := HQ2.out.in_.old q hq; omega)
            clear hk hb hz hqa
            refine hK.out _ _ ?_ (fun hHeld => ?_)
            · exact (by rw [HSE.out]; exact HK3.out)
            clear hK K
            try simp only [Act.put, lsA, lsZ, lsS]
            apply wpAnyH_ready (rs := [11])
            · kernel_rfl
            · simp
            apply AllReadyH.cons (hs := AllReadyH.nil)
            · simp only [List.getElem?_toArray]; rfl
            intro K hK
            rw [if_pos (by rfl)]
            refine wp_allocN _ _ _ _ rfl ?_
            have hk : Keeps [] Y3 (Y3.alloc (.cells (ansC ⟨0, 0⟩).toArray 25)) := (Keeps.refl _ _).alloc _
            have hb := heap_alloc_new Y3 (.cells (ansC ⟨0, 0⟩).toArray 25)
            have hz : (Y3.alloc (.cells (ansC ⟨0, 0⟩).toArray 25)).heap.size = Y3.heap.size + 1 := Array.size_push _
            obtain ⟨qb, hqb⟩ : ∃ q, q = Y3.heap.size := ⟨_, rfl⟩
            rw [← hqb] at hb hz ⊢
            generalize Y3.alloc (.cells (ansC ⟨0, 0⟩).toArray 25) = Y4 at *
            have HK4 := Lib.hid (HK3.out.trans hk (fun q hq => by simp at hq))
            have HQ4 := Lib.hid (HQ3.out.keeps hk (by simp))
            have HBa4 := Lib.hid (hk.heap HBa3.out (by simp))
            have HLa4 := Lib.hid (show w1.heap.size ≤ qa ∧ qa < Y4.heap.size from ⟨HLa3.out.1, Nat.lt_of_lt_of_le HLa3.out.2 hk.size⟩)
            have HBb4 := Lib.hid hb
            have HLb4 := Lib.hid (show w1.heap.size ≤ qb ∧ qb < Y4.heap.size from ⟨by have := HK3.out.size; omega, by omega⟩)
            have HNE := Lib.hid (show qa ≠ qb from by have := HLa3.out; omega)
            have HNb := Lib.hid (show ∀ q ∈ own v2, q ≠ qb from fun q hq => by have := HQ3.out.in_.old q hq; omega)
            clear hk hb hz hqb
            refine hK.out _ _ ?_ (fun hHeld => ?_)
            · exact (by rw [HSE.out]; exact HK4.out)
            clear hK K
            try simp only [Act.put, lsA, lsZ, lsS]
            apply wpAnyH_ready (rs := [12])
            · kernel_rfl
            · simp
            apply AllReadyH.cons (hs := AllReadyH.nil)
            · simp only [List.getElem?_toArray]; rfl
            intro K hK
            rw [if_pos (by rfl)]
            refine wp_putQ rfl (g := qa) (old := .slice none 0 0) (z := v2) rfl rfl HBa4.out (QF.one HQ4.out) (fun W2 hW2 hk2 => ?_)
            have HW2 := Lib.hid hW2
            have HA2 := Lib.hid (hk2.heap HBb4.out (by have := HNE.out; simp; omega))
            have HK2 := Lib.hid (HK4.out.trans hk2 (fun q hq => .inr (by simp at hq; have := HLa4.out; have := HSZ.out; omega)))
            have HQ2 := Lib.hid (HQ4.out.keeps hk2 (fun q hq => by have := HNa.out q hq; simpa using this))
            clear hW2 hk2
            refine hK.out _ _ ?_ (fun hHeld => ?_)
            · exact (by rw [HSE.out]; exact HK2.out)
            clear hK K
            try simp only [Act.put, lsA, lsZ, lsS]
            apply wpAnyH_ready (rs := [13])
            · kernel_rfl
            · simp
            apply AllReadyH.cons (hs := AllReadyH.nil)
            · simp only [List.getElem?_toArray]; rfl
            intro K hK
            rw [if_pos (by rfl)]
            refine wp_putN rfl (g := qb) (old := ⟨0, 0⟩) y rfl rfl HA2.out (fun W3 hW3 hk3 => ?_)
            have HW3 := Lib.hid hW3
            have HS3 := Lib.hid (hk3.heap HW2.out (by have := HNE.out; simp; omega))
            have HK3 := Lib.hid (HK2.out.trans hk3 (fun q hq => .inr (by simp at hq; have := HLb4.out; have := HSZ.out; omega)))
            have HQ3 := Lib.hid (HQ2.out.keeps hk3 (fun q hq => by have := HNb.out q hq; simpa using this))
            clear hW3 hk3
            refine hK.out _ _ ?_ (fun hHeld => ?_)
            · exact (by rw [HSE.out]; exact HK3.out)
            clear hK K
            try simp only [Act.put, lsA, lsZ, lsS]
            refine wpAnyH_done (by kernel_rfl) ?_ _
            refine NoPanic.normal ?_
            exact ⟨rfl, qa, qb, v2, _, _, _, _, _, _, _, _, _, _, rfl, HS3.out, HW3.out, Nat.le_trans HSZ.out HLa4.out.1, Nat.le_trans HSZ.out HLb4.out.1, HOW.out, HQ3.out, HK3.out⟩
          apply AllReadyH.cons (hs := AllReadyH.nil)
          · simp only [List.getElem?_toArray]; rfl
          intro K hK
          rw [if_pos (by rfl)]
          refine wp_allocN _ _ _ _ rfl ?_
          have hk : Keeps [] Y2 (Y2.alloc (.cells (ansC ⟨0, 0⟩).toArray 25)) := (Keeps.refl _ _).alloc _
          have hb := heap_alloc_new Y2 (.cells (ansC ⟨0, 0⟩).toArray 25)
          have hz : (Y2.alloc (.cells (ansC ⟨0, 0⟩).toArray 25)).heap.size = Y2.heap.size + 1 := Array.size_push _
          obtain ⟨qb, hqb⟩ : ∃ q, q = Y2.heap.size := ⟨_, rfl⟩
          rw [← hqb] at hb hz ⊢
          generalize Y2.alloc (.cells (ansC ⟨0, 0⟩).toArray 25) = Y3 at *
          have HK3 := Lib.hid (HK2.out.trans hk (fun q hq => by simp at hq))
          have HQ3 := Lib.hid (HQ2.out.keeps hk (by simp))
          have HBb3 := Lib.hid hb
          have HLb3 := Lib.hid (show w1.heap.size ≤ qb ∧ qb < Y3.heap.size from ⟨by have := HK2.out.size; omega, by omega⟩)
          have HNb := Lib.hid (show ∀ q ∈ own v2, q ≠ qb from fun q hq => by have := HQ2.out.in_.old q hq; omega)
          clear hk hb hz hqb
          refine hK.out _ _ ?_ (fun hHeld => ?_)
          · exact (by rw [HSE.out]; exact HK3.out)
          clear hK K
          try simp only [Act.put, lsA, lsZ, lsS]
          apply wpAnyH_ready (rs := [10])
          · kernel_rfl
          · simp
          apply AllReadyH.cons (hs := AllReadyH.nil)
          · simp only [List.getElem?_toArray]; rfl
          intro K hK
          rw [if_pos (by rfl)]
          refine wp_allocQ _ _ _ _ rfl ?_
          have hk : Keeps [] Y3 (Y3.alloc (.cells #[.slice none 0 0] 184)) := (Keeps.refl _ _).alloc _
          have hb := heap_alloc_new Y3 (.cells #[.slice none 0 0] 184)
          have hz : (Y3.alloc (.cells #[.slice none 0 0] 184)).heap.size = Y3.heap.size + 1 := Array.size_push _
          obtain ⟨qa, hqa⟩ : ∃ q, q = Y3.heap.size := ⟨_, rfl⟩
          rw [← hqa] at hb hz ⊢
          generalize Y3.alloc (.cells #[.slice none 0 0] 184) = Y4 at *
          have HK4 := Lib.hid (HK3.out.trans hk (fun q hq => by simp at hq))
          have HQ4 := Lib.hid (HQ3.out.keeps hk (by simp))
          have HBb4 := Lib.hid (hk.heap HBb3.out (by simp))
          have HLb4 := Lib.hid (show w1.heap.size ≤ qb ∧ qb < Y4.heap.size from ⟨HLb3.out.1, Nat.lt_of_lt_of_le HLb3.out.2 hk.size⟩)
          have HBa4 := Lib.hid hb
          have HLa4 := Lib.hid (show w1.heap.size ≤ qa ∧ qa < Y4.heap.size from ⟨by have := HK3.out.size; omega, by omega⟩)
          have HNE := Lib.hid (show qa ≠ qb from by have := HLb3.out; omega)
          have HNa := Lib.hid (show ∀ q ∈ own v2, q ≠ qa from fun q hq => by have := HQ3.out.in_.old q hq; omega)
          clear hk hb hz hqa
          refine hK.out _ _ ?_ (fun hHeld => ?_)
          · exact (by rw [HSE.out]; exact HK4.out)
          clear hK K
          try simp only [Act.put, lsA, lsZ, lsS]
          apply wpAnyH_ready (rs := [12])
          · kernel_rfl
          · simp
          apply AllReadyH.cons (hs := AllReadyH.nil)
          · simp only [List.getElem?_toArray]; rfl
          intro K hK
          rw [if_pos (by rfl)]
          refine wp_putQ rfl (g := qa) (old := .slice none 0 0) (z := v2) rfl rfl HBa4.out (QF.one HQ4.out) (fun W2 hW2 hk2 => ?_)
          have HW2 := Lib.hid hW2
          have HA2 := Lib.hid (hk2.heap HBb4.out (by have := HNE.out; simp; omega))
          have HK2 := Lib.hid (HK4.out.trans hk2 (fun q hq => .inr (by simp at hq; have := HLa4.out; have := HSZ.out; omega)))
          have HQ2 := Lib.hid (HQ4.out.keeps hk2 (fun q hq => by have := HNa.out q hq; simpa using this))
          clear hW2 hk2
          refine hK.out _ _ ?_ (fun hHeld => ?_)
          · exact (by rw [HSE.out]; exact HK2.out)
          clear hK K
          try simp only [Act.put, lsA, lsZ, lsS]
          apply wpAnyH_ready (rs := [13])
          · kernel_rfl
          · simp
          apply AllReadyH.cons (hs := AllReadyH.nil)
          · simp only [List.getElem?_toArray]; rfl
          intro K hK
          rw [if_pos (by rfl)]
          refine wp_putN rfl (g := qb) (old := ⟨0, 0⟩) y rfl rfl HA2.out (fun W3 hW3 hk3 => ?_)
          have HW3 := Lib.hid hW3
          have HS3 := Lib.hid (hk3.heap HW2.out (by have := HNE.out; simp; omega))
          have HK3 := Lib.hid (HK2.out.trans hk3 (fun q hq => .inr (by simp at hq; have := HLb4.out; have := HSZ.out; omega)))
          have HQ3 := Lib.hid (HQ2.out.keeps hk3 (fun q hq => by have := HNb.out q hq; simpa using this))
          clear hW3 hk3
          refine hK.out _ _ ?_ (fun hHeld => ?_)
          · exact (by rw [HSE.out]; exact HK3.out)
          clear hK K
          try simp only [Act.put, lsA, lsZ, lsS]
          refine wpAnyH_done (by kernel_rfl) ?_ _
          refine NoPanic.normal ?_
          exact ⟨rfl, qa, qb, v2, _, _, _, _, _, _, _, _, _, _, rfl, HS3.out, HW3.out, Nat.le_trans HSZ.out HLa4.out.1, Nat.le_trans HSZ.out HLb4.out.1, HOW.out, HQ3.out, HK3.out⟩
        apply AllReadyH.cons
        · simp only [List.getElem?_toArray]; rfl
        · intro K hK
          rw [if_pos (by rfl)]
          refine wp_allocQ _ _ _ _ rfl ?_
          have hk : Keeps [] Y1 (Y1.alloc (.cells #[.slice none 0 0] 184)) := (Keeps.refl _ _).alloc _
          have hb := heap_alloc_new Y1 (.cells #[.slice none 0 0] 184)
          have hz : (Y1.alloc (.cells #[.slice none 0 0] 184)).heap.size = Y1.heap.size + 1 := Array.size_push _
          obtain ⟨qa, hqa⟩ : ∃ q, q = Y1.heap.size := ⟨_, rfl⟩
          rw [← hqa] at hb hz ⊢
          generalize Y1.alloc (.cells #[.slice none 0 0] 184) = Y2 at *
          have HK2 := Lib.hid (HK1.out.trans hk (FSub.refl _ _))
          have HQ2 := Lib.hid (HQ1.out.keeps hk (by simp))
          have HBa2 := Lib.hid hb
          have HLa2 := Lib.hid (show w1.heap.size ≤ qa ∧ qa < Y2.heap.size from ⟨by have := HK1.out.size; omega, by omega⟩)
          clear hk hb hz hqa
          refine hK.out _ _ ?_ (fun hHeld => ?_)
          · exact (by rw [HSE.out]; exact HK2.out.more (by simp))
          clear hK K
          try simp only [Act.put, lsA, lsZ, lsS]
          apply wpAnyH_ready (rs := [6, 11])
          · kernel_rfl
          · simp
          apply AllReadyH.cons
          · simp only [List.getElem?_toArray]; rfl
          · intro K hK
            rw [if_pos (by rfl)]
            refine wp_callV (k := quKs x.f) _ _ _ rfl rfl [.agg #[v], x.val] rfl (quKs_func x.f) ((HACT.out Y2 (by have := HBS.out; have := HSZ.out; have := HK2.out.size; omega) HQ2.out).mono ?_)
            rintro e Y3 ⟨v2, rfl, hq, hk, hs⟩
            refine ⟨_, rfl, ?_⟩
            have HK3 := Lib.hid ((HK2.out.more (by simp)).trans hk (FSub.refl _ _))
            have HQ3 := Lib.hid hq
            have HOW := Lib.hid (show ∀ q ∈ own v2, q ∈ own v ∨ R + 4 ≤ q from fun q hq => (hs q hq).imp id (fun h => by have := HSZ.out; have := HK2.out.size; omega))
            have HBa3 := Lib.hid (hk.heap HBa2.out (fun hq => by have := HFR.out _ hq; have := HLa2.out; have := HSZ.out; omega))
            have HLa3 := Lib.hid (show w1.heap.size ≤ qa ∧ qa < Y3.heap.size from ⟨HLa2.out.1, Nat.lt_of_lt_of_le HLa2.out.2 hk.size⟩)
            have HNa := Lib.hid (show ∀ q ∈ own v2, q ≠ qa from fun q hq => by have := HLa2.out; have := HSZ.out; rcases hs q hq with h | h; (have := HV.out q h; omega); omega)
            clear hq hk hs
            refine hK.out _ _ ?_ (fun hHeld => ?_)
            · exact (by rw [HSE.out]; exact HK3.out)
            clear hK K
            try simp only [Act.put, lsA, lsZ, lsS]
            apply wpAnyH_take (i := 7)
            · simp only [List.getElem?_toArray]; rfl
            iterate 3 (· kernel_rfl)
            · exact fun _ _ _ h => h
            · exact Or.inl ⟨by rfl, by intro w hSw; go_simp; try with_reducible rfl⟩
            · assumption
            try simp only [Act.put, lsA, lsZ, lsS]
            apply wpAnyH_take (i := 8)
            · simp only [List.getElem?_toArray]; rfl
            iterate 3 (· kernel_rfl)
            · exact fun _ _ _ h => h
            · exact Or.inl ⟨by rfl, by intro w hSw; go_simp; try with_reducible rfl⟩
            · assumption
            try simp only [Act.put, lsA, lsZ, lsS]
            apply wpAnyH_take (i := 9)
            · simp only [List.getElem?_toArray]; rfl
            iterate 3 (· kernel_rfl)
            · exact fun _ _ _ h => h
            · exact Or.inl ⟨by rfl, by intro w hSw; go_simp; try with_reducible rfl⟩
            · assumption
            try simp only [Act.put, lsA, lsZ, lsS]
            apply wpAnyH_ready (rs := [11])
            · kernel_rfl
            · simp
            apply AllReadyH.cons (hs := AllReadyH.nil)
            · simp only [List.getElem?_toArray]; rfl
            intro K hK
            rw [if_pos (by rfl)]
            refine wp_allocN _ _ _ _ rfl ?_
            have hk : Keeps [] Y3 (Y3.alloc (.cells (ansC ⟨0, 0⟩).toArray 25)) := (Keeps.refl _ _).alloc _
            have hb := heap_alloc_new Y3 (.cells (ansC ⟨0, 0⟩).toArray 25)
            have hz : (Y3.alloc (.cells (ansC ⟨0, 0⟩).toArray 25)).heap.size = Y3.heap.size + 1 := Array.size_push _
            obtain ⟨qb, hqb⟩ : ∃ q, q = Y3.heap.size := ⟨_, rfl⟩
            rw [← hqb] at hb hz ⊢
            generalize Y3.alloc (.cells (ansC ⟨0, 0⟩).toArray 25) = Y4 at *
            have HK4 := Lib.hid (HK3.out.trans hk (fun q hq => by simp at hq))
            have HQ4 := Lib.hid (HQ3.out.keeps hk (by simp))
            have HBa4 := Lib.hid (hk.heap HBa3.out (by simp))
            have HLa4 := Lib.hid (show w1.heap.size ≤ qa ∧ qa < Y4.heap.size from ⟨HLa3.out.1, Nat.lt_of_lt_of_le HLa3.out.2 hk.size⟩)
            have HBb4 := Lib.hid hb
            have HLb4 := Lib.hid (show w1.heap.size ≤ qb ∧ qb < Y4.heap.size from ⟨by have := HK3.out.size; omega, by omega⟩)
            have HNE := Lib.hid (show qa ≠ qb from by have := HLa3.out; omega)
            have HNb := Lib.hid (show ∀ q ∈ own v2, q ≠ qb from fun q hq => by have := HQ3.out.in_.old q hq; omega)
            clear hk hb hz hqb
            refine hK.out _ _ ?_ (fun hHeld => ?_)
            · exact (by rw [HSE.out]; exact HK4.out)
            clear hK K
            try simp only [Act.put, lsA, lsZ, lsS]
            apply wpAnyH_ready (rs := [12])
            · kernel_rfl
            · simp
            apply AllReadyH.cons (hs := AllReadyH.nil)
            · simp only [List.getElem?_toArray]; rfl
            intro K hK
            rw [if_pos (by rfl)]
            refine wp_putQ rfl (g := qa) (old := .slice none 0 0) (z := v2) rfl rfl HBa4.out (QF.one HQ4.out) (fun W2 hW2 hk2 => ?_)
            have HW2 := Lib.hid hW2
            have HA2 := Lib.hid (hk2.heap HBb4.out (by have := HNE.out; simp; omega))
            have HK2 := Lib.hid (HK4.out.trans hk2 (fun q hq => .inr (by simp at hq; have := HLa4.out; have := HSZ.out; omega)))
            have HQ2 := Lib.hid (HQ4.out.keeps hk2 (fun q hq => by have := HNa.out q hq; simpa using this))
            clear hW2 hk2
            refine hK.out _ _ ?_ (fun hHeld => ?_)
            · exact (by rw [HSE.out]; exact HK2.out)
            clear hK K
            try simp only [Act.put, lsA, lsZ, lsS]
            apply wpAnyH_ready (rs := [13])
            · kernel_rfl
            · simp
            apply AllReadyH.cons (hs := AllReadyH.nil)
            · simp only [List.getElem?_toArray]; rfl
            intro K hK
            rw [if_pos (by rfl)]
            refine wp_putN rfl (g := qb) (old := ⟨0, 0⟩) y rfl rfl HA2.out (fun W3 hW3 hk3 => ?_)
            have HW3 := Lib.hid hW3
            have HS3 := Lib.hid (hk3.heap HW2.out (by have := HNE.out; simp; omega))
            have HK3 := Lib.hid (HK2.out.trans hk3 (fun q hq => .inr (by simp at hq; have := HLb4.out; have := HSZ.out; omega)))
            have HQ3 := Lib.hid (HQ2.out.keeps hk3 (fun q hq => by have := HNb.out q hq; simpa using this))
            clear hW3 hk3
            refine hK.out _ _ ?_ (fun hHeld => ?_)
            · exact (by rw [HSE.out]; exact HK3.out)
            clear hK K
            try simp only [Act.put, lsA, lsZ, lsS]
            refine wpAnyH_done (by kernel_rfl) ?_ _
            refine NoPanic.normal ?_
            exact ⟨rfl, qa, qb, v2, _, _, _, _, _, _, _, _, _, _, rfl, HS3.out, HW3.out, Nat.le_trans HSZ.out HLa4.out.1, Nat.le_trans HSZ.out HLb4.out.1, HOW.out, HQ3.out, HK3.out⟩
          apply AllReadyH.cons (hs := AllReadyH.nil)
          · simp only [List.getElem?_toArray]; rfl
          intro K hK
          rw [if_pos (by rfl)]
          refine wp_allocN _ _ _ _ rfl ?_
          have hk : Keeps [] Y2 (Y2.alloc (.cells (ansC ⟨0, 0⟩).toArray 25)) := (Keeps.refl _ _).alloc _
          have hb := heap_alloc_new Y2 (.cells (ansC ⟨0, 0⟩).toArray 25)
          have hz : (Y2.alloc (.cells (ansC ⟨0, 0⟩).toArray 25)).heap.size = Y2.heap.size + 1 := Array.size_push _
          obtain ⟨qb, hqb⟩ : ∃ q, q = Y2.heap.size := ⟨_, rfl⟩
          rw [← hqb] at hb hz ⊢
          generalize Y2.alloc (.cells (ansC ⟨0, 0⟩).toArray 25) = Y3 at *
          have HK3 := Lib.hid (HK2.out.trans hk (FSub.refl _ _))
          have HQ3 := Lib.hid (HQ2.out.keeps hk (by simp))
          have HBa3 := Lib.hid (hk.heap HBa2.out (by simp))
          have HLa3 := Lib.hid (show w1.heap.size ≤ qa ∧ qa < Y3.heap.size from ⟨HLa2.out.1, Nat.lt_of_lt_of_le HLa2.out.2 hk.size⟩)
          have HBb3 := Lib.hid hb
          have HLb3 := Lib.hid (show w1.heap.size ≤ qb ∧ qb < Y3.heap.size from ⟨by have := HK2.out.size; omega, by omega⟩)
          have HNE := Lib.hid (show qa ≠ qb from by have := HLa2.out; omega)
          clear hk hb hz hqb
          refine hK.out _ _ ?_ (fun hHeld => ?_)
          · exact (by rw [HSE.out]; exact HK3.out.more (by simp))
          clear hK K
          try simp only [Act.put, lsA, lsZ, lsS]
          apply wpAnyH_ready (rs := [6])
          · kernel_rfl
          · simp
          apply AllReadyH.cons (hs := AllReadyH.nil)
          · simp only [List.getElem?_toArray]; rfl
          intro K hK
          rw [if_pos (by rfl)]
          refine wp_callV (k := quKs x.f) _ _ _ rfl rfl [.agg #[v], x.val] rfl (quKs_func x.f) ((HACT.out Y3 (by have := HBS.out; have := HSZ.out; have := HK3.out.size; omega) HQ3.out).mono ?_)
          rintro e Y4 ⟨v2, rfl, hq, hk, hs⟩
          refine ⟨_, rfl, ?_⟩
          have HK4 := Lib.hid ((HK3.out.more (by simp)).trans hk (FSub.refl _ _))
          have HQ4 := Lib.hid hq
          have HOW := Lib.hid (show ∀ q ∈ own v2, q ∈ own v ∨ R + 4 ≤ q from fun q hq => (hs q hq).imp id (fun h => by have := HSZ.out; have := HK3.out.size; omega))
          have HBa4 := Lib.hid (hk.heap HBa3.out (fun hq => by have := HFR.out _ hq; have := HLa3.out; have := HSZ.out; omega))
          have HLa4 := Lib.hid (show w1.heap.size ≤ qa ∧ qa < Y4.heap.size from ⟨HLa3.out.1, Nat.lt_of_lt_of_le HLa3.out.2 hk.size⟩)
          have HNa := Lib.hid (show ∀ q ∈ own v2, q ≠ qa from fun q hq => by have := HLa3.out; have := HSZ.out; rcases hs q hq with h | h; (have := HV.out q h; omega); omega)
          have HBb4 := Lib.hid (hk.heap HBb3.out (fun hq => by have := HFR.out _ hq; have := HLb3.out; have := HSZ.out; omega))
          have HLb4 := Lib.hid (show w1.heap.size ≤ qb ∧ qb < Y4.heap.size from ⟨HLb3.out.1, Nat.lt_of_lt_of_le HLb3.out.2 hk.size⟩)
          have HNb := Lib.hid (show ∀ q ∈ own v2, q ≠ qb from fun q hq => by have := HLb3.out; have := HSZ.out; rcases hs q hq with h | h; (have := HV.out q h; omega); omega)
          clear hq hk hs
          refine hK.out _ _ ?_ (fun hHeld => ?_)
          · exact (by rw [HSE.out]; exact HK4.out)
          clear hK K
          try simp only [Act.put, lsA, lsZ, lsS]
          apply wpAnyH_take (i := 7)
          · simp only [List.getElem?_toArray]; rfl
          iterate 3 (· kernel_rfl)
          · exact fun _ _ _ h => h
          · exact Or.inl ⟨by rfl, by intro w hSw; go_simp; try with_reducible rfl⟩
          · assumption
          try simp only [Act.put, lsA, lsZ, lsS]
          apply wpAnyH_take (i := 8)
          · simp only [List.getElem?_toArray]; rfl
          iterate 3 (· kernel_rfl)
          · exact fun _ _ _ h => h
          · exact Or.inl ⟨by rfl, by intro w hSw; go_simp; try with_reducible rfl⟩
          · assumption
          try simp only [Act.put, lsA, lsZ, lsS]
          apply wpAnyH_take (i := 9)
          · simp only [List.getElem?_toArray]; rfl
          iterate 3 (· kernel_rfl)
          · exact fun _ _ _ h => h
          · exact Or.inl ⟨by rfl, by intro w hSw; go_simp; try with_reducible rfl⟩
          · assumption
          try simp only [Act.put, lsA, lsZ, lsS]
          apply wpAnyH_ready (rs := [12])
          · kernel_rfl
          · simp
          apply AllReadyH.cons (hs := AllReadyH.nil)
          · simp only [List.getElem?_toArray]; rfl
          intro K hK
          rw [if_pos (by rfl)]
          refine wp_putQ rfl (g := qa) (old := .slice none 0 0) (z := v2) rfl rfl HBa4.out (QF.one HQ4.out) (fun W2 hW2 hk2 => ?_)
          have HW2 := Lib.hid hW2
          have HA2 := Lib.hid (hk2.heap HBb4.out (by have := HNE.out; simp; omega))
          have HK2 := Lib.hid (HK4.out.trans hk2 (fun q hq => .inr (by simp at hq; have := HLa4.out; have := HSZ.out; omega)))
          have HQ2 := Lib.hid (HQ4.out.keeps hk2 (fun q hq => by have := HNa.out q hq; simpa using this))
          clear hW2 hk2
          refine hK.out _ _ ?_ (fun hHeld => ?_)
          · exact (by rw [HSE.out]; exact HK2.out)
          clear hK K
          try simp only [Act.put, lsA, lsZ, lsS]
          apply wpAnyH_ready (rs := [13])
          · kernel_rfl
          · simp
          apply AllReadyH.cons (hs := AllReadyH.nil)
          · simp only [List.getElem?_toArray]; rfl
          intro K hK
          rw [if_pos (by rfl)]
          refine wp_putN rfl (g := qb) (old := ⟨0, 0⟩) y rfl rfl HA2.out (fun W3 hW3 hk3 => ?_)
          have HW3 := Lib.hid hW3
          have HS3 := Lib.hid (hk3.heap HW2.out (by have := HNE.out; simp; omega))
          have HK3 := Lib.hid (HK2.out.trans hk3 (fun q hq => .inr (by simp at hq; have := HLb4.out; have := HSZ.out; omega)))
          have HQ3 := Lib.hid (HQ2.out.keeps hk3 (fun q hq => by have := HNb.out q hq; simpa using this))
          clear hW3 hk3
          refine hK.out _ _ ?_ (fun hHeld => ?_)
          · exact (by rw [HSE.out]; exact HK3.out)
          clear hK K
          try simp only [Act.put, lsA, lsZ, lsS]
          refine wpAnyH_done (by kernel_rfl) ?_ _
          refine NoPanic.normal ?_
          exact ⟨rfl, qa, qb, v2, _, _, _, _, _, _, _, _, _, _, rfl, HS3.out, HW3.out, Nat.le_trans HSZ.out HLa4.out.1, Nat.le_trans HSZ.out HLb4.out.1, HOW.out, HQ3.out, HK3.out⟩
        apply AllReadyH.cons (hs := AllReadyH.nil)
        · simp only [List.getElem?_toArray]; rfl
        intro K hK
        rw [if_pos (by rfl)]
        refine wp_allocN _ _ _ _ rfl ?_
        have hk : Keeps [] Y1 (Y1.alloc (.cells (ansC ⟨0, 0⟩).toArray 25)) := (Keeps.refl _ _).alloc _
        have hb := heap_alloc_new Y1 (.cells (ansC ⟨0, 0⟩).toArray 25)
        have hz : (Y1.alloc (.cells (ansC ⟨0, 0⟩).toArray 25)).heap.size = Y1.heap.size + 1 := Array.size_push _
        obtain ⟨qb, hqb⟩ : ∃ q, q = Y1.heap.size := ⟨_, rfl⟩
        rw [← hqb] at hb hz ⊢
        generalize Y1.alloc (.cells (ansC ⟨0, 0⟩).toArray 25) = Y2 at *
        have HK2 := Lib.hid (HK1.out.trans hk (FSub.refl _ _))
        have HQ2 := Lib.hid (HQ1.out.keeps hk (by simp))
        have HBb2 := Lib.hid hb
        have HLb2 := Lib.hid (show w1.heap.size ≤ qb ∧ qb < Y2.heap.size from ⟨by have := HK1.out.size; omega, by omega⟩)
        clear hk hb hz hqb
        refine hK.out _ _ ?_ (fun hHeld => ?_)
        · exact (by rw [HSE.out]; exact HK2.out.more (by simp))
        clear hK K
        try simp only [Act.put, lsA, lsZ, lsS]
        apply wpAnyH_ready (rs := [6, 10])
        · kernel_rfl
        · simp
        apply AllReadyH.cons
        · simp only [List.getElem?_toArray]; rfl
        · intro K hK
          rw [if_pos (by rfl)]
          refine wp_callV (k := quKs x.f) _ _ _ rfl rfl [.agg #[v], x.val] rfl (quKs_func x.f) ((HACT.out Y2 (by have := HBS.out; have := HSZ.out; have := HK2.out.size; omega) HQ2.out).mono ?_)
          rintro e Y3 ⟨v2, rfl, hq, hk, hs⟩
          refine ⟨_, rfl, ?_⟩
          have HK3 := Lib.hid ((HK2.out.more (by simp)).trans hk (FSub.refl _ _))
          have HQ3 := Lib.hid hq
          have HOW := Lib.hid (show ∀ q ∈ own v2, q ∈ own v ∨ R + 4 ≤ q from fun q hq => (hs q hq).imp id (fun h => by have := HSZ.out; have := HK2.out.size; omega))
          have HBb3 := Lib.hid (hk.heap HBb2.out (fun hq => by have := HFR.out _ hq; have := HLb2.out; have := HSZ.out; omega))
          have HLb3 := Lib.hid (show w1.heap.size ≤ qb ∧ qb < Y3.heap.size from ⟨HLb2.out.1, Nat.lt_of_lt_of_le HLb2.out.2 hk.size⟩)
          have HNb := Lib.hid (show ∀ q ∈ own v2, q ≠ qb from fun q hq => by have := HLb2.out; have := HSZ.out; rcases hs q hq with h | h; (have := HV.out q h; omega); omega)
          clear hq hk hs
          refine hK.out _ _ ?_ (fun hHeld => ?_)
          · exact (by rw [HSE.out]; exact HK3.out)
          clear hK K
          try simp only [Act.put, lsA, lsZ, lsS]
          apply wpAnyH_take (i := 7)
          · simp only [List.getElem?_toArray]; rfl
          iterate 3 (· kernel_rfl)
          · exact fun _ _ _ h => h
          · exact Or.inl ⟨by rfl, by intro w hSw; go_simp; try with_reducible rfl⟩
          · assumption
          try simp only [Act.put, lsA, lsZ, lsS]
          apply wpAnyH_take (i := 8)
          · simp only [List.getElem?_toArray]; rfl
          iterate 3 (· kernel_rfl)
          · exact fun _ _ _ h => h
          · exact Or.inl ⟨by rfl, by intro w hSw; go_simp; try with_reducible rfl⟩
          · assumption
          try simp only [Act.put, lsA, lsZ, lsS]
          apply wpAnyH_take (i := 9)
          · simp only [List.getElem?_toArray]; rfl
          iterate 3 (· kernel_rfl)
          · exact fun _ _ _ h => h
          · exact Or.inl ⟨by rfl, by intro w hSw; go_simp; try with_reducible rfl⟩
          · assumption
          try simp only [Act.put, lsA, lsZ, lsS]
          apply wpAnyH_ready (rs := [10])
          · kernel_rfl
          · simp
          apply AllReadyH.cons (hs := AllReadyH.nil)
          · simp only [List.getElem?_toArray]; rfl
          intro K hK
          rw [if_pos (by rfl)]
          refine wp_allocQ _ _ _ _ rfl ?_
          have hk : Keeps [] Y3 (Y3.alloc (.cells #[.slice none 0 0] 184)) := (Keeps.refl _ _).alloc _
          have hb := heap_alloc_new Y3 (.cells #[.slice none 0 0] 184)
          have hz : (Y3.alloc (.cells #[.slice none 0 0] 184)).heap.size = Y3.heap.size + 1 := Array.size_push _
          obtain ⟨qa, hqa⟩ : ∃ q, q = Y3.heap.size := ⟨_, rfl⟩
          rw [← hqa] at hb hz ⊢
          generalize Y3.alloc (.cells #[.slice none 0 0] 184) = Y4 at *
          have HK4 := Lib.hid (HK3.out.trans hk (fun q hq => by simp at hq))
          have HQ4 := Lib.hid (HQ3.out.keeps hk (by simp))
          have HBb4 := Lib.hid (hk.heap HBb3.out (by simp))
          have HLb4 := Lib.hid (show w1.heap.size ≤ qb ∧ qb < Y4.heap.size from ⟨HLb3.out.1, Nat.lt_of_lt_of_le HLb3.out.2 hk.size⟩)
          have HBa4 := Lib.hid hb
          have HLa4 := Lib.hid (show w1.heap.size ≤ qa ∧ qa < Y4.heap.size from ⟨by have := HK3.out.size; omega, by omega⟩)
          have HNE := Lib.hid (show qa ≠ qb from by have := HLb3.out; omega)
          have HNa := Lib.hid (show ∀ q ∈ own v2, q ≠ qa from fun q hq => by have := HQ3.out.in_.old q hq; omega)
          clear hk hb hz hqa
          refine hK.out _ _ ?_ (fun hHeld => ?_)
          · exact (by rw [HSE.out]; exact HK4.out)
          clear hK K
          try simp only [Act.put, lsA, lsZ, lsS]
          apply wpAnyH_ready (rs := [12])
          · kernel_rfl
          · simp
          apply AllReadyH.cons (hs := AllReadyH.nil)
          · simp only [List.getElem?_toArray]; rfl
          intro K hK
          rw [if_pos (by rfl)]
          refine wp_putQ rfl (g := qa) (old := .slice none 0 0) (z := v2) rfl rfl HBa4.out (QF.one HQ4.out) (fun W2 hW2 hk2 => ?_)
          have HW2 := Lib.hid hW2
          have HA2 := Lib.hid (hk2.heap HBb4.out (by have := HNE.out; simp; omega))
          have HK2 := Lib.hid (HK4.out.trans hk2 (fun q hq => .inr (by simp at hq; have := HLa4.out; have := HSZ.out; omega)))
          have HQ2 := Lib.hid (HQ4.out.keeps hk2 (fun q hq => by have := HNa.out q hq; simpa using this))
          clear hW2 hk2
          refine hK.out _ _ ?_ (fun hHeld => ?_)
          · exact (by rw [HSE.out]; exact HK2.out)
          clear hK K
          try simp only [Act.put, lsA, lsZ, lsS]
          apply wpAnyH_ready (rs := [13])
          · kernel_rfl
          · simp
          apply AllReadyH.cons (hs := AllReadyH.nil)
          · simp only [List.getElem?_toArray]; rfl
          intro K hK
          rw [if_pos (by rfl)]
          refine wp_putN rfl (g := qb) (old := ⟨0, 0⟩) y rfl rfl HA2.out (fun W3 hW3 hk3 => ?_)
          have HW3 := Lib.hid hW3
          have HS3 := Lib.hid (hk3.heap HW2.out (by have := HNE.out; simp; omega))
          have HK3 := Lib.hid (HK2.out.trans hk3 (fun q hq => .inr (by simp at hq; have := HLb4.out; have := HSZ.out; omega)))
          have HQ3 := Lib.hid (HQ2.out.keeps hk3 (fun q hq => by have := HNb.out q hq; simpa using this))
          clear hW3 hk3
          refine hK.out _ _ ?_ (fun hHeld => ?_)
          · exact (by rw [HSE.out]; exact HK3.out)
          clear hK K
          try simp only [Act.put, lsA, lsZ, lsS]
          refine wpAnyH_done (by kernel_rfl) ?_ _
          refine NoPanic.normal ?_
          exact ⟨rfl, qa, qb, v2, _, _, _, _, _, _, _, _, _, _, rfl, HS3.out, HW3.out, Nat.le_trans HSZ.out HLa4.out.1, Nat.le_trans HSZ.out HLb4.out.1, HOW.out, HQ3.out, HK3.out⟩
        apply AllReadyH.cons (hs := AllReadyH.nil)
        · simp only [List.getElem?_toArray]; rfl
        intro K hK
        rw [if_pos (by rfl)]
        refine wp_allocQ _ _ _ _ rfl ?_
        have hk : Keeps [] Y2 (Y2.alloc (.cells #[.slice none 0 0] 184)) := (Keeps.refl _ _).alloc _
        have hb := heap_alloc_new Y2 (.cells #[.slice none 0 0] 184)
        have hz : (Y2.alloc (.cells #[.slice none 0 0] 184)).heap.size = Y2.heap.size + 1 := Array.size_push _
        obtain ⟨qa, hqa⟩ : ∃ q, q = Y2.heap.size := ⟨_, rfl⟩
        rw [← hqa] at hb hz ⊢
        generalize Y2.alloc (.cells #[.slice none 0 0] 184) = Y3 at *
        have HK3 := Lib.hid (HK2.out.trans hk (FSub.refl _ _))
        have HQ3 := Lib.hid (HQ2.out.keeps hk (by simp))
        have HBb3 := Lib.hid (hk.heap HBb2.out (by simp))
        have HLb3 := Lib.hid (show w1.heap.size ≤ qb ∧ qb < Y3.heap.size from ⟨HLb2.out.1, Nat.lt_of_lt_of_le HLb2.out.2 hk.size⟩)
        have HBa3 := Lib.hid hb
        have HLa3 := Lib.hid (show w1.heap.size ≤ qa ∧ qa < Y3.heap.size from ⟨by have := HK2.out.size; omega, by omega⟩)
        have HNE := Lib.hid (show qa ≠ qb from by have := HLb2.out; omega)
        clear hk hb hz hqa
        refine hK.out _ _ ?_ (fun hHeld => ?_)
        · exact (by rw [HSE.out]; exact HK3.out.more (by simp))
        clear hK K
        try simp only [Act.put, lsA, lsZ, lsS]
        apply wpAnyH_ready (rs := [6])
        · kernel_rfl
        · simp
        apply AllReadyH.cons (hs := AllReadyH.nil)
        · simp only [List.getElem?_toArray]; rfl
        intro K hK
        rw [if_pos (by rfl)]
        refine wp_callV (k := quKs x.f) _ _ _ rfl rfl [.agg #[v], x.val] rfl (quKs_func x.f) ((HACT.out Y3 (by have := HBS.out; have := HSZ.out; have := HK3.out.size; omega) HQ3.out).mono ?_)
        rintro e Y4 ⟨v2, rfl, hq, hk, hs⟩
        refine ⟨_, rfl, ?_⟩
        have HK4 := Lib.hid ((HK3.out.more (by simp)).trans hk (FSub.refl _ _))
        have HQ4 := Lib.hid hq
        have HOW := Lib.hid (show ∀ q ∈ own v2, q ∈ own v ∨ R + 4 ≤ q from fun q hq => (hs q hq).imp id (fun h => by have := HSZ.out; have := HK3.out.size; omega))
        have HBb4 := Lib.hid (hk.heap HBb3.out (fun hq => by have := HFR.out _ hq; have := HLb3.out; have := HSZ.out; omega))
        have HLb4 := Lib.hid (show w1.heap.size ≤ qb ∧ qb < Y4.heap.size from ⟨HLb3.out.1, Nat.lt_of_lt_of_le HLb3.out.2 hk.size⟩)
        have HNb := Lib.hid (show ∀ q ∈ own v2, q ≠ qb from fun q hq => by have := HLb3.out; have := HSZ.out; rcases hs q hq with h | h; (have := HV.out q h; omega); omega)
        have HBa4 := Lib.hid (hk.heap HBa3.out (fun hq => by have := HFR.out _ hq; have := HLa3.out; have := HSZ.out; omega))
        have HLa4 := Lib.hid (show w1.heap.size ≤ qa ∧ qa < Y4.heap.size from ⟨HLa3.out.1, Nat.lt_of_lt_of_le HLa3.out.2 hk.size⟩)
        have HNa := Lib.hid (show ∀ q ∈ own v2, q ≠ qa from fun q hq => by have := HLa3.out; have := HSZ.out; rcases hs q hq with h | h; (have := HV.out q h; omega); omega)
        clear hq hk hs
        refine hK.out _ _ ?_ (fun hHeld => ?_)
        · exact (by rw [HSE.out]; exact HK4.out)
        clear hK K
        try simp only [Act.put, lsA, lsZ, lsS]
        apply wpAnyH_take (i := 7)
        · simp only [List.getElem?_toArray]; rfl
        iterate 3 (· kernel_rfl)
        · exact fun _ _ _ h => h
        · exact Or.inl ⟨by rfl, by intro w hSw; go_simp; try with_reducible rfl⟩
        · assumption
        try simp only [Act.put, lsA, lsZ, lsS]
        apply wpAnyH_take (i := 8)
        · simp only [List.getElem?_toArray]; rfl
        iterate 3 (· kernel_rfl)
        · exact fun _ _ _ h => h
        · exact Or.inl ⟨by rfl, by intro w hSw; go_simp; try with_reducible rfl⟩
        · assumption
        try simp only [Act.put, lsA, lsZ, lsS]
        apply wpAnyH_take (i := 9)
        · simp only [List.getElem?_toArray]; rfl
        iterate 3 (· kernel_rfl)
        · exact fun _ _ _ h => h
        · exact Or.inl ⟨by rfl, by intro w hSw; go_simp; try with_reducible rfl⟩
        · assumption
        try simp only [Act.put, lsA, lsZ, lsS]
        apply wpAnyH_ready (rs := [12])
        · kernel_rfl
        · simp
        apply AllReadyH.cons (hs := AllReadyH.nil)
        · simp only [List.getElem?_toArray]; rfl
        intro K hK
        rw [if_pos (by rfl)]
        refine wp_putQ rfl (g := qa) (old := .slice none 0 0) (z := v2) rfl rfl HBa4.out (QF.one HQ4.out) (fun W2 hW2 hk2 => ?_)
        have HW2 := Lib.hid hW2
        have HA2 := Lib.hid (hk2.heap HBb4.out (by have := HNE.out; simp; omega))
        have HK2 := Lib.hid (HK4.out.trans hk2 (fun q hq => .inr (by simp at hq; have := HLa4.out; have := HSZ.out; omega)))
        have HQ2 := Lib.hid (HQ4.out.keeps hk2 (fun q hq => by have := HNa.out q hq; simpa using this))
        clear hW2 hk2
        refine hK.out _ _ ?_ (fun hHeld => ?_)
        · exact (by rw [HSE.out]; exact HK2.out)
        clear hK K
        try simp only [Act.put, lsA, lsZ, lsS]
        apply wpAnyH_ready (rs := [13])
        · kernel_rfl
        · simp
        apply AllReadyH.cons (hs := AllReadyH.nil)
        · simp only [List.getElem?_toArray]; rfl
        intro K hK
        rw [if_pos (by rfl)]
        refine wp_putN rfl (g := qb) (old := ⟨0, 0⟩) y rfl rfl HA2.out (fun W3 hW3 hk3 => ?_)
        have HW3 := Lib.hid hW3
        have HS3 := Lib.hid (hk3.heap HW2.out (by have := HNE.out; simp; omega))
        have HK3 := Lib.hid (HK2.out.trans hk3 (fun q hq => .inr (by simp at hq; have := HLb4.out; have := HSZ.out; omega)))
        have HQ3 := Lib.hid (HQ2.out.keeps hk3 (fun q hq => by have := HNb.out q hq; simpa using this))
        clear hW3 hk3
        refine hK.out _ _ ?_ (fun hHeld => ?_)
        · exact (by rw [HSE.out]; exact HK3.out)
        clear hK K
        try simp only [Act.put, lsA, lsZ, lsS]
        refine wpAnyH_done (by kernel_rfl) ?_ _
        refine NoPanic.normal ?_
        exact ⟨rfl, qa, qb, v2, _, _, _, _, _, _, _, _, _, _, rfl, HS3.out, HW3.out, Nat.le_trans HSZ.out HLa4.out.1, Nat.le_trans HSZ.out HLb4.out.1, HOW.out, HQ3.out, HK3.out⟩
      apply AllReadyH.cons
      · simp only [List.getElem?_toArray]; rfl
      · intro K hK
        rw [if_pos (by rfl)]
        refine wp_allocQ _ _ _ _ rfl ?_
        have hk : Keeps [] Y0 (Y0.alloc (.cells #[.slice none 0 0] 184)) := (Keeps.refl _ _).alloc _
        have hb := heap_alloc_new Y0 (.cells #[.slice none 0 0] 184)
        have hz : (Y0.alloc (.cells #[.slice none 0 0] 184)).heap.size = Y0.heap.size + 1 := Array.size_push _
        obtain ⟨qa, hqa⟩ : ∃ q, q = Y0.heap.size := ⟨_, rfl⟩
        rw [← hqa] at hb hz ⊢
        generalize Y0.alloc (.cells #[.slice none 0 0] 184) = Y1 at *
        have HK1 := Lib.hid (HK0.out.trans hk (FSub.refl _ _))
        have HQ1 := Lib.hid (HQ0.out.keeps hk (by simp))
        have HBa1 := Lib.hid hb
        have HLa1 := Lib.hid (show w1.heap.size ≤ qa ∧ qa < Y1.heap.size from ⟨by have := HK0.out.size; omega, by omega⟩)
        clear hk hb hz hqa
        refine hK.out _ _ ?_ (fun hHeld => ?_)
        · exact (by rw [HSE.out]; exact HK1.out.more (by simp))
        clear hK K
        try simp only [Act.put, lsA, lsZ, lsS]
        apply wpAnyH_ready (rs := [0, 11])
        · kernel_rfl
        · simp
        apply AllReadyH.cons
        · simp only [List.getElem?_toArray]; rfl
        · intro K hK
          rw [if_pos (by rfl)]
          refine wp_call9 181 _ _ rfl [] rfl Tryz.func181 (by kernel_rfl) (by kernel_rfl) ((quSteps_any Y1).mono ?_)
          rintro e Y2 ⟨rfl, hk⟩
          refine ⟨_, rfl, ?_⟩
          have HK2 := Lib.hid (HK1.out.trans hk (FSub.refl _ _))
          have HQ2 := Lib.hid (HQ1.out.keeps hk (by simp))
          have HBa2 := Lib.hid (hk.heap HBa1.out (by simp))
          have HLa2 := Lib.hid (show w1.heap.size ≤ qa ∧ qa < Y2.heap.size from ⟨HLa1.out.1, Nat.lt_of_lt_of_le HLa1.out.2 hk.size⟩)
          clear hk
          refine hK.out _ _ ?_ (fun hHeld => ?_)
          · exact (by rw [HSE.out]; exact HK2.out.more (by simp))
          clear hK K
          try simp only [Act.put, lsA, lsZ, lsS]
          apply wpAnyH_take (i := 3)
          · simp only [List.getElem?_toArray]; rfl
          iterate 3 (· kernel_rfl)
          · exact fun _ _ _ h => h
          · exact yields_idxS (by rfl) (.tmp 18) (.tmp 20) rfl rfl rfl HF.out
          · assumption
          try simp only [Act.put, lsA, lsZ, lsS]
          apply wpAnyH_ready (rs := [6, 11])
          · kernel_rfl
          · simp
          apply AllReadyH.cons
          · simp only [List.getElem?_toArray]; rfl
          · intro K hK
            rw [if_pos (by rfl)]
            refine wp_callV (k := quKs x.f) _ _ _ rfl rfl [.agg #[v], x.val] rfl (quKs_func x.f) ((HACT.out Y2 (by have := HBS.out; have := HSZ.out; have := HK2.out.size; omega) HQ2.out).mono ?_)
            rintro e Y3 ⟨v2, rfl, hq, hk, hs⟩
            refine ⟨_, rfl, ?_⟩
            have HK3 := Lib.hid ((HK2.out.more (by simp)).trans hk (FSub.refl _ _))
            have HQ3 := Lib.hid hq
            have HOW := Lib.hid (show ∀ q ∈ own v2, q ∈ own v ∨ R + 4 ≤ q from fun q hq => (hs q hq).imp id (fun h => by have := HSZ.out; have := HK2.out.size; omega))
            have HBa3 := Lib.hid (hk.heap HBa2.out (fun hq => by have := HFR.out _ hq; have := HLa2.out; have := HSZ.out; omega))
            have HLa3 := Lib.hid (show w1.heap.size ≤ qa ∧ qa < Y3.heap.size from ⟨HLa2.out.1, Nat.lt_of_lt_of_le HLa2.out.2 hk.size⟩)
            have HNa := Lib.hid (show ∀ q ∈ own v2, q ≠ qa from fun q hq => by have := HLa2.out; have := HSZ.out; rcases hs q hq with h | h; (have := HV.out q h; omega); omega)
            clear hq hk hs
            refine hK.out _ _ ?_ (fun hHeld => ?_)
            · exact (by rw [HSE.out]; exact HK3.out)
            clear hK K
            try simp only [Act.put, lsA, lsZ, lsS]
            apply wpAnyH_take (i := 7)
            · simp only [List.getElem?_toArray]; rfl
            iterate 3 (· kernel_rfl)
            · exact fun _ _ _ h => h
            · exact Or.inl ⟨by rfl, by intro w hSw; go_simp; try with_reducible rfl⟩
            · assumption
            try simp only [Act.put, lsA, lsZ, lsS]
            apply wpAnyH_take (i := 8)
            · simp only [List.getElem?_toArray]; rfl
            iterate 3 (· kernel_rfl)
            · exact fun _ _ _ h => h
            · exact Or.inl ⟨by rfl, by intro w hSw; go_simp; try with_reducible rfl⟩
            · assumption
            try simp only [Act.put, lsA, lsZ, lsS]
            apply wpAnyH_take (i := 9)
            · simp only [List.getElem?_toArray]; rfl
            iterate 3 (· kernel_rfl)
            · exact fun _ _ _ h => h
            · exact Or.inl ⟨by rfl, by intro w hSw; go_simp; try with_reducible rfl⟩
            · assumption
            try simp only [Act.put, lsA, lsZ, lsS]
            apply wpAnyH_ready (rs := [11])
            · kernel_rfl
            · simp
            apply AllReadyH.cons (hs := AllReadyH.nil)
            · simp only [List.getElem?_toArray]; rfl
            intro K hK
            rw [if_pos (by rfl)]
            refine wp_allocN _ _ _ _ rfl ?_
            have hk : Keeps [] Y3 (Y3.alloc (.cells (ansC ⟨0, 0⟩).toArray 25)) := (Keeps.refl _ _).alloc _
            have hb := heap_alloc_new Y3 (.cells (ansC ⟨0, 0⟩).toArray 25)
            have hz : (Y3.alloc (.cells (ansC ⟨0, 0⟩).toArray 25)).heap.size = Y3.heap.size + 1 := Array.size_push _
            obtain ⟨qb, hqb⟩ : ∃ q, q = Y3.heap.size := ⟨_, rfl⟩
            rw [← hqb] at hb hz ⊢
            generalize Y3.alloc (.cells (ansC ⟨0, 0⟩).toArray 25) = Y4 at *
            have HK4 := Lib.hid (HK3.out.trans hk (fun q hq => by simp at hq))
            have HQ4 := Lib.hid (HQ3.out.keeps hk (by simp))
            have HBa4 := Lib.hid (hk.heap HBa3.out (by simp))
            have HLa4 := Lib.hid (show w1.heap.size ≤ qa ∧ qa < Y4.heap.size from ⟨HLa3.out.1, Nat.lt_of_lt_of_le HLa3.out.2 hk.size⟩)
            have HBb4 := Lib.hid hb
            have HLb4 := Lib.hid (show w1.heap.size ≤ qb ∧ qb < Y4.heap.size from ⟨by have := HK3.out.size; omega, by omega⟩)
            have HNE := Lib.hid (show qa ≠ qb from by have := HLa3.out; omega)
            have HNb := Lib.hid (show ∀ q ∈ own v2, q ≠ qb from fun q hq => by have := HQ3.out.in_.old q hq; omega)
            clear hk hb hz hqb
            refine hK.out _ _ ?_ (fun hHeld => ?_)
            · exact (by rw [HSE.out]; exact HK4.out)
            clear hK K
            try simp only [Act.put, lsA, lsZ, lsS]
            apply wpAnyH_ready (rs := [12])
            · kernel_rfl
            · simp
            apply AllReadyH.cons (hs := AllReadyH.nil)
            · simp only [List.getElem?_toArray]; rfl
            intro K hK
            rw [if_pos (by rfl)]
            refine wp_putQ rfl (g := qa) (old := .slice none 0 0) (z := v2) rfl rfl HBa4.out (QF.one HQ4.out) (fun W2 hW2 hk2 => ?_)
            have HW2 := Lib.hid hW2
            have HA2 := Lib.hid (hk2.heap HBb4.out (by have := HNE.out; simp; omega))
            have HK2 := Lib.hid (HK4.out.trans hk2 (fun q hq => .inr (by simp at hq; have := HLa4.out; have := HSZ.out; omega)))
            have HQ2 := Lib.hid (HQ4.out.keeps hk2 (fun q hq => by have := HNa.out q hq; simpa using this))
            clear hW2 hk2
            refine hK.out _ _ ?_ (fun hHeld => ?_)
            · exact (by rw [HSE.out]; exact HK2.out)
            clear hK K
            try simp only [Act.put, lsA, lsZ, lsS]
            apply wpAnyH_ready (rs := [13])
            · kernel_rfl
            · simp
            apply AllReadyH.cons (hs := AllReadyH.nil)
            · simp only [List.getElem?_toArray]; rfl
            intro K hK
            rw [if_pos (by rfl)]
            refine wp_putN rfl (g := qb) (old := ⟨0, 0⟩) y rfl rfl HA2.out (fun W3 hW3 hk3 => ?_)
            have HW3 := Lib.hid hW3
            have HS3 := Lib.hid (hk3.heap HW2.out (by have := HNE.out; simp; omega))
            have HK3 := Lib.hid (HK2.out.trans hk3 (fun q hq => .inr (by simp at hq; have := HLb4.out; have := HSZ.out; omega)))
            have HQ3 := Lib.hid (HQ2.out.keeps hk3 (fun q hq => by have := HNb.out q hq; simpa using this))
            clear hW3 hk3
            refine hK.out _ _ ?_ (fun hHeld => ?_)
            · exact (by rw [HSE.out]; exact HK3.out)
            clear hK K
            try simp only [Act.put, lsA, lsZ, lsS]
            refine wpAnyH_done (by kernel_rfl) ?_ _
            refine NoPanic.normal ?_
            exact ⟨rfl, qa, qb, v2, _, _, _, _, _, _, _, _, _, _, rfl, HS3.out, HW3.out, Nat.le_trans HSZ.out HLa4.out.1, Nat.le_trans HSZ.out HLb4.out.1, HOW.out, HQ3.out, HK3.out⟩
          apply AllReadyH.cons (hs := AllReadyH.nil)
          · simp only [List.getElem?_toArray]; rfl
          intro K hK
          rw [if_pos (by rfl)]
          refine wp_allocN _ _ _ _ rfl ?_
          have hk : Keeps [] Y2 (Y2.alloc (.cells (ansC ⟨0, 0⟩).toArray 25)) := (Keeps.refl _ _).alloc _
          have hb := heap_alloc_new Y2 (.cells (ansC ⟨0, 0⟩).toArray 25)
          have hz : (Y2.alloc (.cells (ansC ⟨0, 0⟩).toArray 25)).heap.size = Y2.heap.size + 1 := Array.size_push _
          obtain ⟨qb, hqb⟩ : ∃ q, q = Y2.heap.size := ⟨_, rfl⟩
          rw [← hqb] at hb hz ⊢
          generalize Y2.alloc (.cells (ansC ⟨0, 0⟩).toArray 25) = Y3 at *
          have HK3 := Lib.hid (HK2.out.trans hk (FSub.refl _ _))
          have HQ3 := Lib.hid (HQ2.out.keeps hk (by simp))
          have HBa3 := Lib.hid (hk.heap HBa2.out (by simp))
          have HLa3 := Lib.hid (show w1.heap.size ≤ qa ∧ qa < Y3.heap.size from ⟨HLa2.out.1, Nat.lt_of_lt_of_le HLa2.out.2 hk.size⟩)
          have HBb3 := Lib.hid hb
          have HLb3 := Lib.hid (show w1.heap.size ≤ qb ∧ qb < Y3.heap.size from ⟨by have := HK2.out.size; omega, by omega⟩)
          have HNE := Lib.hid (show qa ≠ qb from by have := HLa2.out; omega)
          clear hk hb hz hqb
          refine hK.out _ _ ?_ (fun hHeld => ?_)
          · exact (by rw [HSE.out]; exact HK3.out.more (by simp))
          clear hK K
          try simp only [Act.put, lsA, lsZ, lsS]
          apply wpAnyH_ready (rs := [6])
          · kernel_rfl
          · simp
          apply AllReadyH.cons (hs := AllReadyH.nil)
          · simp only [List.getElem?_toArray]; rfl
          intro K hK
          rw [if_pos (by rfl)]
          refine wp_callV (k := quKs x.f) _ _ _ rfl rfl [.agg #[v], x.val] rfl (quKs_func x.f) ((HACT.out Y3 (by have := HBS.out; have := HSZ.out; have := HK3.out.size; omega) HQ3.out).mono ?_)
          rintro e Y4 ⟨v2, rfl, hq, hk, hs⟩
          refine ⟨_, rfl, ?_⟩
          have HK4 := Lib.hid ((HK3.out.more (by simp)).trans hk (FSub.refl _ _))
          have HQ4 := Lib.hid hq
          have HOW := Lib.hid (show ∀ q ∈ own v2, q ∈ own v ∨ R + 4 ≤ q from fun q hq => (hs q hq).imp id (fun h => by have := HSZ.out; have := HK3.out.size; omega))
          have HBa4 := Lib.hid (hk.heap HBa3.out (fun hq => by have := HFR.out _ hq; have := HLa3.out; have := HSZ.out; omega))
          have HLa4 := Lib.hid (show w1.heap.size ≤ qa ∧ qa < Y4.heap.size from ⟨HLa3.out.1, Nat.lt_of_lt_of_le HLa3.out.2 hk.size⟩)
          have HNa := Lib.hid (show ∀ q ∈ own v2, q ≠ qa from fun q hq => by have := HLa3.out; have := HSZ.out; rcases hs q hq with h | h; (have := HV.out q h; omega); omega)
          have HBb4 := Lib.hid (hk.heap HBb3.out (fun hq => by have := HFR.out _ hq; have := HLb3.out; have := HSZ.out; omega))
          have HLb4 := Lib.hid (show w1.heap.size ≤ qb ∧ qb < Y4.heap.size from ⟨HLb3.out.1, Nat.lt_of_lt_of_le HLb3.out.2 hk.size⟩)
          have HNb := Lib.hid (show ∀ q ∈ own v2, q ≠ qb from fun q hq => by have := HLb3.out; have := HSZ.out; rcases hs q hq with h | h; (have := HV.out q h; omega); omega)
          clear hq hk hs
          refine hK.out _ _ ?_ (fun hHeld => ?_)
          · exact (by rw [HSE.out]; exact HK4.out)
          clear hK K
          try simp only [Act.put, lsA, lsZ, lsS]
          apply wpAnyH_take (i := 7)
          · simp only [List.getElem?_toArray]; rfl
          iterate 3 (· kernel_rfl)
          · exact fun _ _ _ h => h
          · exact Or.inl ⟨by rfl, by intro w hSw; go_simp; try with_reducible rfl⟩
          · assumption
          try simp only [Act.put, lsA, lsZ, lsS]
          apply wpAnyH_take (i := 8)
          · simp only [List.getElem?_toArray]; rfl
          iterate 3 (· kernel_rfl)
          · exact fun _ _ _ h => h
          · exact Or.inl ⟨by rfl, by intro w hSw; go_simp; try with_reducible rfl⟩
          · assumption
          try simp only [Act.put, lsA, lsZ, lsS]
          apply wpAnyH_take (i := 9)
          · simp only [List.getElem?_toArray]; rfl
          iterate 3 (· kernel_rfl)
          · exact fun _ _ _ h => h
          · exact Or.inl ⟨by rfl, by intro w hSw; go_simp; try with_reducible rfl⟩
          · assumption
          try simp only [Act.put, lsA, lsZ, lsS]
          apply wpAnyH_ready (rs := [12])
          · kernel_rfl
          · simp
          apply AllReadyH.cons (hs := AllReadyH.nil)
          · simp only [List.getElem?_toArray]; rfl
          intro K hK
          rw [if_pos (by rfl)]
          refine wp_putQ rfl (g := qa) (old := .slice none 0 0) (z := v2) rfl rfl HBa4.out (QF.one HQ4.out) (fun W2 hW2 hk2 => ?_)
          have HW2 := Lib.hid hW2
          have HA2 := Lib.hid (hk2.heap HBb4.out (by have := HNE.out; simp; omega))
          have HK2 := Lib.hid (HK4.out.trans hk2 (fun q hq => .inr (by simp at hq; have := HLa4.out; have := HSZ.out; omega)))
          have HQ2 := Lib.hid (HQ4.out.keeps hk2 (fun q hq => by have := HNa.out q hq; simpa using this))
          clear hW2 hk2
          refine hK.out _ _ ?_ (fun hHeld => ?_)
          · exact (by rw [HSE.out]; exact HK2.out)
          clear hK K
          try simp only [Act.put, lsA, lsZ, lsS]
          apply wpAnyH_ready (rs := [13])
          · kernel_rfl
          · simp
          apply AllReadyH.cons (hs := AllReadyH.nil)
          · simp only [List.getElem?_toArray]; rfl
          intro K hK
          rw [if_pos (by rfl)]
          refine wp_putN rfl (g := qb) (old := ⟨0, 0⟩) y rfl rfl HA2.out (fun W3 hW3 hk3 => ?_)
          have HW3 := Lib.hid hW3
          have HS3 := Lib.hid (hk3.heap HW2.out (by have := HNE.out; simp; omega))
          have HK3 := Lib.hid (HK2.out.trans hk3 (fun q hq => .inr (by simp at hq; have := HLb4.out; have := HSZ.out; omega)))
          have HQ3 := Lib.hid (HQ2.out.keeps hk3 (fun q hq => by have := HNb.out q hq; simpa using this))
          clear hW3 hk3
          refine hK.out _ _ ?_ (fun hHeld => ?_)
          · exact (by rw [HSE.out]; exact HK3.out)
          clear hK K
          try simp only [Act.put, lsA, lsZ, lsS]
          refine wpAnyH_done (by kernel_rfl) ?_ _
          refine NoPanic.normal ?_
          exact ⟨rfl, qa, qb, v2, _, _, _, _, _, _, _, _, _, _, rfl, HS3.out, HW3.out, Nat.le_trans HSZ.out HLa4.out.1, Nat.le_trans HSZ.out HLb4.out.1, HOW.out, HQ3.out, HK3.out⟩
        apply AllReadyH.cons (hs := AllReadyH.nil)
        · simp only [List.getElem?_toArray]; rfl
        intro K hK
        rw [if_pos (by rfl)]
        refine wp_allocN _ _ _ _ rfl ?_
        have hk : Keeps [] Y1 (Y1.alloc (.cells (ansC ⟨0, 0⟩).toArray 25)) := (Keeps.refl _ _).alloc _
        have hb := heap_alloc_new Y1 (.cells (ansC ⟨0, 0⟩).toArray 25)
        have hz : (Y1.alloc (.cells (ansC ⟨0, 0⟩).toArray 25)).heap.size = Y1.heap.size + 1 := Array.size_push _
        obtain ⟨qb, hqb⟩ : ∃ q, q = Y1.heap.size := ⟨_, rfl⟩
        rw [← hqb] at hb hz ⊢
        generalize Y1.alloc (.cells (ansC ⟨0, 0⟩).toArray 25) = Y2 at *
        have HK2 := Lib.hid (HK1.out.trans hk (FSub.refl _ _))
        have HQ2 := Lib.hid (HQ1.out.keeps hk (by simp))
        have HBa2 := Lib.hid (hk.heap HBa1.out (by simp))
        have HLa2 := Lib.hid (show w1.heap.size ≤ qa ∧ qa < Y2.heap.size from ⟨HLa1.out.1, Nat.lt_of_lt_of_le HLa1.out.2 hk.size⟩)
        have HBb2 := Lib.hid hb
        have HLb2 := Lib.hid (show w1.heap.size ≤ qb ∧ qb < Y2.heap.size from ⟨by have := HK1.out.size; omega, by omega⟩)
        have HNE := Lib.hid (show qa ≠ qb from by have := HLa1.out; omega)
        clear hk hb hz hqb
        refine hK.out _ _ ?_ (fun hHeld => ?_)
        · exact (by rw [HSE.out]; exact HK2.out.more (by simp))
        clear hK K
        try simp only [Act.put, lsA, lsZ, lsS]
        apply wpAnyH_ready (rs := [0])
        · kernel_rfl
        · simp
        apply AllReadyH.cons (hs := AllReadyH.nil)
        · simp only [List.getElem?_toArray]; rfl
        intro K hK
        rw [if_pos (by rfl)]
        refine wp_call9 181 _ _ rfl [] rfl Tryz.func181 (by kernel_rfl) (by kernel_rfl) ((quSteps_any Y2).mono ?_)
        rintro e Y3 ⟨rfl, hk⟩
        refine ⟨_, rfl, ?_⟩
        have HK3 := Lib.hid (HK2.out.trans hk (FSub.refl _ _))
        have HQ3 := Lib.hid (HQ2.out.keeps hk (by simp))
        have HBa3 := Lib.hid (hk.heap HBa2.out (by simp))
        have HLa3 := Lib.hid (show w1.heap.size ≤ qa ∧ qa < Y3.heap.size from ⟨HLa2.out.1, Nat.lt_of_lt_of_le HLa2.out.2 hk.size⟩)
        have HBb3 := Lib.hid (hk.heap HBb2.out (by simp))
        have HLb3 := Lib.hid (show w1.heap.size ≤ qb ∧ qb < Y3.heap.size from ⟨HLb2.out.1, Nat.lt_of_lt_of_le HLb2.out.2 hk.size⟩)
        clear hk
        refine hK.out _ _ ?_ (fun hHeld => ?_)
        · exact (by rw [HSE.out]; exact HK3.out.more (by simp))
        clear hK K
        try simp only [Act.put, lsA, lsZ, lsS]
        apply wpAnyH_take (i := 3)
        · simp only [List.getElem?_toArray]; rfl
        iterate 3 (· kernel_rfl)
        · exact fun _ _ _ h => h
        · exact yields_idxS (by rfl) (.tmp 18) (.tmp 20) rfl rfl rfl HF.out
        · assumption
        try simp only [Act.put, lsA, lsZ, lsS]
        apply wpAnyH_ready (rs := [6])
        · kernel_rfl
        · simp
        apply AllReadyH.cons (hs := AllReadyH.nil)
        · simp only [List.getElem?_toArray]; rfl
        intro K hK
        rw [if_pos (by rfl)]
        refine wp_callV (k := quKs x.f) _ _ _ rfl rfl [.agg #[v], x.val] rfl (quKs_func x.f) ((HACT.out Y3 (by have := HBS.out; have := HSZ.out; have := HK3.out.size; omega) HQ3.out).mono ?_)
        rintro e Y4 ⟨v2, rfl, hq, hk, hs⟩
        refine ⟨_, rfl, ?_⟩
        have HK4 := Lib.hid ((HK3.out.more (by simp)).trans hk (FSub.refl _ _))
        have HQ4 := Lib.hid hq
        have HOW := Lib.hid (show ∀ q ∈ own v2, q ∈ own v ∨ R + 4 ≤ q from fun q hq => (hs q hq).imp id (fun h => by have := HSZ.out; have := HK3.out.size; omega))
        have HBa4 := Lib.hid (hk.heap HBa3.out (fun hq => by have := HFR.out _ hq; have := HLa3.out; have := HSZ.out; omega))
        have HLa4 := Lib.hid (show w1.heap.size ≤ qa ∧ qa < Y4.heap.size from ⟨HLa3.out.1, Nat.lt_of_lt_of_le HLa3.out.2 hk.size⟩)
        have HNa := Lib.hid (show ∀ q ∈ own v2, q ≠ qa from fun q hq => by have := HLa3.out; have := HSZ.out; rcases hs q hq with h | h; (have := HV.out q h; omega); omega)
        have HBb4 := Lib.hid (hk.heap HBb3.out (fun hq => by have := HFR.out _ hq; have := HLb3.out; have := HSZ.out; omega))
        have HLb4 := Lib.hid (show w1.heap.size ≤ qb ∧ qb < Y4.heap.size from ⟨HLb3.out.1, Nat.lt_of_lt_of_le HLb3.out.2 hk.size⟩)
        have HNb := Lib.hid (show ∀ q ∈ own v2, q ≠ qb from fun q hq => by have := HLb3.out; have := HSZ.out; rcases hs q hq with h | h; (have := HV.out q h; omega); omega)
        clear hq hk hs
        refine hK.out _ _ ?_ (fun hHeld => ?_)
        · exact (by rw [HSE.out]; exact HK4.out)
        clear hK K
        try simp only [Act.put, lsA, lsZ, lsS]
        apply wpAnyH_take (i := 7)
        · simp only [List.getElem?_toArray]; rfl
        iterate 3 (· kernel_rfl)
        · exact fun _ _ _ h => h
        · exact Or.inl ⟨by rfl, by intro w hSw; go_simp; try with_reducible rfl⟩
        · assumption
        try simp only [Act.put, lsA, lsZ, lsS]
        apply wpAnyH_take (i := 8)
        · simp only [List.getElem?_toArray]; rfl
        iterate 3 (· kernel_rfl)
        · exact fun _ _ _ h => h
        · exact Or.inl ⟨by rfl, by intro w hSw; go_simp; try with_reducible rfl⟩
        · assumption
        try simp only [Act.put, lsA, lsZ, lsS]
        apply wpAnyH_take (i := 9)
        · simp only [List.getElem?_toArray]; rfl
        iterate 3 (· kernel_rfl)
        · exact fun _ _ _ h => h
        · exact Or.inl ⟨by rfl, by intro w hSw; go_simp; try with_reducible rfl⟩
        · assumption
        try simp only [Act.put, lsA, lsZ, lsS]
        apply wpAnyH_ready (rs := [12])
        · kernel_rfl
        · simp
        apply AllReadyH.cons (hs := AllReadyH.nil)
        · simp only [List.getElem?_toArray]; rfl
        intro K hK
        rw [if_pos (by rfl)]
        refine wp_putQ rfl (g := qa) (old := .slice none 0 0) (z := v2) rfl rfl HBa4.out (QF.one HQ4.out) (fun W2 hW2 hk2 => ?_)
        have HW2 := Lib.hid hW2
        have HA2 := Lib.hid (hk2.heap HBb4.out (by have := HNE.out; simp; omega))
        have HK2 := Lib.hid (HK4.out.trans hk2 (fun q hq => .inr (by simp at hq; have := HLa4.out; have := HSZ.out; omega)))
        have HQ2 := Lib.hid (HQ4.out.keeps hk2 (fun q hq => by have := HNa.out q hq; simpa using this))
        clear hW2 hk2
        refine hK.out _ _ ?_ (fun hHeld => ?_)
        · exact (by rw [HSE.out]; exact HK2.out)
        clear hK K
        try simp only [Act.put, lsA, lsZ, lsS]
        apply wpAnyH_ready (rs := [13])
        · kernel_rfl
        · simp
        apply AllReadyH.cons (hs := AllReadyH.nil)
        · simp only [List.getElem?_toArray]; rfl
        intro K hK
        rw [if_pos (by rfl)]
        refine wp_putN rfl (g := qb) (old := ⟨0, 0⟩) y rfl rfl HA2.out (fun W3 hW3 hk3 => ?_)
        have HW3 := Lib.hid hW3
        have HS3 := Lib.hid (hk3.heap HW2.out (by have := HNE.out; simp; omega))
        have HK3 := Lib.hid (HK2.out.trans hk3 (fun q hq => .inr (by simp at hq; have := HLb4.out; have := HSZ.out; omega)))
        have HQ3 := Lib.hid (HQ2.out.keeps hk3 (fun q hq => by have := HNb.out q hq; simpa using this))
        clear hW3 hk3
        refine hK.out _ _ ?_ (fun hHeld => ?_)
        · exact (by rw [HSE.out]; exact HK3.out)
        clear hK K
        try simp only [Act.put, lsA, lsZ, lsS]
        refine wpAnyH_done (by kernel_rfl) ?_ _
        refine NoPanic.normal ?_
        exact ⟨rfl, qa, qb, v2, _, _, _, _, _, _, _, _, _, _, rfl, HS3.out, HW3.out, Nat.le_trans HSZ.out HLa4.out.1, Nat.le_trans HSZ.out HLb4.out.1, HOW.out, HQ3.out, HK3.out⟩
      apply AllReadyH.cons (hs := AllReadyH.nil)
      · simp only [List.getElem?_toArray]; rfl
      intro K hK
      rw [if_pos (by rfl)]
      refine wp_allocN _ _ _ _ rfl ?_
      have hk : Keeps [] Y0 (Y0.alloc (.cells (ansC ⟨0, 0⟩).toArray 25)) := (Keeps.refl _ _).alloc _
      have hb := heap_alloc_new Y0 (.cells (ansC ⟨0, 0⟩).toArray 25)
      have hz : (Y0.alloc (.cells (ansC ⟨0, 0⟩).toArray 25)).heap.size = Y0.heap.size + 1 := Array.size_push _
      obtain ⟨qb, hqb⟩ : ∃ q, q = Y0.heap.size := ⟨_, rfl⟩
      rw [← hqb] at hb hz ⊢
      generalize Y0.alloc (.cells (ansC ⟨0, 0⟩).toArray 25) = Y1 at *
      have HK1 := Lib.hid (HK0.out.trans hk (FSub.refl _ _))
      have HQ1 := Lib.hid (HQ0.out.keeps hk (by simp))
      have HBb1 := Lib.hid hb
      have HLb1 := Lib.hid (show w1.heap.size ≤ qb ∧ qb < Y1.heap.size from ⟨by have := HK0.out.size; omega, by omega⟩)
      clear hk hb hz hqb
      refine hK.out _ _ ?_ (fun hHeld => ?_)
      · exact (by rw [HSE.out]; exact HK1.out.more (by simp))
      clear hK K
      try simp only [Act.put, lsA, lsZ, lsS]
      apply wpAnyH_ready (rs := [0, 10])
      · kernel_rfl
      · simp
      apply AllReadyH.cons
      · simp only [List.getElem?_toArray]; rfl
      · intro K hK
        rw [if_pos (by rfl)]
        refine wp_call9 181 _ _ rfl [] rfl Tryz.func181 (by kernel_rfl) (by kernel_rfl) ((quSteps_any Y1).mono ?_)
        rintro e Y2 ⟨rfl, hk⟩
        refine ⟨_, rfl, ?_⟩
        have HK2 := Lib.hid (HK1.out.trans hk (FSub.refl _ _))
        have HQ2 := Lib.hid (HQ1.out.keeps hk (by simp))
        have HBb2 := Lib.hid (hk.heap HBb1.out (by simp))
        have HLb2 := Lib.hid (show w1.heap.size ≤ qb ∧ qb < Y2.heap.size from ⟨HLb1.out.1, Nat.lt_of_lt_of_le HLb1.out.2 hk.size⟩)
        clear hk
        refine hK.out _ _ ?_ (fun hHeld => ?_)
        · exact (by rw [HSE.out]; exact HK2.out.more (by simp))
        clear hK K
        try simp only [Act.put, lsA, lsZ, lsS]
        apply wpAnyH_take (i := 3)
        · simp only [List.getElem?_toArray]; rfl
        iterate 3 (· kernel_rfl)
        · exact fun _ _ _ h => h
        · exact yields_idxS (by rfl) (.tmp 18) (.tmp 20) rfl rfl rfl HF.out
        · assumption
        try simp only [Act.put, lsA, lsZ, lsS]
        apply wpAnyH_ready (rs := [6, 10])
        · kernel_rfl
        · simp
        apply AllReadyH.cons
        · simp only [List.getElem?_toArray]; rfl
        · intro K hK
          rw [if_pos (by rfl)]
          refine wp_callV (k := quKs x.f) _ _ _ rfl rfl [.agg #[v], x.val] rfl (quKs_func x.f) ((HACT.out Y2 (by have := HBS.out; have := HSZ.out; have := HK2.out.size; omega) HQ2.out).mono ?_)
          rintro e Y3 ⟨v2, rfl, hq, hk, hs⟩
          refine ⟨_, rfl, ?_⟩
          have HK3 := Lib.hid ((HK2.out.more (by simp)).trans hk (FSub.refl _ _))
          have HQ3 := Lib.hid hq
          have HOW := Lib.hid (show ∀ q ∈ own v2, q ∈ own v ∨ R + 4 ≤ q from fun q hq => (hs q hq).imp id (fun h => by have := HSZ.out; have := HK2.out.size; omega))
          have HBb3 := Lib.hid (hk.heap HBb2.out (fun hq => by have := HFR.out _ hq; have := HLb2.out; have := HSZ.out; omega))
          have HLb3 := Lib.hid (show w1.heap.size ≤ qb ∧ qb < Y3.heap.size from ⟨HLb2.out.1, Nat.lt_of_lt_of_le HLb2.out.2 hk.size⟩)
          have HNb := Lib.hid (show ∀ q ∈ own v2, q ≠ qb from fun q hq => by have := HLb2.out; have := HSZ.out; rcases hs q hq with h | h; (have := HV.out q h; omega); omega)
          clear hq hk hs
          refine hK.out _ _ ?_ (fun hHeld => ?_)
          · exact (by rw [HSE.out]; exact HK3.out)
          clear hK K
          try simp only [Act.put, lsA, lsZ, lsS]
          apply wpAnyH_take (i := 7)
          · simp only [List.getElem?_toArray]; rfl
          iterate 3 (· kernel_rfl)
          · exact fun _ _ _ h => h
          · exact Or.inl ⟨by rfl, by intro w hSw; go_simp; try with_reducible rfl⟩
          · assumption
          try simp only [Act.put, lsA, lsZ, lsS]
          apply wpAnyH_take (i := 8)
          · simp only [List.getElem?_toArray]; rfl
          iterate 3 (· kernel_rfl)
          · exact fun _ _ _ h => h
          · exact Or.inl ⟨by rfl, by intro w hSw; go_simp; try with_reducible rfl⟩
          · assumption
          try simp only [Act.put, lsA, lsZ, lsS]
          apply wpAnyH_take (i := 9)
          · simp only [List.getElem?_toArray]; rfl
          iterate 3 (· kernel_rfl)
          · exact fun _ _ _ h => h
          · exact Or.inl ⟨by rfl, by intro w hSw; go_simp; try with_reducible rfl⟩
          · assumption
          try simp only [Act.put, lsA, lsZ, lsS]
          apply wpAnyH_ready (rs := [10])
          · kernel_rfl
          · simp
          apply AllReadyH.cons (hs := AllReadyH.nil)
          · simp only [List.getElem?_toArray]; rfl
          intro K hK
          rw [if_pos (by rfl)]
          refine wp_allocQ _ _ _ _ rfl ?_
          have hk : Keeps [] Y3 (Y3.alloc (.cells #[.slice none 0 0] 184)) := (Keeps.refl _ _).alloc _
          have hb := heap_alloc_new Y3 (.cells #[.slice none 0 0] 184)
          have hz : (Y3.alloc (.cells #[.slice none 0 0] 184)).heap.size = Y3.heap.size + 1 := Array.size_push _
          obtain ⟨qa, hqa⟩ : ∃ q, q = Y3.heap.size := ⟨_, rfl⟩
          rw [← hqa] at hb hz ⊢
          generalize Y3.alloc (.cells #[.slice none 0 0] 184) = Y4 at *
          have HK4 := Lib.hid (HK3.out.trans hk (fun q hq => by simp at hq))
          have HQ4 := Lib.hid (HQ3.out.keeps hk (by simp))
          have HBb4 := Lib.hid (hk.heap HBb3.out (by simp))
          have HLb4 := Lib.hid (show w1.heap.size ≤ qb ∧ qb < Y4.heap.size from ⟨HLb3.out.1, Nat.lt_of_lt_of_le HLb3.out.2 hk.size⟩)
          have HBa4 := Lib.hid hb
          have HLa4 := Lib.hid (show w1.heap.size ≤ qa ∧ qa < Y4.heap.size from ⟨by have := HK3.out.size; omega, by omega⟩)
          have HNE := Lib.hid (show qa ≠ qb from by have := HLb3.out; omega)
          have HNa := Lib.hid (show ∀ q ∈ own v2, q ≠ qa from fun q hq => by have := HQ3.out.in_.old q hq; omega)
          clear hk hb hz hqa
          refine hK.out _ _ ?_ (fun hHeld => ?_)
          · exact (by rw [HSE.out]; exact HK4.out)
          clear hK K
          try simp only [Act.put, lsA, lsZ, lsS]
          apply wpAnyH_ready (rs := [12])
          · kernel_rfl
          · simp
          apply AllReadyH.cons (hs := AllReadyH.nil)
          · simp only [List.getElem?_toArray]; rfl
          intro K hK
          rw [if_pos (by rfl)]
          refine wp_putQ rfl (g := qa) (old := .slice none 0 0) (z := v2) rfl rfl HBa4.out (QF.one HQ4.out) (fun W2 hW2 hk2 => ?_)
          have HW2 := Lib.hid hW2
          have HA2 := Lib.hid (hk2.heap HBb4.out (by have := HNE.out; simp; omega))
          have HK2 := Lib.hid (HK4.out.trans hk2 (fun q hq => .inr (by simp at hq; have := HLa4.out; have := HSZ.out; omega)))
          have HQ2 := Lib.hid (HQ4.out.keeps hk2 (fun q hq => by have := HNa.out q hq; simpa using this))
          clear hW2 hk2
          refine hK.out _ _ ?_ (fun hHeld => ?_)
          · exact (by rw [HSE.out]; exact HK2.out)
          clear hK K
          try simp only [Act.put, lsA, lsZ, lsS]
          apply wpAnyH_ready (rs := [13])
          · kernel_rfl
          · simp
          apply AllReadyH.cons (hs := AllReadyH.nil)
          · simp only [List.getElem?_toArray]; rfl
          intro K hK
          rw [if_pos (by rfl)]
          refine wp_putN rfl (g := qb) (old := ⟨0, 0⟩) y rfl rfl HA2.out (fun W3 hW3 hk3 => ?_)
          have HW3 := Lib.hid hW3
          have HS3 := Lib.hid (hk3.heap HW2.out (by have := HNE.out; simp; omega))
          have HK3 := Lib.hid (HK2.out.trans hk3 (fun q hq => .inr (by simp at hq; have := HLb4.out; have := HSZ.out; omega)))
          have HQ3 := Lib.hid (HQ2.out.keeps hk3 (fun q hq => by have := HNb.out q hq; simpa using this))
          clear hW3 hk3
          refine hK.out _ _ ?_ (fun hHeld => ?_)
          · exact (by rw [HSE.out]; exact HK3.out)
          clear hK K
          try simp only [Act.put, lsA, lsZ, lsS]
          refine wpAnyH_done (by kernel_rfl) ?_ _
          refine NoPanic.normal ?_
          exact ⟨rfl, qa, qb, v2, _, _, _, _, _, _, _, _, _, _, rfl, HS3.out, HW3.out, Nat.le_trans HSZ.out HLa4.out.1, Nat.le_trans HSZ.out HLb4.out.1, HOW.out, HQ3.out, HK3.out⟩
        apply AllReadyH.cons (hs := AllReadyH.nil)
        · simp only [List.getElem?_toArray]; rfl
        intro K hK
        rw [if_pos (by rfl)]
        refine wp_allocQ _ _ _ _ rfl ?_
        have hk : Keeps [] Y2 (Y2.alloc (.cells #[.slice none 0 0] 184)) := (Keeps.refl _ _).alloc _
        have hb := heap_alloc_new Y2 (.cells #[.slice none 0 0] 184)
        have hz : (Y2.alloc (.cells #[.slice none 0 0] 184)).heap.size = Y2.heap.size + 1 := Array.size_push _
        obtain ⟨qa, hqa⟩ : ∃ q, q = Y2.heap.size := ⟨_, rfl⟩
        rw [← hqa] at hb hz ⊢
        generalize Y2.alloc (.cells #[.slice none 0 0] 184) = Y3 at *
        have HK3 := Lib.hid (HK2.out.trans hk (FSub.refl _ _))
        have HQ3 := Lib.hid (HQ2.out.keeps hk (by simp))
        have HBb3 := Lib.hid (hk.heap HBb2.out (by simp))
        have HLb3 := Lib.hid (show w1.heap.size ≤ qb ∧ qb < Y3.heap.size from ⟨HLb2.out.1, Nat.lt_of_lt_of_le HLb2.out.2 hk.size⟩)
        have HBa3 := Lib.hid hb
        have HLa3 := Lib.hid (show w1.heap.size ≤ qa ∧ qa < Y3.heap.size from ⟨by have := HK2.out.size; omega, by omega⟩)
        have HNE := Lib.hid (show qa ≠ qb from by have := HLb2.out; omega)
        clear hk hb hz hqa
        refine hK.out _ _ ?_ (fun hHeld => ?_)
        · exact (by rw [HSE.out]; exact HK3.out.more (by simp))
        clear hK K
        try simp only [Act.put, lsA, lsZ, lsS]
        apply wpAnyH_ready (rs := [6])
        · kernel_rfl
        · simp
        apply AllReadyH.cons (hs := AllReadyH.nil)
        · simp only [List.getElem?_toArray]; rfl
        intro K hK
        rw [if_pos (by rfl)]
        refine wp_callV (k := quKs x.f) _ _ _ rfl rfl [.agg #[v], x.val] rfl (quKs_func x.f) ((HACT.out Y3 (by have := HBS.out; have := HSZ.out; have := HK3.out.size; omega) HQ3.out).mono ?_)
        rintro e Y4 ⟨v2, rfl, hq, hk, hs⟩
        refine ⟨_, rfl, ?_⟩
        have HK4 := Lib.hid ((HK3.out.more (by simp)).trans hk (FSub.refl _ _))
        have HQ4 := Lib.hid hq
        have HOW := Lib.hid (show ∀ q ∈ own v2, q ∈ own v ∨ R + 4 ≤ q from fun q hq => (hs q hq).imp id (fun h => by have := HSZ.out; have := HK3.out.size; omega))
        have HBb4 := Lib.hid (hk.heap HBb3.out (fun hq => by have := HFR.out _ hq; have := HLb3.out; have := HSZ.out; omega))
        have HLb4 := Lib.hid (show w1.heap.size ≤ qb ∧ qb < Y4.heap.size from ⟨HLb3.out.1, Nat.lt_of_lt_of_le HLb3.out.2 hk.size⟩)
        have HNb := Lib.hid (show ∀ q ∈ own v2, q ≠ qb from fun q hq => by have := HLb3.out; have := HSZ.out; rcases hs q hq with h | h; (have := HV.out q h; omega); omega)
        have HBa4 := Lib.hid (hk.heap HBa3.out (fun hq => by have := HFR.out _ hq; have := HLa3.out; have := HSZ.out; omega))
        have HLa4 := Lib.hid (show w1.heap.size ≤ qa ∧ qa < Y4.heap.size from ⟨HLa3.out.1, Nat.lt_of_lt_of_le HLa3.out.2 hk.size⟩)
        have HNa := Lib.hid (show ∀ q ∈ own v2, q ≠ qa from fun q hq => by have := HLa3.out; have := HSZ.out; rcases hs q hq with h | h; (have := HV.out q h; omega); omega)
        clear hq hk hs
        refine hK.out _ _ ?_ (fun hHeld => ?_)
        · exact (by rw [HSE.out]; exact HK4.out)
        clear hK K
        try simp only [Act.put, lsA, lsZ, lsS]
        apply wpAnyH_take (i := 7)
        · simp only [List.getElem?_toArray]; rfl
        iterate 3 (· kernel_rfl)
        · exact fun _ _ _ h => h
        · exact Or.inl ⟨by rfl, by intro w hSw; go_simp; try with_reducible rfl⟩
        · assumption
        try simp only [Act.put, lsA, lsZ, lsS]
        apply wpAnyH_take (i := 8)
        · simp only [List.getElem?_toArray]; rfl
        iterate 3 (· kernel_rfl)
        · exact fun _ _ _ h => h
        · exact Or.inl ⟨by rfl, by intro w hSw; go_simp; try with_reducible rfl⟩
        · assumption
        try simp only [Act.put, lsA, lsZ, lsS]
        apply wpAnyH_take (i := 9)
        · simp only [List.getElem?_toArray]; rfl
        iterate 3 (· kernel_rfl)
        · exact fun _ _ _ h => h
        · exact Or.inl ⟨by rfl, by intro w hSw; go_simp; try with_reducible rfl⟩
        · assumption
        try simp only [Act.put, lsA, lsZ, lsS]
        apply wpAnyH_ready (rs := [12])
        · kernel_rfl
        · simp
        apply AllReadyH.cons (hs := AllReadyH.nil)
        · simp only [List.getElem?_toArray]; rfl
        intro K hK
        rw [if_pos (by rfl)]
        refine wp_putQ rfl (g := qa) (old := .slice none 0 0) (z := v2) rfl rfl HBa4.out (QF.one HQ4.out) (fun W2 hW2 hk2 => ?_)
        have HW2 := Lib.hid hW2
        have HA2 := Lib.hid (hk2.heap HBb4.out (by have := HNE.out; simp; omega))
        have HK2 := Lib.hid (HK4.out.trans hk2 (fun q hq => .inr (by simp at hq; have := HLa4.out; have := HSZ.out; omega)))
        have HQ2 := Lib.hid (HQ4.out.keeps hk2 (fun q hq => by have := HNa.out q hq; simpa using this))
        clear hW2 hk2
        refine hK.out _ _ ?_ (fun hHeld => ?_)
        · exact (by rw [HSE.out]; exact HK2.out)
        clear hK K
        try simp only [Act.put, lsA, lsZ, lsS]
        apply wpAnyH_ready (rs := [13])
        · kernel_rfl
        · simp
        apply AllReadyH.cons (hs := AllReadyH.nil)
        · simp only [List.getElem?_toArray]; rfl
        intro K hK
        rw [if_pos (by rfl)]
        refine wp_putN rfl (g := qb) (old := ⟨0, 0⟩) y rfl rfl HA2.out (fun W3 hW3 hk3 => ?_)
        have HW3 := Lib.hid hW3
        have HS3 := Lib.hid (hk3.heap HW2.out (by have := HNE.out; simp; omega))
        have HK3 := Lib.hid (HK2.out.trans hk3 (fun q hq => .inr (by simp at hq; have := HLb4.out; have := HSZ.out; omega)))
        have HQ3 := Lib.hid (HQ2.out.keeps hk3 (fun q hq => by have := HNb.out q hq; simpa using this))
        clear hW3 hk3
        refine hK.out _ _ ?_ (fun hHeld => ?_)
        · exact (by rw [HSE.out]; exact HK3.out)
        clear hK K
        try simp only [Act.put, lsA, lsZ, lsS]
        refine wpAnyH_done (by kernel_rfl) ?_ _
        refine NoPanic.normal ?_
        exact ⟨rfl, qa, qb, v2, _, _, _, _, _, _, _, _, _, _, rfl, HS3.out, HW3.out, Nat.le_trans HSZ.out HLa4.out.1, Nat.le_trans HSZ.out HLb4.out.1, HOW.out, HQ3.out, HK3.out⟩
      apply AllReadyH.cons (hs := AllReadyH.nil)
      · simp only [List.getElem?_toArray]; rfl
      intro K hK
      rw [if_pos (by rfl)]
      refine wp_allocQ _ _ _ _ rfl ?_
      have hk : Keeps [] Y1 (Y1.alloc (.cells #[.slice none 0 0] 184)) := (Keeps.refl _ _).alloc _
      have hb := heap_alloc_new Y1 (.cells #[.slice none 0 0] 184)
      have hz : (Y1.alloc (.cells #[.slice none 0 0] 184)).heap.size = Y1.heap.size + 1 := Array.size_push _
      obtain ⟨qa, hqa⟩ : ∃ q, q = Y1.heap.size := ⟨_, rfl⟩
      rw [← hqa] at hb hz ⊢
      generalize Y1.alloc (.cells #[.slice none 0 0] 184) = Y2 at *
      have HK2 := Lib.hid (HK1.out.trans hk (FSub.refl _ _))
      have HQ2 := Lib.hid (HQ1.out.keeps hk (by simp))
      have HBb2 := Lib.hid (hk.heap HBb1.out (by simp))
      have HLb2 := Lib.hid (show w1.heap.size ≤ qb ∧ qb < Y2.heap.size from ⟨HLb1.out.1, Nat.lt_of_lt_of_le HLb1.out.2 hk.size⟩)
      have HBa2 := Lib.hid hb
      have HLa2 := Lib.hid (show w1.heap.size ≤ qa ∧ qa < Y2.heap.size from ⟨by have := HK1.out.size; omega, by omega⟩)
      have HNE := Lib.hid (show qa ≠ qb from by have := HLb1.out; omega)
      clear hk hb hz hqa
      refine hK.out _ _ ?_ (fun hHeld => ?_)
      · exact (by rw [HSE.out]; exact HK2.out.more (by simp))
      clear hK K
      try simp only [Act.put, lsA, lsZ, lsS]
      apply wpAnyH_ready (rs := [0])
      · kernel_rfl
      · simp
      apply AllReadyH.cons (hs := AllReadyH.nil)
      · simp only [List.getElem?_toArray]; rfl
      intro K hK
      rw [if_pos (by rfl)]
      refine wp_call9 181 _ _ rfl [] rfl Tryz.func181 (by kernel_rfl) (by kernel_rfl) ((quSteps_any Y2).mono ?_)
      rintro e Y3 ⟨rfl, hk⟩
      refine ⟨_, rfl, ?_⟩
      have HK3 := Lib.hid (HK2.out.trans hk (FSub.refl _ _))
      have HQ3 := Lib.hid (HQ2.out.keeps hk (by simp))
      have HBb3 := Lib.hid (hk.heap HBb2.out (by simp))
      have HLb3 := Lib.hid (show w1.heap.size ≤ qb ∧ qb < Y3.heap.size from ⟨HLb2.out.1, Nat.lt_of_lt_of_le HLb2.out.2 hk.size⟩)
      have HBa3 := Lib.hid (hk.heap HBa2.out (by simp))
      have HLa3 := Lib.hid (show w1.heap.size ≤ qa ∧ qa < Y3.heap.size from ⟨HLa2.out.1, Nat.lt_of_lt_of_le HLa2.out.2 hk.size⟩)
      clear hk
      refine hK.out _ _ ?_ (fun hHeld => ?_)
      · exact (by rw [HSE.out]; exact HK3.out.more (by simp))
      clear hK K
      try simp only [Act.put, lsA, lsZ, lsS]
      apply wpAnyH_take (i := 3)
      · simp only [List.getElem?_toArray]; rfl
      iterate 3 (· kernel_rfl)
      · exact fun _ _ _ h => h
      · exact yields_idxS (by rfl) (.tmp 18) (.tmp 20) rfl rfl rfl HF.out
      · assumption
      try simp only [Act.put, lsA, lsZ, lsS]
      apply wpAnyH_ready (rs := [6])
      · kernel_rfl
      · simp
      apply AllReadyH.cons (hs := AllReadyH.nil)
      · simp only [List.getElem?_toArray]; rfl
      intro K hK
      rw [if_pos (by rfl)]
      refine wp_callV (k := quKs x.f) _ _ _ rfl rfl [.agg #[v], x.val] rfl (quKs_func x.f) ((HACT.out Y3 (by have := HBS.out; have := HSZ.out; have := HK3.out.size; omega) HQ3.out).mono ?_)
      rintro e Y4 ⟨v2, rfl, hq, hk, hs⟩
      refine ⟨_, rfl, ?_⟩
      have HK4 := Lib.hid ((HK3.out.more (by simp)).trans hk (FSub.refl _ _))
      have HQ4 := Lib.hid hq
      have HOW := Lib.hid (show ∀ q ∈ own v2, q ∈ own v ∨ R + 4 ≤ q from fun q hq => (hs q hq).imp id (fun h => by have := HSZ.out; have := HK3.out.size; omega))
      have HBb4 := Lib.hid (hk.heap HBb3.out (fun hq => by have := HFR.out _ hq; have := HLb3.out; have := HSZ.out; omega))
      have HLb4 := Lib.hid (show w1.heap.size ≤ qb ∧ qb < Y4.heap.size from ⟨HLb3.out.1, Nat.lt_of_lt_of_le HLb3.out.2 hk.size⟩)
      have HNb := Lib.hid (show ∀ q ∈ own v2, q ≠ qb from fun q hq => by have := HLb3.out; have := HSZ.out; rcases hs q hq with h | h; (have := HV.out q h; omega); omega)
      have HBa4 := Lib.hid (hk.heap HBa3.out (fun hq => by have := HFR.out _ hq; have := HLa3.out; have := HSZ.out; omega))
      have HLa4 := Lib.hid (show w1.heap.size ≤ qa ∧ qa < Y4.heap.size from ⟨HLa3.out.1, Nat.lt_of_lt_of_le HLa3.out.2 hk.size⟩)
      have HNa := Lib.hid (show ∀ q ∈ own v2, q ≠ qa from fun q hq => by have := HLa3.out; have := HSZ.out; rcases hs q hq with h | h; (have := HV.out q h; omega); omega)
      clear hq hk hs
      refine hK.out _ _ ?_ (fun hHeld => ?_)
      · exact (by rw [HSE.out]; exact HK4.out)
      clear hK K
      try simp only [Act.put, lsA, lsZ, lsS]
      apply wpAnyH_take (i := 7)
      · simp only [List.getElem?_toArray]; rfl
      iterate 3 (· kernel_rfl)
      · exact fun _ _ _ h => h
      · exact Or.inl ⟨by rfl, by intro w hSw; go_simp; try with_reducible rfl⟩
      · assumption
      try simp only [Act.put, lsA, lsZ, lsS]
      apply wpAnyH_take (i := 8)
      · simp only [List.getElem?_toArray]; rfl
      iterate 3 (· kernel_rfl)
      · exact fun _ _ _ h => h
      · exact Or.inl ⟨by rfl, by intro w hSw; go_simp; try with_reducible rfl⟩
      · assumption
      try simp only [Act.put, lsA, lsZ, lsS]
      apply wpAnyH_take (i := 9)
      · simp only [List.getElem?_toArray]; rfl
      iterate 3 (· kernel_rfl)
      · exact fun _ _ _ h => h
      · exact Or.inl ⟨by rfl, by intro w hSw; go_simp; try with_reducible rfl⟩
      · assumption
      try simp only [Act.put, lsA, lsZ, lsS]
      apply wpAnyH_ready (rs := [12])
      · kernel_rfl
      · simp
      apply AllReadyH.cons (hs := AllReadyH.nil)
      · simp only [List.getElem?_toArray]; rfl
      intro K hK
      rw [if_pos (by rfl)]
      refine wp_putQ rfl (g := qa) (old := .slice none 0 0) (z := v2) rfl rfl HBa4.out (QF.one HQ4.out) (fun W2 hW2 hk2 => ?_)
      have HW2 := Lib.hid hW2
      have HA2 := Lib.hid (hk2.heap HBb4.out (by have := HNE.out; simp; omega))
      have HK2 := Lib.hid (HK4.out.trans hk2 (fun q hq => .inr (by simp at hq; have := HLa4.out; have := HSZ.out; omega)))
      have HQ2 := Lib.hid (HQ4.out.keeps hk2 (fun q hq => by have := HNa.out q hq; simpa using this))
      clear hW2 hk2
      refine hK.out _ _ ?_ (fun hHeld => ?_)
      · exact (by rw [HSE.out]; exact HK2.out)
      clear hK K
      try simp only [Act.put, lsA, lsZ, lsS]
      apply wpAnyH_ready (rs := [13])
      · kernel_rfl
      · simp
      apply AllReadyH.cons (hs := AllReadyH.nil)
      · simp only [List.getElem?_toArray]; rfl
      intro K hK
      rw [if_pos (by rfl)]
      refine wp_putN rfl (g := qb) (old := ⟨0, 0⟩) y rfl rfl HA2.out (fun W3 hW3 hk3 => ?_)
      have HW3 := Lib.hid hW3
      have HS3 := Lib.hid (hk3.heap HW2.out (by have := HNE.out; simp; omega))
      have HK3 := Lib.hid (HK2.out.trans hk3 (fun q hq => .inr (by simp at hq; have := HLb4.out; have := HSZ.out; omega)))
      have HQ3 := Lib.hid (HQ2.out.keeps hk3 (fun q hq => by have := HNb.out q hq; simpa using this))
      clear hW3 hk3
      refine hK.out _ _ ?_ (fun hHeld => ?_)
      · exact (by rw [HSE.out]; exact HK3.out)
      clear hK K
      try simp only [Act.put, lsA, lsZ, lsS]
      refine wpAnyH_done (by kernel_rfl) ?_ _
      refine NoPanic.normal ?_
      exact ⟨rfl, qa, qb, v2, _, _, _, _, _, _, _, _, _, _, rfl, HS3.out, HW3.out, Nat.le_trans HSZ.out HLa4.out.1, Nat.le_trans HSZ.out HLb4.out.1, HOW.out, HQ3.out, HK3.out⟩
    · rintro e a' w2 ⟨rfl, qa, qb, v2, u1, u2, u3, u4, u5, u6, u7, u8, u9, u10, rfl, hqa, hqb, hla, hlb, how, hq, hk⟩
      clear HSE HS0 HS1 HS2 hSD hd0 S HACT
      obtain ⟨S, hS⟩ : ∃ S : World → Prop, S = fun y => Keeps [R + 2, R + 3] w2 y := ⟨_, rfl⟩
      have HSE := Lib.hid hS
      have hSD : S w2.drew := by rw [hS]; exact (Keeps.refl _ _).drew
      have HS0 := Lib.hid (fun (w' : World) (h : S w') => show w'.cell? ⟨qa, 0, none⟩ = some v2 from by rw [hS] at h; exact h.cell (cell_lit hqa 0 rfl) (by simp; omega))
      have HS1 := Lib.hid (fun (w' : World) (h : S w') => show w'.rangeAt qb 0 (ansC y) from by
        rw [hS] at h
        intro j v hv
        rw [Nat.zero_add]
        exact h.cell (cell_lit hqb j (by simpa using hv)) (by simp; omega))
      have HB2 := Lib.hid (hk.heap H2.out (fun hq => by have := HFR.out _ hq; omega))
      have HB3 := Lib.hid (hk.heap H3.out (fun hq => by have := HFR.out _ hq; omega))
      have HK := Lib.hid hk; have HQ2 := Lib.hid hq; have HOW := Lib.hid how
      clear hS hqa hqb hla hlb hk hq how
      go_wp2_with fail
      refine wp_region_noPanic ?_
      refine wp_region_held_drew (S := S) (by kernel_rfl) hSD (fun hHeld => ?_)
      apply wpAnyH_take (i := 0)
      · simp only [List.getElem?_toArray]; rfl
      iterate 3 (· kernel_rfl)
      · exact fun _ _ _ h => h
      · exact yields_loadQ (by rfl) (.tmp 8) rfl qa rfl v2 HS0.out
      · assumption
      try simp only [Act.put, lsA, lsZ, lsS]
      apply wpAnyH_take (i := 1)
      · simp only [List.getElem?_toArray]; rfl
      iterate 3 (· kernel_rfl)
      · exact fun _ _ _ h => h
      · exact yields_ansC (by rfl) _ rfl qb 0 rfl y HS1.out
      · assumption
      try simp only [Act.put, lsA, lsZ, lsS]
      apply wpAnyH_ready (rs := [2])
      · kernel_rfl
      · simp
      apply AllReadyH.cons (hs := AllReadyH.nil)
      · simp only [List.getElem?_toArray]; rfl
      intro K hK
      rw [if_pos (by rfl)]
      refine wp_putQ rfl (g := R + 2) (old := .slice none 0 0) (z := v2) rfl rfl HB2.out (QF.one HQ2.out) (fun W2 hW2 hk2 => ?_)
      have HW2 := Lib.hid hW2
      have HA2 := Lib.hid (hk2.heap HB3.out (by simp))
      have HK2 := Lib.hid (show Keeps [R + 2, R + 3] w2 W2 from ((Keeps.refl _ _).drew).step hk2 (by simp))
      clear hW2 hk2
      refine hK.out _ _ ?_ (fun hHeld => ?_)
      · exact (by rw [HSE.out]; exact HK2.out)
      clear hK K
      try simp only [Act.put, lsA, lsZ, lsS]
      apply wpAnyH_ready (rs := [3])
      · kernel_rfl
      · simp
      apply AllReadyH.cons (hs := AllReadyH.nil)
      · simp only [List.getElem?_toArray]; rfl
      intro K hK
      rw [if_pos (by rfl)]
      refine wp_putN rfl (g := R + 3) (old := ⟨0, 0⟩) y rfl rfl HA2.out (fun W3 hW3 hk3 => ?_)
      have HW3 := Lib.hid hW3
      have HS3 := Lib.hid (hk3.heap HW2.out (by simp))
      have HK3 := Lib.hid (HK2.out.step hk3 (by simp))
      clear hW3 hk3
      refine hK.out _ _ ?_ (fun hHeld => ?_)
      · exact (by rw [HSE.out]; exact HK3.out)
      clear hK K
      try simp only [Act.put, lsA, lsZ, lsS]
      apply wpAnyH_take (i := 4)
      · simp only [List.getElem?_toArray]; rfl
      iterate 3 (· kernel_rfl)
      · exact fun _ _ _ h => h
      · exact Or.inl ⟨by rfl, by intro w hSw; go_simp; try with_reducible rfl⟩
      · assumption
      try simp only [Act.put, lsA, lsZ, lsS]
      refine wpAnyH_done (by kernel_rfl) ?_ _
      refine NoPanic.normal ?_
      go_wp2_with fail
      try simp only [Exit.inBlock, Exit.then]
      have hr : R + 4 ≤ w1.heap.size := HSZ.out
      have hown : ∀ q ∈ own v2, q < R ∨ R + 4 ≤ q := fun q hq => (HOW.out q hq).imp (HV.out q) id
      have hnot : ∀ q ∈ own v2, q ∉ [R + 2, R + 3] := fun q hq => by have := hown q hq; simp; omega
      refine bodyPost_ret (results_st3 rfl _ _ (R + 2) (R + 3) y rfl HS3.out rfl HW3.out) rfl ⟨v2, by rw [HE.out, ← HY.out]; rfl, by rw [← HM.out]; exact HQ2.out.keeps HK3.out hnot, ?_, fun q hq => (HOW.out q hq).imp id (fun h => by have := HRL.out; omega), fun h => absurd HE.out h⟩
      exact ((HKW.out.more (by simp)).trans HK.out (FSub.refl _ _)).trans HK3.out (fun q hq => .inr (by have := HRL.out; simp at hq; omega))
  · rw [hck]
    have HCK := Lib.hid (show opChk 1 x ≠ 0 from by rw [hck]; decide)
    clear hck
    have c0 : w1.cell? ⟨R, 0, none⟩ = some v := cell_lit H0.out 0 rfl
    have hone := HONE.out
    go_wp2_with ((with_reducible refine wpList_putQ (g := R + 1 + 1) (old := .slice none 0 0) (z := v) ?_ ?_ H2.out HONE.out ?_); exact rfl; exact rfl)
    intro W2 hW2 hk2
    have HW2 := Lib.hid hW2
    have HA2 := Lib.hid (hk2.heap H3.out (by simp))
    have HK2 := Lib.hid hk2
    clear hW2 hk2
    go_wp2_with ((with_reducible refine wpList_putN (g := R + 1 + 1 + 1) (old := ⟨0, 0⟩) ⟨0, 0⟩ ?_ ?_ HA2.out ?_); exact rfl; exact rfl)
    intro W3 hW3 hk3
    have HW3 := Lib.hid hW3
    have HS3 := Lib.hid (hk3.heap HW2.out (by simp))
    have HK3 := Lib.hid hk3
    clear hW3 hk3
    go_wp2_with fail
    try simp only [Exit.inBlock, Exit.then]
    have hkk : Keeps [] w W3 := (HKW.out.trans HK2.out (fun q hq => .inr (by have := HRL.out; simp at hq; omega))).trans HK3.out (fun q hq => .inr (by have := HRL.out; simp at hq; omega))
    refine bodyPost_ret (results_st3 rfl _ _ (R + 2) (R + 3) ⟨0, 0⟩ rfl HS3.out rfl HW3.out) rfl ⟨v, by rw [quX_chk HCK.out]; rfl, ?_, hkk.more (by simp), FSub.refl _ _, fun _ => rfl⟩
    rw [quX_chk HCK.out]
    exact HQ.out.keeps hkk (by simp)
end Go.Proofs.YtbnhcggjcdipeaaGreatDoor
