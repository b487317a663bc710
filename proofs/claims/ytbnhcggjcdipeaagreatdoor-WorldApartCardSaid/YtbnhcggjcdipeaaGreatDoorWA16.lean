/-
  The program's queue: the step of Deq.
-/
import Derived.Test.YtbnhcggjcdipeaaGreatDoorWA00
import Derived.Test.YtbnhcggjcdipeaaGreatDoorWA15
import Derived.Test.YtbnhcggjcdipeaaGreatDoorWA11
import Derived.Test.YtbnhcggjcdipeaaGreatDoorWA07
set_option linter.unusedSimpArgs false
set_option linter.unusedVariables false
namespace Go.Proofs.YtbnhcggjcdipeaaGreatDoor
open Go.RowKit
section
variable {o : Oper} {a : Act} {w : World} {K : Act → World → Prop} {Q : Exit → Act → World → Prop}
theorem wp_putQ {x y : Operand} (ho : o.op = .store 184 x y) {g : Nat} {old z : Value} {t : TypeId}
    (hx : a.eval x = .pointer (some ⟨g, 0, none⟩)) (hy : a.eval y = .agg #[z]) (hg : w.heap[g]? = some (.cells #[old] t (0, 0))) (h1 : z.oneCell' = true)
    (h : ∀ W, W.heap[g]? = some (.cells #[z] t (0, 0)) → Keeps [g] w W → K (a.put o.dst undef) W) : o.wp Tryz.prog a w K Q :=
  wp_store_row 184 x y ho g #[z] hx hy t #[old] hg (by kernel_rfl) rfl (by simp [h1]) (h _ (setRow_heap w g #[old] #[z] t (0, 0) hg) ((Keeps.refl [g] w).setRow g _ (.inl (by simp))))
end
theorem QF.tail {base : Nat} {w : World} {bk o n c : Nat} {y : Int} {r : List Int} (h : QF base w (.slice (some ⟨bk, o, none⟩) n c) (y :: r)) (hr : r ≠ []) : QF base w (.slice (some ⟨bk, o + 1, none⟩) r.length (c - 1)) r ∧ n = r.length + 1 ∧ n ≤ c ∧ c ≠ 1 := by
  obtain ⟨a, c2, e, hc, hm, hI⟩ := h.in_.1
  simp only [Value.slice.injEq] at e
  obtain ⟨rfl, rfl, rfl⟩ := e
  have hl : 0 < r.length := List.length_pos_iff.2 hr
  have hlen : (y :: r).length = r.length + 1 := rfl
  rw [hlen] at hc
  have ht := U16.tail h.in_.1 (A := some ⟨bk, o + 1, none⟩) (if_neg (by omega))
  refine ⟨⟨⟨ht, fun e => absurd e hr⟩, some ⟨bk, o + 1, none⟩, c - 1, rfl, ?_⟩, rfl, by omega, by omega⟩
  obtain ⟨a2, c3, e, hf⟩ := h.free
  simp only [Value.slice.injEq, true_and] at e
  obtain ⟨rfl, rfl⟩ := e
  rcases hf with hf | ⟨b2, o2, e, hb, hf⟩
  · rw [hlen] at hf
    exact .inl (by omega)
  · simp only [Option.some.injEq, Addr.mk.injEq, and_true] at e
    obtain ⟨rfl, rfl⟩ := e
    refine .inr ⟨bk, o + 1, rfl, hb, fun j hj => ?_⟩
    have := hf (j + 1) (by omega)
    rw [show o + (j + 1) = o + 1 + j by omega] at this
    exact this
set_option maxHeartbeats 8000000
set_option maxRecDepth 100000
theorem quDeq_none (w : World) (base : Nat) (x : Opn) :
    Calls Tryz.prog 198 #[.agg #[.slice none 0 0], x.val] w (StPost base w (.slice none 0 0) [] ⟨2, 0⟩) := by
  obtain ⟨W, hW⟩ : ∃ W, W = (((w.alloc (.cells #[.slice none 0 0] 184)).alloc (.cells #[.int .u8 x.f, .int .u8 x.o, .int .u8 x.k, .int .u16 x.a, .int .u16 x.b] 47)).alloc (.cells #[.slice none 0 0] 184)).alloc (.cells (ansC ⟨2, 0⟩).toArray 25) := ⟨_, rfl⟩
  obtain ⟨hk, -, -, h2, h3, hz⟩ := vars_q w _ _ W _ _ hW
  have H2 := Lib.hid h2; have H3 := Lib.hid h3; have HK := Lib.hid hk
  subst hW
  clear hk h2 h3 hz
  unfold Opn.val
  go_enter Tryz.func198, Tryz.ntmps198
  go_wp2_with fail
  try simp only [Exit.inBlock, Exit.then]
  exact bodyPost_ret (results_st2 rfl _ _ (w.heap.size + 2) (w.heap.size + 3) ⟨2, 0⟩ rfl H2.out rfl H3.out) rfl ⟨_, rfl, QF.nil _ _, HK.out.more (by simp), FSub.refl _ _⟩
theorem quDeq_more (w : World) {base : Nat} {v : Value} {y : Int} {r : List Int} (h : QF base w v (y :: r)) (hr : r ≠ []) (hl : r.length ≤ 1000000) (x : Opn) :
    Calls Tryz.prog 198 #[.agg #[v], x.val] w (StPost base w v r ⟨1, y⟩) := by
  obtain ⟨a, c, rfl, hc, hm⟩ := h.in_.shape
  obtain ⟨bk, o, rfl, hb, d0⟩ := U16.at (k := 0) h.in_.1 (by simp)
  rw [show (y :: r).getD 0 0 = y from rfl, Nat.add_zero] at d0
  obtain ⟨ht, hn, hc1, hc2⟩ := h.tail hr
  have hsl := fun w => U16.slice1 (bk := bk) (o := o) w (show 1 ≤ (y :: r).length by simp) hc
  rw [if_neg hc2, show (y :: r).length - 1 = r.length from rfl] at hsl
  have hlt : 0 < r.length := List.length_pos_iff.2 hr
  have hl2 : (y :: r).length = r.length + 1 := rfl
  rw [hl2] at hsl hc hc1 ⊢
  clear hn hl2
  obtain ⟨W, hW⟩ : ∃ W, W = (((w.alloc (.cells #[.slice (some ⟨bk, o, none⟩) (r.length + 1) c] 184)).alloc (.cells #[.int .u8 x.f, .int .u8 x.o, .int .u8 x.k, .int .u16 x.a, .int .u16 x.b] 47)).alloc (.cells #[.slice none 0 0] 184)).alloc (.cells (ansC ⟨0, 0⟩).toArray 25) := ⟨_, rfl⟩
  obtain ⟨hk, h0, -, h2, h3, hz⟩ := vars_q w _ _ W _ _ hW
  obtain ⟨R, hR⟩ : ∃ R, R = w.heap.size := ⟨_, rfl⟩
  rw [← hR] at h0 h2 h3 hz hb
  have HRL := Lib.hid (show w.heap.size ≤ R from Nat.le_of_eq hR.symm)
  obtain ⟨S, hS⟩ : ∃ S : World → Prop, S = fun y => Keeps [R + 2, R + 3] W y := ⟨_, rfl⟩
  have HSE := Lib.hid hS
  have hSD : S W.drew := by rw [hS]; exact (Keeps.refl _ _).drew
  have HS0 := Lib.hid (fun (w' : World) (hh : S w') => show w'.cell? ⟨R, 0, none⟩ = some (.slice (some ⟨bk, o, none⟩) (r.length + 1) c) from by rw [hS] at hh; exact hh.cell (cell_lit h0 0 rfl) (by simp))
  have HS1 := Lib.hid (fun (w' : World) (hh : S w') => show w'.cell? ⟨bk, o, none⟩ = some (.int .u16 y) from by rw [hS] at hh; exact hh.cell (hk.cell d0 (by simp)) (by simp; omega))
  have HSL := Lib.hid hsl
  have H2 := Lib.hid h2; have H3 := Lib.hid h3; have HK := Lib.hid hk
  have HT := Lib.hid (ht.keeps hk (by simp))
  have HB := Lib.hid hb
  simp only [show (ansC ⟨0, 0⟩).toArray = #[Value.int .u8 0, .int .u16 0] from rfl] at hW
  have e0 : ((r.length + 1 : Nat) : Int) ≠ 0 := by omega
  have e1 : ((r.length + 1 : Nat) : Int) ≠ 1 := by omega
  generalize hN : r.length + 1 = n at *
  generalize hN2 : r.length = n2 at *
  have f0 : ((n : Int) == 0) = false := by simpa using e0
  have f1 : ((n : Int) == 1) = false := by simpa using e1
  have i0 : 0 < n := by omega
  have HLT := Lib.hid hlt
  clear h hr hl hb d0 ht hsl hS h0 h2 h3 hz hk e0 e1 hN hN2 hlt hc1 hc2
  have HRR := Lib.hid hR; have HWW := Lib.hid hW
  clear hR hW
  unfold Opn.val
  go_enter Tryz.func198, Tryz.ntmps198
  go_wp2_with fail
  rw [← HRR.out, ← HWW.out]
  clear HRR HWW
  refine wp_region_noPanic ?_
  refine wp_region_held_drew (S := S) (by kernel_rfl) hSD (fun hHeld => ?_)
  refine tw 0 (h := ?_)
  refine tk 1 (y := by exact Or.inl ⟨by rfl, by intro w hSw; have q0 := HS0.out w hSw; go_simp; try with_reducible rfl⟩) (h := ?_)
  refine tk 2 (y := by exact yields_slice1 (by rfl) (.tmp 22) rfl (v := .slice (some ⟨bk, o, none⟩) n c) rfl HSL.out) (h := ?_)
  refine tw 3 (h := ?_)
  refine tw 4 (h := ?_)
  refine tk 5 (y := by exact Or.inl ⟨by rfl, by intro w hSw; have q0 := HS0.out w hSw; go_simp; try with_reducible rfl⟩) (h := ?_)
  refine tw 6 (h := ?_)
  refine tk 7 (y := by exact Or.inl ⟨by rfl, by intro w hSw; have q0 := HS1.out w hSw; go_simp; try with_reducible rfl⟩) (h := ?_)
  refine tw 8 (h := ?_)
  refine rp 9 (h := fun K hK => ?_)
  refine wp_putQ rfl (g := R + 2) (old := .slice none 0 0) (z := .slice (some ⟨bk, o + 1, none⟩) n2 (c - 1)) rfl rfl H2.out (slice_one _ _ _) (fun W2 hW2 hk2 => ?_)
  have HW2 := Lib.hid hW2
  have HA2 := Lib.hid (hk2.heap (show W.drew.heap[R + 3]? = _ from H3.out) (by simp))
  have HK2 := Lib.hid (show Keeps [R + 2, R + 3] W W2 from ((Keeps.refl _ _).drew).step hk2 (by simp))
  clear hW2 hk2
  refine hK.out _ _ (by rw [HSE.out]; exact HK2.out) (fun hHeld => ?_); clear hK K; try simp only [Act.put, lsA, lsZ, lsS]
  refine rp 10 (h := fun K hK => ?_)
  refine wp_putN rfl (g := R + 3) (old := ⟨0, 0⟩) ⟨1, y⟩ rfl rfl HA2.out (fun W3 hW3 hk3 => ?_)
  have HW3 := Lib.hid hW3
  have HS3 := Lib.hid (hk3.heap HW2.out (by simp))
  have HK3 := Lib.hid (HK2.out.step hk3 (by simp))
  clear hW3 hk3
  refine hK.out _ _ (by rw [HSE.out]; exact HK3.out) (fun hHeld => ?_); clear hK K; try simp only [Act.put, lsA, lsZ, lsS]
  refine wpAnyH_done (by kernel_rfl) ?_ _
  refine NoPanic.normal ?_
  go_wp2_with fail
  try simp only [Exit.inBlock, Exit.then]
  refine bodyPost_ret (results_st2 rfl _ _ (R + 2) (R + 3) ⟨1, y⟩ rfl HS3.out rfl HW3.out) rfl ⟨_, rfl, HT.out.keeps HK3.out (fun q hq => ?_), (HK.out.trans HK3.out (fun q hq => .inr (by have := HRL.out; simp at hq; omega))).more (by simp), fun q hq => .inl (by simpa [own, Value.ownBlock] using hq)⟩
  have := HB.out
  simp [own, Value.ownBlock] at hq
  simp; omega
theorem quDeq_one (w : World) {base : Nat} {v : Value} {y : Int} (h : QF base w v [y]) (x : Opn) :
    Calls Tryz.prog 198 #[.agg #[v], x.val] w (StPost base w v [] ⟨1, y⟩) := by
  obtain ⟨a, c, rfl, hc, hm⟩ := h.in_.shape
  obtain ⟨bk, o, rfl, hb, d0⟩ := U16.at (k := 0) h.in_.1 (by simp)
  rw [show ([y] : List Int).getD 0 0 = y from rfl, Nat.add_zero] at d0
  rw [show ([y] : List Int).length = 1 from rfl] at hc ⊢
  obtain ⟨W, hW⟩ : ∃ W, W = (((w.alloc (.cells #[.slice (some ⟨bk, o, none⟩) 1 c] 184)).alloc (.cells #[.int .u8 x.f, .int .u8 x.o, .int .u8 x.k, .int .u16 x.a, .int .u16 x.b] 47)).alloc (.cells #[.slice none 0 0] 184)).alloc (.cells (ansC ⟨0, 0⟩).toArray 25) := ⟨_, rfl⟩
  obtain ⟨hk, h0, -, h2, h3, hz⟩ := vars_q w _ _ W _ _ hW
  obtain ⟨R, hR⟩ : ∃ R, R = w.heap.size := ⟨_, rfl⟩
  rw [← hR] at h0 h2 h3 hz hb
  have HRL := Lib.hid (show w.heap.size ≤ R from Nat.le_of_eq hR.symm)
  obtain ⟨S, hS⟩ : ∃ S : World → Prop, S = fun y => Keeps [R + 2, R + 3] W y := ⟨_, rfl⟩
  have HSE := Lib.hid hS
  have hSD : S W.drew := by rw [hS]; exact (Keeps.refl _ _).drew
  have HS0 := Lib.hid (fun (w' : World) (hh : S w') => show w'.cell? ⟨R, 0, none⟩ = some (.slice (some ⟨bk, o, none⟩) 1 c) from by rw [hS] at hh; exact hh.cell (cell_lit h0 0 rfl) (by simp))
  have HS1 := Lib.hid (fun (w' : World) (hh : S w') => show w'.cell? ⟨bk, o, none⟩ = some (.int .u16 y) from by rw [hS] at hh; exact hh.cell (hk.cell d0 (by simp)) (by simp; omega))
  have H2 := Lib.hid h2; have H3 := Lib.hid h3; have HK := Lib.hid hk; have HZ := Lib.hid hz
  simp only [show (ansC ⟨0, 0⟩).toArray = #[Value.int .u8 0, .int .u16 0] from rfl] at hW
  clear h hb d0 hS h0 h2 h3 hz hk
  have HRR := Lib.hid hR; have HWW := Lib.hid hW
  clear hR hW
  unfold Opn.val
  go_enter Tryz.func198, Tryz.ntmps198
  go_wp2_with fail
  rw [← HRR.out, ← HWW.out]
  clear HRR HWW
  refine wp_region_noPanic ?_
  refine wp_region_held_drew (S := S) (by kernel_rfl) hSD (fun hHeld => ?_)
  refine tw 1 (h := ?_)
  refine tk 2 (y := by exact Or.inl ⟨by rfl, by intro w hSw; have q0 := HS0.out w hSw; go_simp; try with_reducible rfl⟩) (h := ?_)
  refine tw 3 (h := ?_)
  refine tk 4 (y := by exact Or.inl ⟨by rfl, by intro w hSw; have q0 := HS1.out w hSw; go_simp; try with_reducible rfl⟩) (h := ?_)
  refine tw 5 (h := ?_)
  refine rp 0 (h := fun K hK => ?_)
  refine wp_call9 99 _ _ rfl [] rfl Tryz.func99 (by kernel_rfl) (by kernel_rfl) ((quNew_any W.drew).mono ?_)
  rintro e W1 ⟨rfl, hk1⟩
  refine ⟨_, rfl, ?_⟩
  have HK1 := Lib.hid (((Keeps.refl [] W).drew).trans hk1 (FSub.refl _ _))
  clear hk1
  refine hK.out _ _ (by rw [HSE.out]; exact HK1.out.more (by simp)) (fun hHeld => ?_); clear hK K; try simp only [Act.put, lsA, lsZ, lsS]
  have HB2 := Lib.hid (HK1.out.heap H2.out (by simp)); have HB3 := Lib.hid (HK1.out.heap H3.out (by simp))
  refine rp 6 (h := fun K hK => ?_)
  refine wp_putQ rfl (g := R + 2) (old := .slice none 0 0) (z := .slice none 0 0) rfl rfl HB2.out (slice_one _ _ _) (fun W2 hW2 hk2 => ?_)
  have HW2 := Lib.hid hW2
  have HA2 := Lib.hid (hk2.heap HB3.out (by simp))
  have HK2 := Lib.hid (show Keeps [R + 2, R + 3] W W2 from (HK1.out.more (by simp)).step hk2 (by simp))
  clear hW2 hk2
  refine hK.out _ _ (by rw [HSE.out]; exact HK2.out) (fun hHeld => ?_); clear hK K; try simp only [Act.put, lsA, lsZ, lsS]
  refine rp 7 (h := fun K hK => ?_)
  refine wp_putN rfl (g := R + 3) (old := ⟨0, 0⟩) ⟨1, y⟩ rfl rfl HA2.out (fun W3 hW3 hk3 => ?_)
  have HW3 := Lib.hid hW3
  have HS3 := Lib.hid (hk3.heap HW2.out (by simp))
  have HK3 := Lib.hid (HK2.out.step hk3 (by simp))
  clear hW3 hk3
  refine hK.out _ _ (by rw [HSE.out]; exact HK3.out) (fun hHeld => ?_); clear hK K; try simp only [Act.put, lsA, lsZ, lsS]
  refine wpAnyH_done (by kernel_rfl) ?_ _
  refine NoPanic.normal ?_
  go_wp2_with fail
  try simp only [Exit.inBlock, Exit.then]
  exact bodyPost_ret (results_st2 rfl _ _ (R + 2) (R + 3) ⟨1, y⟩ rfl HS3.out rfl HW3.out) rfl ⟨_, rfl, QF.nil _ _, (HK.out.trans HK3.out (fun q hq => .inr (by have := HRL.out; simp at hq; omega))).more (by simp), fun q hq => by simp [own, Value.ownBlock] at hq⟩
end Go.Proofs.YtbnhcggjcdipeaaGreatDoor
/-
  The program's queue: perform.
-/
namespace Go.Proofs.YtbnhcggjcdipeaaGreatDoor
open Go.RowKit
theorem QF.one {base : Nat} {w : World} {v : Value} {l : List Int} (h : QF base w v l) : v.oneCell' = true := by
  obtain ⟨a, c, rfl, -⟩ := h.free
  rfl
theorem opChk_queue {x : Opn} (h : opChk 1 x = 0) : x.f = 4 ∨ x.f = 5 := by
  unfold opChk at h
  split at h
  · rename_i hh
    simp only [Bool.and_eq_true, beq_iff_eq] at hh
    have := hh.2
    unfold opM at this
    split at this
    · assumption
    · split at this
      · exact absurd this (by decide)
      · split at this
        · exact absurd this (by decide)
        · exact absurd this (by decide)
  · exact absurd h (by decide)
/-- Which step an operation takes. -/
def quKs (f : Int) : Nat := if f = 4 then 197 else 198
theorem quKs_func (f : Int) : ∃ fn, Tryz.prog.funcs[quKs f]? = some fn ∧ (fn.name == "runtime.NumGoroutine") = false ∧ fn.body.isNone = false := by
  unfold quKs
  split
  · exact ⟨_, Tryz.func197, by kernel_rfl, by kernel_rfl⟩
  · exact ⟨_, Tryz.func198, by kernel_rfl, by kernel_rfl⟩
theorem quAct_any (w : World) {base : Nat} (hb : base ≤ w.heap.size) {v : Value} {l : List Int} (h : QF base w v l) (hl : l.length ≤ 1000000) (x : Opn) (hx : opChk 1 x = 0) :
    Calls Tryz.prog (quKs x.f) #[.agg #[v], x.val] w (StPost base w v (quX l x).1 (quX l x).2.1) := by
  unfold quKs
  by_cases hf : x.f = 4
  · rw [if_pos hf, quX_enq hx hf]
    exact quEnq_any w hb h hl x
  · rw [if_neg hf]
    cases l with
    | nil =>
      rw [quX_none hx hf]
      rw [h.in_.2 rfl]
      exact quDeq_none w base x
    | cons y r =>
      rw [quX_deq hx hf]
      by_cases hr : r = []
      · subst hr
        exact quDeq_one w h x
      · exact quDeq_more w h hr (by simp at hl; omega) x
theorem index_steps {f : Int} (h : f = 4 ∨ f = 5) (w : World) : (Instr.index 283 (.agg stepsC) (.int .u8 f)).run Tryz.prog w = .ok (fnV (quKs f)) w := by
  rcases h with rfl | rfl
  · kernel_rfl
  · kernel_rfl
section
variable {ops : Array Oper} {S : World → Prop} {o : Oper} {a : Act} {w : World} {K : Act → World → Prop} {Q : Exit → Act → World → Prop}
theorem yields_idxS (hw : Region.wanted o (yielded ops a.tmps) = true) (x y : Operand) (ho : o.op = .index 283 x y) {f : Int} (hx : a.eval x = .agg stepsC) (hy : a.eval y = .int .u8 f) (hf : f = 4 ∨ f = 5) : YieldsIf Tryz.prog ops S o (fnV (quKs f)) a :=
  Or.inl ⟨hw, by
    intro w _
    unfold execOp
    have h := index_steps hf w
    simp only [ho, hx, hy, Sem.run_bind]
    simp [h, Result.andThen]⟩
theorem yields_loadQ (hw : Region.wanted o (yielded ops a.tmps) = true) (x : Operand) (ho : o.op = .load 184 x) (g : Nat) (hx : a.eval x = .pointer (some ⟨g, 0, none⟩)) (z : Value) (hS : ∀ w, S w → w.cell? ⟨g, 0, none⟩ = some z) : YieldsIf Tryz.prog ops S o (.agg #[z]) a :=
  yieldsIf_load_mid (P := Tryz.prog) hw 184 x ho g 0 hx [z] _ (fun w h j u hj => by
    match j, hj with
    | 0, hj => simp at hj; subst hj; simpa using hS w h
    | j + 1, hj => simp at hj) Tryz.underlying184 rfl (by kernel_rfl)
theorem run_allocQ (w : World) : (Instr.alloc 184 true (.tuple #[])).run Tryz.prog w = .ok (.pointer (some ⟨w.heap.size, 0, none⟩)) (w.alloc (.cells #[.slice none 0 0] 184)) := by kernel_rfl
theorem wp_allocQ (o : Oper) (a : Act) (w : World) (K : Act → World → Prop) (ho : o.op = .alloc 184) (h : K (a.put o.dst (.pointer (some ⟨w.heap.size, 0, none⟩))) (w.alloc (.cells #[.slice none 0 0] 184))) : o.wp Tryz.prog a w K Q := by
  unfold Oper.wp execOp
  simp only [ho, Sem.run_bind, run_allocQ, Result.andThen_ok, Sem.run_pure]
  exact h
theorem run_allocN (w : World) : (Instr.alloc 25 true (.tuple #[])).run Tryz.prog w = .ok (.pointer (some ⟨w.heap.size, 0, none⟩)) (w.alloc (.cells (ansC ⟨0, 0⟩).toArray 25)) := by kernel_rfl
theorem wp_allocN (o : Oper) (a : Act) (w : World) (K : Act → World → Prop) (ho : o.op = .alloc 25) (h : K (a.put o.dst (.pointer (some ⟨w.heap.size, 0, none⟩))) (w.alloc (.cells (ansC ⟨0, 0⟩).toArray 25))) : o.wp Tryz.prog a w K Q := by
  unfold Oper.wp execOp
  simp only [ho, Sem.run_bind, run_allocN, Result.andThen_ok, Sem.run_pure]
  exact h
end
/-- What perform tells. -/
def PfPost (base : Nat) (w : World) (v : Value) (l : List Int) (x : Opn) (e : Ending) (w' : World) : Prop :=
  ∃ v', e = .returned (.tuple #[.agg #[v'], .agg (ansC (quX l x).2.1).toArray, .int .i64 (quX l x).2.2]) ∧ QF base w' v' (quX l x).1 ∧ Keeps (frees base v) w w' ∧ FSub (own v') (own v) w.heap.size ∧ ((quX l x).2.2 ≠ 0 → v' = v)
set_option maxHeartbeats 8000000
set_option maxRecDepth 100000
theorem perform_any (w : World) (hG : Glob4 w) {base : Nat} (hb : base ≤ w.heap.size) {v : Value} {l : List Int} (h : QF base w v l) (hl : l.length ≤ 1000000) (x : Opn) (hx : x.In) :
    Calls Tryz.prog 148 #[.agg #[v], x.val] w (PfPost base w v l x) := by
  have hone := h.one
  obtain ⟨W, hW⟩ : ∃ W, W = (((w.alloc (.cells #[v] 184)).alloc (.cells #[.int .u8 x.f, .int .u8 x.o, .int .u8 x.k, .int .u16 x.a, .int .u16 x.b] 47)).alloc (.cells #[.slice none 0 0] 184)).alloc (.cells (ansC ⟨0, 0⟩).toArray 25) := ⟨_, rfl⟩
  have HF4 := Lib.hid (vars_q w v _ W _ _ hW)
  have HCHK := Lib.hid (fun w hG => Check4_any w hG 1 x.f x.o x.k x.a x.b (by decide) (by decide) hx)
  have HGL := Lib.hid hG
  have HRR := Lib.hid (show w.heap.size = w.heap.size from rfl)
  simp only [show (ansC ⟨0, 0⟩).toArray = #[Value.int .u8 0, .int .u16 0] from rfl] at hW
  have HWW := Lib.hid hW
  have HQ := Lib.hid h
  have HV := Lib.hid h.in_.old
  have HBS := Lib.hid hb
  have HLL := Lib.hid hl
  clear hb hW hG h hl hx HRR
  unfold Opn.val
  go_enter Tryz.func148, Tryz.ntmps148
  go_wp2_with fail
  refine (HCHK.out _ (HGL.out.new (by rw [← HWW.out]; exact HF4.out.1))).mono ?_; rintro e w1 ⟨rfl, hk1⟩
  rw [← HWW.out] at hk1
  obtain ⟨R, hR⟩ : ∃ R, R = w.heap.size := ⟨_, rfl⟩
  obtain ⟨hk0, h0, h1, h2, h3, hz⟩ := HF4.out
  have hbs := HBS.out; have hv := HV.out
  have HRL := Lib.hid (show w.heap.size ≤ R from Nat.le_of_eq hR.symm)
  rw [← hR] at h0 h1 h2 h3 hz hbs hv ⊢
  have HQ1 := Lib.hid ((HQ.out.keeps hk0 (by simp)).keeps hk1 (by simp))
  have HKW := Lib.hid (hk0.trans hk1 (FSub.refl _ _))
  have H0 := Lib.hid (hk1.heap h0 (by simp)); have H1 := Lib.hid (hk1.heap h1 (by simp)); have H2 := Lib.hid (hk1.heap h2 (by simp)); have H3 := Lib.hid (hk1.heap h3 (by simp))
  have HSZ := Lib.hid (show R + 4 ≤ w1.heap.size from by have := hk1.size; omega)
  clear HBS HV
  have HBS := Lib.hid hbs; have HV := Lib.hid hv
  have HFR := Lib.hid (show ∀ q ∈ frees base v, q < R from fun q hq => hv q (mem_frees.1 hq).1)
  have HONE := Lib.hid hone
  clear hone hR hk0 h0 h1 h2 h3 hz hbs hv hk1 HWW HF4 HCHK HGL
  rw [show (⟨x.f, x.o, x.k, x.a, x.b⟩ : Opn) = x from rfl]
  rcases opChk_or 1 x with hck | hck
  · rw [hck]
    have HCK := Lib.hid hck; have HF := Lib.hid (opChk_queue hck)
    clear hck
    have hone := HONE.out
    obtain ⟨m, hm⟩ : ∃ m, m = (quX l x).1 := ⟨_, rfl⟩
    obtain ⟨y, hy⟩ : ∃ y, y = (quX l x).2.1 := ⟨_, rfl⟩
    have HACT := Lib.hid (fun (Y : World) (hb : base ≤ Y.heap.size) (hq : QF base Y v l) => show Calls Tryz.prog (quKs x.f) #[.agg #[v], x.val] Y (StPost base Y v m y) from by rw [hm, hy]; exact quAct_any Y hb hq HLL.out x HCK.out)
    have HM := Lib.hid hm; have HY := Lib.hid hy; have HE := Lib.hid (show (quX l x).2.2 = 0 from by rw [quX_err]; exact HCK.out)
    clear hm hy
    go_wp2_with fail
    obtain ⟨S, hS⟩ : ∃ S : World → Prop, S = fun y => Keeps (frees base v) w1 y := ⟨_, rfl⟩
    have HSE := Lib.hid hS
    have hSD : S w1.drew := by rw [hS]; exact (Keeps.refl _ _).drew
    have HS0 := Lib.hid (fun (w' : World) (h : S w') => show w'.cell? ⟨R, 0, none⟩ = some v from by rw [hS] at h; exact h.cell (cell_lit H0.out 0 rfl) (fun hq => by have := HFR.out _ hq; exact absurd this (Nat.lt_irrefl _)))
    have HS1 := Lib.hid (fun (w' : World) (h : S w') => show w'.rangeAt (R + 1) 0 (opC x) from by
      rw [hS] at h
      intro j v hv
      rw [Nat.zero_add]
      exact h.cell (cell_lit H1.out j (by simpa [opC] using hv)) (fun hq => by have := HFR.out _ hq; simp at this; omega))
    have HS2 := Lib.hid (fun (w' : World) (h : S w') => show w'.cell? ⟨R + 1, 0, none⟩ = some (.int .u8 x.f) from by rw [hS] at h; exact h.cell (cell_lit H1.out 0 rfl) (fun hq => by have := HFR.out _ hq; simp at this; omega))
    have hd0 : Keeps [] w1 w1.drew := (Keeps.refl _ _).drew
    clear hS hone
    refine Code.wp_mono (Q := fun e a' w' => e = .normal ∧ ∃ (qa qb : Nat) (v2 u1 u2 u3 u4 u5 u6 u7 u8 u9 u10 : Value), a' = { tmps := #[.agg #[v], .agg #[.int .u8 x.f, .int .u8 x.o, .int .u8 x.k, .int .u16 x.a, .int .u16 x.b], .pointer (some ⟨R, 0, none⟩), .pointer (some ⟨R + 1, 0, none⟩), .pointer (some ⟨R + 1 + 1, 0, none⟩), .pointer (some ⟨R + 1 + 1 + 1, 0, none⟩), .int .i64 0, .int .i64 0, .pointer (some ⟨qa, 0, none⟩), .pointer (some ⟨qb, 0, none⟩), .agg #[.int .u8 x.f, .int .u8 x.o, .int .u8 x.k, .int .u16 x.a, .int .u16 x.b], .int .i64 0, .int .i64 0, .bool false, undef, undef, undef, u1, u2, u3, u4, u5, u6, u7, u8, u9, u10, undef, undef], defers := [] } ∧
      w'.heap[qa]? = some (Obj.cells #[v2] 184 (0, 0)) ∧ w'.heap[qb]? = some (Obj.cells (ansC y).toArray 25 (0, 0)) ∧ R + 4 ≤ qa ∧ R + 4 ≤ qb ∧ (∀ q ∈ own v2, q ∈ own v ∨ R + 4 ≤ q) ∧ QF base w' v2 m ∧ Keeps (frees base v) w1 w') ?_ ?_
    rotate_left
    ·
      refine wp_region_noPanic ?_
      refine wp_region_held_drew (S := S) (by kernel_rfl) hSD (fun hHeld => ?_)
      generalize w1.drew = Y0 at *
      have HQ0 := Lib.hid (HQ1.out.keeps hd0 (by simp))
      have HK0 := Lib.hid hd0
      clear hd0
      refine tw 1 (h := ?_)
      refine tk 2 (y := by exact Or.inl ⟨by rfl, by intro w hSw; have q0 := HS2.out w hSw; go_simp; try with_reducible rfl⟩) (h := ?_)
      refine tk 4 (y := by exact yields_loadQ (by rfl) (.tmp 2) rfl R rfl v HS0.out) (h := ?_)
      refine tk 5 (y := by exact yields_opC (by rfl) _ rfl (R + 1) 0 rfl x HS1.out) (h := ?_)
      have HQ := Lib.hid HQ0.out
      have HK := Lib.hid (HK0.out.more (G := frees base v) (by simp))
      clear HQ0 HK0
      generalize Y0 = YC at *
      iterate 4
        all_goals
          first
            | apply wpAnyH_ready (rs := [0, 10, 11])
              · decide +kernel
              · simp
              refine acn ?_ (acn ?_ (acn ?_ (AllReadyH.nil)))
            | apply wpAnyH_ready (rs := [0, 10])
              · decide +kernel
              · simp
              refine acn ?_ (acn ?_ (AllReadyH.nil))
            | apply wpAnyH_ready (rs := [0, 11])
              · decide +kernel
              · simp
              refine acn ?_ (acn ?_ (AllReadyH.nil))
            | apply wpAnyH_ready (rs := [6, 10, 11])
              · decide +kernel
              · simp
              refine acn ?_ (acn ?_ (acn ?_ (AllReadyH.nil)))
            | apply wpAnyH_ready (rs := [6, 10])
              · decide +kernel
              · simp
              refine acn ?_ (acn ?_ (AllReadyH.nil))
            | apply wpAnyH_ready (rs := [6, 11])
              · decide +kernel
              · simp
              refine acn ?_ (acn ?_ (AllReadyH.nil))
            | apply wpAnyH_ready (rs := [10, 11])
              · decide +kernel
              · simp
              refine acn ?_ (acn ?_ (AllReadyH.nil))
            | apply wpAnyH_ready (rs := [0])
              · decide +kernel
              · simp
              refine acn ?_ (AllReadyH.nil)
            | apply wpAnyH_ready (rs := [6])
              · decide +kernel
              · simp
              refine acn ?_ (AllReadyH.nil)
            | apply wpAnyH_ready (rs := [10])
              · decide +kernel
              · simp
              refine acn ?_ (AllReadyH.nil)
            | apply wpAnyH_ready (rs := [11])
              · decide +kernel
              · simp
              refine acn ?_ (AllReadyH.nil)
          all_goals
            intro K hK
            rw [if_pos (by rfl)]
            first
            | refine wp_call9 181 _ _ rfl [] rfl Tryz.func181 (by kernel_rfl) (by kernel_rfl) ((quSteps_any YC).mono ?_)
              rintro e YC ⟨rfl, hk⟩
              refine ⟨_, rfl, ?_⟩
              replace HK := Lib.hid (HK.out.trans hk (fun q hq => by simp at hq))
              try replace HBa := Lib.hid (hk.heap HBa.out (by simp))
              try replace HBb := Lib.hid (hk.heap HBb.out (by simp))
              try replace HLa := Lib.hid (show w1.heap.size ≤ qa ∧ qa < YC.heap.size from ⟨HLa.out.1, Nat.lt_of_lt_of_le HLa.out.2 hk.size⟩)
              try replace HLb := Lib.hid (show w1.heap.size ≤ qb ∧ qb < YC.heap.size from ⟨HLb.out.1, Nat.lt_of_lt_of_le HLb.out.2 hk.size⟩)
              replace HQ := Lib.hid (HQ.out.keeps hk (by simp))
              clear hk
              refine hK.out _ _ (by rw [HSE.out]; exact HK.out) (fun hHeld => ?_); clear hK K; try simp only [Act.put, lsA, lsZ, lsS]
              refine tk 3 (y := by exact yields_idxS (by rfl) (.tmp 18) (.tmp 20) rfl rfl rfl HF.out) (h := ?_)
            | refine wp_callV (k := quKs x.f) _ _ _ rfl rfl [.agg #[v], x.val] rfl (quKs_func x.f) ((HACT.out YC (by have := HBS.out; have := HSZ.out; have := HK.out.size; omega) HQ.out).mono ?_)
              rintro e YC ⟨v2, rfl, hq, hk, hs⟩
              refine ⟨_, rfl, ?_⟩
              have HOW := Lib.hid (show ∀ q ∈ own v2, q ∈ own v ∨ R + 4 ≤ q from fun q hq => (hs q hq).imp id (fun h => by have := HSZ.out; have := HK.out.size; omega))
              try have HNa := Lib.hid (show ∀ q ∈ own v2, q ≠ qa from fun q hq => by have := HLa.out; have := HSZ.out; rcases hs q hq with h | h; (have := HV.out q h; omega); omega)
              try have HNb := Lib.hid (show ∀ q ∈ own v2, q ≠ qb from fun q hq => by have := HLb.out; have := HSZ.out; rcases hs q hq with h | h; (have := HV.out q h; omega); omega)
              replace HK := Lib.hid (HK.out.trans hk (FSub.refl _ _))
              try replace HBa := Lib.hid (hk.heap HBa.out (fun hq => by have := HFR.out _ hq; have := HLa.out; have := HSZ.out; omega))
              try replace HBb := Lib.hid (hk.heap HBb.out (fun hq => by have := HFR.out _ hq; have := HLb.out; have := HSZ.out; omega))
              try replace HLa := Lib.hid (show w1.heap.size ≤ qa ∧ qa < YC.heap.size from ⟨HLa.out.1, Nat.lt_of_lt_of_le HLa.out.2 hk.size⟩)
              try replace HLb := Lib.hid (show w1.heap.size ≤ qb ∧ qb < YC.heap.size from ⟨HLb.out.1, Nat.lt_of_lt_of_le HLb.out.2 hk.size⟩)
              replace HQ := Lib.hid hq
              clear hq hk hs
              refine hK.out _ _ (by rw [HSE.out]; exact HK.out) (fun hHeld => ?_); clear hK K; try simp only [Act.put, lsA, lsZ, lsS]
              refine tw 7 (h := ?_)
              refine tw 8 (h := ?_)
              refine tw 9 (h := ?_)
            | refine wp_allocQ _ _ _ _ rfl ?_
              have hk : Keeps [] YC (YC.alloc (.cells #[.slice none 0 0] 184)) := (Keeps.refl _ _).alloc _
              have hb := heap_alloc_new YC (.cells #[.slice none 0 0] 184)
              try have HNa := Lib.hid (show ∀ q ∈ own v2, q ≠ YC.heap.size from fun q hq => by have := HQ.out.in_.old q hq; omega)
              try have HNE := Lib.hid (show YC.heap.size ≠ qb from by have := HLa.out; omega)
              try have HNE := Lib.hid (show YC.heap.size ≠ qb from by have := HLb.out; omega)
              have HG := Lib.hid HK.out.size
              have hz : YC.heap.size < (YC.alloc (.cells #[.slice none 0 0] 184)).heap.size := lt_of_block hb
              replace HK := Lib.hid (HK.out.trans hk (fun q hq => by simp at hq))
              replace HQ := Lib.hid (HQ.out.keeps hk (by simp))
              try replace HBa := Lib.hid (hk.heap HBa.out (by simp))
              try replace HBb := Lib.hid (hk.heap HBb.out (by simp))
              try replace HLa := Lib.hid (show w1.heap.size ≤ qa ∧ qa < (YC.alloc (.cells #[.slice none 0 0] 184)).heap.size from ⟨HLa.out.1, Nat.lt_trans HLa.out.2 hz⟩)
              try replace HLb := Lib.hid (show w1.heap.size ≤ qb ∧ qb < (YC.alloc (.cells #[.slice none 0 0] 184)).heap.size from ⟨HLb.out.1, Nat.lt_trans HLb.out.2 hz⟩)
              have HBa := Lib.hid hb
              have HLa := Lib.hid (show w1.heap.size ≤ YC.heap.size ∧ YC.heap.size < (YC.alloc (.cells #[.slice none 0 0] 184)).heap.size from ⟨HG.out, hz⟩)
              clear hk hb hz HG
              generalize YC.heap.size = qa at *
              generalize YC.alloc (.cells #[.slice none 0 0] 184) = YC at *
              refine hK.out _ _ (by rw [HSE.out]; exact HK.out) (fun hHeld => ?_); clear hK K; try simp only [Act.put, lsA, lsZ, lsS]
            | refine wp_allocN _ _ _ _ rfl ?_
              have hk : Keeps [] YC (YC.alloc (.cells (ansC ⟨0, 0⟩).toArray 25)) := (Keeps.refl _ _).alloc _
              have hb := heap_alloc_new YC (.cells (ansC ⟨0, 0⟩).toArray 25)
              try have HNb := Lib.hid (show ∀ q ∈ own v2, q ≠ YC.heap.size from fun q hq => by have := HQ.out.in_.old q hq; omega)
              try have HNE := Lib.hid (show qa ≠ YC.heap.size from by have := HLa.out; omega)
              try have HNE := Lib.hid (show qa ≠ YC.heap.size from by have := HLb.out; omega)
              have HG := Lib.hid HK.out.size
              have hz : YC.heap.size < (YC.alloc (.cells (ansC ⟨0, 0⟩).toArray 25)).heap.size := lt_of_block hb
              replace HK := Lib.hid (HK.out.trans hk (fun q hq => by simp at hq))
              replace HQ := Lib.hid (HQ.out.keeps hk (by simp))
              try replace HBa := Lib.hid (hk.heap HBa.out (by simp))
              try replace HBb := Lib.hid (hk.heap HBb.out (by simp))
              try replace HLa := Lib.hid (show w1.heap.size ≤ qa ∧ qa < (YC.alloc (.cells (ansC ⟨0, 0⟩).toArray 25)).heap.size from ⟨HLa.out.1, Nat.lt_trans HLa.out.2 hz⟩)
              try replace HLb := Lib.hid (show w1.heap.size ≤ qb ∧ qb < (YC.alloc (.cells (ansC ⟨0, 0⟩).toArray 25)).heap.size from ⟨HLb.out.1, Nat.lt_trans HLb.out.2 hz⟩)
              have HBb := Lib.hid hb
              have HLb := Lib.hid (show w1.heap.size ≤ YC.heap.size ∧ YC.heap.size < (YC.alloc (.cells (ansC ⟨0, 0⟩).toArray 25)).heap.size from ⟨HG.out, hz⟩)
              clear hk hb hz HG
              generalize YC.heap.size = qb at *
              generalize YC.alloc (.cells (ansC ⟨0, 0⟩).toArray 25) = YC at *
              refine hK.out _ _ (by rw [HSE.out]; exact HK.out) (fun hHeld => ?_); clear hK K; try simp only [Act.put, lsA, lsZ, lsS]
      all_goals
        refine rp 12 (h := fun K hK => ?_)
        refine wp_putQ rfl (g := qa) (old := .slice none 0 0) (z := v2) rfl rfl HBa.out (QF.one HQ.out) (fun W2 hW2 hk2 => ?_)
        have HW2 := Lib.hid hW2
        have HA2 := Lib.hid (hk2.heap HBb.out (by have := HNE.out; simp; omega))
        have HK2 := Lib.hid (HK.out.trans hk2 (fun q hq => .inr (by simp at hq; have := HLa.out; have := HSZ.out; omega)))
        have HQ2 := Lib.hid (HQ.out.keeps hk2 (fun q hq => by have := HNa.out q hq; simpa using this))
        clear hW2 hk2
        refine hK.out _ _ (by rw [HSE.out]; exact HK2.out) (fun hHeld => ?_); clear hK K; try simp only [Act.put, lsA, lsZ, lsS]
        refine rp 13 (h := fun K hK => ?_)
        refine wp_putN rfl (g := qb) (old := ⟨0, 0⟩) y rfl rfl HA2.out (fun W3 hW3 hk3 => ?_)
        have HW3 := Lib.hid hW3
        have HS3 := Lib.hid (hk3.heap HW2.out (by have := HNE.out; simp; omega))
        have HK3 := Lib.hid (HK2.out.trans hk3 (fun q hq => .inr (by simp at hq; have := HLb.out; have := HSZ.out; omega)))
        have HQ3 := Lib.hid (HQ2.out.keeps hk3 (fun q hq => by have := HNb.out q hq; simpa using this))
        clear hW3 hk3
        refine hK.out _ _ (by rw [HSE.out]; exact HK3.out) (fun hHeld => ?_); clear hK K; try simp only [Act.put, lsA, lsZ, lsS]
        refine wpAnyH_done (by kernel_rfl) ?_ _
        refine NoPanic.normal ?_
        exact ⟨rfl, qa, qb, v2, _, _, _, _, _, _, _, _, _, _, rfl, HS3.out, HW3.out, Nat.le_trans HSZ.out HLa.out.1, Nat.le_trans HSZ.out HLb.out.1, HOW.out, HQ3.out, HK3.out⟩
    · rintro e a' w2 ⟨rfl, qa, qb, v2, u1, u2, u3, u4, u5, u6, u7, u8, u9, u10, rfl, hqa, hqb, hla, hlb, how, hq, hk⟩
      clear HSE HS0 HS1 HS2 hSD hd0 S HACT
      obtain ⟨S, hS⟩ : ∃ S : World → Prop, S = fun y => Keeps [R + 2, R + 3] w2 y := ⟨_, rfl⟩
      have HSE := Lib.hid hS
      have hSD : S w2.drew := by rw [hS]; exact (Keeps.refl _ _).drew
      have HS0 := Lib.hid (fun (w' : World) (h : S w') => show w'.cell? ⟨qa, 0, none⟩ = some v2 from by rw [hS] at h; exact h.cell (cell_lit hqa 0 rfl) (by simp; omega))
      have HS1 := Lib.hid (fun (w' : World) (h : S w') => show w'.rangeAt qb 0 (ansC y) from by
        rw [hS] at h
        intro j v hv
        rw [Nat.zero_add]
        exact h.cell (cell_lit hqb j (by simpa using hv)) (by simp; omega))
      have HB2 := Lib.hid (hk.heap H2.out (fun hq => by have := HFR.out _ hq; omega))
      have HB3 := Lib.hid (hk.heap H3.out (fun hq => by have := HFR.out _ hq; omega))
      have HK := Lib.hid hk; have HQ2 := Lib.hid hq; have HOW := Lib.hid how
      clear hS hqa hqb hla hlb hk hq how
      go_wp2_with fail
      refine wp_region_noPanic ?_
      refine wp_region_held_drew (S := S) (by kernel_rfl) hSD (fun hHeld => ?_)
      refine tk 0 (y := by exact yields_loadQ (by rfl) (.tmp 8) rfl qa rfl v2 HS0.out) (h := ?_)
      refine tk 1 (y := by exact yields_ansC (by rfl) _ rfl qb 0 rfl y HS1.out) (h := ?_)
      refine rp 2 (h := fun K hK => ?_)
      refine wp_putQ rfl (g := R + 2) (old := .slice none 0 0) (z := v2) rfl rfl HB2.out (QF.one HQ2.out) (fun W2 hW2 hk2 => ?_)
      have HW2 := Lib.hid hW2
      have HA2 := Lib.hid (hk2.heap HB3.out (by simp))
      have HK2 := Lib.hid (show Keeps [R + 2, R + 3] w2 W2 from ((Keeps.refl _ _).drew).step hk2 (by simp))
      clear hW2 hk2
      refine hK.out _ _ (by rw [HSE.out]; exact HK2.out) (fun hHeld => ?_); clear hK K; try simp only [Act.put, lsA, lsZ, lsS]
      refine rp 3 (h := fun K hK => ?_)
      refine wp_putN rfl (g := R + 3) (old := ⟨0, 0⟩) y rfl rfl HA2.out (fun W3 hW3 hk3 => ?_)
      have HW3 := Lib.hid hW3
      have HS3 := Lib.hid (hk3.heap HW2.out (by simp))
      have HK3 := Lib.hid (HK2.out.step hk3 (by simp))
      clear hW3 hk3
      refine hK.out _ _ (by rw [HSE.out]; exact HK3.out) (fun hHeld => ?_); clear hK K; try simp only [Act.put, lsA, lsZ, lsS]
      refine tw 4 (h := ?_)
      refine wpAnyH_done (by kernel_rfl) ?_ _
      refine NoPanic.normal ?_
      go_wp2_with fail
      try simp only [Exit.inBlock, Exit.then]
      have hr : R + 4 ≤ w1.heap.size := HSZ.out
      have hown : ∀ q ∈ own v2, q < R ∨ R + 4 ≤ q := fun q hq => (HOW.out q hq).imp (HV.out q) id
      have hnot : ∀ q ∈ own v2, q ∉ [R + 2, R + 3] := fun q hq => by have := hown q hq; simp; omega
      refine bodyPost_ret (results_st3 rfl _ _ (R + 2) (R + 3) y rfl HS3.out rfl HW3.out) rfl ⟨v2, by rw [HE.out, ← HY.out]; rfl, by rw [← HM.out]; exact HQ2.out.keeps HK3.out hnot, ?_, fun q hq => (HOW.out q hq).imp id (fun h => by have := HRL.out; omega), fun h => absurd HE.out h⟩
      exact ((HKW.out.more (by simp)).trans HK.out (FSub.refl _ _)).trans HK3.out (fun q hq => .inr (by have := HRL.out; simp at hq; omega))
  · rw [hck]
    have HCK := Lib.hid (show opChk 1 x ≠ 0 from by rw [hck]; decide)
    clear hck
    have c0 : w1.cell? ⟨R, 0, none⟩ = some v := cell_lit H0.out 0 rfl
    have hone := HONE.out
    go_wp2_with ((with_reducible refine wpList_putQ (g := R + 1 + 1) (old := .slice none 0 0) (z := v) ?_ ?_ H2.out HONE.out ?_); exact rfl; exact rfl)
    intro W2 hW2 hk2
    have HW2 := Lib.hid hW2
    have HA2 := Lib.hid (hk2.heap H3.out (by simp))
    have HK2 := Lib.hid hk2
    clear hW2 hk2
    go_wp2_with ((with_reducible refine wpList_putN (g := R + 1 + 1 + 1) (old := ⟨0, 0⟩) ⟨0, 0⟩ ?_ ?_ HA2.out ?_); exact rfl; exact rfl)
    intro W3 hW3 hk3
    have HW3 := Lib.hid hW3
    have HS3 := Lib.hid (hk3.heap HW2.out (by simp))
    have HK3 := Lib.hid hk3
    clear hW3 hk3
    go_wp2_with fail
    try simp only [Exit.inBlock, Exit.then]
    have hkk : Keeps [] w W3 := (HKW.out.trans HK2.out (fun q hq => .inr (by have := HRL.out; simp at hq; omega))).trans HK3.out (fun q hq => .inr (by have := HRL.out; simp at hq; omega))
    refine bodyPost_ret (results_st3 rfl _ _ (R + 2) (R + 3) ⟨0, 0⟩ rfl HS3.out rfl HW3.out) rfl ⟨v, by rw [quX_chk HCK.out]; rfl, ?_, hkk.more (by simp), FSub.refl _ _, fun _ => rfl⟩
    rw [quX_chk HCK.out]
    exact HQ.out.keeps hkk (by simp)
end Go.Proofs.YtbnhcggjcdipeaaGreatDoor
/-
  The program's queue: Step.
-/
namespace Go.Proofs.YtbnhcggjcdipeaaGreatDoor
open Go.RowKit
theorem frees_none {base : Nat} {v : Value} (h : ∀ q ∈ own v, q < base) : frees base v = [] := by
  unfold frees
  rw [List.filter_eq_nil_iff]
  intro q hq
  have := h q hq
  simp; omega
set_option maxHeartbeats 8000000
set_option maxRecDepth 100000
theorem quStep_any (w : World) (hG : Glob4 w) {v : Value} {l : List Int} (h : QIn w v l) (hl : l.length ≤ 1000000) (x : Opn) (hx : x.In) :
    Calls Tryz.prog 102 #[.agg #[v], x.val] w fun e w' => ∃ v', e = .returned (.tuple #[.agg #[v'], .agg (ansC (quX l x).2.1).toArray, .int .i64 (quX l x).2.2]) ∧ QIn w' v' (quX l x).1 ∧ Keeps [] w w' ∧ FSub (own v') (own v) w.heap.size := by
  have hone : v.oneCell' = true := by obtain ⟨a, c, rfl, -⟩ := h.shape; rfl
  obtain ⟨W, hW⟩ : ∃ W, W = (((w.alloc (.cells #[v] 184)).alloc (.cells #[.int .u8 x.f, .int .u8 x.o, .int .u8 x.k, .int .u16 x.a, .int .u16 x.b] 47)).alloc (.cells #[.slice none 0 0] 184)).alloc (.cells (ansC ⟨0, 0⟩).toArray 25) := ⟨_, rfl⟩
  obtain ⟨hk0, h0, h1, h2, h3, hz⟩ := vars_q w v _ W _ _ hW
  simp only [show (ansC ⟨0, 0⟩).toArray = #[Value.int .u8 0, .int .u16 0] from rfl] at hW
  obtain ⟨R, hR⟩ : ∃ R, R = w.heap.size := ⟨_, rfl⟩
  have hv := h.old
  rw [← hR] at h0 h1 h2 h3 hz hv
  have HRL := Lib.hid (show w.heap.size ≤ R from Nat.le_of_eq hR.symm)
  have HQ := Lib.hid (h.keeps hk0 (by simp))
  obtain ⟨S, hS⟩ : ∃ S : World → Prop, S = fun y => Keeps [R + 2, R + 3] W y := ⟨_, rfl⟩
  have HSE := Lib.hid hS
  have hSD : S W.drew := by rw [hS]; exact (Keeps.refl _ _).drew
  have HS0 := Lib.hid (fun (w' : World) (hh : S w') => show w'.cell? ⟨R, 0, none⟩ = some v from by rw [hS] at hh; exact hh.cell (cell_lit h0 0 rfl) (by simp))
  have HS1 := Lib.hid (fun (w' : World) (hh : S w') => show w'.rangeAt (R + 1) 0 (opC x) from by
    rw [hS] at hh
    intro j v hv
    rw [Nat.zero_add]
    exact hh.cell (cell_lit h1 j (by simpa [opC] using hv)) (by simp))
  have HK := Lib.hid hk0; have H2 := Lib.hid h2; have H3 := Lib.hid h3; have HSZ := Lib.hid hz; have HV := Lib.hid hv
  have HG := Lib.hid (hG.new hk0); have HL := Lib.hid hl; have HX := Lib.hid hx
  have HRR := Lib.hid hR; have HWW := Lib.hid hW
  clear h hS hk0 h0 h1 h2 h3 hz hv hR hW hG hl hx
  unfold Opn.val
  go_enter Tryz.func102, Tryz.ntmps102
  go_wp2_with fail
  rw [← HRR.out, ← HWW.out]
  clear HRR HWW
  refine wp_region_noPanic ?_
  refine wp_region_held_drew (S := S) (by kernel_rfl) hSD (fun hHeld => ?_)
  refine tk 0 (y := by exact yields_loadQ (by rfl) (.tmp 2) rfl R rfl v HS0.out) (h := ?_)
  refine tk 2 (y := by exact yields_opC (by rfl) _ rfl (R + 1) 0 rfl x HS1.out) (h := ?_)
  refine rp 1 (h := fun K hK => ?_)
  refine wp_call9 147 _ _ rfl [.agg #[v]] rfl Tryz.func147 (by kernel_rfl) (by kernel_rfl) ((quCut_any W.drew (HQ.out.keeps ((Keeps.refl [] W).drew) (by simp)) R).mono ?_)
  rintro e W1 ⟨v1, rfl, hq1, hk1, ho1⟩
  refine ⟨_, rfl, ?_⟩
  have HK1 := Lib.hid (((Keeps.refl [] W).drew).trans hk1 (FSub.refl _ _))
  have HQ1 := Lib.hid hq1; have HO1 := Lib.hid ho1
  clear hk1 hq1 ho1
  refine hK.out _ _ (by rw [HSE.out]; exact HK1.out.more (by simp)) (fun hHeld => ?_); clear hK K; try simp only [Act.put, lsA, lsZ, lsS]
  refine rp 3 (h := fun K hK => ?_)
  refine wp_call9 148 _ _ rfl [.agg #[v1], x.val] rfl Tryz.func148 (by kernel_rfl) (by kernel_rfl) ((perform_any W1 (HG.out.new HK1.out) (base := R) (by have := HSZ.out; have := HK1.out.size; omega) HQ1.out HL.out x HX.out).mono ?_)
  rintro e W2 ⟨v2, rfl, hq2, hk2, hs2, -⟩
  refine ⟨_, rfl, ?_⟩
  rw [frees_none (by rw [HO1.out]; exact HV.out)] at hk2
  have HK2 := Lib.hid (HK1.out.trans hk2 (FSub.refl _ _))
  have HQ2 := Lib.hid hq2
  have HOW := Lib.hid (show ∀ q ∈ own v2, q ∈ own v ∨ R + 4 ≤ q from fun q hq => (hs2 q hq).imp (by rw [HO1.out]; exact id) (fun h => by have := HSZ.out; have := HK1.out.size; omega))
  clear hk2 hq2 hs2
  refine hK.out _ _ (by rw [HSE.out]; exact HK2.out.more (by simp)) (fun hHeld => ?_); clear hK K; try simp only [Act.put, lsA, lsZ, lsS]
  refine tw 4 (h := ?_)
  refine tw 5 (h := ?_)
  refine tw 6 (h := ?_)
  refine rp 7 (h := fun K hK => ?_)
  refine wp_putQ rfl (g := R + 2) (old := .slice none 0 0) (z := v2) rfl rfl (HK2.out.heap H2.out (by simp)) (QF.one HQ2.out) (fun W3 hW3 hk3 => ?_)
  have HW3 := Lib.hid hW3
  have HA3 := Lib.hid (hk3.heap (HK2.out.heap H3.out (by simp)) (by simp))
  have HK3 := Lib.hid (show Keeps [R + 2, R + 3] W W3 from (HK2.out.more (by simp)).step hk3 (by simp))
  have hown : ∀ q ∈ own v2, q < R ∨ R + 4 ≤ q := fun q hq => (HOW.out q hq).imp (HV.out q) id
  have HQ3 := Lib.hid (HQ2.out.keeps hk3 (fun q hq => by have := hown q hq; simp; omega))
  clear hW3 hk3 hown
  refine hK.out _ _ (by rw [HSE.out]; exact HK3.out) (fun hHeld => ?_); clear hK K; try simp only [Act.put, lsA, lsZ, lsS]
  refine rp 8 (h := fun K hK => ?_)
  refine wp_putN rfl (g := R + 3) (old := ⟨0, 0⟩) (quX l x).2.1 rfl rfl HA3.out (fun W4 hW4 hk4 => ?_)
  have HW4 := Lib.hid hW4
  have HS4 := Lib.hid (hk4.heap HW3.out (by simp))
  have HK4 := Lib.hid (HK3.out.step hk4 (by simp))
  have hown : ∀ q ∈ own v2, q < R ∨ R + 4 ≤ q := fun q hq => (HOW.out q hq).imp (HV.out q) id
  have HQ4 := Lib.hid (HQ3.out.keeps hk4 (fun q hq => by have := hown q hq; simp; omega))
  clear hW4 hk4 hown
  refine hK.out _ _ (by rw [HSE.out]; exact HK4.out) (fun hHeld => ?_); clear hK K; try simp only [Act.put, lsA, lsZ, lsS]
  refine tw 9 (h := ?_)
  refine wpAnyH_done (by kernel_rfl) ?_ _
  refine NoPanic.normal ?_
  go_wp2_with fail
  try simp only [Exit.inBlock, Exit.then]
  exact bodyPost_ret (results_st3 rfl _ _ (R + 2) (R + 3) _ rfl HS4.out rfl HW4.out) rfl ⟨v2, rfl, HQ4.out.in_, HK.out.trans HK4.out (fun q hq => .inr (by have := HRL.out; simp at hq; omega)), fun q hq => (HOW.out q hq).imp id (fun h => by have := HRL.out; omega)⟩
end Go.Proofs.YtbnhcggjcdipeaaGreatDoor
/-
  The program's queue: Run.
-/
namespace Go.Proofs.YtbnhcggjcdipeaaGreatDoor
open Go.RowKit
section
variable {ops : Array Oper} {rest : List Oper} {a : Act} {w : World} {Q : Exit → Act → World → Prop}
theorem wpList_loadQ {dst : Option Tmp} {ty : TypeId} {pos : String} {after : Array Edge} {gd : Option (Nat × Bool)} {x : Operand} {g : Nat} {z : Value} {t : TypeId}
    (hw : Region.wanted { dst := dst, op := .load 184 x, type := ty, pos := pos, after := after, guard := gd } (yielded ops a.tmps) = true)
    (hx : a.eval x = .pointer (some ⟨g, 0, none⟩)) (hg : w.heap[g]? = some (.cells #[z] t (0, 0))) (h : wpList Tryz.prog ops Q rest (a.put dst (.agg #[z])) w) :
    wpList Tryz.prog ops Q ({ dst := dst, op := .load 184 x, type := ty, pos := pos, after := after, guard := gd } :: rest) a w :=
  wpList_step fun _ hK => by
    rw [if_pos hw]
    exact wp_load_mid 184 x rfl g 0 hx [z] _ (fun j u hj => by
      match j, hj with
      | 0, hj => simp at hj; subst hj; exact cell_lit hg 0 rfl
      | j + 1, hj => simp at hj) Tryz.underlying184 rfl (by kernel_rfl) (hK _ _ h)
end
set_option maxHeartbeats 8000000
set_option maxRecDepth 100000
end Go.Proofs.YtbnhcggjcdipeaaGreatDoor
