/-
  The program's queue: the step of Deq.
-/
import Derived.Test.YtbnhcggjcdipeaaGreatDoorWT00
import Derived.Test.YtbnhcggjcdipeaaGreatDoorWT15
import Derived.Test.YtbnhcggjcdipeaaGreatDoorWT11
set_option linter.unusedSimpArgs false
set_option linter.unusedVariables false
namespace Go.Proofs.YtbnhcggjcdipeaaGreatDoor
open Go.RowKit
section
variable {o : Oper} {a : Act} {w : World} {K : Act → World → Prop} {Q : Exit → Act → World → Prop}
theorem wp_putQ {x y : Operand} (ho : o.op = .store 184 x y) {g : Nat} {old z : Value} {t : TypeId}
    (hx : a.eval x = .pointer (some ⟨g, 0, none⟩)) (hy : a.eval y = .agg #[z]) (hg : w.heap[g]? = some (.cells #[old] t (0, 0))) (h1 : z.oneCell' = true)
    (h : ∀ W, W.heap[g]? = some (.cells #[z] t (0, 0)) → Keeps [g] w W → K (a.put o.dst undef) W) : o.wp Tryz.prog a w K Q :=
  wp_store_row 184 x y ho g #[z] hx hy t #[old] hg (by kernel_rfl) rfl (by simp [h1]) (h _ (setRow_heap w g #[old] #[z] t (0, 0) hg) ((Keeps.refl [g] w).setRow g _ (.inl (by simp))))
end
theorem QF.tail {base : Nat} {w : World} {bk o n c : Nat} {y : Int} {r : List Int} (h : QF base w (.slice (some ⟨bk, o, none⟩) n c) (y :: r)) (hr : r ≠ []) : QF base w (.slice (some ⟨bk, o + 1, none⟩) r.length (c - 1)) r ∧ n = r.length + 1 ∧ n ≤ c ∧ c ≠ 1 := by
  obtain ⟨a, c2, e, hc, hm, hI⟩ := h.in_.1
  simp only [Value.slice.injEq] at e
  obtain ⟨rfl, rfl, rfl⟩ := e
  have hl : 0 < r.length := List.length_pos_iff.2 hr
  have hlen : (y :: r).length = r.length + 1 := rfl
  rw [hlen] at hc
  have ht := U16.tail h.in_.1 (A := some ⟨bk, o + 1, none⟩) (if_neg (by omega))
  refine ⟨⟨⟨ht, fun e => absurd e hr⟩, some ⟨bk, o + 1, none⟩, c - 1, rfl, ?_⟩, rfl, by omega, by omega⟩
  obtain ⟨a2, c3, e, hf⟩ := h.free
  simp only [Value.slice.injEq, true_and] at e
  obtain ⟨rfl, rfl⟩ := e
  rcases hf with hf | ⟨b2, o2, e, hb, hf⟩
  · rw [hlen] at hf
    exact .inl (by omega)
  · simp only [Option.some.injEq, Addr.mk.injEq, and_true] at e
    obtain ⟨rfl, rfl⟩ := e
    refine .inr ⟨bk, o + 1, rfl, hb, fun j hj => ?_⟩
    have := hf (j + 1) (by omega)
    rw [show o + (j + 1) = o + 1 + j by omega] at this
    exact this
set_option maxHeartbeats 8000000
set_option maxRecDepth 100000
theorem quDeq_none (w : World) (base : Nat) (x : Opn) :
    Calls Tryz.prog 198 #[.agg #[.slice none 0 0], x.val] w (StPost base w (.slice none 0 0) [] ⟨2, 0⟩) := by
  obtain ⟨W, hW⟩ : ∃ W, W = (((w.alloc (.cells #[.slice none 0 0] 184)).alloc (.cells #[.int .u8 x.f, .int .u8 x.o, .int .u8 x.k, .int .u16 x.a, .int .u16 x.b] 47)).alloc (.cells #[.slice none 0 0] 184)).alloc (.cells (ansC ⟨2, 0⟩).toArray 25) := ⟨_, rfl⟩
  obtain ⟨hk, -, -, h2, h3, hz⟩ := vars_q w _ _ W _ _ hW
  have H2 := Lib.hid h2; have H3 := Lib.hid h3; have HK := Lib.hid hk
  subst hW
  clear hk h2 h3 hz
  unfold Opn.val
  go_enter Tryz.func198, Tryz.ntmps198
  go_wp2_with fail
  try simp only [Exit.inBlock, Exit.then]
  exact bodyPost_ret (results_st2 rfl _ _ (w.heap.size + 2) (w.heap.size + 3) ⟨2, 0⟩ rfl H2.out rfl H3.out) rfl ⟨_, rfl, QF.nil _ _, HK.out.more (by simp), FSub.refl _ _⟩
theorem quDeq_more (w : World) {base : Nat} {v : Value} {y : Int} {r : List Int} (h : QF base w v (y :: r)) (hr : r ≠ []) (hl : r.length ≤ 1000000) (x : Opn) :
    Calls Tryz.prog 198 #[.agg #[v], x.val] w (StPost base w v r ⟨1, y⟩) := by
  obtain ⟨a, c, rfl, hc, hm⟩ := h.in_.shape
  obtain ⟨bk, o, rfl, hb, d0⟩ := U16.at (k := 0) h.in_.1 (by simp)
  rw [show (y :: r).getD 0 0 = y from rfl, Nat.add_zero] at d0
  obtain ⟨ht, hn, hc1, hc2⟩ := h.tail hr
  have hsl := fun w => U16.slice1 (bk := bk) (o := o) w (show 1 ≤ (y :: r).length by simp) hc
  rw [if_neg hc2, show (y :: r).length - 1 = r.length from rfl] at hsl
  have hlt : 0 < r.length := List.length_pos_iff.2 hr
  have hl2 : (y :: r).length = r.length + 1 := rfl
  rw [hl2] at hsl hc hc1 ⊢
  clear hn hl2
  obtain ⟨W, hW⟩ : ∃ W, W = (((w.alloc (.cells #[.slice (some ⟨bk, o, none⟩) (r.length + 1) c] 184)).alloc (.cells #[.int .u8 x.f, .int .u8 x.o, .int .u8 x.k, .int .u16 x.a, .int .u16 x.b] 47)).alloc (.cells #[.slice none 0 0] 184)).alloc (.cells (ansC ⟨0, 0⟩).toArray 25) := ⟨_, rfl⟩
  obtain ⟨hk, h0, -, h2, h3, hz⟩ := vars_q w _ _ W _ _ hW
  obtain ⟨R, hR⟩ : ∃ R, R = w.heap.size := ⟨_, rfl⟩
  rw [← hR] at h0 h2 h3 hz hb
  have HRL := Lib.hid (show w.heap.size ≤ R from Nat.le_of_eq hR.symm)
  obtain ⟨S, hS⟩ : ∃ S : World → Prop, S = fun y => Keeps [R + 2, R + 3] W y := ⟨_, rfl⟩
  have HSE := Lib.hid hS
  have hSD : S W.drew := by rw [hS]; exact (Keeps.refl _ _).drew
  have HS0 := Lib.hid (fun (w' : World) (hh : S w') => show w'.cell? ⟨R, 0, none⟩ = some (.slice (some ⟨bk, o, none⟩) (r.length + 1) c) from by rw [hS] at hh; exact hh.cell (cell_lit h0 0 rfl) (by simp))
  have HS1 := Lib.hid (fun (w' : World) (hh : S w') => show w'.cell? ⟨bk, o, none⟩ = some (.int .u16 y) from by rw [hS] at hh; exact hh.cell (hk.cell d0 (by simp)) (by simp; omega))
  have HSL := Lib.hid hsl
  have H2 := Lib.hid h2; have H3 := Lib.hid h3; have HK := Lib.hid hk
  have HT := Lib.hid (ht.keeps hk (by simp))
  have HB := Lib.hid hb
  simp only [show (ansC ⟨0, 0⟩).toArray = #[Value.int .u8 0, .int .u16 0] from rfl] at hW
  have e0 : ((r.length + 1 : Nat) : Int) ≠ 0 := by omega
  have e1 : ((r.length + 1 : Nat) : Int) ≠ 1 := by omega
  generalize hN : r.length + 1 = n at *
  generalize hN2 : r.length = n2 at *
  have f0 : ((n : Int) == 0) = false := by simpa using e0
  have f1 : ((n : Int) == 1) = false := by simpa using e1
  have i0 : 0 < n := by omega
  have HLT := Lib.hid hlt
  clear h hr hl hb d0 ht hsl hS h0 h2 h3 hz hk e0 e1 hN hN2 hlt hc1 hc2
  have HRR := Lib.hid hR; have HWW := Lib.hid hW
  clear hR hW
  unfold Opn.val
  go_enter Tryz.func198, Tryz.ntmps198
  go_wp2_with fail
  rw [← HRR.out, ← HWW.out]
  clear HRR HWW
  refine wp_region_noPanic ?_
  refine wp_region_held_drew (S := S) (by kernel_rfl) hSD (fun hHeld => ?_)
  apply wpAnyH_take (i := 0)
  · simp only [List.getElem?_toArray]; rfl
  iterate 3 (· kernel_rfl)
  · exact fun _ _ _ h => h
  · exact Or.inl ⟨by rfl, by intro w hSw; go_simp; try with_reducible rfl⟩
  · assumption
  try simp only [Act.put, lsA, lsZ, lsS]
  apply wpAnyH_take (i := 1)
  · simp only [List.getElem?_toArray]; rfl
  iterate 3 (· kernel_rfl)
  · exact fun _ _ _ h => h
  · exact Or.inl ⟨by rfl, by intro w hSw; have q0 := HS0.out w hSw; go_simp; try with_reducible rfl⟩
  · assumption
  try simp only [Act.put, lsA, lsZ, lsS]
  apply wpAnyH_take (i := 2)
  · simp only [List.getElem?_toArray]; rfl
  iterate 3 (· kernel_rfl)
  · exact fun _ _ _ h => h
  · exact yields_slice1 (by rfl) (.tmp 22) rfl (v := .slice (some ⟨bk, o, none⟩) n c) rfl HSL.out
  · assumption
  try simp only [Act.put, lsA, lsZ, lsS]
  apply wpAnyH_take (i := 3)
  · simp only [List.getElem?_toArray]; rfl
  iterate 3 (· kernel_rfl)
  · exact fun _ _ _ h => h
  · exact Or.inl ⟨by rfl, by intro w hSw; go_simp; try with_reducible rfl⟩
  · assumption
  try simp only [Act.put, lsA, lsZ, lsS]
  apply wpAnyH_take (i := 4)
  · simp only [List.getElem?_toArray]; rfl
  iterate 3 (· kernel_rfl)
  · exact fun _ _ _ h => h
  · exact Or.inl ⟨by rfl, by intro w hSw; go_simp; try with_reducible rfl⟩
  · assumption
  try simp only [Act.put, lsA, lsZ, lsS]
  apply wpAnyH_take (i := 5)
  · simp only [List.getElem?_toArray]; rfl
  iterate 3 (· kernel_rfl)
  · exact fun _ _ _ h => h
  · exact Or.inl ⟨by rfl, by intro w hSw; have q0 := HS0.out w hSw; go_simp; try with_reducible rfl⟩
  · assumption
  try simp only [Act.put, lsA, lsZ, lsS]
  apply wpAnyH_take (i := 6)
  · simp only [List.getElem?_toArray]; rfl
  iterate 3 (· kernel_rfl)
  · exact fun _ _ _ h => h
  · exact Or.inl ⟨by rfl, by intro w hSw; go_simp; try with_reducible rfl⟩
  · assumption
  try simp only [Act.put, lsA, lsZ, lsS]
  apply wpAnyH_take (i := 7)
  · simp only [List.getElem?_toArray]; rfl
  iterate 3 (· kernel_rfl)
  · exact fun _ _ _ h => h
  · exact Or.inl ⟨by rfl, by intro w hSw; have q0 := HS1.out w hSw; go_simp; try with_reducible rfl⟩
  · assumption
  try simp only [Act.put, lsA, lsZ, lsS]
  apply wpAnyH_take (i := 8)
  · simp only [List.getElem?_toArray]; rfl
  iterate 3 (· kernel_rfl)
  · exact fun _ _ _ h => h
  · exact Or.inl ⟨by rfl, by intro w hSw; go_simp; try with_reducible rfl⟩
  · assumption
  try simp only [Act.put, lsA, lsZ, lsS]
  apply wpAnyH_ready (rs := [9])
  · kernel_rfl
  · simp
  apply AllReadyH.cons (hs := AllReadyH.nil)
  · simp only [List.getElem?_toArray]; rfl
  intro K hK
  rw [if_pos (by rfl)]
  refine wp_putQ rfl (g := R + 2) (old := .slice none 0 0) (z := .slice (some ⟨bk, o + 1, none⟩) n2 (c - 1)) rfl rfl H2.out (slice_one _ _ _) (fun W2 hW2 hk2 => ?_)
  have HW2 := Lib.hid hW2
  have HA2 := Lib.hid (hk2.heap (show W.drew.heap[R + 3]? = _ from H3.out) (by simp))
  have HK2 := Lib.hid (show Keeps [R + 2, R + 3] W W2 from ((Keeps.refl _ _).drew).step hk2 (by simp))
  clear hW2 hk2
  refine hK.out _ _ ?_ (fun hHeld => ?_)
  · exact (by rw [HSE.out]; exact HK2.out)
  clear hK K
  try simp only [Act.put, lsA, lsZ, lsS]
  apply wpAnyH_ready (rs := [10])
  · kernel_rfl
  · simp
  apply AllReadyH.cons (hs := AllReadyH.nil)
  · simp only [List.getElem?_toArray]; rfl
  intro K hK
  rw [if_pos (by rfl)]
  refine wp_putN rfl (g := R + 3) (old := ⟨0, 0⟩) ⟨1, y⟩ rfl rfl HA2.out (fun W3 hW3 hk3 => ?_)
  have HW3 := Lib.hid hW3
  have HS3 := Lib.hid (hk3.heap HW2.out (by simp))
  have HK3 := Lib.hid (HK2.out.step hk3 (by simp))
  clear hW3 hk3
  refine hK.out _ _ ?_ (fun hHeld => ?_)
  · exact (by rw [HSE.out]; exact HK3.out)
  clear hK K
  try simp only [Act.put, lsA, lsZ, lsS]
  refine wpAnyH_done (by kernel_rfl) ?_ _
  refine NoPanic.normal ?_
  go_wp2_with fail
  try simp only [Exit.inBlock, Exit.then]
  refine bodyPost_ret (results_st2 rfl _ _ (R + 2) (R + 3) ⟨1, y⟩ rfl HS3.out rfl HW3.out) rfl ⟨_, rfl, HT.out.keeps HK3.out (fun q hq => ?_), (HK.out.trans HK3.out (fun q hq => .inr (by have := HRL.out; simp at hq; omega))).more (by simp), fun q hq => .inl (by simpa [own, Value.ownBlock] using hq)⟩
  have := HB.out
  simp [own, Value.ownBlock] at hq
  simp; omega
theorem quDeq_one (w : World) {base : Nat} {v : Value} {y : Int} (h : QF base w v [y]) (x : Opn) :
    Calls Tryz.prog 198 #[.agg #[v], x.val] w (StPost base w v [] ⟨1, y⟩) := by
  obtain ⟨a, c, rfl, hc, hm⟩ := h.in_.shape
  obtain ⟨bk, o, rfl, hb, d0⟩ := U16.at (k := 0) h.in_.1 (by simp)
  rw [show ([y] : List Int).getD 0 0 = y from rfl, Nat.add_zero] at d0
  rw [show ([y] : List Int).length = 1 from rfl] at hc ⊢
  obtain ⟨W, hW⟩ : ∃ W, W = (((w.alloc (.cells #[.slice (some ⟨bk, o, none⟩) 1 c] 184)).alloc (.cells #[.int .u8 x.f, .int .u8 x.o, .int .u8 x.k, .int .u16 x.a, .int .u16 x.b] 47)).alloc (.cells #[.slice none 0 0] 184)).alloc (.cells (ansC ⟨0, 0⟩).toArray 25) := ⟨_, rfl⟩
  obtain ⟨hk, h0, -, h2, h3, hz⟩ := vars_q w _ _ W _ _ hW
  obtain ⟨R, hR⟩ : ∃ R, R = w.heap.size := ⟨_, rfl⟩
  rw [← hR] at h0 h2 h3 hz hb
  have HRL := Lib.hid (show w.heap.size ≤ R from Nat.le_of_eq hR.symm)
  obtain ⟨S, hS⟩ : ∃ S : World → Prop, S = fun y => Keeps [R + 2, R + 3] W y := ⟨_, rfl⟩
  have HSE := Lib.hid hS
  have hSD : S W.drew := by rw [hS]; exact (Keeps.refl _ _).drew
  have HS0 := Lib.hid (fun (w' : World) (hh : S w') => show w'.cell? ⟨R, 0, none⟩ = some (.slice (some ⟨bk, o, none⟩) 1 c) from by rw [hS] at hh; exact hh.cell (cell_lit h0 0 rfl) (by simp))
  have HS1 := Lib.hid (fun (w' : World) (hh : S w') => show w'.cell? ⟨bk, o, none⟩ = some (.int .u16 y) from by rw [hS] at hh; exact hh.cell (hk.cell d0 (by simp)) (by simp; omega))
  have H2 := Lib.hid h2; have H3 := Lib.hid h3; have HK := Lib.hid hk; have HZ := Lib.hid hz
  simp only [show (ansC ⟨0, 0⟩).toArray = #[Value.int .u8 0, .int .u16 0] from rfl] at hW
  clear h hb d0 hS h0 h2 h3 hz hk
  have HRR := Lib.hid hR; have HWW := Lib.hid hW
  clear hR hW
  unfold Opn.val
  go_enter Tryz.func198, Tryz.ntmps198
  go_wp2_with fail
  rw [← HRR.out, ← HWW.out]
  clear HRR HWW
  refine wp_region_noPanic ?_
  refine wp_region_held_drew (S := S) (by kernel_rfl) hSD (fun hHeld => ?_)
  apply wpAnyH_take (i := 1)
  · simp only [List.getElem?_toArray]; rfl
  iterate 3 (· kernel_rfl)
  · exact fun _ _ _ h => h
  · exact Or.inl ⟨by rfl, by intro w hSw; go_simp; try with_reducible rfl⟩
  · assumption
  try simp only [Act.put, lsA, lsZ, lsS]
  apply wpAnyH_take (i := 2)
  · simp only [List.getElem?_toArray]; rfl
  iterate 3 (· kernel_rfl)
  · exact fun _ _ _ h => h
  · exact Or.inl ⟨by rfl, by intro w hSw; have q0 := HS0.out w hSw; go_simp; try with_reducible rfl⟩
  · assumption
  try simp only [Act.put, lsA, lsZ, lsS]
  apply wpAnyH_take (i := 3)
  · simp only [List.getElem?_toArray]; rfl
  iterate 3 (· kernel_rfl)
  · exact fun _ _ _ h => h
  · exact Or.inl ⟨by rfl, by intro w hSw; go_simp; try with_reducible rfl⟩
  · assumption
  try simp only [Act.put, lsA, lsZ, lsS]
  apply wpAnyH_take (i := 4)
  · simp only [List.getElem?_toArray]; rfl
  iterate 3 (· kernel_rfl)
  · exact fun _ _ _ h => h
  · exact Or.inl ⟨by rfl, by intro w hSw; have q0 := HS1.out w hSw; go_simp; try with_reducible rfl⟩
  · assumption
  try simp only [Act.put, lsA, lsZ, lsS]
  apply wpAnyH_take (i := 5)
  · simp only [List.getElem?_toArray]; rfl
  iterate 3 (· kernel_rfl)
  · exact fun _ _ _ h => h
  · exact Or.inl ⟨by rfl, by intro w hSw; go_simp; try with_reducible rfl⟩
  · assumption
  try simp only [Act.put, lsA, lsZ, lsS]
  apply wpAnyH_ready (rs := [0])
  · kernel_rfl
  · simp
  apply AllReadyH.cons (hs := AllReadyH.nil)
  · simp only [List.getElem?_toArray]; rfl
  intro K hK
  rw [if_pos (by rfl)]
  refine wp_call9 99 _ _ rfl [] rfl Tryz.func99 (by kernel_rfl) (by kernel_rfl) ((quNew_any W.drew).mono ?_)
  rintro e W1 ⟨rfl, hk1⟩
  refine ⟨_, rfl, ?_⟩
  have HK1 := Lib.hid (((Keeps.refl [] W).drew).trans hk1 (FSub.refl _ _))
  clear hk1
  refine hK.out _ _ ?_ (fun hHeld => ?_)
  · exact (by rw [HSE.out]; exact HK1.out.more (by simp))
  clear hK K
  try simp only [Act.put, lsA, lsZ, lsS]
  have HB2 := Lib.hid (HK1.out.heap H2.out (by simp)); have HB3 := Lib.hid (HK1.out.heap H3.out (by simp))
  apply wpAnyH_ready (rs := [6])
  · kernel_rfl
  · simp
  apply AllReadyH.cons (hs := AllReadyH.nil)
  · simp only [List.getElem?_toArray]; rfl
  intro K hK
  rw [if_pos (by rfl)]
  refine wp_putQ rfl (g := R + 2) (old := .slice none 0 0) (z := .slice none 0 0) rfl rfl HB2.out (slice_one _ _ _) (fun W2 hW2 hk2 => ?_)
  have HW2 := Lib.hid hW2
  have HA2 := Lib.hid (hk2.heap HB3.out (by simp))
  have HK2 := Lib.hid (show Keeps [R + 2, R + 3] W W2 from (HK1.out.more (by simp)).step hk2 (by simp))
  clear hW2 hk2
  refine hK.out _ _ ?_ (fun hHeld => ?_)
  · exact (by rw [HSE.out]; exact HK2.out)
  clear hK K
  try simp only [Act.put, lsA, lsZ, lsS]
  apply wpAnyH_ready (rs := [7])
  · kernel_rfl
  · simp
  apply AllReadyH.cons (hs := AllReadyH.nil)
  · simp only [List.getElem?_toArray]; rfl
  intro K hK
  rw [if_pos (by rfl)]
  refine wp_putN rfl (g := R + 3) (old := ⟨0, 0⟩) ⟨1, y⟩ rfl rfl HA2.out (fun W3 hW3 hk3 => ?_)
  have HW3 := Lib.hid hW3
  have HS3 := Lib.hid (hk3.heap HW2.out (by simp))
  have HK3 := Lib.hid (HK2.out.step hk3 (by simp))
  clear hW3 hk3
  refine hK.out _ _ ?_ (fun hHeld => ?_)
  · exact (by rw [HSE.out]; exact HK3.out)
  clear hK K
  try simp only [Act.put, lsA, lsZ, lsS]
  refine wpAnyH_done (by kernel_rfl) ?_ _
  refine NoPanic.normal ?_
  go_wp2_with fail
  try simp only [Exit.inBlock, Exit.then]
  exact bodyPost_ret (results_st2 rfl _ _ (R + 2) (R + 3) ⟨1, y⟩ rfl HS3.out rfl HW3.out) rfl ⟨_, rfl, QF.nil _ _, (HK.out.trans HK3.out (fun q hq => .inr (by have := HRL.out; simp at hq; omega))).more (by simp), fun q hq => by simp [own, Value.ownBlock] at hq⟩
end Go.Proofs.YtbnhcggjcdipeaaGreatDoor
