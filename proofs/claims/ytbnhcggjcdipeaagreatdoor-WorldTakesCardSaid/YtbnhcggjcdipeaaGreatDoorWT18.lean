/-
  The program's queue: Step.
-/
import Derived.Test.YtbnhcggjcdipeaaGreatDoorWT00
import Derived.Test.YtbnhcggjcdipeaaGreatDoorWT17
import Derived.Test.YtbnhcggjcdipeaaGreatDoorWT07
set_option linter.unusedSimpArgs false
set_option linter.unusedVariables false
namespace Go.Proofs.YtbnhcggjcdipeaaGreatDoor
open Go.RowKit
theorem frees_none {base : Nat} {v : Value} (h : ∀ q ∈ own v, q < base) : frees base v = [] := by
  unfold frees
  rw [List.filter_eq_nil_iff]
  intro q hq
  have := h q hq
  simp; omega
set_option maxHeartbeats 8000000
set_option maxRecDepth 100000
theorem quStep_any (w : World) (hG : Glob4 w) {v : Value} {l : List Int} (h : QIn w v l) (hl : l.length ≤ 1000000) (x : Opn) (hx : x.In) :
    Calls Tryz.prog 102 #[.agg #[v], x.val] w fun e w' => ∃ v', e = .returned (.tuple #[.agg #[v'], .agg (ansC (quX l x).2.1).toArray, .int .i64 (quX l x).2.2]) ∧ QIn w' v' (quX l x).1 ∧ Keeps [] w w' ∧ FSub (own v') (own v) w.heap.size := by
  have hone : v.oneCell' = true := by obtain ⟨a, c, rfl, -⟩ := h.shape; rfl
  obtain ⟨W, hW⟩ : ∃ W, W = (((w.alloc (.cells #[v] 184)).alloc (.cells #[.int .u8 x.f, .int .u8 x.o, .int .u8 x.k, .int .u16 x.a, .int .u16 x.b] 47)).alloc (.cells #[.slice none 0 0] 184)).alloc (.cells (ansC ⟨0, 0⟩).toArray 25) := ⟨_, rfl⟩
  obtain ⟨hk0, h0, h1, h2, h3, hz⟩ := vars_q w v _ W _ _ hW
  simp only [show (ansC ⟨0, 0⟩).toArray = #[Value.int .u8 0, .int .u16 0] from rfl] at hW
  obtain ⟨R, hR⟩ : ∃ R, R = w.heap.size := ⟨_, rfl⟩
  have hv := h.old
  rw [← hR] at h0 h1 h2 h3 hz hv
  have HRL := Lib.hid (show w.heap.size ≤ R from Nat.le_of_eq hR.symm)
  have HQ := Lib.hid (h.keeps hk0 (by simp))
  obtain ⟨S, hS⟩ : ∃ S : World → Prop, S = fun y => Keeps [R + 2, R + 3] W y := ⟨_, rfl⟩
  have HSE := Lib.hid hS
  have hSD : S W.drew := by rw [hS]; exact (Keeps.refl _ _).drew
  have HS0 := Lib.hid (fun (w' : World) (hh : S w') => show w'.cell? ⟨R, 0, none⟩ = some v from by rw [hS] at hh; exact hh.cell (cell_lit h0 0 rfl) (by simp))
  have HS1 := Lib.hid (fun (w' : World) (hh : S w') => show w'.rangeAt (R + 1) 0 (opC x) from by
    rw [hS] at hh
    intro j v hv
    rw [Nat.zero_add]
    exact hh.cell (cell_lit h1 j (by simpa [opC] using hv)) (by simp))
  have HK := Lib.hid hk0; have H2 := Lib.hid h2; have H3 := Lib.hid h3; have HSZ := Lib.hid hz; have HV := Lib.hid hv
  have HG := Lib.hid (hG.new hk0); have HL := Lib.hid hl; have HX := Lib.hid hx
  have HRR := Lib.hid hR; have HWW := Lib.hid hW
  clear h hS hk0 h0 h1 h2 h3 hz hv hR hW hG hl hx
  unfold Opn.val
  go_enter Tryz.func102, Tryz.ntmps102
  go_wp2_with fail
  rw [← HRR.out, ← HWW.out]
  clear HRR HWW
  refine wp_region_noPanic ?_
  refine wp_region_held_drew (S := S) (by kernel_rfl) hSD (fun hHeld => ?_)
  apply wpAnyH_take (i := 0)
  · simp only [List.getElem?_toArray]; rfl
  iterate 3 (· kernel_rfl)
  · exact fun _ _ _ h => h
  · exact yields_loadQ (by rfl) (.tmp 2) rfl R rfl v HS0.out
  · assumption
  try simp only [Act.put, lsA, lsZ, lsS]
  apply wpAnyH_take (i := 2)
  · simp only [List.getElem?_toArray]; rfl
  iterate 3 (· kernel_rfl)
  · exact fun _ _ _ h => h
  · exact yields_opC (by rfl) _ rfl (R + 1) 0 rfl x HS1.out
  · assumption
  try simp only [Act.put, lsA, lsZ, lsS]
  apply wpAnyH_ready (rs := [1])
  · kernel_rfl
  · simp
  apply AllReadyH.cons (hs := AllReadyH.nil)
  · simp only [List.getElem?_toArray]; rfl
  intro K hK
  rw [if_pos (by rfl)]
  refine wp_call9 147 _ _ rfl [.agg #[v]] rfl Tryz.func147 (by kernel_rfl) (by kernel_rfl) ((quCut_any W.drew (HQ.out.keeps ((Keeps.refl [] W).drew) (by simp)) R).mono ?_)
  rintro e W1 ⟨v1, rfl, hq1, hk1, ho1⟩
  refine ⟨_, rfl, ?_⟩
  have HK1 := Lib.hid (((Keeps.refl [] W).drew).trans hk1 (FSub.refl _ _))
  have HQ1 := Lib.hid hq1; have HO1 := Lib.hid ho1
  clear hk1 hq1 ho1
  refine hK.out _ _ ?_ (fun hHeld => ?_)
  · exact (by rw [HSE.out]; exact HK1.out.more (by simp))
  clear hK K
  try simp only [Act.put, lsA, lsZ, lsS]
  apply wpAnyH_ready (rs := [3])
  · kernel_rfl
  · simp
  apply AllReadyH.cons (hs := AllReadyH.nil)
  · simp only [List.getElem?_toArray]; rfl
  intro K hK
  rw [if_pos (by rfl)]
  refine wp_call9 148 _ _ rfl [.agg #[v1], x.val] rfl Tryz.func148 (by kernel_rfl) (by kernel_rfl) ((perform_any W1 (HG.out.new HK1.out) (base := R) (by have := HSZ.out; have := HK1.out.size; omega) HQ1.out HL.out x HX.out).mono ?_)
  rintro e W2 ⟨v2, rfl, hq2, hk2, hs2, -⟩
  refine ⟨_, rfl, ?_⟩
  rw [frees_none (by rw [HO1.out]; exact HV.out)] at hk2
  have HK2 := Lib.hid (HK1.out.trans hk2 (FSub.refl _ _))
  have HQ2 := Lib.hid hq2
  have HOW := Lib.hid (show ∀ q ∈ own v2, q ∈ own v ∨ R + 4 ≤ q from fun q hq => (hs2 q hq).imp (by rw [HO1.out]; exact id) (fun h => by have := HSZ.out; have := HK1.out.size; omega))
  clear hk2 hq2 hs2
  refine hK.out _ _ ?_ (fun hHeld => ?_)
  · exact (by rw [HSE.out]; exact HK2.out.more (by simp))
  clear hK K
  try simp only [Act.put, lsA, lsZ, lsS]
  apply wpAnyH_take (i := 4)
  · simp only [List.getElem?_toArray]; rfl
  iterate 3 (· kernel_rfl)
  · exact fun _ _ _ h => h
  · exact Or.inl ⟨by rfl, by intro w hSw; go_simp; try with_reducible rfl⟩
  · assumption
  try simp only [Act.put, lsA, lsZ, lsS]
  apply wpAnyH_take (i := 5)
  · simp only [List.getElem?_toArray]; rfl
  iterate 3 (· kernel_rfl)
  · exact fun _ _ _ h => h
  · exact Or.inl ⟨by rfl, by intro w hSw; go_simp; try with_reducible rfl⟩
  · assumption
  try simp only [Act.put, lsA, lsZ, lsS]
  apply wpAnyH_take (i := 6)
  · simp only [List.getElem?_toArray]; rfl
  iterate 3 (· kernel_rfl)
  · exact fun _ _ _ h => h
  · exact Or.inl ⟨by rfl, by intro w hSw; go_simp; try with_reducible rfl⟩
  · assumption
  try simp only [Act.put, lsA, lsZ, lsS]
  apply wpAnyH_ready (rs := [7])
  · kernel_rfl
  · simp
  apply AllReadyH.cons (hs := AllReadyH.nil)
  · simp only [List.getElem?_toArray]; rfl
  intro K hK
  rw [if_pos (by rfl)]
  refine wp_putQ rfl (g := R + 2) (old := .slice none 0 0) (z := v2) rfl rfl (HK2.out.heap H2.out (by simp)) (QF.one HQ2.out) (fun W3 hW3 hk3 => ?_)
  have HW3 := Lib.hid hW3
  have HA3 := Lib.hid (hk3.heap (HK2.out.heap H3.out (by simp)) (by simp))
  have HK3 := Lib.hid (show Keeps [R + 2, R + 3] W W3 from (HK2.out.more (by simp)).step hk3 (by simp))
  have hown : ∀ q ∈ own v2, q < R ∨ R + 4 ≤ q := fun q hq => (HOW.out q hq).imp (HV.out q) id
  have HQ3 := Lib.hid (HQ2.out.keeps hk3 (fun q hq => by have := hown q hq; simp; omega))
  clear hW3 hk3 hown
  refine hK.out _ _ ?_ (fun hHeld => ?_)
  · exact (by rw [HSE.out]; exact HK3.out)
  clear hK K
  try simp only [Act.put, lsA, lsZ, lsS]
  apply wpAnyH_ready (rs := [8])
  · kernel_rfl
  · simp
  apply AllReadyH.cons (hs := AllReadyH.nil)
  · simp only [List.getElem?_toArray]; rfl
  intro K hK
  rw [if_pos (by rfl)]
  refine wp_putN rfl (g := R + 3) (old := ⟨0, 0⟩) (quX l x).2.1 rfl rfl HA3.out (fun W4 hW4 hk4 => ?_)
  have HW4 := Lib.hid hW4
  have HS4 := Lib.hid (hk4.heap HW3.out (by simp))
  have HK4 := Lib.hid (HK3.out.step hk4 (by simp))
  have hown : ∀ q ∈ own v2, q < R ∨ R + 4 ≤ q := fun q hq => (HOW.out q hq).imp (HV.out q) id
  have HQ4 := Lib.hid (HQ3.out.keeps hk4 (fun q hq => by have := hown q hq; simp; omega))
  clear hW4 hk4 hown
  refine hK.out _ _ ?_ (fun hHeld => ?_)
  · exact (by rw [HSE.out]; exact HK4.out)
  clear hK K
  try simp only [Act.put, lsA, lsZ, lsS]
  apply wpAnyH_take (i := 9)
  · simp only [List.getElem?_toArray]; rfl
  iterate 3 (· kernel_rfl)
  · exact fun _ _ _ h => h
  · exact Or.inl ⟨by rfl, by intro w hSw; go_simp; try with_reducible rfl⟩
  · assumption
  try simp only [Act.put, lsA, lsZ, lsS]
  refine wpAnyH_done (by kernel_rfl) ?_ _
  refine NoPanic.normal ?_
  go_wp2_with fail
  try simp only [Exit.inBlock, Exit.then]
  exact bodyPost_ret (results_st3 rfl _ _ (R + 2) (R + 3) _ rfl HS4.out rfl HW4.out) rfl ⟨v2, rfl, HQ4.out.in_, HK.out.trans HK4.out (fun q hq => .inr (by have := HRL.out; simp at hq; omega)), fun q hq => (HOW.out q hq).imp id (fun h => by have := HRL.out; omega)⟩
end Go.Proofs.YtbnhcggjcdipeaaGreatDoor
/-
  The program's queue: Run.
-/
namespace Go.Proofs.YtbnhcggjcdipeaaGreatDoor
open Go.RowKit
section
variable {ops : Array Oper} {rest : List Oper} {a : Act} {w : World} {Q : Exit → Act → World → Prop}
theorem wpList_loadQ {dst : Option Tmp} {ty : TypeId} {pos : String} {after : Array Edge} {gd : Option (Nat × Bool)} {x : Operand} {g : Nat} {z : Value} {t : TypeId}
    (hw : Region.wanted { dst := dst, op := .load 184 x, type := ty, pos := pos, after := after, guard := gd } (yielded ops a.tmps) = true)
    (hx : a.eval x = .pointer (some ⟨g, 0, none⟩)) (hg : w.heap[g]? = some (.cells #[z] t (0, 0))) (h : wpList Tryz.prog ops Q rest (a.put dst (.agg #[z])) w) :
    wpList Tryz.prog ops Q ({ dst := dst, op := .load 184 x, type := ty, pos := pos, after := after, guard := gd } :: rest) a w :=
  wpList_step fun _ hK => by
    rw [if_pos hw]
    exact wp_load_mid 184 x rfl g 0 hx [z] _ (fun j u hj => by
      match j, hj with
      | 0, hj => simp at hj; subst hj; exact cell_lit hg 0 rfl
      | j + 1, hj => simp at hj) Tryz.underlying184 rfl (by kernel_rfl) (hK _ _ h)
end
set_option maxHeartbeats 8000000
set_option maxRecDepth 100000
end Go.Proofs.YtbnhcggjcdipeaaGreatDoor
