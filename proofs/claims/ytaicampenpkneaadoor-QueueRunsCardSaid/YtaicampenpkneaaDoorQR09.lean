/-
  The document's queue: Step.
-/
import Derived.Deep.RegionHeld3
import Derived.Laws.Tables
import Derived.BigQuiet
import Derived.Test.YtaicampenpkneaaDoorQR08
import Derived.Test.YtaicampenpkneaaDoorQR07
set_option linter.unusedSimpArgs false
set_option linter.unusedVariables false
namespace Go.Proofs.YtaicampenpkneaaDoor
open Go.RowKit
section
variable {ops : Array Oper} {rest : List Oper} {a : Act} {w : World} {Q : Exit → Act → World → Prop}
theorem wpList_putN {dst : Option Tmp} {ty : TypeId} {pos : String} {after : Array Edge} {x y : Operand} {g : Nat} {old : Ans} (r : Ans) {t : TypeId}
    (hx : a.eval x = .pointer (some ⟨g, 0, none⟩)) (hy : a.eval y = .agg (ansC r).toArray) (hg : w.heap[g]? = some (.cells (ansC old).toArray t (0, 0)))
    (h : ∀ W, W.heap[g]? = some (.cells (ansC r).toArray t (0, 0)) → Keeps [g] w W → wpList Tryd.prog ops Q rest (a.put dst undef) W) :
    wpList Tryd.prog ops Q ({ dst := dst, op := .store 31 x y, type := ty, pos := pos, after := after, guard := none } :: rest) a w :=
  wpList_store_row rfl 31 x y rfl g (ansC r).toArray hx hy t (ansC old).toArray hg (by kernel_rfl) rfl (by rw [← Array.all_toList, List.all_eq_true]; exact ansC_one r) (h _ (setRow_heap w g (ansC old).toArray (ansC r).toArray t (0, 0) hg) ((Keeps.refl [g] w).setRow g _ (.inl (by simp))))
end
/-- The rest of a slice. -/
theorem U16.tail {N : Nat} {w : World} {bk o n c : Nat} {y : Int} {r : List Int} (h : rkU.In N w (.slice (some ⟨bk, o, none⟩) n c) (y :: r)) {A : Option Addr} (hA : (if c = 1 then some (⟨bk, o, none⟩ : Addr) else some ⟨bk, o + 1, none⟩) = A) : rkU.In N w (.slice A (n - 1) (c - 1)) r := by
  obtain ⟨a2, c2, e, hc, hm, h⟩ := h
  simp only [Value.slice.injEq] at e
  obtain ⟨rfl, rfl, rfl⟩ := e
  obtain ⟨b2, o2, e, hb, hr⟩ := h (by simp)
  simp only [Option.some.injEq, Addr.mk.injEq, and_true] at e
  obtain ⟨rfl, rfl⟩ := e
  refine ⟨A, c - 1, by simp, by simp at hc; omega, by omega, fun hn => ?_⟩
  have hlen : 0 < r.length := List.length_pos_iff.2 hn
  rw [if_neg (by simp at hc; omega)] at hA
  refine ⟨bk, o + 1, hA.symm, hb, fun j hj => ?_⟩
  have h2 := hr (j + 1) (by simp; omega)
  rw [show o + (j + 1) * rkU.s = o + 1 + j * rkU.s from by show o + (j + 1) * 1 = o + 1 + j * 1; omega] at h2
  exact h2
theorem U16.slice1 (w : World) {bk o n c : Nat} (hn : 1 ≤ n) (hc : n ≤ c) :
    (Instr.sliceAt 22 (.slice (some ⟨bk, o, none⟩) n c) (some (.int .i64 1)) none none).run Tryd.prog w = .ok (.slice (if c = 1 then some ⟨bk, o, none⟩ else some ⟨bk, o + 1, none⟩) (n - 1) (c - 1)) w := by
  have h1 : (1 : Int) ≤ n := by omega
  have h2 : (n : Int) ≤ c := by omega
  simp [go_sem, run_underlying Tryd.underlying22, h1, h2]
theorem yields_slice1 {ops : Array Oper} {S : World → Prop} {o : Oper} {a : Act} (hw : Region.wanted o (yielded ops a.tmps) = true) (x : Operand) (ho : o.op = .slice 22 x (some (.const (.int .i64 1))) none none) {v v' : Value} (hx : a.eval x = v)
    (hr : ∀ w, (Instr.sliceAt 22 v (some (.int .i64 1)) none none).run Tryd.prog w = .ok v' w) : YieldsIf Tryd.prog ops S o v' a :=
  Or.inl ⟨hw, by
    intro w _
    unfold execOp
    have hc : a.eval (.const (.int .i64 1)) = .int .i64 1 := rfl
    simp only [ho, hx, Option.map_some, Option.map_none, hc]
    have h := hr w
    simp [h, Result.andThen]⟩
/-- The world behind the document's variables: an operation, an answer. -/
theorem step10_vars (w : World) (A : Array Value) :
    Keeps [] w ((w.alloc (.cells A 25)).alloc (.cells (ansC ⟨0, 0⟩).toArray 31)) ∧
    ((w.alloc (.cells A 25)).alloc (.cells (ansC ⟨0, 0⟩).toArray 31)).heap[w.heap.size]? = some (.cells A 25 (0, 0)) ∧
    ((w.alloc (.cells A 25)).alloc (.cells (ansC ⟨0, 0⟩).toArray 31)).heap[w.heap.size + 1]? = some (.cells (ansC ⟨0, 0⟩).toArray 31 (0, 0)) ∧
    ((w.alloc (.cells A 25)).alloc (.cells (ansC ⟨0, 0⟩).toArray 31)).heap.size = w.heap.size + 2 := by
  have e1 : (w.alloc (.cells A 25)).heap.size = w.heap.size + 1 := Array.size_push _
  refine ⟨((Keeps.refl _ _).alloc _).alloc _, ?_, ?_, ?_⟩
  · exact ((Keeps.refl [] _).alloc _).heap (heap_alloc_new w _) (by simp)
  · have h := heap_alloc_new (w.alloc (.cells A 25)) (.cells (ansC ⟨0, 0⟩).toArray 31)
    rw [e1] at h
    exact h
  · rw [show ((w.alloc (.cells A 25)).alloc (.cells (ansC ⟨0, 0⟩).toArray 31)).heap.size = (w.alloc (.cells A 25)).heap.size + 1 from Array.size_push _, e1]
set_option maxHeartbeats 8000000
set_option maxRecDepth 100000
/-- What the document's Step tells. -/
def Post10 (w : World) (v : Value) (l : List Int) (x : Opn) (e : Ending) (w' : World) : Prop :=
  ∃ v', e = .returned (.tuple #[v', .agg (ansC (quX l x).2.1).toArray, .int .i64 (quX l x).2.2]) ∧ rkU.In w'.heap.size w' v' (quX l x).1 ∧ Keeps [] w w' ∧ ((quX l x).1 ≠ [] → ∀ q ∈ own v', (l ≠ [] ∧ q ∈ own v) ∨ w.heap.size ≤ q)
theorem r10Step_any (w : World) {v : Value} {l : List Int} (h : rkU.In w.heap.size w v l) (hl : l.length ≤ 1000000) (x : Opn) (hx : x.In) :
    Calls Tryd.prog 13 #[v, x.val] w (Post10 w v l x) := by
  obtain ⟨a1, c1, rfl, hc1, hm1, -⟩ := id h
  have HW := Lib.hid (step10_vars w #[.int .u8 x.f, .int .u8 x.o, .int .u8 x.k, .int .u16 x.a, .int .u16 x.b])
  have HCK := Lib.hid (fun w => r4Check_any w 1 x.f x.o x.k x.a x.b (by decide) (by decide) hx)
  have HIN := Lib.hid h; have HL := Lib.hid hl
  clear h hl
  unfold Opn.val
  go_enter Tryd.func13, Tryd.ntmps13
  go_wp2_with fail
  refine (HCK.out _).mono ?_; rintro e w1 ⟨rfl, hk1⟩
  obtain ⟨R, hR⟩ : ∃ R, R = w.heap.size := ⟨_, rfl⟩
  have HWW := HW.out
  rw [← hR] at HWW ⊢
  simp only [show (ansC ⟨0, 0⟩).toArray = #[Value.int .u8 0, .int .u16 0] from rfl] at HWW
  generalize (w.alloc (.cells #[.int .u8 x.f, .int .u8 x.o, .int .u8 x.k, .int .u16 x.a, .int .u16 x.b] 25)).alloc (.cells #[.int .u8 0, .int .u16 0] 31) = W at *
  have HO := Lib.hid (hk1.heap HWW.2.1 (by simp))
  have HA := Lib.hid (show w1.heap[R + 1]? = some (.cells (ansC ⟨0, 0⟩).toArray 31 (0, 0)) from hk1.heap HWW.2.2.1 (by simp))
  have HK := Lib.hid (HWW.1.trans hk1 (FSub.refl _ _))
  have HRL := Lib.hid (show w.heap.size ≤ R from Nat.le_of_eq hR.symm)
  have HSZ := Lib.hid (show R + 2 ≤ w1.heap.size from by have := HWW.2.2.2; have := hk1.size; omega)
  have HIN1 := Lib.hid (HIN.out.new (HWW.1.trans hk1 (FSub.refl _ _)) (Nat.le_refl _))
  clear HWW HW hk1 hR HCK HIN
  rcases opChk_or 1 x with hck | hck
  · have HCK := Lib.hid hck
    rw [show (⟨x.f, x.o, x.k, x.a, x.b⟩ : Opn) = x from rfl, hck]
    have c0 : w1.cell? ⟨R, 0, none⟩ = some (.int .u8 x.f) := cell_lit HO.out 0 rfl
    by_cases hf : x.f = 4
    · have e4 : (x.f == 4) = true := by simpa using hf
      obtain ⟨v2, w2, hr2, ho2, hk2, hf2⟩ := rkU.appendIn w1 w1.heap.size (Nat.le_refl _) (.slice none 0 0) [] (RK.Own.nil _ _ _) HIN1.out (by simp; have := HL.out; omega)
      have HR2 := Lib.hid (show (Builtin.append_ #[22, 22] 22 #[.slice none 0 0, .slice a1 l.length c1]).run Tryd.prog w1 = .ok v2 w2 from hr2)
      have HO2 := Lib.hid ho2
      have HK2 := Lib.hid (show Keeps [] w1 w2 from hk2)
      have c3 : w2.cell? ⟨R, 3, none⟩ = some (.int .u16 x.a) := cell_lit (HK2.out.heap HO.out (by simp)) 3 rfl
      obtain ⟨v3, w3, hr3, ho3, hk3, hf3⟩ := rkU.append1 w2 w1.heap.size hk2.size v2 _ ho2 x.a (by simp; have := HL.out; omega)
      obtain ⟨a2, c2, rfl, hc2, hm2⟩ := ho2.shape
      have HR3 := Lib.hid (show (Builtin.append_ #[22, 22] 22 #[.slice a2 (([] : List Int) ++ l).length c2, .slice (some ⟨w2.heap.size, 0, none⟩) 1 1]).run Tryd.prog (w2.alloc (.cells #[.int .u16 x.a] 23)) = .ok v3 w3 from hr3)
      have HA3 := Lib.hid (hk3.heap (HK2.out.heap HA.out (by simp)) (fun hq => by have := (row_base HO2.out _ hq).1; have := HSZ.out; omega))
      have HO3 := Lib.hid ho3
      have HK3 := Lib.hid (show Keeps [] w w3 from (HK.out.trans HK2.out (FSub.refl _ _)).trans hk3 (fun q hq => .inr (by have := (row_base HO2.out _ hq).1; have := HSZ.out; have := HRL.out; omega)))
      clear hr2 ho2 hk2 hf2 hr3 ho3 hk3 hf3 hf hck HIN1
      go_wp2_with (first
        | ((with_reducible refine wpList_app (.slice none 0 0) _ ?_ ?_ HR2.out ?_); exact rfl; exact rfl)
        | ((with_reducible refine wpList_app _ (.slice (some ⟨w2.heap.size, 0, none⟩) 1 1) ?_ ?_ HR3.out ?_); exact rfl; exact rfl)
        | ((with_reducible refine wpList_putN (g := R + 1) (old := ⟨0, 0⟩) ⟨0, 0⟩ ?_ ?_ HA3.out ?_); exact rfl; exact rfl))
      intro W4 hA4 hk4
      have HA4 := Lib.hid hA4; have HK4 := Lib.hid hk4
      clear hA4 hk4
      go_wp2_with fail
      try simp only [Exit.inBlock, Exit.then]
      refine bodyPost_ret (results_ans rfl _ _ _ ⟨0, 0⟩ rfl HA4.out) rfl ⟨v3, by rw [quX_enq HCK.out (by simpa using e4)]; rfl, ?_, HK3.out.trans HK4.out (fun q hq => .inr (by simp at hq; have := HRL.out; omega)), fun _ q hq => .inr (by have := (row_base HO3.out q hq).1; have := HK.out.size; omega)⟩
      rw [quX_enq HCK.out (by simpa using e4)]
      exact (HO3.out.keeps HK4.out (fun q hq => by have := (row_base HO3.out q hq).1; have := HSZ.out; simp; omega)).in_
    · have e4 : (x.f == 4) = false := by simpa using hf
      cases l with
      | nil =>
        clear hck
        go_wp2_with ((with_reducible refine wpList_putN (g := R + 1) (old := ⟨0, 0⟩) ⟨2, 0⟩ ?_ ?_ HA.out ?_); exact rfl; exact rfl)
        intro W4 hA4 hk4
        have HA4 := Lib.hid hA4; have HK4 := Lib.hid hk4
        clear hA4 hk4
        go_wp2_with fail
        try simp only [Exit.inBlock, Exit.then]
        have hkk : Keeps [] w W4 := HK.out.trans HK4.out (fun q hq => .inr (by simp at hq; have := HRL.out; omega))
        refine bodyPost_ret (results_ans rfl _ _ _ ⟨2, 0⟩ rfl HA4.out) rfl ⟨_, by rw [quX_none HCK.out hf]; rfl, ?_, hkk, fun h => absurd (by rw [quX_none HCK.out hf]) h⟩
        rw [quX_none HCK.out hf]
        exact ⟨a1, c1, rfl, by simp, hm1, fun h => absurd rfl h⟩
      | cons y r =>
        clear hck
        have hy := U16.at (k := 0) HIN1.out (by simp)
        obtain ⟨bk, o, rfl, hb, d0⟩ := hy
        rw [show (y :: r).getD 0 0 = y from rfl] at d0
        obtain ⟨A, hA⟩ : ∃ A, (if c1 = 1 then some (⟨bk, o, none⟩ : Addr) else some ⟨bk, o + 1, none⟩) = A := ⟨_, rfl⟩
        have htail := U16.tail HIN1.out hA
        have hsl := fun w => U16.slice1 (bk := bk) (o := o) w (show 1 ≤ (y :: r).length by simp) hc1
        rw [hA] at hsl
        have HT := Lib.hid htail
        obtain ⟨v2, w2, hr2, ho2, hk2, hf2⟩ := rkU.appendIn w1.drew w1.heap.size (Nat.le_refl _) (.slice none 0 0) [] (RK.Own.nil _ _ _) (N := w.heap.size) (u := .slice A ((y :: r).length - 1) (c1 - 1)) (M := r) (htail.same (fun _ _ => rfl)) (by have := HL.out; simp at this ⊢; omega)
        have HR2 := Lib.hid (show (Builtin.append_ #[22, 22] 22 #[.slice none 0 0, .slice A ((y :: r).length - 1) (c1 - 1)]).run Tryd.prog w1.drew = .ok v2 w2 from hr2)
        have HO2 := Lib.hid ho2
        have HK2 := Lib.hid (show Keeps [] w1 w2 from ((Keeps.refl _ _).drew).trans hk2 (fun q hq => by simp [own, Value.ownBlock] at hq))
        obtain ⟨S, hS⟩ : ∃ S : World → Prop, S = fun y => Keeps [R + 1] w1 y := ⟨_, rfl⟩
        have HSE := Lib.hid hS
        have hSD : S w1.drew := by rw [hS]; exact (Keeps.refl _ _).drew
        have HS0 := Lib.hid (fun (w' : World) (h : S w') => show w'.cell? ⟨bk, o, none⟩ = some (.int .u16 y) from by rw [hS] at h; exact h.cell d0 (by simp; have := HRL.out; omega))
        have HSL := Lib.hid hsl
        have HA2 := Lib.hid (HK2.out.heap HA.out (by simp))
        clear hS hsl htail hr2 ho2 hk2 hf2 d0 hA
        go_wp2_with fail
        refine wp_region_noPanic ?_
        refine wp_region_held_drew (S := S) (by kernel_rfl) hSD (fun hHeld => ?_)
        apply wpAnyH_take (i := 0)
        · simp only [List.getElem?_toArray]; rfl
        · kernel_rfl
        · kernel_rfl
        · kernel_rfl
        · exact fun _ _ _ h => h
        · exact Or.inl ⟨by rfl, by intro w hSw; go_simp; try with_reducible rfl⟩
        · assumption
        try simp only [Act.put, List.setIfInBounds_toArray, List.set_cons_zero, List.set_cons_succ]
        apply wpAnyH_take (i := 1)
        · simp only [List.getElem?_toArray]; rfl
        · kernel_rfl
        · kernel_rfl
        · kernel_rfl
        · exact fun _ _ _ h => h
        · exact Or.inl ⟨by rfl, by intro w hSw; go_simp; try with_reducible rfl⟩
        · assumption
        try simp only [Act.put, List.setIfInBounds_toArray, List.set_cons_zero, List.set_cons_succ]
        apply wpAnyH_take (i := 2)
        · simp only [List.getElem?_toArray]; rfl
        · kernel_rfl
        · kernel_rfl
        · kernel_rfl
        · exact fun _ _ _ h => h
        · exact yields_slice1 (by rfl) (.tmp 31) rfl (v := .slice (some ⟨bk, o, none⟩) (y :: r).length c1) rfl HSL.out
        · assumption
        try simp only [Act.put, List.setIfInBounds_toArray, List.set_cons_zero, List.set_cons_succ]
        apply wpAnyH_take (i := 4)
        · simp only [List.getElem?_toArray]; rfl
        · kernel_rfl
        · kernel_rfl
        · kernel_rfl
        · exact fun _ _ _ h => h
        · exact Or.inl ⟨by rfl, by intro w hSw; go_simp; try with_reducible rfl⟩
        · assumption
        try simp only [Act.put, List.setIfInBounds_toArray, List.set_cons_zero, List.set_cons_succ]
        apply wpAnyH_take (i := 5)
        · simp only [List.getElem?_toArray]; rfl
        · kernel_rfl
        · kernel_rfl
        · kernel_rfl
        · exact fun _ _ _ h => h
        · exact Or.inl ⟨by rfl, by intro w hSw; go_simp; try with_reducible rfl⟩
        · assumption
        try simp only [Act.put, List.setIfInBounds_toArray, List.set_cons_zero, List.set_cons_succ]
        apply wpAnyH_take (i := 6)
        · simp only [List.getElem?_toArray]; rfl
        · kernel_rfl
        · kernel_rfl
        · kernel_rfl
        · exact fun _ _ _ h => h
        · exact Or.inl ⟨by rfl, by intro w hSw; have q0 := HS0.out w hSw; go_simp; try with_reducible rfl⟩
        · assumption
        try simp only [Act.put, List.setIfInBounds_toArray, List.set_cons_zero, List.set_cons_succ]
        apply wpAnyH_take (i := 7)
        · simp only [List.getElem?_toArray]; rfl
        · kernel_rfl
        · kernel_rfl
        · kernel_rfl
        · exact fun _ _ _ h => h
        · exact Or.inl ⟨by rfl, by intro w hSw; go_simp; try with_reducible rfl⟩
        · assumption
        try simp only [Act.put, List.setIfInBounds_toArray, List.set_cons_zero, List.set_cons_succ]
        apply wpAnyH_ready (rs := [3])
        · kernel_rfl
        · simp
        apply AllReadyH.cons (hs := AllReadyH.nil)
        · simp only [List.getElem?_toArray]; rfl
        intro K hK
        rw [if_pos (by rfl)]
        refine wp_append_run _ _ 22 rfl _ _ _ w2 rfl rfl HR2.out ?_
        refine hK.out _ _ ?_ (fun hHeld => ?_)
        · exact (by rw [HSE.out]; exact HK2.out.more (by simp))
        clear hK K
        try simp only [Act.put, List.setIfInBounds_toArray, List.set_cons_zero, List.set_cons_succ]
        apply wpAnyH_take (i := 8)
        · simp only [List.getElem?_toArray]; rfl
        · kernel_rfl
        · kernel_rfl
        · kernel_rfl
        · exact fun _ _ _ h => h
        · exact Or.inl ⟨by rfl, by intro w hSw; go_simp; try with_reducible rfl⟩
        · assumption
        try simp only [Act.put, List.setIfInBounds_toArray, List.set_cons_zero, List.set_cons_succ]
        apply wpAnyH_ready (rs := [9])
        · kernel_rfl
        · simp
        apply AllReadyH.cons (hs := AllReadyH.nil)
        · simp only [List.getElem?_toArray]; rfl
        intro K hK
        rw [if_pos (by rfl)]
        refine wp_store_row 31 _ _ rfl (R + 1) (ansC ⟨1, y⟩).toArray rfl rfl 31 (ansC ⟨0, 0⟩).toArray HA2.out (by kernel_rfl) rfl (by rw [← Array.all_toList, List.all_eq_true]; exact ansC_one _) ?_
        have hA4 := setRow_heap w2 (R + 1) (ansC ⟨0, 0⟩).toArray (ansC ⟨1, y⟩).toArray 31 (0, 0) HA2.out
        have hk4 : Keeps [R + 1] w2 (w2.setRow (R + 1) (ansC ⟨1, y⟩).toArray) := (Keeps.refl _ _).setRow _ _ (.inl (by simp))
        generalize w2.setRow (R + 1) (ansC ⟨1, y⟩).toArray = W4 at *
        have HA4 := Lib.hid hA4
        have HO4 := Lib.hid (HO2.out.keeps hk4 (fun q hq => by have := (row_base HO2.out q hq).1; have := HSZ.out; simp; omega))
        have HK5 := Lib.hid ((HK2.out.more (by simp)).trans hk4 (FSub.refl _ _))
        clear hA4 hk4
        refine hK.out _ _ ?_ (fun hHeld => ?_)
        · exact (by rw [HSE.out]; exact HK5.out)
        clear hK K
        try simp only [Act.put, List.setIfInBounds_toArray, List.set_cons_zero, List.set_cons_succ]
        apply wpAnyH_take (i := 10)
        · simp only [List.getElem?_toArray]; rfl
        · kernel_rfl
        · kernel_rfl
        · kernel_rfl
        · exact fun _ _ _ h => h
        · exact Or.inl ⟨by rfl, by intro w hSw; go_simp; try with_reducible rfl⟩
        · assumption
        try simp only [Act.put, List.setIfInBounds_toArray, List.set_cons_zero, List.set_cons_succ]
        refine wpAnyH_done (by kernel_rfl) ?_ _
        refine NoPanic.normal ?_
        go_wp2_with fail
        try simp only [Exit.inBlock, Exit.then]
        refine bodyPost_ret (results_ans rfl _ _ _ ⟨1, y⟩ rfl HA4.out) rfl ⟨v2, by rw [quX_deq HCK.out hf]; rfl, ?_, HK.out.trans HK5.out (fun q hq => .inr (by simp at hq; have := HRL.out; omega)), fun _ q hq => .inr (by have := (row_base HO4.out q hq).1; have := HK.out.size; omega)⟩
        rw [quX_deq HCK.out hf]
        exact HO4.out.in_
  · have HCK := Lib.hid (show opChk 1 x ≠ 0 from by rw [hck]; decide)
    rw [show (⟨x.f, x.o, x.k, x.a, x.b⟩ : Opn) = x from rfl, hck]
    go_wp2_with ((with_reducible refine wpList_putN (g := R + 1) (old := ⟨0, 0⟩) ⟨0, 0⟩ ?_ ?_ HA.out ?_); exact rfl; exact rfl)
    intro W4 hA4 hk4
    have HA4 := Lib.hid hA4; have HK4 := Lib.hid hk4
    clear hA4 hk4
    go_wp2_with fail
    try simp only [Exit.inBlock, Exit.then]
    have hkk : Keeps [] w W4 := HK.out.trans HK4.out (fun q hq => .inr (by simp at hq; have := HRL.out; omega))
    refine bodyPost_ret (results_ans rfl _ _ _ ⟨0, 0⟩ rfl HA4.out) rfl ⟨_, by rw [quX_chk HCK.out]; rfl, ?_, hkk, fun h q hq => .inl ⟨by rw [quX_chk HCK.out] at h; exact h, hq⟩⟩
    rw [quX_chk HCK.out]
    exact RK.In.more (N := w.heap.size) (HIN1.out.same (HK4.out.same (by have := HK.out.size; omega) (fun q hq => by simp at hq; have := HRL.out; omega))) hkk.size
end Go.Proofs.YtaicampenpkneaaDoor
/-
  The document's queue: operations in a row.
-/
namespace Go.Proofs.YtaicampenpkneaaDoor
open Go.RowKit
set_option maxHeartbeats 8000000
set_option maxRecDepth 100000
theorem r10Run_any (w : World) {v0 v : Value} {s : List Int} {l : List Opn} (hs : rkU.In w.heap.size w v0 s) (hsl : s.length ≤ 10000) (hl : ∀ x ∈ l, x.In) (hI : rkO.In w.heap.size w v l) (hn : l.length ≤ 10000) :
    Calls Tryd.prog 18 #[v0, v] w fun e w' => ∃ v1 v2, e = .returned (.tuple #[v1, v2, .int .i64 (stE quX s l)]) ∧ rkU.In w'.heap.size w' v1 (stS quX s l) ∧ rkA.Own w.heap.size w' v2 (stL quX s l) ∧ Keeps [] w w' := by
  obtain ⟨a, cp, rfl, hc, hm, -⟩ := id hI
  have HIN := Lib.hid hI; have HLI := Lib.hid hl; have HS := Lib.hid hs
  clear hI hl hs
  generalize hn2 : l.length = n at *
  have HN2 := Lib.hid hn2
  clear hn2
  obtain ⟨N, hN⟩ : ∃ N, N = w.heap.size := ⟨_, rfl⟩
  have HNE := Lib.hid hN
  rw [← hN]
  clear hN
  go_enter Tryd.func18, Tryd.ntmps18
  go_wp2_with fail
  go_loopw [0, 7, 8] (fun sv z i wr => ∃ k : Nat, i = .int .i64 k ∧ k ≤ n ∧ stE quX s (l.take k) = 0 ∧ rkU.In wr.heap.size wr sv (stS quX s (l.take k)) ∧ rkA.Own N wr z (stL quX s (l.take k)) ∧ (stS quX s (l.take k) ≠ [] → ∀ q ∈ own sv, q ∉ own z) ∧ Keeps [] w wr) (fun _ _ i _ => n - (intOf i).toNat)
  case atStart => exact ⟨0, rfl, by omega, rfl, HS.out, RK.Own.nil rkA _ _, by simp [own, Value.ownBlock], Keeps.refl _ _⟩
  case round =>
    obtain ⟨k, rfl, hk, he0, hsv, hz, hap, hkw⟩ := hrel
    by_cases hlt : k < n
    · have hkl : k < l.length := by have := HN2.out; omega
      obtain ⟨g, o, rfl, hg, hr⟩ := In_at (HIN.out.new hkw (Nat.le_refl _)) hkl
      have HRW := Lib.hid hr
      have HNX := Lib.hid (st_next quX hkl he0)
      have HST := Lib.hid (st_stop quX hkl he0)
      have HXI := Lib.hid (HLI.out l[k] (List.getElem_mem hkl))
      have HZ := Lib.hid hz; have HKW := Lib.hid hkw; have HSV := Lib.hid hsv; have HAP := Lib.hid hap
      have HFL := Lib.hid (show (stL quX s (l.take k)).length ≤ 10000 from Nat.le_trans (stL_few quX k) (by have := HN2.out; omega))
      have HSL := Lib.hid (show (stS quX s (l.take k)).length ≤ 1000000 from by have h := quS_len s (l.take k); have h2 : (l.take k).length ≤ k := List.length_take_le _ _; omega)
      obtain ⟨az, cz, rfl, hcz, hmz⟩ := hz.shape
      clear hz hkw he0 hr hsv hap
      generalize l[k] = x at *
      go_wp2_with (first
        | ((with_reducible refine wpList_loadO (g := g) (off := o + k * 5) (y := x) rfl ?_ HRW.out ?_); exact rfl))
      refine (show Calls Tryd.prog 13 _ wr (Post10 wr _ (stS quX s (l.take k)) x) from r10Step_any wr HSV.out HSL.out x HXI.out).mono ?_
      rintro e w1 ⟨v1, rfl, hin1, hk1, hf1⟩
      have HK1 := Lib.hid (HKW.out.trans hk1 (FSub.refl _ _))
      have HZ1 := Lib.hid (HZ.out.keeps hk1 (by simp))
      have HIN1 := Lib.hid hin1
      have HAP1 := Lib.hid (show (quX (stS quX s (l.take k)) x).1 ≠ [] → ∀ q ∈ own v1, q ∉ own (.slice az (stL quX s (l.take k)).length cz) from fun hne q hq hz => by
        rcases hf1 hne q hq with ⟨h0, h⟩ | h
        · exact HAP.out h0 q h hz
        · have := (row_base HZ.out q hz).2; omega)
      have HSV1 := Lib.hid (show rkU.In w1.heap.size w1 u0 (stS quX s (l.take k)) from (HSV.out.new hk1 (Nat.le_refl _)).more hk1.size)
      clear hin1 hk1 hf1 HZ HKW HRW HSV HAP HXI
      by_cases hx : (quX (stS quX s (l.take k)) x).2.2 = 0
      · have hn1 := HNX.out
        generalize quX (stS quX s (l.take k)) x = X at *
        obtain ⟨s1, ⟨yk, yv⟩, e1⟩ := X
        simp only at hx
        subst hx
        simp only [if_true] at hn1
        have HN1 := Lib.hid hn1
        clear hn1 HNX HST HSV1
        simp only [ansC]
        have HKA := Lib.hid (HK1.out.alloc (.cells (ansC ⟨yk, yv⟩).toArray 31))
        have hka : Keeps [] w1 (w1.alloc (.cells (ansC ⟨yk, yv⟩).toArray 31)) := (Keeps.refl [] w1).alloc _
        have HZA := Lib.hid (HZ1.out.keeps hka (by simp))
        have HIA := Lib.hid (show rkU.In w1.heap.size (w1.alloc (.cells (ansC ⟨yk, yv⟩).toArray 31)) v1 s1 from HIN1.out.new hka (Nat.le_refl _))
        obtain ⟨v', w3, hrun, hrow3, hk3, hf3⟩ := rkA.append1 (w1.alloc (.cells (ansC ⟨yk, yv⟩).toArray 31)) N (by rw [HNE.out]; exact HKA.out.size) _ _ HZA.out ⟨yk, yv⟩ (by have := HFL.out; omega)
        have HRUN := Lib.hid (show (Builtin.append_ #[42, 42] 42 #[.slice az (stL quX s (l.take k)).length cz, .slice (some ⟨w1.heap.size + 1, 0, none⟩) 1 1]).run Tryd.prog ((w1.alloc (.cells #[.int .u8 yk, .int .u16 yv] 31)).alloc (.cells #[.int .u8 yk, .int .u16 yv] 31)) = .ok v' w3 from by
          rw [show (w1.alloc (.cells (ansC ⟨yk, yv⟩).toArray 31)).heap.size = w1.heap.size + 1 from Array.size_push _] at hrun
          exact hrun)
        have HROW := Lib.hid hrow3
        have HK3 := Lib.hid (HKA.out.trans hk3 (fun q hq => .inr (by have := (row_base HZA.out q hq).1; have := HNE.out; omega)))
        have HIN3 := Lib.hid (show rkU.In w3.heap.size w3 v1 s1 from (HIA.out.keeps hk3 HAP1.out).more (Nat.le_trans hka.size hk3.size))
        have HAP3 := Lib.hid (show s1 ≠ [] → ∀ q ∈ own v1, q ∉ own v' from fun hne q hq hz => by
          rcases hf3 q hz with h | h
          · exact HAP1.out hne q hq h
          · have := HIN1.out.old hne q hq
            have := hka.size
            omega)
        obtain ⟨a9, c9, rfl, -, -⟩ := hrow3.shape
        clear hrun hrow3 hk3 hf3 HKA HZA HK1 HZ1 hka HIA HIN1 HAP1
        go_wp2_with (first
          | ((with_reducible refine wpList_app _ _ ?_ ?_ HRUN.out ?_); exact rfl; exact rfl))
        go_roundw
        case rel => exact ⟨k + 1, by go_num, by omega, HN1.out.1, by rw [HN1.out.2.1]; exact HIN3.out, by rw [HN1.out.2.2]; have h := HROW.out; rw [List.length_append] at h; exact h, by rw [HN1.out.2.1]; have h := HAP3.out; rw [List.length_append] at h; exact h, HK3.out⟩
        case measure => simp [intOf]; omega
      · have te : ((quX (stS quX s (l.take k)) x).2.2 != 0) = true := by simpa using hx
        have HE := Lib.hid (HST.out hx)
        generalize quX (stS quX s (l.take k)) x = X at *
        obtain ⟨s1, ⟨yk, yv⟩, e1⟩ := X
        simp only at te hx
        have hka : Keeps [] w1 (w1.alloc (.cells (ansC ⟨yk, yv⟩).toArray 31)) := (Keeps.refl [] w1).alloc _
        have HKA := Lib.hid (HK1.out.trans hka (FSub.refl _ _))
        have HZA := Lib.hid (HZ1.out.keeps hka (by simp))
        have HSA := Lib.hid (show rkU.In (w1.alloc (.cells (ansC ⟨yk, yv⟩).toArray 31)).heap.size (w1.alloc (.cells (ansC ⟨yk, yv⟩).toArray 31)) u0 (stS quX s (l.take k)) from (HSV1.out.new hka (Nat.le_refl _)).more hka.size)
        clear HST HNX hx hka
        simp only [ansC]
        go_wp2_with fail
        go_ret3
        exact ⟨_, _, by rw [HE.out.1]; rfl, by rw [HE.out.2.1]; exact HSA.out, by rw [HE.out.2.2]; exact HZA.out, HKA.out⟩
    · obtain rfl : k = n := by omega
      have hall : l.take k = l := by rw [← HN2.out, List.take_length]
      rw [hall] at he0 hz hsv
      have HZ := Lib.hid hz; have HKW := Lib.hid hkw; have HE := Lib.hid he0; have HSV := Lib.hid hsv
      obtain ⟨az, cz, rfl, hcz, hmz⟩ := hz.shape
      clear hz hkw he0 hall hsv hap
      go_wp2_with fail
      go_ret3
      exact ⟨_, _, by rw [HE.out]; rfl, HSV.out, HZ.out, HKW.out⟩
end Go.Proofs.YtaicampenpkneaaDoor
/-
  The document's queue: Encode, Decode.
-/
namespace Go.Proofs.YtaicampenpkneaaDoor
open Go.RowKit
set_option maxHeartbeats 8000000
set_option maxRecDepth 100000
theorem wp_buildU {o : Oper} {a : Act} {w : World} {K : Act → World → Prop} {Q : Exit → Act → World → Prop} (x : Operand) (ho : o.op = .buildSlice 22 1 #[(0, x)]) {y : Int} (hx : a.eval x = .int .u16 y)
    (h : K (a.put o.dst (.slice (some ⟨w.heap.size, 0, none⟩) 1 1)) (w.alloc (.cells #[.int .u16 y] 23))) : o.wp Tryd.prog a w K Q := by
  refine wp_buildSlice 22 23 1 #[(0, x)] ho #[.int .u16 y] rkU.i _ rkU.und rkU.hi rkU.hz (by rw [rkU.hs]; decide) (by rw [rkU.hs]; decide) ?_ h
  rw [rkU.hs]
  have e : (#[(0, x)].map fun (i, z) => (i, a.eval z)).toList = [(0, a.eval x)] := by simp
  rw [e, hx, show rkU.s = 1 from rfl, show rkU.z = .int .u16 0 from rfl]
  simp [Instr.fill, Value.cells]
  rw [show Array.range 1 = #[0] from by decide]
  apply Array.ext'
  simp
theorem yields_idx {ops : Array Oper} {S : World → Prop} {o : Oper} {a : Act} (hw : Region.wanted o (yielded ops a.tmps) = true) (x y : Operand) (ho : o.op = .index 9 x y) {s z : Value} {i : Int} (hx : a.eval x = s) (hy : a.eval y = .int .i64 i)
    (hr : ∀ w, (Instr.index 9 s (.int .i64 i)).run Tryd.prog w = .ok z w) : YieldsIf Tryd.prog ops S o z a :=
  Or.inl ⟨hw, by
    intro w _
    unfold execOp
    have h := hr w
    simp only [ho, hx, hy, h, Sem.run_bind]
    simp [h, Result.andThen]⟩
theorem str_at10 (w : World) (b : List UInt8) (i : Nat) (hi : i < b.length) : (Instr.index 9 (.string (bs b)) (.int .i64 i)).run Tryd.prog w = .ok (.int .u8 (b.getD i 0).toNat) w := by
  have h1 : i < (bs b).size := by show i < b.toArray.size; simpa using hi
  have h2 : (bs b)[i]'h1 = b[i] := rfl
  simp [Instr.index, run_underlying Tryd.underlying9, asIntOf, part, go_sem, h1, List.getElem?_eq_getElem hi]
  rw [h2]
  rfl
end Go.Proofs.YtaicampenpkneaaDoor
/-
  What the program's queue must tell; the law's has, enq, deq, over any such queue.
-/
namespace Go.Proofs.YtaicampenpkneaaDoor
open Go.RowKit
/-- What the program's queue tells; G: what its package-level variables hold. -/
structure QuProg (G : World → Prop) where
  At : World → Value → List Int → Prop
  foot : Value → List Nat
  keepG : ∀ {w w' : World}, G w → Keeps [] w w' → G w'
  keep : ∀ {w w' : World} {F : List Nat} {st : Value} {l : List Int}, At w st l → Keeps F w w' → (∀ q ∈ foot st, q ∉ F) → At w' st l
  old : ∀ {w : World} {st : Value} {l : List Int}, At w st l → ∀ q ∈ foot st, q < w.heap.size
  one : ∀ {w : World} {st : Value} {l : List Int}, At w st l → ∃ z, st = .agg #[z] ∧ z.oneCell' = true
  zero : ∀ w, At w (.agg #[.slice none 0 0]) []
  new : ∀ w, G w → Calls Tryd.prog 24 #[] w fun e w' => ∃ st, e = .returned st ∧ At w' st [] ∧ Keeps [] w w' ∧ ∀ q ∈ foot st, w.heap.size ≤ q
  of : ∀ w N v l, G w → rkU.In N w v l → N ≤ w.heap.size → l.length ≤ 1000 → Calls Tryd.prog 11 #[v] w fun e w' => ∃ st, e = .returned st ∧ At w' st l ∧ Keeps [] w w' ∧ ∀ q ∈ foot st, w.heap.size ≤ q
  values : ∀ w st l, G w → At w st l → l.length ≤ 1000 → Calls Tryd.prog 15 #[st] w fun e w' => ∃ v, e = .returned v ∧ rkU.Own w.heap.size w' v l ∧ Keeps [] w w'
  step : ∀ w st l x, G w → At w st l → l.length ≤ 1000 → x.In → Calls Tryd.prog 12 #[st, x.val] w fun e w' =>
    ∃ st', e = .returned (.tuple #[st', .agg (ansC (quX l x).2.1).toArray, .int .i64 (quX l x).2.2]) ∧ At w' st' (quX l x).1 ∧ Keeps [] w w' ∧ FSub (foot st') (foot st) w.heap.size
  run : ∀ w st l v ops, G w → At w st l → l.length ≤ 1000 → (∀ x ∈ ops, x.In) → rkO.In w.heap.size w v ops → ops.length ≤ 1000 → Calls Tryd.prog 17 #[st, v] w fun e w' =>
    ∃ st' v', e = .returned (.tuple #[st', v', .int .i64 (stE quX l ops)]) ∧ At w' st' (stS quX l ops) ∧ rkA.In w'.heap.size w' v' (stL quX l ops) ∧ Keeps [] w w' ∧ FSub (foot st') (foot st) w.heap.size
  idle : ∀ w f, G w → 0 ≤ f ∧ f < 256 → Calls Tryd.prog 16 #[.int .u8 f] w fun e w' => e = .returned (.bool false) ∧ Keeps [] w w'
  enc : ∀ w st l, G w → At w st l → l.length ≤ 1000 → U16s l → Calls Tryd.prog 21 #[st] w fun e w' => e = .returned (.string (bs (quB l))) ∧ Keeps [] w w'
  dec : ∀ w b, G w → b.length ≤ 2000 → Calls Tryd.prog 19 #[.string (bs b)] w fun e w' =>
    ∃ st, e = .returned (.tuple #[st, .int .i64 (if b.length % 2 = 1 then 5 else 0)]) ∧ At w' st (if b.length % 2 = 1 then [] else quN b) ∧ Keeps [] w w' ∧ ∀ q ∈ foot st, w.heap.size ≤ q
  same : ∀ w st l st2 m, G w → At w st l → At w st2 m → l.length ≤ 1000 → m.length ≤ 1000 → Calls Tryd.prog 23 #[st, st2] w fun e w' => e = .returned (.bool (decide (l = m))) ∧ Keeps [] w w'
variable {G : World → Prop}
theorem QuProg.new_ (R : QuProg G) {w w' : World} {st : Value} {l : List Int} (h : R.At w st l) (hk : Keeps [] w w') : R.At w' st l := R.keep h hk (by simp)
set_option maxHeartbeats 8000000
set_option maxRecDepth 100000
theorem has10_any (R : QuProg G) (w : World) (hG : G w) {st v : Value} {l m : List Int} (hs : R.At w st l) (hl : l.length ≤ 1000) {M : Nat} (hm : rkU.In M w v m) (hM : M ≤ w.heap.size) :
    Calls Tryd.prog 25 #[st, v] w fun e w' => e = .returned (.bool (decide (l = m))) ∧ Keeps [] w w' := by
  obtain ⟨z, rfl, hz⟩ := R.one hs
  have HR := Lib.hid (fun w' h => R.values w' _ l (R.keepG hG h) (R.new_ hs h) hl)
  obtain ⟨a2, c2, rfl, hc2, hm2, -⟩ := id hm
  have HK0 := Lib.hid (show Keeps [] w (w.alloc (.cells #[z] 28)) from (Keeps.refl _ _).alloc _)
  have HIM := Lib.hid (fun w' h => hm.new (w' := w') h hM)
  clear hs hG hm hl
  go_enter Tryd.func25, Tryd.ntmps25
  go_wp2_with fail
  refine (HR.out _ HK0.out).mono ?_; rintro e w1 ⟨v1, rfl, ho1, hk1⟩
  have HK1 := Lib.hid (HK0.out.trans hk1 (FSub.refl _ _))
  have HI1 := Lib.hid ho1.in_
  have HI2 := Lib.hid (HIM.out _ HK1.out)
  obtain ⟨a1, c1, rfl, hc1, hm1⟩ := ho1.shape
  clear ho1 hk1 HR HK0 HIM
  by_cases hlen : l.length = m.length
  · rw [← hlen] at hc2 ⊢
    rw [← hlen] at HI2
    have HLE := Lib.hid hlen
    obtain ⟨D, hD⟩ : ∃ D, D = decide (l = m) := ⟨_, rfl⟩
    have HD := Lib.hid hD
    clear hlen hD
    go_wp2_with fail
    go_loopw [6] (fun i wr => ∃ k q : Nat, k ≤ l.length ∧ i = .int .i64 k ∧ l.take k = m.take k ∧ wr = w1.drewN q) (fun i _ => l.length - (intOf i).toNat)
    case atStart => exact ⟨0, 0, by omega, rfl, rfl, rfl⟩
    case round =>
      obtain ⟨k, q, hk, rfl, hp, rfl⟩ := hrel
      have HP := Lib.hid hp; clear hp
      by_cases hlt : k < l.length
      · obtain ⟨b1, o1, rfl, _, d1⟩ := U16.at HI1.out hlt
        obtain ⟨b2, o2, rfl, _, d2⟩ := U16.at (k := k) HI2.out (by have := HLE.out; omega)
        by_cases he : l.getD k 0 = m.getD k 0
        · rw [← he] at d2
          have HN := Lib.hid (take_next (m := m) hlt (by have := HLE.out; omega) HP.out he)
          clear he HP
          generalize l.getD k 0 = X at *
          have t2 : (X != X) = false := by simp
          go_wp2_with fail
          go_quiet (fail)
          go_wp2_with fail
          go_roundw
          case rel => exact ⟨k + 1, q + nq, by omega, by go_num, HN.out, rfl⟩
          case measure => simp [intOf]; omega
        · have HX := Lib.hid (show decide (l = m) = false from decide_eq_false (fun e => he (by rw [e])))
          clear HP
          generalize l.getD k 0 = X at *
          generalize m.getD k 0 = Y at *
          have t2 : (X != Y) = true := by simpa using he
          clear he
          go_wp2_with fail
          go_quiet (fail)
          go_wp2_with fail
          go_ret
          exact ⟨by rw [HX.out]; rfl, (HK1.out.drewN _).drewN _⟩
      · obtain rfl : k = l.length := by omega
        have HX := Lib.hid (show decide (l = m) = true from decide_eq_true (take_all HLE.out HP.out))
        clear HP
        go_wp2_with fail
        go_ret
        exact ⟨by rw [HX.out]; rfl, HK1.out.drewN _⟩
  · have HX := Lib.hid (show decide (l = m) = false from decide_eq_false (fun e => hlen (by rw [e])))
    have z : ¬ (l.length : Int) = (m.length : Int) := by omega
    clear HI1 HI2
    go_wp2_with fail
    go_ret
    exact ⟨by rw [HX.out]; rfl, HK1.out⟩
theorem enq10_any (w : World) (a : Int) : Calls Tryd.prog 26 #[.int .u16 a] w fun e w' => e = .returned (⟨4, 0, 0, a, 0⟩ : Opn).val ∧ Keeps [] w w' := by
  have h := heap_alloc_new w (.cells #[.int .u8 4, .int .u8 0, .int .u8 0, .int .u16 a, .int .u16 0] 25)
  have HN := Lib.hid h
  clear h
  go_enter Tryd.func26, Tryd.ntmps26
  go_wp2_with fail
  try simp only [Exit.inBlock, Exit.then]
  exact bodyPost_ret (results_cell_row (P := Tryd.prog) rfl _ _ _ _ _ _ _ rfl HN.out Tryd.underlying25 rfl (by kernel_rfl)) rfl ⟨rfl, (Keeps.refl _ _).alloc _⟩
theorem deq10_any (w : World) : Calls Tryd.prog 27 #[] w fun e w' => e = .returned (⟨5, 0, 0, 0, 0⟩ : Opn).val ∧ Keeps [] w w' := by
  have h := heap_alloc_new w (.cells #[.int .u8 5, .int .u8 0, .int .u8 0, .int .u16 0, .int .u16 0] 25)
  have HN := Lib.hid h
  clear h
  go_enter Tryd.func27, Tryd.ntmps27
  go_wp2_with fail
  try simp only [Exit.inBlock, Exit.then]
  exact bodyPost_ret (results_cell_row (P := Tryd.prog) rfl _ _ _ _ _ _ _ rfl HN.out Tryd.underlying25 rfl (by kernel_rfl)) rfl ⟨rfl, (Keeps.refl _ _).alloc _⟩
end Go.Proofs.YtaicampenpkneaaDoor
