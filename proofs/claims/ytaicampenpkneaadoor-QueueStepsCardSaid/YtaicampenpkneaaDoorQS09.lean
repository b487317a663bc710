/-
  The document's queue: Step.
-/
import Derived.Deep.RegionHeld3
import Derived.Laws.Tables
import Derived.BigQuiet
import Derived.Test.YtaicampenpkneaaDoorQS08
import Derived.Test.YtaicampenpkneaaDoorQS07
set_option linter.unusedSimpArgs false
set_option linter.unusedVariables false
namespace Go.Proofs.YtaicampenpkneaaDoor
open Go.RowKit
section
variable {ops : Array Oper} {rest : List Oper} {a : Act} {w : World} {Q : Exit → Act → World → Prop}
theorem wpList_putN {dst : Option Tmp} {ty : TypeId} {pos : String} {after : Array Edge} {x y : Operand} {g : Nat} {old : Ans} (r : Ans) {t : TypeId}
    (hx : a.eval x = .pointer (some ⟨g, 0, none⟩)) (hy : a.eval y = .agg (ansC r).toArray) (hg : w.heap[g]? = some (.cells (ansC old).toArray t (0, 0)))
    (h : ∀ W, W.heap[g]? = some (.cells (ansC r).toArray t (0, 0)) → Keeps [g] w W → wpList Tryd.prog ops Q rest (a.put dst undef) W) :
    wpList Tryd.prog ops Q ({ dst := dst, op := .store 31 x y, type := ty, pos := pos, after := after, guard := none } :: rest) a w :=
  wpList_store_row rfl 31 x y rfl g (ansC r).toArray hx hy t (ansC old).toArray hg (by kernel_rfl) rfl (by rw [← Array.all_toList, List.all_eq_true]; exact ansC_one r) (h _ (setRow_heap w g (ansC old).toArray (ansC r).toArray t (0, 0) hg) ((Keeps.refl [g] w).setRow g _ (.inl (by simp))))
end
/-- The rest of a slice. -/
theorem U16.tail {N : Nat} {w : World} {bk o n c : Nat} {y : Int} {r : List Int} (h : rkU.In N w (.slice (some ⟨bk, o, none⟩) n c) (y :: r)) {A : Option Addr} (hA : (if c = 1 then some (⟨bk, o, none⟩ : Addr) else some ⟨bk, o + 1, none⟩) = A) : rkU.In N w (.slice A (n - 1) (c - 1)) r := by
  obtain ⟨a2, c2, e, hc, hm, h⟩ := h
  simp only [Value.slice.injEq] at e
  obtain ⟨rfl, rfl, rfl⟩ := e
  obtain ⟨b2, o2, e, hb, hr⟩ := h (by simp)
  simp only [Option.some.injEq, Addr.mk.injEq, and_true] at e
  obtain ⟨rfl, rfl⟩ := e
  refine ⟨A, c - 1, by simp, by simp at hc; omega, by omega, fun hn => ?_⟩
  have hlen : 0 < r.length := List.length_pos_iff.2 hn
  rw [if_neg (by simp at hc; omega)] at hA
  refine ⟨bk, o + 1, hA.symm, hb, fun j hj => ?_⟩
  have h2 := hr (j + 1) (by simp; omega)
  rw [show o + (j + 1) * rkU.s = o + 1 + j * rkU.s from by show o + (j + 1) * 1 = o + 1 + j * 1; omega] at h2
  exact h2
theorem U16.slice1 (w : World) {bk o n c : Nat} (hn : 1 ≤ n) (hc : n ≤ c) :
    (Instr.sliceAt 22 (.slice (some ⟨bk, o, none⟩) n c) (some (.int .i64 1)) none none).run Tryd.prog w = .ok (.slice (if c = 1 then some ⟨bk, o, none⟩ else some ⟨bk, o + 1, none⟩) (n - 1) (c - 1)) w := by
  have h1 : (1 : Int) ≤ n := by omega
  have h2 : (n : Int) ≤ c := by omega
  simp [go_sem, run_underlying Tryd.underlying22, h1, h2]
theorem yields_slice1 {ops : Array Oper} {S : World → Prop} {o : Oper} {a : Act} (hw : Region.wanted o (yielded ops a.tmps) = true) (x : Operand) (ho : o.op = .slice 22 x (some (.const (.int .i64 1))) none none) {v v' : Value} (hx : a.eval x = v)
    (hr : ∀ w, (Instr.sliceAt 22 v (some (.int .i64 1)) none none).run Tryd.prog w = .ok v' w) : YieldsIf Tryd.prog ops S o v' a :=
  Or.inl ⟨hw, by
    intro w _
    unfold execOp
    have hc : a.eval (.const (.int .i64 1)) = .int .i64 1 := rfl
    simp only [ho, hx, Option.map_some, Option.map_none, hc]
    have h := hr w
    simp [h, Result.andThen]⟩
/-- The world behind the document's variables: an operation, an answer. -/
theorem step10_vars (w : World) (A : Array Value) :
    Keeps [] w ((w.alloc (.cells A 25)).alloc (.cells (ansC ⟨0, 0⟩).toArray 31)) ∧
    ((w.alloc (.cells A 25)).alloc (.cells (ansC ⟨0, 0⟩).toArray 31)).heap[w.heap.size]? = some (.cells A 25 (0, 0)) ∧
    ((w.alloc (.cells A 25)).alloc (.cells (ansC ⟨0, 0⟩).toArray 31)).heap[w.heap.size + 1]? = some (.cells (ansC ⟨0, 0⟩).toArray 31 (0, 0)) ∧
    ((w.alloc (.cells A 25)).alloc (.cells (ansC ⟨0, 0⟩).toArray 31)).heap.size = w.heap.size + 2 := by
  have e1 : (w.alloc (.cells A 25)).heap.size = w.heap.size + 1 := Array.size_push _
  refine ⟨((Keeps.refl _ _).alloc _).alloc _, ?_, ?_, ?_⟩
  · exact ((Keeps.refl [] _).alloc _).heap (heap_alloc_new w _) (by simp)
  · have h := heap_alloc_new (w.alloc (.cells A 25)) (.cells (ansC ⟨0, 0⟩).toArray 31)
    rw [e1] at h
    exact h
  · rw [show ((w.alloc (.cells A 25)).alloc (.cells (ansC ⟨0, 0⟩).toArray 31)).heap.size = (w.alloc (.cells A 25)).heap.size + 1 from Array.size_push _, e1]
set_option maxHeartbeats 8000000
set_option maxRecDepth 100000
/-- What the document's Step tells. -/
def Post10 (w : World) (v : Value) (l : List Int) (x : Opn) (e : Ending) (w' : World) : Prop :=
  ∃ v', e = .returned (.tuple #[v', .agg (ansC (quX l x).2.1).toArray, .int .i64 (quX l x).2.2]) ∧ rkU.In w'.heap.size w' v' (quX l x).1 ∧ Keeps [] w w' ∧ ((quX l x).1 ≠ [] → ∀ q ∈ own v', (l ≠ [] ∧ q ∈ own v) ∨ w.heap.size ≤ q)
theorem r10Step_any (w : World) {v : Value} {l : List Int} (h : rkU.In w.heap.size w v l) (hl : l.length ≤ 1000000) (x : Opn) (hx : x.In) :
    Calls Tryd.prog 13 #[v, x.val] w (Post10 w v l x) := by
  obtain ⟨a1, c1, rfl, hc1, hm1, -⟩ := id h
  have HW := Lib.hid (step10_vars w #[.int .u8 x.f, .int .u8 x.o, .int .u8 x.k, .int .u16 x.a, .int .u16 x.b])
  have HCK := Lib.hid (fun w => r4Check_any w 1 x.f x.o x.k x.a x.b (by decide) (by decide) hx)
  have HIN := Lib.hid h; have HL := Lib.hid hl
  clear h hl
  unfold Opn.val
  go_enter Tryd.func13, Tryd.ntmps13
  go_wp2_with fail
  refine (HCK.out _).mono ?_; rintro e w1 ⟨rfl, hk1⟩
  obtain ⟨R, hR⟩ : ∃ R, R = w.heap.size := ⟨_, rfl⟩
  have HWW := HW.out
  rw [← hR] at HWW ⊢
  simp only [show (ansC ⟨0, 0⟩).toArray = #[Value.int .u8 0, .int .u16 0] from rfl] at HWW
  generalize (w.alloc (.cells #[.int .u8 x.f, .int .u8 x.o, .int .u8 x.k, .int .u16 x.a, .int .u16 x.b] 25)).alloc (.cells #[.int .u8 0, .int .u16 0] 31) = W at *
  have HO := Lib.hid (hk1.heap HWW.2.1 (by simp))
  have HA := Lib.hid (show w1.heap[R + 1]? = some (.cells (ansC ⟨0, 0⟩).toArray 31 (0, 0)) from hk1.heap HWW.2.2.1 (by simp))
  have HK := Lib.hid (HWW.1.trans hk1 (FSub.refl _ _))
  have HRL := Lib.hid (show w.heap.size ≤ R from Nat.le_of_eq hR.symm)
  have HSZ := Lib.hid (show R + 2 ≤ w1.heap.size from by have := HWW.2.2.2; have := hk1.size; omega)
  have HIN1 := Lib.hid (HIN.out.new (HWW.1.trans hk1 (FSub.refl _ _)) (Nat.le_refl _))
  clear HWW HW hk1 hR HCK HIN
  rcases opChk_or 1 x with hck | hck
  · have HCK := Lib.hid hck
    rw [show (⟨x.f, x.o, x.k, x.a, x.b⟩ : Opn) = x from rfl, hck]
    have c0 : w1.cell? ⟨R, 0, none⟩ = some (.int .u8 x.f) := cell_lit HO.out 0 rfl
    by_cases hf : x.f = 4
    · have e4 : (x.f == 4) = true := by simpa using hf
      obtain ⟨v2, w2, hr2, ho2, hk2, hf2⟩ := rkU.appendIn w1 w1.heap.size (Nat.le_refl _) (.slice none 0 0) [] (RK.Own.nil _ _ _) HIN1.out (by simp; have := HL.out; omega)
      have HR2 := Lib.hid (show (Builtin.append_ #[22, 22] 22 #[.slice none 0 0, .slice a1 l.length c1]).run Tryd.prog w1 = .ok v2 w2 from hr2)
      have HO2 := Lib.hid ho2
      have HK2 := Lib.hid (show Keeps [] w1 w2 from hk2)
      have c3 : w2.cell? ⟨R, 3, none⟩ = some (.int .u16 x.a) := cell_lit (HK2.out.heap HO.out (by simp)) 3 rfl
      obtain ⟨v3, w3, hr3, ho3, hk3, hf3⟩ := rkU.append1 w2 w1.heap.size hk2.size v2 _ ho2 x.a (by simp; have := HL.out; omega)
      obtain ⟨a2, c2, rfl, hc2, hm2⟩ := ho2.shape
      have HR3 := Lib.hid (show (Builtin.append_ #[22, 22] 22 #[.slice a2 (([] : List Int) ++ l).length c2, .slice (some ⟨w2.heap.size, 0, none⟩) 1 1]).run Tryd.prog (w2.alloc (.cells #[.int .u16 x.a] 23)) = .ok v3 w3 from hr3)
      have HA3 := Lib.hid (hk3.heap (HK2.out.heap HA.out (by simp)) (fun hq => by have := (row_base HO2.out _ hq).1; have := HSZ.out; omega))
      have HO3 := Lib.hid ho3
      have HK3 := Lib.hid (show Keeps [] w w3 from (HK.out.trans HK2.out (FSub.refl _ _)).trans hk3 (fun q hq => .inr (by have := (row_base HO2.out _ hq).1; have := HSZ.out; have := HRL.out; omega)))
      clear hr2 ho2 hk2 hf2 hr3 ho3 hk3 hf3 hf hck HIN1
      go_wp2_with (first
        | ((with_reducible refine wpList_app (.slice none 0 0) _ ?_ ?_ HR2.out ?_); exact rfl; exact rfl)
        | ((with_reducible refine wpList_app _ (.slice (some ⟨w2.heap.size, 0, none⟩) 1 1) ?_ ?_ HR3.out ?_); exact rfl; exact rfl)
        | ((with_reducible refine wpList_putN (g := R + 1) (old := ⟨0, 0⟩) ⟨0, 0⟩ ?_ ?_ HA3.out ?_); exact rfl; exact rfl))
      intro W4 hA4 hk4
      have HA4 := Lib.hid hA4; have HK4 := Lib.hid hk4
      clear hA4 hk4
      go_wp2_with fail
      try simp only [Exit.inBlock, Exit.then]
      refine bodyPost_ret (results_ans rfl _ _ _ ⟨0, 0⟩ rfl HA4.out) rfl ⟨v3, by rw [quX_enq HCK.out (by simpa using e4)]; rfl, ?_, HK3.out.trans HK4.out (fun q hq => .inr (by simp at hq; have := HRL.out; omega)), fun _ q hq => .inr (by have := (row_base HO3.out q hq).1; have := HK.out.size; omega)⟩
      rw [quX_enq HCK.out (by simpa using e4)]
      exact (HO3.out.keeps HK4.out (fun q hq => by have := (row_base HO3.out q hq).1; have := HSZ.out; simp; omega)).in_
    · have e4 : (x.f == 4) = false := by simpa using hf
      cases l with
      | nil =>
        clear hck
        go_wp2_with ((with_reducible refine wpList_putN (g := R + 1) (old := ⟨0, 0⟩) ⟨2, 0⟩ ?_ ?_ HA.out ?_); exact rfl; exact rfl)
        intro W4 hA4 hk4
        have HA4 := Lib.hid hA4; have HK4 := Lib.hid hk4
        clear hA4 hk4
        go_wp2_with fail
        try simp only [Exit.inBlock, Exit.then]
        have hkk : Keeps [] w W4 := HK.out.trans HK4.out (fun q hq => .inr (by simp at hq; have := HRL.out; omega))
        refine bodyPost_ret (results_ans rfl _ _ _ ⟨2, 0⟩ rfl HA4.out) rfl ⟨_, by rw [quX_none HCK.out hf]; rfl, ?_, hkk, fun h => absurd (by rw [quX_none HCK.out hf]) h⟩
        rw [quX_none HCK.out hf]
        exact ⟨a1, c1, rfl, by simp, hm1, fun h => absurd rfl h⟩
      | cons y r =>
        clear hck
        have hy := U16.at (k := 0) HIN1.out (by simp)
        obtain ⟨bk, o, rfl, hb, d0⟩ := hy
        rw [show (y :: r).getD 0 0 = y from rfl] at d0
        obtain ⟨A, hA⟩ : ∃ A, (if c1 = 1 then some (⟨bk, o, none⟩ : Addr) else some ⟨bk, o + 1, none⟩) = A := ⟨_, rfl⟩
        have htail := U16.tail HIN1.out hA
        have hsl := fun w => U16.slice1 (bk := bk) (o := o) w (show 1 ≤ (y :: r).length by simp) hc1
        rw [hA] at hsl
        have HT := Lib.hid htail
        obtain ⟨v2, w2, hr2, ho2, hk2, hf2⟩ := rkU.appendIn w1.drew w1.heap.size (Nat.le_refl _) (.slice none 0 0) [] (RK.Own.nil _ _ _) (N := w.heap.size) (u := .slice A ((y :: r).length - 1) (c1 - 1)) (M := r) (htail.same (fun _ _ => rfl)) (by have := HL.out; simp at this ⊢; omega)
        have HR2 := Lib.hid (show (Builtin.append_ #[22, 22] 22 #[.slice none 0 0, .slice A ((y :: r).length - 1) (c1 - 1)]).run Tryd.prog w1.drew = .ok v2 w2 from hr2)
        have HO2 := Lib.hid ho2
        have HK2 := Lib.hid (show Keeps [] w1 w2 from ((Keeps.refl _ _).drew).trans hk2 (fun q hq => by simp [own, Value.ownBlock] at hq))
        obtain ⟨S, hS⟩ : ∃ S : World → Prop, S = fun y => Keeps [R + 1] w1 y := ⟨_, rfl⟩
        have HSE := Lib.hid hS
        have hSD : S w1.drew := by rw [hS]; exact (Keeps.refl _ _).drew
        have HS0 := Lib.hid (fun (w' : World) (h : S w') => show w'.cell? ⟨bk, o, none⟩ = some (.int .u16 y) from by rw [hS] at h; exact h.cell d0 (by simp; have := HRL.out; omega))
        have HSL := Lib.hid hsl
        have HA2 := Lib.hid (HK2.out.heap HA.out (by simp))
        clear hS hsl htail hr2 ho2 hk2 hf2 d0 hA
        go_wp2_with fail
        refine wp_region_noPanic ?_
        refine wp_region_held_drew (S := S) (by kernel_rfl) hSD (fun hHeld => ?_)
        apply wpAnyH_take (i := 0)
        · simp only [List.getElem?_toArray]; rfl
        · kernel_rfl
        · kernel_rfl
        · kernel_rfl
        · exact fun _ _ _ h => h
        · exact Or.inl ⟨by rfl, by intro w hSw; go_simp; try with_reducible rfl⟩
        · assumption
        try simp only [Act.put, List.setIfInBounds_toArray, List.set_cons_zero, List.set_cons_succ]
        apply wpAnyH_take (i := 1)
        · simp only [List.getElem?_toArray]; rfl
        · kernel_rfl
        · kernel_rfl
        · kernel_rfl
        · exact fun _ _ _ h => h
        · exact Or.inl ⟨by rfl, by intro w hSw; go_simp; try with_reducible rfl⟩
        · assumption
        try simp only [Act.put, List.setIfInBounds_toArray, List.set_cons_zero, List.set_cons_succ]
        apply wpAnyH_take (i := 2)
        · simp only [List.getElem?_toArray]; rfl
        · kernel_rfl
        · kernel_rfl
        · kernel_rfl
        · exact fun _ _ _ h => h
        · exact yields_slice1 (by rfl) (.tmp 31) rfl (v := .slice (some ⟨bk, o, none⟩) (y :: r).length c1) rfl HSL.out
        · assumption
        try simp only [Act.put, List.setIfInBounds_toArray, List.set_cons_zero, List.set_cons_succ]
        apply wpAnyH_take (i := 4)
        · simp only [List.getElem?_toArray]; rfl
        · kernel_rfl
        · kernel_rfl
        · kernel_rfl
        · exact fun _ _ _ h => h
        · exact Or.inl ⟨by rfl, by intro w hSw; go_simp; try with_reducible rfl⟩
        · assumption
        try simp only [Act.put, List.setIfInBounds_toArray, List.set_cons_zero, List.set_cons_succ]
        apply wpAnyH_take (i := 5)
        · simp only [List.getElem?_toArray]; rfl
        · kernel_rfl
        · kernel_rfl
        · kernel_rfl
        · exact fun _ _ _ h => h
        · exact Or.inl ⟨by rfl, by intro w hSw; go_simp; try with_reducible rfl⟩
        · assumption
        try simp only [Act.put, List.setIfInBounds_toArray, List.set_cons_zero, List.set_cons_succ]
        apply wpAnyH_take (i := 6)
        · simp only [List.getElem?_toArray]; rfl
        · kernel_rfl
        · kernel_rfl
        · kernel_rfl
        · exact fun _ _ _ h => h
        · exact Or.inl ⟨by rfl, by intro w hSw; have q0 := HS0.out w hSw; go_simp; try with_reducible rfl⟩
        · assumption
        try simp only [Act.put, List.setIfInBounds_toArray, List.set_cons_zero, List.set_cons_succ]
        apply wpAnyH_take (i := 7)
        · simp only [List.getElem?_toArray]; rfl
        · kernel_rfl
        · kernel_rfl
        · kernel_rfl
        · exact fun _ _ _ h => h
        · exact Or.inl ⟨by rfl, by intro w hSw; go_simp; try with_reducible rfl⟩
        · assumption
        try simp only [Act.put, List.setIfInBounds_toArray, List.set_cons_zero, List.set_cons_succ]
        apply wpAnyH_ready (rs := [3])
        · kernel_rfl
        · simp
        apply AllReadyH.cons (hs := AllReadyH.nil)
        · simp only [List.getElem?_toArray]; rfl
        intro K hK
        rw [if_pos (by rfl)]
        refine wp_append_run _ _ 22 rfl _ _ _ w2 rfl rfl HR2.out ?_
        refine hK.out _ _ ?_ (fun hHeld => ?_)
        · exact (by rw [HSE.out]; exact HK2.out.more (by simp))
        clear hK K
        try simp only [Act.put, List.setIfInBounds_toArray, List.set_cons_zero, List.set_cons_succ]
        apply wpAnyH_take (i := 8)
        · simp only [List.getElem?_toArray]; rfl
        · kernel_rfl
        · kernel_rfl
        · kernel_rfl
        · exact fun _ _ _ h => h
        · exact Or.inl ⟨by rfl, by intro w hSw; go_simp; try with_reducible rfl⟩
        · assumption
        try simp only [Act.put, List.setIfInBounds_toArray, List.set_cons_zero, List.set_cons_succ]
        apply wpAnyH_ready (rs := [9])
        · kernel_rfl
        · simp
        apply AllReadyH.cons (hs := AllReadyH.nil)
        · simp only [List.getElem?_toArray]; rfl
        intro K hK
        rw [if_pos (by rfl)]
        refine wp_store_row 31 _ _ rfl (R + 1) (ansC ⟨1, y⟩).toArray rfl rfl 31 (ansC ⟨0, 0⟩).toArray HA2.out (by kernel_rfl) rfl (by rw [← Array.all_toList, List.all_eq_true]; exact ansC_one _) ?_
        have hA4 := setRow_heap w2 (R + 1) (ansC ⟨0, 0⟩).toArray (ansC ⟨1, y⟩).toArray 31 (0, 0) HA2.out
        have hk4 : Keeps [R + 1] w2 (w2.setRow (R + 1) (ansC ⟨1, y⟩).toArray) := (Keeps.refl _ _).setRow _ _ (.inl (by simp))
        generalize w2.setRow (R + 1) (ansC ⟨1, y⟩).toArray = W4 at *
        have HA4 := Lib.hid hA4
        have HO4 := Lib.hid (HO2.out.keeps hk4 (fun q hq => by have := (row_base HO2.out q hq).1; have := HSZ.out; simp; omega))
        have HK5 := Lib.hid ((HK2.out.more (by simp)).trans hk4 (FSub.refl _ _))
        clear hA4 hk4
        refine hK.out _ _ ?_ (fun hHeld => ?_)
        · exact (by rw [HSE.out]; exact HK5.out)
        clear hK K
        try simp only [Act.put, List.setIfInBounds_toArray, List.set_cons_zero, List.set_cons_succ]
        apply wpAnyH_take (i := 10)
        · simp only [List.getElem?_toArray]; rfl
        · kernel_rfl
        · kernel_rfl
        · kernel_rfl
        · exact fun _ _ _ h => h
        · exact Or.inl ⟨by rfl, by intro w hSw; go_simp; try with_reducible rfl⟩
        · assumption
        try simp only [Act.put, List.setIfInBounds_toArray, List.set_cons_zero, List.set_cons_succ]
        refine wpAnyH_done (by kernel_rfl) ?_ _
        refine NoPanic.normal ?_
        go_wp2_with fail
        try simp only [Exit.inBlock, Exit.then]
        refine bodyPost_ret (results_ans rfl _ _ _ ⟨1, y⟩ rfl HA4.out) rfl ⟨v2, by rw [quX_deq HCK.out hf]; rfl, ?_, HK.out.trans HK5.out (fun q hq => .inr (by simp at hq; have := HRL.out; omega)), fun _ q hq => .inr (by have := (row_base HO4.out q hq).1; have := HK.out.size; omega)⟩
        rw [quX_deq HCK.out hf]
        exact HO4.out.in_
  · have HCK := Lib.hid (show opChk 1 x ≠ 0 from by rw [hck]; decide)
    rw [show (⟨x.f, x.o, x.k, x.a, x.b⟩ : Opn) = x from rfl, hck]
    go_wp2_with ((with_reducible refine wpList_putN (g := R + 1) (old := ⟨0, 0⟩) ⟨0, 0⟩ ?_ ?_ HA.out ?_); exact rfl; exact rfl)
    intro W4 hA4 hk4
    have HA4 := Lib.hid hA4; have HK4 := Lib.hid hk4
    clear hA4 hk4
    go_wp2_with fail
    try simp only [Exit.inBlock, Exit.then]
    have hkk : Keeps [] w W4 := HK.out.trans HK4.out (fun q hq => .inr (by simp at hq; have := HRL.out; omega))
    refine bodyPost_ret (results_ans rfl _ _ _ ⟨0, 0⟩ rfl HA4.out) rfl ⟨_, by rw [quX_chk HCK.out]; rfl, ?_, hkk, fun h q hq => .inl ⟨by rw [quX_chk HCK.out] at h; exact h, hq⟩⟩
    rw [quX_chk HCK.out]
    exact RK.In.more (N := w.heap.size) (HIN1.out.same (HK4.out.same (by have := HK.out.size; omega) (fun q hq => by simp at hq; have := HRL.out; omega))) hkk.size
end Go.Proofs.YtaicampenpkneaaDoor
/-
  The document's queue: Encode, Decode.
-/
namespace Go.Proofs.YtaicampenpkneaaDoor
open Go.RowKit
set_option maxHeartbeats 8000000
set_option maxRecDepth 100000
theorem wp_buildU {o : Oper} {a : Act} {w : World} {K : Act → World → Prop} {Q : Exit → Act → World → Prop} (x : Operand) (ho : o.op = .buildSlice 22 1 #[(0, x)]) {y : Int} (hx : a.eval x = .int .u16 y)
    (h : K (a.put o.dst (.slice (some ⟨w.heap.size, 0, none⟩) 1 1)) (w.alloc (.cells #[.int .u16 y] 23))) : o.wp Tryd.prog a w K Q := by
  refine wp_buildSlice 22 23 1 #[(0, x)] ho #[.int .u16 y] rkU.i _ rkU.und rkU.hi rkU.hz (by rw [rkU.hs]; decide) (by rw [rkU.hs]; decide) ?_ h
  rw [rkU.hs]
  have e : (#[(0, x)].map fun (i, z) => (i, a.eval z)).toList = [(0, a.eval x)] := by simp
  rw [e, hx, show rkU.s = 1 from rfl, show rkU.z = .int .u16 0 from rfl]
  simp [Instr.fill, Value.cells]
  rw [show Array.range 1 = #[0] from by decide]
  apply Array.ext'
  simp
theorem yields_idx {ops : Array Oper} {S : World → Prop} {o : Oper} {a : Act} (hw : Region.wanted o (yielded ops a.tmps) = true) (x y : Operand) (ho : o.op = .index 9 x y) {s z : Value} {i : Int} (hx : a.eval x = s) (hy : a.eval y = .int .i64 i)
    (hr : ∀ w, (Instr.index 9 s (.int .i64 i)).run Tryd.prog w = .ok z w) : YieldsIf Tryd.prog ops S o z a :=
  Or.inl ⟨hw, by
    intro w _
    unfold execOp
    have h := hr w
    simp only [ho, hx, hy, h, Sem.run_bind]
    simp [h, Result.andThen]⟩
theorem str_at10 (w : World) (b : List UInt8) (i : Nat) (hi : i < b.length) : (Instr.index 9 (.string (bs b)) (.int .i64 i)).run Tryd.prog w = .ok (.int .u8 (b.getD i 0).toNat) w := by
  have h1 : i < (bs b).size := by show i < b.toArray.size; simpa using hi
  have h2 : (bs b)[i]'h1 = b[i] := rfl
  simp [Instr.index, run_underlying Tryd.underlying9, asIntOf, part, go_sem, h1, List.getElem?_eq_getElem hi]
  rw [h2]
  rfl
end Go.Proofs.YtaicampenpkneaaDoor
/-
  What the program's queue must tell; the law's has, enq, deq, over any such queue.
-/
namespace Go.Proofs.YtaicampenpkneaaDoor
open Go.RowKit
/-- What the program's queue tells; G: what its package-level variables hold. -/
structure QuProg (G : World → Prop) where
  At : World → Value → List Int → Prop
  foot : Value → List Nat
  keepG : ∀ {w w' : World}, G w → Keeps [] w w' → G w'
  keep : ∀ {w w' : World} {F : List Nat} {st : Value} {l : List Int}, At w st l → Keeps F w w' → (∀ q ∈ foot st, q ∉ F) → At w' st l
  old : ∀ {w : World} {st : Value} {l : List Int}, At w st l → ∀ q ∈ foot st, q < w.heap.size
  one : ∀ {w : World} {st : Value} {l : List Int}, At w st l → ∃ z, st = .agg #[z] ∧ z.oneCell' = true
  zero : ∀ w, At w (.agg #[.slice none 0 0]) []
  new : ∀ w, G w → Calls Tryd.prog 24 #[] w fun e w' => ∃ st, e = .returned st ∧ At w' st [] ∧ Keeps [] w w' ∧ ∀ q ∈ foot st, w.heap.size ≤ q
  of : ∀ w N v l, G w → rkU.In N w v l → N ≤ w.heap.size → l.length ≤ 1000 → Calls Tryd.prog 11 #[v] w fun e w' => ∃ st, e = .returned st ∧ At w' st l ∧ Keeps [] w w' ∧ ∀ q ∈ foot st, w.heap.size ≤ q
  values : ∀ w st l, G w → At w st l → l.length ≤ 1000 → Calls Tryd.prog 15 #[st] w fun e w' => ∃ v, e = .returned v ∧ rkU.Own w.heap.size w' v l ∧ Keeps [] w w'
  step : ∀ w st l x, G w → At w st l → l.length ≤ 1000 → x.In → Calls Tryd.prog 12 #[st, x.val] w fun e w' =>
    ∃ st', e = .returned (.tuple #[st', .agg (ansC (quX l x).2.1).toArray, .int .i64 (quX l x).2.2]) ∧ At w' st' (quX l x).1 ∧ Keeps [] w w' ∧ FSub (foot st') (foot st) w.heap.size
  run : ∀ w st l v ops, G w → At w st l → l.length ≤ 1000 → (∀ x ∈ ops, x.In) → rkO.In w.heap.size w v ops → ops.length ≤ 1000 → Calls Tryd.prog 17 #[st, v] w fun e w' =>
    ∃ st' v', e = .returned (.tuple #[st', v', .int .i64 (stE quX l ops)]) ∧ At w' st' (stS quX l ops) ∧ rkA.In w'.heap.size w' v' (stL quX l ops) ∧ Keeps [] w w' ∧ FSub (foot st') (foot st) w.heap.size
  idle : ∀ w f, G w → 0 ≤ f ∧ f < 256 → Calls Tryd.prog 16 #[.int .u8 f] w fun e w' => e = .returned (.bool false) ∧ Keeps [] w w'
  enc : ∀ w st l, G w → At w st l → l.length ≤ 1000 → U16s l → Calls Tryd.prog 21 #[st] w fun e w' => e = .returned (.string (bs (quB l))) ∧ Keeps [] w w'
  dec : ∀ w b, G w → b.length ≤ 2000 → Calls Tryd.prog 19 #[.string (bs b)] w fun e w' =>
    ∃ st, e = .returned (.tuple #[st, .int .i64 (if b.length % 2 = 1 then 5 else 0)]) ∧ At w' st (if b.length % 2 = 1 then [] else quN b) ∧ Keeps [] w w' ∧ ∀ q ∈ foot st, w.heap.size ≤ q
  same : ∀ w st l st2 m, G w → At w st l → At w st2 m → l.length ≤ 1000 → m.length ≤ 1000 → Calls Tryd.prog 23 #[st, st2] w fun e w' => e = .returned (.bool (decide (l = m))) ∧ Keeps [] w w'
variable {G : World → Prop}
theorem QuProg.new_ (R : QuProg G) {w w' : World} {st : Value} {l : List Int} (h : R.At w st l) (hk : Keeps [] w w') : R.At w' st l := R.keep h hk (by simp)
set_option maxHeartbeats 8000000
set_option maxRecDepth 100000
theorem has10_any (R : QuProg G) (w : World) (hG : G w) {st v : Value} {l m : List Int} (hs : R.At w st l) (hl : l.length ≤ 1000) {M : Nat} (hm : rkU.In M w v m) (hM : M ≤ w.heap.size) :
    Calls Tryd.prog 25 #[st, v] w fun e w' => e = .returned (.bool (decide (l = m))) ∧ Keeps [] w w' := by
  obtain ⟨z, rfl, hz⟩ := R.one hs
  have HR := Lib.hid (fun w' h => R.values w' _ l (R.keepG hG h) (R.new_ hs h) hl)
  obtain ⟨a2, c2, rfl, hc2, hm2, -⟩ := id hm
  have HK0 := Lib.hid (show Keeps [] w (w.alloc (.cells #[z] 28)) from (Keeps.refl _ _).alloc _)
  have HIM := Lib.hid (fun w' h => hm.new (w' := w') h hM)
  clear hs hG hm hl
  go_enter Tryd.func25, Tryd.ntmps25
  go_wp2_with fail
  refine (HR.out _ HK0.out).mono ?_; rintro e w1 ⟨v1, rfl, ho1, hk1⟩
  have HK1 := Lib.hid (HK0.out.trans hk1 (FSub.refl _ _))
  have HI1 := Lib.hid ho1.in_
  have HI2 := Lib.hid (HIM.out _ HK1.out)
  obtain ⟨a1, c1, rfl, hc1, hm1⟩ := ho1.shape
  clear ho1 hk1 HR HK0 HIM
  by_cases hlen : l.length = m.length
  · rw [← hlen] at hc2 ⊢
    rw [← hlen] at HI2
    have HLE := Lib.hid hlen
    obtain ⟨D, hD⟩ : ∃ D, D = decide (l = m) := ⟨_, rfl⟩
    have HD := Lib.hid hD
    clear hlen hD
    go_wp2_with fail
    go_loopw [6] (fun i wr => ∃ k q : Nat, k ≤ l.length ∧ i = .int .i64 k ∧ l.take k = m.take k ∧ wr = w1.drewN q) (fun i _ => l.length - (intOf i).toNat)
    case atStart => exact ⟨0, 0, by omega, rfl, rfl, rfl⟩
    case round =>
      obtain ⟨k, q, hk, rfl, hp, rfl⟩ := hrel
      have HP := Lib.hid hp; clear hp
      by_cases hlt : k < l.length
      · obtain ⟨b1, o1, rfl, _, d1⟩ := U16.at HI1.out hlt
        obtain ⟨b2, o2, rfl, _, d2⟩ := U16.at (k := k) HI2.out (by have := HLE.out; omega)
        by_cases he : l.getD k 0 = m.getD k 0
        · rw [← he] at d2
          have HN := Lib.hid (take_next (m := m) hlt (by have := HLE.out; omega) HP.out he)
          clear he HP
          generalize l.getD k 0 = X at *
          have t2 : (X != X) = false := by simp
          go_wp2_with fail
          go_quiet (fail)
          go_wp2_with fail
          go_roundw
          case rel => exact ⟨k + 1, q + nq, by omega, by go_num, HN.out, rfl⟩
          case measure => simp [intOf]; omega
        · have HX := Lib.hid (show decide (l = m) = false from decide_eq_false (fun e => he (by rw [e])))
          clear HP
          generalize l.getD k 0 = X at *
          generalize m.getD k 0 = Y at *
          have t2 : (X != Y) = true := by simpa using he
          clear he
          go_wp2_with fail
          go_quiet (fail)
          go_wp2_with fail
          go_ret
          exact ⟨by rw [HX.out]; rfl, (HK1.out.drewN _).drewN _⟩
      · obtain rfl : k = l.length := by omega
        have HX := Lib.hid (show decide (l = m) = true from decide_eq_true (take_all HLE.out HP.out))
        clear HP
        go_wp2_with fail
        go_ret
        exact ⟨by rw [HX.out]; rfl, HK1.out.drewN _⟩
  · have HX := Lib.hid (show decide (l = m) = false from decide_eq_false (fun e => hlen (by rw [e])))
    have z : ¬ (l.length : Int) = (m.length : Int) := by omega
    clear HI1 HI2
    go_wp2_with fail
    go_ret
    exact ⟨by rw [HX.out]; rfl, HK1.out⟩
theorem enq10_any (w : World) (a : Int) : Calls Tryd.prog 26 #[.int .u16 a] w fun e w' => e = .returned (⟨4, 0, 0, a, 0⟩ : Opn).val ∧ Keeps [] w w' := by
  have h := heap_alloc_new w (.cells #[.int .u8 4, .int .u8 0, .int .u8 0, .int .u16 a, .int .u16 0] 25)
  have HN := Lib.hid h
  clear h
  go_enter Tryd.func26, Tryd.ntmps26
  go_wp2_with fail
  try simp only [Exit.inBlock, Exit.then]
  exact bodyPost_ret (results_cell_row (P := Tryd.prog) rfl _ _ _ _ _ _ _ rfl HN.out Tryd.underlying25 rfl (by kernel_rfl)) rfl ⟨rfl, (Keeps.refl _ _).alloc _⟩
theorem deq10_any (w : World) : Calls Tryd.prog 27 #[] w fun e w' => e = .returned (⟨5, 0, 0, 0, 0⟩ : Opn).val ∧ Keeps [] w w' := by
  have h := heap_alloc_new w (.cells #[.int .u8 5, .int .u8 0, .int .u8 0, .int .u16 0, .int .u16 0] 25)
  have HN := Lib.hid h
  clear h
  go_enter Tryd.func27, Tryd.ntmps27
  go_wp2_with fail
  try simp only [Exit.inBlock, Exit.then]
  exact bodyPost_ret (results_cell_row (P := Tryd.prog) rfl _ _ _ _ _ _ _ rfl HN.out Tryd.underlying25 rfl (by kernel_rfl)) rfl ⟨rfl, (Keeps.refl _ _).alloc _⟩
end Go.Proofs.YtaicampenpkneaaDoor
