/-
  The document's queue: Step.
-/
import Derived.Deep.RegionHeld3
import Derived.Laws.Tables
import Derived.Test.YtnmpekbkahkapaaKR07
import Derived.Test.YtnmpekbkahkapaaKR06
set_option linter.unusedSimpArgs false
set_option linter.unusedVariables false
namespace Go.Proofs.Ytnmpekbkahkapaa
open Go.RowKit
section
variable {ops : Array Oper} {rest : List Oper} {a : Act} {w : World} {Q : Exit → Act → World → Prop}
theorem wpList_putN {dst : Option Tmp} {ty : TypeId} {pos : String} {after : Array Edge} {x y : Operand} {g : Nat} {old : Ans} (r : Ans) {t : TypeId}
    (hx : a.eval x = .pointer (some ⟨g, 0, none⟩)) (hy : a.eval y = .agg (ansC r).toArray) (hg : w.heap[g]? = some (.cells (ansC old).toArray t (0, 0)))
    (h : ∀ W, W.heap[g]? = some (.cells (ansC r).toArray t (0, 0)) → Keeps [g] w W → wpList Try.prog ops Q rest (a.put dst undef) W) :
    wpList Try.prog ops Q ({ dst := dst, op := .store 32 x y, type := ty, pos := pos, after := after, guard := none } :: rest) a w :=
  wpList_store_row rfl 32 x y rfl g (ansC r).toArray hx hy t (ansC old).toArray hg (by kernel_rfl) rfl (by rw [← Array.all_toList, List.all_eq_true]; exact ansC_one r) (h _ (setRow_heap w g (ansC old).toArray (ansC r).toArray t (0, 0) hg) ((Keeps.refl [g] w).setRow g _ (.inl (by simp))))
end
/-- The world behind the document's variables: an operation, an answer. -/
theorem step10_vars (w : World) (A : Array Value) :
    Keeps [] w ((w.alloc (.cells A 27)).alloc (.cells (ansC ⟨0, 0⟩).toArray 32)) ∧
    ((w.alloc (.cells A 27)).alloc (.cells (ansC ⟨0, 0⟩).toArray 32)).heap[w.heap.size]? = some (.cells A 27 (0, 0)) ∧
    ((w.alloc (.cells A 27)).alloc (.cells (ansC ⟨0, 0⟩).toArray 32)).heap[w.heap.size + 1]? = some (.cells (ansC ⟨0, 0⟩).toArray 32 (0, 0)) ∧
    ((w.alloc (.cells A 27)).alloc (.cells (ansC ⟨0, 0⟩).toArray 32)).heap.size = w.heap.size + 2 := by
  have e1 : (w.alloc (.cells A 27)).heap.size = w.heap.size + 1 := Array.size_push _
  refine ⟨((Keeps.refl _ _).alloc _).alloc _, ?_, ?_, ?_⟩
  · exact ((Keeps.refl [] _).alloc _).heap (heap_alloc_new w _) (by simp)
  · have h := heap_alloc_new (w.alloc (.cells A 27)) (.cells (ansC ⟨0, 0⟩).toArray 32)
    rw [e1] at h
    exact h
  · rw [show ((w.alloc (.cells A 27)).alloc (.cells (ansC ⟨0, 0⟩).toArray 32)).heap.size = (w.alloc (.cells A 27)).heap.size + 1 from Array.size_push _, e1]
set_option maxHeartbeats 8000000
set_option maxRecDepth 100000
end Go.Proofs.Ytnmpekbkahkapaa
/-
  The document's key map: a step.
-/
namespace Go.Proofs.Ytnmpekbkahkapaa
open Go.RowKit
section
variable {o : Oper} {a : Act} {w : World} {K : Act → World → Prop} {Q : Exit → Act → World → Prop}
theorem wp_call11 {fn : Func} (f : FuncId) (args : Array Operand) (tys : Array TypeId) (ho : o.op = .call { callee := .value (.func f), args := args, argTypes := tys }) (vs : List Value) (hv : args.toList.map a.eval = vs)
    (hf : Try.prog.funcs[f]? = some fn) (hname : (fn.name == "runtime.NumGoroutine") = false) (hb : fn.body.isNone = false)
    (h : Calls Try.prog f vs.toArray w fun e w' => ∃ v, e = .returned v ∧ K (a.put o.dst v) w') : o.wp Try.prog a w K Q := by
  have hv2 : args.map a.eval = vs.toArray := by rw [← hv]; apply Array.ext'; simp
  unfold Oper.wp execOp
  have h1 : fn.name ≠ "runtime.NumGoroutine" := by simpa using hname
  have h2 : ∃ z, fn.body = some z := by
    cases h : fn.body with
    | none => rw [h] at hb; cases hb
    | some z => exact ⟨z, rfl⟩
  obtain ⟨z, h2⟩ := h2
  simp only [ho, resolve, invoke, Sem.run_bind, Sem.run_pure, Result.andThen_ok, hv2, Act.eval, Deferred.ofValue, Array.empty_append, Array.append_empty]
  simp [callFunc, hf, h1, h2, Sem.run]
  rw [Oper.upon_enter]
  exact h.mono fun e w' ⟨v, he, hk⟩ => by subst he; exact hk
theorem wp_buildI {y : It} (x : Operand) (ho : o.op = .buildSlice 35 1 #[(0, x)]) (hx : a.eval x = .agg (itC y).toArray)
    (h : K (a.put o.dst (.slice (some ⟨w.heap.size, 0, none⟩) 1 1)) (w.alloc (.cells (itC y).toArray 54))) : o.wp Try.prog a w K Q :=
  rkI.wp_build1 x ho hx (by show (2 : Nat) ≤ 10000; decide) h
end
/-- One item in a block of its own. -/
theorem It.fresh (w : World) (x : It) : rkI.In (w.heap.size + 1) (w.alloc (.cells (itC x).toArray 54)) (.slice (some ⟨w.heap.size, 0, none⟩) 1 1) [x] := by
  refine ⟨_, 1, rfl, Nat.le_refl _, by decide, fun _ => ⟨_, 0, rfl, Nat.lt_succ_self _, fun j hj => ?_⟩⟩
  obtain rfl : j = 0 := by simp at hj; omega
  intro i u hi
  have := heap_alloc_new w (.cells (itC x).toArray 54)
  simp only [World.cell?, this]
  have h2 : (itC x)[i]? = some u := hi
  simpa using h2
set_option maxHeartbeats 8000000
set_option maxRecDepth 100000
theorem kvX_bad {l : List It} {x : Opn} (hb : 7 < x.k ∨ x.f < 6 ∨ 9 < x.f) : kvX l x = (l, ⟨0, 0⟩, 10) := by
  unfold kvX; rw [if_pos hb]
theorem kvX_put {l : List It} {o k a b : Int} (hb : ¬ 7 < k) : kvX l ⟨7, o, k, a, b⟩ = (wo (idxI (itIdx k l)) 0 l ++ [⟨k, a⟩], ⟨0, 0⟩, 0) := by
  unfold kvX; rw [if_neg (by simpa using hb), if_pos rfl]
theorem kvX_get0 {l : List It} {o k a b : Int} (hb : ¬ 7 < k) (hi : itIdx k l = none) : kvX l ⟨6, o, k, a, b⟩ = (l, ⟨2, 0⟩, 0) := by
  unfold kvX; rw [if_neg (by simpa using hb), if_neg (by simp), hi]; rfl
theorem kvX_get1 {l : List It} {o k a b : Int} (hb : ¬ 7 < k) {i : Nat} (hi : itIdx k l = some i) : kvX l ⟨6, o, k, a, b⟩ = (l, ⟨1, (l.getD i ⟨0, 0⟩).v⟩, 0) := by
  unfold kvX; rw [if_neg (by simpa using hb), if_neg (by simp), hi]; rfl
theorem kvX_del0 {l : List It} {o k a b : Int} (hb : ¬ 7 < k) (hi : itIdx k l = none) : kvX l ⟨8, o, k, a, b⟩ = (l, ⟨4, 0⟩, 0) := by
  unfold kvX; rw [if_neg (by simpa using hb), if_neg (by simp), hi]; rfl
theorem kvX_del1 {l : List It} {o k a b : Int} (hb : ¬ 7 < k) {i : Nat} (hi : itIdx k l = some i) : kvX l ⟨8, o, k, a, b⟩ = (wo i 0 l, ⟨3, 0⟩, 0) := by
  unfold kvX; rw [if_neg (by simpa using hb), if_neg (by simp), hi]; rfl
theorem kvX_cas0 {l : List It} {o k a b : Int} (hb : ¬ 7 < k) (hi : itIdx k l = none) : kvX l ⟨9, o, k, a, b⟩ = (l, ⟨4, 0⟩, 0) := by
  unfold kvX; rw [if_neg (by simpa using hb), if_neg (by simp), hi]; rfl
theorem kvX_cas1 {l : List It} {o k a b : Int} (hb : ¬ 7 < k) {i : Nat} (hi : itIdx k l = some i) (hv : (l.getD i ⟨0, 0⟩).v ≠ a) : kvX l ⟨9, o, k, a, b⟩ = (l, ⟨4, 0⟩, 0) := by
  unfold kvX; rw [if_neg (by simpa using hb), if_neg (by simp), hi]; exact if_neg hv
theorem kvX_cas2 {l : List It} {o k a b : Int} (hb : ¬ 7 < k) {i : Nat} (hi : itIdx k l = some i) (hv : (l.getD i ⟨0, 0⟩).v = a) : kvX l ⟨9, o, k, a, b⟩ = (wo i 0 l ++ [⟨k, b⟩], ⟨3, 0⟩, 0) := by
  unfold kvX; rw [if_neg (by simpa using hb), if_neg (by simp), hi]; exact if_pos hv
/-- What the document's Step tells. -/
def Post11 (w : World) (v : Value) (l : List It) (x : Opn) (e : Ending) (w' : World) : Prop :=
  ∃ v', e = .returned (.tuple #[v', .agg (ansC (kvX l x).2.1).toArray, .int .i64 (kvX l x).2.2]) ∧ rkI.In w'.heap.size w' v' (kvX l x).1 ∧ Keeps [] w w' ∧ ((kvX l x).1 ≠ [] → ∀ q ∈ own v', (l ≠ [] ∧ q ∈ own v) ∨ w.heap.size ≤ q)
theorem r11Step_any (w : World) {v : Value} {l : List It} (h : rkI.In w.heap.size w v l) (hl : l.length ≤ 1000000) (x : Opn) :
    Calls Try.prog 13 #[v, x.val] w (Post11 w v l x) := by
  obtain ⟨a1, c1, rfl, hc1, hm1, -⟩ := id h
  obtain ⟨f, o, k, a, b⟩ := x
  have HW := Lib.hid (step10_vars w #[.int .u8 f, .int .u8 o, .int .u8 k, .int .u16 a, .int .u16 b])
  have HIN := Lib.hid h
  have HAT := Lib.hid (fun (w' : World) (hk : Keeps [] w w') => r11at_any w' (h.new hk (Nat.le_refl _)) hl k)
  generalize hn2 : l.length = n at *
  have HN2 := Lib.hid hn2; have HL := Lib.hid hl
  clear h hl hn2
  unfold Opn.val
  by_cases hb : 7 < k ∨ f < 6 ∨ 9 < f
  · have HX := Lib.hid (kvX_bad (l := l) (x := ⟨f, o, k, a, b⟩) hb)
    by_cases h1 : 7 < k
    · have t1 : (decide (k > 7)) = true := by simpa using h1
      clear h1 hb
      try clear h2
      go_enter Try.func13, Try.ntmps13
      go_wp2_with fail
      refine bodyPost_ret (results_ans rfl _ _ _ ⟨0, 0⟩ rfl HW.out.2.2.1) rfl ⟨_, by rw [HX.out]; rfl, ?_, HW.out.1, fun hne q hq => .inl ⟨by rw [HX.out] at hne; exact hne, hq⟩⟩
      rw [HX.out]
      exact (HIN.out.new HW.out.1 (Nat.le_refl _)).more HW.out.1.size
    · have t1 : (decide (k > 7)) = false := by simpa using h1
      by_cases h2 : f < 6
      · have t2 : (decide (f < 6)) = true := by simpa using h2
        clear h1 hb
        try clear h2
        go_enter Try.func13, Try.ntmps13
        go_wp2_with fail
        refine bodyPost_ret (results_ans rfl _ _ _ ⟨0, 0⟩ rfl HW.out.2.2.1) rfl ⟨_, by rw [HX.out]; rfl, ?_, HW.out.1, fun hne q hq => .inl ⟨by rw [HX.out] at hne; exact hne, hq⟩⟩
        rw [HX.out]
        exact (HIN.out.new HW.out.1 (Nat.le_refl _)).more HW.out.1.size
      · have t2 : (decide (f < 6)) = false := by simpa using h2
        have t3 : (decide (f > 9)) = true := by simp; omega
        clear h1 hb
        try clear h2
        go_enter Try.func13, Try.ntmps13
        go_wp2_with fail
        refine bodyPost_ret (results_ans rfl _ _ _ ⟨0, 0⟩ rfl HW.out.2.2.1) rfl ⟨_, by rw [HX.out]; rfl, ?_, HW.out.1, fun hne q hq => .inl ⟨by rw [HX.out] at hne; exact hne, hq⟩⟩
        rw [HX.out]
        exact (HIN.out.new HW.out.1 (Nat.le_refl _)).more HW.out.1.size
  · have t1 : (decide (k > 7)) = false := by simp; omega
    have hf : f = 6 ∨ f = 7 ∨ f = 8 ∨ f = 9 := by omega
    have hk7 : ¬ 7 < k := fun h => hb (.inl h)
    clear hb
    cases hi : itIdx k l with
    | none =>
      have hi2 : idxI (itIdx k l) = -1 := by rw [hi]; rfl
      rcases hf with rfl | rfl | rfl | rfl
      · have HX := Lib.hid (kvX_get0 (o := o) (a := a) (b := b) hk7 hi)
        go_enter Try.func13, Try.ntmps13
        go_wp2_with fail
        have HW2 : Keeps [] w ((w.alloc (.cells #[.int .u8 6, .int .u8 o, .int .u8 k, .int .u16 a, .int .u16 b] 27)).alloc (.cells #[.int .u8 0, .int .u16 0] 32)) := HW.out.1
        refine (HAT.out _ HW2).mono ?_; clear HW2; rintro e w1 ⟨rfl, rfl⟩
        rw [hi2]
        obtain ⟨R, hR⟩ : ∃ R, R = w.heap.size := ⟨_, rfl⟩
        have HWW := HW.out
        rw [← hR] at HWW ⊢
        simp only [show (ansC ⟨0, 0⟩).toArray = #[Value.int .u8 0, .int .u16 0] from rfl] at HWW
        generalize (w.alloc (.cells #[.int .u8 6, .int .u8 o, .int .u8 k, .int .u16 a, .int .u16 b] 27)).alloc (.cells #[.int .u8 0, .int .u16 0] 32) = W at *
        have HO := Lib.hid HWW.2.1
        have HA := Lib.hid (show W.heap[R + 1]? = some (.cells (ansC ⟨0, 0⟩).toArray 32 (0, 0)) from HWW.2.2.1)
        have HK := Lib.hid HWW.1
        have HRL := Lib.hid (show w.heap.size ≤ R from Nat.le_of_eq hR.symm)
        have HSZ := Lib.hid (show R + 2 ≤ W.heap.size from Nat.le_of_eq HWW.2.2.2.symm)
        have HIN1 := Lib.hid (HIN.out.new HWW.1 (Nat.le_refl _))
        clear HWW HW hR HAT HIN
        have c0 : W.cell? ⟨R, 0, none⟩ = some (.int .u8 6) := cell_lit HO.out 0 rfl
        have c3 : W.cell? ⟨R, 3, none⟩ = some (.int .u16 a) := cell_lit HO.out 3 rfl
        clear hi hi2 hk7
        go_wp2_with ((with_reducible refine wpList_putN (g := R + 1) (old := ⟨0, 0⟩) ⟨2, 0⟩ ?_ ?_ HA.out ?_); exact rfl; exact rfl)
        intro W4 hA4 hk4
        have HA4 := Lib.hid hA4; have HK4 := Lib.hid hk4
        clear hA4 hk4
        go_wp2_with fail
        try simp only [Exit.inBlock, Exit.then]
        have hkk : Keeps [] w W4 := HK.out.trans HK4.out (fun q hq => .inr (by simp at hq; have := HRL.out; omega))
        refine bodyPost_ret (results_ans rfl _ _ _ ⟨2, 0⟩ rfl HA4.out) rfl ⟨_, by rw [HX.out]; rfl, ?_, hkk, fun hne q hq => .inl ⟨by rw [HX.out] at hne; exact hne, hq⟩⟩
        rw [HX.out]
        exact (HIN1.out.keeps HK4.out (fun hne q hq => by have := HIN1.out.old hne q hq; have := HRL.out; simp; omega)).more (by have := hkk.size; omega)
      · have HX := Lib.hid (kvX_put (l := l) (o := o) (a := a) (b := b) hk7)
        rw [hi2] at HX
        go_enter Try.func13, Try.ntmps13
        go_wp2_with fail
        have HW2 : Keeps [] w ((w.alloc (.cells #[.int .u8 7, .int .u8 o, .int .u8 k, .int .u16 a, .int .u16 b] 27)).alloc (.cells #[.int .u8 0, .int .u16 0] 32)) := HW.out.1
        refine (HAT.out _ HW2).mono ?_; clear HW2; rintro e w1 ⟨rfl, rfl⟩
        rw [hi2]
        obtain ⟨R, hR⟩ : ∃ R, R = w.heap.size := ⟨_, rfl⟩
        have HWW := HW.out
        rw [← hR] at HWW ⊢
        simp only [show (ansC ⟨0, 0⟩).toArray = #[Value.int .u8 0, .int .u16 0] from rfl] at HWW
        generalize (w.alloc (.cells #[.int .u8 7, .int .u8 o, .int .u8 k, .int .u16 a, .int .u16 b] 27)).alloc (.cells #[.int .u8 0, .int .u16 0] 32) = W at *
        have HO := Lib.hid HWW.2.1
        have HA := Lib.hid (show W.heap[R + 1]? = some (.cells (ansC ⟨0, 0⟩).toArray 32 (0, 0)) from HWW.2.2.1)
        have HK := Lib.hid HWW.1
        have HRL := Lib.hid (show w.heap.size ≤ R from Nat.le_of_eq hR.symm)
        have HSZ := Lib.hid (show R + 2 ≤ W.heap.size from Nat.le_of_eq HWW.2.2.2.symm)
        have HIN1 := Lib.hid (HIN.out.new HWW.1 (Nat.le_refl _))
        clear HWW HW hR HAT HIN
        have c0 : W.cell? ⟨R, 0, none⟩ = some (.int .u8 7) := cell_lit HO.out 0 rfl
        have c3 : W.cell? ⟨R, 3, none⟩ = some (.int .u16 a) := cell_lit HO.out 3 rfl
        clear hi hi2 hk7
        go_wp2_with fail
        obtain ⟨S, hS⟩ : ∃ S : World → Prop, S = fun y => Keeps [R + 1] W y := ⟨_, rfl⟩
        have HSE := Lib.hid hS
        have hSD : S W.drew := by rw [hS]; exact (Keeps.refl _ _).drew
        have HC2 := Lib.hid (fun (w' : World) (h : S w') => show w'.cell? ⟨R, 2, none⟩ = some (.int .u8 k) from by rw [hS] at h; exact h.cell (cell_lit HO.out 2 rfl) (by simp))
        have HC3 := Lib.hid (fun (w' : World) (h : S w') => show w'.cell? ⟨R, 3, none⟩ = some (.int .u16 a) from by rw [hS] at h; exact h.cell (cell_lit HO.out 3 rfl) (by simp))
        have HC4 := Lib.hid (fun (w' : World) (h : S w') => show w'.cell? ⟨R, 4, none⟩ = some (.int .u16 b) from by rw [hS] at h; exact h.cell (cell_lit HO.out 4 rfl) (by simp))
        have hd0 : Keeps [] W W.drew := (Keeps.refl _ _).drew
        clear hS
        refine wp_region_noPanic ?_
        refine wp_region_held_drew (S := S) (by kernel_rfl) hSD (fun hHeld => ?_)
        generalize W.drew = Y0 at *
        have HK0 := Lib.hid hd0
        clear hd0
        apply wpAnyH_take (i := 0)
        · simp only [List.getElem?_toArray]; rfl
        · kernel_rfl
        · kernel_rfl
        · kernel_rfl
        · exact fun _ _ _ h => h
        · exact Or.inl ⟨by rfl, by intro w hSw; go_simp; try with_reducible rfl⟩
        · assumption
        try simp only [Act.put, List.setIfInBounds_toArray, List.set_cons_zero, List.set_cons_succ]
        apply wpAnyH_take (i := 1)
        · simp only [List.getElem?_toArray]; rfl
        · kernel_rfl
        · kernel_rfl
        · kernel_rfl
        · exact fun _ _ _ h => h
        · exact Or.inl ⟨by rfl, by intro w hSw; go_simp; try with_reducible rfl⟩
        · assumption
        try simp only [Act.put, List.setIfInBounds_toArray, List.set_cons_zero, List.set_cons_succ]
        apply wpAnyH_take (i := 3)
        · simp only [List.getElem?_toArray]; rfl
        · kernel_rfl
        · kernel_rfl
        · kernel_rfl
        · exact fun _ _ _ h => h
        · exact Or.inl ⟨by rfl, by intro w hSw; go_simp; try with_reducible rfl⟩
        · assumption
        try simp only [Act.put, List.setIfInBounds_toArray, List.set_cons_zero, List.set_cons_succ]
        apply wpAnyH_take (i := 4)
        · simp only [List.getElem?_toArray]; rfl
        · kernel_rfl
        · kernel_rfl
        · kernel_rfl
        · exact fun _ _ _ h => h
        · exact Or.inl ⟨by rfl, by intro w hSw; have q0 := HC2.out w hSw; go_simp; try with_reducible rfl⟩
        · assumption
        try simp only [Act.put, List.setIfInBounds_toArray, List.set_cons_zero, List.set_cons_succ]
        apply wpAnyH_take (i := 5)
        · simp only [List.getElem?_toArray]; rfl
        · kernel_rfl
        · kernel_rfl
        · kernel_rfl
        · exact fun _ _ _ h => h
        · exact Or.inl ⟨by rfl, by intro w hSw; go_simp; try with_reducible rfl⟩
        · assumption
        try simp only [Act.put, List.setIfInBounds_toArray, List.set_cons_zero, List.set_cons_succ]
        apply wpAnyH_take (i := 6)
        · simp only [List.getElem?_toArray]; rfl
        · kernel_rfl
        · kernel_rfl
        · kernel_rfl
        · exact fun _ _ _ h => h
        · exact Or.inl ⟨by rfl, by intro w hSw; have q0 := HC3.out w hSw; go_simp; try with_reducible rfl⟩
        · assumption
        try simp only [Act.put, List.setIfInBounds_toArray, List.set_cons_zero, List.set_cons_succ]
        apply wpAnyH_take (i := 7)
        · simp only [List.getElem?_toArray]; rfl
        · kernel_rfl
        · kernel_rfl
        · kernel_rfl
        · exact fun _ _ _ h => h
        · exact Or.inl ⟨by rfl, by intro w hSw; go_simp; try with_reducible rfl⟩
        · assumption
        try simp only [Act.put, List.setIfInBounds_toArray, List.set_cons_zero, List.set_cons_succ]
        apply wpAnyH_take (i := 10)
        · simp only [List.getElem?_toArray]; rfl
        · kernel_rfl
        · kernel_rfl
        · kernel_rfl
        · exact fun _ _ _ h => h
        · exact Or.inl ⟨by rfl, by intro w hSw; go_simp; try with_reducible rfl⟩
        · assumption
        try simp only [Act.put, List.setIfInBounds_toArray, List.set_cons_zero, List.set_cons_succ]
        apply wpAnyH_ready (rs := [2, 8])
        · kernel_rfl
        · simp
        apply AllReadyH.cons
        · simp only [List.getElem?_toArray]; rfl
        · intro K hK
          rw [if_pos (by rfl)]
          refine wp_call11 33 _ _ rfl [.slice _ n c1, .int .i64 (-1)] rfl Try.func33 (by kernel_rfl) (by kernel_rfl) ((r11without_any Y0 ((HIN1.out.new HK0.out HK.out.size).more (Nat.le_trans HK.out.size HK0.out.size)) (by rw [HN2.out]; exact HL.out) _).mono ?_)
          rintro e Y1 ⟨v2, rfl, ho2, hk2⟩
          refine ⟨_, rfl, ?_⟩
          have HK1 := Lib.hid (HK0.out.trans hk2 (FSub.refl _ _))
          have HO2 := Lib.hid ho2; have HSY := Lib.hid hk2.size
          clear ho2 hk2
          refine hK.out _ _ ?_ (fun hHeld => ?_)
          · rw [HSE.out]; exact HK1.out.more (by simp)
          clear hK K
          try simp only [Act.put, List.setIfInBounds_toArray, List.set_cons_zero, List.set_cons_succ]
          apply wpAnyH_ready (rs := [8])
          · kernel_rfl
          · simp
          apply AllReadyH.cons (hs := AllReadyH.nil)
          · simp only [List.getElem?_toArray]; rfl
          intro K hK
          rw [if_pos (by rfl)]
          refine wp_buildI (y := ⟨k, a⟩) _ rfl rfl ?_
          refine hK.out _ _ ?_ (fun hHeld => ?_)
          · exact (by rw [HSE.out]; exact (HK1.out.alloc _).more (by simp))
          clear hK K
          try simp only [Act.put, List.setIfInBounds_toArray, List.set_cons_zero, List.set_cons_succ]
          obtain ⟨v3, w3, hr3, ho3, hk3, hf3⟩ := rkI.append1 Y1 Y0.heap.size HSY.out v2 _ HO2.out ⟨k, a⟩ (by have := wo_len (-1) 0 l; have := HN2.out; have := HL.out; omega)
          have HR3 := Lib.hid (show (Builtin.append_ #[35, 35] 35 #[v2, .slice (some ⟨Y1.heap.size, 0, none⟩) 1 1]).run Try.prog (Y1.alloc (.cells (itC ⟨k, a⟩).toArray 54)) = .ok v3 w3 from hr3)
          have HK3 := Lib.hid (show Keeps [] W w3 from HK1.out.trans hk3 (fun q hq => .inr (by have := (row_base HO2.out _ hq).1; have := HK0.out.size; omega)))
          have HO3 := Lib.hid (show rkI.Own Y0.heap.size w3 v3 _ from ho3)
          have HB := Lib.hid HK0.out.size
          clear hr3 ho3 hk3 hf3
          apply wpAnyH_ready (rs := [9])
          · kernel_rfl
          · simp
          apply AllReadyH.cons (hs := AllReadyH.nil)
          · simp only [List.getElem?_toArray]; rfl
          intro K hK
          rw [if_pos (by rfl)]
          refine wp_append_run _ _ 35 rfl _ _ _ w3 rfl rfl HR3.out ?_
          refine hK.out _ _ ?_ (fun hHeld => ?_)
          · exact (by rw [HSE.out]; exact HK3.out.more (by simp))
          clear hK K
          try simp only [Act.put, List.setIfInBounds_toArray, List.set_cons_zero, List.set_cons_succ]
          apply wpAnyH_take (i := 11)
          · simp only [List.getElem?_toArray]; rfl
          · kernel_rfl
          · kernel_rfl
          · kernel_rfl
          · exact fun _ _ _ h => h
          · exact Or.inl ⟨by rfl, by intro w hSw; go_simp; try with_reducible rfl⟩
          · assumption
          try simp only [Act.put, List.setIfInBounds_toArray, List.set_cons_zero, List.set_cons_succ]
          have HA3 := Lib.hid (HK3.out.heap HA.out (by simp))
          apply wpAnyH_ready (rs := [12])
          · kernel_rfl
          · simp
          apply AllReadyH.cons (hs := AllReadyH.nil)
          · simp only [List.getElem?_toArray]; rfl
          intro K hK
          rw [if_pos (by rfl)]
          refine wp_store_row 32 _ _ rfl (R + 1) (ansC ⟨0, 0⟩).toArray rfl rfl 32 (ansC ⟨0, 0⟩).toArray HA3.out (by kernel_rfl) rfl (by rw [← Array.all_toList, List.all_eq_true]; exact ansC_one _) ?_
          have hA4 := setRow_heap w3 (R + 1) (ansC ⟨0, 0⟩).toArray (ansC ⟨0, 0⟩).toArray 32 (0, 0) HA3.out
          have hk4 : Keeps [R + 1] w3 (w3.setRow (R + 1) (ansC ⟨0, 0⟩).toArray) := (Keeps.refl _ _).setRow _ _ (.inl (by simp))
          generalize w3.setRow (R + 1) (ansC ⟨0, 0⟩).toArray = W4 at *
          have HA4 := Lib.hid hA4
          have HO4 := Lib.hid (HO3.out.keeps hk4 (fun q hq => by have := (row_base HO3.out q hq).1; have := HSZ.out; have := HB.out; simp; omega))
          have HK5 := Lib.hid ((HK3.out.more (by simp)).trans hk4 (FSub.refl _ _))
          clear hA4 hk4
          refine hK.out _ _ ?_ (fun hHeld => ?_)
          · exact (by rw [HSE.out]; exact HK5.out)
          clear hK K
          try simp only [Act.put, List.setIfInBounds_toArray, List.set_cons_zero, List.set_cons_succ]
          apply wpAnyH_take (i := 13)
          · simp only [List.getElem?_toArray]; rfl
          · kernel_rfl
          · kernel_rfl
          · kernel_rfl
          · exact fun _ _ _ h => h
          · exact Or.inl ⟨by rfl, by intro w hSw; go_simp; try with_reducible rfl⟩
          · assumption
          try simp only [Act.put, List.setIfInBounds_toArray, List.set_cons_zero, List.set_cons_succ]
          refine wpAnyH_done (by kernel_rfl) ?_ _
          refine NoPanic.normal ?_
          go_wp2_with fail
          try simp only [Exit.inBlock, Exit.then]
          refine bodyPost_ret (results_ans rfl _ _ _ ⟨0, 0⟩ rfl HA4.out) rfl ⟨_, by rw [HX.out]; rfl, ?_, HK.out.trans HK5.out (fun q hq => .inr (by simp at hq; have := HRL.out; omega)), fun _ q hq => .inr (by have := (row_base HO4.out q hq).1; have := HK.out.size; have := HB.out; omega)⟩
          rw [HX.out]
          exact HO4.out.in_
        apply AllReadyH.cons (hs := AllReadyH.nil)
        · simp only [List.getElem?_toArray]; rfl
        intro K hK
        rw [if_pos (by rfl)]
        refine wp_buildI (y := ⟨k, a⟩) _ rfl rfl ?_
        have HKA := Lib.hid (HK0.out.alloc (.cells (itC ⟨k, a⟩).toArray 54))
        have hrI : rkI.In (Y0.heap.size + 1) (Y0.alloc (.cells (itC ⟨k, a⟩).toArray 54)) (.slice (some ⟨Y0.heap.size, 0, none⟩) 1 1) [⟨k, a⟩] := It.fresh Y0 _
        have hsA : (Y0.alloc (.cells (itC ⟨k, a⟩).toArray 54)).heap.size = Y0.heap.size + 1 := Array.size_push _
        rw [show (some (⟨Y0.heap.size, 0, none⟩ : Addr)) = some ⟨Y0.heap.size, 0, none⟩ from rfl]
        generalize Y0.alloc (.cells (itC ⟨k, a⟩).toArray 54) = YA at *
        have HRI := Lib.hid hrI; have HSA := Lib.hid hsA
        clear hrI hsA
        refine hK.out _ _ ?_ (fun hHeld => ?_)
        · exact (by rw [HSE.out]; exact HKA.out.more (by simp))
        clear hK K
        try simp only [Act.put, List.setIfInBounds_toArray, List.set_cons_zero, List.set_cons_succ]
        apply wpAnyH_ready (rs := [2])
        · kernel_rfl
        · simp
        apply AllReadyH.cons (hs := AllReadyH.nil)
        · simp only [List.getElem?_toArray]; rfl
        intro K hK
        rw [if_pos (by rfl)]
        refine wp_call11 33 _ _ rfl [.slice _ n c1, .int .i64 (-1)] rfl Try.func33 (by kernel_rfl) (by kernel_rfl) ((r11without_any YA ((HIN1.out.new HKA.out HK.out.size).more (Nat.le_trans HK.out.size HKA.out.size)) (by rw [HN2.out]; exact HL.out) _).mono ?_)
        rintro e Y1 ⟨v2, rfl, ho2, hk2⟩
        refine ⟨_, rfl, ?_⟩
        have HK1 := Lib.hid (HKA.out.trans hk2 (FSub.refl _ _))
        have HO2 := Lib.hid ho2; have HSY := Lib.hid hk2.size
        have HRI2 := Lib.hid (HRI.out.new hk2 (by have := HSA.out; omega))
        clear ho2 hk2
        refine hK.out _ _ ?_ (fun hHeld => ?_)
        · exact (by rw [HSE.out]; exact HK1.out.more (by simp))
        clear hK K
        try simp only [Act.put, List.setIfInBounds_toArray, List.set_cons_zero, List.set_cons_succ]
        obtain ⟨v3, w3, hr3, ho3, hk3, hf3⟩ := rkI.appendIn Y1 YA.heap.size HSY.out v2 _ HO2.out HRI2.out (by have := wo_len (-1) 0 l; have := HN2.out; have := HL.out; simp; omega)
        have HR3 := Lib.hid (show (Builtin.append_ #[35, 35] 35 #[v2, .slice (some ⟨Y0.heap.size, 0, none⟩) 1 1]).run Try.prog Y1 = .ok v3 w3 from hr3)
        have HK3 := Lib.hid (show Keeps [] W w3 from HK1.out.trans hk3 (fun q hq => .inr (by have := (row_base HO2.out _ hq).1; have := HKA.out.size; omega)))
        have HO3 := Lib.hid (show rkI.Own YA.heap.size w3 v3 _ from ho3)
        have HB := Lib.hid HKA.out.size
        clear hr3 ho3 hk3 hf3
        apply wpAnyH_ready (rs := [9])
        · kernel_rfl
        · simp
        apply AllReadyH.cons (hs := AllReadyH.nil)
        · simp only [List.getElem?_toArray]; rfl
        intro K hK
        rw [if_pos (by rfl)]
        refine wp_append_run _ _ 35 rfl _ _ _ w3 rfl rfl HR3.out ?_
        refine hK.out _ _ ?_ (fun hHeld => ?_)
        · exact (by rw [HSE.out]; exact HK3.out.more (by simp))
        clear hK K
        try simp only [Act.put, List.setIfInBounds_toArray, List.set_cons_zero, List.set_cons_succ]
        apply wpAnyH_take (i := 11)
        · simp only [List.getElem?_toArray]; rfl
        · kernel_rfl
        · kernel_rfl
        · kernel_rfl
        · exact fun _ _ _ h => h
        · exact Or.inl ⟨by rfl, by intro w hSw; go_simp; try with_reducible rfl⟩
        · assumption
        try simp only [Act.put, List.setIfInBounds_toArray, List.set_cons_zero, List.set_cons_succ]
        have HA3 := Lib.hid (HK3.out.heap HA.out (by simp))
        apply wpAnyH_ready (rs := [12])
        · kernel_rfl
        · simp
        apply AllReadyH.cons (hs := AllReadyH.nil)
        · simp only [List.getElem?_toArray]; rfl
        intro K hK
        rw [if_pos (by rfl)]
        refine wp_store_row 32 _ _ rfl (R + 1) (ansC ⟨0, 0⟩).toArray rfl rfl 32 (ansC ⟨0, 0⟩).toArray HA3.out (by kernel_rfl) rfl (by rw [← Array.all_toList, List.all_eq_true]; exact ansC_one _) ?_
        have hA4 := setRow_heap w3 (R + 1) (ansC ⟨0, 0⟩).toArray (ansC ⟨0, 0⟩).toArray 32 (0, 0) HA3.out
        have hk4 : Keeps [R + 1] w3 (w3.setRow (R + 1) (ansC ⟨0, 0⟩).toArray) := (Keeps.refl _ _).setRow _ _ (.inl (by simp))
        generalize w3.setRow (R + 1) (ansC ⟨0, 0⟩).toArray = W4 at *
        have HA4 := Lib.hid hA4
        have HO4 := Lib.hid (HO3.out.keeps hk4 (fun q hq => by have := (row_base HO3.out q hq).1; have := HSZ.out; have := HB.out; simp; omega))
        have HK5 := Lib.hid ((HK3.out.more (by simp)).trans hk4 (FSub.refl _ _))
        clear hA4 hk4
        refine hK.out _ _ ?_ (fun hHeld => ?_)
        · exact (by rw [HSE.out]; exact HK5.out)
        clear hK K
        try simp only [Act.put, List.setIfInBounds_toArray, List.set_cons_zero, List.set_cons_succ]
        apply wpAnyH_take (i := 13)
        · simp only [List.getElem?_toArray]; rfl
        · kernel_rfl
        · kernel_rfl
        · kernel_rfl
        · exact fun _ _ _ h => h
        · exact Or.inl ⟨by rfl, by intro w hSw; go_simp; try with_reducible rfl⟩
        · assumption
        try simp only [Act.put, List.setIfInBounds_toArray, List.set_cons_zero, List.set_cons_succ]
        refine wpAnyH_done (by kernel_rfl) ?_ _
        refine NoPanic.normal ?_
        go_wp2_with fail
        try simp only [Exit.inBlock, Exit.then]
        refine bodyPost_ret (results_ans rfl _ _ _ ⟨0, 0⟩ rfl HA4.out) rfl ⟨_, by rw [HX.out]; rfl, ?_, HK.out.trans HK5.out (fun q hq => .inr (by simp at hq; have := HRL.out; omega)), fun _ q hq => .inr (by have := (row_base HO4.out q hq).1; have := HK.out.size; have := HB.out; omega)⟩
        rw [HX.out]
        exact HO4.out.in_
      · have HX := Lib.hid (kvX_del0 (o := o) (a := a) (b := b) hk7 hi)
        go_enter Try.func13, Try.ntmps13
        go_wp2_with fail
        have HW2 : Keeps [] w ((w.alloc (.cells #[.int .u8 8, .int .u8 o, .int .u8 k, .int .u16 a, .int .u16 b] 27)).alloc (.cells #[.int .u8 0, .int .u16 0] 32)) := HW.out.1
        refine (HAT.out _ HW2).mono ?_; clear HW2; rintro e w1 ⟨rfl, rfl⟩
        rw [hi2]
        obtain ⟨R, hR⟩ : ∃ R, R = w.heap.size := ⟨_, rfl⟩
        have HWW := HW.out
        rw [← hR] at HWW ⊢
        simp only [show (ansC ⟨0, 0⟩).toArray = #[Value.int .u8 0, .int .u16 0] from rfl] at HWW
        generalize (w.alloc (.cells #[.int .u8 8, .int .u8 o, .int .u8 k, .int .u16 a, .int .u16 b] 27)).alloc (.cells #[.int .u8 0, .int .u16 0] 32) = W at *
        have HO := Lib.hid HWW.2.1
        have HA := Lib.hid (show W.heap[R + 1]? = some (.cells (ansC ⟨0, 0⟩).toArray 32 (0, 0)) from HWW.2.2.1)
        have HK := Lib.hid HWW.1
        have HRL := Lib.hid (show w.heap.size ≤ R from Nat.le_of_eq hR.symm)
        have HSZ := Lib.hid (show R + 2 ≤ W.heap.size from Nat.le_of_eq HWW.2.2.2.symm)
        have HIN1 := Lib.hid (HIN.out.new HWW.1 (Nat.le_refl _))
        clear HWW HW hR HAT HIN
        have c0 : W.cell? ⟨R, 0, none⟩ = some (.int .u8 8) := cell_lit HO.out 0 rfl
        have c3 : W.cell? ⟨R, 3, none⟩ = some (.int .u16 a) := cell_lit HO.out 3 rfl
        clear hi hi2 hk7
        go_wp2_with ((with_reducible refine wpList_putN (g := R + 1) (old := ⟨0, 0⟩) ⟨4, 0⟩ ?_ ?_ HA.out ?_); exact rfl; exact rfl)
        intro W4 hA4 hk4
        have HA4 := Lib.hid hA4; have HK4 := Lib.hid hk4
        clear hA4 hk4
        go_wp2_with fail
        try simp only [Exit.inBlock, Exit.then]
        have hkk : Keeps [] w W4 := HK.out.trans HK4.out (fun q hq => .inr (by simp at hq; have := HRL.out; omega))
        refine bodyPost_ret (results_ans rfl _ _ _ ⟨4, 0⟩ rfl HA4.out) rfl ⟨_, by rw [HX.out]; rfl, ?_, hkk, fun hne q hq => .inl ⟨by rw [HX.out] at hne; exact hne, hq⟩⟩
        rw [HX.out]
        exact (HIN1.out.keeps HK4.out (fun hne q hq => by have := HIN1.out.old hne q hq; have := HRL.out; simp; omega)).more (by have := hkk.size; omega)
      · have HX := Lib.hid (kvX_cas0 (o := o) (a := a) (b := b) hk7 hi)
        go_enter Try.func13, Try.ntmps13
        go_wp2_with fail
        have HW2 : Keeps [] w ((w.alloc (.cells #[.int .u8 9, .int .u8 o, .int .u8 k, .int .u16 a, .int .u16 b] 27)).alloc (.cells #[.int .u8 0, .int .u16 0] 32)) := HW.out.1
        refine (HAT.out _ HW2).mono ?_; clear HW2; rintro e w1 ⟨rfl, rfl⟩
        rw [hi2]
        obtain ⟨R, hR⟩ : ∃ R, R = w.heap.size := ⟨_, rfl⟩
        have HWW := HW.out
        rw [← hR] at HWW ⊢
        simp only [show (ansC ⟨0, 0⟩).toArray = #[Value.int .u8 0, .int .u16 0] from rfl] at HWW
        generalize (w.alloc (.cells #[.int .u8 9, .int .u8 o, .int .u8 k, .int .u16 a, .int .u16 b] 27)).alloc (.cells #[.int .u8 0, .int .u16 0] 32) = W at *
        have HO := Lib.hid HWW.2.1
        have HA := Lib.hid (show W.heap[R + 1]? = some (.cells (ansC ⟨0, 0⟩).toArray 32 (0, 0)) from HWW.2.2.1)
        have HK := Lib.hid HWW.1
        have HRL := Lib.hid (show w.heap.size ≤ R from Nat.le_of_eq hR.symm)
        have HSZ := Lib.hid (show R + 2 ≤ W.heap.size from Nat.le_of_eq HWW.2.2.2.symm)
        have HIN1 := Lib.hid (HIN.out.new HWW.1 (Nat.le_refl _))
        clear HWW HW hR HAT HIN
        have c0 : W.cell? ⟨R, 0, none⟩ = some (.int .u8 9) := cell_lit HO.out 0 rfl
        have c3 : W.cell? ⟨R, 3, none⟩ = some (.int .u16 a) := cell_lit HO.out 3 rfl
        clear hi hi2 hk7
        go_wp2_with fail
        go_quiet (fail)
        have hd : Keeps [R + 1] W (W.drewN nq) := (Keeps.refl _ _).drewN _
        have HAq := Lib.hid (show (W.drewN nq).heap[R + 1]? = _ from HA.out)
        go_wp2_with ((with_reducible refine wpList_putN (g := R + 1) (old := ⟨0, 0⟩) ⟨4, 0⟩ ?_ ?_ HAq.out ?_); exact rfl; exact rfl)
        intro W4 hA4 hk4
        have HA4 := Lib.hid hA4; have HK4 := Lib.hid (hd.trans hk4 (FSub.refl _ _))
        clear hA4 hk4 hd HAq
        go_wp2_with fail
        try simp only [Exit.inBlock, Exit.then]
        have hkk : Keeps [] w W4 := HK.out.trans HK4.out (fun q hq => .inr (by simp at hq; have := HRL.out; omega))
        refine bodyPost_ret (results_ans rfl _ _ _ ⟨4, 0⟩ rfl HA4.out) rfl ⟨_, by rw [HX.out]; rfl, ?_, hkk, fun hne q hq => .inl ⟨by rw [HX.out] at hne; exact hne, hq⟩⟩
        rw [HX.out]
        exact (HIN1.out.keeps HK4.out (fun hne q hq => by have := HIN1.out.old hne q hq; have := HRL.out; simp; omega)).more (by have := hkk.size; omega)
    | some i =>
      have hi2 : idxI (itIdx k l) = i := by rw [hi]; rfl
      obtain ⟨hil, hik⟩ := itIdx_some hi
      have hin : i < n := by have := HN2.out; omega
      have hgd : l.getD i ⟨0, 0⟩ = l[i] := by simp [List.getD, hil]
      obtain ⟨bk, of, rfl, hbk, hrow⟩ := It.at (by have h := HIN.out; rw [← HN2.out] at h; exact h) hil
      have HM := Lib.hid (it_cells hrow).2
      have HBK := Lib.hid hbk
      have tn : (decide ((i : Int) < 0)) = false := by simp
      rw [← hgd] at hik HM
      obtain ⟨V, hV⟩ : ∃ V, V = (l.getD i ⟨0, 0⟩).v := ⟨_, rfl⟩
      rw [← hV] at HM
      clear hrow hbk hgd hik
      rcases hf with rfl | rfl | rfl | rfl
      · have HX := Lib.hid (kvX_get1 (o := o) (a := a) (b := b) hk7 hi)
        rw [← hV] at HX
        go_enter Try.func13, Try.ntmps13
        go_wp2_with fail
        have HW2 : Keeps [] w ((w.alloc (.cells #[.int .u8 6, .int .u8 o, .int .u8 k, .int .u16 a, .int .u16 b] 27)).alloc (.cells #[.int .u8 0, .int .u16 0] 32)) := HW.out.1
        refine (HAT.out _ HW2).mono ?_; clear HW2; rintro e w1 ⟨rfl, rfl⟩
        rw [hi2]
        obtain ⟨R, hR⟩ : ∃ R, R = w.heap.size := ⟨_, rfl⟩
        have HWW := HW.out
        rw [← hR] at HWW ⊢
        simp only [show (ansC ⟨0, 0⟩).toArray = #[Value.int .u8 0, .int .u16 0] from rfl] at HWW
        generalize (w.alloc (.cells #[.int .u8 6, .int .u8 o, .int .u8 k, .int .u16 a, .int .u16 b] 27)).alloc (.cells #[.int .u8 0, .int .u16 0] 32) = W at *
        have HO := Lib.hid HWW.2.1
        have HA := Lib.hid (show W.heap[R + 1]? = some (.cells (ansC ⟨0, 0⟩).toArray 32 (0, 0)) from HWW.2.2.1)
        have HK := Lib.hid HWW.1
        have HRL := Lib.hid (show w.heap.size ≤ R from Nat.le_of_eq hR.symm)
        have HSZ := Lib.hid (show R + 2 ≤ W.heap.size from Nat.le_of_eq HWW.2.2.2.symm)
        have HIN1 := Lib.hid (HIN.out.new HWW.1 (Nat.le_refl _))
        clear HWW HW hR HAT HIN
        have c0 : W.cell? ⟨R, 0, none⟩ = some (.int .u8 6) := cell_lit HO.out 0 rfl
        have c3 : W.cell? ⟨R, 3, none⟩ = some (.int .u16 a) := cell_lit HO.out 3 rfl
        have m1 := HK.out.cell HM.out (by simp)
        clear hi hi2 hk7 hV
        go_wp2_with fail
        obtain ⟨S, hS⟩ : ∃ S : World → Prop, S = fun y => Keeps [R + 1] W y := ⟨_, rfl⟩
        have HSE := Lib.hid hS
        have hSD : S W.drew := by rw [hS]; exact (Keeps.refl _ _).drew
        have HS0 := Lib.hid (fun (w' : World) (h : S w') => show w'.cell? ⟨bk, of + i * 2 + 1, none⟩ = some (.int .u16 V) from by rw [hS] at h; exact h.cell m1 (by simp; have := HRL.out; have := HBK.out; omega))
        clear hS
        refine wp_region_noPanic ?_
        refine wp_region_held_drew (S := S) (by kernel_rfl) hSD (fun hHeld => ?_)
        apply wpAnyH_take (i := 0)
        · simp only [List.getElem?_toArray]; rfl
        · kernel_rfl
        · kernel_rfl
        · kernel_rfl
        · exact fun _ _ _ h => h
        · exact Or.inl ⟨by rfl, by intro w hSw; go_simp; try with_reducible rfl⟩
        · assumption
        try simp only [Act.put, List.setIfInBounds_toArray, List.set_cons_zero, List.set_cons_succ]
        apply wpAnyH_take (i := 1)
        · simp only [List.getElem?_toArray]; rfl
        · kernel_rfl
        · kernel_rfl
        · kernel_rfl
        · exact fun _ _ _ h => h
        · exact Or.inl ⟨by rfl, by intro w hSw; go_simp; try with_reducible rfl⟩
        · assumption
        try simp only [Act.put, List.setIfInBounds_toArray, List.set_cons_zero, List.set_cons_succ]
        apply wpAnyH_take (i := 2)
        · simp only [List.getElem?_toArray]; rfl
        · kernel_rfl
        · kernel_rfl
        · kernel_rfl
        · exact fun _ _ _ h => h
        · exact Or.inl ⟨by rfl, by intro w hSw; go_simp; try with_reducible rfl⟩
        · assumption
        try simp only [Act.put, List.setIfInBounds_toArray, List.set_cons_zero, List.set_cons_succ]
        apply wpAnyH_take (i := 3)
        · simp only [List.getElem?_toArray]; rfl
        · kernel_rfl
        · kernel_rfl
        · kernel_rfl
        · exact fun _ _ _ h => h
        · exact Or.inl ⟨by rfl, by intro w hSw; go_simp; try with_reducible rfl⟩
        · assumption
        try simp only [Act.put, List.setIfInBounds_toArray, List.set_cons_zero, List.set_cons_succ]
        apply wpAnyH_take (i := 4)
        · simp only [List.getElem?_toArray]; rfl
        · kernel_rfl
        · kernel_rfl
        · kernel_rfl
        · exact fun _ _ _ h => h
        · exact Or.inl ⟨by rfl, by intro w hSw; go_simp; try with_reducible rfl⟩
        · assumption
        try simp only [Act.put, List.setIfInBounds_toArray, List.set_cons_zero, List.set_cons_succ]
        apply wpAnyH_take (i := 5)
        · simp only [List.getElem?_toArray]; rfl
        · kernel_rfl
        · kernel_rfl
        · kernel_rfl
        · exact fun _ _ _ h => h
        · exact Or.inl ⟨by rfl, by intro w hSw; have q0 := HS0.out w hSw; go_simp; try with_reducible rfl⟩
        · assumption
        try simp only [Act.put, List.setIfInBounds_toArray, List.set_cons_zero, List.set_cons_succ]
        apply wpAnyH_take (i := 6)
        · simp only [List.getElem?_toArray]; rfl
        · kernel_rfl
        · kernel_rfl
        · kernel_rfl
        · exact fun _ _ _ h => h
        · exact Or.inl ⟨by rfl, by intro w hSw; go_simp; try with_reducible rfl⟩
        · assumption
        try simp only [Act.put, List.setIfInBounds_toArray, List.set_cons_zero, List.set_cons_succ]
        apply wpAnyH_take (i := 7)
        · simp only [List.getElem?_toArray]; rfl
        · kernel_rfl
        · kernel_rfl
        · kernel_rfl
        · exact fun _ _ _ h => h
        · exact Or.inl ⟨by rfl, by intro w hSw; go_simp; try with_reducible rfl⟩
        · assumption
        try simp only [Act.put, List.setIfInBounds_toArray, List.set_cons_zero, List.set_cons_succ]
        apply wpAnyH_ready (rs := [8])
        · kernel_rfl
        · simp
        apply AllReadyH.cons (hs := AllReadyH.nil)
        · simp only [List.getElem?_toArray]; rfl
        intro K hK
        rw [if_pos (by rfl)]
        refine wp_store_row 32 _ _ rfl (R + 1) (ansC ⟨1, V⟩).toArray rfl rfl 32 (ansC ⟨0, 0⟩).toArray (((Keeps.refl [] W).drew).heap HA.out (by simp)) (by kernel_rfl) rfl (by rw [← Array.all_toList, List.all_eq_true]; exact ansC_one _) ?_
        have hA4 := setRow_heap W.drew (R + 1) (ansC ⟨0, 0⟩).toArray (ansC ⟨1, V⟩).toArray 32 (0, 0) (((Keeps.refl [] W).drew).heap HA.out (by simp))
        have hk4 : Keeps [R + 1] W (W.drew.setRow (R + 1) (ansC ⟨1, V⟩).toArray) := ((Keeps.refl _ _).drew).setRow _ _ (.inl (by simp))
        generalize W.drew.setRow (R + 1) (ansC ⟨1, V⟩).toArray = W4 at *
        have HA4 := Lib.hid hA4; have HK4 := Lib.hid hk4
        clear hA4 hk4
        refine hK.out _ _ ?_ (fun hHeld => ?_)
        · exact (by rw [HSE.out]; exact HK4.out)
        clear hK K
        try simp only [Act.put, List.setIfInBounds_toArray, List.set_cons_zero, List.set_cons_succ]
        apply wpAnyH_take (i := 9)
        · simp only [List.getElem?_toArray]; rfl
        · kernel_rfl
        · kernel_rfl
        · kernel_rfl
        · exact fun _ _ _ h => h
        · exact Or.inl ⟨by rfl, by intro w hSw; go_simp; try with_reducible rfl⟩
        · assumption
        try simp only [Act.put, List.setIfInBounds_toArray, List.set_cons_zero, List.set_cons_succ]
        refine wpAnyH_done (by kernel_rfl) ?_ _
        refine NoPanic.normal ?_
        go_wp2_with fail
        try simp only [Exit.inBlock, Exit.then]
        have hkk : Keeps [] w W4 := HK.out.trans HK4.out (fun q hq => .inr (by simp at hq; have := HRL.out; omega))
        refine bodyPost_ret (results_ans rfl _ _ _ ⟨1, V⟩ rfl HA4.out) rfl ⟨_, by rw [HX.out]; rfl, ?_, hkk, fun hne q hq => .inl ⟨by rw [HX.out] at hne; exact hne, hq⟩⟩
        rw [HX.out]
        exact (HIN1.out.keeps HK4.out (fun hne q hq => by have := HIN1.out.old hne q hq; have := HRL.out; simp; omega)).more (by have := hkk.size; omega)
      · have HX := Lib.hid (kvX_put (l := l) (o := o) (a := a) (b := b) hk7)
        rw [hi2] at HX
        go_enter Try.func13, Try.ntmps13
        go_wp2_with fail
        have HW2 : Keeps [] w ((w.alloc (.cells #[.int .u8 7, .int .u8 o, .int .u8 k, .int .u16 a, .int .u16 b] 27)).alloc (.cells #[.int .u8 0, .int .u16 0] 32)) := HW.out.1
        refine (HAT.out _ HW2).mono ?_; clear HW2; rintro e w1 ⟨rfl, rfl⟩
        rw [hi2]
        obtain ⟨R, hR⟩ : ∃ R, R = w.heap.size := ⟨_, rfl⟩
        have HWW := HW.out
        rw [← hR] at HWW ⊢
        simp only [show (ansC ⟨0, 0⟩).toArray = #[Value.int .u8 0, .int .u16 0] from rfl] at HWW
        generalize (w.alloc (.cells #[.int .u8 7, .int .u8 o, .int .u8 k, .int .u16 a, .int .u16 b] 27)).alloc (.cells #[.int .u8 0, .int .u16 0] 32) = W at *
        have HO := Lib.hid HWW.2.1
        have HA := Lib.hid (show W.heap[R + 1]? = some (.cells (ansC ⟨0, 0⟩).toArray 32 (0, 0)) from HWW.2.2.1)
        have HK := Lib.hid HWW.1
        have HRL := Lib.hid (show w.heap.size ≤ R from Nat.le_of_eq hR.symm)
        have HSZ := Lib.hid (show R + 2 ≤ W.heap.size from Nat.le_of_eq HWW.2.2.2.symm)
        have HIN1 := Lib.hid (HIN.out.new HWW.1 (Nat.le_refl _))
        clear HWW HW hR HAT HIN
        have c0 : W.cell? ⟨R, 0, none⟩ = some (.int .u8 7) := cell_lit HO.out 0 rfl
        have c3 : W.cell? ⟨R, 3, none⟩ = some (.int .u16 a) := cell_lit HO.out 3 rfl
        clear hi hi2 hk7 hV
        go_wp2_with fail
        obtain ⟨S, hS⟩ : ∃ S : World → Prop, S = fun y => Keeps [R + 1] W y := ⟨_, rfl⟩
        have HSE := Lib.hid hS
        have hSD : S W.drew := by rw [hS]; exact (Keeps.refl _ _).drew
        have HC2 := Lib.hid (fun (w' : World) (h : S w') => show w'.cell? ⟨R, 2, none⟩ = some (.int .u8 k) from by rw [hS] at h; exact h.cell (cell_lit HO.out 2 rfl) (by simp))
        have HC3 := Lib.hid (fun (w' : World) (h : S w') => show w'.cell? ⟨R, 3, none⟩ = some (.int .u16 a) from by rw [hS] at h; exact h.cell (cell_lit HO.out 3 rfl) (by simp))
        have HC4 := Lib.hid (fun (w' : World) (h : S w') => show w'.cell? ⟨R, 4, none⟩ = some (.int .u16 b) from by rw [hS] at h; exact h.cell (cell_lit HO.out 4 rfl) (by simp))
        have hd0 : Keeps [] W W.drew := (Keeps.refl _ _).drew
        clear hS
        refine wp_region_noPanic ?_
        refine wp_region_held_drew (S := S) (by kernel_rfl) hSD (fun hHeld => ?_)
        generalize W.drew = Y0 at *
        have HK0 := Lib.hid hd0
        clear hd0
        apply wpAnyH_take (i := 0)
        · simp only [List.getElem?_toArray]; rfl
        · kernel_rfl
        · kernel_rfl
        · kernel_rfl
        · exact fun _ _ _ h => h
        · exact Or.inl ⟨by rfl, by intro w hSw; go_simp; try with_reducible rfl⟩
        · assumption
        try simp only [Act.put, List.setIfInBounds_toArray, List.set_cons_zero, List.set_cons_succ]
        apply wpAnyH_take (i := 1)
        · simp only [List.getElem?_toArray]; rfl
        · kernel_rfl
        · kernel_rfl
        · kernel_rfl
        · exact fun _ _ _ h => h
        · exact Or.inl ⟨by rfl, by intro w hSw; go_simp; try with_reducible rfl⟩
        · assumption
        try simp only [Act.put, List.setIfInBounds_toArray, List.set_cons_zero, List.set_cons_succ]
        apply wpAnyH_take (i := 3)
        · simp only [List.getElem?_toArray]; rfl
        · kernel_rfl
        · kernel_rfl
        · kernel_rfl
        · exact fun _ _ _ h => h
        · exact Or.inl ⟨by rfl, by intro w hSw; go_simp; try with_reducible rfl⟩
        · assumption
        try simp only [Act.put, List.setIfInBounds_toArray, List.set_cons_zero, List.set_cons_succ]
        apply wpAnyH_take (i := 4)
        · simp only [List.getElem?_toArray]; rfl
        · kernel_rfl
        · kernel_rfl
        · kernel_rfl
        · exact fun _ _ _ h => h
        · exact Or.inl ⟨by rfl, by intro w hSw; have q0 := HC2.out w hSw; go_simp; try with_reducible rfl⟩
        · assumption
        try simp only [Act.put, List.setIfInBounds_toArray, List.set_cons_zero, List.set_cons_succ]
        apply wpAnyH_take (i := 5)
        · simp only [List.getElem?_toArray]; rfl
        · kernel_rfl
        · kernel_rfl
        · kernel_rfl
        · exact fun _ _ _ h => h
        · exact Or.inl ⟨by rfl, by intro w hSw; go_simp; try with_reducible rfl⟩
        · assumption
        try simp only [Act.put, List.setIfInBounds_toArray, List.set_cons_zero, List.set_cons_succ]
        apply wpAnyH_take (i := 6)
        · simp only [List.getElem?_toArray]; rfl
        · kernel_rfl
        · kernel_rfl
        · kernel_rfl
        · exact fun _ _ _ h => h
        · exact Or.inl ⟨by rfl, by intro w hSw; have q0 := HC3.out w hSw; go_simp; try with_reducible rfl⟩
        · assumption
        try simp only [Act.put, List.setIfInBounds_toArray, List.set_cons_zero, List.set_cons_succ]
        apply wpAnyH_take (i := 7)
        · simp only [List.getElem?_toArray]; rfl
        · kernel_rfl
        · kernel_rfl
        · kernel_rfl
        · exact fun _ _ _ h => h
        · exact Or.inl ⟨by rfl, by intro w hSw; go_simp; try with_reducible rfl⟩
        · assumption
        try simp only [Act.put, List.setIfInBounds_toArray, List.set_cons_zero, List.set_cons_succ]
        apply wpAnyH_take (i := 10)
        · simp only [List.getElem?_toArray]; rfl
        · kernel_rfl
        · kernel_rfl
        · kernel_rfl
        · exact fun _ _ _ h => h
        · exact Or.inl ⟨by rfl, by intro w hSw; go_simp; try with_reducible rfl⟩
        · assumption
        try simp only [Act.put, List.setIfInBounds_toArray, List.set_cons_zero, List.set_cons_succ]
        apply wpAnyH_ready (rs := [2, 8])
        · kernel_rfl
        · simp
        apply AllReadyH.cons
        · simp only [List.getElem?_toArray]; rfl
        · intro K hK
          rw [if_pos (by rfl)]
          refine wp_call11 33 _ _ rfl [.slice _ n c1, .int .i64 i] rfl Try.func33 (by kernel_rfl) (by kernel_rfl) ((r11without_any Y0 ((HIN1.out.new HK0.out HK.out.size).more (Nat.le_trans HK.out.size HK0.out.size)) (by rw [HN2.out]; exact HL.out) _).mono ?_)
          rintro e Y1 ⟨v2, rfl, ho2, hk2⟩
          refine ⟨_, rfl, ?_⟩
          have HK1 := Lib.hid (HK0.out.trans hk2 (FSub.refl _ _))
          have HO2 := Lib.hid ho2; have HSY := Lib.hid hk2.size
          clear ho2 hk2
          refine hK.out _ _ ?_ (fun hHeld => ?_)
          · rw [HSE.out]; exact HK1.out.more (by simp)
          clear hK K
          try simp only [Act.put, List.setIfInBounds_toArray, List.set_cons_zero, List.set_cons_succ]
          apply wpAnyH_ready (rs := [8])
          · kernel_rfl
          · simp
          apply AllReadyH.cons (hs := AllReadyH.nil)
          · simp only [List.getElem?_toArray]; rfl
          intro K hK
          rw [if_pos (by rfl)]
          refine wp_buildI (y := ⟨k, a⟩) _ rfl rfl ?_
          refine hK.out _ _ ?_ (fun hHeld => ?_)
          · exact (by rw [HSE.out]; exact (HK1.out.alloc _).more (by simp))
          clear hK K
          try simp only [Act.put, List.setIfInBounds_toArray, List.set_cons_zero, List.set_cons_succ]
          obtain ⟨v3, w3, hr3, ho3, hk3, hf3⟩ := rkI.append1 Y1 Y0.heap.size HSY.out v2 _ HO2.out ⟨k, a⟩ (by have := wo_len i 0 l; have := HN2.out; have := HL.out; omega)
          have HR3 := Lib.hid (show (Builtin.append_ #[35, 35] 35 #[v2, .slice (some ⟨Y1.heap.size, 0, none⟩) 1 1]).run Try.prog (Y1.alloc (.cells (itC ⟨k, a⟩).toArray 54)) = .ok v3 w3 from hr3)
          have HK3 := Lib.hid (show Keeps [] W w3 from HK1.out.trans hk3 (fun q hq => .inr (by have := (row_base HO2.out _ hq).1; have := HK0.out.size; omega)))
          have HO3 := Lib.hid (show rkI.Own Y0.heap.size w3 v3 _ from ho3)
          have HB := Lib.hid HK0.out.size
          clear hr3 ho3 hk3 hf3
          apply wpAnyH_ready (rs := [9])
          · kernel_rfl
          · simp
          apply AllReadyH.cons (hs := AllReadyH.nil)
          · simp only [List.getElem?_toArray]; rfl
          intro K hK
          rw [if_pos (by rfl)]
          refine wp_append_run _ _ 35 rfl _ _ _ w3 rfl rfl HR3.out ?_
          refine hK.out _ _ ?_ (fun hHeld => ?_)
          · exact (by rw [HSE.out]; exact HK3.out.more (by simp))
          clear hK K
          try simp only [Act.put, List.setIfInBounds_toArray, List.set_cons_zero, List.set_cons_succ]
          apply wpAnyH_take (i := 11)
          · simp only [List.getElem?_toArray]; rfl
          · kernel_rfl
          · kernel_rfl
          · kernel_rfl
          · exact fun _ _ _ h => h
          · exact Or.inl ⟨by rfl, by intro w hSw; go_simp; try with_reducible rfl⟩
          · assumption
          try simp only [Act.put, List.setIfInBounds_toArray, List.set_cons_zero, List.set_cons_succ]
          have HA3 := Lib.hid (HK3.out.heap HA.out (by simp))
          apply wpAnyH_ready (rs := [12])
          · kernel_rfl
          · simp
          apply AllReadyH.cons (hs := AllReadyH.nil)
          · simp only [List.getElem?_toArray]; rfl
          intro K hK
          rw [if_pos (by rfl)]
          refine wp_store_row 32 _ _ rfl (R + 1) (ansC ⟨0, 0⟩).toArray rfl rfl 32 (ansC ⟨0, 0⟩).toArray HA3.out (by kernel_rfl) rfl (by rw [← Array.all_toList, List.all_eq_true]; exact ansC_one _) ?_
          have hA4 := setRow_heap w3 (R + 1) (ansC ⟨0, 0⟩).toArray (ansC ⟨0, 0⟩).toArray 32 (0, 0) HA3.out
          have hk4 : Keeps [R + 1] w3 (w3.setRow (R + 1) (ansC ⟨0, 0⟩).toArray) := (Keeps.refl _ _).setRow _ _ (.inl (by simp))
          generalize w3.setRow (R + 1) (ansC ⟨0, 0⟩).toArray = W4 at *
          have HA4 := Lib.hid hA4
          have HO4 := Lib.hid (HO3.out.keeps hk4 (fun q hq => by have := (row_base HO3.out q hq).1; have := HSZ.out; have := HB.out; simp; omega))
          have HK5 := Lib.hid ((HK3.out.more (by simp)).trans hk4 (FSub.refl _ _))
          clear hA4 hk4
          refine hK.out _ _ ?_ (fun hHeld => ?_)
          · exact (by rw [HSE.out]; exact HK5.out)
          clear hK K
          try simp only [Act.put, List.setIfInBounds_toArray, List.set_cons_zero, List.set_cons_succ]
          apply wpAnyH_take (i := 13)
          · simp only [List.getElem?_toArray]; rfl
          · kernel_rfl
          · kernel_rfl
          · kernel_rfl
          · exact fun _ _ _ h => h
          · exact Or.inl ⟨by rfl, by intro w hSw; go_simp; try with_reducible rfl⟩
          · assumption
          try simp only [Act.put, List.setIfInBounds_toArray, List.set_cons_zero, List.set_cons_succ]
          refine wpAnyH_done (by kernel_rfl) ?_ _
          refine NoPanic.normal ?_
          go_wp2_with fail
          try simp only [Exit.inBlock, Exit.then]
          refine bodyPost_ret (results_ans rfl _ _ _ ⟨0, 0⟩ rfl HA4.out) rfl ⟨_, by rw [HX.out]; rfl, ?_, HK.out.trans HK5.out (fun q hq => .inr (by simp at hq; have := HRL.out; omega)), fun _ q hq => .inr (by have := (row_base HO4.out q hq).1; have := HK.out.size; have := HB.out; omega)⟩
          rw [HX.out]
          exact HO4.out.in_
        apply AllReadyH.cons (hs := AllReadyH.nil)
        · simp only [List.getElem?_toArray]; rfl
        intro K hK
        rw [if_pos (by rfl)]
        refine wp_buildI (y := ⟨k, a⟩) _ rfl rfl ?_
        have HKA := Lib.hid (HK0.out.alloc (.cells (itC ⟨k, a⟩).toArray 54))
        have hrI : rkI.In (Y0.heap.size + 1) (Y0.alloc (.cells (itC ⟨k, a⟩).toArray 54)) (.slice (some ⟨Y0.heap.size, 0, none⟩) 1 1) [⟨k, a⟩] := It.fresh Y0 _
        have hsA : (Y0.alloc (.cells (itC ⟨k, a⟩).toArray 54)).heap.size = Y0.heap.size + 1 := Array.size_push _
        rw [show (some (⟨Y0.heap.size, 0, none⟩ : Addr)) = some ⟨Y0.heap.size, 0, none⟩ from rfl]
        generalize Y0.alloc (.cells (itC ⟨k, a⟩).toArray 54) = YA at *
        have HRI := Lib.hid hrI; have HSA := Lib.hid hsA
        clear hrI hsA
        refine hK.out _ _ ?_ (fun hHeld => ?_)
        · exact (by rw [HSE.out]; exact HKA.out.more (by simp))
        clear hK K
        try simp only [Act.put, List.setIfInBounds_toArray, List.set_cons_zero, List.set_cons_succ]
        apply wpAnyH_ready (rs := [2])
        · kernel_rfl
        · simp
        apply AllReadyH.cons (hs := AllReadyH.nil)
        · simp only [List.getElem?_toArray]; rfl
        intro K hK
        rw [if_pos (by rfl)]
        refine wp_call11 33 _ _ rfl [.slice _ n c1, .int .i64 i] rfl Try.func33 (by kernel_rfl) (by kernel_rfl) ((r11without_any YA ((HIN1.out.new HKA.out HK.out.size).more (Nat.le_trans HK.out.size HKA.out.size)) (by rw [HN2.out]; exact HL.out) _).mono ?_)
        rintro e Y1 ⟨v2, rfl, ho2, hk2⟩
        refine ⟨_, rfl, ?_⟩
        have HK1 := Lib.hid (HKA.out.trans hk2 (FSub.refl _ _))
        have HO2 := Lib.hid ho2; have HSY := Lib.hid hk2.size
        have HRI2 := Lib.hid (HRI.out.new hk2 (by have := HSA.out; omega))
        clear ho2 hk2
        refine hK.out _ _ ?_ (fun hHeld => ?_)
        · exact (by rw [HSE.out]; exact HK1.out.more (by simp))
        clear hK K
        try simp only [Act.put, List.setIfInBounds_toArray, List.set_cons_zero, List.set_cons_succ]
        obtain ⟨v3, w3, hr3, ho3, hk3, hf3⟩ := rkI.appendIn Y1 YA.heap.size HSY.out v2 _ HO2.out HRI2.out (by have := wo_len i 0 l; have := HN2.out; have := HL.out; simp; omega)
        have HR3 := Lib.hid (show (Builtin.append_ #[35, 35] 35 #[v2, .slice (some ⟨Y0.heap.size, 0, none⟩) 1 1]).run Try.prog Y1 = .ok v3 w3 from hr3)
        have HK3 := Lib.hid (show Keeps [] W w3 from HK1.out.trans hk3 (fun q hq => .inr (by have := (row_base HO2.out _ hq).1; have := HKA.out.size; omega)))
        have HO3 := Lib.hid (show rkI.Own YA.heap.size w3 v3 _ from ho3)
        have HB := Lib.hid HKA.out.size
        clear hr3 ho3 hk3 hf3
        apply wpAnyH_ready (rs := [9])
        · kernel_rfl
        · simp
        apply AllReadyH.cons (hs := AllReadyH.nil)
        · simp only [List.getElem?_toArray]; rfl
        intro K hK
        rw [if_pos (by rfl)]
        refine wp_append_run _ _ 35 rfl _ _ _ w3 rfl rfl HR3.out ?_
        refine hK.out _ _ ?_ (fun hHeld => ?_)
        · exact (by rw [HSE.out]; exact HK3.out.more (by simp))
        clear hK K
        try simp only [Act.put, List.setIfInBounds_toArray, List.set_cons_zero, List.set_cons_succ]
        apply wpAnyH_take (i := 11)
        · simp only [List.getElem?_toArray]; rfl
        · kernel_rfl
        · kernel_rfl
        · kernel_rfl
        · exact fun _ _ _ h => h
        · exact Or.inl ⟨by rfl, by intro w hSw; go_simp; try with_reducible rfl⟩
        · assumption
        try simp only [Act.put, List.setIfInBounds_toArray, List.set_cons_zero, List.set_cons_succ]
        have HA3 := Lib.hid (HK3.out.heap HA.out (by simp))
        apply wpAnyH_ready (rs := [12])
        · kernel_rfl
        · simp
        apply AllReadyH.cons (hs := AllReadyH.nil)
        · simp only [List.getElem?_toArray]; rfl
        intro K hK
        rw [if_pos (by rfl)]
        refine wp_store_row 32 _ _ rfl (R + 1) (ansC ⟨0, 0⟩).toArray rfl rfl 32 (ansC ⟨0, 0⟩).toArray HA3.out (by kernel_rfl) rfl (by rw [← Array.all_toList, List.all_eq_true]; exact ansC_one _) ?_
        have hA4 := setRow_heap w3 (R + 1) (ansC ⟨0, 0⟩).toArray (ansC ⟨0, 0⟩).toArray 32 (0, 0) HA3.out
        have hk4 : Keeps [R + 1] w3 (w3.setRow (R + 1) (ansC ⟨0, 0⟩).toArray) := (Keeps.refl _ _).setRow _ _ (.inl (by simp))
        generalize w3.setRow (R + 1) (ansC ⟨0, 0⟩).toArray = W4 at *
        have HA4 := Lib.hid hA4
        have HO4 := Lib.hid (HO3.out.keeps hk4 (fun q hq => by have := (row_base HO3.out q hq).1; have := HSZ.out; have := HB.out; simp; omega))
        have HK5 := Lib.hid ((HK3.out.more (by simp)).trans hk4 (FSub.refl _ _))
        clear hA4 hk4
        refine hK.out _ _ ?_ (fun hHeld => ?_)
        · exact (by rw [HSE.out]; exact HK5.out)
        clear hK K
        try simp only [Act.put, List.setIfInBounds_toArray, List.set_cons_zero, List.set_cons_succ]
        apply wpAnyH_take (i := 13)
        · simp only [List.getElem?_toArray]; rfl
        · kernel_rfl
        · kernel_rfl
        · kernel_rfl
        · exact fun _ _ _ h => h
        · exact Or.inl ⟨by rfl, by intro w hSw; go_simp; try with_reducible rfl⟩
        · assumption
        try simp only [Act.put, List.setIfInBounds_toArray, List.set_cons_zero, List.set_cons_succ]
        refine wpAnyH_done (by kernel_rfl) ?_ _
        refine NoPanic.normal ?_
        go_wp2_with fail
        try simp only [Exit.inBlock, Exit.then]
        refine bodyPost_ret (results_ans rfl _ _ _ ⟨0, 0⟩ rfl HA4.out) rfl ⟨_, by rw [HX.out]; rfl, ?_, HK.out.trans HK5.out (fun q hq => .inr (by simp at hq; have := HRL.out; omega)), fun _ q hq => .inr (by have := (row_base HO4.out q hq).1; have := HK.out.size; have := HB.out; omega)⟩
        rw [HX.out]
        exact HO4.out.in_
      · have HX := Lib.hid (kvX_del1 (o := o) (a := a) (b := b) hk7 hi)
        go_enter Try.func13, Try.ntmps13
        go_wp2_with fail
        have HW2 : Keeps [] w ((w.alloc (.cells #[.int .u8 8, .int .u8 o, .int .u8 k, .int .u16 a, .int .u16 b] 27)).alloc (.cells #[.int .u8 0, .int .u16 0] 32)) := HW.out.1
        refine (HAT.out _ HW2).mono ?_; clear HW2; rintro e w1 ⟨rfl, rfl⟩
        rw [hi2]
        obtain ⟨R, hR⟩ : ∃ R, R = w.heap.size := ⟨_, rfl⟩
        have HWW := HW.out
        rw [← hR] at HWW ⊢
        simp only [show (ansC ⟨0, 0⟩).toArray = #[Value.int .u8 0, .int .u16 0] from rfl] at HWW
        generalize (w.alloc (.cells #[.int .u8 8, .int .u8 o, .int .u8 k, .int .u16 a, .int .u16 b] 27)).alloc (.cells #[.int .u8 0, .int .u16 0] 32) = W at *
        have HO := Lib.hid HWW.2.1
        have HA := Lib.hid (show W.heap[R + 1]? = some (.cells (ansC ⟨0, 0⟩).toArray 32 (0, 0)) from HWW.2.2.1)
        have HK := Lib.hid HWW.1
        have HRL := Lib.hid (show w.heap.size ≤ R from Nat.le_of_eq hR.symm)
        have HSZ := Lib.hid (show R + 2 ≤ W.heap.size from Nat.le_of_eq HWW.2.2.2.symm)
        have HIN1 := Lib.hid (HIN.out.new HWW.1 (Nat.le_refl _))
        clear HWW HW hR HAT HIN
        have c0 : W.cell? ⟨R, 0, none⟩ = some (.int .u8 8) := cell_lit HO.out 0 rfl
        have c3 : W.cell? ⟨R, 3, none⟩ = some (.int .u16 a) := cell_lit HO.out 3 rfl
        clear hi hi2 hk7 hV
        go_wp2_with fail
        refine (r11without_any W (HIN1.out.more (HK.out.size)) (by rw [HN2.out]; exact HL.out) _).mono ?_
        rintro e w2 ⟨v2, rfl, ho2, hk2⟩
        have HK2 := Lib.hid hk2; have HO2 := Lib.hid ho2
        have HA2 := Lib.hid (hk2.heap HA.out (by simp))
        have d2 : w2.cell? ⟨R, 2, none⟩ = some (.int .u8 k) := hk2.cell (cell_lit HO.out 2 rfl) (by simp)
        have d3 : w2.cell? ⟨R, 3, none⟩ = some (.int .u16 a) := hk2.cell (cell_lit HO.out 3 rfl) (by simp)
        have d4 : w2.cell? ⟨R, 4, none⟩ = some (.int .u16 b) := hk2.cell (cell_lit HO.out 4 rfl) (by simp)
        clear hk2 ho2
        have HO3 := HO2
        have HK3 := Lib.hid (HK.out.trans HK2.out (FSub.refl _ _))
        clear d2 d3 d4
        go_wp2_with ((with_reducible refine wpList_putN (g := R + 1) (old := ⟨0, 0⟩) ⟨3, 0⟩ ?_ ?_ HA2.out ?_); exact rfl; exact rfl)
        intro W4 hA4 hk4
        have HA4 := Lib.hid hA4; have HK4 := Lib.hid hk4
        clear hA4 hk4
        go_wp2_with fail
        try simp only [Exit.inBlock, Exit.then]
        refine bodyPost_ret (results_ans rfl _ _ _ ⟨3, 0⟩ rfl HA4.out) rfl ⟨_, by rw [HX.out]; rfl, ?_, HK3.out.trans HK4.out (fun q hq => .inr (by simp at hq; have := HRL.out; omega)), fun _ q hq => .inr (by have := (row_base HO3.out q hq).1; have := HK.out.size; omega)⟩
        rw [HX.out]
        exact (HO3.out.keeps HK4.out (fun q hq => by have := (row_base HO3.out q hq).1; have := HSZ.out; simp; omega)).in_
      · by_cases he : V = a
        · have HX := Lib.hid (kvX_cas2 (o := o) (a := a) (b := b) hk7 hi (by rw [← hV]; exact he))
          have te : (V != a) = false := by simpa using he
          go_enter Try.func13, Try.ntmps13
          go_wp2_with fail
          have HW2 : Keeps [] w ((w.alloc (.cells #[.int .u8 9, .int .u8 o, .int .u8 k, .int .u16 a, .int .u16 b] 27)).alloc (.cells #[.int .u8 0, .int .u16 0] 32)) := HW.out.1
          refine (HAT.out _ HW2).mono ?_; clear HW2; rintro e w1 ⟨rfl, rfl⟩
          rw [hi2]
          obtain ⟨R, hR⟩ : ∃ R, R = w.heap.size := ⟨_, rfl⟩
          have HWW := HW.out
          rw [← hR] at HWW ⊢
          simp only [show (ansC ⟨0, 0⟩).toArray = #[Value.int .u8 0, .int .u16 0] from rfl] at HWW
          generalize (w.alloc (.cells #[.int .u8 9, .int .u8 o, .int .u8 k, .int .u16 a, .int .u16 b] 27)).alloc (.cells #[.int .u8 0, .int .u16 0] 32) = W at *
          have HO := Lib.hid HWW.2.1
          have HA := Lib.hid (show W.heap[R + 1]? = some (.cells (ansC ⟨0, 0⟩).toArray 32 (0, 0)) from HWW.2.2.1)
          have HK := Lib.hid HWW.1
          have HRL := Lib.hid (show w.heap.size ≤ R from Nat.le_of_eq hR.symm)
          have HSZ := Lib.hid (show R + 2 ≤ W.heap.size from Nat.le_of_eq HWW.2.2.2.symm)
          have HIN1 := Lib.hid (HIN.out.new HWW.1 (Nat.le_refl _))
          clear HWW HW hR HAT HIN
          have c0 : W.cell? ⟨R, 0, none⟩ = some (.int .u8 9) := cell_lit HO.out 0 rfl
          have c3 : W.cell? ⟨R, 3, none⟩ = some (.int .u16 a) := cell_lit HO.out 3 rfl
          have m1 := HK.out.cell HM.out (by simp)
          clear he
          clear hi hi2 hk7 hV
          go_wp2_with fail
          go_quiet (fail)
          have hd9 : Keeps [] W (W.drewN nq) := (Keeps.refl _ _).drewN _
          replace HO := Lib.hid (hd9.heap HO.out (by simp)); replace HA := Lib.hid (hd9.heap HA.out (by simp))
          replace HIN1 := Lib.hid (HIN1.out.new hd9 HK.out.size)
          replace HSZ := Lib.hid (Nat.le_trans HSZ.out hd9.size)
          replace HK := Lib.hid (HK.out.trans hd9 (FSub.refl _ _))
          clear c0 c3 m1 hd9
          generalize W.drewN nq = W at *
          go_wp2_with fail
          obtain ⟨S, hS⟩ : ∃ S : World → Prop, S = fun y => Keeps [R + 1] W y := ⟨_, rfl⟩
          have HSE := Lib.hid hS
          have hSD : S W.drew := by rw [hS]; exact (Keeps.refl _ _).drew
          have HC2 := Lib.hid (fun (w' : World) (h : S w') => show w'.cell? ⟨R, 2, none⟩ = some (.int .u8 k) from by rw [hS] at h; exact h.cell (cell_lit HO.out 2 rfl) (by simp))
          have HC3 := Lib.hid (fun (w' : World) (h : S w') => show w'.cell? ⟨R, 3, none⟩ = some (.int .u16 a) from by rw [hS] at h; exact h.cell (cell_lit HO.out 3 rfl) (by simp))
          have HC4 := Lib.hid (fun (w' : World) (h : S w') => show w'.cell? ⟨R, 4, none⟩ = some (.int .u16 b) from by rw [hS] at h; exact h.cell (cell_lit HO.out 4 rfl) (by simp))
          have hd0 : Keeps [] W W.drew := (Keeps.refl _ _).drew
          clear hS
          refine wp_region_noPanic ?_
          refine wp_region_held_drew (S := S) (by kernel_rfl) hSD (fun hHeld => ?_)
          generalize W.drew = Y0 at *
          have HK0 := Lib.hid hd0
          clear hd0
          apply wpAnyH_take (i := 0)
          · simp only [List.getElem?_toArray]; rfl
          · kernel_rfl
          · kernel_rfl
          · kernel_rfl
          · exact fun _ _ _ h => h
          · exact Or.inl ⟨by rfl, by intro w hSw; go_simp; try with_reducible rfl⟩
          · assumption
          try simp only [Act.put, List.setIfInBounds_toArray, List.set_cons_zero, List.set_cons_succ]
          apply wpAnyH_take (i := 1)
          · simp only [List.getElem?_toArray]; rfl
          · kernel_rfl
          · kernel_rfl
          · kernel_rfl
          · exact fun _ _ _ h => h
          · exact Or.inl ⟨by rfl, by intro w hSw; go_simp; try with_reducible rfl⟩
          · assumption
          try simp only [Act.put, List.setIfInBounds_toArray, List.set_cons_zero, List.set_cons_succ]
          apply wpAnyH_take (i := 3)
          · simp only [List.getElem?_toArray]; rfl
          · kernel_rfl
          · kernel_rfl
          · kernel_rfl
          · exact fun _ _ _ h => h
          · exact Or.inl ⟨by rfl, by intro w hSw; go_simp; try with_reducible rfl⟩
          · assumption
          try simp only [Act.put, List.setIfInBounds_toArray, List.set_cons_zero, List.set_cons_succ]
          apply wpAnyH_take (i := 4)
          · simp only [List.getElem?_toArray]; rfl
          · kernel_rfl
          · kernel_rfl
          · kernel_rfl
          · exact fun _ _ _ h => h
          · exact Or.inl ⟨by rfl, by intro w hSw; have q0 := HC2.out w hSw; go_simp; try with_reducible rfl⟩
          · assumption
          try simp only [Act.put, List.setIfInBounds_toArray, List.set_cons_zero, List.set_cons_succ]
          apply wpAnyH_take (i := 5)
          · simp only [List.getElem?_toArray]; rfl
          · kernel_rfl
          · kernel_rfl
          · kernel_rfl
          · exact fun _ _ _ h => h
          · exact Or.inl ⟨by rfl, by intro w hSw; go_simp; try with_reducible rfl⟩
          · assumption
          try simp only [Act.put, List.setIfInBounds_toArray, List.set_cons_zero, List.set_cons_succ]
          apply wpAnyH_take (i := 6)
          · simp only [List.getElem?_toArray]; rfl
          · kernel_rfl
          · kernel_rfl
          · kernel_rfl
          · exact fun _ _ _ h => h
          · exact Or.inl ⟨by rfl, by intro w hSw; have q0 := HC4.out w hSw; go_simp; try with_reducible rfl⟩
          · assumption
          try simp only [Act.put, List.setIfInBounds_toArray, List.set_cons_zero, List.set_cons_succ]
          apply wpAnyH_take (i := 7)
          · simp only [List.getElem?_toArray]; rfl
          · kernel_rfl
          · kernel_rfl
          · kernel_rfl
          · exact fun _ _ _ h => h
          · exact Or.inl ⟨by rfl, by intro w hSw; go_simp; try with_reducible rfl⟩
          · assumption
          try simp only [Act.put, List.setIfInBounds_toArray, List.set_cons_zero, List.set_cons_succ]
          apply wpAnyH_take (i := 10)
          · simp only [List.getElem?_toArray]; rfl
          · kernel_rfl
          · kernel_rfl
          · kernel_rfl
          · exact fun _ _ _ h => h
          · exact Or.inl ⟨by rfl, by intro w hSw; go_simp; try with_reducible rfl⟩
          · assumption
          try simp only [Act.put, List.setIfInBounds_toArray, List.set_cons_zero, List.set_cons_succ]
          apply wpAnyH_ready (rs := [2, 8])
          · kernel_rfl
          · simp
          apply AllReadyH.cons
          · simp only [List.getElem?_toArray]; rfl
          · intro K hK
            rw [if_pos (by rfl)]
            refine wp_call11 33 _ _ rfl [.slice _ n c1, .int .i64 i] rfl Try.func33 (by kernel_rfl) (by kernel_rfl) ((r11without_any Y0 ((HIN1.out.new HK0.out HK.out.size).more (Nat.le_trans HK.out.size HK0.out.size)) (by rw [HN2.out]; exact HL.out) _).mono ?_)
            rintro e Y1 ⟨v2, rfl, ho2, hk2⟩
            refine ⟨_, rfl, ?_⟩
            have HK1 := Lib.hid (HK0.out.trans hk2 (FSub.refl _ _))
            have HO2 := Lib.hid ho2; have HSY := Lib.hid hk2.size
            clear ho2 hk2
            refine hK.out _ _ ?_ (fun hHeld => ?_)
            · rw [HSE.out]; exact HK1.out.more (by simp)
            clear hK K
            try simp only [Act.put, List.setIfInBounds_toArray, List.set_cons_zero, List.set_cons_succ]
            apply wpAnyH_ready (rs := [8])
            · kernel_rfl
            · simp
            apply AllReadyH.cons (hs := AllReadyH.nil)
            · simp only [List.getElem?_toArray]; rfl
            intro K hK
            rw [if_pos (by rfl)]
            refine wp_buildI (y := ⟨k, b⟩) _ rfl rfl ?_
            refine hK.out _ _ ?_ (fun hHeld => ?_)
            · exact (by rw [HSE.out]; exact (HK1.out.alloc _).more (by simp))
            clear hK K
            try simp only [Act.put, List.setIfInBounds_toArray, List.set_cons_zero, List.set_cons_succ]
            obtain ⟨v3, w3, hr3, ho3, hk3, hf3⟩ := rkI.append1 Y1 Y0.heap.size HSY.out v2 _ HO2.out ⟨k, b⟩ (by have := wo_len i 0 l; have := HN2.out; have := HL.out; omega)
            have HR3 := Lib.hid (show (Builtin.append_ #[35, 35] 35 #[v2, .slice (some ⟨Y1.heap.size, 0, none⟩) 1 1]).run Try.prog (Y1.alloc (.cells (itC ⟨k, b⟩).toArray 54)) = .ok v3 w3 from hr3)
            have HK3 := Lib.hid (show Keeps [] W w3 from HK1.out.trans hk3 (fun q hq => .inr (by have := (row_base HO2.out _ hq).1; have := HK0.out.size; omega)))
            have HO3 := Lib.hid (show rkI.Own Y0.heap.size w3 v3 _ from ho3)
            have HB := Lib.hid HK0.out.size
            clear hr3 ho3 hk3 hf3
            apply wpAnyH_ready (rs := [9])
            · kernel_rfl
            · simp
            apply AllReadyH.cons (hs := AllReadyH.nil)
            · simp only [List.getElem?_toArray]; rfl
            intro K hK
            rw [if_pos (by rfl)]
            refine wp_append_run _ _ 35 rfl _ _ _ w3 rfl rfl HR3.out ?_
            refine hK.out _ _ ?_ (fun hHeld => ?_)
            · exact (by rw [HSE.out]; exact HK3.out.more (by simp))
            clear hK K
            try simp only [Act.put, List.setIfInBounds_toArray, List.set_cons_zero, List.set_cons_succ]
            apply wpAnyH_take (i := 11)
            · simp only [List.getElem?_toArray]; rfl
            · kernel_rfl
            · kernel_rfl
            · kernel_rfl
            · exact fun _ _ _ h => h
            · exact Or.inl ⟨by rfl, by intro w hSw; go_simp; try with_reducible rfl⟩
            · assumption
            try simp only [Act.put, List.setIfInBounds_toArray, List.set_cons_zero, List.set_cons_succ]
            have HA3 := Lib.hid (HK3.out.heap HA.out (by simp))
            apply wpAnyH_ready (rs := [12])
            · kernel_rfl
            · simp
            apply AllReadyH.cons (hs := AllReadyH.nil)
            · simp only [List.getElem?_toArray]; rfl
            intro K hK
            rw [if_pos (by rfl)]
            refine wp_store_row 32 _ _ rfl (R + 1) (ansC ⟨3, 0⟩).toArray rfl rfl 32 (ansC ⟨0, 0⟩).toArray HA3.out (by kernel_rfl) rfl (by rw [← Array.all_toList, List.all_eq_true]; exact ansC_one _) ?_
            have hA4 := setRow_heap w3 (R + 1) (ansC ⟨0, 0⟩).toArray (ansC ⟨3, 0⟩).toArray 32 (0, 0) HA3.out
            have hk4 : Keeps [R + 1] w3 (w3.setRow (R + 1) (ansC ⟨3, 0⟩).toArray) := (Keeps.refl _ _).setRow _ _ (.inl (by simp))
            generalize w3.setRow (R + 1) (ansC ⟨3, 0⟩).toArray = W4 at *
            have HA4 := Lib.hid hA4
            have HO4 := Lib.hid (HO3.out.keeps hk4 (fun q hq => by have := (row_base HO3.out q hq).1; have := HSZ.out; have := HB.out; simp; omega))
            have HK5 := Lib.hid ((HK3.out.more (by simp)).trans hk4 (FSub.refl _ _))
            clear hA4 hk4
            refine hK.out _ _ ?_ (fun hHeld => ?_)
            · exact (by rw [HSE.out]; exact HK5.out)
            clear hK K
            try simp only [Act.put, List.setIfInBounds_toArray, List.set_cons_zero, List.set_cons_succ]
            apply wpAnyH_take (i := 13)
            · simp only [List.getElem?_toArray]; rfl
            · kernel_rfl
            · kernel_rfl
            · kernel_rfl
            · exact fun _ _ _ h => h
            · exact Or.inl ⟨by rfl, by intro w hSw; go_simp; try with_reducible rfl⟩
            · assumption
            try simp only [Act.put, List.setIfInBounds_toArray, List.set_cons_zero, List.set_cons_succ]
            refine wpAnyH_done (by kernel_rfl) ?_ _
            refine NoPanic.normal ?_
            go_wp2_with fail
            try simp only [Exit.inBlock, Exit.then]
            refine bodyPost_ret (results_ans rfl _ _ _ ⟨3, 0⟩ rfl HA4.out) rfl ⟨_, by rw [HX.out]; rfl, ?_, HK.out.trans HK5.out (fun q hq => .inr (by simp at hq; have := HRL.out; omega)), fun _ q hq => .inr (by have := (row_base HO4.out q hq).1; have := HK.out.size; have := HB.out; omega)⟩
            rw [HX.out]
            exact HO4.out.in_
          apply AllReadyH.cons (hs := AllReadyH.nil)
          · simp only [List.getElem?_toArray]; rfl
          intro K hK
          rw [if_pos (by rfl)]
          refine wp_buildI (y := ⟨k, b⟩) _ rfl rfl ?_
          have HKA := Lib.hid (HK0.out.alloc (.cells (itC ⟨k, b⟩).toArray 54))
          have hrI : rkI.In (Y0.heap.size + 1) (Y0.alloc (.cells (itC ⟨k, b⟩).toArray 54)) (.slice (some ⟨Y0.heap.size, 0, none⟩) 1 1) [⟨k, b⟩] := It.fresh Y0 _
          have hsA : (Y0.alloc (.cells (itC ⟨k, b⟩).toArray 54)).heap.size = Y0.heap.size + 1 := Array.size_push _
          rw [show (some (⟨Y0.heap.size, 0, none⟩ : Addr)) = some ⟨Y0.heap.size, 0, none⟩ from rfl]
          generalize Y0.alloc (.cells (itC ⟨k, b⟩).toArray 54) = YA at *
          have HRI := Lib.hid hrI; have HSA := Lib.hid hsA
          clear hrI hsA
          refine hK.out _ _ ?_ (fun hHeld => ?_)
          · exact (by rw [HSE.out]; exact HKA.out.more (by simp))
          clear hK K
          try simp only [Act.put, List.setIfInBounds_toArray, List.set_cons_zero, List.set_cons_succ]
          apply wpAnyH_ready (rs := [2])
          · kernel_rfl
          · simp
          apply AllReadyH.cons (hs := AllReadyH.nil)
          · simp only [List.getElem?_toArray]; rfl
          intro K hK
          rw [if_pos (by rfl)]
          refine wp_call11 33 _ _ rfl [.slice _ n c1, .int .i64 i] rfl Try.func33 (by kernel_rfl) (by kernel_rfl) ((r11without_any YA ((HIN1.out.new HKA.out HK.out.size).more (Nat.le_trans HK.out.size HKA.out.size)) (by rw [HN2.out]; exact HL.out) _).mono ?_)
          rintro e Y1 ⟨v2, rfl, ho2, hk2⟩
          refine ⟨_, rfl, ?_⟩
          have HK1 := Lib.hid (HKA.out.trans hk2 (FSub.refl _ _))
          have HO2 := Lib.hid ho2; have HSY := Lib.hid hk2.size
          have HRI2 := Lib.hid (HRI.out.new hk2 (by have := HSA.out; omega))
          clear ho2 hk2
          refine hK.out _ _ ?_ (fun hHeld => ?_)
          · exact (by rw [HSE.out]; exact HK1.out.more (by simp))
          clear hK K
          try simp only [Act.put, List.setIfInBounds_toArray, List.set_cons_zero, List.set_cons_succ]
          obtain ⟨v3, w3, hr3, ho3, hk3, hf3⟩ := rkI.appendIn Y1 YA.heap.size HSY.out v2 _ HO2.out HRI2.out (by have := wo_len i 0 l; have := HN2.out; have := HL.out; simp; omega)
          have HR3 := Lib.hid (show (Builtin.append_ #[35, 35] 35 #[v2, .slice (some ⟨Y0.heap.size, 0, none⟩) 1 1]).run Try.prog Y1 = .ok v3 w3 from hr3)
          have HK3 := Lib.hid (show Keeps [] W w3 from HK1.out.trans hk3 (fun q hq => .inr (by have := (row_base HO2.out _ hq).1; have := HKA.out.size; omega)))
          have HO3 := Lib.hid (show rkI.Own YA.heap.size w3 v3 _ from ho3)
          have HB := Lib.hid HKA.out.size
          clear hr3 ho3 hk3 hf3
          apply wpAnyH_ready (rs := [9])
          · kernel_rfl
          · simp
          apply AllReadyH.cons (hs := AllReadyH.nil)
          · simp only [List.getElem?_toArray]; rfl
          intro K hK
          rw [if_pos (by rfl)]
          refine wp_append_run _ _ 35 rfl _ _ _ w3 rfl rfl HR3.out ?_
          refine hK.out _ _ ?_ (fun hHeld => ?_)
          · exact (by rw [HSE.out]; exact HK3.out.more (by simp))
          clear hK K
          try simp only [Act.put, List.setIfInBounds_toArray, List.set_cons_zero, List.set_cons_succ]
          apply wpAnyH_take (i := 11)
          · simp only [List.getElem?_toArray]; rfl
          · kernel_rfl
          · kernel_rfl
          · kernel_rfl
          · exact fun _ _ _ h => h
          · exact Or.inl ⟨by rfl, by intro w hSw; go_simp; try with_reducible rfl⟩
          · assumption
          try simp only [Act.put, List.setIfInBounds_toArray, List.set_cons_zero, List.set_cons_succ]
          have HA3 := Lib.hid (HK3.out.heap HA.out (by simp))
          apply wpAnyH_ready (rs := [12])
          · kernel_rfl
          · simp
          apply AllReadyH.cons (hs := AllReadyH.nil)
          · simp only [List.getElem?_toArray]; rfl
          intro K hK
          rw [if_pos (by rfl)]
          refine wp_store_row 32 _ _ rfl (R + 1) (ansC ⟨3, 0⟩).toArray rfl rfl 32 (ansC ⟨0, 0⟩).toArray HA3.out (by kernel_rfl) rfl (by rw [← Array.all_toList, List.all_eq_true]; exact ansC_one _) ?_
          have hA4 := setRow_heap w3 (R + 1) (ansC ⟨0, 0⟩).toArray (ansC ⟨3, 0⟩).toArray 32 (0, 0) HA3.out
          have hk4 : Keeps [R + 1] w3 (w3.setRow (R + 1) (ansC ⟨3, 0⟩).toArray) := (Keeps.refl _ _).setRow _ _ (.inl (by simp))
          generalize w3.setRow (R + 1) (ansC ⟨3, 0⟩).toArray = W4 at *
          have HA4 := Lib.hid hA4
          have HO4 := Lib.hid (HO3.out.keeps hk4 (fun q hq => by have := (row_base HO3.out q hq).1; have := HSZ.out; have := HB.out; simp; omega))
          have HK5 := Lib.hid ((HK3.out.more (by simp)).trans hk4 (FSub.refl _ _))
          clear hA4 hk4
          refine hK.out _ _ ?_ (fun hHeld => ?_)
          · exact (by rw [HSE.out]; exact HK5.out)
          clear hK K
          try simp only [Act.put, List.setIfInBounds_toArray, List.set_cons_zero, List.set_cons_succ]
          apply wpAnyH_take (i := 13)
          · simp only [List.getElem?_toArray]; rfl
          · kernel_rfl
          · kernel_rfl
          · kernel_rfl
          · exact fun _ _ _ h => h
          · exact Or.inl ⟨by rfl, by intro w hSw; go_simp; try with_reducible rfl⟩
          · assumption
          try simp only [Act.put, List.setIfInBounds_toArray, List.set_cons_zero, List.set_cons_succ]
          refine wpAnyH_done (by kernel_rfl) ?_ _
          refine NoPanic.normal ?_
          go_wp2_with fail
          try simp only [Exit.inBlock, Exit.then]
          refine bodyPost_ret (results_ans rfl _ _ _ ⟨3, 0⟩ rfl HA4.out) rfl ⟨_, by rw [HX.out]; rfl, ?_, HK.out.trans HK5.out (fun q hq => .inr (by simp at hq; have := HRL.out; omega)), fun _ q hq => .inr (by have := (row_base HO4.out q hq).1; have := HK.out.size; have := HB.out; omega)⟩
          rw [HX.out]
          exact HO4.out.in_
        · have HX := Lib.hid (kvX_cas1 (o := o) (a := a) (b := b) hk7 hi (by rw [← hV]; exact he))
          have te : (V != a) = true := by simpa using he
          go_enter Try.func13, Try.ntmps13
          go_wp2_with fail
          have HW2 : Keeps [] w ((w.alloc (.cells #[.int .u8 9, .int .u8 o, .int .u8 k, .int .u16 a, .int .u16 b] 27)).alloc (.cells #[.int .u8 0, .int .u16 0] 32)) := HW.out.1
          refine (HAT.out _ HW2).mono ?_; clear HW2; rintro e w1 ⟨rfl, rfl⟩
          rw [hi2]
          obtain ⟨R, hR⟩ : ∃ R, R = w.heap.size := ⟨_, rfl⟩
          have HWW := HW.out
          rw [← hR] at HWW ⊢
          simp only [show (ansC ⟨0, 0⟩).toArray = #[Value.int .u8 0, .int .u16 0] from rfl] at HWW
          generalize (w.alloc (.cells #[.int .u8 9, .int .u8 o, .int .u8 k, .int .u16 a, .int .u16 b] 27)).alloc (.cells #[.int .u8 0, .int .u16 0] 32) = W at *
          have HO := Lib.hid HWW.2.1
          have HA := Lib.hid (show W.heap[R + 1]? = some (.cells (ansC ⟨0, 0⟩).toArray 32 (0, 0)) from HWW.2.2.1)
          have HK := Lib.hid HWW.1
          have HRL := Lib.hid (show w.heap.size ≤ R from Nat.le_of_eq hR.symm)
          have HSZ := Lib.hid (show R + 2 ≤ W.heap.size from Nat.le_of_eq HWW.2.2.2.symm)
          have HIN1 := Lib.hid (HIN.out.new HWW.1 (Nat.le_refl _))
          clear HWW HW hR HAT HIN
          have c0 : W.cell? ⟨R, 0, none⟩ = some (.int .u8 9) := cell_lit HO.out 0 rfl
          have c3 : W.cell? ⟨R, 3, none⟩ = some (.int .u16 a) := cell_lit HO.out 3 rfl
          have m1 := HK.out.cell HM.out (by simp)
          clear hi hi2 hk7 hV he
          go_wp2_with fail
          go_quiet (fail)
          have hd : Keeps [R + 1] W (W.drewN nq) := (Keeps.refl _ _).drewN _
          have HAq := Lib.hid (show (W.drewN nq).heap[R + 1]? = _ from HA.out)
          go_wp2_with ((with_reducible refine wpList_putN (g := R + 1) (old := ⟨0, 0⟩) ⟨4, 0⟩ ?_ ?_ HAq.out ?_); exact rfl; exact rfl)
          intro W4 hA4 hk4
          have HA4 := Lib.hid hA4; have HK4 := Lib.hid (hd.trans hk4 (FSub.refl _ _))
          clear hA4 hk4 hd HAq
          go_wp2_with fail
          try simp only [Exit.inBlock, Exit.then]
          have hkk : Keeps [] w W4 := HK.out.trans HK4.out (fun q hq => .inr (by simp at hq; have := HRL.out; omega))
          refine bodyPost_ret (results_ans rfl _ _ _ ⟨4, 0⟩ rfl HA4.out) rfl ⟨_, by rw [HX.out]; rfl, ?_, hkk, fun hne q hq => .inl ⟨by rw [HX.out] at hne; exact hne, hq⟩⟩
          rw [HX.out]
          exact (HIN1.out.keeps HK4.out (fun hne q hq => by have := HIN1.out.old hne q hq; have := HRL.out; simp; omega)).more (by have := hkk.size; omega)
end Go.Proofs.Ytnmpekbkahkapaa
/-
  The document's key map: operations in a row.
-/
namespace Go.Proofs.Ytnmpekbkahkapaa
open Go.RowKit
set_option maxHeartbeats 8000000
set_option maxRecDepth 100000
theorem r11Run_any (w : World) {v0 v : Value} {s : List It} {l : List Opn} (hs : rkI.In w.heap.size w v0 s) (hsl : s.length ≤ 10000) (hl : ∀ x ∈ l, x.In) (hI : rkO.In w.heap.size w v l) (hn : l.length ≤ 10000) :
    Calls Try.prog 18 #[v0, v] w fun e w' => ∃ v1 v2, e = .returned (.tuple #[v1, v2, .int .i64 (stE kvX s l)]) ∧ rkI.In w'.heap.size w' v1 (stS kvX s l) ∧ rkA.Own w.heap.size w' v2 (stL kvX s l) ∧ Keeps [] w w' := by
  obtain ⟨a, cp, rfl, hc, hm, -⟩ := id hI
  have HIN := Lib.hid hI; have HLI := Lib.hid hl; have HS := Lib.hid hs
  clear hI hl hs
  generalize hn2 : l.length = n at *
  have HN2 := Lib.hid hn2
  clear hn2
  obtain ⟨N, hN⟩ : ∃ N, N = w.heap.size := ⟨_, rfl⟩
  have HNE := Lib.hid hN
  rw [← hN]
  clear hN
  go_enter Try.func18, Try.ntmps18
  go_wp2_with fail
  go_loopw [0, 7, 8] (fun sv z i wr => ∃ k : Nat, i = .int .i64 k ∧ k ≤ n ∧ stE kvX s (l.take k) = 0 ∧ rkI.In wr.heap.size wr sv (stS kvX s (l.take k)) ∧ rkA.Own N wr z (stL kvX s (l.take k)) ∧ (stS kvX s (l.take k) ≠ [] → ∀ q ∈ own sv, q ∉ own z) ∧ Keeps [] w wr) (fun _ _ i _ => n - (intOf i).toNat)
  case atStart => exact ⟨0, rfl, by omega, rfl, HS.out, RK.Own.nil rkA _ _, by simp [own, Value.ownBlock], Keeps.refl _ _⟩
  case round =>
    obtain ⟨k, rfl, hk, he0, hsv, hz, hap, hkw⟩ := hrel
    by_cases hlt : k < n
    · have hkl : k < l.length := by have := HN2.out; omega
      obtain ⟨g, o, rfl, hg, hr⟩ := In_at (HIN.out.new hkw (Nat.le_refl _)) hkl
      have HRW := Lib.hid hr
      have HNX := Lib.hid (st_next kvX hkl he0)
      have HST := Lib.hid (st_stop kvX hkl he0)
      have HXI := Lib.hid (HLI.out l[k] (List.getElem_mem hkl))
      have HZ := Lib.hid hz; have HKW := Lib.hid hkw; have HSV := Lib.hid hsv; have HAP := Lib.hid hap
      have HFL := Lib.hid (show (stL kvX s (l.take k)).length ≤ 10000 from Nat.le_trans (stL_few kvX k) (by have := HN2.out; omega))
      have HSL := Lib.hid (show (stS kvX s (l.take k)).length ≤ 1000000 from by have h := kvS_len s (l.take k); have h2 : (l.take k).length ≤ k := List.length_take_le _ _; omega)
      obtain ⟨az, cz, rfl, hcz, hmz⟩ := hz.shape
      clear hz hkw he0 hr hsv hap
      generalize l[k] = x at *
      go_wp2_with (first
        | ((with_reducible refine wpList_loadO (g := g) (off := o + k * 5) (y := x) rfl ?_ HRW.out ?_); exact rfl))
      refine (show Calls Try.prog 13 _ wr (Post11 wr _ (stS kvX s (l.take k)) x) from r11Step_any wr HSV.out HSL.out x).mono ?_
      rintro e w1 ⟨v1, rfl, hin1, hk1, hf1⟩
      have HK1 := Lib.hid (HKW.out.trans hk1 (FSub.refl _ _))
      have HZ1 := Lib.hid (HZ.out.keeps hk1 (by simp))
      have HIN1 := Lib.hid hin1
      have HAP1 := Lib.hid (show (kvX (stS kvX s (l.take k)) x).1 ≠ [] → ∀ q ∈ own v1, q ∉ own (.slice az (stL kvX s (l.take k)).length cz) from fun hne q hq hz => by
        rcases hf1 hne q hq with ⟨h0, h⟩ | h
        · exact HAP.out h0 q h hz
        · have := (row_base HZ.out q hz).2; omega)
      have HSV1 := Lib.hid (show rkI.In w1.heap.size w1 u0 (stS kvX s (l.take k)) from (HSV.out.new hk1 (Nat.le_refl _)).more hk1.size)
      clear hin1 hk1 hf1 HZ HKW HRW HSV HAP HXI
      by_cases hx : (kvX (stS kvX s (l.take k)) x).2.2 = 0
      · have hn1 := HNX.out
        generalize kvX (stS kvX s (l.take k)) x = X at *
        obtain ⟨s1, ⟨yk, yv⟩, e1⟩ := X
        simp only at hx
        subst hx
        simp only [if_true] at hn1
        have HN1 := Lib.hid hn1
        clear hn1 HNX HST HSV1
        simp only [ansC]
        have HKA := Lib.hid (HK1.out.alloc (.cells (ansC ⟨yk, yv⟩).toArray 32))
        have hka : Keeps [] w1 (w1.alloc (.cells (ansC ⟨yk, yv⟩).toArray 32)) := (Keeps.refl [] w1).alloc _
        have HZA := Lib.hid (HZ1.out.keeps hka (by simp))
        have HIA := Lib.hid (show rkI.In w1.heap.size (w1.alloc (.cells (ansC ⟨yk, yv⟩).toArray 32)) v1 s1 from HIN1.out.new hka (Nat.le_refl _))
        obtain ⟨v', w3, hrun, hrow3, hk3, hf3⟩ := rkA.append1 (w1.alloc (.cells (ansC ⟨yk, yv⟩).toArray 32)) N (by rw [HNE.out]; exact HKA.out.size) _ _ HZA.out ⟨yk, yv⟩ (by have := HFL.out; omega)
        have HRUN := Lib.hid (show (Builtin.append_ #[43, 43] 43 #[.slice az (stL kvX s (l.take k)).length cz, .slice (some ⟨w1.heap.size + 1, 0, none⟩) 1 1]).run Try.prog ((w1.alloc (.cells #[.int .u8 yk, .int .u16 yv] 32)).alloc (.cells #[.int .u8 yk, .int .u16 yv] 32)) = .ok v' w3 from by
          rw [show (w1.alloc (.cells (ansC ⟨yk, yv⟩).toArray 32)).heap.size = w1.heap.size + 1 from Array.size_push _] at hrun
          exact hrun)
        have HROW := Lib.hid hrow3
        have HK3 := Lib.hid (HKA.out.trans hk3 (fun q hq => .inr (by have := (row_base HZA.out q hq).1; have := HNE.out; omega)))
        have HIN3 := Lib.hid (show rkI.In w3.heap.size w3 v1 s1 from (HIA.out.keeps hk3 HAP1.out).more (Nat.le_trans hka.size hk3.size))
        have HAP3 := Lib.hid (show s1 ≠ [] → ∀ q ∈ own v1, q ∉ own v' from fun hne q hq hz => by
          rcases hf3 q hz with h | h
          · exact HAP1.out hne q hq h
          · have := HIN1.out.old hne q hq
            have := hka.size
            omega)
        obtain ⟨a9, c9, rfl, -, -⟩ := hrow3.shape
        clear hrun hrow3 hk3 hf3 HKA HZA HK1 HZ1 hka HIA HIN1 HAP1
        go_wp2_with (first
          | ((with_reducible refine wpList_app _ _ ?_ ?_ HRUN.out ?_); exact rfl; exact rfl))
        go_roundw
        case rel => exact ⟨k + 1, by go_num, by omega, HN1.out.1, by rw [HN1.out.2.1]; exact HIN3.out, by rw [HN1.out.2.2]; have h := HROW.out; rw [List.length_append] at h; exact h, by rw [HN1.out.2.1]; have h := HAP3.out; rw [List.length_append] at h; exact h, HK3.out⟩
        case measure => simp [intOf]; omega
      · have te : ((kvX (stS kvX s (l.take k)) x).2.2 != 0) = true := by simpa using hx
        have HE := Lib.hid (HST.out hx)
        generalize kvX (stS kvX s (l.take k)) x = X at *
        obtain ⟨s1, ⟨yk, yv⟩, e1⟩ := X
        simp only at te hx
        have hka : Keeps [] w1 (w1.alloc (.cells (ansC ⟨yk, yv⟩).toArray 32)) := (Keeps.refl [] w1).alloc _
        have HKA := Lib.hid (HK1.out.trans hka (FSub.refl _ _))
        have HZA := Lib.hid (HZ1.out.keeps hka (by simp))
        have HSA := Lib.hid (show rkI.In (w1.alloc (.cells (ansC ⟨yk, yv⟩).toArray 32)).heap.size (w1.alloc (.cells (ansC ⟨yk, yv⟩).toArray 32)) u0 (stS kvX s (l.take k)) from (HSV1.out.new hka (Nat.le_refl _)).more hka.size)
        clear HST HNX hx hka
        simp only [ansC]
        go_wp2_with fail
        go_ret3
        exact ⟨_, _, by rw [HE.out.1]; rfl, by rw [HE.out.2.1]; exact HSA.out, by rw [HE.out.2.2]; exact HZA.out, HKA.out⟩
    · obtain rfl : k = n := by omega
      have hall : l.take k = l := by rw [← HN2.out, List.take_length]
      rw [hall] at he0 hz hsv
      have HZ := Lib.hid hz; have HKW := Lib.hid hkw; have HE := Lib.hid he0; have HSV := Lib.hid hsv
      obtain ⟨az, cz, rfl, hcz, hmz⟩ := hz.shape
      clear hz hkw he0 hall hsv hap
      go_wp2_with fail
      go_ret3
      exact ⟨_, _, by rw [HE.out]; rfl, HSV.out, HZ.out, HKW.out⟩
end Go.Proofs.Ytnmpekbkahkapaa
