/-
  Slice literals of any struct; what the program's register must tell; the law's awake, over any such register.
-/
import Derived.Deep.Upon
import Derived.Test.YtockahocmomdlaaRL06
set_option linter.unusedSimpArgs false
set_option linter.unusedVariables false
namespace Go.Proofs.Ytockahocmomdlaa
open Go.RowKit
section
variable {α : Type} {ops : Array Oper} {rest : List Oper} {o : Oper} {a : Act} {w : World} {Q : Exit → Act → World → Prop} {K : Act → World → Prop}
/-- A slice literal of several structs. -/
theorem RK.wp_buildL (R : RK α) (xs : Array (Nat × Operand)) (L : List α) (ho : o.op = .buildSlice R.Sl L.length xs)
    (hx : (xs.map fun (i, z) => (i, a.eval z)).toList = ((L.map fun y => Value.agg (R.cs y).toArray).zipIdx 0).map fun x => (x.2, x.1)) (hs : L.length * R.s ≤ 10000) (hp : 0 < L.length)
    (h : K (a.put o.dst (.slice (some ⟨w.heap.size, 0, none⟩) L.length L.length)) (w.alloc (.cells (R.row L).toArray R.T))) : o.wp Try.prog a w K Q := by
  refine wp_buildSlice R.Sl R.T L.length xs ho (R.row L).toArray R.i _ R.und R.hi R.hz (by rw [R.hs]; omega) (by rw [R.hs]; have := Nat.mul_pos hp R.s0; omega) ?_ h
  rw [R.hs, hx]
  have := Great.fill_whole (s := R.s) R.s0 (L.map fun y => Value.agg (R.cs y).toArray) ((Array.range (L.length * R.s)).map (R.z.cells[· % R.z.cells.size]!))
    (by intro v hv; obtain ⟨y, _, rfl⟩ := List.mem_map.1 hv; show (R.cs y).toArray.size = R.s; simp [R.len]) (by simp)
  rw [this, List.flatMap_map]
  rfl
/-- Where it lies. -/
theorem RK.lit_in (R : RK α) {N b : Nat} {L : List α} (hb : w.heap[b]? = some (.cells (R.row L).toArray R.T (0, 0))) (hN : b < N) (hm : L.length ≤ 10000) : R.In N w (.slice (some ⟨b, 0, none⟩) L.length L.length) L := by
  refine ⟨_, _, rfl, Nat.le_refl _, by omega, fun _ => ⟨b, 0, rfl, hN, fun j hj => ?_⟩⟩
  intro i u hi
  have := R.row_get L j L[j] (List.getElem?_eq_getElem hj) i u hi
  simp only [World.cell?, hb, Nat.zero_add]
  simpa using this
end
section
variable {ops : Array Oper} {rest : List Oper} {a : Act} {w : World} {Q : Exit → Act → World → Prop}
theorem wpList_litO {dst : Option Tmp} {ty : TypeId} {pos : String} {after : Array Edge} {n : Nat} {xs : Array (Nat × Operand)} (L : List Opn) (hn : n = L.length)
    (hx : (xs.toList.map fun p => (p.1, a.eval p.2)) = ((L.map fun y => Value.agg (opC y).toArray).zipIdx 0).map fun x => (x.2, x.1)) (hs : L.length ≤ 1000) (hp : 0 < L.length)
    (h : ∀ W, W.heap.size = w.heap.size + 1 → Keeps [] w W → rkO.In W.heap.size W (.slice (some ⟨w.heap.size, 0, none⟩) n n) L → wpList Try.prog ops Q rest (a.put dst (.slice (some ⟨w.heap.size, 0, none⟩) n n)) W) :
    wpList Try.prog ops Q ({ dst := dst, op := .buildSlice 36 n xs, type := ty, pos := pos, after := after, guard := none } :: rest) a w := by
  subst hn
  refine wpList_plain rfl fun _ hK => rkO.wp_buildL xs L rfl (by rw [Array.toList_map]; exact hx) (by show L.length * 5 ≤ 10000; omega) hp (hK _ _ (h _ (Array.size_push _) ((Keeps.refl [] w).alloc _) ?_))
  exact rkO.lit_in (heap_alloc_new w _) (by rw [show (w.alloc _).heap.size = w.heap.size + 1 from Array.size_push _]; omega) (by omega)
theorem wpList_litA {dst : Option Tmp} {ty : TypeId} {pos : String} {after : Array Edge} {n : Nat} {xs : Array (Nat × Operand)} {gd : Option (Nat × Bool)} (L : List Ans) (hn : n = L.length)
    (hw : Region.wanted { dst := dst, op := .buildSlice 37 n xs, type := ty, pos := pos, after := after, guard := gd } (yielded ops a.tmps) = true)
    (hx : (xs.toList.map fun p => (p.1, a.eval p.2)) = ((L.map fun y => Value.agg (ansC y).toArray).zipIdx 0).map fun x => (x.2, x.1)) (hs : L.length ≤ 1000) (hp : 0 < L.length)
    (h : ∀ W, W.heap.size = w.heap.size + 1 → Keeps [] w W → rkA.In W.heap.size W (.slice (some ⟨w.heap.size, 0, none⟩) n n) L → wpList Try.prog ops Q rest (a.put dst (.slice (some ⟨w.heap.size, 0, none⟩) n n)) W) :
    wpList Try.prog ops Q ({ dst := dst, op := .buildSlice 37 n xs, type := ty, pos := pos, after := after, guard := gd } :: rest) a w := by
  subst hn
  refine wpList_step fun _ hK => ?_
  rw [if_pos hw]
  refine rkA.wp_buildL xs L rfl (by rw [Array.toList_map]; exact hx) (by show L.length * 2 ≤ 10000; omega) hp (hK _ _ (h _ (Array.size_push _) ((Keeps.refl [] w).alloc _) ?_))
  exact rkA.lit_in (heap_alloc_new w _) (by rw [show (w.alloc _).heap.size = w.heap.size + 1 from Array.size_push _]; omega) (by omega)
end
/-- A state's two bytes, and what two bytes tell. -/
def rgB (s : Int) : List UInt8 := [UInt8.ofNat (s / 256).toNat, UInt8.ofNat (s % 256).toNat]
def rgN : List UInt8 → Int
  | [x, y] => x.toNat * 256 + y.toNat
  | _ => 0
/-- What the program's register tells; G: what its package-level variables hold, if it has any. -/
structure RgProg (G : World → Prop) : Prop where
  keep : ∀ {w w' : World}, G w → Keeps [] w w' → G w'
  new : ∀ w, G w → Calls Try.prog 20 #[] w fun e w' => e = .returned (.int .u16 0) ∧ Keeps [] w w'
  step : ∀ w s x, G w → 0 ≤ s ∧ s < 65536 → x.In → Calls Try.prog 8 #[.int .u16 s, x.val] w fun e w' =>
    e = .returned (.tuple #[.int .u16 (rgX s x).1, .agg (ansC (rgX s x).2.1).toArray, .int .i64 (rgX s x).2.2]) ∧ Keeps [] w w'
  run : ∀ w s v l, G w → 0 ≤ s ∧ s < 65536 → (∀ x ∈ l, x.In) → rkO.In w.heap.size w v l → l.length ≤ 1000 → Calls Try.prog 12 #[.int .u16 s, v] w fun e w' =>
    ∃ v', e = .returned (.tuple #[.int .u16 (rgS s l), v', .int .i64 (rgE s l)]) ∧ rkA.In w'.heap.size w' v' (rgL s l) ∧ Keeps [] w w'
  idle : ∀ w f, G w → 0 ≤ f ∧ f < 256 → Calls Try.prog 10 #[.int .u8 f] w fun e w' => e = .returned (.bool (decide (f = 1))) ∧ Keeps [] w w'
  enc : ∀ w s, G w → 0 ≤ s ∧ s < 65536 → Calls Try.prog 19 #[.int .u16 s] w fun e w' => e = .returned (.string (bs (rgB s))) ∧ Keeps [] w w'
  dec : ∀ w l, G w → l.length ≤ 1000 → Calls Try.prog 16 #[.string (bs l)] w fun e w' => ∃ q, e = .returned (.tuple #[.int .u16 q, .int .i64 (if l.length = 2 then 0 else 4)]) ∧ (l.length = 2 → q = rgN l) ∧ (0 ≤ q ∧ q < 65536) ∧ Keeps [] w w'
section
variable {o : Oper} {a : Act} {w : World} {K : Act → World → Prop} {Q : Exit → Act → World → Prop}
theorem wp_call9 {fn : Func} (f : FuncId) (args : Array Operand) (tys : Array TypeId) (ho : o.op = .call { callee := .value (.func f), args := args, argTypes := tys }) (vs : List Value) (hv : args.toList.map a.eval = vs)
    (hf : Try.prog.funcs[f]? = some fn) (hname : (fn.name == "runtime.NumGoroutine") = false) (hb : fn.body.isNone = false)
    (h : Calls Try.prog f vs.toArray w fun e w' => ∃ v, e = .returned v ∧ K (a.put o.dst v) w') : o.wp Try.prog a w K Q := by
  have hv2 : args.map a.eval = vs.toArray := by rw [← hv]; apply Array.ext'; simp
  unfold Oper.wp execOp
  have h1 : fn.name ≠ "runtime.NumGoroutine" := by simpa using hname
  have h2 : ∃ z, fn.body = some z := by
    cases h : fn.body with
    | none => rw [h] at hb; cases hb
    | some z => exact ⟨z, rfl⟩
  obtain ⟨z, h2⟩ := h2
  simp only [ho, resolve, invoke, Sem.run_bind, Sem.run_pure, Result.andThen_ok, hv2, Act.eval, Deferred.ofValue, Array.empty_append, Array.append_empty]
  simp [callFunc, hf, h1, h2, Sem.run]
  rw [Oper.upon_enter]
  exact h.mono fun e w' ⟨v, he, hk⟩ => by subst he; exact hk
end
set_option maxHeartbeats 8000000
set_option maxRecDepth 100000
def awO : List Opn := [⟨1, 0, 0, 0, 0⟩, ⟨2, 0, 0, 5, 0⟩, ⟨3, 0, 0, 5, 7⟩, ⟨3, 0, 0, 5, 8⟩, ⟨1, 0, 0, 0, 0⟩]
def awA : List Ans := [⟨1, 0⟩, ⟨0, 0⟩, ⟨3, 0⟩, ⟨4, 0⟩, ⟨1, 7⟩]
theorem aw_run : rgS 0 awO = 7 ∧ rgL 0 awO = awA ∧ rgE 0 awO = 0 := by decide
theorem aw_in : ∀ x ∈ awO, x.In := by
  intro x hx
  simp only [awO, List.mem_cons, List.not_mem_nil, or_false] at hx
  rcases hx with rfl | rfl | rfl | rfl | rfl <;> exact ⟨by decide, by decide, by decide, by decide, by decide, by decide, by decide, by decide, by decide, by decide⟩
theorem awake9_any {G : World → Prop} (R : RgProg G) (w : World) (hG : G w) : Calls Try.prog 11 #[] w fun e w' => e = .returned (.bool true) ∧ Keeps [] w w' := by
  have HR := Lib.hid R; have HG := Lib.hid hG
  clear R hG
  go_enter Try.func11, Try.ntmps11
  go_wp2_with fail
  refine (HR.out.new _ HG.out).mono ?_; rintro e w0 ⟨rfl, hk0⟩
  have HK0 := Lib.hid hk0
  clear hk0
  go_wp2_with fail
  refine (op9_any _ _ _ _).mono ?_; rintro e w1 ⟨rfl, hk1⟩
  have HK1 := Lib.hid (HK0.out.trans hk1 (FSub.refl _ _))
  clear hk1 HK0
  go_wp2_with fail
  refine (op9_any _ _ _ _).mono ?_; rintro e w2 ⟨rfl, hk2⟩
  have HK2 := Lib.hid (HK1.out.trans hk2 (FSub.refl _ _))
  clear hk2 HK1
  go_wp2_with fail
  refine (op9_any _ _ _ _).mono ?_; rintro e w3 ⟨rfl, hk3⟩
  have HK3 := Lib.hid (HK2.out.trans hk3 (FSub.refl _ _))
  clear hk3 HK2
  go_wp2_with fail
  refine (op9_any _ _ _ _).mono ?_; rintro e w4 ⟨rfl, hk4⟩
  have HK4 := Lib.hid (HK3.out.trans hk4 (FSub.refl _ _))
  clear hk4 HK3
  go_wp2_with fail
  refine (op9_any _ _ _ _).mono ?_; rintro e w5 ⟨rfl, hk5⟩
  have HK5 := Lib.hid (HK4.out.trans hk5 (FSub.refl _ _))
  clear hk5 HK4
  go_wp2_with ((with_reducible refine wpList_litO awO ?_ ?_ ?_ ?_ ?_); exact rfl; exact rfl; decide; decide)
  intro W hs hk hin
  have HKW := Lib.hid (HK5.out.trans hk (FSub.refl _ _))
  have HIN := Lib.hid hin
  clear hs hk hin HK5
  generalize w5.heap.size = b at *
  go_wp2_with fail
  refine (HR.out.run _ _ _ awO (HR.out.keep HG.out HKW.out) ⟨by decide, by decide⟩ aw_in HIN.out (by decide)).mono ?_; rintro e w6 ⟨v', rfl, hin6, hk6⟩
  have HK6 := Lib.hid (HKW.out.trans hk6 (FSub.refl _ _))
  rw [aw_run.2.1] at hin6
  rw [aw_run.1, aw_run.2.2]
  obtain ⟨a6, c6, rfl, -, -, -⟩ := id hin6
  have HIN6 := Lib.hid hin6
  clear hk6 hin6 HKW HIN
  go_wp2_with fail
  refine (is9_any _ _ _).mono ?_; rintro e w7 ⟨rfl, hk7⟩
  have HS7 := Lib.hid hk7
  clear hk7
  go_wp2_with fail
  refine (is9_any _ _ _).mono ?_; rintro e w8 ⟨rfl, hk8⟩
  have HS8 := Lib.hid (HS7.out.trans hk8 (FSub.refl _ _))
  clear hk8 HS7
  go_wp2_with fail
  refine (is9_any _ _ _).mono ?_; rintro e w9 ⟨rfl, hk9⟩
  have HS9 := Lib.hid (HS8.out.trans hk9 (FSub.refl _ _))
  clear hk9 HS8
  go_wp2_with fail
  refine (is9_any _ _ _).mono ?_; rintro e w10 ⟨rfl, hk10⟩
  have HS10 := Lib.hid (HS9.out.trans hk10 (FSub.refl _ _))
  clear hk10 HS9
  go_wp2_with fail
  refine (is9_any _ _ _).mono ?_; rintro e w11 ⟨rfl, hk11⟩
  have HS11 := Lib.hid (HS10.out.trans hk11 (FSub.refl _ _))
  clear hk11 HS10
  go_wp2_with ((with_reducible refine wpList_litA awA ?_ ?_ ?_ ?_ ?_ ?_); exact rfl; exact rfl; exact rfl; decide; decide)
  intro W2 hs2 hk2 hin2
  have HKZ := Lib.hid (HS11.out.trans hk2 (FSub.refl _ _))
  have HKF := Lib.hid (HK6.out.trans HKZ.out (FSub.refl _ _))
  have HZ := Lib.hid hin2
  clear hs2 hk2 hin2 HS11
  generalize w11.heap.size = b2 at *
  go_wp2_with fail
  refine (answers9_any _ (HIN6.out.new HKZ.out (Nat.le_refl _)) HZ.out HKZ.out.size (Nat.le_refl _)).mono ?_; rintro e w12 ⟨rfl, hk12⟩
  have HKE := Lib.hid (HKF.out.trans hk12 (FSub.refl _ _))
  clear hk12
  go_wp2_with fail
  go_ret
  exact ⟨rfl, HKE.out⟩
end Go.Proofs.Ytockahocmomdlaa
/-
  What a register's answers are, one by one.
-/
namespace Go.Proofs.Ytockahocmomdlaa
open Go.RowKit
theorem range_lit {w : World} {b : Nat} {cs : List Value} {t : TypeId} (h : w.heap[b]? = some (.cells cs.toArray t (0, 0))) : w.rangeAt b 0 cs := by
  intro i u hi
  simp only [World.cell?, h, Nat.zero_add]
  simpa using hi
theorem rg_at : ∀ (l : List Opn) (s : Int) (k : Nat) (hk : k < (rgL s l).length), ∃ h : k < l.length, rgE s (l.take k) = 0 ∧ (rgX (rgS s (l.take k)) l[k]).2.2 = 0 ∧ (rgL s l)[k] = (rgX (rgS s (l.take k)) l[k]).2.1
  | [], s, k, hk => by simp [rgL] at hk
  | x :: t, s, k, hk => by
    by_cases h0 : (rgX s x).2.2 = 0
    · cases k with
      | zero => exact ⟨by simp, rfl, h0, by simp [rgL, rgS, h0]⟩
      | succ k =>
        have hk2 : k < (rgL (rgX s x).1 t).length := by simpa [rgL, h0] using hk
        obtain ⟨h, h1, h2, h3⟩ := rg_at t (rgX s x).1 k hk2
        refine ⟨by simpa using h, ?_, ?_, ?_⟩
        · simpa [rgE, h0] using h1
        · simpa [rgS, h0] using h2
        · simpa [rgL, rgS, h0] using h3
    · simp [rgL, h0] at hk
theorem rg_end : ∀ (l : List Opn) (s : Int), rgS s (l.take (rgL s l).length) = rgS s l ∧ (rgE s l = 0 ∧ (rgL s l).length = l.length ∨ rgE s l = 10 ∧ ∃ h : (rgL s l).length < l.length, (rgX (rgS s l) (l[(rgL s l).length])).2.2 ≠ 0)
  | [], s => ⟨rfl, .inl ⟨rfl, rfl⟩⟩
  | x :: t, s => by
    by_cases h0 : (rgX s x).2.2 = 0
    · obtain ⟨h1, h2⟩ := rg_end t (rgX s x).1
      have e1 : rgL s (x :: t) = (rgX s x).2.1 :: rgL (rgX s x).1 t := by simp [rgL, h0]
      have e2 : rgS s (x :: t) = rgS (rgX s x).1 t := by simp [rgS, h0]
      have e3 : rgE s (x :: t) = rgE (rgX s x).1 t := by simp [rgE, h0]
      rw [e2, e3]
      simp only [e1, List.length_cons]
      refine ⟨by simpa [rgS, h0] using h1, ?_⟩
      rcases h2 with ⟨h2, h3⟩ | ⟨h2, h3, h4⟩
      · exact .inl ⟨h2, by rw [h3]⟩
      · exact .inr ⟨h2, by omega, by simpa using h4⟩
    · have e1 : rgL s (x :: t) = [] := by simp [rgL, h0]
      have e2 : rgS s (x :: t) = s := by simp [rgS, h0]
      have e3 : rgE s (x :: t) = 10 := by
        have := rgX_bad h0
        simp [rgE, this]
      rw [e2, e3]
      simp only [e1]
      refine ⟨rfl, .inr ⟨by trivial, by simp, by simpa using h0⟩⟩
theorem rg_foreign {s : Int} {x : Opn} (h : (rgX s x).2.2 ≠ 0) : x.f ≠ 1 ∧ x.f ≠ 2 ∧ x.f ≠ 3 := by
  unfold rgX at h
  refine ⟨fun e => ?_, fun e => ?_, fun e => ?_⟩
  · rw [if_pos e] at h; exact h rfl
  · rw [if_neg (by omega), if_pos e] at h; exact h rfl
  · rw [if_neg (by omega), if_neg (by omega), if_pos e] at h; split at h <;> exact h rfl
/-- The four ways of a step that is none of the foreign ones. -/
theorem rg_ways {s : Int} {x : Opn} (h : (rgX s x).2.2 = 0) : x.f = 1 ∧ rgX s x = (s, ⟨1, s⟩, 0) ∨ x.f = 2 ∧ rgX s x = (x.a, ⟨0, 0⟩, 0) ∨ x.f = 3 ∧ s = x.a ∧ rgX s x = (x.b, ⟨3, 0⟩, 0) ∨ x.f = 3 ∧ s ≠ x.a ∧ rgX s x = (s, ⟨4, 0⟩, 0) := by
  by_cases h1 : x.f = 1
  · exact .inl ⟨h1, by simp [rgX, h1]⟩
  · by_cases h2 : x.f = 2
    · exact .inr (.inl ⟨h2, by simp [rgX, h2]⟩)
    · by_cases h3 : x.f = 3
      · by_cases h4 : s = x.a
        · exact .inr (.inr (.inl ⟨h3, h4, by simp [rgX, h3, h4]⟩))
        · exact .inr (.inr (.inr ⟨h3, h4, by simp [rgX, h3, h4]⟩))
      · exfalso
        simp [rgX, h1, h2, h3] at h
end Go.Proofs.Ytockahocmomdlaa
/-
  RegisterLast's walk, over any program's register.
-/
namespace Go.Proofs.Ytockahocmomdlaa
open Go.RowKit
section
variable {ops : Array Oper} {rest : List Oper} {a : Act} {w : World} {Q : Exit → Act → World → Prop}
/-- A whole answer is put into a block of its own. -/
theorem wpList_putA {dst : Option Tmp} {ty : TypeId} {pos : String} {after : Array Edge} {x y : Operand} {g : Nat} {old r : Ans} {t : TypeId}
    (hx : a.eval x = .pointer (some ⟨g, 0, none⟩)) (hy : a.eval y = .agg (ansC r).toArray) (hg : w.heap[g]? = some (.cells (ansC old).toArray t (0, 0)))
    (h : ∀ W, W.heap[g]? = some (.cells (ansC r).toArray t (0, 0)) → Keeps [g] w W → wpList Try.prog ops Q rest (a.put dst undef) W) :
    wpList Try.prog ops Q ({ dst := dst, op := .store 27 x y, type := ty, pos := pos, after := after, guard := none } :: rest) a w :=
  wpList_store_row rfl 27 x y rfl g (ansC r).toArray hx hy t (ansC old).toArray hg (by kernel_rfl) rfl (by rw [← Array.all_toList, List.all_eq_true]; exact ansC_one r) (h _ (setRow_heap w g (ansC old).toArray (ansC r).toArray t (0, 0) hg) ((Keeps.refl [g] w).setRow g _ (.inl (by simp))))
end
/-- An operation's cells, one by one. -/
theorem op_cells {w : World} {g o : Nat} {x : Opn} (h : w.rangeAt g o (opC x)) : w.cell? ⟨g, o, none⟩ = some (.int .u8 x.f) ∧ w.cell? ⟨g, o + 3, none⟩ = some (.int .u16 x.a) ∧ w.cell? ⟨g, o + 4, none⟩ = some (.int .u16 x.b) :=
  ⟨h 0 _ rfl, h 3 _ rfl, h 4 _ rfl⟩
set_option maxHeartbeats 8000000
set_option maxRecDepth 100000
theorem RegisterLast_any {G : World → Prop} (R : RgProg G) (w : World) (hG : G w) {s : Int} (hs : 0 ≤ s ∧ s < 65536) {v : Value} {l : List Opn} (hI : rkO.In w.heap.size w v l) (hl : ∀ x ∈ l, x.In) :
    Calls Try.prog 6 #[.int .u16 s, v] w fun e w' => e = .returned (.bool true) ∧ Keeps [] w w' := by
  obtain ⟨a, cp, rfl, hc, hm, -⟩ := id hI
  have HR := Lib.hid R; have HG := Lib.hid hG; have HI := Lib.hid hI
  clear R hG hI
  by_cases hn : l.length ≤ 200
  · have HN := Lib.hid hn
    generalize hn2 : l.length = n at *
    have HN2 := Lib.hid hn2
    clear hn2
    have t2 : ¬ (200 : Int) < n := by omega
    clear hn
    go_enter Try.func6, Try.ntmps6
    go_wp2_with fail
    refine (HR.out.run _ _ _ l HG.out hs hl HI.out (by have := HN2.out; have := HN.out; omega)).mono ?_; rintro e w1 ⟨v1, rfl, hin1, hk1⟩
    have HK1 := Lib.hid hk1
    obtain ⟨a1, c1, rfl, hc1, hm1, -⟩ := id hin1
    have HIN1 := Lib.hid hin1
    have HI1 := Lib.hid (show rkO.In w1.heap.size w1 (.slice a n cp) l from by
      obtain ⟨_, _, e, h1, h2, h3⟩ := HI.out.new hk1 (Nat.le_refl _)
      exact ⟨_, _, e, h1, h2, fun h => by obtain ⟨bk, o, h4, h5, h6⟩ := h3 h; exact ⟨bk, o, h4, by have := hk1.size; omega, h6⟩⟩)
    have HGG := Lib.hid (HR.out.keep HG.out hk1)
    obtain ⟨hend, hway⟩ := rg_end l s
    have hlen := (rgL_len s l).1
    clear hk1 hin1 HG
    generalize hm2 : (rgL s l).length = m at *
    have HM := Lib.hid hm2
    have HEND := Lib.hid hend
    clear hm2 hend
    rcases hway with ⟨he, hmn⟩ | ⟨he, hmn, hfor⟩
    · rw [he]
      have hnm : n = m := by rw [← HN2.out]; exact hmn.symm
      subst hnm
      clear hmn he
      have t5 : ¬ (n : Int) < n := by omega
      go_wp2_with fail
      go_loopw [8, 9] (fun sv i wr => ∃ k : Nat, i = .int .i64 k ∧ k ≤ n ∧ sv = .int .u16 (rgS s (l.take k)) ∧ Keeps [] w1 wr) (fun _ i _ => n - (intOf i).toNat)
      case atStart => exact ⟨0, rfl, by omega, rfl, Keeps.refl _ _⟩
      case round =>
        obtain ⟨k, rfl, hk, rfl, hkr⟩ := hrel
        by_cases hlt : k < n
        · have hkm : k < (rgL s l).length := by have := HM.out; omega
          obtain ⟨hkl, he0, hx0, hal⟩ := rg_at l s k hkm
          obtain ⟨g, o, rfl, hg, hro⟩ := In_at (HI1.out.new hkr (Nat.le_refl _)) hkl
          obtain ⟨g1, o1, rfl, hg1, hra⟩ := InA_at (HIN1.out.new hkr (Nat.le_refl _)) hkm
          have HNX := Lib.hid (rg_next hkl he0).2.1
          have HKR := Lib.hid hkr
          rw [hal] at hra
          obtain ⟨mf, ma, mb⟩ := op_cells hro
          clear hro hkr hal he0
          generalize l[k] = x at *
          generalize hS : rgS s (l.take k) = t at *
          have hknn : k < n := by have := HN2.out; omega
          have hin : g < wr.heap.size := Nat.lt_of_lt_of_le hg HKR.out.size
          have hin1 : g1 < wr.heap.size := Nat.lt_of_lt_of_le hg1 HKR.out.size
          clear HI HI1 HIN1 HM HN2 HEND hg hg1 hkm hkl hlen
          rcases rg_ways hx0 with ⟨hf, hX⟩ | ⟨hf, hX⟩ | ⟨hf, hta, hX⟩ | ⟨hf, hta, hX⟩
          · rw [hX] at hra
            rw [hf] at mf
            have HNY := Lib.hid (show rgS s (l.take (k + 1)) = t by rw [HNX.out, hX])
            clear hX HNX hx0 hf
            go_wp2_with fail
            refine (is9_any _ _ _).mono ?_; rintro e w2 ⟨rfl, hk2⟩
            simp only [ansC]
            have hkA := (Keeps.refl [] w2).alloc (.cells #[.int .u8 0, .int .u16 0] 27)
            have hkB := hk2.trans hkA (FSub.refl _ _)
            have HK2 := Lib.hid hkB
            have HB := Lib.hid (heap_alloc_new w2 (.cells (ansC ⟨0, 0⟩).toArray 27))
            have mf2 := hkB.cell mf (by simp)
            have ma2 := hkB.cell ma (by simp)
            have mb2 := hkB.cell mb (by simp)
            have hbw : wr.heap.size ≤ w2.heap.size := hk2.size
            clear mf ma mb hk2 hkA hkB
            go_wp2_with fail
            refine (is9_any _ _ _).mono ?_; rintro e w3 ⟨rfl, hk3⟩
            have HB3 := Lib.hid (hk3.heap HB.out (by simp))
            have HK3 := Lib.hid (HK2.out.trans hk3 (FSub.refl _ _))
            have mf4 := hk3.cell mf2 (by simp)
            have ma4 := hk3.cell ma2 (by simp)
            have mb4 := hk3.cell mb2 (by simp)
            clear hk3 HB HK2 mf2 ma2 mb2
            generalize w2.heap.size = b at *
            go_wp2_with (refine wpList_putA (old := ⟨0, 0⟩) (r := ⟨1, t⟩) rfl rfl HB3.out ?_)
            intro W hbW hkV
            have mf3 := hkV.cell mf4 (by simp; omega)
            have ma3 := hkV.cell ma4 (by simp; omega)
            have mb3 := hkV.cell mb4 (by simp; omega)
            have hkW := HK3.out.trans hkV (fun q hq => .inr (by simp at hq; omega))
            clear HB3 HK3 mf4 ma4 mb4 hkV
            obtain ⟨S, hS⟩ : ∃ S : World → Prop, S = fun y => Keeps [] W y := ⟨_, rfl⟩
            have hSD : S (W).drew := by rw [hS]; exact (Keeps.refl _ _).drew
            have HSa := Lib.hid (fun (w' : World) (h : S w') => show w'.rangeAt g1 (o1 + k * 2) (ansC ⟨1, t⟩) from by rw [hS] at h; exact fun i u hi => h.cell (hkW.cell (hra i u hi) (by simp)) (by simp))
            have HSb := Lib.hid (fun (w' : World) (h : S w') => show w'.rangeAt _ 0 (ansC ⟨1, t⟩) from by rw [hS] at h; exact fun i u hi => h.cell (range_lit hbW i u hi) (by simp))
            have HKD := Lib.hid ((HKR.out.trans hkW (FSub.refl _ _)).drew)
            clear hS hra hbW hkW HKR
            go_wp2_with fail
            refine wp_region_noPanic ?_
            refine wp_region_held_drew (S := S) (by kernel_rfl) hSD (fun hHeld => ?_)
            apply wpAnyH_take (i := 0)
            · simp only [List.getElem?_toArray]; rfl
            · kernel_rfl
            · kernel_rfl
            · kernel_rfl
            · exact fun _ _ _ h => h
            · exact Or.inl ⟨by rfl, by intro w hSw; go_simp; try with_reducible rfl⟩
            · assumption
            try simp only [Act.put, List.setIfInBounds_toArray, List.set_cons_zero, List.set_cons_succ]
            apply wpAnyH_take (i := 1)
            · simp only [List.getElem?_toArray]; rfl
            · kernel_rfl
            · kernel_rfl
            · kernel_rfl
            · exact fun _ _ _ h => h
            · exact Or.inl ⟨by rfl, by intro w hSw; go_simp; try with_reducible rfl⟩
            · assumption
            try simp only [Act.put, List.setIfInBounds_toArray, List.set_cons_zero, List.set_cons_succ]
            apply wpAnyH_take (i := 2)
            · simp only [List.getElem?_toArray]; rfl
            · kernel_rfl
            · kernel_rfl
            · kernel_rfl
            · exact fun _ _ _ h => h
            · exact Or.inl ⟨by rfl, by intro w hSw; go_simp; try with_reducible rfl⟩
            · assumption
            try simp only [Act.put, List.setIfInBounds_toArray, List.set_cons_zero, List.set_cons_succ]
            apply wpAnyH_take (i := 3)
            · simp only [List.getElem?_toArray]; rfl
            · kernel_rfl
            · kernel_rfl
            · kernel_rfl
            · exact fun _ _ _ h => h
            · exact yields_ans ⟨1, t⟩ (by rfl) _ rfl g1 (o1 + k * 2) rfl HSa.out
            · assumption
            try simp only [Act.put, List.setIfInBounds_toArray, List.set_cons_zero, List.set_cons_succ]
            apply wpAnyH_take (i := 4)
            · simp only [List.getElem?_toArray]; rfl
            · kernel_rfl
            · kernel_rfl
            · kernel_rfl
            · exact fun _ _ _ h => h
            · exact yields_ans ⟨1, t⟩ (by rfl) _ rfl _ 0 rfl HSb.out
            · assumption
            try simp only [Act.put, List.setIfInBounds_toArray, List.set_cons_zero, List.set_cons_succ]
            apply wpAnyH_take (i := 5)
            · simp only [List.getElem?_toArray]; rfl
            · kernel_rfl
            · kernel_rfl
            · kernel_rfl
            · exact fun _ _ _ h => h
            · exact Or.inl ⟨by rfl, by intro w hSw; go_simp; try with_reducible rfl⟩
            · assumption
            try simp only [Act.put, List.setIfInBounds_toArray, List.set_cons_zero, List.set_cons_succ]
            refine wpAnyH_done (by kernel_rfl) ?_ _
            refine NoPanic.normal ?_
            clear hHeld hSD HSa HSb
            go_wp2_with fail
            go_roundw
            case rel => exact ⟨k + 1, by go_num, by omega, by rw [HNY.out], HKD.out⟩
            case measure => simp [intOf]; omega
          · rw [hX] at hra
            rw [hf] at mf
            have HNY := Lib.hid (show rgS s (l.take (k + 1)) = x.a by rw [HNX.out, hX])
            clear hX HNX hx0 hf
            go_wp2_with fail
            refine (is9_any _ _ _).mono ?_; rintro e w2 ⟨rfl, hk2⟩
            simp only [ansC]
            have hkA := (Keeps.refl [] w2).alloc (.cells #[.int .u8 0, .int .u16 0] 27)
            have hkB := hk2.trans hkA (FSub.refl _ _)
            have HK2 := Lib.hid hkB
            have HB := Lib.hid (heap_alloc_new w2 (.cells (ansC ⟨0, 0⟩).toArray 27))
            have mf2 := hkB.cell mf (by simp)
            have ma2 := hkB.cell ma (by simp)
            have mb2 := hkB.cell mb (by simp)
            have hbw : wr.heap.size ≤ w2.heap.size := hk2.size
            clear mf ma mb hk2 hkA hkB
            have hbW := HB.out
            have hkW := HK2.out
            have mf3 := mf2; have ma3 := ma2; have mb3 := mb2
            clear mf2 ma2 mb2 HB HK2
            obtain ⟨S, hS⟩ : ∃ S : World → Prop, S = fun y => Keeps [] (w2.alloc (.cells #[.int .u8 0, .int .u16 0] 27)) y := ⟨_, rfl⟩
            have hSD : S ((w2.alloc (.cells #[.int .u8 0, .int .u16 0] 27))).drew := by rw [hS]; exact (Keeps.refl _ _).drew
            have HSa := Lib.hid (fun (w' : World) (h : S w') => show w'.rangeAt g1 (o1 + k * 2) (ansC ⟨0, 0⟩) from by rw [hS] at h; exact fun i u hi => h.cell (hkW.cell (hra i u hi) (by simp)) (by simp))
            have HSb := Lib.hid (fun (w' : World) (h : S w') => show w'.rangeAt _ 0 (ansC ⟨0, 0⟩) from by rw [hS] at h; exact fun i u hi => h.cell (range_lit hbW i u hi) (by simp))
            have HKD := Lib.hid ((HKR.out.trans hkW (FSub.refl _ _)).drew)
            clear hS hra hbW hkW HKR
            go_wp2_with fail
            refine wp_region_noPanic ?_
            refine wp_region_held_drew (S := S) (by kernel_rfl) hSD (fun hHeld => ?_)
            apply wpAnyH_take (i := 0)
            · simp only [List.getElem?_toArray]; rfl
            · kernel_rfl
            · kernel_rfl
            · kernel_rfl
            · exact fun _ _ _ h => h
            · exact Or.inl ⟨by rfl, by intro w hSw; go_simp; try with_reducible rfl⟩
            · assumption
            try simp only [Act.put, List.setIfInBounds_toArray, List.set_cons_zero, List.set_cons_succ]
            apply wpAnyH_take (i := 1)
            · simp only [List.getElem?_toArray]; rfl
            · kernel_rfl
            · kernel_rfl
            · kernel_rfl
            · exact fun _ _ _ h => h
            · exact Or.inl ⟨by rfl, by intro w hSw; go_simp; try with_reducible rfl⟩
            · assumption
            try simp only [Act.put, List.setIfInBounds_toArray, List.set_cons_zero, List.set_cons_succ]
            apply wpAnyH_take (i := 2)
            · simp only [List.getElem?_toArray]; rfl
            · kernel_rfl
            · kernel_rfl
            · kernel_rfl
            · exact fun _ _ _ h => h
            · exact Or.inl ⟨by rfl, by intro w hSw; go_simp; try with_reducible rfl⟩
            · assumption
            try simp only [Act.put, List.setIfInBounds_toArray, List.set_cons_zero, List.set_cons_succ]
            apply wpAnyH_take (i := 3)
            · simp only [List.getElem?_toArray]; rfl
            · kernel_rfl
            · kernel_rfl
            · kernel_rfl
            · exact fun _ _ _ h => h
            · exact yields_ans ⟨0, 0⟩ (by rfl) _ rfl g1 (o1 + k * 2) rfl HSa.out
            · assumption
            try simp only [Act.put, List.setIfInBounds_toArray, List.set_cons_zero, List.set_cons_succ]
            apply wpAnyH_take (i := 4)
            · simp only [List.getElem?_toArray]; rfl
            · kernel_rfl
            · kernel_rfl
            · kernel_rfl
            · exact fun _ _ _ h => h
            · exact yields_ans ⟨0, 0⟩ (by rfl) _ rfl _ 0 rfl HSb.out
            · assumption
            try simp only [Act.put, List.setIfInBounds_toArray, List.set_cons_zero, List.set_cons_succ]
            apply wpAnyH_take (i := 5)
            · simp only [List.getElem?_toArray]; rfl
            · kernel_rfl
            · kernel_rfl
            · kernel_rfl
            · exact fun _ _ _ h => h
            · exact Or.inl ⟨by rfl, by intro w hSw; go_simp; try with_reducible rfl⟩
            · assumption
            try simp only [Act.put, List.setIfInBounds_toArray, List.set_cons_zero, List.set_cons_succ]
            refine wpAnyH_done (by kernel_rfl) ?_ _
            refine NoPanic.normal ?_
            clear hHeld hSD HSa HSb
            go_wp2_with fail
            go_roundw
            case rel => exact ⟨k + 1, by go_num, by omega, by rw [HNY.out], HKD.out⟩
            case measure => simp [intOf]; omega
          · rw [hX] at hra
            rw [hf] at mf
            subst hta
            have HNY := Lib.hid (show rgS s (l.take (k + 1)) = x.b by rw [HNX.out, hX])
            clear hX HNX hx0 hf
            go_wp2_with fail
            refine (is9_any _ _ _).mono ?_; rintro e w2 ⟨rfl, hk2⟩
            simp only [ansC]
            have hkA := (Keeps.refl [] w2).alloc (.cells #[.int .u8 0, .int .u16 0] 27)
            have hkB := hk2.trans hkA (FSub.refl _ _)
            have HK2 := Lib.hid hkB
            have HB := Lib.hid (heap_alloc_new w2 (.cells (ansC ⟨0, 0⟩).toArray 27))
            have mf2 := hkB.cell mf (by simp)
            have ma2 := hkB.cell ma (by simp)
            have mb2 := hkB.cell mb (by simp)
            have hbw : wr.heap.size ≤ w2.heap.size := hk2.size
            clear mf ma mb hk2 hkA hkB
            go_wp2_with fail
            refine (is9_any _ _ _).mono ?_; rintro e w3 ⟨rfl, hk3⟩
            have HB3 := Lib.hid (hk3.heap HB.out (by simp))
            have HK3 := Lib.hid (HK2.out.trans hk3 (FSub.refl _ _))
            have mf4 := hk3.cell mf2 (by simp)
            have ma4 := hk3.cell ma2 (by simp)
            have mb4 := hk3.cell mb2 (by simp)
            clear hk3 HB HK2 mf2 ma2 mb2
            generalize w2.heap.size = b at *
            go_wp2_with (refine wpList_putA (old := ⟨0, 0⟩) (r := ⟨4, 0⟩) rfl rfl HB3.out ?_)
            intro W hbW hkV
            have mf3 := hkV.cell mf4 (by simp; omega)
            have ma3 := hkV.cell ma4 (by simp; omega)
            have mb3 := hkV.cell mb4 (by simp; omega)
            have hkW := HK3.out.trans hkV (fun q hq => .inr (by simp at hq; omega))
            clear HB3 HK3 mf4 ma4 mb4 hkV
            have HBW := Lib.hid hbW; have HKW := Lib.hid hkW
            clear hbW hkW
            go_wp2_with fail
            refine (is9_any _ _ _).mono ?_; rintro e w4 ⟨rfl, hk4⟩
            have HB4 := Lib.hid (hk4.heap HBW.out (by simp))
            have HK4 := Lib.hid (HKW.out.trans hk4 (FSub.refl _ _))
            have mf4 := hk4.cell mf3 (by simp)
            have ma4 := hk4.cell ma3 (by simp)
            have mb4 := hk4.cell mb3 (by simp)
            clear hk4 HBW HKW mf3 ma3 mb3
            clear W
            go_wp2_with (refine wpList_putA (old := ⟨4, 0⟩) (r := ⟨3, 0⟩) rfl rfl HB4.out ?_)
            intro W hbW hkV
            have mf3 := hkV.cell mf4 (by simp; omega)
            have ma3 := hkV.cell ma4 (by simp; omega)
            have mb3 := hkV.cell mb4 (by simp; omega)
            have hkW := HK4.out.trans hkV (fun q hq => .inr (by simp at hq; omega))
            clear HB4 HK4 mf4 ma4 mb4 hkV
            obtain ⟨S, hS⟩ : ∃ S : World → Prop, S = fun y => Keeps [] W y := ⟨_, rfl⟩
            have hSD : S (W).drew := by rw [hS]; exact (Keeps.refl _ _).drew
            have HSa := Lib.hid (fun (w' : World) (h : S w') => show w'.rangeAt g1 (o1 + k * 2) (ansC ⟨3, 0⟩) from by rw [hS] at h; exact fun i u hi => h.cell (hkW.cell (hra i u hi) (by simp)) (by simp))
            have HSb := Lib.hid (fun (w' : World) (h : S w') => show w'.rangeAt _ 0 (ansC ⟨3, 0⟩) from by rw [hS] at h; exact fun i u hi => h.cell (range_lit hbW i u hi) (by simp))
            have HKD := Lib.hid ((HKR.out.trans hkW (FSub.refl _ _)).drew)
            clear hS hra hbW hkW HKR
            go_wp2_with fail
            refine wp_region_noPanic ?_
            refine wp_region_held_drew (S := S) (by kernel_rfl) hSD (fun hHeld => ?_)
            apply wpAnyH_take (i := 0)
            · simp only [List.getElem?_toArray]; rfl
            · kernel_rfl
            · kernel_rfl
            · kernel_rfl
            · exact fun _ _ _ h => h
            · exact Or.inl ⟨by rfl, by intro w hSw; go_simp; try with_reducible rfl⟩
            · assumption
            try simp only [Act.put, List.setIfInBounds_toArray, List.set_cons_zero, List.set_cons_succ]
            apply wpAnyH_take (i := 1)
            · simp only [List.getElem?_toArray]; rfl
            · kernel_rfl
            · kernel_rfl
            · kernel_rfl
            · exact fun _ _ _ h => h
            · exact Or.inl ⟨by rfl, by intro w hSw; go_simp; try with_reducible rfl⟩
            · assumption
            try simp only [Act.put, List.setIfInBounds_toArray, List.set_cons_zero, List.set_cons_succ]
            apply wpAnyH_take (i := 2)
            · simp only [List.getElem?_toArray]; rfl
            · kernel_rfl
            · kernel_rfl
            · kernel_rfl
            · exact fun _ _ _ h => h
            · exact Or.inl ⟨by rfl, by intro w hSw; go_simp; try with_reducible rfl⟩
            · assumption
            try simp only [Act.put, List.setIfInBounds_toArray, List.set_cons_zero, List.set_cons_succ]
            apply wpAnyH_take (i := 3)
            · simp only [List.getElem?_toArray]; rfl
            · kernel_rfl
            · kernel_rfl
            · kernel_rfl
            · exact fun _ _ _ h => h
            · exact yields_ans ⟨3, 0⟩ (by rfl) _ rfl g1 (o1 + k * 2) rfl HSa.out
            · assumption
            try simp only [Act.put, List.setIfInBounds_toArray, List.set_cons_zero, List.set_cons_succ]
            apply wpAnyH_take (i := 4)
            · simp only [List.getElem?_toArray]; rfl
            · kernel_rfl
            · kernel_rfl
            · kernel_rfl
            · exact fun _ _ _ h => h
            · exact yields_ans ⟨3, 0⟩ (by rfl) _ rfl _ 0 rfl HSb.out
            · assumption
            try simp only [Act.put, List.setIfInBounds_toArray, List.set_cons_zero, List.set_cons_succ]
            apply wpAnyH_take (i := 5)
            · simp only [List.getElem?_toArray]; rfl
            · kernel_rfl
            · kernel_rfl
            · kernel_rfl
            · exact fun _ _ _ h => h
            · exact Or.inl ⟨by rfl, by intro w hSw; go_simp; try with_reducible rfl⟩
            · assumption
            try simp only [Act.put, List.setIfInBounds_toArray, List.set_cons_zero, List.set_cons_succ]
            refine wpAnyH_done (by kernel_rfl) ?_ _
            refine NoPanic.normal ?_
            clear hHeld hSD HSa HSb
            go_wp2_with fail
            go_roundw
            case rel => exact ⟨k + 1, by go_num, by omega, by rw [HNY.out], HKD.out⟩
            case measure => simp [intOf]; omega
          · rw [hX] at hra
            rw [hf] at mf
            have HNY := Lib.hid (show rgS s (l.take (k + 1)) = t by rw [HNX.out, hX])
            have tta : (t == x.a) = false := by simpa using hta
            clear hX HNX hx0 hf hta
            go_wp2_with fail
            refine (is9_any _ _ _).mono ?_; rintro e w2 ⟨rfl, hk2⟩
            simp only [ansC]
            have hkA := (Keeps.refl [] w2).alloc (.cells #[.int .u8 0, .int .u16 0] 27)
            have hkB := hk2.trans hkA (FSub.refl _ _)
            have HK2 := Lib.hid hkB
            have HB := Lib.hid (heap_alloc_new w2 (.cells (ansC ⟨0, 0⟩).toArray 27))
            have mf2 := hkB.cell mf (by simp)
            have ma2 := hkB.cell ma (by simp)
            have mb2 := hkB.cell mb (by simp)
            have hbw : wr.heap.size ≤ w2.heap.size := hk2.size
            clear mf ma mb hk2 hkA hkB
            go_wp2_with fail
            refine (is9_any _ _ _).mono ?_; rintro e w3 ⟨rfl, hk3⟩
            have HB3 := Lib.hid (hk3.heap HB.out (by simp))
            have HK3 := Lib.hid (HK2.out.trans hk3 (FSub.refl _ _))
            have mf4 := hk3.cell mf2 (by simp)
            have ma4 := hk3.cell ma2 (by simp)
            have mb4 := hk3.cell mb2 (by simp)
            clear hk3 HB HK2 mf2 ma2 mb2
            generalize w2.heap.size = b at *
            go_wp2_with (refine wpList_putA (old := ⟨0, 0⟩) (r := ⟨4, 0⟩) rfl rfl HB3.out ?_)
            intro W hbW hkV
            have mf3 := hkV.cell mf4 (by simp; omega)
            have ma3 := hkV.cell ma4 (by simp; omega)
            have mb3 := hkV.cell mb4 (by simp; omega)
            have hkW := HK3.out.trans hkV (fun q hq => .inr (by simp at hq; omega))
            clear HB3 HK3 mf4 ma4 mb4 hkV
            obtain ⟨S, hS⟩ : ∃ S : World → Prop, S = fun y => Keeps [] W y := ⟨_, rfl⟩
            have hSD : S (W).drew := by rw [hS]; exact (Keeps.refl _ _).drew
            have HSa := Lib.hid (fun (w' : World) (h : S w') => show w'.rangeAt g1 (o1 + k * 2) (ansC ⟨4, 0⟩) from by rw [hS] at h; exact fun i u hi => h.cell (hkW.cell (hra i u hi) (by simp)) (by simp))
            have HSb := Lib.hid (fun (w' : World) (h : S w') => show w'.rangeAt _ 0 (ansC ⟨4, 0⟩) from by rw [hS] at h; exact fun i u hi => h.cell (range_lit hbW i u hi) (by simp))
            have HKD := Lib.hid ((HKR.out.trans hkW (FSub.refl _ _)).drew)
            clear hS hra hbW hkW HKR
            go_wp2_with fail
            refine wp_region_noPanic ?_
            refine wp_region_held_drew (S := S) (by kernel_rfl) hSD (fun hHeld => ?_)
            apply wpAnyH_take (i := 0)
            · simp only [List.getElem?_toArray]; rfl
            · kernel_rfl
            · kernel_rfl
            · kernel_rfl
            · exact fun _ _ _ h => h
            · exact Or.inl ⟨by rfl, by intro w hSw; go_simp; try with_reducible rfl⟩
            · assumption
            try simp only [Act.put, List.setIfInBounds_toArray, List.set_cons_zero, List.set_cons_succ]
            apply wpAnyH_take (i := 1)
            · simp only [List.getElem?_toArray]; rfl
            · kernel_rfl
            · kernel_rfl
            · kernel_rfl
            · exact fun _ _ _ h => h
            · exact Or.inl ⟨by rfl, by intro w hSw; go_simp; try with_reducible rfl⟩
            · assumption
            try simp only [Act.put, List.setIfInBounds_toArray, List.set_cons_zero, List.set_cons_succ]
            apply wpAnyH_take (i := 2)
            · simp only [List.getElem?_toArray]; rfl
            · kernel_rfl
            · kernel_rfl
            · kernel_rfl
            · exact fun _ _ _ h => h
            · exact Or.inl ⟨by rfl, by intro w hSw; go_simp; try with_reducible rfl⟩
            · assumption
            try simp only [Act.put, List.setIfInBounds_toArray, List.set_cons_zero, List.set_cons_succ]
            apply wpAnyH_take (i := 3)
            · simp only [List.getElem?_toArray]; rfl
            · kernel_rfl
            · kernel_rfl
            · kernel_rfl
            · exact fun _ _ _ h => h
            · exact yields_ans ⟨4, 0⟩ (by rfl) _ rfl g1 (o1 + k * 2) rfl HSa.out
            · assumption
            try simp only [Act.put, List.setIfInBounds_toArray, List.set_cons_zero, List.set_cons_succ]
            apply wpAnyH_take (i := 4)
            · simp only [List.getElem?_toArray]; rfl
            · kernel_rfl
            · kernel_rfl
            · kernel_rfl
            · exact fun _ _ _ h => h
            · exact yields_ans ⟨4, 0⟩ (by rfl) _ rfl _ 0 rfl HSb.out
            · assumption
            try simp only [Act.put, List.setIfInBounds_toArray, List.set_cons_zero, List.set_cons_succ]
            apply wpAnyH_take (i := 5)
            · simp only [List.getElem?_toArray]; rfl
            · kernel_rfl
            · kernel_rfl
            · kernel_rfl
            · exact fun _ _ _ h => h
            · exact Or.inl ⟨by rfl, by intro w hSw; go_simp; try with_reducible rfl⟩
            · assumption
            try simp only [Act.put, List.setIfInBounds_toArray, List.set_cons_zero, List.set_cons_succ]
            refine wpAnyH_done (by kernel_rfl) ?_ _
            refine NoPanic.normal ?_
            clear hHeld hSD HSa HSb
            go_wp2_with fail
            go_roundw
            case rel => exact ⟨k + 1, by go_num, by omega, by rw [HNY.out], HKD.out⟩
            case measure => simp [intOf]; omega
        · have hkn : k = n := by omega
          subst hkn
          rw [HEND.out]
          have HKR := Lib.hid hkr
          clear hkr
          go_wp2_with fail
          refine (awake9_any HR.out _ (HR.out.keep HGG.out HKR.out)).mono ?_; rintro e w5 ⟨rfl, hk5⟩
          have HK5 := Lib.hid ((HK1.out.trans HKR.out (FSub.refl _ _)).trans hk5 (FSub.refl _ _))
          clear hk5
          go_wp2_with fail
          go_ret
          exact ⟨rfl, HK5.out⟩
    · rw [he]
      have hmn2 : m < n := by rw [← HN2.out]; exact hmn
      have HFOR := Lib.hid (show ∃ h : m < l.length, (rgX (rgS s l) l[m]).2.2 ≠ 0 from ⟨hmn, hfor⟩)
      have t5 : ¬ (n : Int) < m := by omega
      have t6 : ((m : Int) == n) = false := by simp; omega
      clear hmn hfor he
      go_wp2_with fail
      have t8 : decide (n < m) = false := by simp; omega
      simp only [t8]
      clear t6 t8
      go_loopw [8, 9] (fun sv i wr => ∃ k : Nat, i = .int .i64 k ∧ k ≤ m ∧ sv = .int .u16 (rgS s (l.take k)) ∧ Keeps [] w1 wr) (fun _ i _ => m - (intOf i).toNat)
      case atStart => exact ⟨0, rfl, by omega, rfl, Keeps.refl _ _⟩
      case round =>
        obtain ⟨k, rfl, hk, rfl, hkr⟩ := hrel
        by_cases hlt : k < m
        · have hkm : k < (rgL s l).length := by have := HM.out; omega
          obtain ⟨hkl, he0, hx0, hal⟩ := rg_at l s k hkm
          obtain ⟨g, o, rfl, hg, hro⟩ := In_at (HI1.out.new hkr (Nat.le_refl _)) hkl
          obtain ⟨g1, o1, rfl, hg1, hra⟩ := InA_at (HIN1.out.new hkr (Nat.le_refl _)) hkm
          have HNX := Lib.hid (rg_next hkl he0).2.1
          have HKR := Lib.hid hkr
          rw [hal] at hra
          obtain ⟨mf, ma, mb⟩ := op_cells hro
          clear hro hkr hal he0
          generalize l[k] = x at *
          generalize hS : rgS s (l.take k) = t at *
          have hknn : k < n := by have := HN2.out; omega
          have hin : g < wr.heap.size := Nat.lt_of_lt_of_le hg HKR.out.size
          have hin1 : g1 < wr.heap.size := Nat.lt_of_lt_of_le hg1 HKR.out.size
          clear HI HI1 HIN1 HM HN2 HEND hg hg1 hkm hkl hlen
          rcases rg_ways hx0 with ⟨hf, hX⟩ | ⟨hf, hX⟩ | ⟨hf, hta, hX⟩ | ⟨hf, hta, hX⟩
          · rw [hX] at hra
            rw [hf] at mf
            have HNY := Lib.hid (show rgS s (l.take (k + 1)) = t by rw [HNX.out, hX])
            clear hX HNX hx0 hf
            go_wp2_with fail
            refine (is9_any _ _ _).mono ?_; rintro e w2 ⟨rfl, hk2⟩
            simp only [ansC]
            have hkA := (Keeps.refl [] w2).alloc (.cells #[.int .u8 0, .int .u16 0] 27)
            have hkB := hk2.trans hkA (FSub.refl _ _)
            have HK2 := Lib.hid hkB
            have HB := Lib.hid (heap_alloc_new w2 (.cells (ansC ⟨0, 0⟩).toArray 27))
            have mf2 := hkB.cell mf (by simp)
            have ma2 := hkB.cell ma (by simp)
            have mb2 := hkB.cell mb (by simp)
            have hbw : wr.heap.size ≤ w2.heap.size := hk2.size
            clear mf ma mb hk2 hkA hkB
            go_wp2_with fail
            refine (is9_any _ _ _).mono ?_; rintro e w3 ⟨rfl, hk3⟩
            have HB3 := Lib.hid (hk3.heap HB.out (by simp))
            have HK3 := Lib.hid (HK2.out.trans hk3 (FSub.refl _ _))
            have mf4 := hk3.cell mf2 (by simp)
            have ma4 := hk3.cell ma2 (by simp)
            have mb4 := hk3.cell mb2 (by simp)
            clear hk3 HB HK2 mf2 ma2 mb2
            generalize w2.heap.size = b at *
            go_wp2_with (refine wpList_putA (old := ⟨0, 0⟩) (r := ⟨1, t⟩) rfl rfl HB3.out ?_)
            intro W hbW hkV
            have mf3 := hkV.cell mf4 (by simp; omega)
            have ma3 := hkV.cell ma4 (by simp; omega)
            have mb3 := hkV.cell mb4 (by simp; omega)
            have hkW := HK3.out.trans hkV (fun q hq => .inr (by simp at hq; omega))
            clear HB3 HK3 mf4 ma4 mb4 hkV
            obtain ⟨S, hS⟩ : ∃ S : World → Prop, S = fun y => Keeps [] W y := ⟨_, rfl⟩
            have hSD : S (W).drew := by rw [hS]; exact (Keeps.refl _ _).drew
            have HSa := Lib.hid (fun (w' : World) (h : S w') => show w'.rangeAt g1 (o1 + k * 2) (ansC ⟨1, t⟩) from by rw [hS] at h; exact fun i u hi => h.cell (hkW.cell (hra i u hi) (by simp)) (by simp))
            have HSb := Lib.hid (fun (w' : World) (h : S w') => show w'.rangeAt _ 0 (ansC ⟨1, t⟩) from by rw [hS] at h; exact fun i u hi => h.cell (range_lit hbW i u hi) (by simp))
            have HKD := Lib.hid ((HKR.out.trans hkW (FSub.refl _ _)).drew)
            clear hS hra hbW hkW HKR
            go_wp2_with fail
            refine wp_region_noPanic ?_
            refine wp_region_held_drew (S := S) (by kernel_rfl) hSD (fun hHeld => ?_)
            apply wpAnyH_take (i := 0)
            · simp only [List.getElem?_toArray]; rfl
            · kernel_rfl
            · kernel_rfl
            · kernel_rfl
            · exact fun _ _ _ h => h
            · exact Or.inl ⟨by rfl, by intro w hSw; go_simp; try with_reducible rfl⟩
            · assumption
            try simp only [Act.put, List.setIfInBounds_toArray, List.set_cons_zero, List.set_cons_succ]
            apply wpAnyH_take (i := 1)
            · simp only [List.getElem?_toArray]; rfl
            · kernel_rfl
            · kernel_rfl
            · kernel_rfl
            · exact fun _ _ _ h => h
            · exact Or.inl ⟨by rfl, by intro w hSw; go_simp; try with_reducible rfl⟩
            · assumption
            try simp only [Act.put, List.setIfInBounds_toArray, List.set_cons_zero, List.set_cons_succ]
            apply wpAnyH_take (i := 2)
            · simp only [List.getElem?_toArray]; rfl
            · kernel_rfl
            · kernel_rfl
            · kernel_rfl
            · exact fun _ _ _ h => h
            · exact Or.inl ⟨by rfl, by intro w hSw; go_simp; try with_reducible rfl⟩
            · assumption
            try simp only [Act.put, List.setIfInBounds_toArray, List.set_cons_zero, List.set_cons_succ]
            apply wpAnyH_take (i := 3)
            · simp only [List.getElem?_toArray]; rfl
            · kernel_rfl
            · kernel_rfl
            · kernel_rfl
            · exact fun _ _ _ h => h
            · exact yields_ans ⟨1, t⟩ (by rfl) _ rfl g1 (o1 + k * 2) rfl HSa.out
            · assumption
            try simp only [Act.put, List.setIfInBounds_toArray, List.set_cons_zero, List.set_cons_succ]
            apply wpAnyH_take (i := 4)
            · simp only [List.getElem?_toArray]; rfl
            · kernel_rfl
            · kernel_rfl
            · kernel_rfl
            · exact fun _ _ _ h => h
            · exact yields_ans ⟨1, t⟩ (by rfl) _ rfl _ 0 rfl HSb.out
            · assumption
            try simp only [Act.put, List.setIfInBounds_toArray, List.set_cons_zero, List.set_cons_succ]
            apply wpAnyH_take (i := 5)
            · simp only [List.getElem?_toArray]; rfl
            · kernel_rfl
            · kernel_rfl
            · kernel_rfl
            · exact fun _ _ _ h => h
            · exact Or.inl ⟨by rfl, by intro w hSw; go_simp; try with_reducible rfl⟩
            · assumption
            try simp only [Act.put, List.setIfInBounds_toArray, List.set_cons_zero, List.set_cons_succ]
            refine wpAnyH_done (by kernel_rfl) ?_ _
            refine NoPanic.normal ?_
            clear hHeld hSD HSa HSb
            go_wp2_with fail
            go_roundw
            case rel => exact ⟨k + 1, by go_num, by omega, by rw [HNY.out], HKD.out⟩
            case measure => simp [intOf]; omega
          · rw [hX] at hra
            rw [hf] at mf
            have HNY := Lib.hid (show rgS s (l.take (k + 1)) = x.a by rw [HNX.out, hX])
            clear hX HNX hx0 hf
            go_wp2_with fail
            refine (is9_any _ _ _).mono ?_; rintro e w2 ⟨rfl, hk2⟩
            simp only [ansC]
            have hkA := (Keeps.refl [] w2).alloc (.cells #[.int .u8 0, .int .u16 0] 27)
            have hkB := hk2.trans hkA (FSub.refl _ _)
            have HK2 := Lib.hid hkB
            have HB := Lib.hid (heap_alloc_new w2 (.cells (ansC ⟨0, 0⟩).toArray 27))
            have mf2 := hkB.cell mf (by simp)
            have ma2 := hkB.cell ma (by simp)
            have mb2 := hkB.cell mb (by simp)
            have hbw : wr.heap.size ≤ w2.heap.size := hk2.size
            clear mf ma mb hk2 hkA hkB
            have hbW := HB.out
            have hkW := HK2.out
            have mf3 := mf2; have ma3 := ma2; have mb3 := mb2
            clear mf2 ma2 mb2 HB HK2
            obtain ⟨S, hS⟩ : ∃ S : World → Prop, S = fun y => Keeps [] (w2.alloc (.cells #[.int .u8 0, .int .u16 0] 27)) y := ⟨_, rfl⟩
            have hSD : S ((w2.alloc (.cells #[.int .u8 0, .int .u16 0] 27))).drew := by rw [hS]; exact (Keeps.refl _ _).drew
            have HSa := Lib.hid (fun (w' : World) (h : S w') => show w'.rangeAt g1 (o1 + k * 2) (ansC ⟨0, 0⟩) from by rw [hS] at h; exact fun i u hi => h.cell (hkW.cell (hra i u hi) (by simp)) (by simp))
            have HSb := Lib.hid (fun (w' : World) (h : S w') => show w'.rangeAt _ 0 (ansC ⟨0, 0⟩) from by rw [hS] at h; exact fun i u hi => h.cell (range_lit hbW i u hi) (by simp))
            have HKD := Lib.hid ((HKR.out.trans hkW (FSub.refl _ _)).drew)
            clear hS hra hbW hkW HKR
            go_wp2_with fail
            refine wp_region_noPanic ?_
            refine wp_region_held_drew (S := S) (by kernel_rfl) hSD (fun hHeld => ?_)
            apply wpAnyH_take (i := 0)
            · simp only [List.getElem?_toArray]; rfl
            · kernel_rfl
            · kernel_rfl
            · kernel_rfl
            · exact fun _ _ _ h => h
            · exact Or.inl ⟨by rfl, by intro w hSw; go_simp; try with_reducible rfl⟩
            · assumption
            try simp only [Act.put, List.setIfInBounds_toArray, List.set_cons_zero, List.set_cons_succ]
            apply wpAnyH_take (i := 1)
            · simp only [List.getElem?_toArray]; rfl
            · kernel_rfl
            · kernel_rfl
            · kernel_rfl
            · exact fun _ _ _ h => h
            · exact Or.inl ⟨by rfl, by intro w hSw; go_simp; try with_reducible rfl⟩
            · assumption
            try simp only [Act.put, List.setIfInBounds_toArray, List.set_cons_zero, List.set_cons_succ]
            apply wpAnyH_take (i := 2)
            · simp only [List.getElem?_toArray]; rfl
            · kernel_rfl
            · kernel_rfl
            · kernel_rfl
            · exact fun _ _ _ h => h
            · exact Or.inl ⟨by rfl, by intro w hSw; go_simp; try with_reducible rfl⟩
            · assumption
            try simp only [Act.put, List.setIfInBounds_toArray, List.set_cons_zero, List.set_cons_succ]
            apply wpAnyH_take (i := 3)
            · simp only [List.getElem?_toArray]; rfl
            · kernel_rfl
            · kernel_rfl
            · kernel_rfl
            · exact fun _ _ _ h => h
            · exact yields_ans ⟨0, 0⟩ (by rfl) _ rfl g1 (o1 + k * 2) rfl HSa.out
            · assumption
            try simp only [Act.put, List.setIfInBounds_toArray, List.set_cons_zero, List.set_cons_succ]
            apply wpAnyH_take (i := 4)
            · simp only [List.getElem?_toArray]; rfl
            · kernel_rfl
            · kernel_rfl
            · kernel_rfl
            · exact fun _ _ _ h => h
            · exact yields_ans ⟨0, 0⟩ (by rfl) _ rfl _ 0 rfl HSb.out
            · assumption
            try simp only [Act.put, List.setIfInBounds_toArray, List.set_cons_zero, List.set_cons_succ]
            apply wpAnyH_take (i := 5)
            · simp only [List.getElem?_toArray]; rfl
            · kernel_rfl
            · kernel_rfl
            · kernel_rfl
            · exact fun _ _ _ h => h
            · exact Or.inl ⟨by rfl, by intro w hSw; go_simp; try with_reducible rfl⟩
            · assumption
            try simp only [Act.put, List.setIfInBounds_toArray, List.set_cons_zero, List.set_cons_succ]
            refine wpAnyH_done (by kernel_rfl) ?_ _
            refine NoPanic.normal ?_
            clear hHeld hSD HSa HSb
            go_wp2_with fail
            go_roundw
            case rel => exact ⟨k + 1, by go_num, by omega, by rw [HNY.out], HKD.out⟩
            case measure => simp [intOf]; omega
          · rw [hX] at hra
            rw [hf] at mf
            subst hta
            have HNY := Lib.hid (show rgS s (l.take (k + 1)) = x.b by rw [HNX.out, hX])
            clear hX HNX hx0 hf
            go_wp2_with fail
            refine (is9_any _ _ _).mono ?_; rintro e w2 ⟨rfl, hk2⟩
            simp only [ansC]
            have hkA := (Keeps.refl [] w2).alloc (.cells #[.int .u8 0, .int .u16 0] 27)
            have hkB := hk2.trans hkA (FSub.refl _ _)
            have HK2 := Lib.hid hkB
            have HB := Lib.hid (heap_alloc_new w2 (.cells (ansC ⟨0, 0⟩).toArray 27))
            have mf2 := hkB.cell mf (by simp)
            have ma2 := hkB.cell ma (by simp)
            have mb2 := hkB.cell mb (by simp)
            have hbw : wr.heap.size ≤ w2.heap.size := hk2.size
            clear mf ma mb hk2 hkA hkB
            go_wp2_with fail
            refine (is9_any _ _ _).mono ?_; rintro e w3 ⟨rfl, hk3⟩
            have HB3 := Lib.hid (hk3.heap HB.out (by simp))
            have HK3 := Lib.hid (HK2.out.trans hk3 (FSub.refl _ _))
            have mf4 := hk3.cell mf2 (by simp)
            have ma4 := hk3.cell ma2 (by simp)
            have mb4 := hk3.cell mb2 (by simp)
            clear hk3 HB HK2 mf2 ma2 mb2
            generalize w2.heap.size = b at *
            go_wp2_with (refine wpList_putA (old := ⟨0, 0⟩) (r := ⟨4, 0⟩) rfl rfl HB3.out ?_)
            intro W hbW hkV
            have mf3 := hkV.cell mf4 (by simp; omega)
            have ma3 := hkV.cell ma4 (by simp; omega)
            have mb3 := hkV.cell mb4 (by simp; omega)
            have hkW := HK3.out.trans hkV (fun q hq => .inr (by simp at hq; omega))
            clear HB3 HK3 mf4 ma4 mb4 hkV
            have HBW := Lib.hid hbW; have HKW := Lib.hid hkW
            clear hbW hkW
            go_wp2_with fail
            refine (is9_any _ _ _).mono ?_; rintro e w4 ⟨rfl, hk4⟩
            have HB4 := Lib.hid (hk4.heap HBW.out (by simp))
            have HK4 := Lib.hid (HKW.out.trans hk4 (FSub.refl _ _))
            have mf4 := hk4.cell mf3 (by simp)
            have ma4 := hk4.cell ma3 (by simp)
            have mb4 := hk4.cell mb3 (by simp)
            clear hk4 HBW HKW mf3 ma3 mb3
            clear W
            go_wp2_with (refine wpList_putA (old := ⟨4, 0⟩) (r := ⟨3, 0⟩) rfl rfl HB4.out ?_)
            intro W hbW hkV
            have mf3 := hkV.cell mf4 (by simp; omega)
            have ma3 := hkV.cell ma4 (by simp; omega)
            have mb3 := hkV.cell mb4 (by simp; omega)
            have hkW := HK4.out.trans hkV (fun q hq => .inr (by simp at hq; omega))
            clear HB4 HK4 mf4 ma4 mb4 hkV
            obtain ⟨S, hS⟩ : ∃ S : World → Prop, S = fun y => Keeps [] W y := ⟨_, rfl⟩
            have hSD : S (W).drew := by rw [hS]; exact (Keeps.refl _ _).drew
            have HSa := Lib.hid (fun (w' : World) (h : S w') => show w'.rangeAt g1 (o1 + k * 2) (ansC ⟨3, 0⟩) from by rw [hS] at h; exact fun i u hi => h.cell (hkW.cell (hra i u hi) (by simp)) (by simp))
            have HSb := Lib.hid (fun (w' : World) (h : S w') => show w'.rangeAt _ 0 (ansC ⟨3, 0⟩) from by rw [hS] at h; exact fun i u hi => h.cell (range_lit hbW i u hi) (by simp))
            have HKD := Lib.hid ((HKR.out.trans hkW (FSub.refl _ _)).drew)
            clear hS hra hbW hkW HKR
            go_wp2_with fail
            refine wp_region_noPanic ?_
            refine wp_region_held_drew (S := S) (by kernel_rfl) hSD (fun hHeld => ?_)
            apply wpAnyH_take (i := 0)
            · simp only [List.getElem?_toArray]; rfl
            · kernel_rfl
            · kernel_rfl
            · kernel_rfl
            · exact fun _ _ _ h => h
            · exact Or.inl ⟨by rfl, by intro w hSw; go_simp; try with_reducible rfl⟩
            · assumption
            try simp only [Act.put, List.setIfInBounds_toArray, List.set_cons_zero, List.set_cons_succ]
            apply wpAnyH_take (i := 1)
            · simp only [List.getElem?_toArray]; rfl
            · kernel_rfl
            · kernel_rfl
            · kernel_rfl
            · exact fun _ _ _ h => h
            · exact Or.inl ⟨by rfl, by intro w hSw; go_simp; try with_reducible rfl⟩
            · assumption
            try simp only [Act.put, List.setIfInBounds_toArray, List.set_cons_zero, List.set_cons_succ]
            apply wpAnyH_take (i := 2)
            · simp only [List.getElem?_toArray]; rfl
            · kernel_rfl
            · kernel_rfl
            · kernel_rfl
            · exact fun _ _ _ h => h
            · exact Or.inl ⟨by rfl, by intro w hSw; go_simp; try with_reducible rfl⟩
            · assumption
            try simp only [Act.put, List.setIfInBounds_toArray, List.set_cons_zero, List.set_cons_succ]
            apply wpAnyH_take (i := 3)
            · simp only [List.getElem?_toArray]; rfl
            · kernel_rfl
            · kernel_rfl
            · kernel_rfl
            · exact fun _ _ _ h => h
            · exact yields_ans ⟨3, 0⟩ (by rfl) _ rfl g1 (o1 + k * 2) rfl HSa.out
            · assumption
            try simp only [Act.put, List.setIfInBounds_toArray, List.set_cons_zero, List.set_cons_succ]
            apply wpAnyH_take (i := 4)
            · simp only [List.getElem?_toArray]; rfl
            · kernel_rfl
            · kernel_rfl
            · kernel_rfl
            · exact fun _ _ _ h => h
            · exact yields_ans ⟨3, 0⟩ (by rfl) _ rfl _ 0 rfl HSb.out
            · assumption
            try simp only [Act.put, List.setIfInBounds_toArray, List.set_cons_zero, List.set_cons_succ]
            apply wpAnyH_take (i := 5)
            · simp only [List.getElem?_toArray]; rfl
            · kernel_rfl
            · kernel_rfl
            · kernel_rfl
            · exact fun _ _ _ h => h
            · exact Or.inl ⟨by rfl, by intro w hSw; go_simp; try with_reducible rfl⟩
            · assumption
            try simp only [Act.put, List.setIfInBounds_toArray, List.set_cons_zero, List.set_cons_succ]
            refine wpAnyH_done (by kernel_rfl) ?_ _
            refine NoPanic.normal ?_
            clear hHeld hSD HSa HSb
            go_wp2_with fail
            go_roundw
            case rel => exact ⟨k + 1, by go_num, by omega, by rw [HNY.out], HKD.out⟩
            case measure => simp [intOf]; omega
          · rw [hX] at hra
            rw [hf] at mf
            have HNY := Lib.hid (show rgS s (l.take (k + 1)) = t by rw [HNX.out, hX])
            have tta : (t == x.a) = false := by simpa using hta
            clear hX HNX hx0 hf hta
            go_wp2_with fail
            refine (is9_any _ _ _).mono ?_; rintro e w2 ⟨rfl, hk2⟩
            simp only [ansC]
            have hkA := (Keeps.refl [] w2).alloc (.cells #[.int .u8 0, .int .u16 0] 27)
            have hkB := hk2.trans hkA (FSub.refl _ _)
            have HK2 := Lib.hid hkB
            have HB := Lib.hid (heap_alloc_new w2 (.cells (ansC ⟨0, 0⟩).toArray 27))
            have mf2 := hkB.cell mf (by simp)
            have ma2 := hkB.cell ma (by simp)
            have mb2 := hkB.cell mb (by simp)
            have hbw : wr.heap.size ≤ w2.heap.size := hk2.size
            clear mf ma mb hk2 hkA hkB
            go_wp2_with fail
            refine (is9_any _ _ _).mono ?_; rintro e w3 ⟨rfl, hk3⟩
            have HB3 := Lib.hid (hk3.heap HB.out (by simp))
            have HK3 := Lib.hid (HK2.out.trans hk3 (FSub.refl _ _))
            have mf4 := hk3.cell mf2 (by simp)
            have ma4 := hk3.cell ma2 (by simp)
            have mb4 := hk3.cell mb2 (by simp)
            clear hk3 HB HK2 mf2 ma2 mb2
            generalize w2.heap.size = b at *
            go_wp2_with (refine wpList_putA (old := ⟨0, 0⟩) (r := ⟨4, 0⟩) rfl rfl HB3.out ?_)
            intro W hbW hkV
            have mf3 := hkV.cell mf4 (by simp; omega)
            have ma3 := hkV.cell ma4 (by simp; omega)
            have mb3 := hkV.cell mb4 (by simp; omega)
            have hkW := HK3.out.trans hkV (fun q hq => .inr (by simp at hq; omega))
            clear HB3 HK3 mf4 ma4 mb4 hkV
            obtain ⟨S, hS⟩ : ∃ S : World → Prop, S = fun y => Keeps [] W y := ⟨_, rfl⟩
            have hSD : S (W).drew := by rw [hS]; exact (Keeps.refl _ _).drew
            have HSa := Lib.hid (fun (w' : World) (h : S w') => show w'.rangeAt g1 (o1 + k * 2) (ansC ⟨4, 0⟩) from by rw [hS] at h; exact fun i u hi => h.cell (hkW.cell (hra i u hi) (by simp)) (by simp))
            have HSb := Lib.hid (fun (w' : World) (h : S w') => show w'.rangeAt _ 0 (ansC ⟨4, 0⟩) from by rw [hS] at h; exact fun i u hi => h.cell (range_lit hbW i u hi) (by simp))
            have HKD := Lib.hid ((HKR.out.trans hkW (FSub.refl _ _)).drew)
            clear hS hra hbW hkW HKR
            go_wp2_with fail
            refine wp_region_noPanic ?_
            refine wp_region_held_drew (S := S) (by kernel_rfl) hSD (fun hHeld => ?_)
            apply wpAnyH_take (i := 0)
            · simp only [List.getElem?_toArray]; rfl
            · kernel_rfl
            · kernel_rfl
            · kernel_rfl
            · exact fun _ _ _ h => h
            · exact Or.inl ⟨by rfl, by intro w hSw; go_simp; try with_reducible rfl⟩
            · assumption
            try simp only [Act.put, List.setIfInBounds_toArray, List.set_cons_zero, List.set_cons_succ]
            apply wpAnyH_take (i := 1)
            · simp only [List.getElem?_toArray]; rfl
            · kernel_rfl
            · kernel_rfl
            · kernel_rfl
            · exact fun _ _ _ h => h
            · exact Or.inl ⟨by rfl, by intro w hSw; go_simp; try with_reducible rfl⟩
            · assumption
            try simp only [Act.put, List.setIfInBounds_toArray, List.set_cons_zero, List.set_cons_succ]
            apply wpAnyH_take (i := 2)
            · simp only [List.getElem?_toArray]; rfl
            · kernel_rfl
            · kernel_rfl
            · kernel_rfl
            · exact fun _ _ _ h => h
            · exact Or.inl ⟨by rfl, by intro w hSw; go_simp; try with_reducible rfl⟩
            · assumption
            try simp only [Act.put, List.setIfInBounds_toArray, List.set_cons_zero, List.set_cons_succ]
            apply wpAnyH_take (i := 3)
            · simp only [List.getElem?_toArray]; rfl
            · kernel_rfl
            · kernel_rfl
            · kernel_rfl
            · exact fun _ _ _ h => h
            · exact yields_ans ⟨4, 0⟩ (by rfl) _ rfl g1 (o1 + k * 2) rfl HSa.out
            · assumption
            try simp only [Act.put, List.setIfInBounds_toArray, List.set_cons_zero, List.set_cons_succ]
            apply wpAnyH_take (i := 4)
            · simp only [List.getElem?_toArray]; rfl
            · kernel_rfl
            · kernel_rfl
            · kernel_rfl
            · exact fun _ _ _ h => h
            · exact yields_ans ⟨4, 0⟩ (by rfl) _ rfl _ 0 rfl HSb.out
            · assumption
            try simp only [Act.put, List.setIfInBounds_toArray, List.set_cons_zero, List.set_cons_succ]
            apply wpAnyH_take (i := 5)
            · simp only [List.getElem?_toArray]; rfl
            · kernel_rfl
            · kernel_rfl
            · kernel_rfl
            · exact fun _ _ _ h => h
            · exact Or.inl ⟨by rfl, by intro w hSw; go_simp; try with_reducible rfl⟩
            · assumption
            try simp only [Act.put, List.setIfInBounds_toArray, List.set_cons_zero, List.set_cons_succ]
            refine wpAnyH_done (by kernel_rfl) ?_ _
            refine NoPanic.normal ?_
            clear hHeld hSD HSa HSb
            go_wp2_with fail
            go_roundw
            case rel => exact ⟨k + 1, by go_num, by omega, by rw [HNY.out], HKD.out⟩
            case measure => simp [intOf]; omega
        · have hkn : k = m := by omega
          subst hkn
          rw [HEND.out]
          obtain ⟨hkl, hfx⟩ := HFOR.out
          obtain ⟨g, o, rfl, hg, hro⟩ := In_at (HI1.out.new hkr (Nat.le_refl _)) hkl
          obtain ⟨mf, -, -⟩ := op_cells hro
          obtain ⟨f1, f2, f3⟩ := rg_foreign hfx
          generalize l[k] = x at *
          have q1 : (x.f != 1) = true := by simpa using f1
          have q2 : (x.f != 2) = true := by simpa using f2
          have q3 : (x.f != 3) = true := by simpa using f3
          have hknn : k < n := by have := HN2.out; omega
          clear hro hfx f1 f2 f3 HI HI1 HIN1 HM HN2 HEND HFOR hg hkl hlen
          have HKR := Lib.hid hkr
          clear hkr
          go_wp2_with fail
          refine (awake9_any HR.out _ (HR.out.keep HGG.out HKR.out)).mono ?_; rintro e w5 ⟨rfl, hk5⟩
          have HK5 := Lib.hid ((HK1.out.trans HKR.out (FSub.refl _ _)).trans hk5 (FSub.refl _ _))
          clear hk5
          go_wp2_with fail
          go_ret
          exact ⟨rfl, HK5.out⟩
  · generalize l.length = n at *
    have t2 : (200 : Int) < n := by omega
    go_enter Try.func6, Try.ntmps6
    go_wp2_with fail
    refine (awake9_any HR.out _ HG.out).mono ?_; rintro e w4 ⟨rfl, hk4⟩
    have HK4 := Lib.hid hk4
    clear hk4
    go_wp2_with fail
    go_ret
    exact ⟨rfl, HK4.out⟩
end Go.Proofs.Ytockahocmomdlaa
