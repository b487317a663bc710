/-
  Slice literals of any struct; what the program's register must tell; the law's awake, over any such register.
-/
import Derived.Deep.Upon
import Derived.Test.YtockahocmomdlaaRK06
set_option linter.unusedSimpArgs false
set_option linter.unusedVariables false
namespace Go.Proofs.Ytockahocmomdlaa
open Go.RowKit
section
variable {α : Type} {ops : Array Oper} {rest : List Oper} {o : Oper} {a : Act} {w : World} {Q : Exit → Act → World → Prop} {K : Act → World → Prop}
/-- A slice literal of several structs. -/
theorem RK.wp_buildL (R : RK α) (xs : Array (Nat × Operand)) (L : List α) (ho : o.op = .buildSlice R.Sl L.length xs)
    (hx : (xs.map fun (i, z) => (i, a.eval z)).toList = ((L.map fun y => Value.agg (R.cs y).toArray).zipIdx 0).map fun x => (x.2, x.1)) (hs : L.length * R.s ≤ 10000) (hp : 0 < L.length)
    (h : K (a.put o.dst (.slice (some ⟨w.heap.size, 0, none⟩) L.length L.length)) (w.alloc (.cells (R.row L).toArray R.T))) : o.wp Try.prog a w K Q := by
  refine wp_buildSlice R.Sl R.T L.length xs ho (R.row L).toArray R.i _ R.und R.hi R.hz (by rw [R.hs]; omega) (by rw [R.hs]; have := Nat.mul_pos hp R.s0; omega) ?_ h
  rw [R.hs, hx]
  have := Great.fill_whole (s := R.s) R.s0 (L.map fun y => Value.agg (R.cs y).toArray) ((Array.range (L.length * R.s)).map (R.z.cells[· % R.z.cells.size]!))
    (by intro v hv; obtain ⟨y, _, rfl⟩ := List.mem_map.1 hv; show (R.cs y).toArray.size = R.s; simp [R.len]) (by simp)
  rw [this, List.flatMap_map]
  rfl
/-- Where it lies. -/
theorem RK.lit_in (R : RK α) {N b : Nat} {L : List α} (hb : w.heap[b]? = some (.cells (R.row L).toArray R.T (0, 0))) (hN : b < N) (hm : L.length ≤ 10000) : R.In N w (.slice (some ⟨b, 0, none⟩) L.length L.length) L := by
  refine ⟨_, _, rfl, Nat.le_refl _, by omega, fun _ => ⟨b, 0, rfl, hN, fun j hj => ?_⟩⟩
  intro i u hi
  have := R.row_get L j L[j] (List.getElem?_eq_getElem hj) i u hi
  simp only [World.cell?, hb, Nat.zero_add]
  simpa using this
end
section
variable {ops : Array Oper} {rest : List Oper} {a : Act} {w : World} {Q : Exit → Act → World → Prop}
theorem wpList_litO {dst : Option Tmp} {ty : TypeId} {pos : String} {after : Array Edge} {n : Nat} {xs : Array (Nat × Operand)} (L : List Opn) (hn : n = L.length)
    (hx : (xs.toList.map fun p => (p.1, a.eval p.2)) = ((L.map fun y => Value.agg (opC y).toArray).zipIdx 0).map fun x => (x.2, x.1)) (hs : L.length ≤ 1000) (hp : 0 < L.length)
    (h : ∀ W, W.heap.size = w.heap.size + 1 → Keeps [] w W → rkO.In W.heap.size W (.slice (some ⟨w.heap.size, 0, none⟩) n n) L → wpList Try.prog ops Q rest (a.put dst (.slice (some ⟨w.heap.size, 0, none⟩) n n)) W) :
    wpList Try.prog ops Q ({ dst := dst, op := .buildSlice 36 n xs, type := ty, pos := pos, after := after, guard := none } :: rest) a w := by
  subst hn
  refine wpList_plain rfl fun _ hK => rkO.wp_buildL xs L rfl (by rw [Array.toList_map]; exact hx) (by show L.length * 5 ≤ 10000; omega) hp (hK _ _ (h _ (Array.size_push _) ((Keeps.refl [] w).alloc _) ?_))
  exact rkO.lit_in (heap_alloc_new w _) (by rw [show (w.alloc _).heap.size = w.heap.size + 1 from Array.size_push _]; omega) (by omega)
theorem wpList_litA {dst : Option Tmp} {ty : TypeId} {pos : String} {after : Array Edge} {n : Nat} {xs : Array (Nat × Operand)} {gd : Option (Nat × Bool)} (L : List Ans) (hn : n = L.length)
    (hw : Region.wanted { dst := dst, op := .buildSlice 37 n xs, type := ty, pos := pos, after := after, guard := gd } (yielded ops a.tmps) = true)
    (hx : (xs.toList.map fun p => (p.1, a.eval p.2)) = ((L.map fun y => Value.agg (ansC y).toArray).zipIdx 0).map fun x => (x.2, x.1)) (hs : L.length ≤ 1000) (hp : 0 < L.length)
    (h : ∀ W, W.heap.size = w.heap.size + 1 → Keeps [] w W → rkA.In W.heap.size W (.slice (some ⟨w.heap.size, 0, none⟩) n n) L → wpList Try.prog ops Q rest (a.put dst (.slice (some ⟨w.heap.size, 0, none⟩) n n)) W) :
    wpList Try.prog ops Q ({ dst := dst, op := .buildSlice 37 n xs, type := ty, pos := pos, after := after, guard := gd } :: rest) a w := by
  subst hn
  refine wpList_step fun _ hK => ?_
  rw [if_pos hw]
  refine rkA.wp_buildL xs L rfl (by rw [Array.toList_map]; exact hx) (by show L.length * 2 ≤ 10000; omega) hp (hK _ _ (h _ (Array.size_push _) ((Keeps.refl [] w).alloc _) ?_))
  exact rkA.lit_in (heap_alloc_new w _) (by rw [show (w.alloc _).heap.size = w.heap.size + 1 from Array.size_push _]; omega) (by omega)
end
/-- A state's two bytes, and what two bytes tell. -/
def rgB (s : Int) : List UInt8 := [UInt8.ofNat (s / 256).toNat, UInt8.ofNat (s % 256).toNat]
def rgN : List UInt8 → Int
  | [x, y] => x.toNat * 256 + y.toNat
  | _ => 0
/-- What the program's register tells; G: what its package-level variables hold, if it has any. -/
structure RgProg (G : World → Prop) : Prop where
  keep : ∀ {w w' : World}, G w → Keeps [] w w' → G w'
  new : ∀ w, G w → Calls Try.prog 20 #[] w fun e w' => e = .returned (.int .u16 0) ∧ Keeps [] w w'
  step : ∀ w s x, G w → 0 ≤ s ∧ s < 65536 → x.In → Calls Try.prog 8 #[.int .u16 s, x.val] w fun e w' =>
    e = .returned (.tuple #[.int .u16 (rgX s x).1, .agg (ansC (rgX s x).2.1).toArray, .int .i64 (rgX s x).2.2]) ∧ Keeps [] w w'
  run : ∀ w s v l, G w → 0 ≤ s ∧ s < 65536 → (∀ x ∈ l, x.In) → rkO.In w.heap.size w v l → l.length ≤ 1000 → Calls Try.prog 12 #[.int .u16 s, v] w fun e w' =>
    ∃ v', e = .returned (.tuple #[.int .u16 (rgS s l), v', .int .i64 (rgE s l)]) ∧ rkA.In w'.heap.size w' v' (rgL s l) ∧ Keeps [] w w'
  idle : ∀ w f, G w → 0 ≤ f ∧ f < 256 → Calls Try.prog 10 #[.int .u8 f] w fun e w' => e = .returned (.bool (decide (f = 1))) ∧ Keeps [] w w'
  enc : ∀ w s, G w → 0 ≤ s ∧ s < 65536 → Calls Try.prog 19 #[.int .u16 s] w fun e w' => e = .returned (.string (bs (rgB s))) ∧ Keeps [] w w'
  dec : ∀ w l, G w → l.length ≤ 1000 → Calls Try.prog 16 #[.string (bs l)] w fun e w' => ∃ q, e = .returned (.tuple #[.int .u16 q, .int .i64 (if l.length = 2 then 0 else 4)]) ∧ (l.length = 2 → q = rgN l) ∧ (0 ≤ q ∧ q < 65536) ∧ Keeps [] w w'
section
variable {o : Oper} {a : Act} {w : World} {K : Act → World → Prop} {Q : Exit → Act → World → Prop}
theorem wp_call9 {fn : Func} (f : FuncId) (args : Array Operand) (tys : Array TypeId) (ho : o.op = .call { callee := .value (.func f), args := args, argTypes := tys }) (vs : List Value) (hv : args.toList.map a.eval = vs)
    (hf : Try.prog.funcs[f]? = some fn) (hname : (fn.name == "runtime.NumGoroutine") = false) (hb : fn.body.isNone = false)
    (h : Calls Try.prog f vs.toArray w fun e w' => ∃ v, e = .returned v ∧ K (a.put o.dst v) w') : o.wp Try.prog a w K Q := by
  have hv2 : args.map a.eval = vs.toArray := by rw [← hv]; apply Array.ext'; simp
  unfold Oper.wp execOp
  have h1 : fn.name ≠ "runtime.NumGoroutine" := by simpa using hname
  have h2 : ∃ z, fn.body = some z := by
    cases h : fn.body with
    | none => rw [h] at hb; cases hb
    | some z => exact ⟨z, rfl⟩
  obtain ⟨z, h2⟩ := h2
  simp only [ho, resolve, invoke, Sem.run_bind, Sem.run_pure, Result.andThen_ok, hv2, Act.eval, Deferred.ofValue, Array.empty_append, Array.append_empty]
  simp [callFunc, hf, h1, h2, Sem.run]
  rw [Oper.upon_enter]
  exact h.mono fun e w' ⟨v, he, hk⟩ => by subst he; exact hk
end
set_option maxHeartbeats 8000000
set_option maxRecDepth 100000
def awO : List Opn := [⟨1, 0, 0, 0, 0⟩, ⟨2, 0, 0, 5, 0⟩, ⟨3, 0, 0, 5, 7⟩, ⟨3, 0, 0, 5, 8⟩, ⟨1, 0, 0, 0, 0⟩]
def awA : List Ans := [⟨1, 0⟩, ⟨0, 0⟩, ⟨3, 0⟩, ⟨4, 0⟩, ⟨1, 7⟩]
theorem aw_run : rgS 0 awO = 7 ∧ rgL 0 awO = awA ∧ rgE 0 awO = 0 := by decide
theorem aw_in : ∀ x ∈ awO, x.In := by
  intro x hx
  simp only [awO, List.mem_cons, List.not_mem_nil, or_false] at hx
  rcases hx with rfl | rfl | rfl | rfl | rfl <;> exact ⟨by decide, by decide, by decide, by decide, by decide, by decide, by decide, by decide, by decide, by decide⟩
theorem awake9_any {G : World → Prop} (R : RgProg G) (w : World) (hG : G w) : Calls Try.prog 11 #[] w fun e w' => e = .returned (.bool true) ∧ Keeps [] w w' := by
  have HR := Lib.hid R; have HG := Lib.hid hG
  clear R hG
  go_enter Try.func11, Try.ntmps11
  go_wp2_with fail
  refine (HR.out.new _ HG.out).mono ?_; rintro e w0 ⟨rfl, hk0⟩
  have HK0 := Lib.hid hk0
  clear hk0
  go_wp2_with fail
  refine (op9_any _ _ _ _).mono ?_; rintro e w1 ⟨rfl, hk1⟩
  have HK1 := Lib.hid (HK0.out.trans hk1 (FSub.refl _ _))
  clear hk1 HK0
  go_wp2_with fail
  refine (op9_any _ _ _ _).mono ?_; rintro e w2 ⟨rfl, hk2⟩
  have HK2 := Lib.hid (HK1.out.trans hk2 (FSub.refl _ _))
  clear hk2 HK1
  go_wp2_with fail
  refine (op9_any _ _ _ _).mono ?_; rintro e w3 ⟨rfl, hk3⟩
  have HK3 := Lib.hid (HK2.out.trans hk3 (FSub.refl _ _))
  clear hk3 HK2
  go_wp2_with fail
  refine (op9_any _ _ _ _).mono ?_; rintro e w4 ⟨rfl, hk4⟩
  have HK4 := Lib.hid (HK3.out.trans hk4 (FSub.refl _ _))
  clear hk4 HK3
  go_wp2_with fail
  refine (op9_any _ _ _ _).mono ?_; rintro e w5 ⟨rfl, hk5⟩
  have HK5 := Lib.hid (HK4.out.trans hk5 (FSub.refl _ _))
  clear hk5 HK4
  go_wp2_with ((with_reducible refine wpList_litO awO ?_ ?_ ?_ ?_ ?_); exact rfl; exact rfl; decide; decide)
  intro W hs hk hin
  have HKW := Lib.hid (HK5.out.trans hk (FSub.refl _ _))
  have HIN := Lib.hid hin
  clear hs hk hin HK5
  generalize w5.heap.size = b at *
  go_wp2_with fail
  refine (HR.out.run _ _ _ awO (HR.out.keep HG.out HKW.out) ⟨by decide, by decide⟩ aw_in HIN.out (by decide)).mono ?_; rintro e w6 ⟨v', rfl, hin6, hk6⟩
  have HK6 := Lib.hid (HKW.out.trans hk6 (FSub.refl _ _))
  rw [aw_run.2.1] at hin6
  rw [aw_run.1, aw_run.2.2]
  obtain ⟨a6, c6, rfl, -, -, -⟩ := id hin6
  have HIN6 := Lib.hid hin6
  clear hk6 hin6 HKW HIN
  go_wp2_with fail
  refine (is9_any _ _ _).mono ?_; rintro e w7 ⟨rfl, hk7⟩
  have HS7 := Lib.hid hk7
  clear hk7
  go_wp2_with fail
  refine (is9_any _ _ _).mono ?_; rintro e w8 ⟨rfl, hk8⟩
  have HS8 := Lib.hid (HS7.out.trans hk8 (FSub.refl _ _))
  clear hk8 HS7
  go_wp2_with fail
  refine (is9_any _ _ _).mono ?_; rintro e w9 ⟨rfl, hk9⟩
  have HS9 := Lib.hid (HS8.out.trans hk9 (FSub.refl _ _))
  clear hk9 HS8
  go_wp2_with fail
  refine (is9_any _ _ _).mono ?_; rintro e w10 ⟨rfl, hk10⟩
  have HS10 := Lib.hid (HS9.out.trans hk10 (FSub.refl _ _))
  clear hk10 HS9
  go_wp2_with fail
  refine (is9_any _ _ _).mono ?_; rintro e w11 ⟨rfl, hk11⟩
  have HS11 := Lib.hid (HS10.out.trans hk11 (FSub.refl _ _))
  clear hk11 HS10
  go_wp2_with ((with_reducible refine wpList_litA awA ?_ ?_ ?_ ?_ ?_ ?_); exact rfl; exact rfl; exact rfl; decide; decide)
  intro W2 hs2 hk2 hin2
  have HKZ := Lib.hid (HS11.out.trans hk2 (FSub.refl _ _))
  have HKF := Lib.hid (HK6.out.trans HKZ.out (FSub.refl _ _))
  have HZ := Lib.hid hin2
  clear hs2 hk2 hin2 HS11
  generalize w11.heap.size = b2 at *
  go_wp2_with fail
  refine (answers9_any _ (HIN6.out.new HKZ.out (Nat.le_refl _)) HZ.out HKZ.out.size (Nat.le_refl _)).mono ?_; rintro e w12 ⟨rfl, hk12⟩
  have HKE := Lib.hid (HKF.out.trans hk12 (FSub.refl _ _))
  clear hk12
  go_wp2_with fail
  go_ret
  exact ⟨rfl, HKE.out⟩
end Go.Proofs.Ytockahocmomdlaa
/-
  RegisterKnown's walk, over any program's register.
-/
namespace Go.Proofs.Ytockahocmomdlaa
open Go.RowKit
set_option maxHeartbeats 8000000
set_option maxRecDepth 100000
def knO : List Opn := [⟨2, 0, 0, 5, 0⟩, ⟨4, 0, 0, 1, 0⟩, ⟨1, 0, 0, 0, 0⟩]
theorem kn_run : rgS 0 knO = 5 ∧ rgL 0 knO = [⟨0, 0⟩] ∧ rgE 0 knO = 10 := by decide
theorem kn_step : rgX 9 ⟨4, 0, 0, 1, 0⟩ = (9, ⟨0, 0⟩, 10) := by decide
theorem kn_in : ∀ x ∈ knO, x.In := by
  intro x hx
  simp only [knO, List.mem_cons, List.not_mem_nil, or_false] at hx
  rcases hx with rfl | rfl | rfl <;> exact ⟨by decide, by decide, by decide, by decide, by decide, by decide, by decide, by decide, by decide, by decide⟩
theorem RegisterKnown_any {G : World → Prop} (R : RgProg G) (w : World) (hG : G w) : Calls Try.prog 5 #[] w fun e w' => e = .returned (.bool true) ∧ Keeps [] w w' := by
  have HR := Lib.hid R; have HG := Lib.hid hG
  clear R hG
  go_enter Try.func5, Try.ntmps5
  go_wp2_with fail
  refine (op9_any _ _ _ _).mono ?_; rintro e w0 ⟨rfl, hk⟩
  have HK0 := Lib.hid hk
  clear hk
  go_wp2_with fail
  refine (HR.out.step _ 9 ⟨4, 0, 0, 1, 0⟩ (HR.out.keep HG.out HK0.out) ⟨by decide, by decide⟩ (kn_in _ (by simp [knO]))).mono ?_; rintro e w1 ⟨rfl, hk⟩
  have HK1 := Lib.hid (HK0.out.trans hk (FSub.refl _ _))
  clear hk HK0
  rw [kn_step]
  simp only [ansC]
  have HKA := Lib.hid (HK1.out.alloc (.cells #[.int .u8 0, .int .u16 0] 27))
  clear HK1
  go_wp2_with fail
  refine (op9_any _ _ _ _).mono ?_; rintro e w2 ⟨rfl, hk⟩
  have HK2 := Lib.hid (HKA.out.trans hk (FSub.refl _ _))
  clear hk HKA
  go_wp2_with fail
  refine (op9_any _ _ _ _).mono ?_; rintro e w3 ⟨rfl, hk⟩
  have HK3 := Lib.hid (HK2.out.trans hk (FSub.refl _ _))
  clear hk HK2
  go_wp2_with fail
  refine (op9_any _ _ _ _).mono ?_; rintro e w4 ⟨rfl, hk⟩
  have HK4 := Lib.hid (HK3.out.trans hk (FSub.refl _ _))
  clear hk HK3
  go_wp2_with ((with_reducible refine wpList_litO knO ?_ ?_ ?_ ?_ ?_); exact rfl; exact rfl; decide; decide)
  intro W hs hk hin
  have HKW := Lib.hid (HK4.out.trans hk (FSub.refl _ _))
  have HIN := Lib.hid hin
  clear hs hk hin HK4
  generalize w4.heap.size = b at *
  go_wp2_with fail
  refine (HR.out.run _ _ _ knO (HR.out.keep HG.out HKW.out) ⟨by decide, by decide⟩ kn_in HIN.out (by decide)).mono ?_; rintro e w5 ⟨v', rfl, hin6, hk⟩
  have HK5 := Lib.hid (HKW.out.trans hk (FSub.refl _ _))
  rw [kn_run.2.1] at hin6
  rw [kn_run.1, kn_run.2.2]
  obtain ⟨a6, c6, rfl, -, -, -⟩ := id hin6
  have HIN6 := Lib.hid hin6
  clear hk hin6 HKW HIN
  have HSZ := Lib.hid (Keeps.refl [] w5)
  go_wp2_with fail
  refine (HR.out.dec _ [1, 2] (HR.out.keep HG.out HK5.out) (by decide)).mono ?_; rintro e w6 ⟨q1, rfl, hq1, -, hk⟩
  have HK6 := Lib.hid (HK5.out.trans hk (FSub.refl _ _))
  have HS6 := Lib.hid (HSZ.out.trans hk (FSub.refl _ _))
  clear hk HK5 HSZ
  have h258 : q1 = 258 := by rw [hq1 rfl]; decide
  clear hq1
  subst h258
  simp only [List.length_cons, List.length_nil]
  go_wp2_with fail
  refine (HR.out.dec _ [1] (HR.out.keep HG.out HK6.out) (by decide)).mono ?_; rintro e w7 ⟨q2, rfl, hq2, -, hk⟩
  have HK7 := Lib.hid (HK6.out.trans hk (FSub.refl _ _))
  have HS7 := Lib.hid (HS6.out.trans hk (FSub.refl _ _))
  clear hk HK6 HS6
  clear hq2
  simp only [List.length_cons, List.length_nil]
  go_wp2_with fail
  refine (HR.out.dec _ [1, 2, 3] (HR.out.keep HG.out HK7.out) (by decide)).mono ?_; rintro e w8 ⟨q3, rfl, hq3, -, hk⟩
  have HK8 := Lib.hid (HK7.out.trans hk (FSub.refl _ _))
  have HS8 := Lib.hid (HS7.out.trans hk (FSub.refl _ _))
  clear hk HK7 HS7
  clear hq3
  simp only [List.length_cons, List.length_nil]
  go_wp2_with fail
  refine (is9_any _ _ _).mono ?_; rintro e w9 ⟨rfl, hk⟩
  have HK9 := Lib.hid (HK8.out.trans hk (FSub.refl _ _))
  have HS9 := Lib.hid (HS8.out.trans hk (FSub.refl _ _))
  clear hk HK8 HS8
  go_wp2_with ((with_reducible refine wpList_litA [⟨0, 0⟩] ?_ ?_ ?_ ?_ ?_ ?_); exact rfl; exact rfl; exact rfl; decide; decide)
  intro W2 hs2 hk hin2
  have HKZ := Lib.hid (HK9.out.trans hk (FSub.refl _ _))
  have HSS := Lib.hid (HS9.out.trans hk (FSub.refl _ _))
  have HZ := Lib.hid hin2
  clear hs2 hk hin2 HK9 HS9
  generalize w9.heap.size = b2 at *
  go_wp2_with fail
  refine (answers9_any _ (HIN6.out.new HSS.out (Nat.le_refl _)) HZ.out HSS.out.size (Nat.le_refl _)).mono ?_; rintro e w10 ⟨rfl, hk⟩
  have HK10 := Lib.hid (HKZ.out.trans hk (FSub.refl _ _))
  clear hk HKZ HSS HZ HIN6
  go_wp2_with fail
  refine (HR.out.enc _ 258 (HR.out.keep HG.out HK10.out) ⟨by decide, by decide⟩).mono ?_; rintro e w11 ⟨rfl, hk⟩
  have HK11 := Lib.hid (HK10.out.trans hk (FSub.refl _ _))
  clear hk HK10
  rw [show bs (rgB 258) = ⟨#[1, 2]⟩ from by rw [show rgB 258 = [1, 2] from by decide]; rfl]
  go_wp2_with fail
  refine (HR.out.idle _ 1 (HR.out.keep HG.out HK11.out) ⟨by decide, by decide⟩).mono ?_; rintro e w12 ⟨rfl, hk⟩
  have HK12 := Lib.hid (HK11.out.trans hk (FSub.refl _ _))
  clear hk HK11
  rw [show decide ((1 : Int) = 1) = true from by decide]
  go_wp2_with fail
  refine (HR.out.idle _ 3 (HR.out.keep HG.out HK12.out) ⟨by decide, by decide⟩).mono ?_; rintro e w13 ⟨rfl, hk⟩
  have HK13 := Lib.hid (HK12.out.trans hk (FSub.refl _ _))
  clear hk HK12
  rw [show decide ((3 : Int) = 1) = false from by decide]
  go_wp2_with fail
  refine (HR.out.idle _ 6 (HR.out.keep HG.out HK13.out) ⟨by decide, by decide⟩).mono ?_; rintro e w14 ⟨rfl, hk⟩
  have HK14 := Lib.hid (HK13.out.trans hk (FSub.refl _ _))
  clear hk HK13
  rw [show decide ((6 : Int) = 1) = false from by decide]
  go_wp2_with fail
  refine (HR.out.new _ (HR.out.keep HG.out HK14.out)).mono ?_; rintro e w15 ⟨rfl, hk⟩
  have HK15 := Lib.hid (HK14.out.trans hk (FSub.refl _ _))
  clear hk HK14
  go_wp2_with fail
  refine (awake9_any HR.out _ (HR.out.keep HG.out HK15.out)).mono ?_; rintro e w16 ⟨rfl, hk⟩
  have HK16 := Lib.hid (HK15.out.trans hk (FSub.refl _ _))
  clear hk HK15
  go_wp2_with fail
  go_ret
  exact ⟨rfl, HK16.out⟩
end Go.Proofs.Ytockahocmomdlaa
