/-
  The law's awake, over any program's sets.
-/
import Derived.Great.FillDense
import Derived.Great.BuildSlice
import Derived.Test.YtbeniihbejakaaaDoorBA13
import Derived.Test.YtbeniihbejakaaaDoorBA21
import Derived.Test.YtbeniihbejakaaaDoorBA09
set_option linter.unusedSimpArgs false
set_option linter.unusedVariables false
namespace Go.Proofs.YtbeniihbejakaaaDoor
open Go.RowKit
set_option maxRecDepth 100000
set_option maxHeartbeats 8000000
variable {G : World → Prop}
section
variable {ops : Array Oper} {rest : List Oper} {o : Oper} {a : Act} {w : World} {K : Act → World → Prop} {Q : Exit → Act → World → Prop}
theorem rowZ : ∀ L : List Int, rkZ.row L = L.map (Value.int .i64 ·)
  | [] => rfl
  | x :: L => by
    show (x :: L).flatMap zC = _
    rw [List.flatMap_cons, List.map_cons, ← rowZ L]; rfl
theorem lit_inZ {N b : Nat} {L : List Int} (hb : w.heap[b]? = some (.cells (L.map (Value.int .i64 ·)).toArray 3 (0, 0))) (hN : b < N) (hm : L.length ≤ 10000) : rkZ.In N w (.slice (some ⟨b, 0, none⟩) L.length L.length) L := by
  rw [← rowZ] at hb
  refine ⟨_, _, rfl, Nat.le_refl _, by omega, fun _ => ⟨b, 0, rfl, hN, fun j hj => ?_⟩⟩
  intro i u hi
  have := rkZ.row_get L j L[j] (List.getElem?_eq_getElem hj) i u hi
  simp only [World.cell?, hb, Nat.zero_add]
  simpa using this
theorem wp_litZ {xs : Array (Nat × Operand)} (L : List Int) (ho : o.op = .buildSlice 30 L.length xs) (hx : (xs.toList.map fun p => (p.1, a.eval p.2)) = ((L.map (Value.int .i64 ·)).zipIdx 0).map fun x => (x.2, x.1)) (hs : L.length ≤ 1000) (hp : 0 < L.length)
    (h : K (a.put o.dst (.slice (some ⟨w.heap.size, 0, none⟩) L.length L.length)) (w.alloc (.cells (L.map (Value.int .i64 ·)).toArray 3))) : o.wp Tryd.prog a w K Q := by
  refine wp_buildSlice 30 3 L.length xs ho (L.map (Value.int .i64 ·)).toArray rkZ.i _ rkZ.und rkZ.hi rkZ.hz (by rw [rkZ.hs]; show ¬ L.length * 1 > _; omega) (by rw [rkZ.hs]; show ¬ L.length * 1 = 0; omega) ?_ h
  rw [rkZ.hs, show (Array.map (fun (i, x) => (i, a.eval x)) xs).toList = xs.toList.map (fun p => (p.1, a.eval p.2)) from by rw [Array.toList_map], hx]
  exact Great.fill_flat _ _ (by intro v hv; obtain ⟨y, _, rfl⟩ := List.mem_map.1 hv; rfl) (by simp; show _ = L.length * 1; omega)
theorem wpList_litZ {dst : Option Tmp} {ty : TypeId} {pos : String} {after : Array Edge} {gd : Option (Nat × Bool)} {n : Nat} {xs : Array (Nat × Operand)} (L : List Int) (hn : n = L.length)
    (hw : Region.wanted { dst := dst, op := .buildSlice 30 n xs, type := ty, pos := pos, after := after, guard := gd } (yielded ops a.tmps) = true)
    (hx : (xs.toList.map fun p => (p.1, a.eval p.2)) = ((L.map (Value.int .i64 ·)).zipIdx 0).map fun x => (x.2, x.1)) (hs : L.length ≤ 1000) (hp : 0 < L.length)
    (h : ∀ W, W.heap.size = w.heap.size + 1 → Keeps [] w W → rkZ.In W.heap.size W (.slice (some ⟨w.heap.size, 0, none⟩) n n) L → wpList Tryd.prog ops Q rest (a.put dst (.slice (some ⟨w.heap.size, 0, none⟩) n n)) W) :
    wpList Tryd.prog ops Q ({ dst := dst, op := .buildSlice 30 n xs, type := ty, pos := pos, after := after, guard := gd } :: rest) a w := by
  subst hn
  refine wpList_step fun _ hK => ?_
  rw [if_pos hw]
  refine wp_litZ L rfl hx hs hp (hK _ _ (h _ (Array.size_push _) ((Keeps.refl [] w).alloc _) ?_))
  exact lit_inZ (heap_alloc_new w _) (by rw [show (w.alloc _).heap.size = w.heap.size + 1 from Array.size_push _]; omega) (by omega)
end
theorem aw1 : ofB [1, 9, 1, -1] = [1, 9] := by decide
theorem aw2 : bs (keyB [1, 9]) = { data := #[2, 2] } := by
  rw [show keyB [1, 9] = [2, 2] by decide]; rfl
theorem aw3 : withoutB (withB [1, 9] 0) 9 = [0, 1] := by decide
theorem aw4 : bs (keyB [0, 1]) = { data := #[3] } := by
  rw [show keyB [0, 1] = [3] by decide]; rfl
theorem aw5 : downB [1, 9] 2 = [7] := by decide
theorem awake15_any (R : BtProg G) (w : World) (hG : G w) : Calls Tryd.prog 9 #[] w fun e w' => e = .returned (.bool true) ∧ Keeps [] w w' := by
  have HGL := Lib.hid (fun w' (h : Keeps [] w w') => R.keepG hG h)
  clear hG
  go_enter Tryd.func9, Tryd.ntmps9
  go_wp2_with ((with_reducible refine wpList_litZ [1, 9, 1, -1] ?_ ?_ ?_ (by decide) (by decide) ?_); exact rfl; exact rfl; exact rfl)
  intro w1 hz hk hI
  have HK := Lib.hid hk; have HI := Lib.hid hI
  clear hz hk hI
  generalize w.heap.size = ga at *
  go_wp2_with fail
  refine (R.of w1 _ [1, 9, 1, -1] (HGL.out _ HK.out) HI.out (by decide)).mono ?_; rintro e w2 ⟨st, rfl, hat, hk, -⟩
  rw [aw1] at hat
  replace HK := Lib.hid (HK.out.trans hk (FSub.refl _ _))
  obtain ⟨A1, rfl, hok⟩ := R.cells hat
  have HO1 := Lib.hid hok; have H1 := Lib.hid hat
  clear hat hok hk HI
  have HNC := Lib.hid (show (w2.alloc (.cells btZA 27)).heap[w2.heap.size]? = some (.cells btZ.toArray 27 (0, 0)) from heap_alloc_new w2 _)
  have HNK := Lib.hid (show Keeps [] w2 (w2.alloc (.cells btZA 27)) from (Keeps.refl _ _).alloc _)
  go_wp2_with ((with_reducible refine wpList_putBt (g := w2.heap.size) (old := btZ) (A := A1) HO1.out btZ_ok ?_ ?_ HNC.out ?_); exact rfl; exact rfl)
  intro w3 hW hk2
  have hk := HNK.out.trans' hk2 (Nat.le_refl _)
  replace HK := Lib.hid (HK.out.trans hk (FSub.refl _ _)); replace H1 := Lib.hid (R.new H1.out hk)
  have HB1 := Lib.hid hW
  clear hk hW hk2 HNC HNK
  generalize w2.heap.size = g1 at *
  go_wp2_with (first
    | ((with_reducible refine wpList_loadBt (g := g1) HO1.out ?_ ?_ (block_range HB1.out) ?_); exact rfl; exact rfl)
    | ((with_reducible refine wpList_litZ [1, 9] ?_ ?_ ?_ (by decide) (by decide) ?_); exact rfl; exact rfl; exact rfl))
  intro w4 hz hk hI
  replace HK := Lib.hid (HK.out.trans hk (FSub.refl _ _)); replace H1 := Lib.hid (R.new H1.out hk); replace HB1 := Lib.hid (hk.heap HB1.out (by simp))
  have HI := Lib.hid hI
  clear hz hk hI
  generalize w3.heap.size = gb at *
  go_wp2_with fail
  refine (is15_true R w4 (HGL.out _ HK.out) H1.out HI.out).mono ?_; rintro e w5 ⟨rfl, hk⟩
  replace HK := Lib.hid (HK.out.trans hk (FSub.refl _ _)); replace H1 := Lib.hid (R.new H1.out hk); replace HB1 := Lib.hid (hk.heap HB1.out (by simp))
  clear hk HI
  go_wp2_with ((with_reducible refine wpList_loadBt (g := g1) HO1.out ?_ ?_ (block_range HB1.out) ?_); exact rfl; exact rfl)
  have hTD := R.key w5 _ _ (HGL.out _ HK.out) H1.out
  rw [aw2] at hTD
  refine hTD.mono ?_; rintro e w6 ⟨rfl, hk⟩
  replace HK := Lib.hid (HK.out.trans hk (FSub.refl _ _)); replace H1 := Lib.hid (R.new H1.out hk); replace HB1 := Lib.hid (hk.heap HB1.out (by simp))
  clear hk hTD
  go_wp2_with ((with_reducible refine wpList_loadBt (g := g1) HO1.out ?_ ?_ (block_range HB1.out) ?_); exact rfl; exact rfl)
  refine (R.with_ w6 _ _ 0 (HGL.out _ HK.out) H1.out (by unfold I64; omega)).mono ?_; rintro e w7 ⟨st, rfl, hat, hk, -⟩
  replace HK := Lib.hid (HK.out.trans hk (FSub.refl _ _)); replace H1 := Lib.hid (R.new H1.out hk); replace HB1 := Lib.hid (hk.heap HB1.out (by simp))
  have H2 := Lib.hid hat
  clear hat hk
  go_wp2_with fail
  refine (R.without w7 _ _ 9 (HGL.out _ HK.out) H2.out (by unfold I64; omega)).mono ?_; rintro e w8 ⟨st2, rfl, hat, hk, -⟩
  rw [aw3] at hat
  replace HK := Lib.hid (HK.out.trans hk (FSub.refl _ _)); replace H1 := Lib.hid (R.new H1.out hk); replace HB1 := Lib.hid (hk.heap HB1.out (by simp))
  have H3 := Lib.hid hat
  clear hat hk H2
  go_wp2_with fail
  have hTD := R.key w8 _ _ (HGL.out _ HK.out) H3.out
  rw [aw4] at hTD
  refine hTD.mono ?_; rintro e w9 ⟨rfl, hk⟩
  replace HK := Lib.hid (HK.out.trans hk (FSub.refl _ _)); replace H1 := Lib.hid (R.new H1.out hk); replace HB1 := Lib.hid (hk.heap HB1.out (by simp))
  clear hk hTD H3
  go_wp2_with ((with_reducible refine wpList_loadBt (g := g1) HO1.out ?_ ?_ (block_range HB1.out) ?_); exact rfl; exact rfl)
  refine (R.count w9 _ _ (HGL.out _ HK.out) H1.out).mono ?_; rintro e w10 ⟨rfl, hk⟩
  replace HK := Lib.hid (HK.out.trans hk (FSub.refl _ _)); replace H1 := Lib.hid (R.new H1.out hk); replace HB1 := Lib.hid (hk.heap HB1.out (by simp))
  clear hk
  go_wp2_with ((with_reducible refine wpList_loadBt (g := g1) HO1.out ?_ ?_ (block_range HB1.out) ?_); exact rfl; exact rfl)
  refine (R.down w10 _ _ 2 (HGL.out _ HK.out) H1.out (by unfold I64; omega)).mono ?_; rintro e w11 ⟨st3, rfl, hat, hk, -⟩
  rw [aw5] at hat
  replace HK := Lib.hid (HK.out.trans hk (FSub.refl _ _)); replace H1 := Lib.hid (R.new H1.out hk); replace HB1 := Lib.hid (hk.heap HB1.out (by simp))
  obtain ⟨A4, rfl, -⟩ := R.cells hat
  have H4 := Lib.hid hat
  clear hat hk
  go_wp2_with ((with_reducible refine wpList_litZ [7] ?_ ?_ ?_ (by decide) (by decide) ?_); exact rfl; exact rfl; exact rfl)
  intro w12 hz hk hI
  replace HK := Lib.hid (HK.out.trans hk (FSub.refl _ _)); replace H1 := Lib.hid (R.new H1.out hk); replace HB1 := Lib.hid (hk.heap HB1.out (by simp))
  replace H4 := Lib.hid (R.new H4.out hk)
  have HI := Lib.hid hI
  clear hz hk hI
  generalize w11.heap.size = gc at *
  go_wp2_with fail
  refine (is15_true R w12 (HGL.out _ HK.out) H4.out HI.out).mono ?_; rintro e w13 ⟨rfl, hk⟩
  replace HK := Lib.hid (HK.out.trans hk (FSub.refl _ _)); replace H1 := Lib.hid (R.new H1.out hk); replace HB1 := Lib.hid (hk.heap HB1.out (by simp))
  clear hk
  go_wp2_with fail
  go_ret
  exact ⟨rfl, HK.out⟩
end Go.Proofs.YtbeniihbejakaaaDoor
/-
  The law BitsPlays, over any program's sets.
-/
namespace Go.Proofs.YtbeniihbejakaaaDoor
open Go.RowKit
set_option maxRecDepth 100000
set_option maxHeartbeats 8000000
variable {G : World → Prop}
section
variable {ops : Array Oper} {S : World → Prop} {o : Oper} {a : Act}
end
section
variable {o : Oper} {a : Act} {w : World} {K : Act → World → Prop} {Q : Exit → Act → World → Prop}
theorem run_allocBt (w : World) : (Instr.alloc 27 true (.tuple #[])).run Tryd.prog w = .ok (.pointer (some ⟨w.heap.size, 0, none⟩)) (w.alloc (.cells btZ.toArray 27)) := by kernel_rfl
theorem wp_allocBt (ho : o.op = .alloc 27) (h : K (a.put o.dst (.pointer (some ⟨w.heap.size, 0, none⟩))) (w.alloc (.cells btZ.toArray 27))) : o.wp Tryd.prog a w K Q := by
  unfold Oper.wp execOp
  simp only [ho, Sem.run_bind, run_allocBt, Result.andThen_ok, Sem.run_pure]
  exact h
end
end Go.Proofs.YtbeniihbejakaaaDoor
