/-
  The law's awake, over any program's sets.
-/
import Derived.Test.YtbeniihbejakaaaDoorBP00
import Derived.Great.FillDense
import Derived.Great.BuildSlice
import Derived.Test.YtbeniihbejakaaaDoorBP14
import Derived.Test.YtbeniihbejakaaaDoorBP22
import Derived.Test.YtbeniihbejakaaaDoorBP09
set_option linter.unusedSimpArgs false
set_option linter.unusedVariables false
namespace Go.Proofs.YtbeniihbejakaaaDoor
open Go.RowKit
set_option maxRecDepth 100000
set_option maxHeartbeats 8000000
variable {G : World → Prop}
section
variable {ops : Array Oper} {rest : List Oper} {o : Oper} {a : Act} {w : World} {K : Act → World → Prop} {Q : Exit → Act → World → Prop}
theorem rowZ : ∀ L : List Int, rkZ.row L = L.map (Value.int .i64 ·)
  | [] => rfl
  | x :: L => by
    show (x :: L).flatMap zC = _
    rw [List.flatMap_cons, List.map_cons, ← rowZ L]; rfl
theorem lit_inZ {N b : Nat} {L : List Int} (hb : w.heap[b]? = some (.cells (L.map (Value.int .i64 ·)).toArray 3 (0, 0))) (hN : b < N) (hm : L.length ≤ 10000) : rkZ.In N w (.slice (some ⟨b, 0, none⟩) L.length L.length) L := by
  rw [← rowZ] at hb
  refine ⟨_, _, rfl, Nat.le_refl _, by omega, fun _ => ⟨b, 0, rfl, hN, fun j hj => ?_⟩⟩
  intro i u hi
  have := rkZ.row_get L j L[j] (List.getElem?_eq_getElem hj) i u hi
  simp only [World.cell?, hb, Nat.zero_add]
  simpa using this
theorem wp_litZ {xs : Array (Nat × Operand)} (L : List Int) (ho : o.op = .buildSlice 30 L.length xs) (hx : (xs.toList.map fun p => (p.1, a.eval p.2)) = ((L.map (Value.int .i64 ·)).zipIdx 0).map fun x => (x.2, x.1)) (hs : L.length ≤ 1000) (hp : 0 < L.length)
    (h : K (a.put o.dst (.slice (some ⟨w.heap.size, 0, none⟩) L.length L.length)) (w.alloc (.cells (L.map (Value.int .i64 ·)).toArray 3))) : o.wp Tryd.prog a w K Q := by
  refine wp_buildSlice 30 3 L.length xs ho (L.map (Value.int .i64 ·)).toArray rkZ.i _ rkZ.und rkZ.hi rkZ.hz (by rw [rkZ.hs]; show ¬ L.length * 1 > _; omega) (by rw [rkZ.hs]; show ¬ L.length * 1 = 0; omega) ?_ h
  rw [rkZ.hs, show (Array.map (fun (i, x) => (i, a.eval x)) xs).toList = xs.toList.map (fun p => (p.1, a.eval p.2)) from by rw [Array.toList_map], hx]
  exact Great.fill_flat _ _ (by intro v hv; obtain ⟨y, _, rfl⟩ := List.mem_map.1 hv; rfl) (by simp; show _ = L.length * 1; omega)
theorem wpList_litZ {dst : Option Tmp} {ty : TypeId} {pos : String} {after : Array Edge} {gd : Option (Nat × Bool)} {n : Nat} {xs : Array (Nat × Operand)} (L : List Int) (hn : n = L.length)
    (hw : Region.wanted { dst := dst, op := .buildSlice 30 n xs, type := ty, pos := pos, after := after, guard := gd } (yielded ops a.tmps) = true)
    (hx : (xs.toList.map fun p => (p.1, a.eval p.2)) = ((L.map (Value.int .i64 ·)).zipIdx 0).map fun x => (x.2, x.1)) (hs : L.length ≤ 1000) (hp : 0 < L.length)
    (h : ∀ W, W.heap.size = w.heap.size + 1 → Keeps [] w W → rkZ.In W.heap.size W (.slice (some ⟨w.heap.size, 0, none⟩) n n) L → wpList Tryd.prog ops Q rest (a.put dst (.slice (some ⟨w.heap.size, 0, none⟩) n n)) W) :
    wpList Tryd.prog ops Q ({ dst := dst, op := .buildSlice 30 n xs, type := ty, pos := pos, after := after, guard := gd } :: rest) a w := by
  subst hn
  refine wpList_step fun _ hK => ?_
  rw [if_pos hw]
  refine wp_litZ L rfl hx hs hp (hK _ _ (h _ (Array.size_push _) ((Keeps.refl [] w).alloc _) ?_))
  exact lit_inZ (heap_alloc_new w _) (by rw [show (w.alloc _).heap.size = w.heap.size + 1 from Array.size_push _]; omega) (by omega)
end
theorem aw1 : ofB [1, 9, 1, -1] = [1, 9] := by decide
theorem aw2 : bs (keyB [1, 9]) = { data := #[2, 2] } := by
  rw [show keyB [1, 9] = [2, 2] by decide]; rfl
theorem aw3 : withoutB (withB [1, 9] 0) 9 = [0, 1] := by decide
theorem aw4 : bs (keyB [0, 1]) = { data := #[3] } := by
  rw [show keyB [0, 1] = [3] by decide]; rfl
theorem aw5 : downB [1, 9] 2 = [7] := by decide
theorem awake15_any (R : BtProg G) (w : World) (hG : G w) : Calls Tryd.prog 9 #[] w fun e w' => e = .returned (.bool true) ∧ Keeps [] w w' := by
  have HGL := Lib.hid (fun w' (h : Keeps [] w w') => R.keepG hG h)
  clear hG
  go_enter Tryd.func9, Tryd.ntmps9
  go_wp2_with ((with_reducible refine wpList_litZ [1, 9, 1, -1] ?_ ?_ ?_ (by decide) (by decide) ?_); exact rfl; exact rfl; exact rfl)
  intro w1 hz hk hI
  have HK := Lib.hid hk; have HI := Lib.hid hI
  clear hz hk hI
  generalize w.heap.size = ga at *
  go_wp2_with fail
  refine (R.of w1 _ [1, 9, 1, -1] (HGL.out _ HK.out) HI.out (by decide)).mono ?_; rintro e w2 ⟨st, rfl, hat, hk, -⟩
  rw [aw1] at hat
  replace HK := Lib.hid (HK.out.trans hk (FSub.refl _ _))
  obtain ⟨A1, rfl, hok⟩ := R.cells hat
  have HO1 := Lib.hid hok; have H1 := Lib.hid hat
  clear hat hok hk HI
  have HNC := Lib.hid (show (w2.alloc (.cells btZA 27)).heap[w2.heap.size]? = some (.cells btZ.toArray 27 (0, 0)) from heap_alloc_new w2 _)
  have HNK := Lib.hid (show Keeps [] w2 (w2.alloc (.cells btZA 27)) from (Keeps.refl _ _).alloc _)
  go_wp2_with ((with_reducible refine wpList_putBt (g := w2.heap.size) (old := btZ) (A := A1) HO1.out btZ_ok ?_ ?_ HNC.out ?_); exact rfl; exact rfl)
  intro w3 hW hk2
  have hk := HNK.out.trans' hk2 (Nat.le_refl _)
  replace HK := Lib.hid (HK.out.trans hk (FSub.refl _ _)); replace H1 := Lib.hid (R.new H1.out hk)
  have HB1 := Lib.hid hW
  clear hk hW hk2 HNC HNK
  generalize w2.heap.size = g1 at *
  go_wp2_with (first
    | ((with_reducible refine wpList_loadBt (g := g1) HO1.out ?_ ?_ (block_range HB1.out) ?_); exact rfl; exact rfl)
    | ((with_reducible refine wpList_litZ [1, 9] ?_ ?_ ?_ (by decide) (by decide) ?_); exact rfl; exact rfl; exact rfl))
  intro w4 hz hk hI
  replace HK := Lib.hid (HK.out.trans hk (FSub.refl _ _)); replace H1 := Lib.hid (R.new H1.out hk); replace HB1 := Lib.hid (hk.heap HB1.out (by simp))
  have HI := Lib.hid hI
  clear hz hk hI
  generalize w3.heap.size = gb at *
  go_wp2_with fail
  refine (is15_true R w4 (HGL.out _ HK.out) H1.out HI.out).mono ?_; rintro e w5 ⟨rfl, hk⟩
  replace HK := Lib.hid (HK.out.trans hk (FSub.refl _ _)); replace H1 := Lib.hid (R.new H1.out hk); replace HB1 := Lib.hid (hk.heap HB1.out (by simp))
  clear hk HI
  go_wp2_with ((with_reducible refine wpList_loadBt (g := g1) HO1.out ?_ ?_ (block_range HB1.out) ?_); exact rfl; exact rfl)
  have hTD := R.key w5 _ _ (HGL.out _ HK.out) H1.out
  rw [aw2] at hTD
  refine hTD.mono ?_; rintro e w6 ⟨rfl, hk⟩
  replace HK := Lib.hid (HK.out.trans hk (FSub.refl _ _)); replace H1 := Lib.hid (R.new H1.out hk); replace HB1 := Lib.hid (hk.heap HB1.out (by simp))
  clear hk hTD
  go_wp2_with ((with_reducible refine wpList_loadBt (g := g1) HO1.out ?_ ?_ (block_range HB1.out) ?_); exact rfl; exact rfl)
  refine (R.with_ w6 _ _ 0 (HGL.out _ HK.out) H1.out (by unfold I64; omega)).mono ?_; rintro e w7 ⟨st, rfl, hat, hk, -⟩
  replace HK := Lib.hid (HK.out.trans hk (FSub.refl _ _)); replace H1 := Lib.hid (R.new H1.out hk); replace HB1 := Lib.hid (hk.heap HB1.out (by simp))
  have H2 := Lib.hid hat
  clear hat hk
  go_wp2_with fail
  refine (R.without w7 _ _ 9 (HGL.out _ HK.out) H2.out (by unfold I64; omega)).mono ?_; rintro e w8 ⟨st2, rfl, hat, hk, -⟩
  rw [aw3] at hat
  replace HK := Lib.hid (HK.out.trans hk (FSub.refl _ _)); replace H1 := Lib.hid (R.new H1.out hk); replace HB1 := Lib.hid (hk.heap HB1.out (by simp))
  have H3 := Lib.hid hat
  clear hat hk H2
  go_wp2_with fail
  have hTD := R.key w8 _ _ (HGL.out _ HK.out) H3.out
  rw [aw4] at hTD
  refine hTD.mono ?_; rintro e w9 ⟨rfl, hk⟩
  replace HK := Lib.hid (HK.out.trans hk (FSub.refl _ _)); replace H1 := Lib.hid (R.new H1.out hk); replace HB1 := Lib.hid (hk.heap HB1.out (by simp))
  clear hk hTD H3
  go_wp2_with ((with_reducible refine wpList_loadBt (g := g1) HO1.out ?_ ?_ (block_range HB1.out) ?_); exact rfl; exact rfl)
  refine (R.count w9 _ _ (HGL.out _ HK.out) H1.out).mono ?_; rintro e w10 ⟨rfl, hk⟩
  replace HK := Lib.hid (HK.out.trans hk (FSub.refl _ _)); replace H1 := Lib.hid (R.new H1.out hk); replace HB1 := Lib.hid (hk.heap HB1.out (by simp))
  clear hk
  go_wp2_with ((with_reducible refine wpList_loadBt (g := g1) HO1.out ?_ ?_ (block_range HB1.out) ?_); exact rfl; exact rfl)
  refine (R.down w10 _ _ 2 (HGL.out _ HK.out) H1.out (by unfold I64; omega)).mono ?_; rintro e w11 ⟨st3, rfl, hat, hk, -⟩
  rw [aw5] at hat
  replace HK := Lib.hid (HK.out.trans hk (FSub.refl _ _)); replace H1 := Lib.hid (R.new H1.out hk); replace HB1 := Lib.hid (hk.heap HB1.out (by simp))
  obtain ⟨A4, rfl, -⟩ := R.cells hat
  have H4 := Lib.hid hat
  clear hat hk
  go_wp2_with ((with_reducible refine wpList_litZ [7] ?_ ?_ ?_ (by decide) (by decide) ?_); exact rfl; exact rfl; exact rfl)
  intro w12 hz hk hI
  replace HK := Lib.hid (HK.out.trans hk (FSub.refl _ _)); replace H1 := Lib.hid (R.new H1.out hk); replace HB1 := Lib.hid (hk.heap HB1.out (by simp))
  replace H4 := Lib.hid (R.new H4.out hk)
  have HI := Lib.hid hI
  clear hz hk hI
  generalize w11.heap.size = gc at *
  go_wp2_with fail
  refine (is15_true R w12 (HGL.out _ HK.out) H4.out HI.out).mono ?_; rintro e w13 ⟨rfl, hk⟩
  replace HK := Lib.hid (HK.out.trans hk (FSub.refl _ _)); replace H1 := Lib.hid (R.new H1.out hk); replace HB1 := Lib.hid (hk.heap HB1.out (by simp))
  clear hk
  go_wp2_with fail
  go_ret
  exact ⟨rfl, HK.out⟩
end Go.Proofs.YtbeniihbejakaaaDoor
/-
  The law's made, over any program's sets.
-/
namespace Go.Proofs.YtbeniihbejakaaaDoor
open Go.RowKit
set_option maxRecDepth 100000
set_option maxHeartbeats 8000000
variable {G : World → Prop}
/-- What an act makes of a set. -/
def madeB (S : List Int) (y : Ac) : List Int :=
  if y.k % 5 = 2 then withoutB S y.n else if y.k % 5 = 3 then unionB S (ofB y.l) else if y.k % 5 = 4 then downB S y.n else withB S y.n
/-- What made tells. -/
def PostM (R : BtProg G) (w : World) (A : List Value) (v0 : Value) (S L : List Int) (e : Ending) (w' : World) : Prop :=
  ∃ (A' : List Value) (v' : Value), e = .returned (.tuple #[.agg A'.toArray, v']) ∧ R.At w' (.agg A'.toArray) L ∧ rkZ.In w'.heap.size w' v' L ∧ Keeps [] w w' ∧ FSub (R.foot (.agg A'.toArray)) (R.foot (.agg A.toArray)) w.heap.size ∧ (L ≠ [] → ∀ q ∈ own v', (S ≠ [] ∧ q ∈ own v0) ∨ w.heap.size ≤ q)
theorem ownPost {f : Nat} {args : Array Value} {W : World} {L : List Int} {n : Nat} (hn : n ≤ W.heap.size) (P : Nat → Prop) (h : Calls Tryd.prog f args W fun e w' => ∃ v', e = .returned v' ∧ rkZ.Own W.heap.size w' v' L ∧ Keeps [] W w') :
    Calls Tryd.prog f args W fun e w' => ∃ v', e = .returned v' ∧ rkZ.In w'.heap.size w' v' L ∧ Keeps [] W w' ∧ (L ≠ [] → ∀ q ∈ own v', P q ∨ n ≤ q) :=
  h.mono fun e w' ⟨v', e1, ho, hk⟩ => ⟨v', e1, ho.in_, hk, fun _ q hq => .inr (Nat.le_trans hn (row_base ho q hq).1)⟩
theorem zPost {f : Nat} {args : Array Value} {W : World} {v0 : Value} {l0 L : List Int} {n : Nat} (hn : n ≤ W.heap.size) (h : Calls Tryd.prog f args W (PostZ W v0 l0 L)) :
    Calls Tryd.prog f args W fun e w' => ∃ v', e = .returned v' ∧ rkZ.In w'.heap.size w' v' L ∧ Keeps [] W w' ∧ (L ≠ [] → ∀ q ∈ own v', (l0 ≠ [] ∧ q ∈ own v0) ∨ n ≤ q) :=
  h.mono fun e w' ⟨v', e1, ho, hk, hw⟩ => ⟨v', e1, ho, hk, fun hl q hq => (hw hl q hq).imp id (Nat.le_trans hn)⟩
theorem made15_any (R : BtProg G) (w : World) {A : List Value} {S : List Int} (hG : G w) (h : R.At w (.agg A.toArray) S) {a : Option Addr} {m c : Nat} (hI : rkZ.In w.heap.size w (.slice a m c) S) (y : Ac) (hy : AcIn w.heap.size w y) (hm : y.m ≤ 40) :
    Calls Tryd.prog 10 #[.agg A.toArray, .slice a m c, .agg (acC y).toArray] w (PostM R w A (.slice a m c) S (madeB S y)) := by
  have hS := R.in_ h
  have hA := btOk R h
  obtain ⟨X, hX⟩ : ∃ X, X = ((w.alloc (.cells A.toArray 27)).alloc (.cells #[.int .u8 y.k, .int .i64 y.n, .slice y.a y.m y.c] 34)).alloc (.cells btZA 27) := ⟨_, rfl⟩
  obtain ⟨-, a0, a1, ak⟩ := two_vars w A.toArray #[.int .u8 y.k, .int .i64 y.n, .slice y.a y.m y.c] 27 34
  have az := two_blocks w A.toArray #[.int .u8 y.k, .int .i64 y.n, .slice y.a y.m y.c] 27 34
  have hk2 : Keeps [] ((w.alloc (.cells A.toArray 27)).alloc (.cells #[.int .u8 y.k, .int .i64 y.n, .slice y.a y.m y.c] 34)) X := by rw [hX]; exact (Keeps.refl _ _).alloc _
  have a2 : X.heap[w.heap.size + 2]? = some (.cells btZ.toArray 27 (0, 0)) := by
    have := heap_alloc_new ((w.alloc (.cells A.toArray 27)).alloc (.cells #[.int .u8 y.k, .int .i64 y.n, .slice y.a y.m y.c] 34)) (.cells btZA 27)
    rw [az] at this
    rw [hX]; exact this
  have hk := ak.trans hk2 (FSub.refl _ _)
  have H0 := Lib.hid (show X.heap[w.heap.size]? = some (.cells A.toArray 27 (0, 0)) from hk2.heap a0 (by simp))
  have H1 := Lib.hid (show X.heap[w.heap.size + 1]? = some (.cells (acC y).toArray 34 (0, 0)) from hk2.heap a1 (by simp))
  have H2 := Lib.hid a2; have HK := Lib.hid hk
  have HZS := Lib.hid (show w.heap.size + 3 ≤ X.heap.size from by have := lt_of_block a2; omega)
  have ck : X.cell? ⟨w.heap.size + 1, 0, none⟩ = some (.int .u8 y.k) := cell_lit H1.out 0 rfl
  have HA := Lib.hid hA; have HS := Lib.hid hS; have HAT := Lib.hid h
  have HGL := Lib.hid (fun w' (h : Keeps [] w w') => R.keepG hG h)
  have HIN := Lib.hid hI; have HYI := Lib.hid hy; have HYM := Lib.hid hm
  have hk256 := hy.2.1
  clear a0 a1 a2 ak az hk hk2 h hG hI hS hA hy
  unfold acC
  go_enter Tryd.func10, Tryd.ntmps10
  have HYL := Lib.hid (show y.l.length ≤ 1000 from by rw [HYI.out.len]; have := HYM.out; omega)
  have HSL := Lib.hid (show S.length ≤ 1000000 from Nat.le_trans HS.out.len (by decide))
  obtain ⟨Z, hZ⟩ : ∃ Z, Z = X := ⟨_, rfl⟩
  have HOWN := Lib.hid (fun w' (hk : Keeps [] X w') => (HIN.out.new (HK.out.trans hk (FSub.refl _ _)) (Nat.le_refl _)).more (HK.out.trans hk (FSub.refl _ _)).size)
  by_cases h2 : y.k % 5 = 2
  case pos =>
    have HMB := Lib.hid (show madeB S y = withoutB S y.n from if_pos h2)
    go_wp2_with fail
    rw [← hX, ← hZ]
    subst hZ
    clear hX ck
    obtain ⟨S0, hS0⟩ : ∃ S0 : World → Prop, S0 = fun y => Keeps [w.heap.size + 2] Z y := ⟨_, rfl⟩
    have HSE := Lib.hid hS0
    have hSD : S0 Z.drew := by rw [hS0]; exact (Keeps.refl _ _).drew
    have HC0 := Lib.hid (fun (w' : World) (hh : S0 w') => show w'.rangeAt w.heap.size 0 A from by rw [hS0] at hh; exact block_range (hh.heap H0.out (by simp)))
    have HCN := Lib.hid (fun (w' : World) (hh : S0 w') => show w'.cell? ⟨w.heap.size + 1, 1, none⟩ = some (.int .i64 y.n) from by rw [hS0] at hh; exact cell_lit (hh.heap H1.out (by simp)) 1 rfl)
    have HCL := Lib.hid (fun (w' : World) (hh : S0 w') => show w'.cell? ⟨w.heap.size + 1, 2, none⟩ = some (.slice y.a y.m y.c) from by rw [hS0] at hh; exact cell_lit (hh.heap H1.out (by simp)) 2 rfl)
    clear hS0
    refine wp_region_noPanic ?_
    refine wp_region_held_drew (S := S0) (by kernel_rfl) hSD (fun hHeld => ?_)
    have HY := Lib.hid ((Keeps.refl [] Z).drew)
    generalize Z.drew = YC at *
    refine tk 0 (y := by exact skB.yields HA.out rfl _ rfl w.heap.size 0 rfl HC0.out) (h := ?_)
    refine tw 1 (h := ?_)
    refine tk 2 (y := by exact Or.inl ⟨by rfl, by intro w hSw; have q0 := HCN.out w hSw; go_simp; try with_reducible rfl⟩) (h := ?_)
    refine tw 4 (h := ?_)
    refine tw 5 (h := ?_)
    refine tk 6 (y := by exact Or.inl ⟨by rfl, by intro w hSw; have q0 := HCN.out w hSw; go_simp; try with_reducible rfl⟩) (h := ?_)
    refine rp 3 (h := fun K hK => ?_)
    refine wp_call9 26 _ _ rfl [.agg A.toArray, .int .i64 y.n] rfl Tryd.func26 (by kernel_rfl) (by kernel_rfl) ((R.without _ _ S y.n (HGL.out _ (HK.out.trans HY.out (FSub.refl _ _))) (R.new HAT.out (HK.out.trans HY.out (FSub.refl _ _))) HYI.out.2.2).mono ?_)
    rintro e YC ⟨st, rfl, hat, hk, hfs⟩
    refine ⟨_, rfl, ?_⟩
    have HFS := Lib.hid (show FSub (R.foot st) (R.foot (.agg A.toArray)) Z.heap.size from fun q hq => (hfs q hq).imp id (fun h => Nat.le_trans HY.out.size h))
    have HAT1 := Lib.hid hat
    clear hat hfs
    replace HY := Lib.hid (HY.out.trans hk (FSub.refl _ _))
    clear hk
    refine hK.out _ _ (by rw [HSE.out]; exact HY.out.more (by simp)) (fun hHeld => ?_); clear hK K; try simp only [Act.put, lsA, lsZ, lsS]
    refine rp 7 (h := fun K hK => ?_)
    refine wp_call9 30 _ _ rfl [.slice a m c, .int .i64 y.n] rfl Tryd.func30 (by kernel_rfl) (by kernel_rfl) ((ownPost HY.out.size (fun q => S ≠ [] ∧ q ∈ own (.slice a m c)) (r15Without_any _ (HOWN.out _ HY.out) HSL.out y.n)).mono ?_)
    rintro e YC ⟨v', rfl, hrs, hk, how⟩
    refine ⟨_, rfl, ?_⟩
    have HRS := Lib.hid hrs; have HWN := Lib.hid how
    replace HAT1 := Lib.hid (R.new HAT1.out hk)
    clear hrs how
    replace HY := Lib.hid (HY.out.trans hk (FSub.refl _ _))
    clear hk
    refine hK.out _ _ (by rw [HSE.out]; exact HY.out.more (by simp)) (fun hHeld => ?_); clear hK K; try simp only [Act.put, lsA, lsZ, lsS]
    refine rp 8 (h := fun K hK => ?_)
    obtain ⟨A', rfl, hok'⟩ := R.cells HAT1.out
    have HOK' := Lib.hid hok'
    refine skB.wp_put rfl (g := w.heap.size + 2) (old := btZ) (A := A') HOK'.out btZ_ok rfl rfl (HY.out.heap H2.out (by simp)) (fun YE hV hk => ?_)
    have HVE := Lib.hid hV; have HYE := Lib.hid ((HY.out.more (G := [w.heap.size + 2]) (by simp)).trans hk (FSub.refl _ _))
    have HAT2 := Lib.hid (R.put HAT1.out hk (fun q hq => by rcases HFS.out q hq with h | h; (have := R.old HAT.out q h; omega); (have := HZS.out; omega)))
    have HRS2 := Lib.hid ((HRS.out.keeps hk (fun hn q hq => by rcases HWN.out hn q hq with h | h; (have := HIN.out.old h.1 q h.2; simp; omega); (have := HZS.out; simp; omega))).more hk.size)
    have HFS2 := Lib.hid (show FSub (R.foot (.agg A'.toArray)) (R.foot (.agg A.toArray)) w.heap.size from fun q hq => (HFS.out q hq).imp id (fun h => by have := HZS.out; omega))
    have HWN2 := Lib.hid (fun hn q hq => (HWN.out hn q hq).imp id (fun (h : Z.heap.size ≤ q) => show w.heap.size ≤ q by have := HZS.out; omega))
    clear hV hk hok'
    refine hK.out _ _ (by rw [HSE.out]; exact HYE.out) (fun hHeld => ?_); clear hK K; try simp only [Act.put, lsA, lsZ, lsS]
    refine tw 9 (h := ?_)
    refine wpAnyH_done (by kernel_rfl) ?_ _
    refine NoPanic.normal ?_
    clear hHeld hSD HSE HC0 HCN HCL
    go_wp2_with fail
    try simp only [Exit.inBlock, Exit.then]
    rw [HMB.out]
    exact bodyPost_ret (results_sk1 skB rfl _ _ (w.heap.size + 2) HOK'.out rfl HVE.out) rfl ⟨A', v', rfl, HAT2.out, HRS2.out, HK.out.trans HYE.out (fun q hq => .inr (by simp at hq; omega)), HFS2.out, HWN2.out⟩
  have q2 : (y.k % 5 == 2) = false := by simpa using h2
  by_cases h3 : y.k % 5 = 3
  case pos =>
    have HMB := Lib.hid (show madeB S y = unionB S (ofB y.l) from by unfold madeB; rw [if_neg h2, if_pos h3])
    go_wp2_with fail
    rw [← hX, ← hZ]
    subst hZ
    clear hX ck
    obtain ⟨S0, hS0⟩ : ∃ S0 : World → Prop, S0 = fun y => Keeps [w.heap.size + 2] Z y := ⟨_, rfl⟩
    have HSE := Lib.hid hS0
    have hSD : S0 Z.drew := by rw [hS0]; exact (Keeps.refl _ _).drew
    have HC0 := Lib.hid (fun (w' : World) (hh : S0 w') => show w'.rangeAt w.heap.size 0 A from by rw [hS0] at hh; exact block_range (hh.heap H0.out (by simp)))
    have HCN := Lib.hid (fun (w' : World) (hh : S0 w') => show w'.cell? ⟨w.heap.size + 1, 1, none⟩ = some (.int .i64 y.n) from by rw [hS0] at hh; exact cell_lit (hh.heap H1.out (by simp)) 1 rfl)
    have HCL := Lib.hid (fun (w' : World) (hh : S0 w') => show w'.cell? ⟨w.heap.size + 1, 2, none⟩ = some (.slice y.a y.m y.c) from by rw [hS0] at hh; exact cell_lit (hh.heap H1.out (by simp)) 2 rfl)
    clear hS0
    refine wp_region_noPanic ?_
    refine wp_region_held_drew (S := S0) (by kernel_rfl) hSD (fun hHeld => ?_)
    have HY := Lib.hid ((Keeps.refl [] Z).drew)
    generalize Z.drew = YC at *
    refine tk 0 (y := by exact skB.yields HA.out rfl _ rfl w.heap.size 0 rfl HC0.out) (h := ?_)
    refine tw 1 (h := ?_)
    refine tk 2 (y := by exact Or.inl ⟨by rfl, by intro w hSw; have q0 := HCL.out w hSw; go_simp; try with_reducible rfl⟩) (h := ?_)
    refine tw 5 (h := ?_)
    refine tw 6 (h := ?_)
    refine tk 7 (y := by exact Or.inl ⟨by rfl, by intro w hSw; have q0 := HCL.out w hSw; go_simp; try with_reducible rfl⟩) (h := ?_)
    refine rp 3 (h := fun K hK => ?_)
    refine wp_call9 20 _ _ rfl [.slice y.a y.m y.c] rfl Tryd.func20 (by kernel_rfl) (by kernel_rfl) ((R.of _ _ y.l (HGL.out _ (HK.out.trans HY.out (FSub.refl _ _))) (((HYI.out.1.new (HK.out.trans HY.out (FSub.refl _ _)) (Nat.le_refl _)).more (HK.out.trans HY.out (FSub.refl _ _)).size)) HYL.out).mono ?_)
    rintro e YC ⟨st0, rfl, hat, hk, hf0⟩
    refine ⟨_, rfl, ?_⟩
    have HAT0 := Lib.hid hat; have HF0 := Lib.hid (fun q hq => Nat.le_trans HY.out.size (hf0 q hq))
    clear hat hf0
    replace HY := Lib.hid (HY.out.trans hk (FSub.refl _ _))
    clear hk
    refine hK.out _ _ (by rw [HSE.out]; exact HY.out.more (by simp)) (fun hHeld => ?_); clear hK K; try simp only [Act.put, lsA, lsZ, lsS]
    refine rp 4 (h := fun K hK => ?_)
    refine wp_call9 27 _ _ rfl [.agg A.toArray, st0] rfl Tryd.func27 (by kernel_rfl) (by kernel_rfl) ((R.union _ _ S _ (ofB y.l) (HGL.out _ (HK.out.trans HY.out (FSub.refl _ _))) (R.new HAT.out (HK.out.trans HY.out (FSub.refl _ _))) HAT0.out).mono ?_)
    rintro e YC ⟨st, rfl, hat, hk, hfs⟩
    refine ⟨_, rfl, ?_⟩
    have HFS := Lib.hid (show FSub (R.foot st) (R.foot (.agg A.toArray)) Z.heap.size from fun q hq => (hfs q hq).elim (fun h => (List.mem_append.1 h).imp id (HF0.out q)) (fun h => .inr (Nat.le_trans HY.out.size h)))
    have HAT1 := Lib.hid hat
    clear hat hfs
    replace HY := Lib.hid (HY.out.trans hk (FSub.refl _ _))
    clear hk
    refine hK.out _ _ (by rw [HSE.out]; exact HY.out.more (by simp)) (fun hHeld => ?_); clear hK K; try simp only [Act.put, lsA, lsZ, lsS]
    refine rp 8 (h := fun K hK => ?_)
    refine wp_call9 32 _ _ rfl [.slice y.a y.m y.c] rfl Tryd.func32 (by kernel_rfl) (by kernel_rfl) ((listed15_any _ (((HYI.out.1.new (HK.out.trans HY.out (FSub.refl _ _)) (Nat.le_refl _)).more (HK.out.trans HY.out (FSub.refl _ _)).size))).mono ?_)
    rintro e YC ⟨v0, rfl, hrs, hk, -⟩
    refine ⟨_, rfl, ?_⟩
    have HR0 := Lib.hid hrs
    replace HAT1 := Lib.hid (R.new HAT1.out hk)
    clear hrs
    replace HY := Lib.hid (HY.out.trans hk (FSub.refl _ _))
    clear hk
    refine hK.out _ _ (by rw [HSE.out]; exact HY.out.more (by simp)) (fun hHeld => ?_); clear hK K; try simp only [Act.put, lsA, lsZ, lsS]
    refine rp 9 (h := fun K hK => ?_)
    refine wp_call9 31 _ _ rfl [.slice a m c, v0] rfl Tryd.func31 (by kernel_rfl) (by kernel_rfl) ((r15Union_any _ ((HIN.out.new (HK.out.trans HY.out (FSub.refl _ _)) (Nat.le_refl _)).more (HK.out.trans HY.out (FSub.refl _ _)).size) HR0.out HS.out).mono ?_)
    rintro e YC ⟨v', rfl, hrs, hk, how⟩
    refine ⟨_, rfl, ?_⟩
    have HRS := Lib.hid hrs
    have HWN := Lib.hid (fun hn q hq => (how hn q hq).imp id (fun h => Nat.le_trans HY.out.size h))
    replace HAT1 := Lib.hid (R.new HAT1.out hk)
    clear hrs how
    replace HY := Lib.hid (HY.out.trans hk (FSub.refl _ _))
    clear hk
    refine hK.out _ _ (by rw [HSE.out]; exact HY.out.more (by simp)) (fun hHeld => ?_); clear hK K; try simp only [Act.put, lsA, lsZ, lsS]
    refine rp 10 (h := fun K hK => ?_)
    obtain ⟨A', rfl, hok'⟩ := R.cells HAT1.out
    have HOK' := Lib.hid hok'
    refine skB.wp_put rfl (g := w.heap.size + 2) (old := btZ) (A := A') HOK'.out btZ_ok rfl rfl (HY.out.heap H2.out (by simp)) (fun YE hV hk => ?_)
    have HVE := Lib.hid hV; have HYE := Lib.hid ((HY.out.more (G := [w.heap.size + 2]) (by simp)).trans hk (FSub.refl _ _))
    have HAT2 := Lib.hid (R.put HAT1.out hk (fun q hq => by rcases HFS.out q hq with h | h; (have := R.old HAT.out q h; omega); (have := HZS.out; omega)))
    have HRS2 := Lib.hid ((HRS.out.keeps hk (fun hn q hq => by rcases HWN.out hn q hq with h | h; (have := HIN.out.old h.1 q h.2; simp; omega); (have := HZS.out; simp; omega))).more hk.size)
    have HFS2 := Lib.hid (show FSub (R.foot (.agg A'.toArray)) (R.foot (.agg A.toArray)) w.heap.size from fun q hq => (HFS.out q hq).imp id (fun h => by have := HZS.out; omega))
    have HWN2 := Lib.hid (fun hn q hq => (HWN.out hn q hq).imp id (fun (h : Z.heap.size ≤ q) => show w.heap.size ≤ q by have := HZS.out; omega))
    clear hV hk hok'
    refine hK.out _ _ (by rw [HSE.out]; exact HYE.out) (fun hHeld => ?_); clear hK K; try simp only [Act.put, lsA, lsZ, lsS]
    refine tw 11 (h := ?_)
    refine wpAnyH_done (by kernel_rfl) ?_ _
    refine NoPanic.normal ?_
    clear hHeld hSD HSE HC0 HCN HCL
    go_wp2_with fail
    try simp only [Exit.inBlock, Exit.then]
    rw [HMB.out]
    exact bodyPost_ret (results_sk1 skB rfl _ _ (w.heap.size + 2) HOK'.out rfl HVE.out) rfl ⟨A', v', rfl, HAT2.out, HRS2.out, HK.out.trans HYE.out (fun q hq => .inr (by simp at hq; omega)), HFS2.out, HWN2.out⟩
  have q3 : (y.k % 5 == 3) = false := by simpa using h3
  by_cases h4 : y.k % 5 = 4
  case pos =>
    have HMB := Lib.hid (show madeB S y = downB S y.n from by unfold madeB; rw [if_neg h2, if_neg h3, if_pos h4])
    go_wp2_with fail
    rw [← hX, ← hZ]
    subst hZ
    clear hX ck
    obtain ⟨S0, hS0⟩ : ∃ S0 : World → Prop, S0 = fun y => Keeps [w.heap.size + 2] Z y := ⟨_, rfl⟩
    have HSE := Lib.hid hS0
    have hSD : S0 Z.drew := by rw [hS0]; exact (Keeps.refl _ _).drew
    have HC0 := Lib.hid (fun (w' : World) (hh : S0 w') => show w'.rangeAt w.heap.size 0 A from by rw [hS0] at hh; exact block_range (hh.heap H0.out (by simp)))
    have HCN := Lib.hid (fun (w' : World) (hh : S0 w') => show w'.cell? ⟨w.heap.size + 1, 1, none⟩ = some (.int .i64 y.n) from by rw [hS0] at hh; exact cell_lit (hh.heap H1.out (by simp)) 1 rfl)
    have HCL := Lib.hid (fun (w' : World) (hh : S0 w') => show w'.cell? ⟨w.heap.size + 1, 2, none⟩ = some (.slice y.a y.m y.c) from by rw [hS0] at hh; exact cell_lit (hh.heap H1.out (by simp)) 2 rfl)
    clear hS0
    refine wp_region_noPanic ?_
    refine wp_region_held_drew (S := S0) (by kernel_rfl) hSD (fun hHeld => ?_)
    have HY := Lib.hid ((Keeps.refl [] Z).drew)
    generalize Z.drew = YC at *
    refine tk 0 (y := by exact skB.yields HA.out rfl _ rfl w.heap.size 0 rfl HC0.out) (h := ?_)
    refine tw 1 (h := ?_)
    refine tk 2 (y := by exact Or.inl ⟨by rfl, by intro w hSw; have q0 := HCN.out w hSw; go_simp; try with_reducible rfl⟩) (h := ?_)
    refine tw 4 (h := ?_)
    refine tw 5 (h := ?_)
    refine tk 6 (y := by exact Or.inl ⟨by rfl, by intro w hSw; have q0 := HCN.out w hSw; go_simp; try with_reducible rfl⟩) (h := ?_)
    refine rp 3 (h := fun K hK => ?_)
    refine wp_call9 21 _ _ rfl [.agg A.toArray, .int .i64 y.n] rfl Tryd.func21 (by kernel_rfl) (by kernel_rfl) ((R.down _ _ S y.n (HGL.out _ (HK.out.trans HY.out (FSub.refl _ _))) (R.new HAT.out (HK.out.trans HY.out (FSub.refl _ _))) HYI.out.2.2).mono ?_)
    rintro e YC ⟨st, rfl, hat, hk, hfs⟩
    refine ⟨_, rfl, ?_⟩
    have HFS := Lib.hid (show FSub (R.foot st) (R.foot (.agg A.toArray)) Z.heap.size from fun q hq => (hfs q hq).imp id (fun h => Nat.le_trans HY.out.size h))
    have HAT1 := Lib.hid hat
    clear hat hfs
    replace HY := Lib.hid (HY.out.trans hk (FSub.refl _ _))
    clear hk
    refine hK.out _ _ (by rw [HSE.out]; exact HY.out.more (by simp)) (fun hHeld => ?_); clear hK K; try simp only [Act.put, lsA, lsZ, lsS]
    refine rp 7 (h := fun K hK => ?_)
    refine wp_call9 33 _ _ rfl [.slice a m c, .int .i64 y.n] rfl Tryd.func33 (by kernel_rfl) (by kernel_rfl) ((ownPost HY.out.size (fun q => S ≠ [] ∧ q ∈ own (.slice a m c)) (r15Down_any _ (HOWN.out _ HY.out) HS.out HSL.out y.n)).mono ?_)
    rintro e YC ⟨v', rfl, hrs, hk, how⟩
    refine ⟨_, rfl, ?_⟩
    have HRS := Lib.hid hrs; have HWN := Lib.hid how
    replace HAT1 := Lib.hid (R.new HAT1.out hk)
    clear hrs how
    replace HY := Lib.hid (HY.out.trans hk (FSub.refl _ _))
    clear hk
    refine hK.out _ _ (by rw [HSE.out]; exact HY.out.more (by simp)) (fun hHeld => ?_); clear hK K; try simp only [Act.put, lsA, lsZ, lsS]
    refine rp 8 (h := fun K hK => ?_)
    obtain ⟨A', rfl, hok'⟩ := R.cells HAT1.out
    have HOK' := Lib.hid hok'
    refine skB.wp_put rfl (g := w.heap.size + 2) (old := btZ) (A := A') HOK'.out btZ_ok rfl rfl (HY.out.heap H2.out (by simp)) (fun YE hV hk => ?_)
    have HVE := Lib.hid hV; have HYE := Lib.hid ((HY.out.more (G := [w.heap.size + 2]) (by simp)).trans hk (FSub.refl _ _))
    have HAT2 := Lib.hid (R.put HAT1.out hk (fun q hq => by rcases HFS.out q hq with h | h; (have := R.old HAT.out q h; omega); (have := HZS.out; omega)))
    have HRS2 := Lib.hid ((HRS.out.keeps hk (fun hn q hq => by rcases HWN.out hn q hq with h | h; (have := HIN.out.old h.1 q h.2; simp; omega); (have := HZS.out; simp; omega))).more hk.size)
    have HFS2 := Lib.hid (show FSub (R.foot (.agg A'.toArray)) (R.foot (.agg A.toArray)) w.heap.size from fun q hq => (HFS.out q hq).imp id (fun h => by have := HZS.out; omega))
    have HWN2 := Lib.hid (fun hn q hq => (HWN.out hn q hq).imp id (fun (h : Z.heap.size ≤ q) => show w.heap.size ≤ q by have := HZS.out; omega))
    clear hV hk hok'
    refine hK.out _ _ (by rw [HSE.out]; exact HYE.out) (fun hHeld => ?_); clear hK K; try simp only [Act.put, lsA, lsZ, lsS]
    refine tw 9 (h := ?_)
    refine wpAnyH_done (by kernel_rfl) ?_ _
    refine NoPanic.normal ?_
    clear hHeld hSD HSE HC0 HCN HCL
    go_wp2_with fail
    try simp only [Exit.inBlock, Exit.then]
    rw [HMB.out]
    exact bodyPost_ret (results_sk1 skB rfl _ _ (w.heap.size + 2) HOK'.out rfl HVE.out) rfl ⟨A', v', rfl, HAT2.out, HRS2.out, HK.out.trans HYE.out (fun q hq => .inr (by simp at hq; omega)), HFS2.out, HWN2.out⟩
  case neg =>
    have HMB := Lib.hid (show madeB S y = withB S y.n from by unfold madeB; rw [if_neg h2, if_neg h3, if_neg h4])
    have q4 : (y.k % 5 == 4) = false := by simpa using h4
    go_wp2_with fail
    rw [← hX, ← hZ]
    subst hZ
    clear hX ck
    obtain ⟨S0, hS0⟩ : ∃ S0 : World → Prop, S0 = fun y => Keeps [w.heap.size + 2] Z y := ⟨_, rfl⟩
    have HSE := Lib.hid hS0
    have hSD : S0 Z.drew := by rw [hS0]; exact (Keeps.refl _ _).drew
    have HC0 := Lib.hid (fun (w' : World) (hh : S0 w') => show w'.rangeAt w.heap.size 0 A from by rw [hS0] at hh; exact block_range (hh.heap H0.out (by simp)))
    have HCN := Lib.hid (fun (w' : World) (hh : S0 w') => show w'.cell? ⟨w.heap.size + 1, 1, none⟩ = some (.int .i64 y.n) from by rw [hS0] at hh; exact cell_lit (hh.heap H1.out (by simp)) 1 rfl)
    have HCL := Lib.hid (fun (w' : World) (hh : S0 w') => show w'.cell? ⟨w.heap.size + 1, 2, none⟩ = some (.slice y.a y.m y.c) from by rw [hS0] at hh; exact cell_lit (hh.heap H1.out (by simp)) 2 rfl)
    clear hS0
    refine wp_region_noPanic ?_
    refine wp_region_held_drew (S := S0) (by kernel_rfl) hSD (fun hHeld => ?_)
    have HY := Lib.hid ((Keeps.refl [] Z).drew)
    generalize Z.drew = YC at *
    refine tk 0 (y := by exact skB.yields HA.out rfl _ rfl w.heap.size 0 rfl HC0.out) (h := ?_)
    refine tw 1 (h := ?_)
    refine tk 2 (y := by exact Or.inl ⟨by rfl, by intro w hSw; have q0 := HCN.out w hSw; go_simp; try with_reducible rfl⟩) (h := ?_)
    refine tw 4 (h := ?_)
    refine tw 5 (h := ?_)
    refine tk 6 (y := by exact Or.inl ⟨by rfl, by intro w hSw; have q0 := HCN.out w hSw; go_simp; try with_reducible rfl⟩) (h := ?_)
    refine rp 3 (h := fun K hK => ?_)
    refine wp_call9 25 _ _ rfl [.agg A.toArray, .int .i64 y.n] rfl Tryd.func25 (by kernel_rfl) (by kernel_rfl) ((R.with_ _ _ S y.n (HGL.out _ (HK.out.trans HY.out (FSub.refl _ _))) (R.new HAT.out (HK.out.trans HY.out (FSub.refl _ _))) HYI.out.2.2).mono ?_)
    rintro e YC ⟨st, rfl, hat, hk, hfs⟩
    refine ⟨_, rfl, ?_⟩
    have HFS := Lib.hid (show FSub (R.foot st) (R.foot (.agg A.toArray)) Z.heap.size from fun q hq => (hfs q hq).imp id (fun h => Nat.le_trans HY.out.size h))
    have HAT1 := Lib.hid hat
    clear hat hfs
    replace HY := Lib.hid (HY.out.trans hk (FSub.refl _ _))
    clear hk
    refine hK.out _ _ (by rw [HSE.out]; exact HY.out.more (by simp)) (fun hHeld => ?_); clear hK K; try simp only [Act.put, lsA, lsZ, lsS]
    refine rp 7 (h := fun K hK => ?_)
    refine wp_call9 34 _ _ rfl [.slice a m c, .int .i64 y.n] rfl Tryd.func34 (by kernel_rfl) (by kernel_rfl) ((zPost HY.out.size (r15With_any _ (HOWN.out _ HY.out) HS.out y.n)).mono ?_)
    rintro e YC ⟨v', rfl, hrs, hk, how⟩
    refine ⟨_, rfl, ?_⟩
    have HRS := Lib.hid hrs; have HWN := Lib.hid how
    replace HAT1 := Lib.hid (R.new HAT1.out hk)
    clear hrs how
    replace HY := Lib.hid (HY.out.trans hk (FSub.refl _ _))
    clear hk
    refine hK.out _ _ (by rw [HSE.out]; exact HY.out.more (by simp)) (fun hHeld => ?_); clear hK K; try simp only [Act.put, lsA, lsZ, lsS]
    refine rp 8 (h := fun K hK => ?_)
    obtain ⟨A', rfl, hok'⟩ := R.cells HAT1.out
    have HOK' := Lib.hid hok'
    refine skB.wp_put rfl (g := w.heap.size + 2) (old := btZ) (A := A') HOK'.out btZ_ok rfl rfl (HY.out.heap H2.out (by simp)) (fun YE hV hk => ?_)
    have HVE := Lib.hid hV; have HYE := Lib.hid ((HY.out.more (G := [w.heap.size + 2]) (by simp)).trans hk (FSub.refl _ _))
    have HAT2 := Lib.hid (R.put HAT1.out hk (fun q hq => by rcases HFS.out q hq with h | h; (have := R.old HAT.out q h; omega); (have := HZS.out; omega)))
    have HRS2 := Lib.hid ((HRS.out.keeps hk (fun hn q hq => by rcases HWN.out hn q hq with h | h; (have := HIN.out.old h.1 q h.2; simp; omega); (have := HZS.out; simp; omega))).more hk.size)
    have HFS2 := Lib.hid (show FSub (R.foot (.agg A'.toArray)) (R.foot (.agg A.toArray)) w.heap.size from fun q hq => (HFS.out q hq).imp id (fun h => by have := HZS.out; omega))
    have HWN2 := Lib.hid (fun hn q hq => (HWN.out hn q hq).imp id (fun (h : Z.heap.size ≤ q) => show w.heap.size ≤ q by have := HZS.out; omega))
    clear hV hk hok'
    refine hK.out _ _ (by rw [HSE.out]; exact HYE.out) (fun hHeld => ?_); clear hK K; try simp only [Act.put, lsA, lsZ, lsS]
    refine tw 9 (h := ?_)
    refine wpAnyH_done (by kernel_rfl) ?_ _
    refine NoPanic.normal ?_
    clear hHeld hSD HSE HC0 HCN HCL
    go_wp2_with fail
    try simp only [Exit.inBlock, Exit.then]
    rw [HMB.out]
    exact bodyPost_ret (results_sk1 skB rfl _ _ (w.heap.size + 2) HOK'.out rfl HVE.out) rfl ⟨A', v', rfl, HAT2.out, HRS2.out, HK.out.trans HYE.out (fun q hq => .inr (by simp at hq; omega)), HFS2.out, HWN2.out⟩
end Go.Proofs.YtbeniihbejakaaaDoor
/-
  Slices of the program's sets, slices of slices of numbers.
-/
namespace Go.Proofs.YtbeniihbejakaaaDoor
open Go.RowKit
set_option maxRecDepth 100000
theorem Tryd.infoSet15 : (Tryd.prog.info? 27).map (fun i => (i.zero, i.size, i.bytes)) = some (some (.agg btZ.toArray), 1, 24) := by kernel_rfl
/-- The program's sets, side by side: each by its cells. -/
noncomputable def rkSt : RK { A : List Value // skB.Ok A } :=
  { T := 27, Sl := 28, s := 1, b := 24, cs := fun A => A.1, i := (info_parts Tryd.infoSet15).choose, z := .agg btZ.toArray,
    len := fun A => A.2.1, one := fun A => A.2.2, s0 := by decide, b1 := by decide, und := Tryd.underlying28,
    hi := (info_parts Tryd.infoSet15).choose_spec.1, hz := (info_parts Tryd.infoSet15).choose_spec.2.1, hs := (info_parts Tryd.infoSet15).choose_spec.2.2.1, hb := (info_parts Tryd.infoSet15).choose_spec.2.2.2, hzs := rfl }
/-- A slice's header. -/
structure Sh15 where
  a : Option Addr
  m : Nat
  c : Nat
def Sh15.v (p : Sh15) : Value := .slice p.a p.m p.c
def shC (p : Sh15) : List Value := [p.v]
theorem Tryd.infoSl15 : (Tryd.prog.info? 30).map (fun i => (i.zero, i.size, i.bytes)) = some (some (.slice none 0 0), 1, 24) := by kernel_rfl
/-- Slices of numbers, side by side. -/
noncomputable def rkSl : RK Sh15 :=
  { T := 30, Sl := 29, s := 1, b := 24, cs := shC, i := (info_parts Tryd.infoSl15).choose, z := .slice none 0 0,
    len := fun _ => rfl, one := by intro x v hv; simp only [shC, List.mem_cons, List.not_mem_nil, or_false] at hv; subst hv; rfl, s0 := by decide, b1 := by decide, und := Tryd.underlying29,
    hi := (info_parts Tryd.infoSl15).choose_spec.1, hz := (info_parts Tryd.infoSl15).choose_spec.2.1, hs := (info_parts Tryd.infoSl15).choose_spec.2.2.1, hb := (info_parts Tryd.infoSl15).choose_spec.2.2.2, hzs := rfl }
section
variable {ops : Array Oper} {rest : List Oper} {o : Oper} {a : Act} {w : World} {K : Act → World → Prop} {Q : Exit → Act → World → Prop}
theorem wpList_buildSt {dst : Option Tmp} {ty : TypeId} {pos : String} {after : Array Edge} {y : Operand} {A : List Value} (hA : skB.Ok A) (hy : a.eval y = .agg A.toArray)
    (h : wpList Tryd.prog ops Q rest (a.put dst (.slice (some ⟨w.heap.size, 0, none⟩) 1 1)) (w.alloc (.cells A.toArray 27))) :
    wpList Tryd.prog ops Q ({ dst := dst, op := .buildSlice 28 1 #[(0, y)], type := ty, pos := pos, after := after, guard := none } :: rest) a w :=
  wpList_plain rfl fun _ hK => rkSt.wp_build1 (y := ⟨A, hA⟩) y rfl hy (by show (1 : Nat) ≤ 10000; decide) (hK _ _ h)
theorem wp_buildSl (x : Operand) (ho : o.op = .buildSlice 29 1 #[(0, x)]) {p : Sh15} (hx : a.eval x = p.v)
    (h : K (a.put o.dst (.slice (some ⟨w.heap.size, 0, none⟩) 1 1)) (w.alloc (.cells (shC p).toArray 30))) : o.wp Tryd.prog a w K Q := by
  refine wp_buildSlice 29 30 1 #[(0, x)] ho #[p.v] rkSl.i _ rkSl.und rkSl.hi rkSl.hz (by rw [rkSl.hs]; decide) (by rw [rkSl.hs]; decide) ?_ h
  rw [rkSl.hs]
  have e : (#[(0, x)].map fun (i, z) => (i, a.eval z)).toList = [(0, a.eval x)] := by simp
  rw [e, hx, show rkSl.s = 1 from rfl, show rkSl.z = .slice none 0 0 from rfl]
  exact Great.fill_flat [p.v] _ (by intro v hv; simp at hv; subst hv; rfl) (by simp)
theorem wpList_buildSl {dst : Option Tmp} {ty : TypeId} {pos : String} {after : Array Edge} {y : Operand} (p : Sh15) (hy : a.eval y = p.v)
    (h : wpList Tryd.prog ops Q rest (a.put dst (.slice (some ⟨w.heap.size, 0, none⟩) 1 1)) (w.alloc (.cells (shC p).toArray 30))) :
    wpList Tryd.prog ops Q ({ dst := dst, op := .buildSlice 29 1 #[(0, y)], type := ty, pos := pos, after := after, guard := none } :: rest) a w :=
  wpList_plain rfl fun _ hK => wp_buildSl y rfl hy (hK _ _ h)
end
variable {G : World → Prop}
/-- One of both slices' pairs: the same set, in blocks that none of F is. -/
def Pair15 (R : BtProg G) (F : List Nat) (w : World) (A : List Value) (p : Sh15) : Prop :=
  ∃ D, R.At w (.agg A.toArray) D ∧ rkZ.In w.heap.size w p.v D ∧ (∀ q ∈ R.foot (.agg A.toArray), q ∉ F) ∧ (D ≠ [] → ∀ q ∈ own p.v, q ∉ F)
theorem Pair15.keep {R : BtProg G} {F E : List Nat} {w w' : World} {A : List Value} {p : Sh15} (h : Pair15 R F w A p) (hk : Keeps E w w') (hE : ∀ q ∈ E, q ∈ F) : Pair15 R F w' A p := by
  obtain ⟨D, h1, h2, h3, h4⟩ := h
  exact ⟨D, R.keep h1 hk (fun q hq hm => h3 q hq (hE q hm)), (h2.keeps hk (fun hn q hq hm => h4 hn q hq (hE q hm))).more hk.size, h3, h4⟩
end Go.Proofs.YtbeniihbejakaaaDoor
/-
  The law BitsPlays, over any program's sets.
-/
namespace Go.Proofs.YtbeniihbejakaaaDoor
open Go.RowKit
set_option maxRecDepth 100000
set_option maxHeartbeats 8000000
variable {G : World → Prop}
section
variable {ops : Array Oper} {S : World → Prop} {o : Oper} {a : Act}
theorem yields_indexAc (hw : Region.wanted o (yielded ops a.tmps) = true) (x y : Operand) (ho : o.op = .indexAddr 22 x y) (g of n c k : Nat) (hx : a.eval x = .slice (some ⟨g, of, none⟩) n c) (hy : a.eval y = .int .i64 k) (hk : k < n) :
    YieldsIf Tryd.prog ops S o (.pointer (some ⟨g, of + k * 3, none⟩)) a :=
  Or.inl ⟨hw, by
    have hk2 : (k : Int) < n := by omega
    intro w _
    unfold execOp
    simp only [ho, hx, hy]
    go_simp⟩
theorem yields_indexSt (hw : Region.wanted o (yielded ops a.tmps) = true) (x y : Operand) (ho : o.op = .indexAddr 28 x y) (g n c k : Nat) (hx : a.eval x = .slice (some ⟨g, 0, none⟩) n c) (hy : a.eval y = .int .i64 k) (hk : k < n) :
    YieldsIf Tryd.prog ops S o (.pointer (some ⟨g, k, none⟩)) a :=
  Or.inl ⟨hw, by
    have hk2 : (k : Int) < n := by omega
    intro w _
    unfold execOp
    simp only [ho, hx, hy]
    go_simp⟩
theorem yields_indexSl (hw : Region.wanted o (yielded ops a.tmps) = true) (x y : Operand) (ho : o.op = .indexAddr 29 x y) (g n c k : Nat) (hx : a.eval x = .slice (some ⟨g, 0, none⟩) n c) (hy : a.eval y = .int .i64 k) (hk : k < n) :
    YieldsIf Tryd.prog ops S o (.pointer (some ⟨g, k, none⟩)) a :=
  Or.inl ⟨hw, by
    have hk2 : (k : Int) < n := by omega
    intro w _
    unfold execOp
    simp only [ho, hx, hy]
    go_simp⟩
end
theorem wp_join15 {P : Program} {c : Code} {Q : Exit → Act → World → Prop} {a : Act} {w : World} (f : Nat → Value → List Value → Act → Act) (F : Nat → Value → World → Prop)
    (h : c.wp P (fun e a' w' => e = .normal ∧ ∃ qa zv us, a' = f qa zv us a ∧ F qa zv w') a w)
    (k : ∀ qa zv us w', F qa zv w' → Q .normal (f qa zv us a) w') : c.wp P Q a w :=
  Code.wp_mono (fun e a' w' ⟨he, qa, zv, us, ha, hf⟩ => by subst he; subst ha; exact k qa zv us w' hf) h
/-- A row of its own: its block. -/
theorem Own_at {α : Type} {R : RK α} {base : Nat} {w : World} {v : Value} {L : List α} (h : R.Own base w v L) (hne : L ≠ []) : ∃ g cap, v = .slice (some ⟨g, 0, none⟩) L.length cap ∧ base ≤ g ∧ g < w.heap.size ∧ ∀ j (hj : j < L.length), w.rangeAt g (j * R.s) (R.cs L[j]) := by
  obtain ⟨g, cap, e, h1, h2, h3, h4, hr⟩ := h.at hne
  exact ⟨g, cap, e, h3, h4, hr⟩
theorem RK.lit1 {α : Type} (R : RK α) (w : World) (y : α) : R.Own w.heap.size (w.alloc (.cells (R.cs y).toArray R.T)) (.slice (some ⟨w.heap.size, 0, none⟩) 1 1) [y] := by
  have := World.ownsRow_lit (base := w.heap.size) (e := R.T) (size := R.s) w (R.cs y).toArray 1 (Nat.le_refl _) (by decide) (by simp [R.len])
  simpa [RK.Own, RK.row] using this
section
variable {o : Oper} {a : Act} {w : World} {K : Act → World → Prop} {Q : Exit → Act → World → Prop}
theorem run_allocBt (w : World) : (Instr.alloc 27 true (.tuple #[])).run Tryd.prog w = .ok (.pointer (some ⟨w.heap.size, 0, none⟩)) (w.alloc (.cells btZ.toArray 27)) := by kernel_rfl
theorem wp_allocBt (ho : o.op = .alloc 27) (h : K (a.put o.dst (.pointer (some ⟨w.heap.size, 0, none⟩))) (w.alloc (.cells btZ.toArray 27))) : o.wp Tryd.prog a w K Q := by
  unfold Oper.wp execOp
  simp only [ho, Sem.run_bind, run_allocBt, Result.andThen_ok, Sem.run_pure]
  exact h
end
theorem Pair15.step {R : BtProg G} {F F' E : List Nat} {w w' : World} {A : List Value} {p : Sh15} (h : Pair15 R F w A p) (hk : Keeps E w w') (hE : ∀ q ∈ E, q ∈ F) (hF : ∀ q ∈ F', q ∈ F ∨ w.heap.size ≤ q) : Pair15 R F' w' A p := by
  obtain ⟨D, h1, h2, h3, h4⟩ := h
  exact ⟨D, R.keep h1 hk (fun q hq hm => h3 q hq (hE q hm)), (h2.keeps hk (fun hn q hq hm => h4 hn q hq (hE q hm))).more hk.size,
    fun q hq hm => (hF q hm).elim (h3 q hq) (fun h => by have := R.old h1 q hq; omega), fun hn q hq hm => (hF q hm).elim (h4 hn q hq) (fun h => by have := h2.old hn q hq; omega)⟩
theorem BitsPlays_any (R : BtProg G) (w : World) (hG : G w) {v : Value} {l : List Ac} (hI : rkAc.In w.heap.size w v l) (hl : ∀ y ∈ l, AcIn w.heap.size w y) : Calls Tryd.prog 3 #[v] w fun e w' => e = .returned (.bool true) ∧ Keeps [] w w' := by
  obtain ⟨a, c, rfl, hc, hm, -⟩ := id hI
  have HGL := Lib.hid (fun w' (h : Keeps [] w w') => R.keepG hG h)
  have HI := Lib.hid hI; have HLI := Lib.hid hl
  have HFW := Lib.hid (few15_any w hI)
  clear hG hI hl
  by_cases hf : fewB l = true
  case neg =>
    rw [show fewB l = false by simpa using hf] at HFW
    go_enter Tryd.func3, Tryd.ntmps3
    go_wp2_with fail
    refine HFW.out.mono ?_; rintro e w1 ⟨rfl, hk⟩
    have HK := Lib.hid hk
    clear hk
    go_wp2_with fail
    refine (awake15_any R _ (HGL.out _ HK.out)).mono ?_; rintro e v3 ⟨rfl, hk⟩
    have HKF := Lib.hid (HK.out.trans hk (FSub.refl _ _))
    clear hk
    go_wp2_with fail
    go_ret
    exact ⟨rfl, HKF.out⟩
  rw [hf] at HFW
  have HN40 := Lib.hid (show l.length ≤ 40 ∧ ∀ y ∈ l, y.m ≤ 40 from by
    unfold fewB at hf
    rw [Bool.and_eq_true, decide_eq_true_eq, List.all_eq_true] at hf
    refine ⟨hf.2, fun y hy => ?_⟩
    have := hf.1 y (by rw [List.take_of_length_le (by omega)]; exact hy)
    simpa using this)
  clear hf
  generalize hn : l.length = n at *
  have HN := Lib.hid hn
  have hn40 := HN40.out.1
  clear hn
  go_enter Tryd.func3, Tryd.ntmps3
  go_wp2_with fail
  refine HFW.out.mono ?_; rintro e w1 ⟨rfl, hk⟩
  have HK := Lib.hid hk; have HSZ := Lib.hid hk.size
  clear hk HFW
  go_wp2_with (first
    | ((with_reducible refine wpList_buildSt (A := btZ) btZ_ok ?_ ?_); exact rfl)
    | ((with_reducible refine wpList_buildSl ⟨none, 0, 0⟩ ?_ ?_); exact rfl))
  have hS1 := RK.lit1 rkSt w1 ⟨btZ, btZ_ok⟩
  have hz1 : (w1.alloc (.cells btZ.toArray 27)).heap.size = w1.heap.size + 1 := Array.size_push _
  have hk2 : Keeps [] (w1.alloc (.cells btZ.toArray 27)) ((w1.alloc (.cells btZ.toArray 27)).alloc (.cells (shC ⟨none, 0, 0⟩).toArray 30)) := (Keeps.refl _ _).alloc _
  have hS2 := hS1.keeps hk2 (by simp)
  have hW2 := RK.lit1 rkSl (w1.alloc (.cells btZ.toArray 27)) ⟨none, 0, 0⟩
  rw [hz1] at hW2
  have hk3 := ((Keeps.refl [] w1).alloc (.cells btZ.toArray 27)).trans hk2 (FSub.refl _ _)
  have HS2 := Lib.hid (show rkSt.Own w1.heap.size ((w1.alloc (.cells btZ.toArray 27)).alloc (.cells (shC ⟨none, 0, 0⟩).toArray 30)) (.slice (some ⟨w1.heap.size, 0, none⟩) 1 1) [⟨btZ, btZ_ok⟩] from hS2)
  have HW2 := Lib.hid (show rkSl.Own w1.heap.size ((w1.alloc (.cells btZ.toArray 27)).alloc (.cells (shC ⟨none, 0, 0⟩).toArray 30)) (.slice (some ⟨w1.heap.size + 1, 0, none⟩) 1 1) [⟨none, 0, 0⟩] from row_up hW2 (fun q hq => by simp [own, Value.ownBlock] at hq; omega))
  replace HK := Lib.hid (HK.out.trans hk3 (FSub.refl _ _))
  have HFZ := Lib.hid (fun q hq => R.old (R.zero w) q hq)
  clear hS1 hz1 hk2 hS2 hW2 hk3
  generalize (w1.alloc (.cells btZ.toArray 27)).alloc (.cells (shC ⟨none, 0, 0⟩).toArray 30) = w2 at *
  go_loopw [3, 4, 5] (fun sv wv i wr => ∃ (k : Nat) (SL : List { A : List Value // skB.Ok A }) (WL : List Sh15), i = .int .i64 k ∧ k ≤ n ∧ SL.length = k + 1 ∧ WL.length = k + 1 ∧ rkSt.Own w1.heap.size wr sv SL ∧ rkSl.Own w1.heap.size wr wv WL ∧ (∀ q ∈ own sv, q ∉ own wv) ∧ (∀ j (h : j < SL.length) (h2 : j < WL.length), Pair15 R (own sv ++ own wv) wr SL[j].1 WL[j]) ∧ Keeps [] w wr) (fun _ _ i _ => n - (intOf i).toNat)
  case atStart =>
    refine ⟨0, [⟨btZ, btZ_ok⟩], [⟨none, 0, 0⟩], rfl, by omega, rfl, rfl, HS2.out, HW2.out, fun q hq => by simp [own, Value.ownBlock] at hq ⊢; omega, fun j h h2 => ?_, HK.out⟩
    obtain rfl : j = 0 := by simpa using h
    exact ⟨[], R.zero _, (InZ_nil (by decide) : rkZ.In _ _ (.slice none 0 0) []), fun q hq hm => by have := HFZ.out q hq; have := HSZ.out; simp [own, Value.ownBlock] at hm; omega, fun hn => absurd rfl hn⟩
  case round =>
    obtain ⟨k, SL, WL, rfl, hk, hsl, hwl, hso, hwo, hdj, hpr, hkw⟩ := hrel
    by_cases hlt : k < n
    case neg =>
      obtain rfl : n = k := by omega
      have hs0 : SL ≠ [] := fun e => by rw [e] at hsl; simp at hsl
      obtain ⟨gs, cs, rfl, hgs, hgs2, hrs⟩ := Own_at hso hs0
      obtain ⟨gw, cw, rfl, hgw, hgw2, hrw⟩ := Own_at hwo (fun e => by rw [e] at hwl; simp at hwl)
      have HK2 := Lib.hid hkw; have HPR := Lib.hid hpr; have HRS := Lib.hid hrs; have HRW := Lib.hid hrw
      clear hso hwo hdj hpr hkw hrs hrw HK
      rw [hsl, hwl]
      obtain ⟨V9, hV9⟩ : ∃ V9, V9 = wr := ⟨_, rfl⟩
      subst hV9
      go_wp2_with fail
      go_loopw [8] (fun i wr => ∃ j : Nat, i = .int .i64 j ∧ j ≤ n + 1 ∧ Keeps [] V9 wr) (fun i _ => n + 1 - (intOf i).toNat)
      case atStart => exact ⟨0, rfl, by omega, Keeps.refl _ _⟩
      case round =>
        obtain ⟨j, rfl, hj, hkj⟩ := hrel
        have HKJ := Lib.hid hkj
        by_cases hjn : j < n + 1
        case neg =>
          have hj1 : ¬ (j : Int) < ((n + 1 : Nat) : Int) := by omega
          have HK := Lib.hid (HK2.out.trans hkj (FSub.refl _ _))
          clear hkj
          go_wp2_with fail
          refine (awake15_any R _ (HGL.out _ HK.out)).mono ?_; rintro e v3 ⟨rfl, hk⟩
          have HKF := Lib.hid (HK.out.trans hk (FSub.refl _ _))
          clear hk
          go_wp2_with fail
          go_ret
          exact ⟨rfl, HKF.out⟩
        have hjs : j < SL.length := by omega
        have hjw : j < WL.length := by omega
        obtain ⟨D, hD1, hD2, -, -⟩ := (HPR.out j hjs hjw).keep hkj (by simp)
        have HRA := Lib.hid (show wr.rangeAt gs j SL[j].1 from by have := HRS.out j hjs; rw [show j * rkSt.s = j from Nat.mul_one j] at this; exact fun i v hv => hkj.cell (this i v hv) (by simp))
        have HRP := Lib.hid (show wr.cell? ⟨gw, j, none⟩ = some WL[j].v from by have := HRW.out j hjw 0 WL[j].v rfl; rw [show j * rkSl.s + 0 = j from by show j * 1 + 0 = j; omega] at this; exact hkj.cell this (by simp))
        have HOA := Lib.hid SL[j].2
        generalize SL[j].1 = A at *
        obtain ⟨⟨pa, pm, pc⟩, hp⟩ : ∃ p, p = WL[j] := ⟨_, rfl⟩
        rw [← hp] at hD2 HRP
        have HD1 := Lib.hid hD1; have HD2 := Lib.hid (show rkZ.In wr.heap.size wr (.slice pa pm pc) D from hD2)
        clear hp hD1 hD2 hkj
        go_wp2_with fail
        obtain ⟨S0, hS0⟩ : ∃ S0 : World → Prop, S0 = fun y => Keeps [] wr y := ⟨_, rfl⟩
        have HSE := Lib.hid hS0
        have hSD : S0 wr.drew := by rw [hS0]; exact (Keeps.refl _ _).drew
        have HSA := Lib.hid (fun (w' : World) (hh : S0 w') => show w'.rangeAt gs j A from by rw [hS0] at hh; exact fun i v hv => hh.cell (HRA.out i v hv) (by simp))
        have HSW := Lib.hid (fun (w' : World) (hh : S0 w') => show w'.cell? ⟨gw, j, none⟩ = some (.slice pa pm pc) from by rw [hS0] at hh; exact hh.cell HRP.out (by simp))
        have HIS := Lib.hid (fun w' (h : Keeps [] wr w') => is15_true R w' (HGL.out w' ((HK2.out.trans HKJ.out (FSub.refl _ _)).trans h (FSub.refl _ _))) (R.new HD1.out h) ((HD2.out.new h (Nat.le_refl _)).more h.size))
        clear hS0
        refine wp_region_noPanic ?_
        refine wp_region_held_drew (S := S0) (by kernel_rfl) hSD (fun hHeld => ?_)
        have HY := Lib.hid ((Keeps.refl [] wr).drew)
        generalize wr.drew = YC at *
        refine tw 0 (h := ?_)
        refine tw 1 (h := ?_)
        refine tk 2 (y := by exact yields_indexSt rfl _ _ rfl gs (n + 1) cs j rfl rfl hjn) (h := ?_)
        refine tk 3 (y := by exact skB.yields HOA.out rfl _ rfl gs j rfl HSA.out) (h := ?_)
        refine tw 4 (h := ?_)
        refine tw 5 (h := ?_)
        refine tk 6 (y := by exact yields_indexSl rfl _ _ rfl gw (n + 1) cw j rfl rfl hjn) (h := ?_)
        refine tk 7 (y := by exact Or.inl ⟨by rfl, by intro w hSw; have q0 := HSW.out w hSw; go_simp; try with_reducible rfl⟩) (h := ?_)
        refine rp 8 (h := fun K hK => ?_)
        refine wp_call9 17 _ _ rfl [.agg A.toArray, .slice pa pm pc] rfl Tryd.func17 (by kernel_rfl) (by kernel_rfl) ((HIS.out _ HY.out).mono ?_)
        rintro e YC ⟨rfl, hk⟩
        refine ⟨_, rfl, ?_⟩
        replace HY := Lib.hid (HY.out.trans hk (FSub.refl _ _)); clear hk
        refine hK.out _ _ (by rw [HSE.out]; exact HY.out) (fun hHeld => ?_); clear hK K; try simp only [Act.put, lsA, lsZ, lsS]
        refine tw 9 (h := ?_)
        refine wpAnyH_done (by kernel_rfl) ?_ _
        refine NoPanic.normal ?_
        have HKF := Lib.hid (HKJ.out.trans HY.out (FSub.refl _ _))
        clear hHeld hSD HSE HSA HSW HIS HY
        go_wp2_with fail
        go_roundw
        case rel => exact ⟨j + 1, by go_num, by omega, HKF.out⟩
        case measure => simp [intOf]; omega
    have hkl : k < l.length := by rw [HN.out]; exact hlt
    obtain ⟨gs, cs, rfl, hgs, hgs2, hrs⟩ := Own_at hso (fun e => by rw [e] at hsl; simp at hsl)
    obtain ⟨gw, cw, rfl, hgw, hgw2, hrw⟩ := Own_at hwo (fun e => by rw [e] at hwl; simp at hwl)
    obtain ⟨g, o, rfl, hg, hry⟩ := InAc_at (HI.out.new hkw (Nat.le_refl _)) hkl
    have hks : k < SL.length := by omega
    have hkW : k < WL.length := by omega
    obtain ⟨D, hD1, hD2, hD3, hD4⟩ := hpr k hks hkW
    have HRS := Lib.hid (show wr.rangeAt gs k SL[k].1 from by have := hrs k hks; rw [show k * rkSt.s = k from Nat.mul_one k] at this; exact this)
    have HRW := Lib.hid (show wr.cell? ⟨gw, k, none⟩ = some WL[k].v from by have := hrw k hkW 0 WL[k].v rfl; rw [show k * rkSl.s + 0 = k from by show k * 1 + 0 = k; omega] at this; exact this)
    have HRY := Lib.hid (show wr.rangeAt g (o + k * 3) (acC l[k]) from hry)
    have hyI := HLI.out l[k] (List.getElem_mem hkl)
    have hy40 := HN40.out.2 l[k] (List.getElem_mem hkl)
    have HOA := Lib.hid SL[k].2
    generalize SL[k].1 = A at *
    obtain ⟨⟨pa, pm, pc⟩, hp⟩ : ∃ p, p = WL[k] := ⟨_, rfl⟩
    rw [← hp] at hD2 hD4 HRW
    generalize l[k] = y at *
    have HYI := Lib.hid hyI; have HY64 := Lib.hid (show I64 y.n from hyI.2.2); have HY40 := Lib.hid hy40; have HK2 := Lib.hid hkw; have HSO := Lib.hid hso; have HWOW := Lib.hid hwo; have HDJ := Lib.hid hdj; have HPR := Lib.hid hpr
    have HD1 := Lib.hid hD1; have HD2 := Lib.hid (show rkZ.In wr.heap.size wr (.slice pa pm pc) D from hD2); have HD3 := Lib.hid hD3; have HD4 := Lib.hid (show D ≠ [] → ∀ q ∈ own (.slice pa pm pc), _ from hD4)
    clear hrs hrw hry hyI hy40 hp hkw hso hwo hdj hpr hD1 hD2 hD3 hD4
    rw [hsl, hwl]
    obtain ⟨V0, hV0⟩ : ∃ V0, V0 = wr := ⟨_, rfl⟩
    subst hV0
    have HOF := Lib.hid (fun q hq => R.old HD1.out q hq); have HOW := Lib.hid (fun hn q hq => HD2.out.old hn q hq)
    have HMD := Lib.hid (fun w' (h : Keeps [] V0 w') => made15_any R w' (HGL.out _ (HK2.out.trans h (FSub.refl _ _))) (R.new HD1.out h) ((HD2.out.new h (Nat.le_refl _)).more h.size) y ⟨((HYI.out.1.new (HK2.out.trans h (FSub.refl _ _)) (Nat.le_refl _)).more (HK2.out.trans h (FSub.refl _ _)).size), HYI.out.2⟩ HY40.out)
    have hk1 : k < k + 1 := Nat.lt_succ_self k
    go_wp2_with fail
    refine wp_join15 (fun qa zv us a => (((((((((((((((((((a.put (some 23) (us.getD 0 undef)).put (some 24) (us.getD 1 undef)).put (some 25) (us.getD 2 undef)).put (some 26) (us.getD 3 undef)).put (some 27) (us.getD 4 undef)).put (some 28) (us.getD 5 undef)).put (some 29) (us.getD 6 undef)).put (some 30) (us.getD 7 undef)).put (some 31) (us.getD 8 undef)).put (some 32) (us.getD 9 undef)).put (some 33) (us.getD 10 undef)).put (some 34) (us.getD 11 undef)).put (some 35) (us.getD 12 undef)).put (some 22) (us.getD 13 undef)).put (some 36) (us.getD 14 undef)).put (some 37) (us.getD 15 undef)).put (some 6) (.pointer (some ⟨qa, 0, none⟩))).put (some 7) zv))) (fun qa zv w' => ∃ (A' : List Value) (va : Option Addr) (vc : Nat), zv = .slice va (madeB D y).length vc ∧ w'.heap[qa]? = some (.cells A'.toArray 27 (0, 0)) ∧ R.At w' (.agg A'.toArray) (madeB D y) ∧ rkZ.In w'.heap.size w' (.slice va (madeB D y).length vc) (madeB D y) ∧ Keeps [] V0 w' ∧ V0.heap.size ≤ qa ∧ (∀ q ∈ R.foot (.agg A'.toArray), q ∈ R.foot (.agg A.toArray) ∨ V0.heap.size ≤ q) ∧ (madeB D y ≠ [] → ∀ q ∈ own (.slice va (madeB D y).length vc), (D ≠ [] ∧ q ∈ own (.slice pa pm pc)) ∨ V0.heap.size ≤ q)) ?_ ?_
    · obtain ⟨S0, hS0⟩ : ∃ S0 : World → Prop, S0 = fun y => Keeps [] V0 y := ⟨_, rfl⟩
      have HSE := Lib.hid hS0
      have hSD : S0 V0.drew := by rw [hS0]; exact (Keeps.refl _ _).drew
      have HSA := Lib.hid (fun (w' : World) (hh : S0 w') => show w'.rangeAt gs k A from by rw [hS0] at hh; exact fun j v hv => hh.cell (HRS.out j v hv) (by simp))
      have HSW := Lib.hid (fun (w' : World) (hh : S0 w') => show w'.cell? ⟨gw, k, none⟩ = some (.slice pa pm pc) from by rw [hS0] at hh; exact hh.cell HRW.out (by simp))
      have HSY := Lib.hid (fun (w' : World) (hh : S0 w') => show w'.rangeAt g (o + k * 3) (acC y) from by rw [hS0] at hh; exact fun j v hv => hh.cell (HRY.out j v hv) (by simp))
      clear hS0
      refine wp_region_noPanic ?_
      refine wp_region_held_drew (S := S0) (by kernel_rfl) hSD (fun hHeld => ?_)
      refine tw 0 (h := ?_)
      refine tw 1 (h := ?_)
      refine tk 2 (y := by exact yields_indexSt rfl _ _ rfl gs (k + 1) cs k rfl rfl hk1) (h := ?_)
      refine tk 3 (y := by exact skB.yields HOA.out rfl _ rfl gs k rfl HSA.out) (h := ?_)
      refine tw 4 (h := ?_)
      refine tw 5 (h := ?_)
      refine tk 6 (y := by exact yields_indexSl rfl _ _ rfl gw (k + 1) cw k rfl rfl hk1) (h := ?_)
      refine tk 7 (y := by exact Or.inl ⟨by rfl, by intro w hSw; have q0 := HSW.out w hSw; go_simp; try with_reducible rfl⟩) (h := ?_)
      refine tw 8 (h := ?_)
      refine tw 9 (h := ?_)
      refine tk 10 (y := by exact yields_indexAc rfl _ _ rfl g o n c k rfl rfl hlt) (h := ?_)
      refine tk 11 (y := by exact rkAc.yields Tryd.underlying34 rfl rfl _ rfl g (o + k * 3) rfl y HSY.out) (h := ?_)
      have HY := Lib.hid ((Keeps.refl [] V0).drew)
      generalize V0.drew = YC at *
      iterate 2
        all_goals
          first
            | apply wpAnyH_ready (rs := [12, 16])
              · decide +kernel
              · simp
              refine acn ?_ (acn ?_ (AllReadyH.nil))
            | apply wpAnyH_ready (rs := [12])
              · decide +kernel
              · simp
              refine acn ?_ (AllReadyH.nil)
            | apply wpAnyH_ready (rs := [16])
              · decide +kernel
              · simp
              refine acn ?_ (AllReadyH.nil)
          all_goals
            intro K hK
            rw [if_pos (by rfl)]
            first
            | refine wp_call9 10 _ _ rfl [.agg A.toArray, .slice pa pm pc, .agg (acC y).toArray] rfl Tryd.func10 (by kernel_rfl) (by kernel_rfl) ((HMD.out _ HY.out).mono ?_)
              rintro e YC ⟨A', v', rfl, hat, hin, hk, hf, how⟩
              refine ⟨_, rfl, ?_⟩
              obtain ⟨va, vc, rfl, -⟩ := id hin
              have HFO := Lib.hid (show ∀ q ∈ R.foot (.agg A'.toArray), q ∈ R.foot (.agg A.toArray) ∨ V0.heap.size ≤ q from fun q hq => (hf q hq).imp id (fun h => Nat.le_trans HY.out.size h))
              have HWO := Lib.hid (show madeB D y ≠ [] → ∀ q ∈ own (.slice va (madeB D y).length vc), (D ≠ [] ∧ q ∈ own (.slice pa pm pc)) ∨ V0.heap.size ≤ q from fun hn q hq => (how hn q hq).imp id (fun h => Nat.le_trans HY.out.size h))
              try have HFQ := Lib.hid (show ∀ q ∈ R.foot (.agg A'.toArray), q ≠ ga from fun q hq => by rcases hf q hq with h | h; (have := HOF.out q h; have := HGA.out; omega); (have := lt_of_block HBA.out; omega))
              try have HWQ := Lib.hid (show madeB D y ≠ [] → ∀ q ∈ own (.slice va (madeB D y).length vc), q ≠ ga from fun hn q hq => by rcases how hn q hq with h | h; (have := HOW.out h.1 q h.2; have := HGA.out; omega); (have := lt_of_block HBA.out; omega))
              try replace HBA := Lib.hid (hk.heap HBA.out (by simp))
              try replace HATA := Lib.hid (R.new HATA.out hk)
              try replace HINA := Lib.hid ((HINA.out.new hk (Nat.le_refl _)).more hk.size)
              replace HY := Lib.hid (HY.out.trans hk (FSub.refl _ _))
              have HATA := Lib.hid hat; have HINA := Lib.hid hin
              clear hat hin hk hf how
              refine hK.out _ _ (by rw [HSE.out]; exact HY.out) (fun hHeld => ?_); clear hK K; try simp only [Act.put, lsA, lsZ, lsS]
              refine tw 13 (h := ?_)
              refine tw 14 (h := ?_)
              refine tw 15 (h := ?_)
            | refine wp_allocBt rfl ?_
              have hb := heap_alloc_new YC (.cells btZ.toArray 27)
              have hk : Keeps [] YC (YC.alloc (.cells btZ.toArray 27)) := (Keeps.refl _ _).alloc _
              have HGA := Lib.hid HY.out.size
              try have HFQ := Lib.hid (show ∀ q ∈ R.foot (.agg A'.toArray), q ≠ YC.heap.size from fun q hq => Nat.ne_of_lt (R.old HATA.out q hq))
              try have HWQ := Lib.hid (show madeB D y ≠ [] → ∀ q ∈ own (.slice va (madeB D y).length vc), q ≠ YC.heap.size from fun hn q hq => Nat.ne_of_lt (HINA.out.old hn q hq))
              try replace HBA := Lib.hid (hk.heap HBA.out (by simp))
              try replace HATA := Lib.hid (R.new HATA.out hk)
              try replace HINA := Lib.hid ((HINA.out.new hk (Nat.le_refl _)).more hk.size)
              replace HY := Lib.hid (HY.out.trans hk (FSub.refl _ _))
              have HBA := Lib.hid hb
              clear hk hb
              generalize YC.heap.size = ga at *
              generalize YC.alloc (.cells btZ.toArray 27) = YC at *
              refine hK.out _ _ (by rw [HSE.out]; exact HY.out) (fun hHeld => ?_); clear hK K; try simp only [Act.put, lsA, lsZ, lsS]
      all_goals
        refine rp 17 (h := fun K hK => ?_)
        refine skB.wp_put rfl (g := ga) (old := btZ) (A := A') (btOk R HATA.out) btZ_ok rfl rfl HBA.out (fun YC hV hk => ?_)
        replace HBA := Lib.hid hV
        replace HATA := Lib.hid (R.put HATA.out hk HFQ.out)
        replace HINA := Lib.hid ((HINA.out.keeps hk (fun hn q hq => by simpa using HWQ.out hn q hq)).more hk.size)
        replace HY := Lib.hid (HY.out.trans hk (fun q hq => .inr (by simp at hq; have := HGA.out; omega)))
        clear hV hk
        refine hK.out _ _ (by rw [HSE.out]; exact HY.out) (fun hHeld => ?_); clear hK K; try simp only [Act.put, lsA, lsZ, lsS]
        refine tw 18 (h := ?_)
        refine wpAnyH_done (by kernel_rfl) ?_ _
        refine NoPanic.normal ?_
        exact ⟨rfl, ga, .slice va (madeB D y).length vc, [_, _, _, _, _, _, _, _, _, _, _, _, _, _, _, _], rfl, A', va, vc, rfl, HBA.out, HATA.out, HINA.out, HY.out, HGA.out, HFO.out, HWO.out⟩
    rintro q6 zv us V1 ⟨A', va, vc, rfl, hba, hat, hin, hk1', hga, hfo, hwo2⟩
    simp only [Act.put, lsA, lsZ, lsS]
    generalize madeB D y = L at *
    have HB6 := Lib.hid hba; have HA1 := Lib.hid hat; have HI1 := Lib.hid hin; have HKV := Lib.hid (HK2.out.trans hk1' (FSub.refl _ _))
    have HOA' := Lib.hid (btOk R hat)
    obtain ⟨sv, hsv⟩ : ∃ sv, sv = own (.slice (some ⟨gs, 0, none⟩) SL.length cs) := ⟨_, rfl⟩
    obtain ⟨wv, hwv⟩ : ∃ wv, wv = own (.slice (some ⟨gw, 0, none⟩) WL.length cw) := ⟨_, rfl⟩
    rw [← hsv, ← hwv] at HD3 HD4 HPR HDJ
    have HSB := Lib.hid (show ∀ q ∈ sv, w1.heap.size ≤ q ∧ q < V0.heap.size from fun q hq => row_base HSO.out q (by rw [← hsv]; exact hq))
    have HWB := Lib.hid (show ∀ q ∈ wv, w1.heap.size ≤ q ∧ q < V0.heap.size from fun q hq => row_base HWOW.out q (by rw [← hwv]; exact hq))
    have HFN := Lib.hid (show ∀ q ∈ R.foot (.agg A'.toArray), q ∉ sv ++ wv from fun q hq hm => (hfo q hq).elim (fun h => HD3.out q h hm) (fun h => (List.mem_append.1 hm).elim (fun h2 => by have := (HSB.out q h2).2; omega) (fun h2 => by have := (HWB.out q h2).2; omega)))
    have HWN := Lib.hid (show L ≠ [] → ∀ q ∈ own (.slice va L.length vc), q ∉ sv ++ wv from fun hn q hq hm => (hwo2 hn q hq).elim (fun h => HD4.out h.1 q h.2 hm) (fun h => (List.mem_append.1 hm).elim (fun h2 => by have := (HSB.out q h2).2; omega) (fun h2 => by have := (HWB.out q h2).2; omega)))
    have HPN := Lib.hid (show Pair15 R (sv ++ wv) V1 A' ⟨va, L.length, vc⟩ from ⟨L, hat, hin, HFN.out, HWN.out⟩)
    have HP1 := Lib.hid (fun j h h2 => (HPR.out j h h2).keep hk1' (by simp))
    have HSO1 := Lib.hid (HSO.out.keeps hk1' (by simp)); have HWO1 := Lib.hid (HWOW.out.keeps hk1' (by simp))
    have HRY1 := Lib.hid (fun j v hv => hk1'.cell (HRY.out j v hv) (by simp)); have HS01 := Lib.hid hk1'.size
    have HQ6 := Lib.hid (show q6 ∉ sv ++ wv from fun hm => (List.mem_append.1 hm).elim (fun h2 => by have := (HSB.out q6 h2).2; omega) (fun h2 => by have := (HWB.out q6 h2).2; omega))
    clear hba hat hin hk1' hga hfo hwo2 HMD HRS HRW HRY HD1 HD2 HD3 HD4 HPR HSO HWOW HOF HOW HOA HYI HY40
    obtain ⟨v3, W3, hrun3, hrow3, hk3, hf3⟩ := rkSt.append1 V1 w1.heap.size (by have := HS01.out; omega) _ _ HSO1.out ⟨A', HOA'.out⟩ (by omega)
    have HRUN3 := Lib.hid (show (Builtin.append_ #[28, 28] 28 #[.slice (some ⟨gs, 0, none⟩) (k + 1) cs, .slice (some ⟨V1.heap.size, 0, none⟩) 1 1]).run Tryd.prog (V1.alloc (.cells A'.toArray 27)) = .ok v3 W3 from by rw [← hsl]; exact hrun3)
    rw [← hsv] at hk3 hf3
    have hwo3 := HWO1.out.keeps hk3 (fun q hq hm => HDJ.out q hm (by rw [hwv]; exact hq))
    have hb63 := hk3.heap HB6.out (fun hm => HQ6.out (List.mem_append.2 (.inl hm)))
    have hs3 := hk3.size
    obtain ⟨v4, W4, hrun4, hrow4, hk4, hf4⟩ := rkSl.append1 W3 w1.heap.size (by have := HS01.out; omega) _ _ hwo3 ⟨va, L.length, vc⟩ (by omega)
    have HRUN4 := Lib.hid (show (Builtin.append_ #[29, 29] 29 #[.slice (some ⟨gw, 0, none⟩) (k + 1) cw, .slice (some ⟨W3.heap.size, 0, none⟩) 1 1]).run Tryd.prog (W3.alloc (.cells (shC ⟨va, L.length, vc⟩).toArray 30)) = .ok v4 W4 from by rw [← hwl]; exact hrun4)
    rw [← hwv] at hk4 hf4
    have hd3 : ∀ q ∈ own v3, q ∉ wv := fun q hq hm => (hf3 q hq).elim (fun h => HDJ.out q h hm) (fun h => by have := (HWB.out q hm).2; have := HS01.out; omega)
    have HSO4 := Lib.hid (hrow3.keeps hk4 hd3); have HWO4 := Lib.hid hrow4
    have HB64 := Lib.hid (hk4.heap hb63 (fun hm => HQ6.out (List.mem_append.2 (.inr hm))))
    have HDJ4 := Lib.hid (show ∀ q ∈ own v3, q ∉ own v4 from fun q hq hm => (hf4 q hm).elim (hd3 q hq) (fun h => by have := (row_base hrow3 q hq).2; omega))
    have HST := Lib.hid (fun (B : List Value) (p : Sh15) (h : Pair15 R (sv ++ wv) V1 B p) => show Pair15 R (own v3 ++ own v4) W4 B p from
      (h.step (F' := own v3 ++ wv) hk3 (fun q hq => List.mem_append.2 (.inl hq)) (fun q hq => (List.mem_append.1 hq).elim (fun h => (hf3 q h).imp (fun h => List.mem_append.2 (.inl h)) id) (fun h => .inl (List.mem_append.2 (.inr h))))).step hk4 (fun q hq => List.mem_append.2 (.inr hq)) (fun q hq => (List.mem_append.1 hq).elim (fun h => .inl (List.mem_append.2 (.inl h))) (fun h => (hf4 q h).imp (fun h => List.mem_append.2 (.inr h)) id)))
    have HA4 := Lib.hid (R.keep (R.keep HA1.out hk3 (fun q hq hm => HFN.out q hq (List.mem_append.2 (.inl hm)))) hk4 (fun q hq hm => HFN.out q hq (List.mem_append.2 (.inr hm))))
    have HI4 := Lib.hid ((((HI1.out.keeps hk3 (fun hn q hq hm => HWN.out hn q hq (List.mem_append.2 (.inl hm)))).keeps hk4 (fun hn q hq hm => HWN.out hn q hq (List.mem_append.2 (.inr hm)))).more hk3.size).more hk4.size)
    have HK4 := Lib.hid ((HKV.out.trans hk3 (fun q hq => .inr (by have := (HSB.out q hq).1; have := HSZ.out; omega))).trans hk4 (fun q hq => .inr (by have := (HWB.out q hq).1; have := HSZ.out; omega)))
    have HRY4 := Lib.hid (show W4.rangeAt g (o + k * 3) (acC y) from fun j v hv => hk4.cell (hk3.cell (HRY1.out j v hv) (fun hm => by have := (HSB.out g hm).1; have := HSZ.out; omega)) (fun hm => by have := (HWB.out g hm).1; have := HSZ.out; omega))
    obtain ⟨a3, c3, e3, -, -⟩ := id hrow3.shape
    obtain ⟨a4, c4, e4, -, -⟩ := id hrow4.shape
    rw [show (SL ++ [(⟨A', HOA'.out⟩ : { A : List Value // skB.Ok A })]).length = k + 1 + 1 from by rw [List.length_append, hsl]; rfl] at e3
    rw [show (WL ++ [(⟨va, L.length, vc⟩ : Sh15)]).length = k + 1 + 1 from by rw [List.length_append, hwl]; rfl] at e4
    subst e3 e4
    clear hrun3 hrow3 hk3 hf3 hwo3 hb63 hs3 hrun4 hrow4 hk4 hf4 hd3 HA1 HI1 HSO1 HWO1 HKV HRY1 HFN HWN HDJ HK2
    go_wp2_with (first
      | ((with_reducible refine wpList_loadBt (g := q6) HOA'.out ?_ ?_ (block_range HB6.out) ?_); exact rfl; exact rfl)
      | ((with_reducible refine wpList_buildSt (A := A') HOA'.out ?_ ?_); exact rfl)
      | ((with_reducible refine wpList_app _ _ ?_ ?_ HRUN3.out ?_); exact rfl; exact rfl)
      | ((with_reducible refine wpList_buildSl ⟨va, L.length, vc⟩ ?_ ?_); exact rfl)
      | ((with_reducible refine wpList_app _ _ ?_ ?_ HRUN4.out ?_); exact rfl; exact rfl))
    have HIR := Lib.hid (fun w' (h : Keeps [] W4 w') => (HI4.out.new h (Nat.le_refl _)).more h.size)
    have HLB := Lib.hid (R.in_ HA4.out)
    have HGW := Lib.hid (fun w' (h : Keeps [] W4 w') => HGL.out w' (HK4.out.trans h (FSub.refl _ _)))
    obtain ⟨bh, hbh⟩ : ∃ bh, bh = decide (y.n ∈ L) := ⟨_, rfl⟩
    obtain ⟨gh, hgh⟩ : ∃ gh, gh = gapB L y.n := ⟨_, rfl⟩
    obtain ⟨kh, hkh⟩ : ∃ kh, kh = bs (keyB L) := ⟨_, rfl⟩
    have HH1 := Lib.hid (fun w' (h : Keeps [] W4 w') => R.has w' _ L y.n (HGW.out w' h) (R.new HA4.out h) HY64.out); have HH2 := Lib.hid (fun w' (h : Keeps [] W4 w') => r15Has_any w' (HIR.out w' h) y.n)
    have HG1 := Lib.hid (fun w' (h : Keeps [] W4 w') => R.gap w' _ L y.n (HGW.out w' h) (R.new HA4.out h) HY64.out); have HG2 := Lib.hid (fun w' (h : Keeps [] W4 w') => r15Gap_any w' (HIR.out w' h) HLB.out y.n)
    have HE1 := Lib.hid (fun w' (h : Keeps [] W4 w') => R.key w' _ L (HGW.out w' h) (R.new HA4.out h)); have HE2 := Lib.hid (fun w' (h : Keeps [] W4 w') => r15Key_any w' (HIR.out w' h) HLB.out)
    rw [← hbh] at HH1 HH2
    rw [← hgh] at HG1 HG2
    rw [← hkh] at HE1 HE2
    clear hbh hgh hkh
    have th : (bh != bh) = false := by simp
    have tg : (gh != gh) = false := by simp
    have te : (kh.toList != kh.toList) = false := by simp
    obtain ⟨S0, hS0⟩ : ∃ S0 : World → Prop, S0 = fun y => Keeps [] W4 y := ⟨_, rfl⟩
    have HSE := Lib.hid hS0
    have hSD : S0 W4.drew := by rw [hS0]; exact (Keeps.refl _ _).drew
    have HSA := Lib.hid (fun (w' : World) (hh : S0 w') => show w'.rangeAt q6 0 A' from by rw [hS0] at hh; exact block_range (hh.heap HB64.out (by simp)))
    have HSN := Lib.hid (fun (w' : World) (hh : S0 w') => show w'.cell? ⟨g, o + k * 3 + 1, none⟩ = some (.int .i64 y.n) from by rw [hS0] at hh; exact hh.cell (HRY4.out 1 _ rfl) (by simp))
    clear hS0
    refine wp_region_noPanic ?_
    refine wp_region_held_drew (S := S0) (by kernel_rfl) hSD (fun hHeld => ?_)
    have HY := Lib.hid ((Keeps.refl [] W4).drew)
    generalize W4.drew = YC at *
    refine tk 0 (y := by exact skB.yields HOA'.out rfl _ rfl q6 0 rfl HSA.out) (h := ?_)
    refine tw 1 (h := ?_)
    refine tw 2 (h := ?_)
    refine tk 3 (y := by exact yields_indexAc rfl _ _ rfl g o n c k rfl rfl hlt) (h := ?_)
    refine tw 4 (h := ?_)
    refine tk 5 (y := by exact Or.inl ⟨by rfl, by intro w hSw; have q0 := HSN.out w hSw; go_simp; try with_reducible rfl⟩) (h := ?_)
    refine tw 7 (h := ?_)
    refine tw 8 (h := ?_)
    refine tw 9 (h := ?_)
    refine tk 10 (y := by exact yields_indexAc rfl _ _ rfl g o n c k rfl rfl hlt) (h := ?_)
    refine tw 11 (h := ?_)
    refine tk 12 (y := by exact Or.inl ⟨by rfl, by intro w hSw; have q0 := HSN.out w hSw; go_simp; try with_reducible rfl⟩) (h := ?_)
    refine rp 6 (h := fun K hK => ?_)
    refine wp_call9 11 _ _ rfl [.agg A'.toArray, .int .i64 y.n] rfl Tryd.func11 (by kernel_rfl) (by kernel_rfl) ((HH1.out _ HY.out).mono ?_)
    rintro e YC ⟨rfl, hk⟩
    refine ⟨_, rfl, ?_⟩
    replace HY := Lib.hid (HY.out.trans hk (FSub.refl _ _)); clear hk
    refine hK.out _ _ (by rw [HSE.out]; exact HY.out) (fun hHeld => ?_); clear hK K; try simp only [Act.put, lsA, lsZ, lsS]
    refine rp 13 (h := fun K hK => ?_)
    refine wp_call9 12 _ _ rfl [.slice va L.length vc, .int .i64 y.n] rfl Tryd.func12 (by kernel_rfl) (by kernel_rfl) ((HH2.out _ HY.out).mono ?_)
    rintro e YC ⟨rfl, hk⟩
    refine ⟨_, rfl, ?_⟩
    replace HY := Lib.hid (HY.out.trans hk (FSub.refl _ _)); clear hk
    refine hK.out _ _ (by rw [HSE.out]; exact HY.out) (fun hHeld => ?_); clear hK K; try simp only [Act.put, lsA, lsZ, lsS]
    refine tw 14 (h := ?_)
    refine tw 15 (h := ?_)
    refine tk 16 (y := by exact skB.yields HOA'.out rfl _ rfl q6 0 rfl HSA.out) (h := ?_)
    refine tw 17 (h := ?_)
    refine tw 18 (h := ?_)
    refine tk 19 (y := by exact yields_indexAc rfl _ _ rfl g o n c k rfl rfl hlt) (h := ?_)
    refine tw 20 (h := ?_)
    refine tk 21 (y := by exact Or.inl ⟨by rfl, by intro w hSw; have q0 := HSN.out w hSw; go_simp; try with_reducible rfl⟩) (h := ?_)
    refine tw 23 (h := ?_)
    refine tw 24 (h := ?_)
    refine tw 25 (h := ?_)
    refine tk 26 (y := by exact yields_indexAc rfl _ _ rfl g o n c k rfl rfl hlt) (h := ?_)
    refine tw 27 (h := ?_)
    refine tk 28 (y := by exact Or.inl ⟨by rfl, by intro w hSw; have q0 := HSN.out w hSw; go_simp; try with_reducible rfl⟩) (h := ?_)
    refine rp 22 (h := fun K hK => ?_)
    refine wp_call9 13 _ _ rfl [.agg A'.toArray, .int .i64 y.n] rfl Tryd.func13 (by kernel_rfl) (by kernel_rfl) ((HG1.out _ HY.out).mono ?_)
    rintro e YC ⟨rfl, hk⟩
    refine ⟨_, rfl, ?_⟩
    replace HY := Lib.hid (HY.out.trans hk (FSub.refl _ _)); clear hk
    refine hK.out _ _ (by rw [HSE.out]; exact HY.out) (fun hHeld => ?_); clear hK K; try simp only [Act.put, lsA, lsZ, lsS]
    refine rp 29 (h := fun K hK => ?_)
    refine wp_call9 14 _ _ rfl [.slice va L.length vc, .int .i64 y.n] rfl Tryd.func14 (by kernel_rfl) (by kernel_rfl) ((HG2.out _ HY.out).mono ?_)
    rintro e YC ⟨rfl, hk⟩
    refine ⟨_, rfl, ?_⟩
    replace HY := Lib.hid (HY.out.trans hk (FSub.refl _ _)); clear hk
    refine hK.out _ _ (by rw [HSE.out]; exact HY.out) (fun hHeld => ?_); clear hK K; try simp only [Act.put, lsA, lsZ, lsS]
    refine tw 30 (h := ?_)
    refine tw 31 (h := ?_)
    refine tw 32 (h := ?_)
    refine tk 33 (y := by exact skB.yields HOA'.out rfl _ rfl q6 0 rfl HSA.out) (h := ?_)
    refine tw 35 (h := ?_)
    refine rp 34 (h := fun K hK => ?_)
    refine wp_call9 15 _ _ rfl [.agg A'.toArray] rfl Tryd.func15 (by kernel_rfl) (by kernel_rfl) ((HE1.out _ HY.out).mono ?_)
    rintro e YC ⟨rfl, hk⟩
    refine ⟨_, rfl, ?_⟩
    replace HY := Lib.hid (HY.out.trans hk (FSub.refl _ _)); clear hk
    refine hK.out _ _ (by rw [HSE.out]; exact HY.out) (fun hHeld => ?_); clear hK K; try simp only [Act.put, lsA, lsZ, lsS]
    refine rp 36 (h := fun K hK => ?_)
    refine wp_call9 16 _ _ rfl [.slice va L.length vc] rfl Tryd.func16 (by kernel_rfl) (by kernel_rfl) ((HE2.out _ HY.out).mono ?_)
    rintro e YC ⟨rfl, hk⟩
    refine ⟨_, rfl, ?_⟩
    replace HY := Lib.hid (HY.out.trans hk (FSub.refl _ _)); clear hk
    refine hK.out _ _ (by rw [HSE.out]; exact HY.out) (fun hHeld => ?_); clear hK K; try simp only [Act.put, lsA, lsZ, lsS]
    refine tw 37 (h := ?_)
    refine tw 38 (h := ?_)
    refine wpAnyH_done (by kernel_rfl) ?_ _
    refine NoPanic.normal ?_
    have HKF := Lib.hid (HK4.out.trans HY.out (FSub.refl _ _))
    have HSF := Lib.hid (HSO4.out.keeps HY.out (by simp)); have HWF := Lib.hid (HWO4.out.keeps HY.out (by simp)); have HKY := Lib.hid HY.out
    clear hHeld hSD HSE HSA HSN HH1 HH2 HG1 HG2 HE1 HE2 HY HSO4 HWO4
    go_wp2_with fail
    go_roundw
    case rel =>
      refine ⟨k + 1, SL ++ [⟨A', HOA'.out⟩], WL ++ [⟨va, L.length, vc⟩], by go_num, by omega, by rw [List.length_append, hsl]; rfl, by rw [List.length_append, hwl]; rfl, HSF.out, HWF.out, HDJ4.out, fun j h h2 => ?_, HKF.out⟩
      by_cases hj : j < SL.length
      · rw [List.getElem_append_left hj, List.getElem_append_left (by omega)]
        exact (HST.out _ _ (HP1.out j hj (by omega))).keep HKY.out (by simp)
      · obtain rfl : j = SL.length := by rw [List.length_append] at h; simp at h; omega
        rw [List.getElem_append_right (Nat.le_refl _), List.getElem_append_right (by omega)]
        simp only [Nat.sub_self, show SL.length - WL.length = 0 by omega]
        exact (HST.out _ _ HPN.out).keep HKY.out (by simp)
    case measure => simp [intOf]; omega
end Go.Proofs.YtbeniihbejakaaaDoor
