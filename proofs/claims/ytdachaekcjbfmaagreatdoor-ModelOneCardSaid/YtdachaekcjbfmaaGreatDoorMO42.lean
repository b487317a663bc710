/-
  The law ModelOne, over any program's objects.
-/
import Derived.Test.YtdachaekcjbfmaaGreatDoorMO41
set_option linter.unusedSimpArgs false
set_option linter.unusedVariables false
namespace Go.Proofs.YtdachaekcjbfmaaGreatDoor
open Go.RowKit
set_option maxRecDepth 100000
/-- A call, another client and an answer, as cells. -/
def otC (y : Cl) (c : Int) (r : Ans) : List Value := clC y ++ [.int .u8 c, .int .u8 r.k, .int .u16 r.v]
theorem InC13_take {N : Nat} {w : World} {a : Option Addr} {n c : Nat} {l : List Cl} (h : rkC13.In N w (.slice a n c) l) {k : Nat} (hk : k ≤ n) : rkC13.In N w (.slice a k c) (l.take k) := by
  obtain ⟨b, d, e, h1, h2, h⟩ := h
  simp at e
  obtain ⟨rfl, rfl, rfl⟩ := e
  have hl : (l.take k).length = k := by rw [List.length_take]; omega
  refine ⟨a, c, by rw [hl], by omega, h2, fun hn => ?_⟩
  obtain ⟨bk, o, e, hb, hr⟩ := h (fun e => hn (by rw [e]; simp))
  refine ⟨bk, o, e, hb, fun j hj => ?_⟩
  rw [List.getElem_take]
  exact hr j (by omega)
section
variable {ops : Array Oper} {rest : List Oper} {a : Act} {w : World} {Q : Exit → Act → World → Prop}
theorem wpList_loadCl13 {dst : Option Tmp} {ty : TypeId} {pos : String} {after : Array Edge} {gd : Option (Nat × Bool)} {x : Operand} {g off : Nat} (y : Cl)
    (hw : Region.wanted { dst := dst, op := .load 46 x, type := ty, pos := pos, after := after, guard := gd } (yielded ops a.tmps) = true)
    (hx : a.eval x = .pointer (some ⟨g, off, none⟩)) (hr : w.rangeAt g off (clC y)) (h : wpList Tryz.prog ops Q rest (a.put dst (.agg (clC y).toArray)) w) :
    wpList Tryz.prog ops Q ({ dst := dst, op := .load 46 x, type := ty, pos := pos, after := after, guard := gd } :: rest) a w :=
  rkC13.wpList_load Tryz.underlying46 rfl rfl hw hx hr h
theorem wpList_loadNo13 {dst : Option Tmp} {ty : TypeId} {pos : String} {after : Array Edge} {gd : Option (Nat × Bool)} {x : Operand} {g off : Nat} (y : Ans)
    (hw : Region.wanted { dst := dst, op := .load 25 x, type := ty, pos := pos, after := after, guard := gd } (yielded ops a.tmps) = true)
    (hx : a.eval x = .pointer (some ⟨g, off, none⟩)) (hr : w.rangeAt g off (ansC y)) (h : wpList Tryz.prog ops Q rest (a.put dst (.agg #[.int .u8 y.k, .int .u16 y.v])) w) :
    wpList Tryz.prog ops Q ({ dst := dst, op := .load 25 x, type := ty, pos := pos, after := after, guard := gd } :: rest) a w := skR.wpList_load (ansC_ok y) hw hx hr h
theorem wpList_putCl13 {dst : Option Tmp} {ty : TypeId} {pos : String} {after : Array Edge} {x y : Operand} {g : Nat} {old : Cl} (r : Cl) {t : TypeId}
    (hx : a.eval x = .pointer (some ⟨g, 0, none⟩)) (hy : a.eval y = .agg (clC r).toArray) (hg : w.heap[g]? = some (.cells (clC old).toArray t (0, 0)))
    (h : ∀ W, W.heap[g]? = some (.cells (clC r).toArray t (0, 0)) → Keeps [g] w W → wpList Tryz.prog ops Q rest (a.put dst undef) W) :
    wpList Tryz.prog ops Q ({ dst := dst, op := .store 46 x y, type := ty, pos := pos, after := after, guard := none } :: rest) a w :=
  wpList_store_row rfl 46 x y rfl g (clC r).toArray hx hy t (clC old).toArray hg (by kernel_rfl) rfl (by rw [← Array.all_toList, List.all_eq_true]; exact clC_one r) (h _ (setRow_heap w g (clC old).toArray (clC r).toArray t (0, 0) hg) ((Keeps.refl [g] w).setRow g _ (.inl (by simp))))
end
variable {G : World → Prop}
set_option maxHeartbeats 8000000
theorem ModelOne_any (R : MdProg G) (F : MdFits R) (SM : MdSame R) (IM : MdIdle G) (hchk : ∀ w m x, G w → 0 ≤ m ∧ m < 256 → x.In → Calls Tryz.prog 26 #[.int .u8 m, x.val] w fun e w' => e = .returned (.int .i64 (opChk m x)) ∧ Keeps [] w w') (w : World) (hG : G w) {m : Int} (h0 : 0 ≤ m) (h3 : m ≤ 3) {v : Value} {l : List Cl} (hl : ∀ y ∈ l, y.In) (hI : rkC13.In w.heap.size w v l) (y : Cl) (hy : y.In) (d : Int) (hd : 0 ≤ d ∧ d < 256) (rr : Ans) (hrr : (0 ≤ rr.k ∧ rr.k < 256) ∧ (0 ≤ rr.v ∧ rr.v < 65536)) :
    Calls Tryz.prog 6 #[.int .u8 m, v, .agg (otC y d rr).toArray] w fun e w' => e = .returned (.bool true) ∧ Keeps [] w w' := by
  obtain ⟨a, cp, rfl, hc, hm, -⟩ := id hI
  have HG := Lib.hid (fun w' (h : Keeps [] w w') => R.keepG hG h)
  have HI := Lib.hid hI; have HYI := Lib.hid hy; have HL := Lib.hid hl; have HRR := Lib.hid hrr
  clear hI hy hl hrr hG
  generalize l.length = n at *
  obtain ⟨k, hk⟩ : ∃ k, k = min n 150 := ⟨_, rfl⟩
  have q1 : min (n : Int) 150 = (k : Int) := by omega
  have q2 : (k : Int) ≤ cp := by omega
  have hk1 : k ≤ n ∧ k ≤ 150 := by omega
  have HIK := Lib.hid (InC13_take HI.out hk1.1)
  have HLK := Lib.hid (show ∀ y ∈ l.take k, y.In from fun y hy => HL.out y (List.mem_of_mem_take hy))
  have HNK := Lib.hid (show (l.take k).length ≤ 150 from by rw [List.length_take]; omega)
  obtain ⟨S, hS⟩ : ∃ S, S = bhS (mdInit m) (l.take k) := ⟨_, rfl⟩
  have HSL := Lib.hid (show S.len ≤ 150 from by have h1 := bhS_len (mdInit m) (l.take k); have := HNK.out; rw [mdInit_len, ← hS] at h1; omega)
  have HSM := Lib.hid (show S.model = m from by rw [hS, bhS_model, mdInit_model h0 h3])
  have HB1 := Lib.hid (fun w' (h : Keeps [] w w') => behind13_any R w' (HG.out _ h) h0 h3 HLK.out ((HIK.out.new h (Nat.le_refl _)).more h.size) (by have := HNK.out; omega))
  simp only [← hS] at HB1
  have HA := Lib.hid (show (w.alloc (.cells (otC y d rr).toArray 62)).heap[w.heap.size]? = some (.cells (otC y d rr).toArray 62 (0, 0)) from heap_alloc_new w _)
  have HK := Lib.hid (show Keeps [] w (w.alloc (.cells (otC y d rr).toArray 62)) from (Keeps.refl _ _).alloc _)
  clear hS hk1 hk HI HL
  go_enter Tryz.func6, Tryz.ntmps6
  go_wp2_with fail
  refine (HB1.out _ HK.out).mono ?_; rintro e w1 ⟨st, rfl, hat, hk, -⟩
  replace HK := Lib.hid (HK.out.trans hk (FSub.refl _ _))
  try replace HA := Lib.hid (hk.heap HA.out (by simp))
  try replace HC := Lib.hid (hk.heap HC.out (by simp))
  try replace HS := Lib.hid (R.new_ HS.out hk)
  try replace HT := Lib.hid (R.new_ HT.out hk)
  try replace HU := Lib.hid (R.new_ HU.out hk)
  try replace HX := Lib.hid (R.new_ HX.out hk)
  try replace HY := Lib.hid (R.new_ HY.out hk)
  try replace HZ := Lib.hid (R.new_ HZ.out hk)
  try replace HBS := Lib.hid (hk.heap HBS.out (by simp))
  try replace HBT := Lib.hid (hk.heap HBT.out (by simp))
  try replace HBU := Lib.hid (hk.heap HBU.out (by simp))
  try replace HBX := Lib.hid (hk.heap HBX.out (by simp))
  try replace HBY := Lib.hid (hk.heap HBY.out (by simp))
  try replace HBZ := Lib.hid (hk.heap HBZ.out (by simp))
  try replace HRX := Lib.hid (hk.heap HRX.out (by simp))
  try replace HRY := Lib.hid (hk.heap HRY.out (by simp))
  try replace HRZ := Lib.hid (hk.heap HRZ.out (by simp))
  obtain ⟨AS, rfl, hok⟩ := R.cells hat
  have HOS := Lib.hid hok
  have HS := Lib.hid hat
  clear hat hok hk
  have HNC := Lib.hid (show (w1.alloc (.cells mdZA 29)).heap[w1.heap.size]? = some (.cells mdZ.toArray 29 (0, 0)) from heap_alloc_new w1 _)
  have HNK := Lib.hid (show Keeps [] w1 (w1.alloc (.cells mdZA 29)) from (Keeps.refl _ _).alloc _)
  go_wp2_with ((with_reducible refine wpList_putM (g := w1.heap.size) (old := mdZ) (A := AS) HOS.out mdZ_ok ?_ ?_ HNC.out ?_); exact rfl; exact rfl)
  intro w2 hW hk2
  have hk := HNK.out.trans' hk2 (Nat.le_refl _)
  replace HK := Lib.hid (HK.out.trans hk (FSub.refl _ _))
  try replace HA := Lib.hid (hk.heap HA.out (by simp))
  try replace HC := Lib.hid (hk.heap HC.out (by simp))
  try replace HS := Lib.hid (R.new_ HS.out hk)
  try replace HT := Lib.hid (R.new_ HT.out hk)
  try replace HU := Lib.hid (R.new_ HU.out hk)
  try replace HX := Lib.hid (R.new_ HX.out hk)
  try replace HY := Lib.hid (R.new_ HY.out hk)
  try replace HZ := Lib.hid (R.new_ HZ.out hk)
  try replace HBS := Lib.hid (hk.heap HBS.out (by simp))
  try replace HBT := Lib.hid (hk.heap HBT.out (by simp))
  try replace HBU := Lib.hid (hk.heap HBU.out (by simp))
  try replace HBX := Lib.hid (hk.heap HBX.out (by simp))
  try replace HBY := Lib.hid (hk.heap HBY.out (by simp))
  try replace HBZ := Lib.hid (hk.heap HBZ.out (by simp))
  try replace HRX := Lib.hid (hk.heap HRX.out (by simp))
  try replace HRY := Lib.hid (hk.heap HRY.out (by simp))
  try replace HRZ := Lib.hid (hk.heap HRZ.out (by simp))
  have HBS := Lib.hid hW
  clear hk hW hk2 HNC HNK
  generalize w1.heap.size = p7 at *
  go_wp2_with ((with_reducible refine wpList_loadM (g := p7) (off := 0) HOS.out ?_ ?_ (block_range HBS.out) ?_); exact rfl; exact rfl)
  have hE := R.enc _ _ (some S) (HG.out _ HK.out) HS.out (show S.len ≤ 1000 from by have := HSL.out; omega)
  simp only [oB] at hE
  refine hE.mono ?_; rintro e w3 ⟨rfl, hk⟩
  clear hE
  replace HK := Lib.hid (HK.out.trans hk (FSub.refl _ _))
  try replace HA := Lib.hid (hk.heap HA.out (by simp))
  try replace HC := Lib.hid (hk.heap HC.out (by simp))
  try replace HS := Lib.hid (R.new_ HS.out hk)
  try replace HT := Lib.hid (R.new_ HT.out hk)
  try replace HU := Lib.hid (R.new_ HU.out hk)
  try replace HX := Lib.hid (R.new_ HX.out hk)
  try replace HY := Lib.hid (R.new_ HY.out hk)
  try replace HZ := Lib.hid (R.new_ HZ.out hk)
  try replace HBS := Lib.hid (hk.heap HBS.out (by simp))
  try replace HBT := Lib.hid (hk.heap HBT.out (by simp))
  try replace HBU := Lib.hid (hk.heap HBU.out (by simp))
  try replace HBX := Lib.hid (hk.heap HBX.out (by simp))
  try replace HBY := Lib.hid (hk.heap HBY.out (by simp))
  try replace HBZ := Lib.hid (hk.heap HBZ.out (by simp))
  try replace HRX := Lib.hid (hk.heap HRX.out (by simp))
  try replace HRY := Lib.hid (hk.heap HRY.out (by simp))
  try replace HRZ := Lib.hid (hk.heap HRZ.out (by simp))
  clear hk
  have HR1 := Lib.hid (show w3.rangeAt w.heap.size 0 (clC y) from fun j v hv => block_range HA.out j v (by unfold otC; rw [List.getElem?_append_left (List.getElem?_eq_some_iff.1 hv).1]; exact hv))
  have HNC := Lib.hid (show (w3.alloc (.cells #[.int .u8 0, .int .u8 0, .int .u8 0, .int .u8 0, .int .u16 0, .int .u16 0] 46)).heap[w3.heap.size]? = some (.cells (clC clZero).toArray 46 (0, 0)) from heap_alloc_new w3 _)
  have HNK := Lib.hid (show Keeps [] w3 (w3.alloc (.cells #[.int .u8 0, .int .u8 0, .int .u8 0, .int .u8 0, .int .u16 0, .int .u16 0] 46)) from (Keeps.refl _ _).alloc _)
  go_wp2_with (first
    | ((with_reducible refine wpList_loadCl13 (g := w.heap.size) (off := 0) y ?_ ?_ HR1.out ?_); exact rfl; exact rfl)
    | ((with_reducible refine wpList_putCl13 (g := w3.heap.size) (old := clZero) y ?_ ?_ HNC.out ?_); exact rfl; exact rfl))
  intro w4 hW hk2
  have hk := HNK.out.trans' hk2 (Nat.le_refl _)
  replace HK := Lib.hid (HK.out.trans hk (FSub.refl _ _))
  try replace HA := Lib.hid (hk.heap HA.out (by simp))
  try replace HC := Lib.hid (hk.heap HC.out (by simp))
  try replace HS := Lib.hid (R.new_ HS.out hk)
  try replace HT := Lib.hid (R.new_ HT.out hk)
  try replace HU := Lib.hid (R.new_ HU.out hk)
  try replace HX := Lib.hid (R.new_ HX.out hk)
  try replace HY := Lib.hid (R.new_ HY.out hk)
  try replace HZ := Lib.hid (R.new_ HZ.out hk)
  try replace HBS := Lib.hid (hk.heap HBS.out (by simp))
  try replace HBT := Lib.hid (hk.heap HBT.out (by simp))
  try replace HBU := Lib.hid (hk.heap HBU.out (by simp))
  try replace HBX := Lib.hid (hk.heap HBX.out (by simp))
  try replace HBY := Lib.hid (hk.heap HBY.out (by simp))
  try replace HBZ := Lib.hid (hk.heap HBZ.out (by simp))
  try replace HRX := Lib.hid (hk.heap HRX.out (by simp))
  try replace HRY := Lib.hid (hk.heap HRY.out (by simp))
  try replace HRZ := Lib.hid (hk.heap HRZ.out (by simp))
  have HC := Lib.hid hW
  clear hk hW hk2 HNC HNK HR1
  generalize w3.heap.size = p10 at *
  obtain ⟨MS, hMS⟩ : ∃ X, X = mdX S y.c y.x := ⟨_, rfl⟩
  have HMS := Lib.hid hMS
  clear hMS
  have HCP := Lib.hid (cl_parts (y := y) (g := p10) (off := 0) (block_range HC.out))
  have xc := HCP.out.1
  go_wp2_with (first
    | ((with_reducible refine wpList_loadM (g := p7) (off := 0) HOS.out ?_ ?_ (block_range HBS.out) ?_); exact rfl; exact rfl)
    | ((with_reducible refine wpList_loadP (g := p10) (off := 1) y.x ?_ ?_ HCP.out.2 ?_); exact rfl; exact rfl))
  refine (R.step _ _ (some S) y.c y.x (HG.out _ HK.out) HS.out (show Md.len S ≤ 1000 from by first | (have := HSL.out; omega) | (have := HTL.out; omega)) ⟨HYI.out.c0, HYI.out.c1⟩ HYI.out.x).mono ?_; rintro e va ⟨st, rfl, hat, hk, -⟩
  rw [show oX (some S) y.c y.x = (some MS.1, MS.2.1, MS.2.2) from by rw [HMS.out]; rfl] at hat ⊢
  replace HK := Lib.hid (HK.out.trans hk (FSub.refl _ _))
  try replace HA := Lib.hid (hk.heap HA.out (by simp))
  try replace HC := Lib.hid (hk.heap HC.out (by simp))
  try replace HS := Lib.hid (R.new_ HS.out hk)
  try replace HT := Lib.hid (R.new_ HT.out hk)
  try replace HU := Lib.hid (R.new_ HU.out hk)
  try replace HX := Lib.hid (R.new_ HX.out hk)
  try replace HY := Lib.hid (R.new_ HY.out hk)
  try replace HZ := Lib.hid (R.new_ HZ.out hk)
  try replace HBS := Lib.hid (hk.heap HBS.out (by simp))
  try replace HBT := Lib.hid (hk.heap HBT.out (by simp))
  try replace HBU := Lib.hid (hk.heap HBU.out (by simp))
  try replace HBX := Lib.hid (hk.heap HBX.out (by simp))
  try replace HBY := Lib.hid (hk.heap HBY.out (by simp))
  try replace HBZ := Lib.hid (hk.heap HBZ.out (by simp))
  try replace HRX := Lib.hid (hk.heap HRX.out (by simp))
  try replace HRY := Lib.hid (hk.heap HRY.out (by simp))
  try replace HRZ := Lib.hid (hk.heap HRZ.out (by simp))
  obtain ⟨AX, rfl, hok⟩ := R.cells hat
  have HOX := Lib.hid hok
  have HX := Lib.hid hat
  clear hat hok hk xc HCP
  obtain ⟨-, hA', hC', hk'⟩ := two_vars va mdZA #[.int .u8 0, .int .u16 0] 29 25
  have HNA := Lib.hid (hA'.trans (show some (Obj.cells _ _ _) = some (Obj.cells mdZ.toArray 29 (0, 0)) from rfl))
  have HNC := Lib.hid (hC'.trans (show some (Obj.cells _ _ _) = some (Obj.cells (ansC ⟨0, 0⟩).toArray 25 (0, 0)) from rfl))
  have HNK := Lib.hid hk'
  clear hA' hC' hk'
  go_wp2_with ((with_reducible refine wpList_putM (g := va.heap.size) (old := mdZ) (A := AX) HOX.out mdZ_ok ?_ ?_ HNA.out ?_); exact rfl; exact rfl)
  intro vb hW hk2
  have HNC2 := Lib.hid (hk2.heap HNC.out (by simp))
  have HNB := Lib.hid hW
  have HNK2 := Lib.hid (HNK.out.trans' hk2 (Nat.le_refl _))
  clear hW hk2 HNA HNC HNK
  go_wp2_with ((with_reducible refine wpList_putR12 (g := va.heap.size + 1) (old := ⟨0, 0⟩) MS.2.1 ?_ ?_ HNC2.out ?_); exact rfl; exact rfl)
  intro vc hW hk2
  have hk := HNK2.out.trans' hk2 (Nat.le_succ _)
  replace HK := Lib.hid (HK.out.trans hk (FSub.refl _ _))
  try replace HA := Lib.hid (hk.heap HA.out (by simp))
  try replace HC := Lib.hid (hk.heap HC.out (by simp))
  try replace HS := Lib.hid (R.new_ HS.out hk)
  try replace HT := Lib.hid (R.new_ HT.out hk)
  try replace HU := Lib.hid (R.new_ HU.out hk)
  try replace HX := Lib.hid (R.new_ HX.out hk)
  try replace HY := Lib.hid (R.new_ HY.out hk)
  try replace HZ := Lib.hid (R.new_ HZ.out hk)
  try replace HBS := Lib.hid (hk.heap HBS.out (by simp))
  try replace HBT := Lib.hid (hk.heap HBT.out (by simp))
  try replace HBU := Lib.hid (hk.heap HBU.out (by simp))
  try replace HBX := Lib.hid (hk.heap HBX.out (by simp))
  try replace HBY := Lib.hid (hk.heap HBY.out (by simp))
  try replace HBZ := Lib.hid (hk.heap HBZ.out (by simp))
  try replace HRX := Lib.hid (hk.heap HRX.out (by simp))
  try replace HRY := Lib.hid (hk.heap HRY.out (by simp))
  try replace HRZ := Lib.hid (hk.heap HRZ.out (by simp))
  have HBX := Lib.hid (hk2.heap HNB.out (by simp))
  have HRX := Lib.hid hW
  clear hk hW hk2 HNC2 HNB HNK2
  obtain ⟨gX, hg6⟩ : ∃ g, g = va.heap.size + 1 := ⟨_, rfl⟩
  rw [← hg6] at HRX ⊢
  clear hg6
  generalize va.heap.size = pX at *
  have HCP := Lib.hid (cl_parts (y := y) (g := p10) (off := 0) (block_range HC.out))
  have xc := HCP.out.1
  go_wp2_with (first
    | ((with_reducible refine wpList_loadM (g := p7) (off := 0) HOS.out ?_ ?_ (block_range HBS.out) ?_); exact rfl; exact rfl)
    | ((with_reducible refine wpList_loadP (g := p10) (off := 1) y.x ?_ ?_ HCP.out.2 ?_); exact rfl; exact rfl))
  refine (R.step _ _ (some S) y.c y.x (HG.out _ HK.out) HS.out (show Md.len S ≤ 1000 from by first | (have := HSL.out; omega) | (have := HTL.out; omega)) ⟨HYI.out.c0, HYI.out.c1⟩ HYI.out.x).mono ?_; rintro e va ⟨st, rfl, hat, hk, -⟩
  rw [show oX (some S) y.c y.x = (some MS.1, MS.2.1, MS.2.2) from by rw [HMS.out]; rfl] at hat ⊢
  replace HK := Lib.hid (HK.out.trans hk (FSub.refl _ _))
  try replace HA := Lib.hid (hk.heap HA.out (by simp))
  try replace HC := Lib.hid (hk.heap HC.out (by simp))
  try replace HS := Lib.hid (R.new_ HS.out hk)
  try replace HT := Lib.hid (R.new_ HT.out hk)
  try replace HU := Lib.hid (R.new_ HU.out hk)
  try replace HX := Lib.hid (R.new_ HX.out hk)
  try replace HY := Lib.hid (R.new_ HY.out hk)
  try replace HZ := Lib.hid (R.new_ HZ.out hk)
  try replace HBS := Lib.hid (hk.heap HBS.out (by simp))
  try replace HBT := Lib.hid (hk.heap HBT.out (by simp))
  try replace HBU := Lib.hid (hk.heap HBU.out (by simp))
  try replace HBX := Lib.hid (hk.heap HBX.out (by simp))
  try replace HBY := Lib.hid (hk.heap HBY.out (by simp))
  try replace HBZ := Lib.hid (hk.heap HBZ.out (by simp))
  try replace HRX := Lib.hid (hk.heap HRX.out (by simp))
  try replace HRY := Lib.hid (hk.heap HRY.out (by simp))
  try replace HRZ := Lib.hid (hk.heap HRZ.out (by simp))
  obtain ⟨AY, rfl, hok⟩ := R.cells hat
  have HOY := Lib.hid hok
  have HY := Lib.hid hat
  clear hat hok hk xc HCP
  obtain ⟨-, hA', hC', hk'⟩ := two_vars va mdZA #[.int .u8 0, .int .u16 0] 29 25
  have HNA := Lib.hid (hA'.trans (show some (Obj.cells _ _ _) = some (Obj.cells mdZ.toArray 29 (0, 0)) from rfl))
  have HNC := Lib.hid (hC'.trans (show some (Obj.cells _ _ _) = some (Obj.cells (ansC ⟨0, 0⟩).toArray 25 (0, 0)) from rfl))
  have HNK := Lib.hid hk'
  clear hA' hC' hk'
  go_wp2_with ((with_reducible refine wpList_putM (g := va.heap.size) (old := mdZ) (A := AY) HOY.out mdZ_ok ?_ ?_ HNA.out ?_); exact rfl; exact rfl)
  intro vb hW hk2
  have HNC2 := Lib.hid (hk2.heap HNC.out (by simp))
  have HNB := Lib.hid hW
  have HNK2 := Lib.hid (HNK.out.trans' hk2 (Nat.le_refl _))
  clear hW hk2 HNA HNC HNK
  go_wp2_with ((with_reducible refine wpList_putR12 (g := va.heap.size + 1) (old := ⟨0, 0⟩) MS.2.1 ?_ ?_ HNC2.out ?_); exact rfl; exact rfl)
  intro vc hW hk2
  have hk := HNK2.out.trans' hk2 (Nat.le_succ _)
  replace HK := Lib.hid (HK.out.trans hk (FSub.refl _ _))
  try replace HA := Lib.hid (hk.heap HA.out (by simp))
  try replace HC := Lib.hid (hk.heap HC.out (by simp))
  try replace HS := Lib.hid (R.new_ HS.out hk)
  try replace HT := Lib.hid (R.new_ HT.out hk)
  try replace HU := Lib.hid (R.new_ HU.out hk)
  try replace HX := Lib.hid (R.new_ HX.out hk)
  try replace HY := Lib.hid (R.new_ HY.out hk)
  try replace HZ := Lib.hid (R.new_ HZ.out hk)
  try replace HBS := Lib.hid (hk.heap HBS.out (by simp))
  try replace HBT := Lib.hid (hk.heap HBT.out (by simp))
  try replace HBU := Lib.hid (hk.heap HBU.out (by simp))
  try replace HBX := Lib.hid (hk.heap HBX.out (by simp))
  try replace HBY := Lib.hid (hk.heap HBY.out (by simp))
  try replace HBZ := Lib.hid (hk.heap HBZ.out (by simp))
  try replace HRX := Lib.hid (hk.heap HRX.out (by simp))
  try replace HRY := Lib.hid (hk.heap HRY.out (by simp))
  try replace HRZ := Lib.hid (hk.heap HRZ.out (by simp))
  have HBY := Lib.hid (hk2.heap HNB.out (by simp))
  have HRY := Lib.hid hW
  clear hk hW hk2 HNC2 HNB HNK2
  obtain ⟨gY, hg6⟩ : ∃ g, g = va.heap.size + 1 := ⟨_, rfl⟩
  rw [← hg6] at HRY ⊢
  clear hg6
  generalize va.heap.size = pY at *
  have HML := Lib.hid (show MS.1.len ≤ 1000 from by rw [HMS.out]; have h1 := mdX_len S y.c y.x; have h2 := HSL.out; omega)
  have te : (MS.2.2 == MS.2.2) = true := by simp
  have tk : (MS.2.1.k == MS.2.1.k) = true := by simp
  have tv : (MS.2.1.v == MS.2.1.v) = true := by simp
  have tb : ((bs (mdB S)).toList == (bs (mdB S)).toList) = true := by simp
  go_wp2_with (first
    | ((with_reducible refine wpList_loadM (g := pX) (off := 0) HOX.out ?_ ?_ (block_range HBX.out) ?_); exact rfl; exact rfl)
    | ((with_reducible refine wpList_loadM (g := pY) (off := 0) HOY.out ?_ ?_ (block_range HBY.out) ?_); exact rfl; exact rfl)
    | ((with_reducible refine wpList_loadN13 (g := gX) (y := MS.2.1) ?_ ?_ HRX.out ?_); exact rfl; exact rfl)
    | ((with_reducible refine wpList_loadN13 (g := gY) (y := MS.2.1) ?_ ?_ HRY.out ?_); exact rfl; exact rfl))
  refine (SM.same _ _ (some MS.1) _ (some MS.1) (HG.out _ HK.out) HX.out HY.out HML.out HML.out).mono ?_; rintro e va ⟨rfl, hk⟩
  rw [show oSame (some MS.1) (some MS.1) = true from by simp [oSame]]
  replace HK := Lib.hid (HK.out.trans hk (FSub.refl _ _))
  try replace HA := Lib.hid (hk.heap HA.out (by simp))
  try replace HC := Lib.hid (hk.heap HC.out (by simp))
  try replace HS := Lib.hid (R.new_ HS.out hk)
  try replace HT := Lib.hid (R.new_ HT.out hk)
  try replace HU := Lib.hid (R.new_ HU.out hk)
  try replace HX := Lib.hid (R.new_ HX.out hk)
  try replace HY := Lib.hid (R.new_ HY.out hk)
  try replace HZ := Lib.hid (R.new_ HZ.out hk)
  try replace HBS := Lib.hid (hk.heap HBS.out (by simp))
  try replace HBT := Lib.hid (hk.heap HBT.out (by simp))
  try replace HBU := Lib.hid (hk.heap HBU.out (by simp))
  try replace HBX := Lib.hid (hk.heap HBX.out (by simp))
  try replace HBY := Lib.hid (hk.heap HBY.out (by simp))
  try replace HBZ := Lib.hid (hk.heap HBZ.out (by simp))
  try replace HRX := Lib.hid (hk.heap HRX.out (by simp))
  try replace HRY := Lib.hid (hk.heap HRY.out (by simp))
  try replace HRZ := Lib.hid (hk.heap HRZ.out (by simp))
  clear hk
  go_wp2_with ((with_reducible refine wpList_loadM (g := p7) (off := 0) HOS.out ?_ ?_ (block_range HBS.out) ?_); exact rfl; exact rfl)
  have hE := R.enc _ _ (some S) (HG.out _ HK.out) HS.out (show S.len ≤ 1000 from by have := HSL.out; omega)
  simp only [oB] at hE
  refine hE.mono ?_; rintro e vb ⟨rfl, hk⟩
  clear hE
  replace HK := Lib.hid (HK.out.trans hk (FSub.refl _ _))
  try replace HA := Lib.hid (hk.heap HA.out (by simp))
  try replace HC := Lib.hid (hk.heap HC.out (by simp))
  try replace HS := Lib.hid (R.new_ HS.out hk)
  try replace HT := Lib.hid (R.new_ HT.out hk)
  try replace HU := Lib.hid (R.new_ HU.out hk)
  try replace HX := Lib.hid (R.new_ HX.out hk)
  try replace HY := Lib.hid (R.new_ HY.out hk)
  try replace HZ := Lib.hid (R.new_ HZ.out hk)
  try replace HBS := Lib.hid (hk.heap HBS.out (by simp))
  try replace HBT := Lib.hid (hk.heap HBT.out (by simp))
  try replace HBU := Lib.hid (hk.heap HBU.out (by simp))
  try replace HBX := Lib.hid (hk.heap HBX.out (by simp))
  try replace HBY := Lib.hid (hk.heap HBY.out (by simp))
  try replace HBZ := Lib.hid (hk.heap HBZ.out (by simp))
  try replace HRX := Lib.hid (hk.heap HRX.out (by simp))
  try replace HRY := Lib.hid (hk.heap HRY.out (by simp))
  try replace HRZ := Lib.hid (hk.heap HRZ.out (by simp))
  clear hk
  by_cases hz : MS.2.2 = 0
  · have q0 : (MS.2.2 == 0) = true := by simpa using hz
    have HR2 := Lib.hid (show w.heap.size = w.heap.size from rfl)
    have HAR := Lib.hid (show (0 ≤ MS.2.1.k ∧ MS.2.1.k < 256) ∧ (0 ≤ MS.2.1.v ∧ MS.2.1.v < 65536) from by rw [HMS.out]; exact mdX_ans (R.in_ HS.out) y.c y.x)
    have HCP := Lib.hid (cl_parts (y := y) (g := p10) (off := 0) (block_range HC.out))
    have xc := HCP.out.1
    go_wp2_with (first
      | ((with_reducible refine wpList_loadM (g := p7) (off := 0) HOS.out ?_ ?_ (block_range HBS.out) ?_); exact rfl; exact rfl)
      | ((with_reducible refine wpList_loadP (g := p10) (off := 1) y.x ?_ ?_ HCP.out.2 ?_); exact rfl; exact rfl)
      | ((with_reducible refine wpList_loadN13 (g := gX) (y := MS.2.1) ?_ ?_ HRX.out ?_); exact rfl; exact rfl))
    refine (F.fits _ _ (some S) y.c y.x MS.2.1 (HG.out _ HK.out) HS.out (show S.len ≤ 1000 from by have := HSL.out; omega) ⟨HYI.out.c0, HYI.out.c1⟩ HYI.out.x HAR.out).mono ?_; rintro e v1 ⟨st, rfl, hat, hk, -⟩
    rw [show oX (some S) y.c y.x = (some MS.1, MS.2.1, MS.2.2) from by rw [HMS.out]; rfl] at hat ⊢
    rw [if_pos ⟨hz, rfl⟩] at hat
    rw [decide_eq_true (⟨hz, rfl⟩ : MS.2.2 = 0 ∧ MS.2.1 = MS.2.1)]
    clear xc HCP
    replace HK := Lib.hid (HK.out.trans hk (FSub.refl _ _))
    try replace HA := Lib.hid (hk.heap HA.out (by simp))
    try replace HC := Lib.hid (hk.heap HC.out (by simp))
    try replace HS := Lib.hid (R.new_ HS.out hk)
    try replace HT := Lib.hid (R.new_ HT.out hk)
    try replace HU := Lib.hid (R.new_ HU.out hk)
    try replace HX := Lib.hid (R.new_ HX.out hk)
    try replace HY := Lib.hid (R.new_ HY.out hk)
    try replace HZ := Lib.hid (R.new_ HZ.out hk)
    try replace HBS := Lib.hid (hk.heap HBS.out (by simp))
    try replace HBT := Lib.hid (hk.heap HBT.out (by simp))
    try replace HBU := Lib.hid (hk.heap HBU.out (by simp))
    try replace HBX := Lib.hid (hk.heap HBX.out (by simp))
    try replace HBY := Lib.hid (hk.heap HBY.out (by simp))
    try replace HBZ := Lib.hid (hk.heap HBZ.out (by simp))
    try replace HRX := Lib.hid (hk.heap HRX.out (by simp))
    try replace HRY := Lib.hid (hk.heap HRY.out (by simp))
    try replace HRZ := Lib.hid (hk.heap HRZ.out (by simp))
    obtain ⟨AU, rfl, hok⟩ := R.cells hat
    have HOU := Lib.hid hok
    have HU := Lib.hid hat
    clear hat hok hk
    have HNC := Lib.hid (show (v1.alloc (.cells mdZA 29)).heap[v1.heap.size]? = some (.cells mdZ.toArray 29 (0, 0)) from heap_alloc_new v1 _)
    have HNK := Lib.hid (show Keeps [] v1 (v1.alloc (.cells mdZA 29)) from (Keeps.refl _ _).alloc _)
    go_wp2_with ((with_reducible refine wpList_putM (g := v1.heap.size) (old := mdZ) (A := AU) HOU.out mdZ_ok ?_ ?_ HNC.out ?_); exact rfl; exact rfl)
    intro v2 hW hk2
    have hk := HNK.out.trans' hk2 (Nat.le_refl _)
    replace HK := Lib.hid (HK.out.trans hk (FSub.refl _ _))
    try replace HA := Lib.hid (hk.heap HA.out (by simp))
    try replace HC := Lib.hid (hk.heap HC.out (by simp))
    try replace HS := Lib.hid (R.new_ HS.out hk)
    try replace HT := Lib.hid (R.new_ HT.out hk)
    try replace HU := Lib.hid (R.new_ HU.out hk)
    try replace HX := Lib.hid (R.new_ HX.out hk)
    try replace HY := Lib.hid (R.new_ HY.out hk)
    try replace HZ := Lib.hid (R.new_ HZ.out hk)
    try replace HBS := Lib.hid (hk.heap HBS.out (by simp))
    try replace HBT := Lib.hid (hk.heap HBT.out (by simp))
    try replace HBU := Lib.hid (hk.heap HBU.out (by simp))
    try replace HBX := Lib.hid (hk.heap HBX.out (by simp))
    try replace HBY := Lib.hid (hk.heap HBY.out (by simp))
    try replace HBZ := Lib.hid (hk.heap HBZ.out (by simp))
    try replace HRX := Lib.hid (hk.heap HRX.out (by simp))
    try replace HRY := Lib.hid (hk.heap HRY.out (by simp))
    try replace HRZ := Lib.hid (hk.heap HRZ.out (by simp))
    have HBU := Lib.hid hW
    clear hk hW hk2 HNC HNK
    generalize v1.heap.size = p17 at *
    have HCP := Lib.hid (cl_parts (y := y) (g := p10) (off := 0) (block_range HC.out))
    have xc := HCP.out.1
    have HR7 := Lib.hid (show v2.rangeAt w.heap.size 7 (ansC rr) from fun j v hv => by
      have h := block_range HA.out (7 + j) v (by unfold otC; rw [List.getElem?_append_right (by show 6 ≤ 7 + j; omega)]; show ([Value.int .u8 d] ++ ansC rr)[7 + j - 6]? = _; rw [show 7 + j - 6 = j + 1 by omega]; exact hv)
      rw [Nat.zero_add] at h
      exact h)
    go_wp2_with (first
      | ((with_reducible refine wpList_loadM (g := p7) (off := 0) HOS.out ?_ ?_ (block_range HBS.out) ?_); exact rfl; exact rfl)
      | ((with_reducible refine wpList_loadP (g := p10) (off := 1) y.x ?_ ?_ HCP.out.2 ?_); exact rfl; exact rfl)
      | ((with_reducible refine wpList_loadNo13 (g := w.heap.size) (off := 7) rr ?_ ?_ HR7.out ?_); exact rfl; exact rfl))
    refine (F.fits _ _ (some S) y.c y.x rr (HG.out _ HK.out) HS.out (show S.len ≤ 1000 from by have := HSL.out; omega) ⟨HYI.out.c0, HYI.out.c1⟩ HYI.out.x HRR.out).mono ?_; rintro e v3 ⟨st, rfl, hat, hk, -⟩
    rw [show oX (some S) y.c y.x = (some MS.1, MS.2.1, MS.2.2) from by rw [HMS.out]; rfl] at hat ⊢
    obtain ⟨O, hO⟩ : ∃ O, O = (if MS.2.2 = 0 ∧ MS.2.1 = rr then some MS.1 else some S) := ⟨_, rfl⟩
    rw [← hO] at hat
    clear hO
    obtain ⟨D, hD⟩ : ∃ D, D = decide (MS.2.2 = 0 ∧ MS.2.1 = rr) := ⟨_, rfl⟩
    rw [← hD]
    have HD := Lib.hid hD
    clear hD xc HCP HR7
    replace HK := Lib.hid (HK.out.trans hk (FSub.refl _ _))
    try replace HA := Lib.hid (hk.heap HA.out (by simp))
    try replace HC := Lib.hid (hk.heap HC.out (by simp))
    try replace HS := Lib.hid (R.new_ HS.out hk)
    try replace HT := Lib.hid (R.new_ HT.out hk)
    try replace HU := Lib.hid (R.new_ HU.out hk)
    try replace HX := Lib.hid (R.new_ HX.out hk)
    try replace HY := Lib.hid (R.new_ HY.out hk)
    try replace HZ := Lib.hid (R.new_ HZ.out hk)
    try replace HBS := Lib.hid (hk.heap HBS.out (by simp))
    try replace HBT := Lib.hid (hk.heap HBT.out (by simp))
    try replace HBU := Lib.hid (hk.heap HBU.out (by simp))
    try replace HBX := Lib.hid (hk.heap HBX.out (by simp))
    try replace HBY := Lib.hid (hk.heap HBY.out (by simp))
    try replace HBZ := Lib.hid (hk.heap HBZ.out (by simp))
    try replace HRX := Lib.hid (hk.heap HRX.out (by simp))
    try replace HRY := Lib.hid (hk.heap HRY.out (by simp))
    try replace HRZ := Lib.hid (hk.heap HRZ.out (by simp))
    obtain ⟨AT, rfl, hok⟩ := R.cells hat
    have HOT := Lib.hid hok
    have HT := Lib.hid hat
    clear hat hok hk
    have HNC := Lib.hid (show (v3.alloc (.cells mdZA 29)).heap[v3.heap.size]? = some (.cells mdZ.toArray 29 (0, 0)) from heap_alloc_new v3 _)
    have HNK := Lib.hid (show Keeps [] v3 (v3.alloc (.cells mdZA 29)) from (Keeps.refl _ _).alloc _)
    go_wp2_with ((with_reducible refine wpList_putM (g := v3.heap.size) (old := mdZ) (A := AT) HOT.out mdZ_ok ?_ ?_ HNC.out ?_); exact rfl; exact rfl)
    intro v4 hW hk2
    have hk := HNK.out.trans' hk2 (Nat.le_refl _)
    replace HK := Lib.hid (HK.out.trans hk (FSub.refl _ _))
    try replace HA := Lib.hid (hk.heap HA.out (by simp))
    try replace HC := Lib.hid (hk.heap HC.out (by simp))
    try replace HS := Lib.hid (R.new_ HS.out hk)
    try replace HT := Lib.hid (R.new_ HT.out hk)
    try replace HU := Lib.hid (R.new_ HU.out hk)
    try replace HX := Lib.hid (R.new_ HX.out hk)
    try replace HY := Lib.hid (R.new_ HY.out hk)
    try replace HZ := Lib.hid (R.new_ HZ.out hk)
    try replace HBS := Lib.hid (hk.heap HBS.out (by simp))
    try replace HBT := Lib.hid (hk.heap HBT.out (by simp))
    try replace HBU := Lib.hid (hk.heap HBU.out (by simp))
    try replace HBX := Lib.hid (hk.heap HBX.out (by simp))
    try replace HBY := Lib.hid (hk.heap HBY.out (by simp))
    try replace HBZ := Lib.hid (hk.heap HBZ.out (by simp))
    try replace HRX := Lib.hid (hk.heap HRX.out (by simp))
    try replace HRY := Lib.hid (hk.heap HRY.out (by simp))
    try replace HRZ := Lib.hid (hk.heap HRZ.out (by simp))
    have HBT := Lib.hid hW
    clear hk hW hk2 HNC HNK
    generalize v3.heap.size = p19 at *
    go_wp2_with ((with_reducible refine wpList_loadM (g := pX) (off := 0) HOX.out ?_ ?_ (block_range HBX.out) ?_); exact rfl; exact rfl)
    refine (R.model _ _ (some MS.1) (HG.out _ HK.out) HX.out).mono ?_; rintro e v5 ⟨rfl, hk⟩
    rw [show oModel (some MS.1) = m from by show MS.1.model = m; rw [HMS.out, mdX_model, HSM.out]]
    replace HK := Lib.hid (HK.out.trans hk (FSub.refl _ _))
    try replace HA := Lib.hid (hk.heap HA.out (by simp))
    try replace HC := Lib.hid (hk.heap HC.out (by simp))
    try replace HS := Lib.hid (R.new_ HS.out hk)
    try replace HT := Lib.hid (R.new_ HT.out hk)
    try replace HU := Lib.hid (R.new_ HU.out hk)
    try replace HX := Lib.hid (R.new_ HX.out hk)
    try replace HY := Lib.hid (R.new_ HY.out hk)
    try replace HZ := Lib.hid (R.new_ HZ.out hk)
    try replace HBS := Lib.hid (hk.heap HBS.out (by simp))
    try replace HBT := Lib.hid (hk.heap HBT.out (by simp))
    try replace HBU := Lib.hid (hk.heap HBU.out (by simp))
    try replace HBX := Lib.hid (hk.heap HBX.out (by simp))
    try replace HBY := Lib.hid (hk.heap HBY.out (by simp))
    try replace HBZ := Lib.hid (hk.heap HBZ.out (by simp))
    try replace HRX := Lib.hid (hk.heap HRX.out (by simp))
    try replace HRY := Lib.hid (hk.heap HRY.out (by simp))
    try replace HRZ := Lib.hid (hk.heap HRZ.out (by simp))
    clear hk
    have HR7 := Lib.hid (show v5.rangeAt w.heap.size 7 (ansC rr) from fun j v hv => by
      have h := block_range HA.out (7 + j) v (by unfold otC; rw [List.getElem?_append_right (by show 6 ≤ 7 + j; omega)]; show ([Value.int .u8 d] ++ ansC rr)[7 + j - 6]? = _; rw [show 7 + j - 6 = j + 1 by omega]; exact hv)
      rw [Nat.zero_add] at h
      exact h)
    have hDD : D = ((rr.k == MS.2.1.k) && (rr.v == MS.2.1.v)) := by
      rw [HD.out, Bool.eq_iff_iff, decide_eq_true_eq, Bool.and_eq_true, beq_iff_eq, beq_iff_eq]
      exact ⟨fun h => by rw [← h.2]; exact ⟨rfl, rfl⟩, fun h => ⟨hz, by cases hq : MS.2.1; rw [hq] at h; cases rr; simp at h; simp [h]⟩⟩
    go_wp2_with (first
      | ((with_reducible refine wpList_loadM (g := p17) (off := 0) HOU.out ?_ ?_ (block_range HBU.out) ?_); exact rfl; exact rfl)
      | ((with_reducible refine wpList_loadM (g := pX) (off := 0) HOX.out ?_ ?_ (block_range HBX.out) ?_); exact rfl; exact rfl))
    refine (SM.same _ _ (some MS.1) _ (some MS.1) (HG.out _ HK.out) HU.out HX.out HML.out HML.out).mono ?_; rintro e v6 ⟨rfl, hk⟩
    rw [show oSame (some MS.1) (some MS.1) = true from by simp [oSame]]
    replace HK := Lib.hid (HK.out.trans hk (FSub.refl _ _))
    try replace HA := Lib.hid (hk.heap HA.out (by simp))
    try replace HC := Lib.hid (hk.heap HC.out (by simp))
    try replace HS := Lib.hid (R.new_ HS.out hk)
    try replace HT := Lib.hid (R.new_ HT.out hk)
    try replace HU := Lib.hid (R.new_ HU.out hk)
    try replace HX := Lib.hid (R.new_ HX.out hk)
    try replace HY := Lib.hid (R.new_ HY.out hk)
    try replace HZ := Lib.hid (R.new_ HZ.out hk)
    try replace HBS := Lib.hid (hk.heap HBS.out (by simp))
    try replace HBT := Lib.hid (hk.heap HBT.out (by simp))
    try replace HBU := Lib.hid (hk.heap HBU.out (by simp))
    try replace HBX := Lib.hid (hk.heap HBX.out (by simp))
    try replace HBY := Lib.hid (hk.heap HBY.out (by simp))
    try replace HBZ := Lib.hid (hk.heap HBZ.out (by simp))
    try replace HRX := Lib.hid (hk.heap HRX.out (by simp))
    try replace HRY := Lib.hid (hk.heap HRY.out (by simp))
    try replace HRZ := Lib.hid (hk.heap HRZ.out (by simp))
    replace HR7 := Lib.hid (show v6.rangeAt w.heap.size 7 (ansC rr) from fun j v hv => hk.cell (HR7.out j v hv) (by simp))
    clear hk
    clear hDD HD
    by_cases c1 : rr.k = MS.2.1.k
    · have k1 : (rr.k == MS.2.1.k) = true := by simpa using c1
      by_cases c2 : rr.v = MS.2.1.v
      · have k2 : (rr.v == MS.2.1.v) = true := by simpa using c2
        clear c1 c2
        have HCP := Lib.hid (cl_parts (y := y) (g := p10) (off := 0) (block_range HC.out))
        have xf := HCP.out.2 0 _ rfl
        have tm : (m == m) = true := by simp
        go_wp2_with (first
          | ((with_reducible refine wpList_loadNo13 (g := w.heap.size) (off := 7) rr ?_ ?_ HR7.out ?_); exact rfl; exact rfl)
          | ((with_reducible refine wpList_loadN13 (g := gX) (y := MS.2.1) ?_ ?_ HRX.out ?_); exact rfl; exact rfl))
        have hM := rsMay_any v6 y.x.f MS.2.1.k MS.2.1.v HAR.out.1.1 HAR.out.1.2
        rw [show mayOf y.x.f MS.2.1.k MS.2.1.v = 0 from by rw [HMS.out]; exact mdX_may (R.in_ HS.out) (by rw [← HMS.out]; exact hz)] at hM
        refine hM.mono ?_; rintro e v7 ⟨rfl, hk⟩
        clear hM xf HCP HR7
        replace HK := Lib.hid (HK.out.trans hk (FSub.refl _ _))
        try replace HA := Lib.hid (hk.heap HA.out (by simp))
        try replace HC := Lib.hid (hk.heap HC.out (by simp))
        try replace HS := Lib.hid (R.new_ HS.out hk)
        try replace HT := Lib.hid (R.new_ HT.out hk)
        try replace HU := Lib.hid (R.new_ HU.out hk)
        try replace HX := Lib.hid (R.new_ HX.out hk)
        try replace HY := Lib.hid (R.new_ HY.out hk)
        try replace HZ := Lib.hid (R.new_ HZ.out hk)
        try replace HBS := Lib.hid (hk.heap HBS.out (by simp))
        try replace HBT := Lib.hid (hk.heap HBT.out (by simp))
        try replace HBU := Lib.hid (hk.heap HBU.out (by simp))
        try replace HBX := Lib.hid (hk.heap HBX.out (by simp))
        try replace HBY := Lib.hid (hk.heap HBY.out (by simp))
        try replace HBZ := Lib.hid (hk.heap HBZ.out (by simp))
        try replace HRX := Lib.hid (hk.heap HRX.out (by simp))
        try replace HRY := Lib.hid (hk.heap HRY.out (by simp))
        try replace HRZ := Lib.hid (hk.heap HRZ.out (by simp))
        clear hk
        have HCP := Lib.hid (cl_parts (y := y) (g := p10) (off := 0) (block_range HC.out))
        have xf := HCP.out.2 0 _ rfl
        go_wp2_with fail
        refine (IM.idle _ m y.x.f (HG.out _ HK.out) ⟨h0, by omega⟩ ⟨HYI.out.x.f0, HYI.out.x.f1⟩).mono ?_; rintro e v8 ⟨rfl, hk⟩
        clear xf HCP
        replace HK := Lib.hid (HK.out.trans hk (FSub.refl _ _))
        try replace HA := Lib.hid (hk.heap HA.out (by simp))
        try replace HC := Lib.hid (hk.heap HC.out (by simp))
        try replace HS := Lib.hid (R.new_ HS.out hk)
        try replace HT := Lib.hid (R.new_ HT.out hk)
        try replace HU := Lib.hid (R.new_ HU.out hk)
        try replace HX := Lib.hid (R.new_ HX.out hk)
        try replace HY := Lib.hid (R.new_ HY.out hk)
        try replace HZ := Lib.hid (R.new_ HZ.out hk)
        try replace HBS := Lib.hid (hk.heap HBS.out (by simp))
        try replace HBT := Lib.hid (hk.heap HBT.out (by simp))
        try replace HBU := Lib.hid (hk.heap HBU.out (by simp))
        try replace HBX := Lib.hid (hk.heap HBX.out (by simp))
        try replace HBY := Lib.hid (hk.heap HBY.out (by simp))
        try replace HBZ := Lib.hid (hk.heap HBZ.out (by simp))
        try replace HRX := Lib.hid (hk.heap HRX.out (by simp))
        try replace HRY := Lib.hid (hk.heap HRY.out (by simp))
        try replace HRZ := Lib.hid (hk.heap HRZ.out (by simp))
        clear hk
        cases hi : mdIdle m y.x.f with
        | true =>
          have HSS := Lib.hid (show MS.1 = S from by rw [HMS.out]; exact mdX_idle y.c (by rw [HSM.out]; exact hi))
          clear hi
          go_wp2_with (first
            | ((with_reducible refine wpList_loadM (g := p7) (off := 0) HOS.out ?_ ?_ (block_range HBS.out) ?_); exact rfl; exact rfl)
            | ((with_reducible refine wpList_loadM (g := pX) (off := 0) HOX.out ?_ ?_ (block_range HBX.out) ?_); exact rfl; exact rfl))
          refine (SM.same _ _ (some MS.1) _ (some S) (HG.out _ HK.out) HX.out HS.out HML.out (show S.len ≤ 1000 from by have := HSL.out; omega)).mono ?_; rintro e v9 ⟨rfl, hk⟩
          rw [show oSame (some MS.1) (some S) = true from by rw [HSS.out]; simp [oSame]]
          replace HK := Lib.hid (HK.out.trans hk (FSub.refl _ _))
          try replace HA := Lib.hid (hk.heap HA.out (by simp))
          try replace HC := Lib.hid (hk.heap HC.out (by simp))
          try replace HS := Lib.hid (R.new_ HS.out hk)
          try replace HT := Lib.hid (R.new_ HT.out hk)
          try replace HU := Lib.hid (R.new_ HU.out hk)
          try replace HX := Lib.hid (R.new_ HX.out hk)
          try replace HY := Lib.hid (R.new_ HY.out hk)
          try replace HZ := Lib.hid (R.new_ HZ.out hk)
          try replace HBS := Lib.hid (hk.heap HBS.out (by simp))
          try replace HBT := Lib.hid (hk.heap HBT.out (by simp))
          try replace HBU := Lib.hid (hk.heap HBU.out (by simp))
          try replace HBX := Lib.hid (hk.heap HBX.out (by simp))
          try replace HBY := Lib.hid (hk.heap HBY.out (by simp))
          try replace HBZ := Lib.hid (hk.heap HBZ.out (by simp))
          try replace HRX := Lib.hid (hk.heap HRX.out (by simp))
          try replace HRY := Lib.hid (hk.heap HRY.out (by simp))
          try replace HRZ := Lib.hid (hk.heap HRZ.out (by simp))
          clear hk
          have HCP := Lib.hid (cl_parts (y := y) (g := p10) (off := 0) (block_range HC.out))
          have xd : World.cell? _ ⟨w.heap.size, 6, none⟩ = some (.int .u8 d) := cell_lit HA.out 6 rfl
          have q16 : 0 ≤ d % 16 ∧ d % 16 < 16 := by omega
          go_wp2_with (first
            | ((with_reducible refine wpList_loadM (g := p7) (off := 0) HOS.out ?_ ?_ (block_range HBS.out) ?_); exact rfl; exact rfl)
            | ((with_reducible refine wpList_loadP (g := p10) (off := 1) y.x ?_ ?_ HCP.out.2 ?_); exact rfl; exact rfl))
          refine (R.step _ _ (some S) (d % 16) y.x (HG.out _ HK.out) HS.out (show S.len ≤ 1000 from by have := HSL.out; omega) ⟨by omega, by omega⟩ HYI.out.x).mono ?_; rintro e va ⟨st, rfl, hat, hk, -⟩
          obtain ⟨MT, hMT⟩ : ∃ X, X = mdX S (d % 16) y.x := ⟨_, rfl⟩
          have HMT := Lib.hid hMT
          clear hMT HCP xd
          rw [show oX (some S) (d % 16) y.x = (some MT.1, MT.2.1, MT.2.2) from by rw [HMT.out]; rfl] at hat ⊢
          replace HK := Lib.hid (HK.out.trans hk (FSub.refl _ _))
          try replace HA := Lib.hid (hk.heap HA.out (by simp))
          try replace HC := Lib.hid (hk.heap HC.out (by simp))
          try replace HS := Lib.hid (R.new_ HS.out hk)
          try replace HT := Lib.hid (R.new_ HT.out hk)
          try replace HU := Lib.hid (R.new_ HU.out hk)
          try replace HX := Lib.hid (R.new_ HX.out hk)
          try replace HY := Lib.hid (R.new_ HY.out hk)
          try replace HZ := Lib.hid (R.new_ HZ.out hk)
          try replace HBS := Lib.hid (hk.heap HBS.out (by simp))
          try replace HBT := Lib.hid (hk.heap HBT.out (by simp))
          try replace HBU := Lib.hid (hk.heap HBU.out (by simp))
          try replace HBX := Lib.hid (hk.heap HBX.out (by simp))
          try replace HBY := Lib.hid (hk.heap HBY.out (by simp))
          try replace HBZ := Lib.hid (hk.heap HBZ.out (by simp))
          try replace HRX := Lib.hid (hk.heap HRX.out (by simp))
          try replace HRY := Lib.hid (hk.heap HRY.out (by simp))
          try replace HRZ := Lib.hid (hk.heap HRZ.out (by simp))
          obtain ⟨AZ, rfl, hok⟩ := R.cells hat
          have HOZ := Lib.hid hok
          have HZ := Lib.hid hat
          clear hat hok hk
          obtain ⟨-, hA', hC', hk'⟩ := two_vars va mdZA #[.int .u8 0, .int .u16 0] 29 25
          have HNA := Lib.hid (hA'.trans (show some (Obj.cells _ _ _) = some (Obj.cells mdZ.toArray 29 (0, 0)) from rfl))
          have HNC := Lib.hid (hC'.trans (show some (Obj.cells _ _ _) = some (Obj.cells (ansC ⟨0, 0⟩).toArray 25 (0, 0)) from rfl))
          have HNK := Lib.hid hk'
          clear hA' hC' hk'
          go_wp2_with ((with_reducible refine wpList_putM (g := va.heap.size) (old := mdZ) (A := AZ) HOZ.out mdZ_ok ?_ ?_ HNA.out ?_); exact rfl; exact rfl)
          intro vb hW hk2
          have HNC2 := Lib.hid (hk2.heap HNC.out (by simp))
          have HNB := Lib.hid hW
          have HNK2 := Lib.hid (HNK.out.trans' hk2 (Nat.le_refl _))
          clear hW hk2 HNA HNC HNK
          go_wp2_with ((with_reducible refine wpList_putR12 (g := va.heap.size + 1) (old := ⟨0, 0⟩) MT.2.1 ?_ ?_ HNC2.out ?_); exact rfl; exact rfl)
          intro vc hW hk2
          have hk := HNK2.out.trans' hk2 (Nat.le_succ _)
          replace HK := Lib.hid (HK.out.trans hk (FSub.refl _ _))
          try replace HA := Lib.hid (hk.heap HA.out (by simp))
          try replace HC := Lib.hid (hk.heap HC.out (by simp))
          try replace HS := Lib.hid (R.new_ HS.out hk)
          try replace HT := Lib.hid (R.new_ HT.out hk)
          try replace HU := Lib.hid (R.new_ HU.out hk)
          try replace HX := Lib.hid (R.new_ HX.out hk)
          try replace HY := Lib.hid (R.new_ HY.out hk)
          try replace HZ := Lib.hid (R.new_ HZ.out hk)
          try replace HBS := Lib.hid (hk.heap HBS.out (by simp))
          try replace HBT := Lib.hid (hk.heap HBT.out (by simp))
          try replace HBU := Lib.hid (hk.heap HBU.out (by simp))
          try replace HBX := Lib.hid (hk.heap HBX.out (by simp))
          try replace HBY := Lib.hid (hk.heap HBY.out (by simp))
          try replace HBZ := Lib.hid (hk.heap HBZ.out (by simp))
          try replace HRX := Lib.hid (hk.heap HRX.out (by simp))
          try replace HRY := Lib.hid (hk.heap HRY.out (by simp))
          try replace HRZ := Lib.hid (hk.heap HRZ.out (by simp))
          have HBZ := Lib.hid (hk2.heap HNB.out (by simp))
          have HRZ := Lib.hid hW
          clear hk hW hk2 HNC2 HNB HNK2
          obtain ⟨gZ, hg6⟩ : ∃ g, g = va.heap.size + 1 := ⟨_, rfl⟩
          rw [← hg6] at HRZ ⊢
          clear hg6
          generalize va.heap.size = pZ at *
          by_cases h3e : m = 3
          · have q3 : (m == 3) = true := by simpa using h3e
            go_wp2_with fail
            refine (awake13_any R _ (HG.out _ HK.out)).mono ?_; rintro e vz ⟨rfl, hk⟩
            replace HK := Lib.hid (HK.out.trans hk (FSub.refl _ _))
            clear hk
            go_wp2_with fail
            go_ret
            exact ⟨rfl, HK.out⟩
          · have q3 : (m == 3) = false := by simpa using h3e
            have hTS : MS = MT := by
              rw [HMT.out, HMS.out]
              exact (mdX_client (by rw [HSM.out]; exact h3e) (mdX_ok (show (mdX S y.c y.x).2.2 = 0 from by rw [← HMS.out]; exact hz)).1 (by omega)).symm
            subst hTS
            go_wp2_with (first
              | ((with_reducible refine wpList_loadM (g := pZ) (off := 0) HOZ.out ?_ ?_ (block_range HBZ.out) ?_); exact rfl; exact rfl)
              | ((with_reducible refine wpList_loadM (g := pX) (off := 0) HOX.out ?_ ?_ (block_range HBX.out) ?_); exact rfl; exact rfl)
              | ((with_reducible refine wpList_loadN13 (g := gZ) (y := MS.2.1) ?_ ?_ HRZ.out ?_); exact rfl; exact rfl)
              | ((with_reducible refine wpList_loadN13 (g := gX) (y := MS.2.1) ?_ ?_ HRX.out ?_); exact rfl; exact rfl))
            refine (SM.same _ _ (some MS.1) _ (some MS.1) (HG.out _ HK.out) HZ.out HX.out HML.out HML.out).mono ?_; rintro e vy ⟨rfl, hk⟩
            rw [show oSame (some MS.1) (some MS.1) = true from by simp [oSame]]
            replace HK := Lib.hid (HK.out.trans hk (FSub.refl _ _))
            try replace HA := Lib.hid (hk.heap HA.out (by simp))
            try replace HC := Lib.hid (hk.heap HC.out (by simp))
            try replace HS := Lib.hid (R.new_ HS.out hk)
            try replace HT := Lib.hid (R.new_ HT.out hk)
            try replace HU := Lib.hid (R.new_ HU.out hk)
            try replace HX := Lib.hid (R.new_ HX.out hk)
            try replace HY := Lib.hid (R.new_ HY.out hk)
            try replace HZ := Lib.hid (R.new_ HZ.out hk)
            try replace HBS := Lib.hid (hk.heap HBS.out (by simp))
            try replace HBT := Lib.hid (hk.heap HBT.out (by simp))
            try replace HBU := Lib.hid (hk.heap HBU.out (by simp))
            try replace HBX := Lib.hid (hk.heap HBX.out (by simp))
            try replace HBY := Lib.hid (hk.heap HBY.out (by simp))
            try replace HBZ := Lib.hid (hk.heap HBZ.out (by simp))
            try replace HRX := Lib.hid (hk.heap HRX.out (by simp))
            try replace HRY := Lib.hid (hk.heap HRY.out (by simp))
            try replace HRZ := Lib.hid (hk.heap HRZ.out (by simp))
            clear hk
            go_wp2_with fail
            refine (awake13_any R _ (HG.out _ HK.out)).mono ?_; rintro e vz ⟨rfl, hk⟩
            replace HK := Lib.hid (HK.out.trans hk (FSub.refl _ _))
            clear hk
            go_wp2_with fail
            go_ret
            exact ⟨rfl, HK.out⟩
        | false =>
          clear hi
          have HCP := Lib.hid (cl_parts (y := y) (g := p10) (off := 0) (block_range HC.out))
          have xd : World.cell? _ ⟨w.heap.size, 6, none⟩ = some (.int .u8 d) := cell_lit HA.out 6 rfl
          have q16 : 0 ≤ d % 16 ∧ d % 16 < 16 := by omega
          go_wp2_with (first
            | ((with_reducible refine wpList_loadM (g := p7) (off := 0) HOS.out ?_ ?_ (block_range HBS.out) ?_); exact rfl; exact rfl)
            | ((with_reducible refine wpList_loadP (g := p10) (off := 1) y.x ?_ ?_ HCP.out.2 ?_); exact rfl; exact rfl))
          refine (R.step _ _ (some S) (d % 16) y.x (HG.out _ HK.out) HS.out (show S.len ≤ 1000 from by have := HSL.out; omega) ⟨by omega, by omega⟩ HYI.out.x).mono ?_; rintro e va ⟨st, rfl, hat, hk, -⟩
          obtain ⟨MT, hMT⟩ : ∃ X, X = mdX S (d % 16) y.x := ⟨_, rfl⟩
          have HMT := Lib.hid hMT
          clear hMT HCP xd
          rw [show oX (some S) (d % 16) y.x = (some MT.1, MT.2.1, MT.2.2) from by rw [HMT.out]; rfl] at hat ⊢
          replace HK := Lib.hid (HK.out.trans hk (FSub.refl _ _))
          try replace HA := Lib.hid (hk.heap HA.out (by simp))
          try replace HC := Lib.hid (hk.heap HC.out (by simp))
          try replace HS := Lib.hid (R.new_ HS.out hk)
          try replace HT := Lib.hid (R.new_ HT.out hk)
          try replace HU := Lib.hid (R.new_ HU.out hk)
          try replace HX := Lib.hid (R.new_ HX.out hk)
          try replace HY := Lib.hid (R.new_ HY.out hk)
          try replace HZ := Lib.hid (R.new_ HZ.out hk)
          try replace HBS := Lib.hid (hk.heap HBS.out (by simp))
          try replace HBT := Lib.hid (hk.heap HBT.out (by simp))
          try replace HBU := Lib.hid (hk.heap HBU.out (by simp))
          try replace HBX := Lib.hid (hk.heap HBX.out (by simp))
          try replace HBY := Lib.hid (hk.heap HBY.out (by simp))
          try replace HBZ := Lib.hid (hk.heap HBZ.out (by simp))
          try replace HRX := Lib.hid (hk.heap HRX.out (by simp))
          try replace HRY := Lib.hid (hk.heap HRY.out (by simp))
          try replace HRZ := Lib.hid (hk.heap HRZ.out (by simp))
          obtain ⟨AZ, rfl, hok⟩ := R.cells hat
          have HOZ := Lib.hid hok
          have HZ := Lib.hid hat
          clear hat hok hk
          obtain ⟨-, hA', hC', hk'⟩ := two_vars va mdZA #[.int .u8 0, .int .u16 0] 29 25
          have HNA := Lib.hid (hA'.trans (show some (Obj.cells _ _ _) = some (Obj.cells mdZ.toArray 29 (0, 0)) from rfl))
          have HNC := Lib.hid (hC'.trans (show some (Obj.cells _ _ _) = some (Obj.cells (ansC ⟨0, 0⟩).toArray 25 (0, 0)) from rfl))
          have HNK := Lib.hid hk'
          clear hA' hC' hk'
          go_wp2_with ((with_reducible refine wpList_putM (g := va.heap.size) (old := mdZ) (A := AZ) HOZ.out mdZ_ok ?_ ?_ HNA.out ?_); exact rfl; exact rfl)
          intro vb hW hk2
          have HNC2 := Lib.hid (hk2.heap HNC.out (by simp))
          have HNB := Lib.hid hW
          have HNK2 := Lib.hid (HNK.out.trans' hk2 (Nat.le_refl _))
          clear hW hk2 HNA HNC HNK
          go_wp2_with ((with_reducible refine wpList_putR12 (g := va.heap.size + 1) (old := ⟨0, 0⟩) MT.2.1 ?_ ?_ HNC2.out ?_); exact rfl; exact rfl)
          intro vc hW hk2
          have hk := HNK2.out.trans' hk2 (Nat.le_succ _)
          replace HK := Lib.hid (HK.out.trans hk (FSub.refl _ _))
          try replace HA := Lib.hid (hk.heap HA.out (by simp))
          try replace HC := Lib.hid (hk.heap HC.out (by simp))
          try replace HS := Lib.hid (R.new_ HS.out hk)
          try replace HT := Lib.hid (R.new_ HT.out hk)
          try replace HU := Lib.hid (R.new_ HU.out hk)
          try replace HX := Lib.hid (R.new_ HX.out hk)
          try replace HY := Lib.hid (R.new_ HY.out hk)
          try replace HZ := Lib.hid (R.new_ HZ.out hk)
          try replace HBS := Lib.hid (hk.heap HBS.out (by simp))
          try replace HBT := Lib.hid (hk.heap HBT.out (by simp))
          try replace HBU := Lib.hid (hk.heap HBU.out (by simp))
          try replace HBX := Lib.hid (hk.heap HBX.out (by simp))
          try replace HBY := Lib.hid (hk.heap HBY.out (by simp))
          try replace HBZ := Lib.hid (hk.heap HBZ.out (by simp))
          try replace HRX := Lib.hid (hk.heap HRX.out (by simp))
          try replace HRY := Lib.hid (hk.heap HRY.out (by simp))
          try replace HRZ := Lib.hid (hk.heap HRZ.out (by simp))
          have HBZ := Lib.hid (hk2.heap HNB.out (by simp))
          have HRZ := Lib.hid hW
          clear hk hW hk2 HNC2 HNB HNK2
          obtain ⟨gZ, hg6⟩ : ∃ g, g = va.heap.size + 1 := ⟨_, rfl⟩
          rw [← hg6] at HRZ ⊢
          clear hg6
          generalize va.heap.size = pZ at *
          by_cases h3e : m = 3
          · have q3 : (m == 3) = true := by simpa using h3e
            go_wp2_with fail
            refine (awake13_any R _ (HG.out _ HK.out)).mono ?_; rintro e vz ⟨rfl, hk⟩
            replace HK := Lib.hid (HK.out.trans hk (FSub.refl _ _))
            clear hk
            go_wp2_with fail
            go_ret
            exact ⟨rfl, HK.out⟩
          · have q3 : (m == 3) = false := by simpa using h3e
            have hTS : MS = MT := by
              rw [HMT.out, HMS.out]
              exact (mdX_client (by rw [HSM.out]; exact h3e) (mdX_ok (show (mdX S y.c y.x).2.2 = 0 from by rw [← HMS.out]; exact hz)).1 (by omega)).symm
            subst hTS
            go_wp2_with (first
              | ((with_reducible refine wpList_loadM (g := pZ) (off := 0) HOZ.out ?_ ?_ (block_range HBZ.out) ?_); exact rfl; exact rfl)
              | ((with_reducible refine wpList_loadM (g := pX) (off := 0) HOX.out ?_ ?_ (block_range HBX.out) ?_); exact rfl; exact rfl)
              | ((with_reducible refine wpList_loadN13 (g := gZ) (y := MS.2.1) ?_ ?_ HRZ.out ?_); exact rfl; exact rfl)
              | ((with_reducible refine wpList_loadN13 (g := gX) (y := MS.2.1) ?_ ?_ HRX.out ?_); exact rfl; exact rfl))
            refine (SM.same _ _ (some MS.1) _ (some MS.1) (HG.out _ HK.out) HZ.out HX.out HML.out HML.out).mono ?_; rintro e vy ⟨rfl, hk⟩
            rw [show oSame (some MS.1) (some MS.1) = true from by simp [oSame]]
            replace HK := Lib.hid (HK.out.trans hk (FSub.refl _ _))
            try replace HA := Lib.hid (hk.heap HA.out (by simp))
            try replace HC := Lib.hid (hk.heap HC.out (by simp))
            try replace HS := Lib.hid (R.new_ HS.out hk)
            try replace HT := Lib.hid (R.new_ HT.out hk)
            try replace HU := Lib.hid (R.new_ HU.out hk)
            try replace HX := Lib.hid (R.new_ HX.out hk)
            try replace HY := Lib.hid (R.new_ HY.out hk)
            try replace HZ := Lib.hid (R.new_ HZ.out hk)
            try replace HBS := Lib.hid (hk.heap HBS.out (by simp))
            try replace HBT := Lib.hid (hk.heap HBT.out (by simp))
            try replace HBU := Lib.hid (hk.heap HBU.out (by simp))
            try replace HBX := Lib.hid (hk.heap HBX.out (by simp))
            try replace HBY := Lib.hid (hk.heap HBY.out (by simp))
            try replace HBZ := Lib.hid (hk.heap HBZ.out (by simp))
            try replace HRX := Lib.hid (hk.heap HRX.out (by simp))
            try replace HRY := Lib.hid (hk.heap HRY.out (by simp))
            try replace HRZ := Lib.hid (hk.heap HRZ.out (by simp))
            clear hk
            go_wp2_with fail
            refine (awake13_any R _ (HG.out _ HK.out)).mono ?_; rintro e vz ⟨rfl, hk⟩
            replace HK := Lib.hid (HK.out.trans hk (FSub.refl _ _))
            clear hk
            go_wp2_with fail
            go_ret
            exact ⟨rfl, HK.out⟩
      · have k2 : (rr.v == MS.2.1.v) = false := by simpa using c2
        clear c1 c2
        have HCP := Lib.hid (cl_parts (y := y) (g := p10) (off := 0) (block_range HC.out))
        have xf := HCP.out.2 0 _ rfl
        have tm : (m == m) = true := by simp
        go_wp2_with (first
          | ((with_reducible refine wpList_loadNo13 (g := w.heap.size) (off := 7) rr ?_ ?_ HR7.out ?_); exact rfl; exact rfl)
          | ((with_reducible refine wpList_loadN13 (g := gX) (y := MS.2.1) ?_ ?_ HRX.out ?_); exact rfl; exact rfl))
        have hM := rsMay_any v6 y.x.f MS.2.1.k MS.2.1.v HAR.out.1.1 HAR.out.1.2
        rw [show mayOf y.x.f MS.2.1.k MS.2.1.v = 0 from by rw [HMS.out]; exact mdX_may (R.in_ HS.out) (by rw [← HMS.out]; exact hz)] at hM
        refine hM.mono ?_; rintro e v7 ⟨rfl, hk⟩
        clear hM xf HCP HR7
        replace HK := Lib.hid (HK.out.trans hk (FSub.refl _ _))
        try replace HA := Lib.hid (hk.heap HA.out (by simp))
        try replace HC := Lib.hid (hk.heap HC.out (by simp))
        try replace HS := Lib.hid (R.new_ HS.out hk)
        try replace HT := Lib.hid (R.new_ HT.out hk)
        try replace HU := Lib.hid (R.new_ HU.out hk)
        try replace HX := Lib.hid (R.new_ HX.out hk)
        try replace HY := Lib.hid (R.new_ HY.out hk)
        try replace HZ := Lib.hid (R.new_ HZ.out hk)
        try replace HBS := Lib.hid (hk.heap HBS.out (by simp))
        try replace HBT := Lib.hid (hk.heap HBT.out (by simp))
        try replace HBU := Lib.hid (hk.heap HBU.out (by simp))
        try replace HBX := Lib.hid (hk.heap HBX.out (by simp))
        try replace HBY := Lib.hid (hk.heap HBY.out (by simp))
        try replace HBZ := Lib.hid (hk.heap HBZ.out (by simp))
        try replace HRX := Lib.hid (hk.heap HRX.out (by simp))
        try replace HRY := Lib.hid (hk.heap HRY.out (by simp))
        try replace HRZ := Lib.hid (hk.heap HRZ.out (by simp))
        clear hk
        have HCP := Lib.hid (cl_parts (y := y) (g := p10) (off := 0) (block_range HC.out))
        have xf := HCP.out.2 0 _ rfl
        go_wp2_with fail
        refine (IM.idle _ m y.x.f (HG.out _ HK.out) ⟨h0, by omega⟩ ⟨HYI.out.x.f0, HYI.out.x.f1⟩).mono ?_; rintro e v8 ⟨rfl, hk⟩
        clear xf HCP
        replace HK := Lib.hid (HK.out.trans hk (FSub.refl _ _))
        try replace HA := Lib.hid (hk.heap HA.out (by simp))
        try replace HC := Lib.hid (hk.heap HC.out (by simp))
        try replace HS := Lib.hid (R.new_ HS.out hk)
        try replace HT := Lib.hid (R.new_ HT.out hk)
        try replace HU := Lib.hid (R.new_ HU.out hk)
        try replace HX := Lib.hid (R.new_ HX.out hk)
        try replace HY := Lib.hid (R.new_ HY.out hk)
        try replace HZ := Lib.hid (R.new_ HZ.out hk)
        try replace HBS := Lib.hid (hk.heap HBS.out (by simp))
        try replace HBT := Lib.hid (hk.heap HBT.out (by simp))
        try replace HBU := Lib.hid (hk.heap HBU.out (by simp))
        try replace HBX := Lib.hid (hk.heap HBX.out (by simp))
        try replace HBY := Lib.hid (hk.heap HBY.out (by simp))
        try replace HBZ := Lib.hid (hk.heap HBZ.out (by simp))
        try replace HRX := Lib.hid (hk.heap HRX.out (by simp))
        try replace HRY := Lib.hid (hk.heap HRY.out (by simp))
        try replace HRZ := Lib.hid (hk.heap HRZ.out (by simp))
        clear hk
        cases hi : mdIdle m y.x.f with
        | true =>
          have HSS := Lib.hid (show MS.1 = S from by rw [HMS.out]; exact mdX_idle y.c (by rw [HSM.out]; exact hi))
          clear hi
          go_wp2_with (first
            | ((with_reducible refine wpList_loadM (g := p7) (off := 0) HOS.out ?_ ?_ (block_range HBS.out) ?_); exact rfl; exact rfl)
            | ((with_reducible refine wpList_loadM (g := pX) (off := 0) HOX.out ?_ ?_ (block_range HBX.out) ?_); exact rfl; exact rfl))
          refine (SM.same _ _ (some MS.1) _ (some S) (HG.out _ HK.out) HX.out HS.out HML.out (show S.len ≤ 1000 from by have := HSL.out; omega)).mono ?_; rintro e v9 ⟨rfl, hk⟩
          rw [show oSame (some MS.1) (some S) = true from by rw [HSS.out]; simp [oSame]]
          replace HK := Lib.hid (HK.out.trans hk (FSub.refl _ _))
          try replace HA := Lib.hid (hk.heap HA.out (by simp))
          try replace HC := Lib.hid (hk.heap HC.out (by simp))
          try replace HS := Lib.hid (R.new_ HS.out hk)
          try replace HT := Lib.hid (R.new_ HT.out hk)
          try replace HU := Lib.hid (R.new_ HU.out hk)
          try replace HX := Lib.hid (R.new_ HX.out hk)
          try replace HY := Lib.hid (R.new_ HY.out hk)
          try replace HZ := Lib.hid (R.new_ HZ.out hk)
          try replace HBS := Lib.hid (hk.heap HBS.out (by simp))
          try replace HBT := Lib.hid (hk.heap HBT.out (by simp))
          try replace HBU := Lib.hid (hk.heap HBU.out (by simp))
          try replace HBX := Lib.hid (hk.heap HBX.out (by simp))
          try replace HBY := Lib.hid (hk.heap HBY.out (by simp))
          try replace HBZ := Lib.hid (hk.heap HBZ.out (by simp))
          try replace HRX := Lib.hid (hk.heap HRX.out (by simp))
          try replace HRY := Lib.hid (hk.heap HRY.out (by simp))
          try replace HRZ := Lib.hid (hk.heap HRZ.out (by simp))
          clear hk
          have HCP := Lib.hid (cl_parts (y := y) (g := p10) (off := 0) (block_range HC.out))
          have xd : World.cell? _ ⟨w.heap.size, 6, none⟩ = some (.int .u8 d) := cell_lit HA.out 6 rfl
          have q16 : 0 ≤ d % 16 ∧ d % 16 < 16 := by omega
          go_wp2_with (first
            | ((with_reducible refine wpList_loadM (g := p7) (off := 0) HOS.out ?_ ?_ (block_range HBS.out) ?_); exact rfl; exact rfl)
            | ((with_reducible refine wpList_loadP (g := p10) (off := 1) y.x ?_ ?_ HCP.out.2 ?_); exact rfl; exact rfl))
          refine (R.step _ _ (some S) (d % 16) y.x (HG.out _ HK.out) HS.out (show S.len ≤ 1000 from by have := HSL.out; omega) ⟨by omega, by omega⟩ HYI.out.x).mono ?_; rintro e va ⟨st, rfl, hat, hk, -⟩
          obtain ⟨MT, hMT⟩ : ∃ X, X = mdX S (d % 16) y.x := ⟨_, rfl⟩
          have HMT := Lib.hid hMT
          clear hMT HCP xd
          rw [show oX (some S) (d % 16) y.x = (some MT.1, MT.2.1, MT.2.2) from by rw [HMT.out]; rfl] at hat ⊢
          replace HK := Lib.hid (HK.out.trans hk (FSub.refl _ _))
          try replace HA := Lib.hid (hk.heap HA.out (by simp))
          try replace HC := Lib.hid (hk.heap HC.out (by simp))
          try replace HS := Lib.hid (R.new_ HS.out hk)
          try replace HT := Lib.hid (R.new_ HT.out hk)
          try replace HU := Lib.hid (R.new_ HU.out hk)
          try replace HX := Lib.hid (R.new_ HX.out hk)
          try replace HY := Lib.hid (R.new_ HY.out hk)
          try replace HZ := Lib.hid (R.new_ HZ.out hk)
          try replace HBS := Lib.hid (hk.heap HBS.out (by simp))
          try replace HBT := Lib.hid (hk.heap HBT.out (by simp))
          try replace HBU := Lib.hid (hk.heap HBU.out (by simp))
          try replace HBX := Lib.hid (hk.heap HBX.out (by simp))
          try replace HBY := Lib.hid (hk.heap HBY.out (by simp))
          try replace HBZ := Lib.hid (hk.heap HBZ.out (by simp))
          try replace HRX := Lib.hid (hk.heap HRX.out (by simp))
          try replace HRY := Lib.hid (hk.heap HRY.out (by simp))
          try replace HRZ := Lib.hid (hk.heap HRZ.out (by simp))
          obtain ⟨AZ, rfl, hok⟩ := R.cells hat
          have HOZ := Lib.hid hok
          have HZ := Lib.hid hat
          clear hat hok hk
          obtain ⟨-, hA', hC', hk'⟩ := two_vars va mdZA #[.int .u8 0, .int .u16 0] 29 25
          have HNA := Lib.hid (hA'.trans (show some (Obj.cells _ _ _) = some (Obj.cells mdZ.toArray 29 (0, 0)) from rfl))
          have HNC := Lib.hid (hC'.trans (show some (Obj.cells _ _ _) = some (Obj.cells (ansC ⟨0, 0⟩).toArray 25 (0, 0)) from rfl))
          have HNK := Lib.hid hk'
          clear hA' hC' hk'
          go_wp2_with ((with_reducible refine wpList_putM (g := va.heap.size) (old := mdZ) (A := AZ) HOZ.out mdZ_ok ?_ ?_ HNA.out ?_); exact rfl; exact rfl)
          intro vb hW hk2
          have HNC2 := Lib.hid (hk2.heap HNC.out (by simp))
          have HNB := Lib.hid hW
          have HNK2 := Lib.hid (HNK.out.trans' hk2 (Nat.le_refl _))
          clear hW hk2 HNA HNC HNK
          go_wp2_with ((with_reducible refine wpList_putR12 (g := va.heap.size + 1) (old := ⟨0, 0⟩) MT.2.1 ?_ ?_ HNC2.out ?_); exact rfl; exact rfl)
          intro vc hW hk2
          have hk := HNK2.out.trans' hk2 (Nat.le_succ _)
          replace HK := Lib.hid (HK.out.trans hk (FSub.refl _ _))
          try replace HA := Lib.hid (hk.heap HA.out (by simp))
          try replace HC := Lib.hid (hk.heap HC.out (by simp))
          try replace HS := Lib.hid (R.new_ HS.out hk)
          try replace HT := Lib.hid (R.new_ HT.out hk)
          try replace HU := Lib.hid (R.new_ HU.out hk)
          try replace HX := Lib.hid (R.new_ HX.out hk)
          try replace HY := Lib.hid (R.new_ HY.out hk)
          try replace HZ := Lib.hid (R.new_ HZ.out hk)
          try replace HBS := Lib.hid (hk.heap HBS.out (by simp))
          try replace HBT := Lib.hid (hk.heap HBT.out (by simp))
          try replace HBU := Lib.hid (hk.heap HBU.out (by simp))
          try replace HBX := Lib.hid (hk.heap HBX.out (by simp))
          try replace HBY := Lib.hid (hk.heap HBY.out (by simp))
          try replace HBZ := Lib.hid (hk.heap HBZ.out (by simp))
          try replace HRX := Lib.hid (hk.heap HRX.out (by simp))
          try replace HRY := Lib.hid (hk.heap HRY.out (by simp))
          try replace HRZ := Lib.hid (hk.heap HRZ.out (by simp))
          have HBZ := Lib.hid (hk2.heap HNB.out (by simp))
          have HRZ := Lib.hid hW
          clear hk hW hk2 HNC2 HNB HNK2
          obtain ⟨gZ, hg6⟩ : ∃ g, g = va.heap.size + 1 := ⟨_, rfl⟩
          rw [← hg6] at HRZ ⊢
          clear hg6
          generalize va.heap.size = pZ at *
          by_cases h3e : m = 3
          · have q3 : (m == 3) = true := by simpa using h3e
            go_wp2_with fail
            refine (awake13_any R _ (HG.out _ HK.out)).mono ?_; rintro e vz ⟨rfl, hk⟩
            replace HK := Lib.hid (HK.out.trans hk (FSub.refl _ _))
            clear hk
            go_wp2_with fail
            go_ret
            exact ⟨rfl, HK.out⟩
          · have q3 : (m == 3) = false := by simpa using h3e
            have hTS : MS = MT := by
              rw [HMT.out, HMS.out]
              exact (mdX_client (by rw [HSM.out]; exact h3e) (mdX_ok (show (mdX S y.c y.x).2.2 = 0 from by rw [← HMS.out]; exact hz)).1 (by omega)).symm
            subst hTS
            go_wp2_with (first
              | ((with_reducible refine wpList_loadM (g := pZ) (off := 0) HOZ.out ?_ ?_ (block_range HBZ.out) ?_); exact rfl; exact rfl)
              | ((with_reducible refine wpList_loadM (g := pX) (off := 0) HOX.out ?_ ?_ (block_range HBX.out) ?_); exact rfl; exact rfl)
              | ((with_reducible refine wpList_loadN13 (g := gZ) (y := MS.2.1) ?_ ?_ HRZ.out ?_); exact rfl; exact rfl)
              | ((with_reducible refine wpList_loadN13 (g := gX) (y := MS.2.1) ?_ ?_ HRX.out ?_); exact rfl; exact rfl))
            refine (SM.same _ _ (some MS.1) _ (some MS.1) (HG.out _ HK.out) HZ.out HX.out HML.out HML.out).mono ?_; rintro e vy ⟨rfl, hk⟩
            rw [show oSame (some MS.1) (some MS.1) = true from by simp [oSame]]
            replace HK := Lib.hid (HK.out.trans hk (FSub.refl _ _))
            try replace HA := Lib.hid (hk.heap HA.out (by simp))
            try replace HC := Lib.hid (hk.heap HC.out (by simp))
            try replace HS := Lib.hid (R.new_ HS.out hk)
            try replace HT := Lib.hid (R.new_ HT.out hk)
            try replace HU := Lib.hid (R.new_ HU.out hk)
            try replace HX := Lib.hid (R.new_ HX.out hk)
            try replace HY := Lib.hid (R.new_ HY.out hk)
            try replace HZ := Lib.hid (R.new_ HZ.out hk)
            try replace HBS := Lib.hid (hk.heap HBS.out (by simp))
            try replace HBT := Lib.hid (hk.heap HBT.out (by simp))
            try replace HBU := Lib.hid (hk.heap HBU.out (by simp))
            try replace HBX := Lib.hid (hk.heap HBX.out (by simp))
            try replace HBY := Lib.hid (hk.heap HBY.out (by simp))
            try replace HBZ := Lib.hid (hk.heap HBZ.out (by simp))
            try replace HRX := Lib.hid (hk.heap HRX.out (by simp))
            try replace HRY := Lib.hid (hk.heap HRY.out (by simp))
            try replace HRZ := Lib.hid (hk.heap HRZ.out (by simp))
            clear hk
            go_wp2_with fail
            refine (awake13_any R _ (HG.out _ HK.out)).mono ?_; rintro e vz ⟨rfl, hk⟩
            replace HK := Lib.hid (HK.out.trans hk (FSub.refl _ _))
            clear hk
            go_wp2_with fail
            go_ret
            exact ⟨rfl, HK.out⟩
        | false =>
          clear hi
          have HCP := Lib.hid (cl_parts (y := y) (g := p10) (off := 0) (block_range HC.out))
          have xd : World.cell? _ ⟨w.heap.size, 6, none⟩ = some (.int .u8 d) := cell_lit HA.out 6 rfl
          have q16 : 0 ≤ d % 16 ∧ d % 16 < 16 := by omega
          go_wp2_with (first
            | ((with_reducible refine wpList_loadM (g := p7) (off := 0) HOS.out ?_ ?_ (block_range HBS.out) ?_); exact rfl; exact rfl)
            | ((with_reducible refine wpList_loadP (g := p10) (off := 1) y.x ?_ ?_ HCP.out.2 ?_); exact rfl; exact rfl))
          refine (R.step _ _ (some S) (d % 16) y.x (HG.out _ HK.out) HS.out (show S.len ≤ 1000 from by have := HSL.out; omega) ⟨by omega, by omega⟩ HYI.out.x).mono ?_; rintro e va ⟨st, rfl, hat, hk, -⟩
          obtain ⟨MT, hMT⟩ : ∃ X, X = mdX S (d % 16) y.x := ⟨_, rfl⟩
          have HMT := Lib.hid hMT
          clear hMT HCP xd
          rw [show oX (some S) (d % 16) y.x = (some MT.1, MT.2.1, MT.2.2) from by rw [HMT.out]; rfl] at hat ⊢
          replace HK := Lib.hid (HK.out.trans hk (FSub.refl _ _))
          try replace HA := Lib.hid (hk.heap HA.out (by simp))
          try replace HC := Lib.hid (hk.heap HC.out (by simp))
          try replace HS := Lib.hid (R.new_ HS.out hk)
          try replace HT := Lib.hid (R.new_ HT.out hk)
          try replace HU := Lib.hid (R.new_ HU.out hk)
          try replace HX := Lib.hid (R.new_ HX.out hk)
          try replace HY := Lib.hid (R.new_ HY.out hk)
          try replace HZ := Lib.hid (R.new_ HZ.out hk)
          try replace HBS := Lib.hid (hk.heap HBS.out (by simp))
          try replace HBT := Lib.hid (hk.heap HBT.out (by simp))
          try replace HBU := Lib.hid (hk.heap HBU.out (by simp))
          try replace HBX := Lib.hid (hk.heap HBX.out (by simp))
          try replace HBY := Lib.hid (hk.heap HBY.out (by simp))
          try replace HBZ := Lib.hid (hk.heap HBZ.out (by simp))
          try replace HRX := Lib.hid (hk.heap HRX.out (by simp))
          try replace HRY := Lib.hid (hk.heap HRY.out (by simp))
          try replace HRZ := Lib.hid (hk.heap HRZ.out (by simp))
          obtain ⟨AZ, rfl, hok⟩ := R.cells hat
          have HOZ := Lib.hid hok
          have HZ := Lib.hid hat
          clear hat hok hk
          obtain ⟨-, hA', hC', hk'⟩ := two_vars va mdZA #[.int .u8 0, .int .u16 0] 29 25
          have HNA := Lib.hid (hA'.trans (show some (Obj.cells _ _ _) = some (Obj.cells mdZ.toArray 29 (0, 0)) from rfl))
          have HNC := Lib.hid (hC'.trans (show some (Obj.cells _ _ _) = some (Obj.cells (ansC ⟨0, 0⟩).toArray 25 (0, 0)) from rfl))
          have HNK := Lib.hid hk'
          clear hA' hC' hk'
          go_wp2_with ((with_reducible refine wpList_putM (g := va.heap.size) (old := mdZ) (A := AZ) HOZ.out mdZ_ok ?_ ?_ HNA.out ?_); exact rfl; exact rfl)
          intro vb hW hk2
          have HNC2 := Lib.hid (hk2.heap HNC.out (by simp))
          have HNB := Lib.hid hW
          have HNK2 := Lib.hid (HNK.out.trans' hk2 (Nat.le_refl _))
          clear hW hk2 HNA HNC HNK
          go_wp2_with ((with_reducible refine wpList_putR12 (g := va.heap.size + 1) (old := ⟨0, 0⟩) MT.2.1 ?_ ?_ HNC2.out ?_); exact rfl; exact rfl)
          intro vc hW hk2
          have hk := HNK2.out.trans' hk2 (Nat.le_succ _)
          replace HK := Lib.hid (HK.out.trans hk (FSub.refl _ _))
          try replace HA := Lib.hid (hk.heap HA.out (by simp))
          try replace HC := Lib.hid (hk.heap HC.out (by simp))
          try replace HS := Lib.hid (R.new_ HS.out hk)
          try replace HT := Lib.hid (R.new_ HT.out hk)
          try replace HU := Lib.hid (R.new_ HU.out hk)
          try replace HX := Lib.hid (R.new_ HX.out hk)
          try replace HY := Lib.hid (R.new_ HY.out hk)
          try replace HZ := Lib.hid (R.new_ HZ.out hk)
          try replace HBS := Lib.hid (hk.heap HBS.out (by simp))
          try replace HBT := Lib.hid (hk.heap HBT.out (by simp))
          try replace HBU := Lib.hid (hk.heap HBU.out (by simp))
          try replace HBX := Lib.hid (hk.heap HBX.out (by simp))
          try replace HBY := Lib.hid (hk.heap HBY.out (by simp))
          try replace HBZ := Lib.hid (hk.heap HBZ.out (by simp))
          try replace HRX := Lib.hid (hk.heap HRX.out (by simp))
          try replace HRY := Lib.hid (hk.heap HRY.out (by simp))
          try replace HRZ := Lib.hid (hk.heap HRZ.out (by simp))
          have HBZ := Lib.hid (hk2.heap HNB.out (by simp))
          have HRZ := Lib.hid hW
          clear hk hW hk2 HNC2 HNB HNK2
          obtain ⟨gZ, hg6⟩ : ∃ g, g = va.heap.size + 1 := ⟨_, rfl⟩
          rw [← hg6] at HRZ ⊢
          clear hg6
          generalize va.heap.size = pZ at *
          by_cases h3e : m = 3
          · have q3 : (m == 3) = true := by simpa using h3e
            go_wp2_with fail
            refine (awake13_any R _ (HG.out _ HK.out)).mono ?_; rintro e vz ⟨rfl, hk⟩
            replace HK := Lib.hid (HK.out.trans hk (FSub.refl _ _))
            clear hk
            go_wp2_with fail
            go_ret
            exact ⟨rfl, HK.out⟩
          · have q3 : (m == 3) = false := by simpa using h3e
            have hTS : MS = MT := by
              rw [HMT.out, HMS.out]
              exact (mdX_client (by rw [HSM.out]; exact h3e) (mdX_ok (show (mdX S y.c y.x).2.2 = 0 from by rw [← HMS.out]; exact hz)).1 (by omega)).symm
            subst hTS
            go_wp2_with (first
              | ((with_reducible refine wpList_loadM (g := pZ) (off := 0) HOZ.out ?_ ?_ (block_range HBZ.out) ?_); exact rfl; exact rfl)
              | ((with_reducible refine wpList_loadM (g := pX) (off := 0) HOX.out ?_ ?_ (block_range HBX.out) ?_); exact rfl; exact rfl)
              | ((with_reducible refine wpList_loadN13 (g := gZ) (y := MS.2.1) ?_ ?_ HRZ.out ?_); exact rfl; exact rfl)
              | ((with_reducible refine wpList_loadN13 (g := gX) (y := MS.2.1) ?_ ?_ HRX.out ?_); exact rfl; exact rfl))
            refine (SM.same _ _ (some MS.1) _ (some MS.1) (HG.out _ HK.out) HZ.out HX.out HML.out HML.out).mono ?_; rintro e vy ⟨rfl, hk⟩
            rw [show oSame (some MS.1) (some MS.1) = true from by simp [oSame]]
            replace HK := Lib.hid (HK.out.trans hk (FSub.refl _ _))
            try replace HA := Lib.hid (hk.heap HA.out (by simp))
            try replace HC := Lib.hid (hk.heap HC.out (by simp))
            try replace HS := Lib.hid (R.new_ HS.out hk)
            try replace HT := Lib.hid (R.new_ HT.out hk)
            try replace HU := Lib.hid (R.new_ HU.out hk)
            try replace HX := Lib.hid (R.new_ HX.out hk)
            try replace HY := Lib.hid (R.new_ HY.out hk)
            try replace HZ := Lib.hid (R.new_ HZ.out hk)
            try replace HBS := Lib.hid (hk.heap HBS.out (by simp))
            try replace HBT := Lib.hid (hk.heap HBT.out (by simp))
            try replace HBU := Lib.hid (hk.heap HBU.out (by simp))
            try replace HBX := Lib.hid (hk.heap HBX.out (by simp))
            try replace HBY := Lib.hid (hk.heap HBY.out (by simp))
            try replace HBZ := Lib.hid (hk.heap HBZ.out (by simp))
            try replace HRX := Lib.hid (hk.heap HRX.out (by simp))
            try replace HRY := Lib.hid (hk.heap HRY.out (by simp))
            try replace HRZ := Lib.hid (hk.heap HRZ.out (by simp))
            clear hk
            go_wp2_with fail
            refine (awake13_any R _ (HG.out _ HK.out)).mono ?_; rintro e vz ⟨rfl, hk⟩
            replace HK := Lib.hid (HK.out.trans hk (FSub.refl _ _))
            clear hk
            go_wp2_with fail
            go_ret
            exact ⟨rfl, HK.out⟩
    · have k1 : (rr.k == MS.2.1.k) = false := by simpa using c1
      clear c1
      have HCP := Lib.hid (cl_parts (y := y) (g := p10) (off := 0) (block_range HC.out))
      have xf := HCP.out.2 0 _ rfl
      have tm : (m == m) = true := by simp
      go_wp2_with (first
        | ((with_reducible refine wpList_loadNo13 (g := w.heap.size) (off := 7) rr ?_ ?_ HR7.out ?_); exact rfl; exact rfl)
        | ((with_reducible refine wpList_loadN13 (g := gX) (y := MS.2.1) ?_ ?_ HRX.out ?_); exact rfl; exact rfl))
      have hM := rsMay_any v6 y.x.f MS.2.1.k MS.2.1.v HAR.out.1.1 HAR.out.1.2
      rw [show mayOf y.x.f MS.2.1.k MS.2.1.v = 0 from by rw [HMS.out]; exact mdX_may (R.in_ HS.out) (by rw [← HMS.out]; exact hz)] at hM
      refine hM.mono ?_; rintro e v7 ⟨rfl, hk⟩
      clear hM xf HCP HR7
      replace HK := Lib.hid (HK.out.trans hk (FSub.refl _ _))
      try replace HA := Lib.hid (hk.heap HA.out (by simp))
      try replace HC := Lib.hid (hk.heap HC.out (by simp))
      try replace HS := Lib.hid (R.new_ HS.out hk)
      try replace HT := Lib.hid (R.new_ HT.out hk)
      try replace HU := Lib.hid (R.new_ HU.out hk)
      try replace HX := Lib.hid (R.new_ HX.out hk)
      try replace HY := Lib.hid (R.new_ HY.out hk)
      try replace HZ := Lib.hid (R.new_ HZ.out hk)
      try replace HBS := Lib.hid (hk.heap HBS.out (by simp))
      try replace HBT := Lib.hid (hk.heap HBT.out (by simp))
      try replace HBU := Lib.hid (hk.heap HBU.out (by simp))
      try replace HBX := Lib.hid (hk.heap HBX.out (by simp))
      try replace HBY := Lib.hid (hk.heap HBY.out (by simp))
      try replace HBZ := Lib.hid (hk.heap HBZ.out (by simp))
      try replace HRX := Lib.hid (hk.heap HRX.out (by simp))
      try replace HRY := Lib.hid (hk.heap HRY.out (by simp))
      try replace HRZ := Lib.hid (hk.heap HRZ.out (by simp))
      clear hk
      have HCP := Lib.hid (cl_parts (y := y) (g := p10) (off := 0) (block_range HC.out))
      have xf := HCP.out.2 0 _ rfl
      go_wp2_with fail
      refine (IM.idle _ m y.x.f (HG.out _ HK.out) ⟨h0, by omega⟩ ⟨HYI.out.x.f0, HYI.out.x.f1⟩).mono ?_; rintro e v8 ⟨rfl, hk⟩
      clear xf HCP
      replace HK := Lib.hid (HK.out.trans hk (FSub.refl _ _))
      try replace HA := Lib.hid (hk.heap HA.out (by simp))
      try replace HC := Lib.hid (hk.heap HC.out (by simp))
      try replace HS := Lib.hid (R.new_ HS.out hk)
      try replace HT := Lib.hid (R.new_ HT.out hk)
      try replace HU := Lib.hid (R.new_ HU.out hk)
      try replace HX := Lib.hid (R.new_ HX.out hk)
      try replace HY := Lib.hid (R.new_ HY.out hk)
      try replace HZ := Lib.hid (R.new_ HZ.out hk)
      try replace HBS := Lib.hid (hk.heap HBS.out (by simp))
      try replace HBT := Lib.hid (hk.heap HBT.out (by simp))
      try replace HBU := Lib.hid (hk.heap HBU.out (by simp))
      try replace HBX := Lib.hid (hk.heap HBX.out (by simp))
      try replace HBY := Lib.hid (hk.heap HBY.out (by simp))
      try replace HBZ := Lib.hid (hk.heap HBZ.out (by simp))
      try replace HRX := Lib.hid (hk.heap HRX.out (by simp))
      try replace HRY := Lib.hid (hk.heap HRY.out (by simp))
      try replace HRZ := Lib.hid (hk.heap HRZ.out (by simp))
      clear hk
      cases hi : mdIdle m y.x.f with
      | true =>
        have HSS := Lib.hid (show MS.1 = S from by rw [HMS.out]; exact mdX_idle y.c (by rw [HSM.out]; exact hi))
        clear hi
        go_wp2_with (first
          | ((with_reducible refine wpList_loadM (g := p7) (off := 0) HOS.out ?_ ?_ (block_range HBS.out) ?_); exact rfl; exact rfl)
          | ((with_reducible refine wpList_loadM (g := pX) (off := 0) HOX.out ?_ ?_ (block_range HBX.out) ?_); exact rfl; exact rfl))
        refine (SM.same _ _ (some MS.1) _ (some S) (HG.out _ HK.out) HX.out HS.out HML.out (show S.len ≤ 1000 from by have := HSL.out; omega)).mono ?_; rintro e v9 ⟨rfl, hk⟩
        rw [show oSame (some MS.1) (some S) = true from by rw [HSS.out]; simp [oSame]]
        replace HK := Lib.hid (HK.out.trans hk (FSub.refl _ _))
        try replace HA := Lib.hid (hk.heap HA.out (by simp))
        try replace HC := Lib.hid (hk.heap HC.out (by simp))
        try replace HS := Lib.hid (R.new_ HS.out hk)
        try replace HT := Lib.hid (R.new_ HT.out hk)
        try replace HU := Lib.hid (R.new_ HU.out hk)
        try replace HX := Lib.hid (R.new_ HX.out hk)
        try replace HY := Lib.hid (R.new_ HY.out hk)
        try replace HZ := Lib.hid (R.new_ HZ.out hk)
        try replace HBS := Lib.hid (hk.heap HBS.out (by simp))
        try replace HBT := Lib.hid (hk.heap HBT.out (by simp))
        try replace HBU := Lib.hid (hk.heap HBU.out (by simp))
        try replace HBX := Lib.hid (hk.heap HBX.out (by simp))
        try replace HBY := Lib.hid (hk.heap HBY.out (by simp))
        try replace HBZ := Lib.hid (hk.heap HBZ.out (by simp))
        try replace HRX := Lib.hid (hk.heap HRX.out (by simp))
        try replace HRY := Lib.hid (hk.heap HRY.out (by simp))
        try replace HRZ := Lib.hid (hk.heap HRZ.out (by simp))
        clear hk
        have HCP := Lib.hid (cl_parts (y := y) (g := p10) (off := 0) (block_range HC.out))
        have xd : World.cell? _ ⟨w.heap.size, 6, none⟩ = some (.int .u8 d) := cell_lit HA.out 6 rfl
        have q16 : 0 ≤ d % 16 ∧ d % 16 < 16 := by omega
        go_wp2_with (first
          | ((with_reducible refine wpList_loadM (g := p7) (off := 0) HOS.out ?_ ?_ (block_range HBS.out) ?_); exact rfl; exact rfl)
          | ((with_reducible refine wpList_loadP (g := p10) (off := 1) y.x ?_ ?_ HCP.out.2 ?_); exact rfl; exact rfl))
        refine (R.step _ _ (some S) (d % 16) y.x (HG.out _ HK.out) HS.out (show S.len ≤ 1000 from by have := HSL.out; omega) ⟨by omega, by omega⟩ HYI.out.x).mono ?_; rintro e va ⟨st, rfl, hat, hk, -⟩
        obtain ⟨MT, hMT⟩ : ∃ X, X = mdX S (d % 16) y.x := ⟨_, rfl⟩
        have HMT := Lib.hid hMT
        clear hMT HCP xd
        rw [show oX (some S) (d % 16) y.x = (some MT.1, MT.2.1, MT.2.2) from by rw [HMT.out]; rfl] at hat ⊢
        replace HK := Lib.hid (HK.out.trans hk (FSub.refl _ _))
        try replace HA := Lib.hid (hk.heap HA.out (by simp))
        try replace HC := Lib.hid (hk.heap HC.out (by simp))
        try replace HS := Lib.hid (R.new_ HS.out hk)
        try replace HT := Lib.hid (R.new_ HT.out hk)
        try replace HU := Lib.hid (R.new_ HU.out hk)
        try replace HX := Lib.hid (R.new_ HX.out hk)
        try replace HY := Lib.hid (R.new_ HY.out hk)
        try replace HZ := Lib.hid (R.new_ HZ.out hk)
        try replace HBS := Lib.hid (hk.heap HBS.out (by simp))
        try replace HBT := Lib.hid (hk.heap HBT.out (by simp))
        try replace HBU := Lib.hid (hk.heap HBU.out (by simp))
        try replace HBX := Lib.hid (hk.heap HBX.out (by simp))
        try replace HBY := Lib.hid (hk.heap HBY.out (by simp))
        try replace HBZ := Lib.hid (hk.heap HBZ.out (by simp))
        try replace HRX := Lib.hid (hk.heap HRX.out (by simp))
        try replace HRY := Lib.hid (hk.heap HRY.out (by simp))
        try replace HRZ := Lib.hid (hk.heap HRZ.out (by simp))
        obtain ⟨AZ, rfl, hok⟩ := R.cells hat
        have HOZ := Lib.hid hok
        have HZ := Lib.hid hat
        clear hat hok hk
        obtain ⟨-, hA', hC', hk'⟩ := two_vars va mdZA #[.int .u8 0, .int .u16 0] 29 25
        have HNA := Lib.hid (hA'.trans (show some (Obj.cells _ _ _) = some (Obj.cells mdZ.toArray 29 (0, 0)) from rfl))
        have HNC := Lib.hid (hC'.trans (show some (Obj.cells _ _ _) = some (Obj.cells (ansC ⟨0, 0⟩).toArray 25 (0, 0)) from rfl))
        have HNK := Lib.hid hk'
        clear hA' hC' hk'
        go_wp2_with ((with_reducible refine wpList_putM (g := va.heap.size) (old := mdZ) (A := AZ) HOZ.out mdZ_ok ?_ ?_ HNA.out ?_); exact rfl; exact rfl)
        intro vb hW hk2
        have HNC2 := Lib.hid (hk2.heap HNC.out (by simp))
        have HNB := Lib.hid hW
        have HNK2 := Lib.hid (HNK.out.trans' hk2 (Nat.le_refl _))
        clear hW hk2 HNA HNC HNK
        go_wp2_with ((with_reducible refine wpList_putR12 (g := va.heap.size + 1) (old := ⟨0, 0⟩) MT.2.1 ?_ ?_ HNC2.out ?_); exact rfl; exact rfl)
        intro vc hW hk2
        have hk := HNK2.out.trans' hk2 (Nat.le_succ _)
        replace HK := Lib.hid (HK.out.trans hk (FSub.refl _ _))
        try replace HA := Lib.hid (hk.heap HA.out (by simp))
        try replace HC := Lib.hid (hk.heap HC.out (by simp))
        try replace HS := Lib.hid (R.new_ HS.out hk)
        try replace HT := Lib.hid (R.new_ HT.out hk)
        try replace HU := Lib.hid (R.new_ HU.out hk)
        try replace HX := Lib.hid (R.new_ HX.out hk)
        try replace HY := Lib.hid (R.new_ HY.out hk)
        try replace HZ := Lib.hid (R.new_ HZ.out hk)
        try replace HBS := Lib.hid (hk.heap HBS.out (by simp))
        try replace HBT := Lib.hid (hk.heap HBT.out (by simp))
        try replace HBU := Lib.hid (hk.heap HBU.out (by simp))
        try replace HBX := Lib.hid (hk.heap HBX.out (by simp))
        try replace HBY := Lib.hid (hk.heap HBY.out (by simp))
        try replace HBZ := Lib.hid (hk.heap HBZ.out (by simp))
        try replace HRX := Lib.hid (hk.heap HRX.out (by simp))
        try replace HRY := Lib.hid (hk.heap HRY.out (by simp))
        try replace HRZ := Lib.hid (hk.heap HRZ.out (by simp))
        have HBZ := Lib.hid (hk2.heap HNB.out (by simp))
        have HRZ := Lib.hid hW
        clear hk hW hk2 HNC2 HNB HNK2
        obtain ⟨gZ, hg6⟩ : ∃ g, g = va.heap.size + 1 := ⟨_, rfl⟩
        rw [← hg6] at HRZ ⊢
        clear hg6
        generalize va.heap.size = pZ at *
        by_cases h3e : m = 3
        · have q3 : (m == 3) = true := by simpa using h3e
          go_wp2_with fail
          refine (awake13_any R _ (HG.out _ HK.out)).mono ?_; rintro e vz ⟨rfl, hk⟩
          replace HK := Lib.hid (HK.out.trans hk (FSub.refl _ _))
          clear hk
          go_wp2_with fail
          go_ret
          exact ⟨rfl, HK.out⟩
        · have q3 : (m == 3) = false := by simpa using h3e
          have hTS : MS = MT := by
            rw [HMT.out, HMS.out]
            exact (mdX_client (by rw [HSM.out]; exact h3e) (mdX_ok (show (mdX S y.c y.x).2.2 = 0 from by rw [← HMS.out]; exact hz)).1 (by omega)).symm
          subst hTS
          go_wp2_with (first
            | ((with_reducible refine wpList_loadM (g := pZ) (off := 0) HOZ.out ?_ ?_ (block_range HBZ.out) ?_); exact rfl; exact rfl)
            | ((with_reducible refine wpList_loadM (g := pX) (off := 0) HOX.out ?_ ?_ (block_range HBX.out) ?_); exact rfl; exact rfl)
            | ((with_reducible refine wpList_loadN13 (g := gZ) (y := MS.2.1) ?_ ?_ HRZ.out ?_); exact rfl; exact rfl)
            | ((with_reducible refine wpList_loadN13 (g := gX) (y := MS.2.1) ?_ ?_ HRX.out ?_); exact rfl; exact rfl))
          refine (SM.same _ _ (some MS.1) _ (some MS.1) (HG.out _ HK.out) HZ.out HX.out HML.out HML.out).mono ?_; rintro e vy ⟨rfl, hk⟩
          rw [show oSame (some MS.1) (some MS.1) = true from by simp [oSame]]
          replace HK := Lib.hid (HK.out.trans hk (FSub.refl _ _))
          try replace HA := Lib.hid (hk.heap HA.out (by simp))
          try replace HC := Lib.hid (hk.heap HC.out (by simp))
          try replace HS := Lib.hid (R.new_ HS.out hk)
          try replace HT := Lib.hid (R.new_ HT.out hk)
          try replace HU := Lib.hid (R.new_ HU.out hk)
          try replace HX := Lib.hid (R.new_ HX.out hk)
          try replace HY := Lib.hid (R.new_ HY.out hk)
          try replace HZ := Lib.hid (R.new_ HZ.out hk)
          try replace HBS := Lib.hid (hk.heap HBS.out (by simp))
          try replace HBT := Lib.hid (hk.heap HBT.out (by simp))
          try replace HBU := Lib.hid (hk.heap HBU.out (by simp))
          try replace HBX := Lib.hid (hk.heap HBX.out (by simp))
          try replace HBY := Lib.hid (hk.heap HBY.out (by simp))
          try replace HBZ := Lib.hid (hk.heap HBZ.out (by simp))
          try replace HRX := Lib.hid (hk.heap HRX.out (by simp))
          try replace HRY := Lib.hid (hk.heap HRY.out (by simp))
          try replace HRZ := Lib.hid (hk.heap HRZ.out (by simp))
          clear hk
          go_wp2_with fail
          refine (awake13_any R _ (HG.out _ HK.out)).mono ?_; rintro e vz ⟨rfl, hk⟩
          replace HK := Lib.hid (HK.out.trans hk (FSub.refl _ _))
          clear hk
          go_wp2_with fail
          go_ret
          exact ⟨rfl, HK.out⟩
      | false =>
        clear hi
        have HCP := Lib.hid (cl_parts (y := y) (g := p10) (off := 0) (block_range HC.out))
        have xd : World.cell? _ ⟨w.heap.size, 6, none⟩ = some (.int .u8 d) := cell_lit HA.out 6 rfl
        have q16 : 0 ≤ d % 16 ∧ d % 16 < 16 := by omega
        go_wp2_with (first
          | ((with_reducible refine wpList_loadM (g := p7) (off := 0) HOS.out ?_ ?_ (block_range HBS.out) ?_); exact rfl; exact rfl)
          | ((with_reducible refine wpList_loadP (g := p10) (off := 1) y.x ?_ ?_ HCP.out.2 ?_); exact rfl; exact rfl))
        refine (R.step _ _ (some S) (d % 16) y.x (HG.out _ HK.out) HS.out (show S.len ≤ 1000 from by have := HSL.out; omega) ⟨by omega, by omega⟩ HYI.out.x).mono ?_; rintro e va ⟨st, rfl, hat, hk, -⟩
        obtain ⟨MT, hMT⟩ : ∃ X, X = mdX S (d % 16) y.x := ⟨_, rfl⟩
        have HMT := Lib.hid hMT
        clear hMT HCP xd
        rw [show oX (some S) (d % 16) y.x = (some MT.1, MT.2.1, MT.2.2) from by rw [HMT.out]; rfl] at hat ⊢
        replace HK := Lib.hid (HK.out.trans hk (FSub.refl _ _))
        try replace HA := Lib.hid (hk.heap HA.out (by simp))
        try replace HC := Lib.hid (hk.heap HC.out (by simp))
        try replace HS := Lib.hid (R.new_ HS.out hk)
        try replace HT := Lib.hid (R.new_ HT.out hk)
        try replace HU := Lib.hid (R.new_ HU.out hk)
        try replace HX := Lib.hid (R.new_ HX.out hk)
        try replace HY := Lib.hid (R.new_ HY.out hk)
        try replace HZ := Lib.hid (R.new_ HZ.out hk)
        try replace HBS := Lib.hid (hk.heap HBS.out (by simp))
        try replace HBT := Lib.hid (hk.heap HBT.out (by simp))
        try replace HBU := Lib.hid (hk.heap HBU.out (by simp))
        try replace HBX := Lib.hid (hk.heap HBX.out (by simp))
        try replace HBY := Lib.hid (hk.heap HBY.out (by simp))
        try replace HBZ := Lib.hid (hk.heap HBZ.out (by simp))
        try replace HRX := Lib.hid (hk.heap HRX.out (by simp))
        try replace HRY := Lib.hid (hk.heap HRY.out (by simp))
        try replace HRZ := Lib.hid (hk.heap HRZ.out (by simp))
        obtain ⟨AZ, rfl, hok⟩ := R.cells hat
        have HOZ := Lib.hid hok
        have HZ := Lib.hid hat
        clear hat hok hk
        obtain ⟨-, hA', hC', hk'⟩ := two_vars va mdZA #[.int .u8 0, .int .u16 0] 29 25
        have HNA := Lib.hid (hA'.trans (show some (Obj.cells _ _ _) = some (Obj.cells mdZ.toArray 29 (0, 0)) from rfl))
        have HNC := Lib.hid (hC'.trans (show some (Obj.cells _ _ _) = some (Obj.cells (ansC ⟨0, 0⟩).toArray 25 (0, 0)) from rfl))
        have HNK := Lib.hid hk'
        clear hA' hC' hk'
        go_wp2_with ((with_reducible refine wpList_putM (g := va.heap.size) (old := mdZ) (A := AZ) HOZ.out mdZ_ok ?_ ?_ HNA.out ?_); exact rfl; exact rfl)
        intro vb hW hk2
        have HNC2 := Lib.hid (hk2.heap HNC.out (by simp))
        have HNB := Lib.hid hW
        have HNK2 := Lib.hid (HNK.out.trans' hk2 (Nat.le_refl _))
        clear hW hk2 HNA HNC HNK
        go_wp2_with ((with_reducible refine wpList_putR12 (g := va.heap.size + 1) (old := ⟨0, 0⟩) MT.2.1 ?_ ?_ HNC2.out ?_); exact rfl; exact rfl)
        intro vc hW hk2
        have hk := HNK2.out.trans' hk2 (Nat.le_succ _)
        replace HK := Lib.hid (HK.out.trans hk (FSub.refl _ _))
        try replace HA := Lib.hid (hk.heap HA.out (by simp))
        try replace HC := Lib.hid (hk.heap HC.out (by simp))
        try replace HS := Lib.hid (R.new_ HS.out hk)
        try replace HT := Lib.hid (R.new_ HT.out hk)
        try replace HU := Lib.hid (R.new_ HU.out hk)
        try replace HX := Lib.hid (R.new_ HX.out hk)
        try replace HY := Lib.hid (R.new_ HY.out hk)
        try replace HZ := Lib.hid (R.new_ HZ.out hk)
        try replace HBS := Lib.hid (hk.heap HBS.out (by simp))
        try replace HBT := Lib.hid (hk.heap HBT.out (by simp))
        try replace HBU := Lib.hid (hk.heap HBU.out (by simp))
        try replace HBX := Lib.hid (hk.heap HBX.out (by simp))
        try replace HBY := Lib.hid (hk.heap HBY.out (by simp))
        try replace HBZ := Lib.hid (hk.heap HBZ.out (by simp))
        try replace HRX := Lib.hid (hk.heap HRX.out (by simp))
        try replace HRY := Lib.hid (hk.heap HRY.out (by simp))
        try replace HRZ := Lib.hid (hk.heap HRZ.out (by simp))
        have HBZ := Lib.hid (hk2.heap HNB.out (by simp))
        have HRZ := Lib.hid hW
        clear hk hW hk2 HNC2 HNB HNK2
        obtain ⟨gZ, hg6⟩ : ∃ g, g = va.heap.size + 1 := ⟨_, rfl⟩
        rw [← hg6] at HRZ ⊢
        clear hg6
        generalize va.heap.size = pZ at *
        by_cases h3e : m = 3
        · have q3 : (m == 3) = true := by simpa using h3e
          go_wp2_with fail
          refine (awake13_any R _ (HG.out _ HK.out)).mono ?_; rintro e vz ⟨rfl, hk⟩
          replace HK := Lib.hid (HK.out.trans hk (FSub.refl _ _))
          clear hk
          go_wp2_with fail
          go_ret
          exact ⟨rfl, HK.out⟩
        · have q3 : (m == 3) = false := by simpa using h3e
          have hTS : MS = MT := by
            rw [HMT.out, HMS.out]
            exact (mdX_client (by rw [HSM.out]; exact h3e) (mdX_ok (show (mdX S y.c y.x).2.2 = 0 from by rw [← HMS.out]; exact hz)).1 (by omega)).symm
          subst hTS
          go_wp2_with (first
            | ((with_reducible refine wpList_loadM (g := pZ) (off := 0) HOZ.out ?_ ?_ (block_range HBZ.out) ?_); exact rfl; exact rfl)
            | ((with_reducible refine wpList_loadM (g := pX) (off := 0) HOX.out ?_ ?_ (block_range HBX.out) ?_); exact rfl; exact rfl)
            | ((with_reducible refine wpList_loadN13 (g := gZ) (y := MS.2.1) ?_ ?_ HRZ.out ?_); exact rfl; exact rfl)
            | ((with_reducible refine wpList_loadN13 (g := gX) (y := MS.2.1) ?_ ?_ HRX.out ?_); exact rfl; exact rfl))
          refine (SM.same _ _ (some MS.1) _ (some MS.1) (HG.out _ HK.out) HZ.out HX.out HML.out HML.out).mono ?_; rintro e vy ⟨rfl, hk⟩
          rw [show oSame (some MS.1) (some MS.1) = true from by simp [oSame]]
          replace HK := Lib.hid (HK.out.trans hk (FSub.refl _ _))
          try replace HA := Lib.hid (hk.heap HA.out (by simp))
          try replace HC := Lib.hid (hk.heap HC.out (by simp))
          try replace HS := Lib.hid (R.new_ HS.out hk)
          try replace HT := Lib.hid (R.new_ HT.out hk)
          try replace HU := Lib.hid (R.new_ HU.out hk)
          try replace HX := Lib.hid (R.new_ HX.out hk)
          try replace HY := Lib.hid (R.new_ HY.out hk)
          try replace HZ := Lib.hid (R.new_ HZ.out hk)
          try replace HBS := Lib.hid (hk.heap HBS.out (by simp))
          try replace HBT := Lib.hid (hk.heap HBT.out (by simp))
          try replace HBU := Lib.hid (hk.heap HBU.out (by simp))
          try replace HBX := Lib.hid (hk.heap HBX.out (by simp))
          try replace HBY := Lib.hid (hk.heap HBY.out (by simp))
          try replace HBZ := Lib.hid (hk.heap HBZ.out (by simp))
          try replace HRX := Lib.hid (hk.heap HRX.out (by simp))
          try replace HRY := Lib.hid (hk.heap HRY.out (by simp))
          try replace HRZ := Lib.hid (hk.heap HRZ.out (by simp))
          clear hk
          go_wp2_with fail
          refine (awake13_any R _ (HG.out _ HK.out)).mono ?_; rintro e vz ⟨rfl, hk⟩
          replace HK := Lib.hid (HK.out.trans hk (FSub.refl _ _))
          clear hk
          go_wp2_with fail
          go_ret
          exact ⟨rfl, HK.out⟩
  · have q0 : (MS.2.2 == 0) = false := by simpa using hz
    have hb := mdX_bad (S := S) (c := y.c) (x := y.x) (by rw [← HMS.out]; exact hz)
    rw [← HMS.out] at hb
    have z1 : (MS.2.1.k == 0) = true := by rw [hb.2]; rfl
    have z2 : (MS.2.1.v == 0) = true := by rw [hb.2]; rfl
    have HBE := Lib.hid hb.1
    have HER := Lib.hid (show MS.2.2 = if 15 < y.c then 2 else opChk m y.x from by rw [HMS.out, mdX_err, HSM.out])
    have HZZ := Lib.hid hz
    clear hb hz
    have HCP := Lib.hid (cl_parts (y := y) (g := p10) (off := 0) (block_range HC.out))
    have xc := HCP.out.1
    by_cases h15 : 15 < y.c
    · have z3 := h15
      go_wp2_with (first
        | ((with_reducible refine wpList_loadM (g := pX) (off := 0) HOX.out ?_ ?_ (block_range HBX.out) ?_); exact rfl; exact rfl)
        | ((with_reducible refine wpList_loadM (g := p7) (off := 0) HOS.out ?_ ?_ (block_range HBS.out) ?_); exact rfl; exact rfl))
      refine (SM.same _ _ (some MS.1) _ (some S) (HG.out _ HK.out) HX.out HS.out HML.out (show S.len ≤ 1000 from by have := HSL.out; omega)).mono ?_; rintro e vb1 ⟨rfl, hk⟩
      rw [show oSame (some MS.1) (some S) = true from by rw [HBE.out]; simp [oSame]]
      try clear xc HCP
      replace HK := Lib.hid (HK.out.trans hk (FSub.refl _ _))
      try replace HA := Lib.hid (hk.heap HA.out (by simp))
      try replace HC := Lib.hid (hk.heap HC.out (by simp))
      try replace HS := Lib.hid (R.new_ HS.out hk)
      try replace HT := Lib.hid (R.new_ HT.out hk)
      try replace HU := Lib.hid (R.new_ HU.out hk)
      try replace HX := Lib.hid (R.new_ HX.out hk)
      try replace HY := Lib.hid (R.new_ HY.out hk)
      try replace HZ := Lib.hid (R.new_ HZ.out hk)
      try replace HBS := Lib.hid (hk.heap HBS.out (by simp))
      try replace HBT := Lib.hid (hk.heap HBT.out (by simp))
      try replace HBU := Lib.hid (hk.heap HBU.out (by simp))
      try replace HBX := Lib.hid (hk.heap HBX.out (by simp))
      try replace HBY := Lib.hid (hk.heap HBY.out (by simp))
      try replace HBZ := Lib.hid (hk.heap HBZ.out (by simp))
      try replace HRX := Lib.hid (hk.heap HRX.out (by simp))
      try replace HRY := Lib.hid (hk.heap HRY.out (by simp))
      try replace HRZ := Lib.hid (hk.heap HRZ.out (by simp))
      clear hk
      go_wp2_with ((with_reducible refine wpList_loadN13 (g := gX) (y := MS.2.1) ?_ ?_ HRX.out ?_); exact rfl; exact rfl)
      refine (awake13_any R _ (HG.out _ HK.out)).mono ?_; rintro e vz ⟨rfl, hk⟩
      replace HK := Lib.hid (HK.out.trans hk (FSub.refl _ _))
      clear hk
      go_wp2_with fail
      go_ret
      exact ⟨rfl, HK.out⟩
    · have hC := hchk _ m y.x (HG.out _ HK.out) ⟨h0, by omega⟩ HYI.out.x
      rw [show opChk m y.x = 10 from by
        rcases opChk_or m y.x with h | h
        · exact absurd (by rw [HER.out, if_neg h15, h]) HZZ.out
        · exact h] at hC
      have HCC := Lib.hid hC
      have q15 : decide (15 < y.c) = false := by simpa using h15
      clear hC
      go_wp2_with ((with_reducible refine wpList_loadP (g := p10) (off := 1) y.x ?_ ?_ HCP.out.2 ?_); exact rfl; exact rfl)
      refine HCC.out.mono ?_; rintro e vc1 ⟨rfl, hk⟩
      clear xc HCP HCC
      replace HK := Lib.hid (HK.out.trans hk (FSub.refl _ _))
      try replace HA := Lib.hid (hk.heap HA.out (by simp))
      try replace HC := Lib.hid (hk.heap HC.out (by simp))
      try replace HS := Lib.hid (R.new_ HS.out hk)
      try replace HT := Lib.hid (R.new_ HT.out hk)
      try replace HU := Lib.hid (R.new_ HU.out hk)
      try replace HX := Lib.hid (R.new_ HX.out hk)
      try replace HY := Lib.hid (R.new_ HY.out hk)
      try replace HZ := Lib.hid (R.new_ HZ.out hk)
      try replace HBS := Lib.hid (hk.heap HBS.out (by simp))
      try replace HBT := Lib.hid (hk.heap HBT.out (by simp))
      try replace HBU := Lib.hid (hk.heap HBU.out (by simp))
      try replace HBX := Lib.hid (hk.heap HBX.out (by simp))
      try replace HBY := Lib.hid (hk.heap HBY.out (by simp))
      try replace HBZ := Lib.hid (hk.heap HBZ.out (by simp))
      try replace HRX := Lib.hid (hk.heap HRX.out (by simp))
      try replace HRY := Lib.hid (hk.heap HRY.out (by simp))
      try replace HRZ := Lib.hid (hk.heap HRZ.out (by simp))
      clear hk
      go_wp2_with (first
        | ((with_reducible refine wpList_loadM (g := pX) (off := 0) HOX.out ?_ ?_ (block_range HBX.out) ?_); exact rfl; exact rfl)
        | ((with_reducible refine wpList_loadM (g := p7) (off := 0) HOS.out ?_ ?_ (block_range HBS.out) ?_); exact rfl; exact rfl))
      refine (SM.same _ _ (some MS.1) _ (some S) (HG.out _ HK.out) HX.out HS.out HML.out (show S.len ≤ 1000 from by have := HSL.out; omega)).mono ?_; rintro e vb1 ⟨rfl, hk⟩
      rw [show oSame (some MS.1) (some S) = true from by rw [HBE.out]; simp [oSame]]
      try clear xc HCP
      replace HK := Lib.hid (HK.out.trans hk (FSub.refl _ _))
      try replace HA := Lib.hid (hk.heap HA.out (by simp))
      try replace HC := Lib.hid (hk.heap HC.out (by simp))
      try replace HS := Lib.hid (R.new_ HS.out hk)
      try replace HT := Lib.hid (R.new_ HT.out hk)
      try replace HU := Lib.hid (R.new_ HU.out hk)
      try replace HX := Lib.hid (R.new_ HX.out hk)
      try replace HY := Lib.hid (R.new_ HY.out hk)
      try replace HZ := Lib.hid (R.new_ HZ.out hk)
      try replace HBS := Lib.hid (hk.heap HBS.out (by simp))
      try replace HBT := Lib.hid (hk.heap HBT.out (by simp))
      try replace HBU := Lib.hid (hk.heap HBU.out (by simp))
      try replace HBX := Lib.hid (hk.heap HBX.out (by simp))
      try replace HBY := Lib.hid (hk.heap HBY.out (by simp))
      try replace HBZ := Lib.hid (hk.heap HBZ.out (by simp))
      try replace HRX := Lib.hid (hk.heap HRX.out (by simp))
      try replace HRY := Lib.hid (hk.heap HRY.out (by simp))
      try replace HRZ := Lib.hid (hk.heap HRZ.out (by simp))
      clear hk
      go_wp2_with ((with_reducible refine wpList_loadN13 (g := gX) (y := MS.2.1) ?_ ?_ HRX.out ?_); exact rfl; exact rfl)
      refine (awake13_any R _ (HG.out _ HK.out)).mono ?_; rintro e vz ⟨rfl, hk⟩
      replace HK := Lib.hid (HK.out.trans hk (FSub.refl _ _))
      clear hk
      go_wp2_with fail
      go_ret
      exact ⟨rfl, HK.out⟩
theorem ModelOne_none (R : MdProg G) (w : World) (hG : G w) {m : Int} (h3 : 3 < m) (h4 : m < 256) {v : Value} {l : List Cl} (hI : rkC13.In w.heap.size w v l) (y : Cl) (d : Int) (rr : Ans) :
    Calls Tryz.prog 6 #[.int .u8 m, v, .agg (otC y d rr).toArray] w fun e w' => e = .returned (.bool true) ∧ Keeps [] w w' := by
  obtain ⟨a, cp, rfl, hc, hm, -⟩ := id hI
  have HG := Lib.hid (fun w' (h : Keeps [] w w') => R.keepG hG h)
  have HI := Lib.hid hI
  clear hI hG
  generalize l.length = n at *
  obtain ⟨k, hk⟩ : ∃ k, k = min n 150 := ⟨_, rfl⟩
  have q1 : min (n : Int) 150 = (k : Int) := by omega
  have q2 : (k : Int) ≤ cp := by omega
  have hk1 : k ≤ n ∧ k ≤ 150 := by omega
  have HIK := Lib.hid (InC13_take HI.out hk1.1)
  have HB1 := Lib.hid (fun w' (h : Keeps [] w w') => behind13_none R w' (HG.out _ h) h3 h4 ((HIK.out.new h (Nat.le_refl _)).more h.size))
  have HK := Lib.hid (show Keeps [] w (w.alloc (.cells (otC y d rr).toArray 62)) from (Keeps.refl _ _).alloc _)
  clear hk1 hk HI
  go_enter Tryz.func6, Tryz.ntmps6
  go_wp2_with fail
  refine (HB1.out _ HK.out).mono ?_; rintro e w1 ⟨st, rfl, hat, hk⟩
  replace HK := Lib.hid (HK.out.trans hk (FSub.refl _ _))
  try replace HA := Lib.hid (hk.heap HA.out (by simp))
  try replace HC := Lib.hid (hk.heap HC.out (by simp))
  try replace HS := Lib.hid (R.new_ HS.out hk)
  try replace HT := Lib.hid (R.new_ HT.out hk)
  try replace HU := Lib.hid (R.new_ HU.out hk)
  try replace HX := Lib.hid (R.new_ HX.out hk)
  try replace HY := Lib.hid (R.new_ HY.out hk)
  try replace HZ := Lib.hid (R.new_ HZ.out hk)
  try replace HBS := Lib.hid (hk.heap HBS.out (by simp))
  try replace HBT := Lib.hid (hk.heap HBT.out (by simp))
  try replace HBU := Lib.hid (hk.heap HBU.out (by simp))
  try replace HBX := Lib.hid (hk.heap HBX.out (by simp))
  try replace HBY := Lib.hid (hk.heap HBY.out (by simp))
  try replace HBZ := Lib.hid (hk.heap HBZ.out (by simp))
  try replace HRX := Lib.hid (hk.heap HRX.out (by simp))
  try replace HRY := Lib.hid (hk.heap HRY.out (by simp))
  try replace HRZ := Lib.hid (hk.heap HRZ.out (by simp))
  obtain ⟨AS, rfl, hok⟩ := R.cells hat
  have HOS := Lib.hid hok
  have HS := Lib.hid hat
  clear hat hok hk
  have HNC := Lib.hid (show (w1.alloc (.cells mdZA 29)).heap[w1.heap.size]? = some (.cells mdZ.toArray 29 (0, 0)) from heap_alloc_new w1 _)
  have HNK := Lib.hid (show Keeps [] w1 (w1.alloc (.cells mdZA 29)) from (Keeps.refl _ _).alloc _)
  go_wp2_with ((with_reducible refine wpList_putM (g := w1.heap.size) (old := mdZ) (A := AS) HOS.out mdZ_ok ?_ ?_ HNC.out ?_); exact rfl; exact rfl)
  intro w2 hW hk2
  have hk := HNK.out.trans' hk2 (Nat.le_refl _)
  replace HK := Lib.hid (HK.out.trans hk (FSub.refl _ _))
  try replace HA := Lib.hid (hk.heap HA.out (by simp))
  try replace HC := Lib.hid (hk.heap HC.out (by simp))
  try replace HS := Lib.hid (R.new_ HS.out hk)
  try replace HT := Lib.hid (R.new_ HT.out hk)
  try replace HU := Lib.hid (R.new_ HU.out hk)
  try replace HX := Lib.hid (R.new_ HX.out hk)
  try replace HY := Lib.hid (R.new_ HY.out hk)
  try replace HZ := Lib.hid (R.new_ HZ.out hk)
  try replace HBS := Lib.hid (hk.heap HBS.out (by simp))
  try replace HBT := Lib.hid (hk.heap HBT.out (by simp))
  try replace HBU := Lib.hid (hk.heap HBU.out (by simp))
  try replace HBX := Lib.hid (hk.heap HBX.out (by simp))
  try replace HBY := Lib.hid (hk.heap HBY.out (by simp))
  try replace HBZ := Lib.hid (hk.heap HBZ.out (by simp))
  try replace HRX := Lib.hid (hk.heap HRX.out (by simp))
  try replace HRY := Lib.hid (hk.heap HRY.out (by simp))
  try replace HRZ := Lib.hid (hk.heap HRZ.out (by simp))
  have HBS := Lib.hid hW
  clear hk hW hk2 HNC HNK
  generalize w1.heap.size = p7 at *
  go_wp2_with fail
  refine (awake13_any R _ (HG.out _ HK.out)).mono ?_; rintro e vz ⟨rfl, hk⟩
  replace HK := Lib.hid (HK.out.trans hk (FSub.refl _ _))
  clear hk
  go_wp2_with fail
  go_ret
  exact ⟨rfl, HK.out⟩
end Go.Proofs.YtdachaekcjbfmaaGreatDoor
