/-
  The law's behind of no model, and its awake, over any program's objects.
-/
import Derived.Test.YtdachaekcjbfmaaGreatDoorMC28
set_option linter.unusedSimpArgs false
set_option linter.unusedVariables false
namespace Go.Proofs.YtdachaekcjbfmaaGreatDoor
open Go.RowKit
section
variable {ops : Array Oper} {rest : List Oper} {a : Act} {w : World} {Q : Exit → Act → World → Prop}
set_option maxRecDepth 100000 in
theorem wpList_litC13 {dst : Option Tmp} {ty : TypeId} {pos : String} {after : Array Edge} {n : Nat} {xs : Array (Nat × Operand)} (L : List Cl) (hn : n = L.length)
    (hx : (xs.toList.map fun p => (p.1, a.eval p.2)) = ((L.map fun y => Value.agg (clC y).toArray).zipIdx 0).map fun x => (x.2, x.1)) (hs : L.length ≤ 1000) (hp : 0 < L.length)
    (h : ∀ W, W.heap.size = w.heap.size + 1 → Keeps [] w W → rkC13.In W.heap.size W (.slice (some ⟨w.heap.size, 0, none⟩) n n) L → wpList Tryz.prog ops Q rest (a.put dst (.slice (some ⟨w.heap.size, 0, none⟩) n n)) W) :
    wpList Tryz.prog ops Q ({ dst := dst, op := .buildSlice 22 n xs, type := ty, pos := pos, after := after, guard := none } :: rest) a w := by
  subst hn
  refine wpList_plain rfl fun _ hK => rkC13.wp_buildL xs L rfl (by rw [Array.toList_map]; exact hx) (by show L.length * 6 ≤ 10000; omega) hp (hK _ _ (h _ (Array.size_push _) ((Keeps.refl [] w).alloc _) ?_))
  exact rkC13.lit_in (heap_alloc_new w _) (by rw [show (w.alloc _).heap.size = w.heap.size + 1 from Array.size_push _]; omega) (by omega)
end
variable {G : World → Prop}
set_option maxHeartbeats 8000000
set_option maxRecDepth 100000
theorem behind13_none (R : MdProg G) (w : World) (hG : G w) {m : Int} (h3 : 3 < m) (h4 : m < 256) {v : Value} {l : List Cl} (hI : rkC13.In w.heap.size w v l) :
    Calls Tryz.prog 20 #[.int .u8 m, v] w fun e w' => ∃ st, e = .returned (.tuple #[st, .bool false]) ∧ R.At w' st none ∧ Keeps [] w w' := by
  obtain ⟨a, cp, rfl, hc, hm, -⟩ := id hI
  have HZ := Lib.hid (show (w.alloc (.cells mdZA 29)).heap[w.heap.size]? = some (.cells mdZ.toArray 29 (0, 0)) from heap_alloc_new w _)
  have HKZ := Lib.hid (show Keeps [] w (w.alloc (.cells mdZA 29)) from (Keeps.refl _ _).alloc _)
  have HN := Lib.hid (R.new _ m (R.keepG hG HKZ.out) ⟨by omega, h4⟩)
  rw [if_neg (by omega), show oNew m = none from if_neg (by omega)] at HN
  clear hI hG
  go_enter Tryz.func20, Tryz.ntmps20
  go_wp2_with fail
  refine HN.out.mono ?_; rintro e w1 ⟨st0, rfl, hat, hk1, hf0⟩
  obtain ⟨A0, rfl, hok0⟩ := R.cells hat
  have hz1 : (w.alloc (.cells mdZA 29)).heap.size = w.heap.size + 1 := Array.size_push _
  have HZ1 := Lib.hid (hk1.heap HZ.out (by simp))
  have HK1 := Lib.hid (HKZ.out.trans hk1 (FSub.refl _ _))
  have HOK0 := Lib.hid hok0
  have HC := Lib.hid (show (w1.alloc (.cells mdZA 29)).heap[w1.heap.size]? = some (.cells mdZ.toArray 29 (0, 0)) from heap_alloc_new w1 _)
  have HKC := Lib.hid (show Keeps [] w1 (w1.alloc (.cells mdZA 29)) from (Keeps.refl _ _).alloc _)
  have HA1 := Lib.hid (R.new_ hat HKC.out)
  have HF1 := Lib.hid (show ∀ q ∈ R.foot (.agg A0.toArray), w.heap.size < q ∧ q < w1.heap.size from fun q hq => ⟨by have := hf0 q hq; omega, R.old hat q hq⟩)
  have HSZ := Lib.hid (show w.heap.size < w1.heap.size from by have := hk1.size; omega)
  clear hat hk1 hf0 hok0 hz1 HN HZ HKZ
  go_wp2_with ((with_reducible refine wpList_putM (g := w1.heap.size) (old := mdZ) (A := A0) HOK0.out mdZ_ok ?_ ?_ HC.out ?_); exact rfl; exact rfl)
  intro w2 hW2 hk2
  have HB2 := Lib.hid hW2
  have HA2 := Lib.hid (R.put HA1.out hk2 (fun q hq => Nat.ne_of_lt (HF1.out q hq).2))
  have HK2 := Lib.hid (HK1.out.trans (HKC.out.trans' hk2 (Nat.le_refl _)) (FSub.refl _ _))
  have HZ2 := Lib.hid ((HKC.out.trans' hk2 (Nat.le_refl _)).heap HZ1.out (by simp))
  clear hW2 hk2 HC HKC HA1 HK1 HZ1 HSZ
  generalize w1.heap.size = g6 at *
  go_wp2_with fail
  go_loopw [8] (fun i wr => i = .int .i64 0 ∧ wr = w2) (fun i _ => 0)
  case atStart => exact ⟨rfl, rfl⟩
  case round =>
    obtain ⟨rfl, rfl⟩ := hrel
    by_cases hl : 0 < l.length
    · have z : (0 : Int) < l.length := by omega
      go_wp2_with (first
        | ((with_reducible refine wpList_loadM (g := g6) (off := 0) HOK0.out ?_ ?_ (block_range HB2.out) ?_); exact rfl; exact rfl)
        | ((with_reducible refine wpList_putM (g := w.heap.size) (old := mdZ) (A := A0) HOK0.out mdZ_ok ?_ ?_ HZ2.out ?_); exact rfl; exact rfl))
      intro YD hV hk
      have HVD := Lib.hid hV
      have HAD := Lib.hid (R.put HA2.out hk (fun q hq => by have := (HF1.out q hq).1; omega))
      have HKD := Lib.hid (HK2.out.trans hk (fun q hq => .inr (by simp at hq; omega)))
      clear hV hk
      go_wp2_with fail
      try simp only [Exit.inBlock, Exit.then]
      exact bodyPost_ret (results_sk1 skM rfl _ _ w.heap.size HOK0.out rfl HVD.out) rfl ⟨_, rfl, HAD.out, HKD.out⟩
    · have z : ¬ (0 : Int) < l.length := by omega
      go_wp2_with (first
        | ((with_reducible refine wpList_loadM (g := g6) (off := 0) HOK0.out ?_ ?_ (block_range HB2.out) ?_); exact rfl; exact rfl)
        | ((with_reducible refine wpList_putM (g := w.heap.size) (old := mdZ) (A := A0) HOK0.out mdZ_ok ?_ ?_ HZ2.out ?_); exact rfl; exact rfl))
      intro YD hV hk
      have HVD := Lib.hid hV
      have HAD := Lib.hid (R.put HA2.out hk (fun q hq => by have := (HF1.out q hq).1; omega))
      have HKD := Lib.hid (HK2.out.trans hk (fun q hq => .inr (by simp at hq; omega)))
      clear hV hk
      go_wp2_with fail
      try simp only [Exit.inBlock, Exit.then]
      exact bodyPost_ret (results_sk1 skM rfl _ _ w.heap.size HOK0.out rfl HVD.out) rfl ⟨_, rfl, HAD.out, HKD.out⟩
def mwA : List Cl := [⟨0, ⟨7, 0, 3, 5, 0⟩⟩]
def mwB : List Cl := [⟨3, ⟨10, 0, 0, 0, 0⟩⟩]
theorem mwA_in : ∀ y ∈ mwA, y.In := by
  intro y hy
  simp only [mwA, List.mem_cons, List.not_mem_nil, or_false] at hy
  subst hy
  exact ⟨by decide, by decide, ⟨by decide, by decide, by decide, by decide, by decide, by decide, by decide, by decide, by decide, by decide⟩⟩
theorem mwB_in : ∀ y ∈ mwB, y.In := by
  intro y hy
  simp only [mwB, List.mem_cons, List.not_mem_nil, or_false] at hy
  subst hy
  exact cl_in (by decide) (by decide) (by decide) (by decide)
theorem dec_lit {n : Nat} (h : n < 10) : dec (n : Int) = [UInt8.ofNat (48 + n)] := by
  show Lib.decDigits n = _
  rw [dec_small h, Nat.mod_eq_of_lt h]
theorem mwA_X : bhS (mdInit 2) mwA = .mp (kv0.set 3 (some 5)) := rfl
theorem mwB_X : bhS (mdInit 3) mwB = .lk 4 := rfl
theorem mwA_T : bs (mdT (.mp (kv0.set 3 (some 5)))) = { data := #[123, 51, 58, 53, 125] } := by
  have e1 : dec 3 = [51] := dec_lit (n := 3) (by decide)
  have e2 : dec 5 = [53] := dec_lit (n := 5) (by decide)
  have e3 : itOf 0 (kv0.set 3 (some 5)) = [⟨3, 5⟩] := rfl
  show bs (123 :: (spT ((itOf 0 (kv0.set 3 (some 5))).map itT) ++ [125])) = _
  rw [e3]
  show bs (123 :: ((dec 3 ++ 58 :: dec 5) ++ [125])) = _
  rw [e1, e2]
  rfl
theorem mwB_T : bs (mdT (.lk 4)) = { data := #[104, 101, 108, 100, 32, 98, 121, 32, 51] } := by
  have e1 : dec 3 = [51] := dec_lit (n := 3) (by decide)
  show bs (heldT ++ dec 3) = _
  rw [e1]
  rfl
theorem mwA_B : bs (mdB (.mp (kv0.set 3 (some 5)))) = { data := #[8, 0, 5] } := rfl
theorem mwA_I : oInit (some (.mp (kv0.set 3 (some 5)))) = false := rfl
theorem awake13_any (R : MdProg G) (w : World) (hG : G w) : Calls Tryz.prog 11 #[] w fun e w' => e = .returned (.bool true) ∧ Keeps [] w w' := by
  have HG := Lib.hid (fun w' (h : Keeps [] w w') => R.keepG hG h)
  clear hG
  go_enter Tryz.func11, Tryz.ntmps11
  go_wp2_with ((with_reducible refine wpList_litC13 mwA ?_ ?_ ?_ ?_ ?_); exact rfl; exact rfl; exact (by decide); exact (by decide))
  intro w1 hz hk hi
  have HK1 := Lib.hid hk; have HI := Lib.hid hi; clear hz hk hi
  generalize w.heap.size = ga at *
  go_wp2_with fail
  refine (behind13_any R w1 (HG.out _ HK1.out) (m := 2) (by decide) (by decide) mwA_in HI.out (by decide)).mono ?_
  rw [mwA_X]
  rintro e w2 ⟨st, rfl, hat, hk, hf⟩
  obtain ⟨A, rfl, hok⟩ := R.cells hat
  have HK2 := Lib.hid (HK1.out.trans hk (FSub.refl _ _))
  have HOA := Lib.hid hok
  have HC := Lib.hid (show (w2.alloc (.cells mdZA 29)).heap[w2.heap.size]? = some (.cells mdZ.toArray 29 (0, 0)) from heap_alloc_new w2 _)
  have HKC := Lib.hid (show Keeps [] w2 (w2.alloc (.cells mdZA 29)) from (Keeps.refl _ _).alloc _)
  have HAT := Lib.hid (R.new_ hat HKC.out)
  have HFT := Lib.hid (fun q hq => R.old hat q hq)
  clear hat hk hf hok HK1 HI
  go_wp2_with ((with_reducible refine wpList_putM (g := w2.heap.size) (old := mdZ) (A := A) HOA.out mdZ_ok ?_ ?_ HC.out ?_); exact rfl; exact rfl)
  intro w3 hW hk
  have HBA := Lib.hid hW
  have HA3 := Lib.hid (R.put HAT.out hk (fun q hq => Nat.ne_of_lt (HFT.out q hq)))
  have HK3 := Lib.hid (HK2.out.trans (HKC.out.trans' hk (Nat.le_refl _)) (FSub.refl _ _))
  clear hW hk HC HKC HAT HK2 HFT
  generalize w2.heap.size = g1 at *
  go_wp2_with ((with_reducible refine wpList_litC13 mwB ?_ ?_ ?_ ?_ ?_); exact rfl; exact rfl; exact (by decide); exact (by decide))
  intro w4 hz hk hi
  have HI := Lib.hid hi
  have HA4 := Lib.hid (R.new_ HA3.out hk); have HB4 := Lib.hid (hk.heap HBA.out (by simp)); have HK4 := Lib.hid (HK3.out.trans hk (FSub.refl _ _))
  clear hz hk hi HA3 HBA HK3
  generalize w3.heap.size = gb at *
  go_wp2_with fail
  refine (behind13_any R w4 (HG.out _ HK4.out) (m := 3) (by decide) (by decide) mwB_in HI.out (by decide)).mono ?_
  rw [mwB_X]
  rintro e w5 ⟨st, rfl, hat, hk, hf⟩
  obtain ⟨B, rfl, hok⟩ := R.cells hat
  have HK5 := Lib.hid (HK4.out.trans hk (FSub.refl _ _))
  have HOB := Lib.hid hok
  have HA5 := Lib.hid (R.new_ HA4.out hk); have HB5 := Lib.hid (hk.heap HB4.out (by simp))
  have HC := Lib.hid (show (w5.alloc (.cells mdZA 29)).heap[w5.heap.size]? = some (.cells mdZ.toArray 29 (0, 0)) from heap_alloc_new w5 _)
  have HKC := Lib.hid (show Keeps [] w5 (w5.alloc (.cells mdZA 29)) from (Keeps.refl _ _).alloc _)
  have HAT := Lib.hid (R.new_ hat HKC.out)
  have HFT := Lib.hid (fun q hq => R.old hat q hq)
  have HFA := Lib.hid (fun q hq => R.old HA5.out q hq)
  have HL5 := Lib.hid (lt_of_block HB5.out)
  clear hat hk hf hok HA4 HB4 HK4 HI
  go_wp2_with ((with_reducible refine wpList_putM (g := w5.heap.size) (old := mdZ) (A := B) HOB.out mdZ_ok ?_ ?_ HC.out ?_); exact rfl; exact rfl)
  intro w6 hW hk
  have HBB := Lib.hid hW
  have HB6 := Lib.hid (R.put HAT.out hk (fun q hq => Nat.ne_of_lt (HFT.out q hq)))
  have HA6 := Lib.hid (R.put (R.new_ HA5.out HKC.out) hk (fun q hq => Nat.ne_of_lt (HFA.out q hq)))
  have HBA := Lib.hid (hk.heap (HKC.out.heap HB5.out (by simp)) (by have := HL5.out; simp; omega))
  have HK6 := Lib.hid (HK5.out.trans (HKC.out.trans' hk (Nat.le_refl _)) (FSub.refl _ _))
  clear hW hk HC HKC HAT HK5 HFT HA5 HB5 HFA HL5
  generalize w5.heap.size = g3 at *
  go_wp2_with (first
    | ((with_reducible refine wpList_loadM (g := g1) (off := 0) HOA.out ?_ ?_ (block_range HBA.out) ?_); exact rfl; exact rfl))
  have hT := R.text w6 _ _ (HG.out _ HK6.out) HA6.out (show Md.len (.mp (kv0.set 3 (some 5))) ≤ 1000 from by decide)
  simp only [oT, mwA_T] at hT
  refine hT.mono ?_; rintro e w7 ⟨rfl, hk⟩
  clear hT
  have HK7 := Lib.hid (HK6.out.trans hk (FSub.refl _ _)); have HA7 := Lib.hid (R.new_ HA6.out hk); have HB7 := Lib.hid (R.new_ HB6.out hk)
  have HP7 := Lib.hid (hk.heap HBA.out (by simp)); have HQ7 := Lib.hid (hk.heap HBB.out (by simp))
  clear hk HK6 HA6 HB6 HBA HBB
  go_wp2_with ((with_reducible refine wpList_loadM (g := g1) (off := 0) HOA.out ?_ ?_ (block_range HP7.out) ?_); exact rfl; exact rfl)
  have hT := R.enc w7 _ _ (HG.out _ HK7.out) HA7.out (show Md.len (.mp (kv0.set 3 (some 5))) ≤ 1000 from by decide)
  simp only [oB, mwA_B] at hT
  refine hT.mono ?_; rintro e w8 ⟨rfl, hk⟩
  clear hT
  have HK8 := Lib.hid (HK7.out.trans hk (FSub.refl _ _)); have HA8 := Lib.hid (R.new_ HA7.out hk); have HB8 := Lib.hid (R.new_ HB7.out hk)
  have HP8 := Lib.hid (hk.heap HP7.out (by simp)); have HQ8 := Lib.hid (hk.heap HQ7.out (by simp))
  clear hk HK7 HA7 HB7 HP7 HQ7
  go_wp2_with ((with_reducible refine wpList_loadM (g := g1) (off := 0) HOA.out ?_ ?_ (block_range HP8.out) ?_); exact rfl; exact rfl)
  have hT := R.initial w8 _ _ (HG.out _ HK8.out) HA8.out (show Md.len (.mp (kv0.set 3 (some 5))) ≤ 1000 from by decide)
  rw [mwA_I] at hT
  refine hT.mono ?_; rintro e w9 ⟨rfl, hk⟩
  clear hT
  have HK9 := Lib.hid (HK8.out.trans hk (FSub.refl _ _)); have HB9 := Lib.hid (R.new_ HB8.out hk)
  have HQ9 := Lib.hid (hk.heap HQ8.out (by simp))
  clear hk HK8 HA8 HB8 HP8 HQ8
  go_wp2_with ((with_reducible refine wpList_loadM (g := g3) (off := 0) HOB.out ?_ ?_ (block_range HQ9.out) ?_); exact rfl; exact rfl)
  have hT := R.text w9 _ _ (HG.out _ HK9.out) HB9.out (show Md.len (.lk 4) ≤ 1000 from by decide)
  simp only [oT, mwB_T] at hT
  refine hT.mono ?_; rintro e wa ⟨rfl, hk⟩
  clear hT
  have HKA := Lib.hid (HK9.out.trans hk (FSub.refl _ _))
  clear hk
  go_wp2_with fail
  go_ret
  exact ⟨rfl, HKA.out⟩
end Go.Proofs.YtdachaekcjbfmaaGreatDoor
/-
  The law ModelSteps, over any program's objects.
-/
namespace Go.Proofs.YtdachaekcjbfmaaGreatDoor
open Go.RowKit
set_option maxRecDepth 100000
section
variable {o : Oper} {a : Act} {w : World} {K : Act → World → Prop} {Q : Exit → Act → World → Prop}
end
section
variable {ops : Array Oper} {rest : List Oper} {a : Act} {w : World} {Q : Exit → Act → World → Prop}
theorem wpList_loadN13 {dst : Option Tmp} {ty : TypeId} {pos : String} {after : Array Edge} {gd : Option (Nat × Bool)} {x : Operand} {g : Nat} {y : Ans}
    (hw : Region.wanted { dst := dst, op := .load 25 x, type := ty, pos := pos, after := after, guard := gd } (yielded ops a.tmps) = true)
    (hx : a.eval x = .pointer (some ⟨g, 0, none⟩)) (hr : w.heap[g]? = some (.cells (ansC y).toArray 25 (0, 0))) (h : wpList Tryz.prog ops Q rest (a.put dst (.agg #[.int .u8 y.k, .int .u16 y.v])) w) :
    wpList Tryz.prog ops Q ({ dst := dst, op := .load 25 x, type := ty, pos := pos, after := after, guard := gd } :: rest) a w := skR.wpList_load (ansC_ok y) hw hx (block_range hr) h
end
variable {G : World → Prop}
set_option maxHeartbeats 8000000
end Go.Proofs.YtdachaekcjbfmaaGreatDoor
/-
  The law ModelCode, over any program's objects.
-/
namespace Go.Proofs.YtdachaekcjbfmaaGreatDoor
open Go.RowKit
set_option maxRecDepth 100000
/-- What was written is read back. -/
theorem mdD_back {S : Md} (h : S.In) : mdD S.model (mdB S) = (some S, 0) := by
  cases S with
  | rg s =>
    show (if (rgB s).length = 2 then (some (Md.rg (rgN (rgB s))), 0) else (none, 4)) = _
    rw [if_pos (rgB_len s), rgN_rgB h]
  | qu l =>
    show (if (quB l).length % 2 = 1 then (none, 4) else (some (Md.qu (quN (quB l))), 0)) = _
    rw [quB_len, if_neg (by omega), quN_quB h]
  | mp m =>
    show (if (kvD (nb (kvBy m))).2 = 0 then (some (Md.mp (kvD (nb (kvBy m))).1), 0) else (none, 4)) = _
    rw [kvBy_nb h, kvD_enc h]
    rfl
  | lk s =>
    have h1 : 0 ≤ s ∧ s ≤ 16 := h
    show (if (lkD (lkB s)).2 = 0 then (some (Md.lk (lkD (lkB s)).1), 0) else (none, 4)) = _
    rw [lkD_lkB h1.1 (by omega), if_pos h1.2]
    rfl
theorem mdB_len {S : Md} (h : S.In) (hl : S.len ≤ 400) : (mdB S).length ≤ 1000 := by
  cases S with
  | rg s => show (rgB s).length ≤ _; rw [rgB_len]; omega
  | qu l => show (quB l).length ≤ _; rw [quB_len]; have : l.length ≤ 400 := hl; omega
  | mp m =>
    show ((kvBn m).map _).length ≤ _
    rw [List.length_map]
    have h1 := kvR_len m
    have h2 : m.length = 8 := h.1
    show (kvR m).length + 1 ≤ _
    omega
  | lk s => show 1 ≤ _; omega
variable {G : World → Prop}
set_option maxHeartbeats 8000000
theorem ModelCode_any (R : MdProg G) (SM : MdSame R) (DC : MdDec R) (w : World) (hG : G w) {m : Int} (h0 : 0 ≤ m) (h3 : m ≤ 3) {v v2 : Value} {l l2 : List Cl} (hl : ∀ y ∈ l, y.In) (hl2 : ∀ y ∈ l2, y.In) (hI : rkC13.In w.heap.size w v l) (hI2 : rkC13.In w.heap.size w v2 l2) (hn : l.length ≤ 150) (hn2 : l2.length ≤ 150) (y : Cl) (hy : y.In) :
    Calls Tryz.prog 7 #[.int .u8 m, .agg #[v, v2], .agg (clC y).toArray] w fun e w' => e = .returned (.bool true) ∧ Keeps [] w w' := by
  obtain ⟨a, cp, rfl, hc, hm, -⟩ := id hI
  obtain ⟨a2, cp2, rfl, hc2, hm2, -⟩ := id hI2
  have HG := Lib.hid (fun w' (h : Keeps [] w w') => R.keepG hG h)
  have HI := Lib.hid hI; have HI2 := Lib.hid hI2; have HYI := Lib.hid hy; have HL := Lib.hid hl; have HL2 := Lib.hid hl2
  obtain ⟨S, hS⟩ : ∃ S, S = bhS (mdInit m) l := ⟨_, rfl⟩
  obtain ⟨T, hT⟩ : ∃ T, T = bhS (mdInit m) l2 := ⟨_, rfl⟩
  have HSL := Lib.hid (show S.len ≤ 150 from by have h1 := bhS_len (mdInit m) l; rw [mdInit_len, ← hS] at h1; omega)
  have HTL := Lib.hid (show T.len ≤ 150 from by have h1 := bhS_len (mdInit m) l2; rw [mdInit_len, ← hT] at h1; omega)
  have HSM := Lib.hid (show S.model = m from by rw [hS, bhS_model, mdInit_model h0 h3])
  have HTM := Lib.hid (show T.model = m from by rw [hT, bhS_model, mdInit_model h0 h3])
  have HB1 := Lib.hid (fun w' (h : Keeps [] w w') => behind13_any R w' (HG.out _ h) h0 h3 HL.out ((HI.out.new h (Nat.le_refl _)).more h.size) (by omega))
  have HB2 := Lib.hid (fun w' (h : Keeps [] w w') => behind13_any R w' (HG.out _ h) h0 h3 HL2.out ((HI2.out.new h (Nat.le_refl _)).more h.size) (by omega))
  simp only [← hS] at HB1
  simp only [← hT] at HB2
  clear hS hT hI hI2 hy hl hl2 hG
  generalize l.length = n at *
  generalize l2.length = n2 at *
  have c1 : ¬ (150 : Int) < n := by omega
  have c2 : ¬ (150 : Int) < n2 := by omega
  obtain ⟨-, hA, hC, hk⟩ := two_vars w #[.slice a n cp, .slice a2 n2 cp2] (clC y).toArray 66 46
  have HA := Lib.hid hA; have HC := Lib.hid hC; have HK := Lib.hid hk
  have x1 := (cell_lit hA 0 rfl : World.cell? _ _ = some (Value.slice a n cp))
  have x2 := (cell_lit hA 1 rfl : World.cell? _ _ = some (Value.slice a2 n2 cp2))
  clear hA hC hk
  go_enter Tryz.func7, Tryz.ntmps7
  go_wp2_with fail
  refine (HB1.out _ HK.out).mono ?_; rintro e w1 ⟨st, rfl, hat, hk, -⟩
  clear x1 x2
  replace HK := Lib.hid (HK.out.trans hk (FSub.refl _ _))
  try replace HA := Lib.hid (hk.heap HA.out (by simp))
  try replace HC := Lib.hid (hk.heap HC.out (by simp))
  try replace HS := Lib.hid (R.new_ HS.out hk)
  try replace HT := Lib.hid (R.new_ HT.out hk)
  try replace HU := Lib.hid (R.new_ HU.out hk)
  try replace HX := Lib.hid (R.new_ HX.out hk)
  try replace HY := Lib.hid (R.new_ HY.out hk)
  try replace HZ := Lib.hid (R.new_ HZ.out hk)
  try replace HBS := Lib.hid (hk.heap HBS.out (by simp))
  try replace HBT := Lib.hid (hk.heap HBT.out (by simp))
  try replace HBU := Lib.hid (hk.heap HBU.out (by simp))
  try replace HBX := Lib.hid (hk.heap HBX.out (by simp))
  try replace HBY := Lib.hid (hk.heap HBY.out (by simp))
  try replace HBZ := Lib.hid (hk.heap HBZ.out (by simp))
  try replace HRX := Lib.hid (hk.heap HRX.out (by simp))
  try replace HRY := Lib.hid (hk.heap HRY.out (by simp))
  try replace HRZ := Lib.hid (hk.heap HRZ.out (by simp))
  obtain ⟨AS, rfl, hok⟩ := R.cells hat
  have HOS := Lib.hid hok
  have HS := Lib.hid hat
  clear hat hok hk
  have HNC := Lib.hid (show (w1.alloc (.cells mdZA 29)).heap[w1.heap.size]? = some (.cells mdZ.toArray 29 (0, 0)) from heap_alloc_new w1 _)
  have HNK := Lib.hid (show Keeps [] w1 (w1.alloc (.cells mdZA 29)) from (Keeps.refl _ _).alloc _)
  go_wp2_with ((with_reducible refine wpList_putM (g := w1.heap.size) (old := mdZ) (A := AS) HOS.out mdZ_ok ?_ ?_ HNC.out ?_); exact rfl; exact rfl)
  intro w2 hW hk2
  have hk := HNK.out.trans' hk2 (Nat.le_refl _)
  replace HK := Lib.hid (HK.out.trans hk (FSub.refl _ _))
  try replace HA := Lib.hid (hk.heap HA.out (by simp))
  try replace HC := Lib.hid (hk.heap HC.out (by simp))
  try replace HS := Lib.hid (R.new_ HS.out hk)
  try replace HT := Lib.hid (R.new_ HT.out hk)
  try replace HU := Lib.hid (R.new_ HU.out hk)
  try replace HX := Lib.hid (R.new_ HX.out hk)
  try replace HY := Lib.hid (R.new_ HY.out hk)
  try replace HZ := Lib.hid (R.new_ HZ.out hk)
  try replace HBS := Lib.hid (hk.heap HBS.out (by simp))
  try replace HBT := Lib.hid (hk.heap HBT.out (by simp))
  try replace HBU := Lib.hid (hk.heap HBU.out (by simp))
  try replace HBX := Lib.hid (hk.heap HBX.out (by simp))
  try replace HBY := Lib.hid (hk.heap HBY.out (by simp))
  try replace HBZ := Lib.hid (hk.heap HBZ.out (by simp))
  try replace HRX := Lib.hid (hk.heap HRX.out (by simp))
  try replace HRY := Lib.hid (hk.heap HRY.out (by simp))
  try replace HRZ := Lib.hid (hk.heap HRZ.out (by simp))
  have HBS := Lib.hid hW
  clear hk hW hk2 HNC HNK
  generalize w1.heap.size = p7 at *
  have x2 := (cell_lit HA.out 1 rfl : World.cell? _ _ = some (Value.slice a2 n2 cp2))
  go_wp2_with fail
  refine (HB2.out _ HK.out).mono ?_; rintro e w3 ⟨st, rfl, hat, hk, -⟩
  clear x2
  replace HK := Lib.hid (HK.out.trans hk (FSub.refl _ _))
  try replace HA := Lib.hid (hk.heap HA.out (by simp))
  try replace HC := Lib.hid (hk.heap HC.out (by simp))
  try replace HS := Lib.hid (R.new_ HS.out hk)
  try replace HT := Lib.hid (R.new_ HT.out hk)
  try replace HU := Lib.hid (R.new_ HU.out hk)
  try replace HX := Lib.hid (R.new_ HX.out hk)
  try replace HY := Lib.hid (R.new_ HY.out hk)
  try replace HZ := Lib.hid (R.new_ HZ.out hk)
  try replace HBS := Lib.hid (hk.heap HBS.out (by simp))
  try replace HBT := Lib.hid (hk.heap HBT.out (by simp))
  try replace HBU := Lib.hid (hk.heap HBU.out (by simp))
  try replace HBX := Lib.hid (hk.heap HBX.out (by simp))
  try replace HBY := Lib.hid (hk.heap HBY.out (by simp))
  try replace HBZ := Lib.hid (hk.heap HBZ.out (by simp))
  try replace HRX := Lib.hid (hk.heap HRX.out (by simp))
  try replace HRY := Lib.hid (hk.heap HRY.out (by simp))
  try replace HRZ := Lib.hid (hk.heap HRZ.out (by simp))
  obtain ⟨AT, rfl, hok⟩ := R.cells hat
  have HOT := Lib.hid hok
  have HT := Lib.hid hat
  clear hat hok hk
  have HNC := Lib.hid (show (w3.alloc (.cells mdZA 29)).heap[w3.heap.size]? = some (.cells mdZ.toArray 29 (0, 0)) from heap_alloc_new w3 _)
  have HNK := Lib.hid (show Keeps [] w3 (w3.alloc (.cells mdZA 29)) from (Keeps.refl _ _).alloc _)
  go_wp2_with ((with_reducible refine wpList_putM (g := w3.heap.size) (old := mdZ) (A := AT) HOT.out mdZ_ok ?_ ?_ HNC.out ?_); exact rfl; exact rfl)
  intro w4 hW hk2
  have hk := HNK.out.trans' hk2 (Nat.le_refl _)
  replace HK := Lib.hid (HK.out.trans hk (FSub.refl _ _))
  try replace HA := Lib.hid (hk.heap HA.out (by simp))
  try replace HC := Lib.hid (hk.heap HC.out (by simp))
  try replace HS := Lib.hid (R.new_ HS.out hk)
  try replace HT := Lib.hid (R.new_ HT.out hk)
  try replace HU := Lib.hid (R.new_ HU.out hk)
  try replace HX := Lib.hid (R.new_ HX.out hk)
  try replace HY := Lib.hid (R.new_ HY.out hk)
  try replace HZ := Lib.hid (R.new_ HZ.out hk)
  try replace HBS := Lib.hid (hk.heap HBS.out (by simp))
  try replace HBT := Lib.hid (hk.heap HBT.out (by simp))
  try replace HBU := Lib.hid (hk.heap HBU.out (by simp))
  try replace HBX := Lib.hid (hk.heap HBX.out (by simp))
  try replace HBY := Lib.hid (hk.heap HBY.out (by simp))
  try replace HBZ := Lib.hid (hk.heap HBZ.out (by simp))
  try replace HRX := Lib.hid (hk.heap HRX.out (by simp))
  try replace HRY := Lib.hid (hk.heap HRY.out (by simp))
  try replace HRZ := Lib.hid (hk.heap HRZ.out (by simp))
  have HBT := Lib.hid hW
  clear hk hW hk2 HNC HNK
  generalize w3.heap.size = p9 at *
  go_wp2_with ((with_reducible refine wpList_loadM (g := p7) (off := 0) HOS.out ?_ ?_ (block_range HBS.out) ?_); exact rfl; exact rfl)
  refine (R.enc _ _ (some S) (HG.out _ HK.out) HS.out (show S.len ≤ 1000 from by have := HSL.out; omega)).mono ?_; rintro e w5 ⟨rfl, hk⟩
  replace HK := Lib.hid (HK.out.trans hk (FSub.refl _ _))
  try replace HA := Lib.hid (hk.heap HA.out (by simp))
  try replace HC := Lib.hid (hk.heap HC.out (by simp))
  try replace HS := Lib.hid (R.new_ HS.out hk)
  try replace HT := Lib.hid (R.new_ HT.out hk)
  try replace HU := Lib.hid (R.new_ HU.out hk)
  try replace HX := Lib.hid (R.new_ HX.out hk)
  try replace HY := Lib.hid (R.new_ HY.out hk)
  try replace HZ := Lib.hid (R.new_ HZ.out hk)
  try replace HBS := Lib.hid (hk.heap HBS.out (by simp))
  try replace HBT := Lib.hid (hk.heap HBT.out (by simp))
  try replace HBU := Lib.hid (hk.heap HBU.out (by simp))
  try replace HBX := Lib.hid (hk.heap HBX.out (by simp))
  try replace HBY := Lib.hid (hk.heap HBY.out (by simp))
  try replace HBZ := Lib.hid (hk.heap HBZ.out (by simp))
  try replace HRX := Lib.hid (hk.heap HRX.out (by simp))
  try replace HRY := Lib.hid (hk.heap HRY.out (by simp))
  try replace HRZ := Lib.hid (hk.heap HRZ.out (by simp))
  clear hk
  go_wp2_with fail
  refine (DC.dec _ m (oB (some S)) (HG.out _ HK.out) ⟨h0, by omega⟩ (mdB_len (R.in_ HS.out) (by have := HSL.out; omega))).mono ?_; rintro e w6 ⟨st, rfl, hat, hk, -⟩
  have hb : mdD m (oB (some S)) = (some S, 0) := by have h := mdD_back (R.in_ HS.out); rw [HSM.out] at h; exact h
  rw [hb] at hat ⊢
  clear hb
  replace HK := Lib.hid (HK.out.trans hk (FSub.refl _ _))
  try replace HA := Lib.hid (hk.heap HA.out (by simp))
  try replace HC := Lib.hid (hk.heap HC.out (by simp))
  try replace HS := Lib.hid (R.new_ HS.out hk)
  try replace HT := Lib.hid (R.new_ HT.out hk)
  try replace HU := Lib.hid (R.new_ HU.out hk)
  try replace HX := Lib.hid (R.new_ HX.out hk)
  try replace HY := Lib.hid (R.new_ HY.out hk)
  try replace HZ := Lib.hid (R.new_ HZ.out hk)
  try replace HBS := Lib.hid (hk.heap HBS.out (by simp))
  try replace HBT := Lib.hid (hk.heap HBT.out (by simp))
  try replace HBU := Lib.hid (hk.heap HBU.out (by simp))
  try replace HBX := Lib.hid (hk.heap HBX.out (by simp))
  try replace HBY := Lib.hid (hk.heap HBY.out (by simp))
  try replace HBZ := Lib.hid (hk.heap HBZ.out (by simp))
  try replace HRX := Lib.hid (hk.heap HRX.out (by simp))
  try replace HRY := Lib.hid (hk.heap HRY.out (by simp))
  try replace HRZ := Lib.hid (hk.heap HRZ.out (by simp))
  obtain ⟨AU, rfl, hok⟩ := R.cells hat
  have HOU := Lib.hid hok
  have HU := Lib.hid hat
  clear hat hok hk
  have HNC := Lib.hid (show (w6.alloc (.cells mdZA 29)).heap[w6.heap.size]? = some (.cells mdZ.toArray 29 (0, 0)) from heap_alloc_new w6 _)
  have HNK := Lib.hid (show Keeps [] w6 (w6.alloc (.cells mdZA 29)) from (Keeps.refl _ _).alloc _)
  go_wp2_with ((with_reducible refine wpList_putM (g := w6.heap.size) (old := mdZ) (A := AU) HOU.out mdZ_ok ?_ ?_ HNC.out ?_); exact rfl; exact rfl)
  intro w7 hW hk2
  have hk := HNK.out.trans' hk2 (Nat.le_refl _)
  replace HK := Lib.hid (HK.out.trans hk (FSub.refl _ _))
  try replace HA := Lib.hid (hk.heap HA.out (by simp))
  try replace HC := Lib.hid (hk.heap HC.out (by simp))
  try replace HS := Lib.hid (R.new_ HS.out hk)
  try replace HT := Lib.hid (R.new_ HT.out hk)
  try replace HU := Lib.hid (R.new_ HU.out hk)
  try replace HX := Lib.hid (R.new_ HX.out hk)
  try replace HY := Lib.hid (R.new_ HY.out hk)
  try replace HZ := Lib.hid (R.new_ HZ.out hk)
  try replace HBS := Lib.hid (hk.heap HBS.out (by simp))
  try replace HBT := Lib.hid (hk.heap HBT.out (by simp))
  try replace HBU := Lib.hid (hk.heap HBU.out (by simp))
  try replace HBX := Lib.hid (hk.heap HBX.out (by simp))
  try replace HBY := Lib.hid (hk.heap HBY.out (by simp))
  try replace HBZ := Lib.hid (hk.heap HBZ.out (by simp))
  try replace HRX := Lib.hid (hk.heap HRX.out (by simp))
  try replace HRY := Lib.hid (hk.heap HRY.out (by simp))
  try replace HRZ := Lib.hid (hk.heap HRZ.out (by simp))
  have HBU := Lib.hid hW
  clear hk hW hk2 HNC HNK
  generalize w6.heap.size = p11 at *
  go_wp2_with fail
  have tt : ((bs (mdT S)).toList == (bs (mdT S)).toList) = true := by simp
  have HPS := Lib.hid (fun w' (h : Keeps [] w7 w') => SM.same w' _ (some S) _ (some S) (HG.out _ (HK.out.trans h (FSub.refl _ _))) (R.new_ HU.out h) (R.new_ HS.out h) (show S.len ≤ 1000 from by have := HSL.out; omega) (show S.len ≤ 1000 from by have := HSL.out; omega))
  rw [show oSame (some S) (some S) = true from by simp [oSame]] at HPS
  have HPU := Lib.hid (fun w' (h : Keeps [] w7 w') => R.text w' _ (some S) (HG.out _ (HK.out.trans h (FSub.refl _ _))) (R.new_ HU.out h) (show S.len ≤ 1000 from by have := HSL.out; omega))
  have HPT := Lib.hid (fun w' (h : Keeps [] w7 w') => R.text w' _ (some S) (HG.out _ (HK.out.trans h (FSub.refl _ _))) (R.new_ HS.out h) (show S.len ≤ 1000 from by have := HSL.out; omega))
  simp only [oT] at HPU HPT
  obtain ⟨S0, hS0⟩ : ∃ S0 : World → Prop, S0 = fun y => Keeps [] w7 y := ⟨_, rfl⟩
  have HSE := Lib.hid hS0
  have hSD : S0 w7.drew := by rw [hS0]; exact (Keeps.refl _ _).drew
  have HLS := Lib.hid (fun (w' : World) (hh : S0 w') => show w'.rangeAt p7 0 AS from by rw [hS0] at hh; exact fun j v hv => hh.cell (block_range HBS.out j v hv) (by simp))
  have HLT := Lib.hid (fun (w' : World) (hh : S0 w') => show w'.rangeAt p9 0 AT from by rw [hS0] at hh; exact fun j v hv => hh.cell (block_range HBT.out j v hv) (by simp))
  have HLU := Lib.hid (fun (w' : World) (hh : S0 w') => show w'.rangeAt p11 0 AU from by rw [hS0] at hh; exact fun j v hv => hh.cell (block_range HBU.out j v hv) (by simp))
  clear hS0
  have HW := Lib.hid ((Keeps.refl [] w7).drew)
  refine wp_region_noPanic ?_
  refine wp_region_held_drew (S := S0) (by kernel_rfl) hSD (fun hHeld => ?_)
  apply wpAnyH_take (i := 0)
  · simp only [List.getElem?_toArray]; rfl
  · kernel_rfl
  · kernel_rfl
  · kernel_rfl
  · exact fun _ _ _ h => h
  · exact Or.inl ⟨by rfl, by intro w hSw; go_simp; try with_reducible rfl⟩
  · assumption
  try simp only [Act.put, List.setIfInBounds_toArray, List.set_cons_zero, List.set_cons_succ]
  apply wpAnyH_take (i := 1)
  · simp only [List.getElem?_toArray]; rfl
  · kernel_rfl
  · kernel_rfl
  · kernel_rfl
  · exact fun _ _ _ h => h
  · exact Or.inl ⟨by rfl, by intro w hSw; go_simp; try with_reducible rfl⟩
  · assumption
  try simp only [Act.put, List.setIfInBounds_toArray, List.set_cons_zero, List.set_cons_succ]
  apply wpAnyH_take (i := 2)
  · simp only [List.getElem?_toArray]; rfl
  · kernel_rfl
  · kernel_rfl
  · kernel_rfl
  · exact fun _ _ _ h => h
  · exact Or.inl ⟨by rfl, by intro w hSw; go_simp; try with_reducible rfl⟩
  · assumption
  try simp only [Act.put, List.setIfInBounds_toArray, List.set_cons_zero, List.set_cons_succ]
  apply wpAnyH_take (i := 3)
  · simp only [List.getElem?_toArray]; rfl
  · kernel_rfl
  · kernel_rfl
  · kernel_rfl
  · exact fun _ _ _ h => h
  · exact skM.yields HOU.out rfl _ rfl p11 0 rfl HLU.out
  · assumption
  try simp only [Act.put, List.setIfInBounds_toArray, List.set_cons_zero, List.set_cons_succ]
  apply wpAnyH_take (i := 4)
  · simp only [List.getElem?_toArray]; rfl
  · kernel_rfl
  · kernel_rfl
  · kernel_rfl
  · exact fun _ _ _ h => h
  · exact skM.yields HOS.out rfl _ rfl p7 0 rfl HLS.out
  · assumption
  try simp only [Act.put, List.setIfInBounds_toArray, List.set_cons_zero, List.set_cons_succ]
  apply wpAnyH_ready (rs := [5])
  · kernel_rfl
  · simp
  apply AllReadyH.cons (hs := AllReadyH.nil)
  · simp only [List.getElem?_toArray]; rfl
  intro K hK
  rw [if_pos (by rfl)]
  refine wp_call9 23 _ _ rfl [.agg AU.toArray, .agg AS.toArray] rfl Tryz.func23 (by kernel_rfl) (by kernel_rfl) ((HPS.out _ HW.out).mono ?_)
  rintro e YC ⟨rfl, hky⟩
  refine ⟨_, rfl, ?_⟩
  replace HW := Lib.hid (HW.out.trans hky (FSub.refl _ _))
  clear hky
  refine hK.out _ _ ?_ (fun hHeld => ?_)
  · exact (by rw [HSE.out]; exact HW.out)
  clear hK K
  try simp only [Act.put, List.setIfInBounds_toArray, List.set_cons_zero, List.set_cons_succ]
  apply wpAnyH_take (i := 6)
  · simp only [List.getElem?_toArray]; rfl
  · kernel_rfl
  · kernel_rfl
  · kernel_rfl
  · exact fun _ _ _ h => h
  · exact Or.inl ⟨by rfl, by intro w hSw; go_simp; try with_reducible rfl⟩
  · assumption
  try simp only [Act.put, List.setIfInBounds_toArray, List.set_cons_zero, List.set_cons_succ]
  apply wpAnyH_take (i := 7)
  · simp only [List.getElem?_toArray]; rfl
  · kernel_rfl
  · kernel_rfl
  · kernel_rfl
  · exact fun _ _ _ h => h
  · exact Or.inl ⟨by rfl, by intro w hSw; go_simp; try with_reducible rfl⟩
  · assumption
  try simp only [Act.put, List.setIfInBounds_toArray, List.set_cons_zero, List.set_cons_succ]
  apply wpAnyH_take (i := 8)
  · simp only [List.getElem?_toArray]; rfl
  · kernel_rfl
  · kernel_rfl
  · kernel_rfl
  · exact fun _ _ _ h => h
  · exact Or.inl ⟨by rfl, by intro w hSw; go_simp; try with_reducible rfl⟩
  · assumption
  try simp only [Act.put, List.setIfInBounds_toArray, List.set_cons_zero, List.set_cons_succ]
  apply wpAnyH_take (i := 9)
  · simp only [List.getElem?_toArray]; rfl
  · kernel_rfl
  · kernel_rfl
  · kernel_rfl
  · exact fun _ _ _ h => h
  · exact skM.yields HOU.out rfl _ rfl p11 0 rfl HLU.out
  · assumption
  try simp only [Act.put, List.setIfInBounds_toArray, List.set_cons_zero, List.set_cons_succ]
  apply wpAnyH_take (i := 11)
  · simp only [List.getElem?_toArray]; rfl
  · kernel_rfl
  · kernel_rfl
  · kernel_rfl
  · exact fun _ _ _ h => h
  · exact skM.yields HOS.out rfl _ rfl p7 0 rfl HLS.out
  · assumption
  try simp only [Act.put, List.setIfInBounds_toArray, List.set_cons_zero, List.set_cons_succ]
  apply wpAnyH_ready (rs := [10])
  · kernel_rfl
  · simp
  apply AllReadyH.cons (hs := AllReadyH.nil)
  · simp only [List.getElem?_toArray]; rfl
  intro K hK
  rw [if_pos (by rfl)]
  refine wp_call9 21 _ _ rfl [.agg AU.toArray] rfl Tryz.func21 (by kernel_rfl) (by kernel_rfl) ((HPU.out _ HW.out).mono ?_)
  rintro e YC ⟨rfl, hky⟩
  refine ⟨_, rfl, ?_⟩
  replace HW := Lib.hid (HW.out.trans hky (FSub.refl _ _))
  clear hky
  refine hK.out _ _ ?_ (fun hHeld => ?_)
  · exact (by rw [HSE.out]; exact HW.out)
  clear hK K
  try simp only [Act.put, List.setIfInBounds_toArray, List.set_cons_zero, List.set_cons_succ]
  apply wpAnyH_ready (rs := [12])
  · kernel_rfl
  · simp
  apply AllReadyH.cons (hs := AllReadyH.nil)
  · simp only [List.getElem?_toArray]; rfl
  intro K hK
  rw [if_pos (by rfl)]
  refine wp_call9 21 _ _ rfl [.agg AS.toArray] rfl Tryz.func21 (by kernel_rfl) (by kernel_rfl) ((HPT.out _ HW.out).mono ?_)
  rintro e YC ⟨rfl, hky⟩
  refine ⟨_, rfl, ?_⟩
  replace HW := Lib.hid (HW.out.trans hky (FSub.refl _ _))
  clear hky
  refine hK.out _ _ ?_ (fun hHeld => ?_)
  · exact (by rw [HSE.out]; exact HW.out)
  clear hK K
  try simp only [Act.put, List.setIfInBounds_toArray, List.set_cons_zero, List.set_cons_succ]
  apply wpAnyH_take (i := 13)
  · simp only [List.getElem?_toArray]; rfl
  · kernel_rfl
  · kernel_rfl
  · kernel_rfl
  · exact fun _ _ _ h => h
  · exact Or.inl ⟨by rfl, by intro w hSw; go_simp; try with_reducible rfl⟩
  · assumption
  try simp only [Act.put, List.setIfInBounds_toArray, List.set_cons_zero, List.set_cons_succ]
  apply wpAnyH_take (i := 14)
  · simp only [List.getElem?_toArray]; rfl
  · kernel_rfl
  · kernel_rfl
  · kernel_rfl
  · exact fun _ _ _ h => h
  · exact Or.inl ⟨by rfl, by intro w hSw; go_simp; try with_reducible rfl⟩
  · assumption
  try simp only [Act.put, List.setIfInBounds_toArray, List.set_cons_zero, List.set_cons_succ]
  refine wpAnyH_done (by kernel_rfl) ?_ _
  refine NoPanic.normal ?_
  have hk := HW.out
  replace HK := Lib.hid (HK.out.trans hk (FSub.refl _ _))
  try replace HA := Lib.hid (hk.heap HA.out (by simp))
  try replace HC := Lib.hid (hk.heap HC.out (by simp))
  try replace HS := Lib.hid (R.new_ HS.out hk)
  try replace HT := Lib.hid (R.new_ HT.out hk)
  try replace HU := Lib.hid (R.new_ HU.out hk)
  try replace HX := Lib.hid (R.new_ HX.out hk)
  try replace HY := Lib.hid (R.new_ HY.out hk)
  try replace HZ := Lib.hid (R.new_ HZ.out hk)
  try replace HBS := Lib.hid (hk.heap HBS.out (by simp))
  try replace HBT := Lib.hid (hk.heap HBT.out (by simp))
  try replace HBU := Lib.hid (hk.heap HBU.out (by simp))
  try replace HBX := Lib.hid (hk.heap HBX.out (by simp))
  try replace HBY := Lib.hid (hk.heap HBY.out (by simp))
  try replace HBZ := Lib.hid (hk.heap HBZ.out (by simp))
  try replace HRX := Lib.hid (hk.heap HRX.out (by simp))
  try replace HRY := Lib.hid (hk.heap HRY.out (by simp))
  try replace HRZ := Lib.hid (hk.heap HRZ.out (by simp))
  clear hk HW HSE HLS HLT HLU HPS HPU HPT tt
  obtain ⟨D, hD⟩ : ∃ D, D = oSame (some S) (some T) := ⟨_, rfl⟩
  have HD := Lib.hid hD
  clear hD
  go_wp2_with (first
    | ((with_reducible refine wpList_loadM (g := p7) (off := 0) HOS.out ?_ ?_ (block_range HBS.out) ?_); exact rfl; exact rfl)
    | ((with_reducible refine wpList_loadM (g := p9) (off := 0) HOT.out ?_ ?_ (block_range HBT.out) ?_); exact rfl; exact rfl))
  refine (SM.same _ _ (some S) _ (some T) (HG.out _ HK.out) HS.out HT.out (show S.len ≤ 1000 from by have := HSL.out; omega) (show T.len ≤ 1000 from by have := HTL.out; omega)).mono ?_; rintro e w9 ⟨rfl, hk⟩
  rw [← HD.out]
  replace HK := Lib.hid (HK.out.trans hk (FSub.refl _ _))
  try replace HA := Lib.hid (hk.heap HA.out (by simp))
  try replace HC := Lib.hid (hk.heap HC.out (by simp))
  try replace HS := Lib.hid (R.new_ HS.out hk)
  try replace HT := Lib.hid (R.new_ HT.out hk)
  try replace HU := Lib.hid (R.new_ HU.out hk)
  try replace HX := Lib.hid (R.new_ HX.out hk)
  try replace HY := Lib.hid (R.new_ HY.out hk)
  try replace HZ := Lib.hid (R.new_ HZ.out hk)
  try replace HBS := Lib.hid (hk.heap HBS.out (by simp))
  try replace HBT := Lib.hid (hk.heap HBT.out (by simp))
  try replace HBU := Lib.hid (hk.heap HBU.out (by simp))
  try replace HBX := Lib.hid (hk.heap HBX.out (by simp))
  try replace HBY := Lib.hid (hk.heap HBY.out (by simp))
  try replace HBZ := Lib.hid (hk.heap HBZ.out (by simp))
  try replace HRX := Lib.hid (hk.heap HRX.out (by simp))
  try replace HRY := Lib.hid (hk.heap HRY.out (by simp))
  try replace HRZ := Lib.hid (hk.heap HRZ.out (by simp))
  clear hk
  have hBT : D = true ↔ S = T := by
    rw [HD.out]
    simp only [oSame, decide_eq_true_eq]
    rw [HSM.out, HTM.out]
    refine ⟨fun h => (mdB_inj (R.in_ HS.out) (R.in_ HT.out) (by rw [HSM.out, HTM.out])).1 h.2, fun h => ⟨rfl, by rw [h]⟩⟩
  have eB : ((bs (mdB S)).toList == (bs (mdB T)).toList) = D := by
    rw [Bool.eq_iff_iff, hBT, beq_iff_eq]
    refine ⟨fun h => (mdB_inj (R.in_ HS.out) (R.in_ HT.out) (by rw [HSM.out, HTM.out])).1 (by simpa [bs] using h), fun h => by rw [h]⟩
  have eT : ((bs (mdT S)).toList == (bs (mdT T)).toList) = D := by
    rw [Bool.eq_iff_iff, hBT, beq_iff_eq]
    refine ⟨fun h => (mdT_inj (R.in_ HS.out) (R.in_ HT.out) (by rw [HSM.out, HTM.out])).1 (by simpa [bs] using h), fun h => by rw [h]⟩
  have HBT2 := Lib.hid hBT
  have eD : (D == D) = true := by simp
  clear hBT
  have HPS := Lib.hid (fun w' (h : Keeps [] w9 w') => R.enc w' _ (some S) (HG.out _ (HK.out.trans h (FSub.refl _ _))) (R.new_ HS.out h) (show S.len ≤ 1000 from by have := HSL.out; omega))
  have HPT := Lib.hid (fun w' (h : Keeps [] w9 w') => R.enc w' _ (some T) (HG.out _ (HK.out.trans h (FSub.refl _ _))) (R.new_ HT.out h) (show T.len ≤ 1000 from by have := HTL.out; omega))
  have HQS := Lib.hid (fun w' (h : Keeps [] w9 w') => R.text w' _ (some S) (HG.out _ (HK.out.trans h (FSub.refl _ _))) (R.new_ HS.out h) (show S.len ≤ 1000 from by have := HSL.out; omega))
  have HQT := Lib.hid (fun w' (h : Keeps [] w9 w') => R.text w' _ (some T) (HG.out _ (HK.out.trans h (FSub.refl _ _))) (R.new_ HT.out h) (show T.len ≤ 1000 from by have := HTL.out; omega))
  simp only [oT, oB] at HPS HPT HQS HQT
  go_wp2_with fail
  obtain ⟨S0, hS0⟩ : ∃ S0 : World → Prop, S0 = fun y => Keeps [] w9 y := ⟨_, rfl⟩
  have HSE := Lib.hid hS0
  have hSD : S0 w9.drew := by rw [hS0]; exact (Keeps.refl _ _).drew
  have HLS := Lib.hid (fun (w' : World) (hh : S0 w') => show w'.rangeAt p7 0 AS from by rw [hS0] at hh; exact fun j v hv => hh.cell (block_range HBS.out j v hv) (by simp))
  have HLT := Lib.hid (fun (w' : World) (hh : S0 w') => show w'.rangeAt p9 0 AT from by rw [hS0] at hh; exact fun j v hv => hh.cell (block_range HBT.out j v hv) (by simp))
  have HLU := Lib.hid (fun (w' : World) (hh : S0 w') => show w'.rangeAt p11 0 AU from by rw [hS0] at hh; exact fun j v hv => hh.cell (block_range HBU.out j v hv) (by simp))
  clear hS0
  have HW := Lib.hid ((Keeps.refl [] w9).drew)
  refine wp_region_noPanic ?_
  refine wp_region_held_drew (S := S0) (by kernel_rfl) hSD (fun hHeld => ?_)
  apply wpAnyH_take (i := 0)
  · simp only [List.getElem?_toArray]; rfl
  · kernel_rfl
  · kernel_rfl
  · kernel_rfl
  · exact fun _ _ _ h => h
  · exact Or.inl ⟨by rfl, by intro w hSw; go_simp; try with_reducible rfl⟩
  · assumption
  try simp only [Act.put, List.setIfInBounds_toArray, List.set_cons_zero, List.set_cons_succ]
  apply wpAnyH_take (i := 1)
  · simp only [List.getElem?_toArray]; rfl
  · kernel_rfl
  · kernel_rfl
  · kernel_rfl
  · exact fun _ _ _ h => h
  · exact skM.yields HOS.out rfl _ rfl p7 0 rfl HLS.out
  · assumption
  try simp only [Act.put, List.setIfInBounds_toArray, List.set_cons_zero, List.set_cons_succ]
  apply wpAnyH_take (i := 3)
  · simp only [List.getElem?_toArray]; rfl
  · kernel_rfl
  · kernel_rfl
  · kernel_rfl
  · exact fun _ _ _ h => h
  · exact skM.yields HOT.out rfl _ rfl p9 0 rfl HLT.out
  · assumption
  try simp only [Act.put, List.setIfInBounds_toArray, List.set_cons_zero, List.set_cons_succ]
  apply wpAnyH_ready (rs := [2])
  · kernel_rfl
  · simp
  apply AllReadyH.cons (hs := AllReadyH.nil)
  · simp only [List.getElem?_toArray]; rfl
  intro K hK
  rw [if_pos (by rfl)]
  refine wp_call9 25 _ _ rfl [.agg AS.toArray] rfl Tryz.func25 (by kernel_rfl) (by kernel_rfl) ((HPS.out _ HW.out).mono ?_)
  rintro e YC ⟨rfl, hky⟩
  refine ⟨_, rfl, ?_⟩
  replace HW := Lib.hid (HW.out.trans hky (FSub.refl _ _))
  clear hky
  refine hK.out _ _ ?_ (fun hHeld => ?_)
  · exact (by rw [HSE.out]; exact HW.out)
  clear hK K
  try simp only [Act.put, List.setIfInBounds_toArray, List.set_cons_zero, List.set_cons_succ]
  apply wpAnyH_ready (rs := [4])
  · kernel_rfl
  · simp
  apply AllReadyH.cons (hs := AllReadyH.nil)
  · simp only [List.getElem?_toArray]; rfl
  intro K hK
  rw [if_pos (by rfl)]
  refine wp_call9 25 _ _ rfl [.agg AT.toArray] rfl Tryz.func25 (by kernel_rfl) (by kernel_rfl) ((HPT.out _ HW.out).mono ?_)
  rintro e YC ⟨rfl, hky⟩
  refine ⟨_, rfl, ?_⟩
  replace HW := Lib.hid (HW.out.trans hky (FSub.refl _ _))
  clear hky
  refine hK.out _ _ ?_ (fun hHeld => ?_)
  · exact (by rw [HSE.out]; exact HW.out)
  clear hK K
  try simp only [Act.put, List.setIfInBounds_toArray, List.set_cons_zero, List.set_cons_succ]
  apply wpAnyH_take (i := 5)
  · simp only [List.getElem?_toArray]; rfl
  · kernel_rfl
  · kernel_rfl
  · kernel_rfl
  · exact fun _ _ _ h => h
  · exact Or.inl ⟨by rfl, by intro w hSw; go_simp; try with_reducible rfl⟩
  · assumption
  try simp only [Act.put, List.setIfInBounds_toArray, List.set_cons_zero, List.set_cons_succ]
  apply wpAnyH_take (i := 6)
  · simp only [List.getElem?_toArray]; rfl
  · kernel_rfl
  · kernel_rfl
  · kernel_rfl
  · exact fun _ _ _ h => h
  · exact Or.inl ⟨by rfl, by intro w hSw; go_simp; try with_reducible rfl⟩
  · assumption
  try simp only [Act.put, List.setIfInBounds_toArray, List.set_cons_zero, List.set_cons_succ]
  apply wpAnyH_take (i := 7)
  · simp only [List.getElem?_toArray]; rfl
  · kernel_rfl
  · kernel_rfl
  · kernel_rfl
  · exact fun _ _ _ h => h
  · exact Or.inl ⟨by rfl, by intro w hSw; go_simp; try with_reducible rfl⟩
  · assumption
  try simp only [Act.put, List.setIfInBounds_toArray, List.set_cons_zero, List.set_cons_succ]
  apply wpAnyH_take (i := 8)
  · simp only [List.getElem?_toArray]; rfl
  · kernel_rfl
  · kernel_rfl
  · kernel_rfl
  · exact fun _ _ _ h => h
  · exact Or.inl ⟨by rfl, by intro w hSw; go_simp; try with_reducible rfl⟩
  · assumption
  try simp only [Act.put, List.setIfInBounds_toArray, List.set_cons_zero, List.set_cons_succ]
  apply wpAnyH_take (i := 9)
  · simp only [List.getElem?_toArray]; rfl
  · kernel_rfl
  · kernel_rfl
  · kernel_rfl
  · exact fun _ _ _ h => h
  · exact skM.yields HOS.out rfl _ rfl p7 0 rfl HLS.out
  · assumption
  try simp only [Act.put, List.setIfInBounds_toArray, List.set_cons_zero, List.set_cons_succ]
  apply wpAnyH_take (i := 11)
  · simp only [List.getElem?_toArray]; rfl
  · kernel_rfl
  · kernel_rfl
  · kernel_rfl
  · exact fun _ _ _ h => h
  · exact skM.yields HOT.out rfl _ rfl p9 0 rfl HLT.out
  · assumption
  try simp only [Act.put, List.setIfInBounds_toArray, List.set_cons_zero, List.set_cons_succ]
  apply wpAnyH_ready (rs := [10])
  · kernel_rfl
  · simp
  apply AllReadyH.cons (hs := AllReadyH.nil)
  · simp only [List.getElem?_toArray]; rfl
  intro K hK
  rw [if_pos (by rfl)]
  refine wp_call9 21 _ _ rfl [.agg AS.toArray] rfl Tryz.func21 (by kernel_rfl) (by kernel_rfl) ((HQS.out _ HW.out).mono ?_)
  rintro e YC ⟨rfl, hky⟩
  refine ⟨_, rfl, ?_⟩
  replace HW := Lib.hid (HW.out.trans hky (FSub.refl _ _))
  clear hky
  refine hK.out _ _ ?_ (fun hHeld => ?_)
  · exact (by rw [HSE.out]; exact HW.out)
  clear hK K
  try simp only [Act.put, List.setIfInBounds_toArray, List.set_cons_zero, List.set_cons_succ]
  apply wpAnyH_ready (rs := [12])
  · kernel_rfl
  · simp
  apply AllReadyH.cons (hs := AllReadyH.nil)
  · simp only [List.getElem?_toArray]; rfl
  intro K hK
  rw [if_pos (by rfl)]
  refine wp_call9 21 _ _ rfl [.agg AT.toArray] rfl Tryz.func21 (by kernel_rfl) (by kernel_rfl) ((HQT.out _ HW.out).mono ?_)
  rintro e YC ⟨rfl, hky⟩
  refine ⟨_, rfl, ?_⟩
  replace HW := Lib.hid (HW.out.trans hky (FSub.refl _ _))
  clear hky
  refine hK.out _ _ ?_ (fun hHeld => ?_)
  · exact (by rw [HSE.out]; exact HW.out)
  clear hK K
  try simp only [Act.put, List.setIfInBounds_toArray, List.set_cons_zero, List.set_cons_succ]
  apply wpAnyH_take (i := 13)
  · simp only [List.getElem?_toArray]; rfl
  · kernel_rfl
  · kernel_rfl
  · kernel_rfl
  · exact fun _ _ _ h => h
  · exact Or.inl ⟨by rfl, by intro w hSw; go_simp; try with_reducible rfl⟩
  · assumption
  try simp only [Act.put, List.setIfInBounds_toArray, List.set_cons_zero, List.set_cons_succ]
  apply wpAnyH_take (i := 14)
  · simp only [List.getElem?_toArray]; rfl
  · kernel_rfl
  · kernel_rfl
  · kernel_rfl
  · exact fun _ _ _ h => h
  · exact Or.inl ⟨by rfl, by intro w hSw; go_simp; try with_reducible rfl⟩
  · assumption
  try simp only [Act.put, List.setIfInBounds_toArray, List.set_cons_zero, List.set_cons_succ]
  apply wpAnyH_take (i := 15)
  · simp only [List.getElem?_toArray]; rfl
  · kernel_rfl
  · kernel_rfl
  · kernel_rfl
  · exact fun _ _ _ h => h
  · exact Or.inl ⟨by rfl, by intro w hSw; go_simp; try with_reducible rfl⟩
  · assumption
  try simp only [Act.put, List.setIfInBounds_toArray, List.set_cons_zero, List.set_cons_succ]
  refine wpAnyH_done (by kernel_rfl) ?_ _
  refine NoPanic.normal ?_
  have hk := HW.out
  replace HK := Lib.hid (HK.out.trans hk (FSub.refl _ _))
  try replace HA := Lib.hid (hk.heap HA.out (by simp))
  try replace HC := Lib.hid (hk.heap HC.out (by simp))
  try replace HS := Lib.hid (R.new_ HS.out hk)
  try replace HT := Lib.hid (R.new_ HT.out hk)
  try replace HU := Lib.hid (R.new_ HU.out hk)
  try replace HX := Lib.hid (R.new_ HX.out hk)
  try replace HY := Lib.hid (R.new_ HY.out hk)
  try replace HZ := Lib.hid (R.new_ HZ.out hk)
  try replace HBS := Lib.hid (hk.heap HBS.out (by simp))
  try replace HBT := Lib.hid (hk.heap HBT.out (by simp))
  try replace HBU := Lib.hid (hk.heap HBU.out (by simp))
  try replace HBX := Lib.hid (hk.heap HBX.out (by simp))
  try replace HBY := Lib.hid (hk.heap HBY.out (by simp))
  try replace HBZ := Lib.hid (hk.heap HBZ.out (by simp))
  try replace HRX := Lib.hid (hk.heap HRX.out (by simp))
  try replace HRY := Lib.hid (hk.heap HRY.out (by simp))
  try replace HRZ := Lib.hid (hk.heap HRZ.out (by simp))
  clear hk HW HSE HLS HLT HLU HPS HPT HQS HQT eB eT eD
  by_cases hq : S = T
  · obtain rfl : D = true := HBT2.out.2 hq
    subst hq
    obtain ⟨MS, hMS⟩ : ∃ X, X = mdX S y.c y.x := ⟨_, rfl⟩
    have HMS := Lib.hid hMS
    clear hMS
    have HCP := Lib.hid (cl_parts (y := y) (g := w.heap.size + 1) (off := 0) (block_range HC.out))
    have xc := HCP.out.1
    go_wp2_with (first
      | ((with_reducible refine wpList_loadM (g := p7) (off := 0) HOS.out ?_ ?_ (block_range HBS.out) ?_); exact rfl; exact rfl)
      | ((with_reducible refine wpList_loadP (g := w.heap.size + 1) (off := 1) y.x ?_ ?_ HCP.out.2 ?_); exact rfl; exact rfl))
    refine (R.step _ _ (some S) y.c y.x (HG.out _ HK.out) HS.out (show Md.len S ≤ 1000 from by first | (have := HSL.out; omega) | (have := HTL.out; omega)) ⟨HYI.out.c0, HYI.out.c1⟩ HYI.out.x).mono ?_; rintro e va ⟨st, rfl, hat, hk, -⟩
    rw [show oX (some S) y.c y.x = (some MS.1, MS.2.1, MS.2.2) from by rw [HMS.out]; rfl] at hat ⊢
    replace HK := Lib.hid (HK.out.trans hk (FSub.refl _ _))
    try replace HA := Lib.hid (hk.heap HA.out (by simp))
    try replace HC := Lib.hid (hk.heap HC.out (by simp))
    try replace HS := Lib.hid (R.new_ HS.out hk)
    try replace HT := Lib.hid (R.new_ HT.out hk)
    try replace HU := Lib.hid (R.new_ HU.out hk)
    try replace HX := Lib.hid (R.new_ HX.out hk)
    try replace HY := Lib.hid (R.new_ HY.out hk)
    try replace HZ := Lib.hid (R.new_ HZ.out hk)
    try replace HBS := Lib.hid (hk.heap HBS.out (by simp))
    try replace HBT := Lib.hid (hk.heap HBT.out (by simp))
    try replace HBU := Lib.hid (hk.heap HBU.out (by simp))
    try replace HBX := Lib.hid (hk.heap HBX.out (by simp))
    try replace HBY := Lib.hid (hk.heap HBY.out (by simp))
    try replace HBZ := Lib.hid (hk.heap HBZ.out (by simp))
    try replace HRX := Lib.hid (hk.heap HRX.out (by simp))
    try replace HRY := Lib.hid (hk.heap HRY.out (by simp))
    try replace HRZ := Lib.hid (hk.heap HRZ.out (by simp))
    obtain ⟨AX, rfl, hok⟩ := R.cells hat
    have HOX := Lib.hid hok
    have HX := Lib.hid hat
    clear hat hok hk xc HCP
    obtain ⟨-, hA', hC', hk'⟩ := two_vars va mdZA #[.int .u8 0, .int .u16 0] 29 25
    have HNA := Lib.hid (hA'.trans (show some (Obj.cells _ _ _) = some (Obj.cells mdZ.toArray 29 (0, 0)) from rfl))
    have HNC := Lib.hid (hC'.trans (show some (Obj.cells _ _ _) = some (Obj.cells (ansC ⟨0, 0⟩).toArray 25 (0, 0)) from rfl))
    have HNK := Lib.hid hk'
    clear hA' hC' hk'
    go_wp2_with ((with_reducible refine wpList_putM (g := va.heap.size) (old := mdZ) (A := AX) HOX.out mdZ_ok ?_ ?_ HNA.out ?_); exact rfl; exact rfl)
    intro vb hW hk2
    have HNC2 := Lib.hid (hk2.heap HNC.out (by simp))
    have HNB := Lib.hid hW
    have HNK2 := Lib.hid (HNK.out.trans' hk2 (Nat.le_refl _))
    clear hW hk2 HNA HNC HNK
    go_wp2_with ((with_reducible refine wpList_putR12 (g := va.heap.size + 1) (old := ⟨0, 0⟩) MS.2.1 ?_ ?_ HNC2.out ?_); exact rfl; exact rfl)
    intro vc hW hk2
    have hk := HNK2.out.trans' hk2 (Nat.le_succ _)
    replace HK := Lib.hid (HK.out.trans hk (FSub.refl _ _))
    try replace HA := Lib.hid (hk.heap HA.out (by simp))
    try replace HC := Lib.hid (hk.heap HC.out (by simp))
    try replace HS := Lib.hid (R.new_ HS.out hk)
    try replace HT := Lib.hid (R.new_ HT.out hk)
    try replace HU := Lib.hid (R.new_ HU.out hk)
    try replace HX := Lib.hid (R.new_ HX.out hk)
    try replace HY := Lib.hid (R.new_ HY.out hk)
    try replace HZ := Lib.hid (R.new_ HZ.out hk)
    try replace HBS := Lib.hid (hk.heap HBS.out (by simp))
    try replace HBT := Lib.hid (hk.heap HBT.out (by simp))
    try replace HBU := Lib.hid (hk.heap HBU.out (by simp))
    try replace HBX := Lib.hid (hk.heap HBX.out (by simp))
    try replace HBY := Lib.hid (hk.heap HBY.out (by simp))
    try replace HBZ := Lib.hid (hk.heap HBZ.out (by simp))
    try replace HRX := Lib.hid (hk.heap HRX.out (by simp))
    try replace HRY := Lib.hid (hk.heap HRY.out (by simp))
    try replace HRZ := Lib.hid (hk.heap HRZ.out (by simp))
    have HBX := Lib.hid (hk2.heap HNB.out (by simp))
    have HRX := Lib.hid hW
    clear hk hW hk2 HNC2 HNB HNK2
    obtain ⟨gX, hg6⟩ : ∃ g, g = va.heap.size + 1 := ⟨_, rfl⟩
    rw [← hg6] at HRX ⊢
    clear hg6
    generalize va.heap.size = pX at *
    have HCP := Lib.hid (cl_parts (y := y) (g := w.heap.size + 1) (off := 0) (block_range HC.out))
    have xc := HCP.out.1
    go_wp2_with (first
      | ((with_reducible refine wpList_loadM (g := p11) (off := 0) HOU.out ?_ ?_ (block_range HBU.out) ?_); exact rfl; exact rfl)
      | ((with_reducible refine wpList_loadP (g := w.heap.size + 1) (off := 1) y.x ?_ ?_ HCP.out.2 ?_); exact rfl; exact rfl))
    refine (R.step _ _ (some S) y.c y.x (HG.out _ HK.out) HU.out (show Md.len S ≤ 1000 from by first | (have := HSL.out; omega) | (have := HTL.out; omega)) ⟨HYI.out.c0, HYI.out.c1⟩ HYI.out.x).mono ?_; rintro e va ⟨st, rfl, hat, hk, -⟩
    rw [show oX (some S) y.c y.x = (some MS.1, MS.2.1, MS.2.2) from by rw [HMS.out]; rfl] at hat ⊢
    replace HK := Lib.hid (HK.out.trans hk (FSub.refl _ _))
    try replace HA := Lib.hid (hk.heap HA.out (by simp))
    try replace HC := Lib.hid (hk.heap HC.out (by simp))
    try replace HS := Lib.hid (R.new_ HS.out hk)
    try replace HT := Lib.hid (R.new_ HT.out hk)
    try replace HU := Lib.hid (R.new_ HU.out hk)
    try replace HX := Lib.hid (R.new_ HX.out hk)
    try replace HY := Lib.hid (R.new_ HY.out hk)
    try replace HZ := Lib.hid (R.new_ HZ.out hk)
    try replace HBS := Lib.hid (hk.heap HBS.out (by simp))
    try replace HBT := Lib.hid (hk.heap HBT.out (by simp))
    try replace HBU := Lib.hid (hk.heap HBU.out (by simp))
    try replace HBX := Lib.hid (hk.heap HBX.out (by simp))
    try replace HBY := Lib.hid (hk.heap HBY.out (by simp))
    try replace HBZ := Lib.hid (hk.heap HBZ.out (by simp))
    try replace HRX := Lib.hid (hk.heap HRX.out (by simp))
    try replace HRY := Lib.hid (hk.heap HRY.out (by simp))
    try replace HRZ := Lib.hid (hk.heap HRZ.out (by simp))
    obtain ⟨AY, rfl, hok⟩ := R.cells hat
    have HOY := Lib.hid hok
    have HY := Lib.hid hat
    clear hat hok hk xc HCP
    obtain ⟨-, hA', hC', hk'⟩ := two_vars va mdZA #[.int .u8 0, .int .u16 0] 29 25
    have HNA := Lib.hid (hA'.trans (show some (Obj.cells _ _ _) = some (Obj.cells mdZ.toArray 29 (0, 0)) from rfl))
    have HNC := Lib.hid (hC'.trans (show some (Obj.cells _ _ _) = some (Obj.cells (ansC ⟨0, 0⟩).toArray 25 (0, 0)) from rfl))
    have HNK := Lib.hid hk'
    clear hA' hC' hk'
    go_wp2_with ((with_reducible refine wpList_putM (g := va.heap.size) (old := mdZ) (A := AY) HOY.out mdZ_ok ?_ ?_ HNA.out ?_); exact rfl; exact rfl)
    intro vb hW hk2
    have HNC2 := Lib.hid (hk2.heap HNC.out (by simp))
    have HNB := Lib.hid hW
    have HNK2 := Lib.hid (HNK.out.trans' hk2 (Nat.le_refl _))
    clear hW hk2 HNA HNC HNK
    go_wp2_with ((with_reducible refine wpList_putR12 (g := va.heap.size + 1) (old := ⟨0, 0⟩) MS.2.1 ?_ ?_ HNC2.out ?_); exact rfl; exact rfl)
    intro vc hW hk2
    have hk := HNK2.out.trans' hk2 (Nat.le_succ _)
    replace HK := Lib.hid (HK.out.trans hk (FSub.refl _ _))
    try replace HA := Lib.hid (hk.heap HA.out (by simp))
    try replace HC := Lib.hid (hk.heap HC.out (by simp))
    try replace HS := Lib.hid (R.new_ HS.out hk)
    try replace HT := Lib.hid (R.new_ HT.out hk)
    try replace HU := Lib.hid (R.new_ HU.out hk)
    try replace HX := Lib.hid (R.new_ HX.out hk)
    try replace HY := Lib.hid (R.new_ HY.out hk)
    try replace HZ := Lib.hid (R.new_ HZ.out hk)
    try replace HBS := Lib.hid (hk.heap HBS.out (by simp))
    try replace HBT := Lib.hid (hk.heap HBT.out (by simp))
    try replace HBU := Lib.hid (hk.heap HBU.out (by simp))
    try replace HBX := Lib.hid (hk.heap HBX.out (by simp))
    try replace HBY := Lib.hid (hk.heap HBY.out (by simp))
    try replace HBZ := Lib.hid (hk.heap HBZ.out (by simp))
    try replace HRX := Lib.hid (hk.heap HRX.out (by simp))
    try replace HRY := Lib.hid (hk.heap HRY.out (by simp))
    try replace HRZ := Lib.hid (hk.heap HRZ.out (by simp))
    have HBY := Lib.hid (hk2.heap HNB.out (by simp))
    have HRY := Lib.hid hW
    clear hk hW hk2 HNC2 HNB HNK2
    obtain ⟨gY, hg6⟩ : ∃ g, g = va.heap.size + 1 := ⟨_, rfl⟩
    rw [← hg6] at HRY ⊢
    clear hg6
    generalize va.heap.size = pY at *
    have HCP := Lib.hid (cl_parts (y := y) (g := w.heap.size + 1) (off := 0) (block_range HC.out))
    have xc := HCP.out.1
    go_wp2_with (first
      | ((with_reducible refine wpList_loadM (g := p9) (off := 0) HOT.out ?_ ?_ (block_range HBT.out) ?_); exact rfl; exact rfl)
      | ((with_reducible refine wpList_loadP (g := w.heap.size + 1) (off := 1) y.x ?_ ?_ HCP.out.2 ?_); exact rfl; exact rfl))
    refine (R.step _ _ (some S) y.c y.x (HG.out _ HK.out) HT.out (show Md.len S ≤ 1000 from by first | (have := HSL.out; omega) | (have := HTL.out; omega)) ⟨HYI.out.c0, HYI.out.c1⟩ HYI.out.x).mono ?_; rintro e va ⟨st, rfl, hat, hk, -⟩
    rw [show oX (some S) y.c y.x = (some MS.1, MS.2.1, MS.2.2) from by rw [HMS.out]; rfl] at hat ⊢
    replace HK := Lib.hid (HK.out.trans hk (FSub.refl _ _))
    try replace HA := Lib.hid (hk.heap HA.out (by simp))
    try replace HC := Lib.hid (hk.heap HC.out (by simp))
    try replace HS := Lib.hid (R.new_ HS.out hk)
    try replace HT := Lib.hid (R.new_ HT.out hk)
    try replace HU := Lib.hid (R.new_ HU.out hk)
    try replace HX := Lib.hid (R.new_ HX.out hk)
    try replace HY := Lib.hid (R.new_ HY.out hk)
    try replace HZ := Lib.hid (R.new_ HZ.out hk)
    try replace HBS := Lib.hid (hk.heap HBS.out (by simp))
    try replace HBT := Lib.hid (hk.heap HBT.out (by simp))
    try replace HBU := Lib.hid (hk.heap HBU.out (by simp))
    try replace HBX := Lib.hid (hk.heap HBX.out (by simp))
    try replace HBY := Lib.hid (hk.heap HBY.out (by simp))
    try replace HBZ := Lib.hid (hk.heap HBZ.out (by simp))
    try replace HRX := Lib.hid (hk.heap HRX.out (by simp))
    try replace HRY := Lib.hid (hk.heap HRY.out (by simp))
    try replace HRZ := Lib.hid (hk.heap HRZ.out (by simp))
    obtain ⟨AZ, rfl, hok⟩ := R.cells hat
    have HOZ := Lib.hid hok
    have HZ := Lib.hid hat
    clear hat hok hk xc HCP
    obtain ⟨-, hA', hC', hk'⟩ := two_vars va mdZA #[.int .u8 0, .int .u16 0] 29 25
    have HNA := Lib.hid (hA'.trans (show some (Obj.cells _ _ _) = some (Obj.cells mdZ.toArray 29 (0, 0)) from rfl))
    have HNC := Lib.hid (hC'.trans (show some (Obj.cells _ _ _) = some (Obj.cells (ansC ⟨0, 0⟩).toArray 25 (0, 0)) from rfl))
    have HNK := Lib.hid hk'
    clear hA' hC' hk'
    go_wp2_with ((with_reducible refine wpList_putM (g := va.heap.size) (old := mdZ) (A := AZ) HOZ.out mdZ_ok ?_ ?_ HNA.out ?_); exact rfl; exact rfl)
    intro vb hW hk2
    have HNC2 := Lib.hid (hk2.heap HNC.out (by simp))
    have HNB := Lib.hid hW
    have HNK2 := Lib.hid (HNK.out.trans' hk2 (Nat.le_refl _))
    clear hW hk2 HNA HNC HNK
    go_wp2_with ((with_reducible refine wpList_putR12 (g := va.heap.size + 1) (old := ⟨0, 0⟩) MS.2.1 ?_ ?_ HNC2.out ?_); exact rfl; exact rfl)
    intro vc hW hk2
    have hk := HNK2.out.trans' hk2 (Nat.le_succ _)
    replace HK := Lib.hid (HK.out.trans hk (FSub.refl _ _))
    try replace HA := Lib.hid (hk.heap HA.out (by simp))
    try replace HC := Lib.hid (hk.heap HC.out (by simp))
    try replace HS := Lib.hid (R.new_ HS.out hk)
    try replace HT := Lib.hid (R.new_ HT.out hk)
    try replace HU := Lib.hid (R.new_ HU.out hk)
    try replace HX := Lib.hid (R.new_ HX.out hk)
    try replace HY := Lib.hid (R.new_ HY.out hk)
    try replace HZ := Lib.hid (R.new_ HZ.out hk)
    try replace HBS := Lib.hid (hk.heap HBS.out (by simp))
    try replace HBT := Lib.hid (hk.heap HBT.out (by simp))
    try replace HBU := Lib.hid (hk.heap HBU.out (by simp))
    try replace HBX := Lib.hid (hk.heap HBX.out (by simp))
    try replace HBY := Lib.hid (hk.heap HBY.out (by simp))
    try replace HBZ := Lib.hid (hk.heap HBZ.out (by simp))
    try replace HRX := Lib.hid (hk.heap HRX.out (by simp))
    try replace HRY := Lib.hid (hk.heap HRY.out (by simp))
    try replace HRZ := Lib.hid (hk.heap HRZ.out (by simp))
    have HBZ := Lib.hid (hk2.heap HNB.out (by simp))
    have HRZ := Lib.hid hW
    clear hk hW hk2 HNC2 HNB HNK2
    obtain ⟨gZ, hg6⟩ : ∃ g, g = va.heap.size + 1 := ⟨_, rfl⟩
    rw [← hg6] at HRZ ⊢
    clear hg6
    generalize va.heap.size = pZ at *
    have HML := Lib.hid (show MS.1.len ≤ 1000 from by rw [HMS.out]; have h1 := mdX_len S y.c y.x; have h2 := HSL.out; omega)
    have te : (MS.2.2 == MS.2.2) = true := by simp
    have tk : (MS.2.1.k == MS.2.1.k) = true := by simp
    have tv : (MS.2.1.v == MS.2.1.v) = true := by simp
    go_wp2_with (first
      | ((with_reducible refine wpList_loadM (g := pX) (off := 0) HOX.out ?_ ?_ (block_range HBX.out) ?_); exact rfl; exact rfl)
      | ((with_reducible refine wpList_loadM (g := pY) (off := 0) HOY.out ?_ ?_ (block_range HBY.out) ?_); exact rfl; exact rfl)
      | ((with_reducible refine wpList_loadN13 (g := gX) (y := MS.2.1) ?_ ?_ HRX.out ?_); exact rfl; exact rfl)
      | ((with_reducible refine wpList_loadN13 (g := gY) (y := MS.2.1) ?_ ?_ HRY.out ?_); exact rfl; exact rfl))
    refine (SM.same _ _ (some MS.1) _ (some MS.1) (HG.out _ HK.out) HX.out HY.out HML.out HML.out).mono ?_; rintro e va ⟨rfl, hk⟩
    rw [show oSame (some MS.1) (some MS.1) = true from by simp [oSame]]
    replace HK := Lib.hid (HK.out.trans hk (FSub.refl _ _))
    try replace HA := Lib.hid (hk.heap HA.out (by simp))
    try replace HC := Lib.hid (hk.heap HC.out (by simp))
    try replace HS := Lib.hid (R.new_ HS.out hk)
    try replace HT := Lib.hid (R.new_ HT.out hk)
    try replace HU := Lib.hid (R.new_ HU.out hk)
    try replace HX := Lib.hid (R.new_ HX.out hk)
    try replace HY := Lib.hid (R.new_ HY.out hk)
    try replace HZ := Lib.hid (R.new_ HZ.out hk)
    try replace HBS := Lib.hid (hk.heap HBS.out (by simp))
    try replace HBT := Lib.hid (hk.heap HBT.out (by simp))
    try replace HBU := Lib.hid (hk.heap HBU.out (by simp))
    try replace HBX := Lib.hid (hk.heap HBX.out (by simp))
    try replace HBY := Lib.hid (hk.heap HBY.out (by simp))
    try replace HBZ := Lib.hid (hk.heap HBZ.out (by simp))
    try replace HRX := Lib.hid (hk.heap HRX.out (by simp))
    try replace HRY := Lib.hid (hk.heap HRY.out (by simp))
    try replace HRZ := Lib.hid (hk.heap HRZ.out (by simp))
    clear hk
    go_wp2_with (first
      | ((with_reducible refine wpList_loadM (g := pX) (off := 0) HOX.out ?_ ?_ (block_range HBX.out) ?_); exact rfl; exact rfl)
      | ((with_reducible refine wpList_loadM (g := pZ) (off := 0) HOZ.out ?_ ?_ (block_range HBZ.out) ?_); exact rfl; exact rfl)
      | ((with_reducible refine wpList_loadN13 (g := gX) (y := MS.2.1) ?_ ?_ HRX.out ?_); exact rfl; exact rfl)
      | ((with_reducible refine wpList_loadN13 (g := gZ) (y := MS.2.1) ?_ ?_ HRZ.out ?_); exact rfl; exact rfl))
    refine (SM.same _ _ (some MS.1) _ (some MS.1) (HG.out _ HK.out) HX.out HZ.out HML.out HML.out).mono ?_; rintro e vb ⟨rfl, hk⟩
    rw [show oSame (some MS.1) (some MS.1) = true from by simp [oSame]]
    replace HK := Lib.hid (HK.out.trans hk (FSub.refl _ _))
    try replace HA := Lib.hid (hk.heap HA.out (by simp))
    try replace HC := Lib.hid (hk.heap HC.out (by simp))
    try replace HS := Lib.hid (R.new_ HS.out hk)
    try replace HT := Lib.hid (R.new_ HT.out hk)
    try replace HU := Lib.hid (R.new_ HU.out hk)
    try replace HX := Lib.hid (R.new_ HX.out hk)
    try replace HY := Lib.hid (R.new_ HY.out hk)
    try replace HZ := Lib.hid (R.new_ HZ.out hk)
    try replace HBS := Lib.hid (hk.heap HBS.out (by simp))
    try replace HBT := Lib.hid (hk.heap HBT.out (by simp))
    try replace HBU := Lib.hid (hk.heap HBU.out (by simp))
    try replace HBX := Lib.hid (hk.heap HBX.out (by simp))
    try replace HBY := Lib.hid (hk.heap HBY.out (by simp))
    try replace HBZ := Lib.hid (hk.heap HBZ.out (by simp))
    try replace HRX := Lib.hid (hk.heap HRX.out (by simp))
    try replace HRY := Lib.hid (hk.heap HRY.out (by simp))
    try replace HRZ := Lib.hid (hk.heap HRZ.out (by simp))
    clear hk
    go_wp2_with fail
    refine (awake13_any R _ (HG.out _ HK.out)).mono ?_; rintro e vd ⟨rfl, hk⟩
    replace HK := Lib.hid (HK.out.trans hk (FSub.refl _ _))
    try replace HA := Lib.hid (hk.heap HA.out (by simp))
    try replace HC := Lib.hid (hk.heap HC.out (by simp))
    try replace HS := Lib.hid (R.new_ HS.out hk)
    try replace HT := Lib.hid (R.new_ HT.out hk)
    try replace HU := Lib.hid (R.new_ HU.out hk)
    try replace HX := Lib.hid (R.new_ HX.out hk)
    try replace HY := Lib.hid (R.new_ HY.out hk)
    try replace HZ := Lib.hid (R.new_ HZ.out hk)
    try replace HBS := Lib.hid (hk.heap HBS.out (by simp))
    try replace HBT := Lib.hid (hk.heap HBT.out (by simp))
    try replace HBU := Lib.hid (hk.heap HBU.out (by simp))
    try replace HBX := Lib.hid (hk.heap HBX.out (by simp))
    try replace HBY := Lib.hid (hk.heap HBY.out (by simp))
    try replace HBZ := Lib.hid (hk.heap HBZ.out (by simp))
    try replace HRX := Lib.hid (hk.heap HRX.out (by simp))
    try replace HRY := Lib.hid (hk.heap HRY.out (by simp))
    try replace HRZ := Lib.hid (hk.heap HRZ.out (by simp))
    clear hk
    go_wp2_with fail
    go_ret
    exact ⟨rfl, HK.out⟩
  · obtain rfl : D = false := by
      cases D with
      | false => rfl
      | true => exact absurd (HBT2.out.1 rfl) hq
    obtain ⟨MS, hMS⟩ : ∃ X, X = mdX S y.c y.x := ⟨_, rfl⟩
    obtain ⟨MT, hMT⟩ : ∃ X, X = mdX T y.c y.x := ⟨_, rfl⟩
    have HMS := Lib.hid hMS; have HMT := Lib.hid hMT
    clear hMS hMT hq
    have HCP := Lib.hid (cl_parts (y := y) (g := w.heap.size + 1) (off := 0) (block_range HC.out))
    have xc := HCP.out.1
    go_wp2_with (first
      | ((with_reducible refine wpList_loadM (g := p7) (off := 0) HOS.out ?_ ?_ (block_range HBS.out) ?_); exact rfl; exact rfl)
      | ((with_reducible refine wpList_loadP (g := w.heap.size + 1) (off := 1) y.x ?_ ?_ HCP.out.2 ?_); exact rfl; exact rfl))
    refine (R.step _ _ (some S) y.c y.x (HG.out _ HK.out) HS.out (show Md.len S ≤ 1000 from by first | (have := HSL.out; omega) | (have := HTL.out; omega)) ⟨HYI.out.c0, HYI.out.c1⟩ HYI.out.x).mono ?_; rintro e va ⟨st, rfl, hat, hk, -⟩
    rw [show oX (some S) y.c y.x = (some MS.1, MS.2.1, MS.2.2) from by rw [HMS.out]; rfl] at hat ⊢
    replace HK := Lib.hid (HK.out.trans hk (FSub.refl _ _))
    try replace HA := Lib.hid (hk.heap HA.out (by simp))
    try replace HC := Lib.hid (hk.heap HC.out (by simp))
    try replace HS := Lib.hid (R.new_ HS.out hk)
    try replace HT := Lib.hid (R.new_ HT.out hk)
    try replace HU := Lib.hid (R.new_ HU.out hk)
    try replace HX := Lib.hid (R.new_ HX.out hk)
    try replace HY := Lib.hid (R.new_ HY.out hk)
    try replace HZ := Lib.hid (R.new_ HZ.out hk)
    try replace HBS := Lib.hid (hk.heap HBS.out (by simp))
    try replace HBT := Lib.hid (hk.heap HBT.out (by simp))
    try replace HBU := Lib.hid (hk.heap HBU.out (by simp))
    try replace HBX := Lib.hid (hk.heap HBX.out (by simp))
    try replace HBY := Lib.hid (hk.heap HBY.out (by simp))
    try replace HBZ := Lib.hid (hk.heap HBZ.out (by simp))
    try replace HRX := Lib.hid (hk.heap HRX.out (by simp))
    try replace HRY := Lib.hid (hk.heap HRY.out (by simp))
    try replace HRZ := Lib.hid (hk.heap HRZ.out (by simp))
    obtain ⟨AX, rfl, hok⟩ := R.cells hat
    have HOX := Lib.hid hok
    have HX := Lib.hid hat
    clear hat hok hk xc HCP
    obtain ⟨-, hA', hC', hk'⟩ := two_vars va mdZA #[.int .u8 0, .int .u16 0] 29 25
    have HNA := Lib.hid (hA'.trans (show some (Obj.cells _ _ _) = some (Obj.cells mdZ.toArray 29 (0, 0)) from rfl))
    have HNC := Lib.hid (hC'.trans (show some (Obj.cells _ _ _) = some (Obj.cells (ansC ⟨0, 0⟩).toArray 25 (0, 0)) from rfl))
    have HNK := Lib.hid hk'
    clear hA' hC' hk'
    go_wp2_with ((with_reducible refine wpList_putM (g := va.heap.size) (old := mdZ) (A := AX) HOX.out mdZ_ok ?_ ?_ HNA.out ?_); exact rfl; exact rfl)
    intro vb hW hk2
    have HNC2 := Lib.hid (hk2.heap HNC.out (by simp))
    have HNB := Lib.hid hW
    have HNK2 := Lib.hid (HNK.out.trans' hk2 (Nat.le_refl _))
    clear hW hk2 HNA HNC HNK
    go_wp2_with ((with_reducible refine wpList_putR12 (g := va.heap.size + 1) (old := ⟨0, 0⟩) MS.2.1 ?_ ?_ HNC2.out ?_); exact rfl; exact rfl)
    intro vc hW hk2
    have hk := HNK2.out.trans' hk2 (Nat.le_succ _)
    replace HK := Lib.hid (HK.out.trans hk (FSub.refl _ _))
    try replace HA := Lib.hid (hk.heap HA.out (by simp))
    try replace HC := Lib.hid (hk.heap HC.out (by simp))
    try replace HS := Lib.hid (R.new_ HS.out hk)
    try replace HT := Lib.hid (R.new_ HT.out hk)
    try replace HU := Lib.hid (R.new_ HU.out hk)
    try replace HX := Lib.hid (R.new_ HX.out hk)
    try replace HY := Lib.hid (R.new_ HY.out hk)
    try replace HZ := Lib.hid (R.new_ HZ.out hk)
    try replace HBS := Lib.hid (hk.heap HBS.out (by simp))
    try replace HBT := Lib.hid (hk.heap HBT.out (by simp))
    try replace HBU := Lib.hid (hk.heap HBU.out (by simp))
    try replace HBX := Lib.hid (hk.heap HBX.out (by simp))
    try replace HBY := Lib.hid (hk.heap HBY.out (by simp))
    try replace HBZ := Lib.hid (hk.heap HBZ.out (by simp))
    try replace HRX := Lib.hid (hk.heap HRX.out (by simp))
    try replace HRY := Lib.hid (hk.heap HRY.out (by simp))
    try replace HRZ := Lib.hid (hk.heap HRZ.out (by simp))
    have HBX := Lib.hid (hk2.heap HNB.out (by simp))
    have HRX := Lib.hid hW
    clear hk hW hk2 HNC2 HNB HNK2
    obtain ⟨gX, hg6⟩ : ∃ g, g = va.heap.size + 1 := ⟨_, rfl⟩
    rw [← hg6] at HRX ⊢
    clear hg6
    generalize va.heap.size = pX at *
    have HCP := Lib.hid (cl_parts (y := y) (g := w.heap.size + 1) (off := 0) (block_range HC.out))
    have xc := HCP.out.1
    go_wp2_with (first
      | ((with_reducible refine wpList_loadM (g := p11) (off := 0) HOU.out ?_ ?_ (block_range HBU.out) ?_); exact rfl; exact rfl)
      | ((with_reducible refine wpList_loadP (g := w.heap.size + 1) (off := 1) y.x ?_ ?_ HCP.out.2 ?_); exact rfl; exact rfl))
    refine (R.step _ _ (some S) y.c y.x (HG.out _ HK.out) HU.out (show Md.len S ≤ 1000 from by first | (have := HSL.out; omega) | (have := HTL.out; omega)) ⟨HYI.out.c0, HYI.out.c1⟩ HYI.out.x).mono ?_; rintro e va ⟨st, rfl, hat, hk, -⟩
    rw [show oX (some S) y.c y.x = (some MS.1, MS.2.1, MS.2.2) from by rw [HMS.out]; rfl] at hat ⊢
    replace HK := Lib.hid (HK.out.trans hk (FSub.refl _ _))
    try replace HA := Lib.hid (hk.heap HA.out (by simp))
    try replace HC := Lib.hid (hk.heap HC.out (by simp))
    try replace HS := Lib.hid (R.new_ HS.out hk)
    try replace HT := Lib.hid (R.new_ HT.out hk)
    try replace HU := Lib.hid (R.new_ HU.out hk)
    try replace HX := Lib.hid (R.new_ HX.out hk)
    try replace HY := Lib.hid (R.new_ HY.out hk)
    try replace HZ := Lib.hid (R.new_ HZ.out hk)
    try replace HBS := Lib.hid (hk.heap HBS.out (by simp))
    try replace HBT := Lib.hid (hk.heap HBT.out (by simp))
    try replace HBU := Lib.hid (hk.heap HBU.out (by simp))
    try replace HBX := Lib.hid (hk.heap HBX.out (by simp))
    try replace HBY := Lib.hid (hk.heap HBY.out (by simp))
    try replace HBZ := Lib.hid (hk.heap HBZ.out (by simp))
    try replace HRX := Lib.hid (hk.heap HRX.out (by simp))
    try replace HRY := Lib.hid (hk.heap HRY.out (by simp))
    try replace HRZ := Lib.hid (hk.heap HRZ.out (by simp))
    obtain ⟨AY, rfl, hok⟩ := R.cells hat
    have HOY := Lib.hid hok
    have HY := Lib.hid hat
    clear hat hok hk xc HCP
    obtain ⟨-, hA', hC', hk'⟩ := two_vars va mdZA #[.int .u8 0, .int .u16 0] 29 25
    have HNA := Lib.hid (hA'.trans (show some (Obj.cells _ _ _) = some (Obj.cells mdZ.toArray 29 (0, 0)) from rfl))
    have HNC := Lib.hid (hC'.trans (show some (Obj.cells _ _ _) = some (Obj.cells (ansC ⟨0, 0⟩).toArray 25 (0, 0)) from rfl))
    have HNK := Lib.hid hk'
    clear hA' hC' hk'
    go_wp2_with ((with_reducible refine wpList_putM (g := va.heap.size) (old := mdZ) (A := AY) HOY.out mdZ_ok ?_ ?_ HNA.out ?_); exact rfl; exact rfl)
    intro vb hW hk2
    have HNC2 := Lib.hid (hk2.heap HNC.out (by simp))
    have HNB := Lib.hid hW
    have HNK2 := Lib.hid (HNK.out.trans' hk2 (Nat.le_refl _))
    clear hW hk2 HNA HNC HNK
    go_wp2_with ((with_reducible refine wpList_putR12 (g := va.heap.size + 1) (old := ⟨0, 0⟩) MS.2.1 ?_ ?_ HNC2.out ?_); exact rfl; exact rfl)
    intro vc hW hk2
    have hk := HNK2.out.trans' hk2 (Nat.le_succ _)
    replace HK := Lib.hid (HK.out.trans hk (FSub.refl _ _))
    try replace HA := Lib.hid (hk.heap HA.out (by simp))
    try replace HC := Lib.hid (hk.heap HC.out (by simp))
    try replace HS := Lib.hid (R.new_ HS.out hk)
    try replace HT := Lib.hid (R.new_ HT.out hk)
    try replace HU := Lib.hid (R.new_ HU.out hk)
    try replace HX := Lib.hid (R.new_ HX.out hk)
    try replace HY := Lib.hid (R.new_ HY.out hk)
    try replace HZ := Lib.hid (R.new_ HZ.out hk)
    try replace HBS := Lib.hid (hk.heap HBS.out (by simp))
    try replace HBT := Lib.hid (hk.heap HBT.out (by simp))
    try replace HBU := Lib.hid (hk.heap HBU.out (by simp))
    try replace HBX := Lib.hid (hk.heap HBX.out (by simp))
    try replace HBY := Lib.hid (hk.heap HBY.out (by simp))
    try replace HBZ := Lib.hid (hk.heap HBZ.out (by simp))
    try replace HRX := Lib.hid (hk.heap HRX.out (by simp))
    try replace HRY := Lib.hid (hk.heap HRY.out (by simp))
    try replace HRZ := Lib.hid (hk.heap HRZ.out (by simp))
    have HBY := Lib.hid (hk2.heap HNB.out (by simp))
    have HRY := Lib.hid hW
    clear hk hW hk2 HNC2 HNB HNK2
    obtain ⟨gY, hg6⟩ : ∃ g, g = va.heap.size + 1 := ⟨_, rfl⟩
    rw [← hg6] at HRY ⊢
    clear hg6
    generalize va.heap.size = pY at *
    have HCP := Lib.hid (cl_parts (y := y) (g := w.heap.size + 1) (off := 0) (block_range HC.out))
    have xc := HCP.out.1
    go_wp2_with (first
      | ((with_reducible refine wpList_loadM (g := p9) (off := 0) HOT.out ?_ ?_ (block_range HBT.out) ?_); exact rfl; exact rfl)
      | ((with_reducible refine wpList_loadP (g := w.heap.size + 1) (off := 1) y.x ?_ ?_ HCP.out.2 ?_); exact rfl; exact rfl))
    refine (R.step _ _ (some T) y.c y.x (HG.out _ HK.out) HT.out (show Md.len T ≤ 1000 from by first | (have := HSL.out; omega) | (have := HTL.out; omega)) ⟨HYI.out.c0, HYI.out.c1⟩ HYI.out.x).mono ?_; rintro e va ⟨st, rfl, hat, hk, -⟩
    rw [show oX (some T) y.c y.x = (some MT.1, MT.2.1, MT.2.2) from by rw [HMT.out]; rfl] at hat ⊢
    replace HK := Lib.hid (HK.out.trans hk (FSub.refl _ _))
    try replace HA := Lib.hid (hk.heap HA.out (by simp))
    try replace HC := Lib.hid (hk.heap HC.out (by simp))
    try replace HS := Lib.hid (R.new_ HS.out hk)
    try replace HT := Lib.hid (R.new_ HT.out hk)
    try replace HU := Lib.hid (R.new_ HU.out hk)
    try replace HX := Lib.hid (R.new_ HX.out hk)
    try replace HY := Lib.hid (R.new_ HY.out hk)
    try replace HZ := Lib.hid (R.new_ HZ.out hk)
    try replace HBS := Lib.hid (hk.heap HBS.out (by simp))
    try replace HBT := Lib.hid (hk.heap HBT.out (by simp))
    try replace HBU := Lib.hid (hk.heap HBU.out (by simp))
    try replace HBX := Lib.hid (hk.heap HBX.out (by simp))
    try replace HBY := Lib.hid (hk.heap HBY.out (by simp))
    try replace HBZ := Lib.hid (hk.heap HBZ.out (by simp))
    try replace HRX := Lib.hid (hk.heap HRX.out (by simp))
    try replace HRY := Lib.hid (hk.heap HRY.out (by simp))
    try replace HRZ := Lib.hid (hk.heap HRZ.out (by simp))
    obtain ⟨AZ, rfl, hok⟩ := R.cells hat
    have HOZ := Lib.hid hok
    have HZ := Lib.hid hat
    clear hat hok hk xc HCP
    obtain ⟨-, hA', hC', hk'⟩ := two_vars va mdZA #[.int .u8 0, .int .u16 0] 29 25
    have HNA := Lib.hid (hA'.trans (show some (Obj.cells _ _ _) = some (Obj.cells mdZ.toArray 29 (0, 0)) from rfl))
    have HNC := Lib.hid (hC'.trans (show some (Obj.cells _ _ _) = some (Obj.cells (ansC ⟨0, 0⟩).toArray 25 (0, 0)) from rfl))
    have HNK := Lib.hid hk'
    clear hA' hC' hk'
    go_wp2_with ((with_reducible refine wpList_putM (g := va.heap.size) (old := mdZ) (A := AZ) HOZ.out mdZ_ok ?_ ?_ HNA.out ?_); exact rfl; exact rfl)
    intro vb hW hk2
    have HNC2 := Lib.hid (hk2.heap HNC.out (by simp))
    have HNB := Lib.hid hW
    have HNK2 := Lib.hid (HNK.out.trans' hk2 (Nat.le_refl _))
    clear hW hk2 HNA HNC HNK
    go_wp2_with ((with_reducible refine wpList_putR12 (g := va.heap.size + 1) (old := ⟨0, 0⟩) MT.2.1 ?_ ?_ HNC2.out ?_); exact rfl; exact rfl)
    intro vc hW hk2
    have hk := HNK2.out.trans' hk2 (Nat.le_succ _)
    replace HK := Lib.hid (HK.out.trans hk (FSub.refl _ _))
    try replace HA := Lib.hid (hk.heap HA.out (by simp))
    try replace HC := Lib.hid (hk.heap HC.out (by simp))
    try replace HS := Lib.hid (R.new_ HS.out hk)
    try replace HT := Lib.hid (R.new_ HT.out hk)
    try replace HU := Lib.hid (R.new_ HU.out hk)
    try replace HX := Lib.hid (R.new_ HX.out hk)
    try replace HY := Lib.hid (R.new_ HY.out hk)
    try replace HZ := Lib.hid (R.new_ HZ.out hk)
    try replace HBS := Lib.hid (hk.heap HBS.out (by simp))
    try replace HBT := Lib.hid (hk.heap HBT.out (by simp))
    try replace HBU := Lib.hid (hk.heap HBU.out (by simp))
    try replace HBX := Lib.hid (hk.heap HBX.out (by simp))
    try replace HBY := Lib.hid (hk.heap HBY.out (by simp))
    try replace HBZ := Lib.hid (hk.heap HBZ.out (by simp))
    try replace HRX := Lib.hid (hk.heap HRX.out (by simp))
    try replace HRY := Lib.hid (hk.heap HRY.out (by simp))
    try replace HRZ := Lib.hid (hk.heap HRZ.out (by simp))
    have HBZ := Lib.hid (hk2.heap HNB.out (by simp))
    have HRZ := Lib.hid hW
    clear hk hW hk2 HNC2 HNB HNK2
    obtain ⟨gZ, hg6⟩ : ∃ g, g = va.heap.size + 1 := ⟨_, rfl⟩
    rw [← hg6] at HRZ ⊢
    clear hg6
    generalize va.heap.size = pZ at *
    have HML := Lib.hid (show MS.1.len ≤ 1000 from by rw [HMS.out]; have h1 := mdX_len S y.c y.x; have h2 := HSL.out; omega)
    have te : (MS.2.2 == MS.2.2) = true := by simp
    have tk : (MS.2.1.k == MS.2.1.k) = true := by simp
    have tv : (MS.2.1.v == MS.2.1.v) = true := by simp
    go_wp2_with (first
      | ((with_reducible refine wpList_loadM (g := pX) (off := 0) HOX.out ?_ ?_ (block_range HBX.out) ?_); exact rfl; exact rfl)
      | ((with_reducible refine wpList_loadM (g := pY) (off := 0) HOY.out ?_ ?_ (block_range HBY.out) ?_); exact rfl; exact rfl)
      | ((with_reducible refine wpList_loadN13 (g := gX) (y := MS.2.1) ?_ ?_ HRX.out ?_); exact rfl; exact rfl)
      | ((with_reducible refine wpList_loadN13 (g := gY) (y := MS.2.1) ?_ ?_ HRY.out ?_); exact rfl; exact rfl))
    refine (SM.same _ _ (some MS.1) _ (some MS.1) (HG.out _ HK.out) HX.out HY.out HML.out HML.out).mono ?_; rintro e va ⟨rfl, hk⟩
    rw [show oSame (some MS.1) (some MS.1) = true from by simp [oSame]]
    replace HK := Lib.hid (HK.out.trans hk (FSub.refl _ _))
    try replace HA := Lib.hid (hk.heap HA.out (by simp))
    try replace HC := Lib.hid (hk.heap HC.out (by simp))
    try replace HS := Lib.hid (R.new_ HS.out hk)
    try replace HT := Lib.hid (R.new_ HT.out hk)
    try replace HU := Lib.hid (R.new_ HU.out hk)
    try replace HX := Lib.hid (R.new_ HX.out hk)
    try replace HY := Lib.hid (R.new_ HY.out hk)
    try replace HZ := Lib.hid (R.new_ HZ.out hk)
    try replace HBS := Lib.hid (hk.heap HBS.out (by simp))
    try replace HBT := Lib.hid (hk.heap HBT.out (by simp))
    try replace HBU := Lib.hid (hk.heap HBU.out (by simp))
    try replace HBX := Lib.hid (hk.heap HBX.out (by simp))
    try replace HBY := Lib.hid (hk.heap HBY.out (by simp))
    try replace HBZ := Lib.hid (hk.heap HBZ.out (by simp))
    try replace HRX := Lib.hid (hk.heap HRX.out (by simp))
    try replace HRY := Lib.hid (hk.heap HRY.out (by simp))
    try replace HRZ := Lib.hid (hk.heap HRZ.out (by simp))
    clear hk
    go_wp2_with fail
    refine (awake13_any R _ (HG.out _ HK.out)).mono ?_; rintro e vd ⟨rfl, hk⟩
    replace HK := Lib.hid (HK.out.trans hk (FSub.refl _ _))
    try replace HA := Lib.hid (hk.heap HA.out (by simp))
    try replace HC := Lib.hid (hk.heap HC.out (by simp))
    try replace HS := Lib.hid (R.new_ HS.out hk)
    try replace HT := Lib.hid (R.new_ HT.out hk)
    try replace HU := Lib.hid (R.new_ HU.out hk)
    try replace HX := Lib.hid (R.new_ HX.out hk)
    try replace HY := Lib.hid (R.new_ HY.out hk)
    try replace HZ := Lib.hid (R.new_ HZ.out hk)
    try replace HBS := Lib.hid (hk.heap HBS.out (by simp))
    try replace HBT := Lib.hid (hk.heap HBT.out (by simp))
    try replace HBU := Lib.hid (hk.heap HBU.out (by simp))
    try replace HBX := Lib.hid (hk.heap HBX.out (by simp))
    try replace HBY := Lib.hid (hk.heap HBY.out (by simp))
    try replace HBZ := Lib.hid (hk.heap HBZ.out (by simp))
    try replace HRX := Lib.hid (hk.heap HRX.out (by simp))
    try replace HRY := Lib.hid (hk.heap HRY.out (by simp))
    try replace HRZ := Lib.hid (hk.heap HRZ.out (by simp))
    clear hk
    go_wp2_with fail
    go_ret
    exact ⟨rfl, HK.out⟩
theorem ModelCode_out (R : MdProg G) (w : World) (hG : G w) {m : Int} (h0 : 0 ≤ m) (h4 : m < 256) {v v2 : Value} {l l2 : List Cl} (hI : rkC13.In w.heap.size w v l) (hI2 : rkC13.In w.heap.size w v2 l2) (hn : 150 < l.length ∨ 150 < l2.length) (y : Cl) :
    Calls Tryz.prog 7 #[.int .u8 m, .agg #[v, v2], .agg (clC y).toArray] w fun e w' => e = .returned (.bool true) ∧ Keeps [] w w' := by
  obtain ⟨a, cp, rfl, hc, hm, -⟩ := id hI
  obtain ⟨a2, cp2, rfl, hc2, hm2, -⟩ := id hI2
  have HG := Lib.hid (fun w' (h : Keeps [] w w') => R.keepG hG h)
  clear hI hI2 hG
  generalize l.length = n at *
  generalize l2.length = n2 at *
  obtain ⟨-, hA, hC, hk⟩ := two_vars w #[.slice a n cp, .slice a2 n2 cp2] (clC y).toArray 66 46
  have HK := Lib.hid hk
  have x1 := (cell_lit hA 0 rfl : World.cell? _ _ = some (Value.slice a n cp))
  have x2 := (cell_lit hA 1 rfl : World.cell? _ _ = some (Value.slice a2 n2 cp2))
  clear hA hC hk
  by_cases c1 : 150 < n
  · have b1 : (150 : Int) < n := by omega
    go_enter Tryz.func7, Tryz.ntmps7
    go_wp2_with fail
    refine (awake13_any R _ (HG.out _ HK.out)).mono ?_; rintro e vd ⟨rfl, hk⟩
    replace HK := Lib.hid (HK.out.trans hk (FSub.refl _ _))
    clear hk
    go_wp2_with fail
    go_ret
    exact ⟨rfl, HK.out⟩
  · have b1 : ¬ (150 : Int) < n := by omega
    have b2 : (150 : Int) < n2 := by omega
    go_enter Tryz.func7, Tryz.ntmps7
    go_wp2_with fail
    refine (awake13_any R _ (HG.out _ HK.out)).mono ?_; rintro e vd ⟨rfl, hk⟩
    replace HK := Lib.hid (HK.out.trans hk (FSub.refl _ _))
    clear hk
    go_wp2_with fail
    go_ret
    exact ⟨rfl, HK.out⟩
theorem ModelCode_none (R : MdProg G) (w : World) (hG : G w) {m : Int} (h3 : 3 < m) (h4 : m < 256) {v v2 : Value} {l l2 : List Cl} (hI : rkC13.In w.heap.size w v l) (hI2 : rkC13.In w.heap.size w v2 l2) (hn : l.length ≤ 150) (hn2 : l2.length ≤ 150) (y : Cl) :
    Calls Tryz.prog 7 #[.int .u8 m, .agg #[v, v2], .agg (clC y).toArray] w fun e w' => e = .returned (.bool true) ∧ Keeps [] w w' := by
  obtain ⟨a, cp, rfl, hc, hm, -⟩ := id hI
  obtain ⟨a2, cp2, rfl, hc2, hm2, -⟩ := id hI2
  have HG := Lib.hid (fun w' (h : Keeps [] w w') => R.keepG hG h)
  have HI := Lib.hid hI; have HI2 := Lib.hid hI2
  have HB1 := Lib.hid (fun w' (h : Keeps [] w w') => behind13_none R w' (HG.out _ h) h3 h4 ((HI.out.new h (Nat.le_refl _)).more h.size))
  have HB2 := Lib.hid (fun w' (h : Keeps [] w w') => behind13_none R w' (HG.out _ h) h3 h4 ((HI2.out.new h (Nat.le_refl _)).more h.size))
  clear hI hI2 hG
  generalize l.length = n at *
  generalize l2.length = n2 at *
  have c1 : ¬ (150 : Int) < n := by omega
  have c2 : ¬ (150 : Int) < n2 := by omega
  obtain ⟨-, hA, hC, hk⟩ := two_vars w #[.slice a n cp, .slice a2 n2 cp2] (clC y).toArray 66 46
  have HA := Lib.hid hA; have HC := Lib.hid hC; have HK := Lib.hid hk
  have x1 := (cell_lit hA 0 rfl : World.cell? _ _ = some (Value.slice a n cp))
  have x2 := (cell_lit hA 1 rfl : World.cell? _ _ = some (Value.slice a2 n2 cp2))
  clear hA hC hk
  go_enter Tryz.func7, Tryz.ntmps7
  go_wp2_with fail
  refine (HB1.out _ HK.out).mono ?_; rintro e w1 ⟨st, rfl, hat, hk⟩
  clear x1 x2
  replace HK := Lib.hid (HK.out.trans hk (FSub.refl _ _))
  try replace HA := Lib.hid (hk.heap HA.out (by simp))
  try replace HC := Lib.hid (hk.heap HC.out (by simp))
  try replace HS := Lib.hid (R.new_ HS.out hk)
  try replace HT := Lib.hid (R.new_ HT.out hk)
  try replace HU := Lib.hid (R.new_ HU.out hk)
  try replace HX := Lib.hid (R.new_ HX.out hk)
  try replace HY := Lib.hid (R.new_ HY.out hk)
  try replace HZ := Lib.hid (R.new_ HZ.out hk)
  try replace HBS := Lib.hid (hk.heap HBS.out (by simp))
  try replace HBT := Lib.hid (hk.heap HBT.out (by simp))
  try replace HBU := Lib.hid (hk.heap HBU.out (by simp))
  try replace HBX := Lib.hid (hk.heap HBX.out (by simp))
  try replace HBY := Lib.hid (hk.heap HBY.out (by simp))
  try replace HBZ := Lib.hid (hk.heap HBZ.out (by simp))
  try replace HRX := Lib.hid (hk.heap HRX.out (by simp))
  try replace HRY := Lib.hid (hk.heap HRY.out (by simp))
  try replace HRZ := Lib.hid (hk.heap HRZ.out (by simp))
  obtain ⟨AS, rfl, hok⟩ := R.cells hat
  have HOS := Lib.hid hok
  have HS := Lib.hid hat
  clear hat hok hk
  have HNC := Lib.hid (show (w1.alloc (.cells mdZA 29)).heap[w1.heap.size]? = some (.cells mdZ.toArray 29 (0, 0)) from heap_alloc_new w1 _)
  have HNK := Lib.hid (show Keeps [] w1 (w1.alloc (.cells mdZA 29)) from (Keeps.refl _ _).alloc _)
  go_wp2_with ((with_reducible refine wpList_putM (g := w1.heap.size) (old := mdZ) (A := AS) HOS.out mdZ_ok ?_ ?_ HNC.out ?_); exact rfl; exact rfl)
  intro w2 hW hk2
  have hk := HNK.out.trans' hk2 (Nat.le_refl _)
  replace HK := Lib.hid (HK.out.trans hk (FSub.refl _ _))
  try replace HA := Lib.hid (hk.heap HA.out (by simp))
  try replace HC := Lib.hid (hk.heap HC.out (by simp))
  try replace HS := Lib.hid (R.new_ HS.out hk)
  try replace HT := Lib.hid (R.new_ HT.out hk)
  try replace HU := Lib.hid (R.new_ HU.out hk)
  try replace HX := Lib.hid (R.new_ HX.out hk)
  try replace HY := Lib.hid (R.new_ HY.out hk)
  try replace HZ := Lib.hid (R.new_ HZ.out hk)
  try replace HBS := Lib.hid (hk.heap HBS.out (by simp))
  try replace HBT := Lib.hid (hk.heap HBT.out (by simp))
  try replace HBU := Lib.hid (hk.heap HBU.out (by simp))
  try replace HBX := Lib.hid (hk.heap HBX.out (by simp))
  try replace HBY := Lib.hid (hk.heap HBY.out (by simp))
  try replace HBZ := Lib.hid (hk.heap HBZ.out (by simp))
  try replace HRX := Lib.hid (hk.heap HRX.out (by simp))
  try replace HRY := Lib.hid (hk.heap HRY.out (by simp))
  try replace HRZ := Lib.hid (hk.heap HRZ.out (by simp))
  have HBS := Lib.hid hW
  clear hk hW hk2 HNC HNK
  generalize w1.heap.size = p7 at *
  have x2 := (cell_lit HA.out 1 rfl : World.cell? _ _ = some (Value.slice a2 n2 cp2))
  go_wp2_with fail
  refine (HB2.out _ HK.out).mono ?_; rintro e w3 ⟨st, rfl, hat, hk⟩
  clear x2
  replace HK := Lib.hid (HK.out.trans hk (FSub.refl _ _))
  try replace HA := Lib.hid (hk.heap HA.out (by simp))
  try replace HC := Lib.hid (hk.heap HC.out (by simp))
  try replace HS := Lib.hid (R.new_ HS.out hk)
  try replace HT := Lib.hid (R.new_ HT.out hk)
  try replace HU := Lib.hid (R.new_ HU.out hk)
  try replace HX := Lib.hid (R.new_ HX.out hk)
  try replace HY := Lib.hid (R.new_ HY.out hk)
  try replace HZ := Lib.hid (R.new_ HZ.out hk)
  try replace HBS := Lib.hid (hk.heap HBS.out (by simp))
  try replace HBT := Lib.hid (hk.heap HBT.out (by simp))
  try replace HBU := Lib.hid (hk.heap HBU.out (by simp))
  try replace HBX := Lib.hid (hk.heap HBX.out (by simp))
  try replace HBY := Lib.hid (hk.heap HBY.out (by simp))
  try replace HBZ := Lib.hid (hk.heap HBZ.out (by simp))
  try replace HRX := Lib.hid (hk.heap HRX.out (by simp))
  try replace HRY := Lib.hid (hk.heap HRY.out (by simp))
  try replace HRZ := Lib.hid (hk.heap HRZ.out (by simp))
  obtain ⟨AT, rfl, hok⟩ := R.cells hat
  have HOT := Lib.hid hok
  have HT := Lib.hid hat
  clear hat hok hk
  have HNC := Lib.hid (show (w3.alloc (.cells mdZA 29)).heap[w3.heap.size]? = some (.cells mdZ.toArray 29 (0, 0)) from heap_alloc_new w3 _)
  have HNK := Lib.hid (show Keeps [] w3 (w3.alloc (.cells mdZA 29)) from (Keeps.refl _ _).alloc _)
  go_wp2_with ((with_reducible refine wpList_putM (g := w3.heap.size) (old := mdZ) (A := AT) HOT.out mdZ_ok ?_ ?_ HNC.out ?_); exact rfl; exact rfl)
  intro w4 hW hk2
  have hk := HNK.out.trans' hk2 (Nat.le_refl _)
  replace HK := Lib.hid (HK.out.trans hk (FSub.refl _ _))
  try replace HA := Lib.hid (hk.heap HA.out (by simp))
  try replace HC := Lib.hid (hk.heap HC.out (by simp))
  try replace HS := Lib.hid (R.new_ HS.out hk)
  try replace HT := Lib.hid (R.new_ HT.out hk)
  try replace HU := Lib.hid (R.new_ HU.out hk)
  try replace HX := Lib.hid (R.new_ HX.out hk)
  try replace HY := Lib.hid (R.new_ HY.out hk)
  try replace HZ := Lib.hid (R.new_ HZ.out hk)
  try replace HBS := Lib.hid (hk.heap HBS.out (by simp))
  try replace HBT := Lib.hid (hk.heap HBT.out (by simp))
  try replace HBU := Lib.hid (hk.heap HBU.out (by simp))
  try replace HBX := Lib.hid (hk.heap HBX.out (by simp))
  try replace HBY := Lib.hid (hk.heap HBY.out (by simp))
  try replace HBZ := Lib.hid (hk.heap HBZ.out (by simp))
  try replace HRX := Lib.hid (hk.heap HRX.out (by simp))
  try replace HRY := Lib.hid (hk.heap HRY.out (by simp))
  try replace HRZ := Lib.hid (hk.heap HRZ.out (by simp))
  have HBT := Lib.hid hW
  clear hk hW hk2 HNC HNK
  generalize w3.heap.size = p9 at *
  go_wp2_with fail
  refine (awake13_any R _ (HG.out _ HK.out)).mono ?_; rintro e vd ⟨rfl, hk⟩
  replace HK := Lib.hid (HK.out.trans hk (FSub.refl _ _))
  clear hk
  go_wp2_with fail
  go_ret
  exact ⟨rfl, HK.out⟩
theorem ModelCode_all (R : MdProg G) (SM : MdSame R) (DC : MdDec R) (w : World) (hG : G w) {m : Int} (h0 : 0 ≤ m) (h4 : m < 256) {v v2 : Value} {l l2 : List Cl} (hl : ∀ y ∈ l, y.In) (hl2 : ∀ y ∈ l2, y.In) (hI : rkC13.In w.heap.size w v l) (hI2 : rkC13.In w.heap.size w v2 l2) (y : Cl) (hy : y.In) :
    Calls Tryz.prog 7 #[.int .u8 m, .agg #[v, v2], .agg (clC y).toArray] w fun e w' => e = .returned (.bool true) ∧ Keeps [] w w' := by
  by_cases hn : l.length ≤ 150
  · by_cases hn2 : l2.length ≤ 150
    · by_cases h3 : m ≤ 3
      · exact ModelCode_any R SM DC w hG h0 h3 hl hl2 hI hI2 hn hn2 y hy
      · exact ModelCode_none R w hG (by omega) h4 hI hI2 hn hn2 y
    · exact ModelCode_out R w hG h0 h4 hI hI2 (.inr (by omega)) y
  · exact ModelCode_out R w hG h0 h4 hI hI2 (.inl (by omega)) y
end Go.Proofs.YtdachaekcjbfmaaGreatDoor
