/-
  The law's behind, over any program's objects.
-/
import Derived.Test.YtdachaekcjbfmaaGreatDoorMS00
import Derived.Test.YtdachaekcjbfmaaGreatDoorMS29
import Derived.Test.YtdachaekcjbfmaaGreatDoorMS09
set_option linter.unusedSimpArgs false
set_option linter.unusedVariables false
namespace Go.Proofs.YtdachaekcjbfmaaGreatDoor
open Go.RowKit
set_option maxRecDepth 100000
theorem Tryz.infoC13 : (Tryz.prog.info? 46).map (fun i => (i.zero, i.size, i.bytes)) = some (some (.agg (clC clZero).toArray), 6, 10) := by kernel_rfl
/-- Calls of the law, side by side. -/
noncomputable def rkC13 : RK Cl :=
  { T := 46, Sl := 22, s := 6, b := 10, cs := clC, i := (info_parts Tryz.infoC13).choose, z := .agg (clC clZero).toArray,
    len := clC_len, one := clC_one, s0 := by decide, b1 := by decide, und := Tryz.underlying22,
    hi := (info_parts Tryz.infoC13).choose_spec.1, hz := (info_parts Tryz.infoC13).choose_spec.2.1, hs := (info_parts Tryz.infoC13).choose_spec.2.2.1, hb := (info_parts Tryz.infoC13).choose_spec.2.2.2, hzs := rfl }
theorem InC13_at {N : Nat} {w : World} {a : Option Addr} {n c : Nat} {l : List Cl} (h : rkC13.In N w (.slice a n c) l) {k : Nat} (hk : k < l.length) : ∃ bk o, a = some ⟨bk, o, none⟩ ∧ bk < N ∧ w.rangeAt bk (o + k * 6) (clC l[k]) := by
  obtain ⟨_, _, e, _, _, h⟩ := h
  simp at e
  obtain ⟨rfl, -, -⟩ := e
  obtain ⟨bk, o, e, hb, hr⟩ := h (fun e => by rw [e] at hk; simp at hk)
  exact ⟨bk, o, e, hb, hr k hk⟩
/-- The state behind calls; those that are refused are left out. -/
def bhS (S : Md) : List Cl → Md
  | [] => S
  | y :: l => bhS (mdX S y.c y.x).1 l
theorem bhS_app : ∀ (S : Md) (l m : List Cl), bhS S (l ++ m) = bhS (bhS S l) m
  | _, [], _ => rfl
  | S, y :: l, m => bhS_app (mdX S y.c y.x).1 l m
theorem bhS_next {S : Md} {l : List Cl} {k : Nat} (hk : k < l.length) : bhS S (l.take (k + 1)) = (mdX (bhS S (l.take k)) l[k].c l[k].x).1 := by
  rw [List.take_add_one, List.getElem?_eq_getElem hk, Option.toList_some, bhS_app]
  rfl
theorem bhS_len : ∀ (S : Md) (l : List Cl), (bhS S l).len ≤ S.len + l.length
  | _, [] => Nat.le_refl _
  | S, y :: l => by
    have h1 := bhS_len (mdX S y.c y.x).1 l
    have h2 := mdX_len S y.c y.x
    show (bhS (mdX S y.c y.x).1 l).len ≤ S.len + (l.length + 1)
    omega
section
variable {ops : Array Oper} {S : World → Prop} {o : Oper} {a : Act} {w : World} {K : Act → World → Prop} {Q : Exit → Act → World → Prop}
theorem run_allocM (w : World) : (Instr.alloc 29 true (.tuple #[])).run Tryz.prog w = .ok (.pointer (some ⟨w.heap.size, 0, none⟩)) (w.alloc (.cells mdZ.toArray 29)) := by kernel_rfl
theorem wp_allocM (ho : o.op = .alloc 29) (h : K (a.put o.dst (.pointer (some ⟨w.heap.size, 0, none⟩))) (w.alloc (.cells mdZ.toArray 29))) : o.wp Tryz.prog a w K Q := by
  unfold Oper.wp execOp
  simp only [ho, Sem.run_bind, run_allocM, Result.andThen_ok, Sem.run_pure]
  exact h
theorem yields_indexC13 (hw : Region.wanted o (yielded ops a.tmps) = true) (x y : Operand) (ho : o.op = .indexAddr 22 x y) (g of n c k : Nat) (hx : a.eval x = .slice (some ⟨g, of, none⟩) n c) (hy : a.eval y = .int .i64 k) (hk : k < n) :
    YieldsIf Tryz.prog ops S o (.pointer (some ⟨g, of + k * 6, none⟩)) a :=
  Or.inl ⟨hw, by
    have hk2 : (k : Int) < n := by omega
    intro w _
    unfold execOp
    simp only [ho, hx, hy]
    go_simp⟩
end
variable {G : World → Prop}
set_option maxHeartbeats 8000000
theorem behind13_any (R : MdProg G) (w : World) (hG : G w) {m : Int} (h0 : 0 ≤ m) (h3 : m ≤ 3) {v : Value} {l : List Cl} (hl : ∀ y ∈ l, y.In) (hI : rkC13.In w.heap.size w v l) (hn : l.length ≤ 900) :
    Calls Tryz.prog 20 #[.int .u8 m, v] w fun e w' => ∃ st, e = .returned (.tuple #[st, .bool true]) ∧ R.At w' st (some (bhS (mdInit m) l)) ∧ Keeps [] w w' ∧ ∀ q ∈ R.foot st, w.heap.size ≤ q := by
  obtain ⟨a, cp, rfl, hc, hm, -⟩ := id hI
  have HZ := Lib.hid (show (w.alloc (.cells mdZA 29)).heap[w.heap.size]? = some (.cells mdZ.toArray 29 (0, 0)) from heap_alloc_new w _)
  have HKZ := Lib.hid (show Keeps [] w (w.alloc (.cells mdZA 29)) from (Keeps.refl _ _).alloc _)
  have HN := Lib.hid (R.new _ m (R.keepG hG HKZ.out) ⟨h0, by omega⟩)
  rw [if_pos h3] at HN
  have ho : oNew m = some (mdInit m) := if_pos h3
  rw [ho] at HN
  have HIN := Lib.hid hI; have HLI := Lib.hid hl; have HGL := Lib.hid (fun w' (h : Keeps [] w w') => R.keepG hG h)
  have HLE := Lib.hid (fun k => show (bhS (mdInit m) (l.take k)).len ≤ 1000 from by
    have h1 := bhS_len (mdInit m) (l.take k)
    rw [mdInit_len] at h1
    have h2 : (l.take k).length ≤ l.length := by rw [List.length_take]; omega
    omega)
  clear hI hl hG ho
  generalize hn2 : l.length = n at *
  have HN2 := Lib.hid hn2
  clear hn2
  go_enter Tryz.func20, Tryz.ntmps20
  go_wp2_with fail
  refine HN.out.mono ?_; rintro e w1 ⟨st0, rfl, hat, hk1, hf0⟩
  obtain ⟨A0, rfl, hok0⟩ := R.cells hat
  have hz1 : (w.alloc (.cells mdZA 29)).heap.size = w.heap.size + 1 := Array.size_push _
  have HZ1 := Lib.hid (hk1.heap HZ.out (by simp))
  have HK1 := Lib.hid (HKZ.out.trans hk1 (FSub.refl _ _))
  have HOK0 := Lib.hid hok0
  have HC := Lib.hid (show (w1.alloc (.cells mdZA 29)).heap[w1.heap.size]? = some (.cells mdZ.toArray 29 (0, 0)) from heap_alloc_new w1 _)
  have HKC := Lib.hid (show Keeps [] w1 (w1.alloc (.cells mdZA 29)) from (Keeps.refl _ _).alloc _)
  have HA1 := Lib.hid (R.new_ hat HKC.out)
  have HF1 := Lib.hid (show ∀ q ∈ R.foot (.agg A0.toArray), w.heap.size < q ∧ q < w1.heap.size from fun q hq => ⟨by have := hf0 q hq; omega, R.old hat q hq⟩)
  have HSZ := Lib.hid (show w.heap.size < w1.heap.size from by have := hk1.size; omega)
  clear hat hk1 hf0 hok0 hz1 HN HZ HKZ
  go_wp2_with ((with_reducible refine wpList_putM (g := w1.heap.size) (old := mdZ) (A := A0) HOK0.out mdZ_ok ?_ ?_ HC.out ?_); exact rfl; exact rfl)
  intro w2 hW2 hk2
  have HB2 := Lib.hid hW2
  have HA2 := Lib.hid (R.put HA1.out hk2 (fun q hq => Nat.ne_of_lt (HF1.out q hq).2))
  have HK2 := Lib.hid (HK1.out.trans (HKC.out.trans' hk2 (Nat.le_refl _)) (FSub.refl _ _))
  have HZ2 := Lib.hid ((HKC.out.trans' hk2 (Nat.le_refl _)).heap HZ1.out (by simp))
  have HG2 := Lib.hid (show w.heap.size < w1.heap.size ∧ w1.heap.size < w2.heap.size from ⟨HSZ.out, lt_of_block hW2⟩)
  clear hW2 hk2 HC HKC HA1 HK1 HZ1 HSZ
  obtain ⟨g6, hg6⟩ : ∃ g6, g6 = w1.heap.size := ⟨_, rfl⟩
  rw [← hg6] at HB2 HF1 HG2 ⊢
  clear hg6
  go_wp2_with fail
  go_loopw [8] (fun i wr => ∃ (k : Nat) (A : List Value), i = .int .i64 k ∧ k ≤ n ∧ wr.heap[g6]? = some (.cells A.toArray 29 (0, 0)) ∧ R.At wr (.agg A.toArray) (some (bhS (mdInit m) (l.take k))) ∧ (∀ q ∈ R.foot (.agg A.toArray), w.heap.size < q ∧ q ≠ g6) ∧ wr.heap[w.heap.size]? = some (.cells mdZ.toArray 29 (0, 0)) ∧ Keeps [] w wr ∧ g6 < wr.heap.size) (fun i _ => n - (intOf i).toNat)
  case atStart => exact ⟨0, A0, rfl, by omega, HB2.out, HA2.out, fun q hq => ⟨(HF1.out q hq).1, Nat.ne_of_lt (HF1.out q hq).2⟩, HZ2.out, HK2.out, HG2.out.2⟩
  case round =>
    obtain ⟨k, A, rfl, hk, hb, hat, hft, hz, hkw, hsz⟩ := hrel
    have HB := Lib.hid hb; have HAT0 := Lib.hid hat; have HFT := Lib.hid hft; have HZR := Lib.hid hz; have HKW := Lib.hid hkw; have HSR := Lib.hid hsz
    have HOK := Lib.hid (show skM.Ok A from by
      obtain ⟨A', e, h⟩ := R.cells hat
      have : A = A' := by simpa using e
      rw [this]; exact h)
    have HG6 := Lib.hid HG2.out.1
    clear hb hat hft hz hkw hsz HA2 HB2 HK2 HZ2 HF1 HOK0
    by_cases hlt : k < n
    · have hkl : k < l.length := by have := HN2.out; omega
      obtain ⟨g, o, rfl, hg, hr⟩ := InC13_at (HIN.out.new HKW.out (Nat.le_refl _)) hkl
      have HRW := Lib.hid hr
      have HNX := Lib.hid (bhS_next (S := mdInit m) hkl)
      have HXI := Lib.hid (HLI.out l[k] (List.getElem_mem hkl))
      have HLK := Lib.hid (HLE.out k)
      have hb1 : (k : Int) < n := by omega
      have hb0 : 0 ≤ (k : Int) := by omega
      have HF0 := Lib.hid (fun q hq => R.old HAT0.out q hq)
      clear hr
      generalize l[k] = y at *
      generalize bhS (mdInit m) (l.take k) = S at *
      have HST := Lib.hid (fun w' (h : Keeps [] wr w') => R.step w' _ (some S) y.c y.x (HGL.out _ (HKW.out.trans h (FSub.refl _ _))) (R.new_ HAT0.out h) HLK.out ⟨HXI.out.c0, HXI.out.c1⟩ HXI.out.x)
      simp only [oX] at HST
      have HBAD := Lib.hid (fun h => (mdX_bad (S := S) (c := y.c) (x := y.x) h).1)
      generalize mdX S y.c y.x = X at *
      obtain ⟨S1, r, e1⟩ := X
      simp only at HST HNX HBAD
      go_wp2_with fail
      obtain ⟨S0, hS0⟩ : ∃ S0 : World → Prop, S0 = fun y => Keeps [] wr y := ⟨_, rfl⟩
      have HSE := Lib.hid hS0
      have hSD : S0 wr.drew := by rw [hS0]; exact (Keeps.refl _ _).drew
      have HSA := Lib.hid (fun (w' : World) (hh : S0 w') => show w'.rangeAt g6 0 A from by rw [hS0] at hh; exact fun j v hv => hh.cell (block_range HB.out j v hv) (by simp))
      have HSC := Lib.hid (fun (w' : World) (hh : S0 w') => show w'.cell? ⟨g, o + k * 6, none⟩ = some (.int .u8 y.c) from by rw [hS0] at hh; exact hh.cell (cl_parts HRW.out).1 (by simp))
      have HSX := Lib.hid (fun (w' : World) (hh : S0 w') => show w'.rangeAt g (o + k * 6 + 1) (opC y.x) from by rw [hS0] at hh; exact fun j v hv => hh.cell ((cl_parts HRW.out).2 j v hv) (by simp))
      clear hS0
      refine wp_region_noPanic ?_
      refine wp_region_held_drew (S := S0) (by kernel_rfl) hSD (fun hHeld => ?_)
      apply wpAnyH_take (i := 0)
      · simp only [List.getElem?_toArray]; rfl
      iterate 3 (· kernel_rfl)
      · exact fun _ _ _ h => h
      · exact skM.yields HOK.out rfl _ rfl g6 0 rfl HSA.out
      · assumption
      try simp only [Act.put, lsA, lsZ, lsS]
      apply wpAnyH_take (i := 1)
      · simp only [List.getElem?_toArray]; rfl
      iterate 3 (· kernel_rfl)
      · exact fun _ _ _ h => h
      · exact Or.inl ⟨by rfl, by intro w hSw; go_simp; try with_reducible rfl⟩
      · assumption
      try simp only [Act.put, lsA, lsZ, lsS]
      apply wpAnyH_take (i := 2)
      · simp only [List.getElem?_toArray]; rfl
      iterate 3 (· kernel_rfl)
      · exact fun _ _ _ h => h
      · exact Or.inl ⟨by rfl, by intro w hSw; go_simp; try with_reducible rfl⟩
      · assumption
      try simp only [Act.put, lsA, lsZ, lsS]
      apply wpAnyH_take (i := 3)
      · simp only [List.getElem?_toArray]; rfl
      iterate 3 (· kernel_rfl)
      · exact fun _ _ _ h => h
      · exact yields_indexC13 rfl _ _ rfl g o n cp k rfl rfl hlt
      · assumption
      try simp only [Act.put, lsA, lsZ, lsS]
      apply wpAnyH_take (i := 4)
      · simp only [List.getElem?_toArray]; rfl
      iterate 3 (· kernel_rfl)
      · exact fun _ _ _ h => h
      · exact Or.inl ⟨by rfl, by intro w hSw; go_simp; try with_reducible rfl⟩
      · assumption
      try simp only [Act.put, lsA, lsZ, lsS]
      apply wpAnyH_take (i := 5)
      · simp only [List.getElem?_toArray]; rfl
      iterate 3 (· kernel_rfl)
      · exact fun _ _ _ h => h
      · exact Or.inl ⟨by rfl, by intro w hSw; have q0 := HSC.out w hSw; go_simp; try with_reducible rfl⟩
      · assumption
      try simp only [Act.put, lsA, lsZ, lsS]
      apply wpAnyH_take (i := 6)
      · simp only [List.getElem?_toArray]; rfl
      iterate 3 (· kernel_rfl)
      · exact fun _ _ _ h => h
      · exact Or.inl ⟨by rfl, by intro w hSw; go_simp; try with_reducible rfl⟩
      · assumption
      try simp only [Act.put, lsA, lsZ, lsS]
      apply wpAnyH_take (i := 7)
      · simp only [List.getElem?_toArray]; rfl
      iterate 3 (· kernel_rfl)
      · exact fun _ _ _ h => h
      · exact Or.inl ⟨by rfl, by intro w hSw; go_simp; try with_reducible rfl⟩
      · assumption
      try simp only [Act.put, lsA, lsZ, lsS]
      apply wpAnyH_take (i := 8)
      · simp only [List.getElem?_toArray]; rfl
      iterate 3 (· kernel_rfl)
      · exact fun _ _ _ h => h
      · exact yields_indexC13 rfl _ _ rfl g o n cp k rfl rfl hlt
      · assumption
      try simp only [Act.put, lsA, lsZ, lsS]
      apply wpAnyH_take (i := 9)
      · simp only [List.getElem?_toArray]; rfl
      iterate 3 (· kernel_rfl)
      · exact fun _ _ _ h => h
      · exact Or.inl ⟨by rfl, by intro w hSw; go_simp; try with_reducible rfl⟩
      · assumption
      try simp only [Act.put, lsA, lsZ, lsS]
      apply wpAnyH_take (i := 10)
      · simp only [List.getElem?_toArray]; rfl
      iterate 3 (· kernel_rfl)
      · exact fun _ _ _ h => h
      · exact yields_loadP y.x rfl _ rfl g _ rfl HSX.out
      · assumption
      try simp only [Act.put, lsA, lsZ, lsS]
      have HY := Lib.hid ((Keeps.refl [] wr).drew)
      generalize wr.drew = YC at *
      apply wpAnyH_ready (rs := [11, 16, 17])
      · kernel_rfl
      · simp
      apply AllReadyH.cons
      · simp only [List.getElem?_toArray]; rfl
      · intro K hK
        rw [if_pos (by rfl)]
        refine wp_call9 13 _ _ rfl [.agg A.toArray, .int .u8 y.c, y.x.val] rfl Tryz.func13 (by kernel_rfl) (by kernel_rfl) ((HST.out _ HY.out).mono ?_)
        rintro e YC ⟨st1, rfl, hat, hk, hf⟩
        refine ⟨_, rfl, ?_⟩
        try have HFA := Lib.hid (show ∀ q ∈ R.foot st1, q ≠ ga from fun q hq => by
          rcases hf q hq with h | h
          · have h1 := HF0.out q h; have h2 := HGA.out; omega
          · have := HLA.out; omega)
        try have HFB := Lib.hid (show ∀ q ∈ R.foot st1, q ≠ gb from fun q hq => by
          rcases hf q hq with h | h
          · have h1 := HF0.out q h; have h2 := HGB.out; omega
          · have := HLB.out; omega)
        have HFN := Lib.hid (show ∀ q ∈ R.foot st1, q ∈ R.foot (.agg A.toArray) ∨ wr.heap.size ≤ q from fun q hq => (hf q hq).imp id (fun h => Nat.le_trans HY.out.size h))
        try replace HBA := Lib.hid (hk.heap HBA.out (by simp))
        try replace HBB := Lib.hid (hk.heap HBB.out (by simp))
        try replace HAT := Lib.hid (R.new_ HAT.out hk)
        try replace HLA := Lib.hid (Nat.lt_of_lt_of_le HLA.out hk.size)
        try replace HLB := Lib.hid (Nat.lt_of_lt_of_le HLB.out hk.size)
        replace HY := Lib.hid (HY.out.trans hk (FSub.refl _ _))
        have HAT := Lib.hid hat
        obtain ⟨A1, rfl, hok1⟩ := R.cells hat
        have HOK1 := Lib.hid hok1
        clear hat hk hf hok1
        refine hK.out _ _ ?_ (fun hHeld => ?_)
        · exact (by rw [HSE.out]; exact HY.out)
        clear hK K
        try simp only [Act.put, lsA, lsZ, lsS]
        apply wpAnyH_take (i := 12)
        · simp only [List.getElem?_toArray]; rfl
        iterate 3 (· kernel_rfl)
        · exact fun _ _ _ h => h
        · exact Or.inl ⟨by rfl, by intro w hSw; go_simp; try with_reducible rfl⟩
        · assumption
        try simp only [Act.put, lsA, lsZ, lsS]
        apply wpAnyH_take (i := 13)
        · simp only [List.getElem?_toArray]; rfl
        iterate 3 (· kernel_rfl)
        · exact fun _ _ _ h => h
        · exact Or.inl ⟨by rfl, by intro w hSw; go_simp; try with_reducible rfl⟩
        · assumption
        try simp only [Act.put, lsA, lsZ, lsS]
        apply wpAnyH_take (i := 14)
        · simp only [List.getElem?_toArray]; rfl
        iterate 3 (· kernel_rfl)
        · exact fun _ _ _ h => h
        · exact Or.inl ⟨by rfl, by intro w hSw; go_simp; try with_reducible rfl⟩
        · assumption
        try simp only [Act.put, lsA, lsZ, lsS]
        apply wpAnyH_take (i := 15)
        · simp only [List.getElem?_toArray]; rfl
        iterate 3 (· kernel_rfl)
        · exact fun _ _ _ h => h
        · exact Or.inl ⟨by rfl, by intro w hSw; go_simp; try with_reducible rfl⟩
        · assumption
        try simp only [Act.put, lsA, lsZ, lsS]
        apply wpAnyH_ready (rs := [16, 17])
        · kernel_rfl
        · simp
        apply AllReadyH.cons
        · simp only [List.getElem?_toArray]; rfl
        · intro K hK
          rw [if_pos (by rfl)]
          refine wp_allocM rfl ?_
          have hk : Keeps [] YC (YC.alloc (.cells mdZ.toArray 29)) := (Keeps.refl _ _).alloc _
          have hb := heap_alloc_new YC (.cells mdZ.toArray 29)
          try have HFA := Lib.hid (fun q hq => (show q ≠ YC.heap.size from Nat.ne_of_lt (R.old HAT.out q hq)))
          try have HAB := Lib.hid (show YC.heap.size ≠ gb from Nat.ne_of_gt HLB.out)
          have HGA := Lib.hid HY.out.size
          try replace HBA := Lib.hid (hk.heap HBA.out (by simp))
          try replace HBB := Lib.hid (hk.heap HBB.out (by simp))
          try replace HAT := Lib.hid (R.new_ HAT.out hk)
          try replace HLA := Lib.hid (Nat.lt_of_lt_of_le HLA.out hk.size)
          try replace HLB := Lib.hid (Nat.lt_of_lt_of_le HLB.out hk.size)
          replace HY := Lib.hid (HY.out.trans hk (FSub.refl _ _))
          have HBA := Lib.hid hb
          have HLA := Lib.hid (lt_of_block hb)
          clear hk hb
          generalize YC.heap.size = ga at *
          generalize YC.alloc (.cells mdZ.toArray 29) = YC at *
          refine hK.out _ _ ?_ (fun hHeld => ?_)
          · exact (by rw [HSE.out]; exact HY.out)
          clear hK K
          try simp only [Act.put, lsA, lsZ, lsS]
          apply wpAnyH_ready (rs := [17])
          · kernel_rfl
          · simp
          apply AllReadyH.cons (hs := AllReadyH.nil)
          · simp only [List.getElem?_toArray]; rfl
          intro K hK
          rw [if_pos (by rfl)]
          refine wp_allocA _ _ _ _ rfl ?_
          have hk : Keeps [] YC (YC.alloc (.cells (ansC ⟨0, 0⟩).toArray 25)) := (Keeps.refl _ _).alloc _
          have hb := heap_alloc_new YC (.cells (ansC ⟨0, 0⟩).toArray 25)
          try have HFB := Lib.hid (fun q hq => (show q ≠ YC.heap.size from Nat.ne_of_lt (R.old HAT.out q hq)))
          try have HAB := Lib.hid (show ga ≠ YC.heap.size from Nat.ne_of_lt HLA.out)
          have HGB := Lib.hid HY.out.size
          try replace HBA := Lib.hid (hk.heap HBA.out (by simp))
          try replace HBB := Lib.hid (hk.heap HBB.out (by simp))
          try replace HAT := Lib.hid (R.new_ HAT.out hk)
          try replace HLA := Lib.hid (Nat.lt_of_lt_of_le HLA.out hk.size)
          try replace HLB := Lib.hid (Nat.lt_of_lt_of_le HLB.out hk.size)
          replace HY := Lib.hid (HY.out.trans hk (FSub.refl _ _))
          have HBB := Lib.hid hb
          have HLB := Lib.hid (lt_of_block hb)
          clear hk hb
          generalize YC.heap.size = gb at *
          generalize YC.alloc (.cells (ansC ⟨0, 0⟩).toArray 25) = YC at *
          refine hK.out _ _ ?_ (fun hHeld => ?_)
          · exact (by rw [HSE.out]; exact HY.out)
          clear hK K
          try simp only [Act.put, lsA, lsZ, lsS]
          apply wpAnyH_ready (rs := [18])
          · kernel_rfl
          · simp
          apply AllReadyH.cons (hs := AllReadyH.nil)
          · simp only [List.getElem?_toArray]; rfl
          intro K hK
          rw [if_pos (by rfl)]
          refine skM.wp_put rfl (g := ga) (old := mdZ) (A := A1) HOK1.out mdZ_ok rfl rfl HBA.out (fun YC hV hk => ?_)
          replace HBA := Lib.hid hV
          replace HBB := Lib.hid (hk.heap HBB.out (by have := HAB.out; simp; exact fun e => this e.symm))
          replace HAT := Lib.hid (R.put HAT.out hk HFA.out)
          replace HY := Lib.hid (HY.out.trans' hk HGA.out)
          clear hV hk
          refine hK.out _ _ ?_ (fun hHeld => ?_)
          · exact (by rw [HSE.out]; exact HY.out)
          clear hK K
          try simp only [Act.put, lsA, lsZ, lsS]
          apply wpAnyH_ready (rs := [19])
          · kernel_rfl
          · simp
          apply AllReadyH.cons (hs := AllReadyH.nil)
          · simp only [List.getElem?_toArray]; rfl
          intro K hK
          rw [if_pos (by rfl)]
          refine wp_putN rfl (g := gb) (old := ⟨0, 0⟩) r rfl rfl HBB.out (fun YC hV hk => ?_)
          replace HBB := Lib.hid hV
          replace HBA := Lib.hid (hk.heap HBA.out (by have := HAB.out; simpa using this))
          replace HAT := Lib.hid (R.put HAT.out hk HFB.out)
          replace HY := Lib.hid (HY.out.trans' hk HGB.out)
          clear hV hk
          refine hK.out _ _ ?_ (fun hHeld => ?_)
          · exact (by rw [HSE.out]; exact HY.out)
          clear hK K
          try simp only [Act.put, lsA, lsZ, lsS]
          apply wpAnyH_take (i := 20)
          · simp only [List.getElem?_toArray]; rfl
          iterate 3 (· kernel_rfl)
          · exact fun _ _ _ h => h
          · exact Or.inl ⟨by rfl, by intro w hSw; go_simp; try with_reducible rfl⟩
          · assumption
          try simp only [Act.put, lsA, lsZ, lsS]
          refine wpAnyH_done (by kernel_rfl) ?_ _
          refine NoPanic.normal ?_
          have HBG := Lib.hid (HY.out.heap HB.out (by simp))
          by_cases hx : e1 = 0
          · subst hx
            go_wp2_with (first
              | ((with_reducible refine wpList_loadM (g := ga) (off := 0) HOK1.out ?_ ?_ (block_range HBA.out) ?_); exact rfl; exact rfl)
              | ((with_reducible refine wpList_putM (g := g6) (old := A) (A := A1) HOK1.out HOK.out ?_ ?_ HBG.out ?_); exact rfl; exact rfl))
            intro YD hV hk
            have HVD := Lib.hid hV
            have HFG := Lib.hid (show ∀ q ∈ R.foot (.agg A1.toArray), w.heap.size < q ∧ q ≠ g6 from fun q hq => by
              rcases HFN.out q hq with h | h
              · exact HFT.out q h
              · have := HSR.out; have := HG6.out; exact ⟨by omega, by omega⟩)
            have HAD := Lib.hid (R.put HAT.out hk (fun q hq => (HFG.out q hq).2))
            have HZD := Lib.hid (hk.heap (HY.out.heap HZR.out (by simp)) (by have := HG6.out; simp; omega))
            have HKD := Lib.hid ((HKW.out.trans HY.out (FSub.refl _ _)).trans hk (fun q hq => .inr (by have := HG6.out; simp at hq; omega)))
            have HSD2 := Lib.hid (show g6 < YD.heap.size from lt_of_block hV)
            clear hV hk
            go_wp2_with fail
            go_roundw
            case rel => exact ⟨k + 1, A1, by go_num, by omega, HVD.out, by rw [HNX.out]; exact HAD.out, HFG.out, HZD.out, HKD.out, HSD2.out⟩
            case measure => simp [intOf]; omega
          · have q0 : (e1 == 0) = false := by simpa using hx
            have HEQ := Lib.hid (HBAD.out hx)
            clear hx
            go_wp2_with fail
            go_roundw
            case rel => exact ⟨k + 1, A, by go_num, by omega, HBG.out, by rw [HNX.out, HEQ.out]; exact R.new_ HAT0.out HY.out, HFT.out, HY.out.heap HZR.out (by simp), HKW.out.trans HY.out (FSub.refl _ _), Nat.lt_of_lt_of_le HSR.out HY.out.size⟩
            case measure => simp [intOf]; omega
        apply AllReadyH.cons (hs := AllReadyH.nil)
        · simp only [List.getElem?_toArray]; rfl
        intro K hK
        rw [if_pos (by rfl)]
        refine wp_allocA _ _ _ _ rfl ?_
        have hk : Keeps [] YC (YC.alloc (.cells (ansC ⟨0, 0⟩).toArray 25)) := (Keeps.refl _ _).alloc _
        have hb := heap_alloc_new YC (.cells (ansC ⟨0, 0⟩).toArray 25)
        try have HFB := Lib.hid (fun q hq => (show q ≠ YC.heap.size from Nat.ne_of_lt (R.old HAT.out q hq)))
        try have HAB := Lib.hid (show ga ≠ YC.heap.size from Nat.ne_of_lt HLA.out)
        have HGB := Lib.hid HY.out.size
        try replace HBA := Lib.hid (hk.heap HBA.out (by simp))
        try replace HBB := Lib.hid (hk.heap HBB.out (by simp))
        try replace HAT := Lib.hid (R.new_ HAT.out hk)
        try replace HLA := Lib.hid (Nat.lt_of_lt_of_le HLA.out hk.size)
        try replace HLB := Lib.hid (Nat.lt_of_lt_of_le HLB.out hk.size)
        replace HY := Lib.hid (HY.out.trans hk (FSub.refl _ _))
        have HBB := Lib.hid hb
        have HLB := Lib.hid (lt_of_block hb)
        clear hk hb
        generalize YC.heap.size = gb at *
        generalize YC.alloc (.cells (ansC ⟨0, 0⟩).toArray 25) = YC at *
        refine hK.out _ _ ?_ (fun hHeld => ?_)
        · exact (by rw [HSE.out]; exact HY.out)
        clear hK K
        try simp only [Act.put, lsA, lsZ, lsS]
        apply wpAnyH_ready (rs := [16])
        · kernel_rfl
        · simp
        apply AllReadyH.cons (hs := AllReadyH.nil)
        · simp only [List.getElem?_toArray]; rfl
        intro K hK
        rw [if_pos (by rfl)]
        refine wp_allocM rfl ?_
        have hk : Keeps [] YC (YC.alloc (.cells mdZ.toArray 29)) := (Keeps.refl _ _).alloc _
        have hb := heap_alloc_new YC (.cells mdZ.toArray 29)
        try have HFA := Lib.hid (fun q hq => (show q ≠ YC.heap.size from Nat.ne_of_lt (R.old HAT.out q hq)))
        try have HAB := Lib.hid (show YC.heap.size ≠ gb from Nat.ne_of_gt HLB.out)
        have HGA := Lib.hid HY.out.size
        try replace HBA := Lib.hid (hk.heap HBA.out (by simp))
        try replace HBB := Lib.hid (hk.heap HBB.out (by simp))
        try replace HAT := Lib.hid (R.new_ HAT.out hk)
        try replace HLA := Lib.hid (Nat.lt_of_lt_of_le HLA.out hk.size)
        try replace HLB := Lib.hid (Nat.lt_of_lt_of_le HLB.out hk.size)
        replace HY := Lib.hid (HY.out.trans hk (FSub.refl _ _))
        have HBA := Lib.hid hb
        have HLA := Lib.hid (lt_of_block hb)
        clear hk hb
        generalize YC.heap.size = ga at *
        generalize YC.alloc (.cells mdZ.toArray 29) = YC at *
        refine hK.out _ _ ?_ (fun hHeld => ?_)
        · exact (by rw [HSE.out]; exact HY.out)
        clear hK K
        try simp only [Act.put, lsA, lsZ, lsS]
        apply wpAnyH_ready (rs := [18])
        · kernel_rfl
        · simp
        apply AllReadyH.cons (hs := AllReadyH.nil)
        · simp only [List.getElem?_toArray]; rfl
        intro K hK
        rw [if_pos (by rfl)]
        refine skM.wp_put rfl (g := ga) (old := mdZ) (A := A1) HOK1.out mdZ_ok rfl rfl HBA.out (fun YC hV hk => ?_)
        replace HBA := Lib.hid hV
        replace HBB := Lib.hid (hk.heap HBB.out (by have := HAB.out; simp; exact fun e => this e.symm))
        replace HAT := Lib.hid (R.put HAT.out hk HFA.out)
        replace HY := Lib.hid (HY.out.trans' hk HGA.out)
        clear hV hk
        refine hK.out _ _ ?_ (fun hHeld => ?_)
        · exact (by rw [HSE.out]; exact HY.out)
        clear hK K
        try simp only [Act.put, lsA, lsZ, lsS]
        apply wpAnyH_ready (rs := [19])
        · kernel_rfl
        · simp
        apply AllReadyH.cons (hs := AllReadyH.nil)
        · simp only [List.getElem?_toArray]; rfl
        intro K hK
        rw [if_pos (by rfl)]
        refine wp_putN rfl (g := gb) (old := ⟨0, 0⟩) r rfl rfl HBB.out (fun YC hV hk => ?_)
        replace HBB := Lib.hid hV
        replace HBA := Lib.hid (hk.heap HBA.out (by have := HAB.out; simpa using this))
        replace HAT := Lib.hid (R.put HAT.out hk HFB.out)
        replace HY := Lib.hid (HY.out.trans' hk HGB.out)
        clear hV hk
        refine hK.out _ _ ?_ (fun hHeld => ?_)
        · exact (by rw [HSE.out]; exact HY.out)
        clear hK K
        try simp only [Act.put, lsA, lsZ, lsS]
        apply wpAnyH_take (i := 20)
        · simp only [List.getElem?_toArray]; rfl
        iterate 3 (· kernel_rfl)
        · exact fun _ _ _ h => h
        · exact Or.inl ⟨by rfl, by intro w hSw; go_simp; try with_reducible rfl⟩
        · assumption
        try simp only [Act.put, lsA, lsZ, lsS]
        refine wpAnyH_done (by kernel_rfl) ?_ _
        refine NoPanic.normal ?_
        have HBG := Lib.hid (HY.out.heap HB.out (by simp))
        by_cases hx : e1 = 0
        · subst hx
          go_wp2_with (first
            | ((with_reducible refine wpList_loadM (g := ga) (off := 0) HOK1.out ?_ ?_ (block_range HBA.out) ?_); exact rfl; exact rfl)
            | ((with_reducible refine wpList_putM (g := g6) (old := A) (A := A1) HOK1.out HOK.out ?_ ?_ HBG.out ?_); exact rfl; exact rfl))
          intro YD hV hk
          have HVD := Lib.hid hV
          have HFG := Lib.hid (show ∀ q ∈ R.foot (.agg A1.toArray), w.heap.size < q ∧ q ≠ g6 from fun q hq => by
            rcases HFN.out q hq with h | h
            · exact HFT.out q h
            · have := HSR.out; have := HG6.out; exact ⟨by omega, by omega⟩)
          have HAD := Lib.hid (R.put HAT.out hk (fun q hq => (HFG.out q hq).2))
          have HZD := Lib.hid (hk.heap (HY.out.heap HZR.out (by simp)) (by have := HG6.out; simp; omega))
          have HKD := Lib.hid ((HKW.out.trans HY.out (FSub.refl _ _)).trans hk (fun q hq => .inr (by have := HG6.out; simp at hq; omega)))
          have HSD2 := Lib.hid (show g6 < YD.heap.size from lt_of_block hV)
          clear hV hk
          go_wp2_with fail
          go_roundw
          case rel => exact ⟨k + 1, A1, by go_num, by omega, HVD.out, by rw [HNX.out]; exact HAD.out, HFG.out, HZD.out, HKD.out, HSD2.out⟩
          case measure => simp [intOf]; omega
        · have q0 : (e1 == 0) = false := by simpa using hx
          have HEQ := Lib.hid (HBAD.out hx)
          clear hx
          go_wp2_with fail
          go_roundw
          case rel => exact ⟨k + 1, A, by go_num, by omega, HBG.out, by rw [HNX.out, HEQ.out]; exact R.new_ HAT0.out HY.out, HFT.out, HY.out.heap HZR.out (by simp), HKW.out.trans HY.out (FSub.refl _ _), Nat.lt_of_lt_of_le HSR.out HY.out.size⟩
          case measure => simp [intOf]; omega
      apply AllReadyH.cons
      · simp only [List.getElem?_toArray]; rfl
      · intro K hK
        rw [if_pos (by rfl)]
        refine wp_allocM rfl ?_
        have hk : Keeps [] YC (YC.alloc (.cells mdZ.toArray 29)) := (Keeps.refl _ _).alloc _
        have hb := heap_alloc_new YC (.cells mdZ.toArray 29)
        try have HFA := Lib.hid (fun q hq => (show q ≠ YC.heap.size from Nat.ne_of_lt (R.old HAT.out q hq)))
        try have HAB := Lib.hid (show YC.heap.size ≠ gb from Nat.ne_of_gt HLB.out)
        have HGA := Lib.hid HY.out.size
        try replace HBA := Lib.hid (hk.heap HBA.out (by simp))
        try replace HBB := Lib.hid (hk.heap HBB.out (by simp))
        try replace HAT := Lib.hid (R.new_ HAT.out hk)
        try replace HLA := Lib.hid (Nat.lt_of_lt_of_le HLA.out hk.size)
        try replace HLB := Lib.hid (Nat.lt_of_lt_of_le HLB.out hk.size)
        replace HY := Lib.hid (HY.out.trans hk (FSub.refl _ _))
        have HBA := Lib.hid hb
        have HLA := Lib.hid (lt_of_block hb)
        clear hk hb
        generalize YC.heap.size = ga at *
        generalize YC.alloc (.cells mdZ.toArray 29) = YC at *
        refine hK.out _ _ ?_ (fun hHeld => ?_)
        · exact (by rw [HSE.out]; exact HY.out)
        clear hK K
        try simp only [Act.put, lsA, lsZ, lsS]
        apply wpAnyH_ready (rs := [11, 17])
        · kernel_rfl
        · simp
        apply AllReadyH.cons
        · simp only [List.getElem?_toArray]; rfl
        · intro K hK
          rw [if_pos (by rfl)]
          refine wp_call9 13 _ _ rfl [.agg A.toArray, .int .u8 y.c, y.x.val] rfl Tryz.func13 (by kernel_rfl) (by kernel_rfl) ((HST.out _ HY.out).mono ?_)
          rintro e YC ⟨st1, rfl, hat, hk, hf⟩
          refine ⟨_, rfl, ?_⟩
          try have HFA := Lib.hid (show ∀ q ∈ R.foot st1, q ≠ ga from fun q hq => by
            rcases hf q hq with h | h
            · have h1 := HF0.out q h; have h2 := HGA.out; omega
            · have := HLA.out; omega)
          try have HFB := Lib.hid (show ∀ q ∈ R.foot st1, q ≠ gb from fun q hq => by
            rcases hf q hq with h | h
            · have h1 := HF0.out q h; have h2 := HGB.out; omega
            · have := HLB.out; omega)
          have HFN := Lib.hid (show ∀ q ∈ R.foot st1, q ∈ R.foot (.agg A.toArray) ∨ wr.heap.size ≤ q from fun q hq => (hf q hq).imp id (fun h => Nat.le_trans HY.out.size h))
          try replace HBA := Lib.hid (hk.heap HBA.out (by simp))
          try replace HBB := Lib.hid (hk.heap HBB.out (by simp))
          try replace HAT := Lib.hid (R.new_ HAT.out hk)
          try replace HLA := Lib.hid (Nat.lt_of_lt_of_le HLA.out hk.size)
          try replace HLB := Lib.hid (Nat.lt_of_lt_of_le HLB.out hk.size)
          replace HY := Lib.hid (HY.out.trans hk (FSub.refl _ _))
          have HAT := Lib.hid hat
          obtain ⟨A1, rfl, hok1⟩ := R.cells hat
          have HOK1 := Lib.hid hok1
          clear hat hk hf hok1
          refine hK.out _ _ ?_ (fun hHeld => ?_)
          · exact (by rw [HSE.out]; exact HY.out)
          clear hK K
          try simp only [Act.put, lsA, lsZ, lsS]
          apply wpAnyH_take (i := 12)
          · simp only [List.getElem?_toArray]; rfl
          iterate 3 (· kernel_rfl)
          · exact fun _ _ _ h => h
          · exact Or.inl ⟨by rfl, by intro w hSw; go_simp; try with_reducible rfl⟩
          · assumption
          try simp only [Act.put, lsA, lsZ, lsS]
          apply wpAnyH_take (i := 13)
          · simp only [List.getElem?_toArray]; rfl
          iterate 3 (· kernel_rfl)
          · exact fun _ _ _ h => h
          · exact Or.inl ⟨by rfl, by intro w hSw; go_simp; try with_reducible rfl⟩
          · assumption
          try simp only [Act.put, lsA, lsZ, lsS]
          apply wpAnyH_take (i := 14)
          · simp only [List.getElem?_toArray]; rfl
          iterate 3 (· kernel_rfl)
          · exact fun _ _ _ h => h
          · exact Or.inl ⟨by rfl, by intro w hSw; go_simp; try with_reducible rfl⟩
          · assumption
          try simp only [Act.put, lsA, lsZ, lsS]
          apply wpAnyH_take (i := 15)
          · simp only [List.getElem?_toArray]; rfl
          iterate 3 (· kernel_rfl)
          · exact fun _ _ _ h => h
          · exact Or.inl ⟨by rfl, by intro w hSw; go_simp; try with_reducible rfl⟩
          · assumption
          try simp only [Act.put, lsA, lsZ, lsS]
          apply wpAnyH_ready (rs := [17])
          · kernel_rfl
          · simp
          apply AllReadyH.cons (hs := AllReadyH.nil)
          · simp only [List.getElem?_toArray]; rfl
          intro K hK
          rw [if_pos (by rfl)]
          refine wp_allocA _ _ _ _ rfl ?_
          have hk : Keeps [] YC (YC.alloc (.cells (ansC ⟨0, 0⟩).toArray 25)) := (Keeps.refl _ _).alloc _
          have hb := heap_alloc_new YC (.cells (ansC ⟨0, 0⟩).toArray 25)
          try have HFB := Lib.hid (fun q hq => (show q ≠ YC.heap.size from Nat.ne_of_lt (R.old HAT.out q hq)))
          try have HAB := Lib.hid (show ga ≠ YC.heap.size from Nat.ne_of_lt HLA.out)
          have HGB := Lib.hid HY.out.size
          try replace HBA := Lib.hid (hk.heap HBA.out (by simp))
          try replace HBB := Lib.hid (hk.heap HBB.out (by simp))
          try replace HAT := Lib.hid (R.new_ HAT.out hk)
          try replace HLA := Lib.hid (Nat.lt_of_lt_of_le HLA.out hk.size)
          try replace HLB := Lib.hid (Nat.lt_of_lt_of_le HLB.out hk.size)
          replace HY := Lib.hid (HY.out.trans hk (FSub.refl _ _))
          have HBB := Lib.hid hb
          have HLB := Lib.hid (lt_of_block hb)
          clear hk hb
          generalize YC.heap.size = gb at *
          generalize YC.alloc (.cells (ansC ⟨0, 0⟩).toArray 25) = YC at *
          refine hK.out _ _ ?_ (fun hHeld => ?_)
          · exact (by rw [HSE.out]; exact HY.out)
          clear hK K
          try simp only [Act.put, lsA, lsZ, lsS]
          apply wpAnyH_ready (rs := [18])
          · kernel_rfl
          · simp
          apply AllReadyH.cons (hs := AllReadyH.nil)
          · simp only [List.getElem?_toArray]; rfl
          intro K hK
          rw [if_pos (by rfl)]
          refine skM.wp_put rfl (g := ga) (old := mdZ) (A := A1) HOK1.out mdZ_ok rfl rfl HBA.out (fun YC hV hk => ?_)
          replace HBA := Lib.hid hV
          replace HBB := Lib.hid (hk.heap HBB.out (by have := HAB.out; simp; exact fun e => this e.symm))
          replace HAT := Lib.hid (R.put HAT.out hk HFA.out)
          replace HY := Lib.hid (HY.out.trans' hk HGA.out)
          clear hV hk
          refine hK.out _ _ ?_ (fun hHeld => ?_)
          · exact (by rw [HSE.out]; exact HY.out)
          clear hK K
          try simp only [Act.put, lsA, lsZ, lsS]
          apply wpAnyH_ready (rs := [19])
          · kernel_rfl
          · simp
          apply AllReadyH.cons (hs := AllReadyH.nil)
          · simp only [List.getElem?_toArray]; rfl
          intro K hK
          rw [if_pos (by rfl)]
          refine wp_putN rfl (g := gb) (old := ⟨0, 0⟩) r rfl rfl HBB.out (fun YC hV hk => ?_)
          replace HBB := Lib.hid hV
          replace HBA := Lib.hid (hk.heap HBA.out (by have := HAB.out; simpa using this))
          replace HAT := Lib.hid (R.put HAT.out hk HFB.out)
          replace HY := Lib.hid (HY.out.trans' hk HGB.out)
          clear hV hk
          refine hK.out _ _ ?_ (fun hHeld => ?_)
          · exact (by rw [HSE.out]; exact HY.out)
          clear hK K
          try simp only [Act.put, lsA, lsZ, lsS]
          apply wpAnyH_take (i := 20)
          · simp only [List.getElem?_toArray]; rfl
          iterate 3 (· kernel_rfl)
          · exact fun _ _ _ h => h
          · exact Or.inl ⟨by rfl, by intro w hSw; go_simp; try with_reducible rfl⟩
          · assumption
          try simp only [Act.put, lsA, lsZ, lsS]
          refine wpAnyH_done (by kernel_rfl) ?_ _
          refine NoPanic.normal ?_
          have HBG := Lib.hid (HY.out.heap HB.out (by simp))
          by_cases hx : e1 = 0
          · subst hx
            go_wp2_with (first
              | ((with_reducible refine wpList_loadM (g := ga) (off := 0) HOK1.out ?_ ?_ (block_range HBA.out) ?_); exact rfl; exact rfl)
              | ((with_reducible refine wpList_putM (g := g6) (old := A) (A := A1) HOK1.out HOK.out ?_ ?_ HBG.out ?_); exact rfl; exact rfl))
            intro YD hV hk
            have HVD := Lib.hid hV
            have HFG := Lib.hid (show ∀ q ∈ R.foot (.agg A1.toArray), w.heap.size < q ∧ q ≠ g6 from fun q hq => by
              rcases HFN.out q hq with h | h
              · exact HFT.out q h
              · have := HSR.out; have := HG6.out; exact ⟨by omega, by omega⟩)
            have HAD := Lib.hid (R.put HAT.out hk (fun q hq => (HFG.out q hq).2))
            have HZD := Lib.hid (hk.heap (HY.out.heap HZR.out (by simp)) (by have := HG6.out; simp; omega))
            have HKD := Lib.hid ((HKW.out.trans HY.out (FSub.refl _ _)).trans hk (fun q hq => .inr (by have := HG6.out; simp at hq; omega)))
            have HSD2 := Lib.hid (show g6 < YD.heap.size from lt_of_block hV)
            clear hV hk
            go_wp2_with fail
            go_roundw
            case rel => exact ⟨k + 1, A1, by go_num, by omega, HVD.out, by rw [HNX.out]; exact HAD.out, HFG.out, HZD.out, HKD.out, HSD2.out⟩
            case measure => simp [intOf]; omega
          · have q0 : (e1 == 0) = false := by simpa using hx
            have HEQ := Lib.hid (HBAD.out hx)
            clear hx
            go_wp2_with fail
            go_roundw
            case rel => exact ⟨k + 1, A, by go_num, by omega, HBG.out, by rw [HNX.out, HEQ.out]; exact R.new_ HAT0.out HY.out, HFT.out, HY.out.heap HZR.out (by simp), HKW.out.trans HY.out (FSub.refl _ _), Nat.lt_of_lt_of_le HSR.out HY.out.size⟩
            case measure => simp [intOf]; omega
        apply AllReadyH.cons (hs := AllReadyH.nil)
        · simp only [List.getElem?_toArray]; rfl
        intro K hK
        rw [if_pos (by rfl)]
        refine wp_allocA _ _ _ _ rfl ?_
        have hk : Keeps [] YC (YC.alloc (.cells (ansC ⟨0, 0⟩).toArray 25)) := (Keeps.refl _ _).alloc _
        have hb := heap_alloc_new YC (.cells (ansC ⟨0, 0⟩).toArray 25)
        try have HFB := Lib.hid (fun q hq => (show q ≠ YC.heap.size from Nat.ne_of_lt (R.old HAT.out q hq)))
        try have HAB := Lib.hid (show ga ≠ YC.heap.size from Nat.ne_of_lt HLA.out)
        have HGB := Lib.hid HY.out.size
        try replace HBA := Lib.hid (hk.heap HBA.out (by simp))
        try replace HBB := Lib.hid (hk.heap HBB.out (by simp))
        try replace HAT := Lib.hid (R.new_ HAT.out hk)
        try replace HLA := Lib.hid (Nat.lt_of_lt_of_le HLA.out hk.size)
        try replace HLB := Lib.hid (Nat.lt_of_lt_of_le HLB.out hk.size)
        replace HY := Lib.hid (HY.out.trans hk (FSub.refl _ _))
        have HBB := Lib.hid hb
        have HLB := Lib.hid (lt_of_block hb)
        clear hk hb
        generalize YC.heap.size = gb at *
        generalize YC.alloc (.cells (ansC ⟨0, 0⟩).toArray 25) = YC at *
        refine hK.out _ _ ?_ (fun hHeld => ?_)
        · exact (by rw [HSE.out]; exact HY.out)
        clear hK K
        try simp only [Act.put, lsA, lsZ, lsS]
        apply wpAnyH_ready (rs := [11])
        · kernel_rfl
        · simp
        apply AllReadyH.cons (hs := AllReadyH.nil)
        · simp only [List.getElem?_toArray]; rfl
        intro K hK
        rw [if_pos (by rfl)]
        refine wp_call9 13 _ _ rfl [.agg A.toArray, .int .u8 y.c, y.x.val] rfl Tryz.func13 (by kernel_rfl) (by kernel_rfl) ((HST.out _ HY.out).mono ?_)
        rintro e YC ⟨st1, rfl, hat, hk, hf⟩
        refine ⟨_, rfl, ?_⟩
        try have HFA := Lib.hid (show ∀ q ∈ R.foot st1, q ≠ ga from fun q hq => by
          rcases hf q hq with h | h
          · have h1 := HF0.out q h; have h2 := HGA.out; omega
          · have := HLA.out; omega)
        try have HFB := Lib.hid (show ∀ q ∈ R.foot st1, q ≠ gb from fun q hq => by
          rcases hf q hq with h | h
          · have h1 := HF0.out q h; have h2 := HGB.out; omega
          · have := HLB.out; omega)
        have HFN := Lib.hid (show ∀ q ∈ R.foot st1, q ∈ R.foot (.agg A.toArray) ∨ wr.heap.size ≤ q from fun q hq => (hf q hq).imp id (fun h => Nat.le_trans HY.out.size h))
        try replace HBA := Lib.hid (hk.heap HBA.out (by simp))
        try replace HBB := Lib.hid (hk.heap HBB.out (by simp))
        try replace HAT := Lib.hid (R.new_ HAT.out hk)
        try replace HLA := Lib.hid (Nat.lt_of_lt_of_le HLA.out hk.size)
        try replace HLB := Lib.hid (Nat.lt_of_lt_of_le HLB.out hk.size)
        replace HY := Lib.hid (HY.out.trans hk (FSub.refl _ _))
        have HAT := Lib.hid hat
        obtain ⟨A1, rfl, hok1⟩ := R.cells hat
        have HOK1 := Lib.hid hok1
        clear hat hk hf hok1
        refine hK.out _ _ ?_ (fun hHeld => ?_)
        · exact (by rw [HSE.out]; exact HY.out)
        clear hK K
        try simp only [Act.put, lsA, lsZ, lsS]
        apply wpAnyH_take (i := 12)
        · simp only [List.getElem?_toArray]; rfl
        iterate 3 (· kernel_rfl)
        · exact fun _ _ _ h => h
        · exact Or.inl ⟨by rfl, by intro w hSw; go_simp; try with_reducible rfl⟩
        · assumption
        try simp only [Act.put, lsA, lsZ, lsS]
        apply wpAnyH_take (i := 13)
        · simp only [List.getElem?_toArray]; rfl
        iterate 3 (· kernel_rfl)
        · exact fun _ _ _ h => h
        · exact Or.inl ⟨by rfl, by intro w hSw; go_simp; try with_reducible rfl⟩
        · assumption
        try simp only [Act.put, lsA, lsZ, lsS]
        apply wpAnyH_take (i := 14)
        · simp only [List.getElem?_toArray]; rfl
        iterate 3 (· kernel_rfl)
        · exact fun _ _ _ h => h
        · exact Or.inl ⟨by rfl, by intro w hSw; go_simp; try with_reducible rfl⟩
        · assumption
        try simp only [Act.put, lsA, lsZ, lsS]
        apply wpAnyH_take (i := 15)
        · simp only [List.getElem?_toArray]; rfl
        iterate 3 (· kernel_rfl)
        · exact fun _ _ _ h => h
        · exact Or.inl ⟨by rfl, by intro w hSw; go_simp; try with_reducible rfl⟩
        · assumption
        try simp only [Act.put, lsA, lsZ, lsS]
        apply wpAnyH_ready (rs := [18])
        · kernel_rfl
        · simp
        apply AllReadyH.cons (hs := AllReadyH.nil)
        · simp only [List.getElem?_toArray]; rfl
        intro K hK
        rw [if_pos (by rfl)]
        refine skM.wp_put rfl (g := ga) (old := mdZ) (A := A1) HOK1.out mdZ_ok rfl rfl HBA.out (fun YC hV hk => ?_)
        replace HBA := Lib.hid hV
        replace HBB := Lib.hid (hk.heap HBB.out (by have := HAB.out; simp; exact fun e => this e.symm))
        replace HAT := Lib.hid (R.put HAT.out hk HFA.out)
        replace HY := Lib.hid (HY.out.trans' hk HGA.out)
        clear hV hk
        refine hK.out _ _ ?_ (fun hHeld => ?_)
        · exact (by rw [HSE.out]; exact HY.out)
        clear hK K
        try simp only [Act.put, lsA, lsZ, lsS]
        apply wpAnyH_ready (rs := [19])
        · kernel_rfl
        · simp
        apply AllReadyH.cons (hs := AllReadyH.nil)
        · simp only [List.getElem?_toArray]; rfl
        intro K hK
        rw [if_pos (by rfl)]
        refine wp_putN rfl (g := gb) (old := ⟨0, 0⟩) r rfl rfl HBB.out (fun YC hV hk => ?_)
        replace HBB := Lib.hid hV
        replace HBA := Lib.hid (hk.heap HBA.out (by have := HAB.out; simpa using this))
        replace HAT := Lib.hid (R.put HAT.out hk HFB.out)
        replace HY := Lib.hid (HY.out.trans' hk HGB.out)
        clear hV hk
        refine hK.out _ _ ?_ (fun hHeld => ?_)
        · exact (by rw [HSE.out]; exact HY.out)
        clear hK K
        try simp only [Act.put, lsA, lsZ, lsS]
        apply wpAnyH_take (i := 20)
        · simp only [List.getElem?_toArray]; rfl
        iterate 3 (· kernel_rfl)
        · exact fun _ _ _ h => h
        · exact Or.inl ⟨by rfl, by intro w hSw; go_simp; try with_reducible rfl⟩
        · assumption
        try simp only [Act.put, lsA, lsZ, lsS]
        refine wpAnyH_done (by kernel_rfl) ?_ _
        refine NoPanic.normal ?_
        have HBG := Lib.hid (HY.out.heap HB.out (by simp))
        by_cases hx : e1 = 0
        · subst hx
          go_wp2_with (first
            | ((with_reducible refine wpList_loadM (g := ga) (off := 0) HOK1.out ?_ ?_ (block_range HBA.out) ?_); exact rfl; exact rfl)
            | ((with_reducible refine wpList_putM (g := g6) (old := A) (A := A1) HOK1.out HOK.out ?_ ?_ HBG.out ?_); exact rfl; exact rfl))
          intro YD hV hk
          have HVD := Lib.hid hV
          have HFG := Lib.hid (show ∀ q ∈ R.foot (.agg A1.toArray), w.heap.size < q ∧ q ≠ g6 from fun q hq => by
            rcases HFN.out q hq with h | h
            · exact HFT.out q h
            · have := HSR.out; have := HG6.out; exact ⟨by omega, by omega⟩)
          have HAD := Lib.hid (R.put HAT.out hk (fun q hq => (HFG.out q hq).2))
          have HZD := Lib.hid (hk.heap (HY.out.heap HZR.out (by simp)) (by have := HG6.out; simp; omega))
          have HKD := Lib.hid ((HKW.out.trans HY.out (FSub.refl _ _)).trans hk (fun q hq => .inr (by have := HG6.out; simp at hq; omega)))
          have HSD2 := Lib.hid (show g6 < YD.heap.size from lt_of_block hV)
          clear hV hk
          go_wp2_with fail
          go_roundw
          case rel => exact ⟨k + 1, A1, by go_num, by omega, HVD.out, by rw [HNX.out]; exact HAD.out, HFG.out, HZD.out, HKD.out, HSD2.out⟩
          case measure => simp [intOf]; omega
        · have q0 : (e1 == 0) = false := by simpa using hx
          have HEQ := Lib.hid (HBAD.out hx)
          clear hx
          go_wp2_with fail
          go_roundw
          case rel => exact ⟨k + 1, A, by go_num, by omega, HBG.out, by rw [HNX.out, HEQ.out]; exact R.new_ HAT0.out HY.out, HFT.out, HY.out.heap HZR.out (by simp), HKW.out.trans HY.out (FSub.refl _ _), Nat.lt_of_lt_of_le HSR.out HY.out.size⟩
          case measure => simp [intOf]; omega
      apply AllReadyH.cons (hs := AllReadyH.nil)
      · simp only [List.getElem?_toArray]; rfl
      intro K hK
      rw [if_pos (by rfl)]
      refine wp_allocA _ _ _ _ rfl ?_
      have hk : Keeps [] YC (YC.alloc (.cells (ansC ⟨0, 0⟩).toArray 25)) := (Keeps.refl _ _).alloc _
      have hb := heap_alloc_new YC (.cells (ansC ⟨0, 0⟩).toArray 25)
      try have HFB := Lib.hid (fun q hq => (show q ≠ YC.heap.size from Nat.ne_of_lt (R.old HAT.out q hq)))
      try have HAB := Lib.hid (show ga ≠ YC.heap.size from Nat.ne_of_lt HLA.out)
      have HGB := Lib.hid HY.out.size
      try replace HBA := Lib.hid (hk.heap HBA.out (by simp))
      try replace HBB := Lib.hid (hk.heap HBB.out (by simp))
      try replace HAT := Lib.hid (R.new_ HAT.out hk)
      try replace HLA := Lib.hid (Nat.lt_of_lt_of_le HLA.out hk.size)
      try replace HLB := Lib.hid (Nat.lt_of_lt_of_le HLB.out hk.size)
      replace HY := Lib.hid (HY.out.trans hk (FSub.refl _ _))
      have HBB := Lib.hid hb
      have HLB := Lib.hid (lt_of_block hb)
      clear hk hb
      generalize YC.heap.size = gb at *
      generalize YC.alloc (.cells (ansC ⟨0, 0⟩).toArray 25) = YC at *
      refine hK.out _ _ ?_ (fun hHeld => ?_)
      · exact (by rw [HSE.out]; exact HY.out)
      clear hK K
      try simp only [Act.put, lsA, lsZ, lsS]
      apply wpAnyH_ready (rs := [11, 16])
      · kernel_rfl
      · simp
      apply AllReadyH.cons
      · simp only [List.getElem?_toArray]; rfl
      · intro K hK
        rw [if_pos (by rfl)]
        refine wp_call9 13 _ _ rfl [.agg A.toArray, .int .u8 y.c, y.x.val] rfl Tryz.func13 (by kernel_rfl) (by kernel_rfl) ((HST.out _ HY.out).mono ?_)
        rintro e YC ⟨st1, rfl, hat, hk, hf⟩
        refine ⟨_, rfl, ?_⟩
        try have HFA := Lib.hid (show ∀ q ∈ R.foot st1, q ≠ ga from fun q hq => by
          rcases hf q hq with h | h
          · have h1 := HF0.out q h; have h2 := HGA.out; omega
          · have := HLA.out; omega)
        try have HFB := Lib.hid (show ∀ q ∈ R.foot st1, q ≠ gb from fun q hq => by
          rcases hf q hq with h | h
          · have h1 := HF0.out q h; have h2 := HGB.out; omega
          · have := HLB.out; omega)
        have HFN := Lib.hid (show ∀ q ∈ R.foot st1, q ∈ R.foot (.agg A.toArray) ∨ wr.heap.size ≤ q from fun q hq => (hf q hq).imp id (fun h => Nat.le_trans HY.out.size h))
        try replace HBA := Lib.hid (hk.heap HBA.out (by simp))
        try replace HBB := Lib.hid (hk.heap HBB.out (by simp))
        try replace HAT := Lib.hid (R.new_ HAT.out hk)
        try replace HLA := Lib.hid (Nat.lt_of_lt_of_le HLA.out hk.size)
        try replace HLB := Lib.hid (Nat.lt_of_lt_of_le HLB.out hk.size)
        replace HY := Lib.hid (HY.out.trans hk (FSub.refl _ _))
        have HAT := Lib.hid hat
        obtain ⟨A1, rfl, hok1⟩ := R.cells hat
        have HOK1 := Lib.hid hok1
        clear hat hk hf hok1
        refine hK.out _ _ ?_ (fun hHeld => ?_)
        · exact (by rw [HSE.out]; exact HY.out)
        clear hK K
        try simp only [Act.put, lsA, lsZ, lsS]
        apply wpAnyH_take (i := 12)
        · simp only [List.getElem?_toArray]; rfl
        iterate 3 (· kernel_rfl)
        · exact fun _ _ _ h => h
        · exact Or.inl ⟨by rfl, by intro w hSw; go_simp; try with_reducible rfl⟩
        · assumption
        try simp only [Act.put, lsA, lsZ, lsS]
        apply wpAnyH_take (i := 13)
        · simp only [List.getElem?_toArray]; rfl
        iterate 3 (· kernel_rfl)
        · exact fun _ _ _ h => h
        · exact Or.inl ⟨by rfl, by intro w hSw; go_simp; try with_reducible rfl⟩
        · assumption
        try simp only [Act.put, lsA, lsZ, lsS]
        apply wpAnyH_take (i := 14)
        · simp only [List.getElem?_toArray]; rfl
        iterate 3 (· kernel_rfl)
        · exact fun _ _ _ h => h
        · exact Or.inl ⟨by rfl, by intro w hSw; go_simp; try with_reducible rfl⟩
        · assumption
        try simp only [Act.put, lsA, lsZ, lsS]
        apply wpAnyH_take (i := 15)
        · simp only [List.getElem?_toArray]; rfl
        iterate 3 (· kernel_rfl)
        · exact fun _ _ _ h => h
        · exact Or.inl ⟨by rfl, by intro w hSw; go_simp; try with_reducible rfl⟩
        · assumption
        try simp only [Act.put, lsA, lsZ, lsS]
        apply wpAnyH_ready (rs := [16])
        · kernel_rfl
        · simp
        apply AllReadyH.cons (hs := AllReadyH.nil)
        · simp only [List.getElem?_toArray]; rfl
        intro K hK
        rw [if_pos (by rfl)]
        refine wp_allocM rfl ?_
        have hk : Keeps [] YC (YC.alloc (.cells mdZ.toArray 29)) := (Keeps.refl _ _).alloc _
        have hb := heap_alloc_new YC (.cells mdZ.toArray 29)
        try have HFA := Lib.hid (fun q hq => (show q ≠ YC.heap.size from Nat.ne_of_lt (R.old HAT.out q hq)))
        try have HAB := Lib.hid (show YC.heap.size ≠ gb from Nat.ne_of_gt HLB.out)
        have HGA := Lib.hid HY.out.size
        try replace HBA := Lib.hid (hk.heap HBA.out (by simp))
        try replace HBB := Lib.hid (hk.heap HBB.out (by simp))
        try replace HAT := Lib.hid (R.new_ HAT.out hk)
        try replace HLA := Lib.hid (Nat.lt_of_lt_of_le HLA.out hk.size)
        try replace HLB := Lib.hid (Nat.lt_of_lt_of_le HLB.out hk.size)
        replace HY := Lib.hid (HY.out.trans hk (FSub.refl _ _))
        have HBA := Lib.hid hb
        have HLA := Lib.hid (lt_of_block hb)
        clear hk hb
        generalize YC.heap.size = ga at *
        generalize YC.alloc (.cells mdZ.toArray 29) = YC at *
        refine hK.out _ _ ?_ (fun hHeld => ?_)
        · exact (by rw [HSE.out]; exact HY.out)
        clear hK K
        try simp only [Act.put, lsA, lsZ, lsS]
        apply wpAnyH_ready (rs := [18])
        · kernel_rfl
        · simp
        apply AllReadyH.cons (hs := AllReadyH.nil)
        · simp only [List.getElem?_toArray]; rfl
        intro K hK
        rw [if_pos (by rfl)]
        refine skM.wp_put rfl (g := ga) (old := mdZ) (A := A1) HOK1.out mdZ_ok rfl rfl HBA.out (fun YC hV hk => ?_)
        replace HBA := Lib.hid hV
        replace HBB := Lib.hid (hk.heap HBB.out (by have := HAB.out; simp; exact fun e => this e.symm))
        replace HAT := Lib.hid (R.put HAT.out hk HFA.out)
        replace HY := Lib.hid (HY.out.trans' hk HGA.out)
        clear hV hk
        refine hK.out _ _ ?_ (fun hHeld => ?_)
        · exact (by rw [HSE.out]; exact HY.out)
        clear hK K
        try simp only [Act.put, lsA, lsZ, lsS]
        apply wpAnyH_ready (rs := [19])
        · kernel_rfl
        · simp
        apply AllReadyH.cons (hs := AllReadyH.nil)
        · simp only [List.getElem?_toArray]; rfl
        intro K hK
        rw [if_pos (by rfl)]
        refine wp_putN rfl (g := gb) (old := ⟨0, 0⟩) r rfl rfl HBB.out (fun YC hV hk => ?_)
        replace HBB := Lib.hid hV
        replace HBA := Lib.hid (hk.heap HBA.out (by have := HAB.out; simpa using this))
        replace HAT := Lib.hid (R.put HAT.out hk HFB.out)
        replace HY := Lib.hid (HY.out.trans' hk HGB.out)
        clear hV hk
        refine hK.out _ _ ?_ (fun hHeld => ?_)
        · exact (by rw [HSE.out]; exact HY.out)
        clear hK K
        try simp only [Act.put, lsA, lsZ, lsS]
        apply wpAnyH_take (i := 20)
        · simp only [List.getElem?_toArray]; rfl
        iterate 3 (· kernel_rfl)
        · exact fun _ _ _ h => h
        · exact Or.inl ⟨by rfl, by intro w hSw; go_simp; try with_reducible rfl⟩
        · assumption
        try simp only [Act.put, lsA, lsZ, lsS]
        refine wpAnyH_done (by kernel_rfl) ?_ _
        refine NoPanic.normal ?_
        have HBG := Lib.hid (HY.out.heap HB.out (by simp))
        by_cases hx : e1 = 0
        · subst hx
          go_wp2_with (first
            | ((with_reducible refine wpList_loadM (g := ga) (off := 0) HOK1.out ?_ ?_ (block_range HBA.out) ?_); exact rfl; exact rfl)
            | ((with_reducible refine wpList_putM (g := g6) (old := A) (A := A1) HOK1.out HOK.out ?_ ?_ HBG.out ?_); exact rfl; exact rfl))
          intro YD hV hk
          have HVD := Lib.hid hV
          have HFG := Lib.hid (show ∀ q ∈ R.foot (.agg A1.toArray), w.heap.size < q ∧ q ≠ g6 from fun q hq => by
            rcases HFN.out q hq with h | h
            · exact HFT.out q h
            · have := HSR.out; have := HG6.out; exact ⟨by omega, by omega⟩)
          have HAD := Lib.hid (R.put HAT.out hk (fun q hq => (HFG.out q hq).2))
          have HZD := Lib.hid (hk.heap (HY.out.heap HZR.out (by simp)) (by have := HG6.out; simp; omega))
          have HKD := Lib.hid ((HKW.out.trans HY.out (FSub.refl _ _)).trans hk (fun q hq => .inr (by have := HG6.out; simp at hq; omega)))
          have HSD2 := Lib.hid (show g6 < YD.heap.size from lt_of_block hV)
          clear hV hk
          go_wp2_with fail
          go_roundw
          case rel => exact ⟨k + 1, A1, by go_num, by omega, HVD.out, by rw [HNX.out]; exact HAD.out, HFG.out, HZD.out, HKD.out, HSD2.out⟩
          case measure => simp [intOf]; omega
        · have q0 : (e1 == 0) = false := by simpa using hx
          have HEQ := Lib.hid (HBAD.out hx)
          clear hx
          go_wp2_with fail
          go_roundw
          case rel => exact ⟨k + 1, A, by go_num, by omega, HBG.out, by rw [HNX.out, HEQ.out]; exact R.new_ HAT0.out HY.out, HFT.out, HY.out.heap HZR.out (by simp), HKW.out.trans HY.out (FSub.refl _ _), Nat.lt_of_lt_of_le HSR.out HY.out.size⟩
          case measure => simp [intOf]; omega
      apply AllReadyH.cons (hs := AllReadyH.nil)
      · simp only [List.getElem?_toArray]; rfl
      intro K hK
      rw [if_pos (by rfl)]
      refine wp_allocM rfl ?_
      have hk : Keeps [] YC (YC.alloc (.cells mdZ.toArray 29)) := (Keeps.refl _ _).alloc _
      have hb := heap_alloc_new YC (.cells mdZ.toArray 29)
      try have HFA := Lib.hid (fun q hq => (show q ≠ YC.heap.size from Nat.ne_of_lt (R.old HAT.out q hq)))
      try have HAB := Lib.hid (show YC.heap.size ≠ gb from Nat.ne_of_gt HLB.out)
      have HGA := Lib.hid HY.out.size
      try replace HBA := Lib.hid (hk.heap HBA.out (by simp))
      try replace HBB := Lib.hid (hk.heap HBB.out (by simp))
      try replace HAT := Lib.hid (R.new_ HAT.out hk)
      try replace HLA := Lib.hid (Nat.lt_of_lt_of_le HLA.out hk.size)
      try replace HLB := Lib.hid (Nat.lt_of_lt_of_le HLB.out hk.size)
      replace HY := Lib.hid (HY.out.trans hk (FSub.refl _ _))
      have HBA := Lib.hid hb
      have HLA := Lib.hid (lt_of_block hb)
      clear hk hb
      generalize YC.heap.size = ga at *
      generalize YC.alloc (.cells mdZ.toArray 29) = YC at *
      refine hK.out _ _ ?_ (fun hHeld => ?_)
      · exact (by rw [HSE.out]; exact HY.out)
      clear hK K
      try simp only [Act.put, lsA, lsZ, lsS]
      apply wpAnyH_ready (rs := [11])
      · kernel_rfl
      · simp
      apply AllReadyH.cons (hs := AllReadyH.nil)
      · simp only [List.getElem?_toArray]; rfl
      intro K hK
      rw [if_pos (by rfl)]
      refine wp_call9 13 _ _ rfl [.agg A.toArray, .int .u8 y.c, y.x.val] rfl Tryz.func13 (by kernel_rfl) (by kernel_rfl) ((HST.out _ HY.out).mono ?_)
      rintro e YC ⟨st1, rfl, hat, hk, hf⟩
      refine ⟨_, rfl, ?_⟩
      try have HFA := Lib.hid (show ∀ q ∈ R.foot st1, q ≠ ga from fun q hq => by
        rcases hf q hq with h | h
        · have h1 := HF0.out q h; have h2 := HGA.out; omega
        · have := HLA.out; omega)
      try have HFB := Lib.hid (show ∀ q ∈ R.foot st1, q ≠ gb from fun q hq => by
        rcases hf q hq with h | h
        · have h1 := HF0.out q h; have h2 := HGB.out; omega
        · have := HLB.out; omega)
      have HFN := Lib.hid (show ∀ q ∈ R.foot st1, q ∈ R.foot (.agg A.toArray) ∨ wr.heap.size ≤ q from fun q hq => (hf q hq).imp id (fun h => Nat.le_trans HY.out.size h))
      try replace HBA := Lib.hid (hk.heap HBA.out (by simp))
      try replace HBB := Lib.hid (hk.heap HBB.out (by simp))
      try replace HAT := Lib.hid (R.new_ HAT.out hk)
      try replace HLA := Lib.hid (Nat.lt_of_lt_of_le HLA.out hk.size)
      try replace HLB := Lib.hid (Nat.lt_of_lt_of_le HLB.out hk.size)
      replace HY := Lib.hid (HY.out.trans hk (FSub.refl _ _))
      have HAT := Lib.hid hat
      obtain ⟨A1, rfl, hok1⟩ := R.cells hat
      have HOK1 := Lib.hid hok1
      clear hat hk hf hok1
      refine hK.out _ _ ?_ (fun hHeld => ?_)
      · exact (by rw [HSE.out]; exact HY.out)
      clear hK K
      try simp only [Act.put, lsA, lsZ, lsS]
      apply wpAnyH_take (i := 12)
      · simp only [List.getElem?_toArray]; rfl
      iterate 3 (· kernel_rfl)
      · exact fun _ _ _ h => h
      · exact Or.inl ⟨by rfl, by intro w hSw; go_simp; try with_reducible rfl⟩
      · assumption
      try simp only [Act.put, lsA, lsZ, lsS]
      apply wpAnyH_take (i := 13)
      · simp only [List.getElem?_toArray]; rfl
      iterate 3 (· kernel_rfl)
      · exact fun _ _ _ h => h
      · exact Or.inl ⟨by rfl, by intro w hSw; go_simp; try with_reducible rfl⟩
      · assumption
      try simp only [Act.put, lsA, lsZ, lsS]
      apply wpAnyH_take (i := 14)
      · simp only [List.getElem?_toArray]; rfl
      iterate 3 (· kernel_rfl)
      · exact fun _ _ _ h => h
      · exact Or.inl ⟨by rfl, by intro w hSw; go_simp; try with_reducible rfl⟩
      · assumption
      try simp only [Act.put, lsA, lsZ, lsS]
      apply wpAnyH_take (i := 15)
      · simp only [List.getElem?_toArray]; rfl
      iterate 3 (· kernel_rfl)
      · exact fun _ _ _ h => h
      · exact Or.inl ⟨by rfl, by intro w hSw; go_simp; try with_reducible rfl⟩
      · assumption
      try simp only [Act.put, lsA, lsZ, lsS]
      apply wpAnyH_ready (rs := [18])
      · kernel_rfl
      · simp
      apply AllReadyH.cons (hs := AllReadyH.nil)
      · simp only [List.getElem?_toArray]; rfl
      intro K hK
      rw [if_pos (by rfl)]
      refine skM.wp_put rfl (g := ga) (old := mdZ) (A := A1) HOK1.out mdZ_ok rfl rfl HBA.out (fun YC hV hk => ?_)
      replace HBA := Lib.hid hV
      replace HBB := Lib.hid (hk.heap HBB.out (by have := HAB.out; simp; exact fun e => this e.symm))
      replace HAT := Lib.hid (R.put HAT.out hk HFA.out)
      replace HY := Lib.hid (HY.out.trans' hk HGA.out)
      clear hV hk
      refine hK.out _ _ ?_ (fun hHeld => ?_)
      · exact (by rw [HSE.out]; exact HY.out)
      clear hK K
      try simp only [Act.put, lsA, lsZ, lsS]
      apply wpAnyH_ready (rs := [19])
      · kernel_rfl
      · simp
      apply AllReadyH.cons (hs := AllReadyH.nil)
      · simp only [List.getElem?_toArray]; rfl
      intro K hK
      rw [if_pos (by rfl)]
      refine wp_putN rfl (g := gb) (old := ⟨0, 0⟩) r rfl rfl HBB.out (fun YC hV hk => ?_)
      replace HBB := Lib.hid hV
      replace HBA := Lib.hid (hk.heap HBA.out (by have := HAB.out; simpa using this))
      replace HAT := Lib.hid (R.put HAT.out hk HFB.out)
      replace HY := Lib.hid (HY.out.trans' hk HGB.out)
      clear hV hk
      refine hK.out _ _ ?_ (fun hHeld => ?_)
      · exact (by rw [HSE.out]; exact HY.out)
      clear hK K
      try simp only [Act.put, lsA, lsZ, lsS]
      apply wpAnyH_take (i := 20)
      · simp only [List.getElem?_toArray]; rfl
      iterate 3 (· kernel_rfl)
      · exact fun _ _ _ h => h
      · exact Or.inl ⟨by rfl, by intro w hSw; go_simp; try with_reducible rfl⟩
      · assumption
      try simp only [Act.put, lsA, lsZ, lsS]
      refine wpAnyH_done (by kernel_rfl) ?_ _
      refine NoPanic.normal ?_
      have HBG := Lib.hid (HY.out.heap HB.out (by simp))
      by_cases hx : e1 = 0
      · subst hx
        go_wp2_with (first
          | ((with_reducible refine wpList_loadM (g := ga) (off := 0) HOK1.out ?_ ?_ (block_range HBA.out) ?_); exact rfl; exact rfl)
          | ((with_reducible refine wpList_putM (g := g6) (old := A) (A := A1) HOK1.out HOK.out ?_ ?_ HBG.out ?_); exact rfl; exact rfl))
        intro YD hV hk
        have HVD := Lib.hid hV
        have HFG := Lib.hid (show ∀ q ∈ R.foot (.agg A1.toArray), w.heap.size < q ∧ q ≠ g6 from fun q hq => by
          rcases HFN.out q hq with h | h
          · exact HFT.out q h
          · have := HSR.out; have := HG6.out; exact ⟨by omega, by omega⟩)
        have HAD := Lib.hid (R.put HAT.out hk (fun q hq => (HFG.out q hq).2))
        have HZD := Lib.hid (hk.heap (HY.out.heap HZR.out (by simp)) (by have := HG6.out; simp; omega))
        have HKD := Lib.hid ((HKW.out.trans HY.out (FSub.refl _ _)).trans hk (fun q hq => .inr (by have := HG6.out; simp at hq; omega)))
        have HSD2 := Lib.hid (show g6 < YD.heap.size from lt_of_block hV)
        clear hV hk
        go_wp2_with fail
        go_roundw
        case rel => exact ⟨k + 1, A1, by go_num, by omega, HVD.out, by rw [HNX.out]; exact HAD.out, HFG.out, HZD.out, HKD.out, HSD2.out⟩
        case measure => simp [intOf]; omega
      · have q0 : (e1 == 0) = false := by simpa using hx
        have HEQ := Lib.hid (HBAD.out hx)
        clear hx
        go_wp2_with fail
        go_roundw
        case rel => exact ⟨k + 1, A, by go_num, by omega, HBG.out, by rw [HNX.out, HEQ.out]; exact R.new_ HAT0.out HY.out, HFT.out, HY.out.heap HZR.out (by simp), HKW.out.trans HY.out (FSub.refl _ _), Nat.lt_of_lt_of_le HSR.out HY.out.size⟩
        case measure => simp [intOf]; omega
    · obtain rfl : k = n := by omega
      have hall : l.take k = l := by rw [← HN2.out, List.take_length]
      have HAL := Lib.hid (show R.At wr (.agg A.toArray) (some (bhS (mdInit m) l)) from by have h := HAT0.out; rw [hall] at h; exact h)
      have hb1 : ¬ (k : Int) < k := by omega
      clear hall hlt hk
      go_wp2_with (first
        | ((with_reducible refine wpList_loadM (g := g6) (off := 0) HOK.out ?_ ?_ (block_range HB.out) ?_); exact rfl; exact rfl)
        | ((with_reducible refine wpList_putM (g := w.heap.size) (old := mdZ) (A := A) HOK.out mdZ_ok ?_ ?_ HZR.out ?_); exact rfl; exact rfl))
      intro YD hV hk
      have HVD := Lib.hid hV
      have HAD := Lib.hid (R.put HAL.out hk (fun q hq => by have := (HFT.out q hq).1; omega))
      have HKD := Lib.hid (HKW.out.trans hk (fun q hq => .inr (by simp at hq; omega)))
      clear hV hk
      go_wp2_with fail
      try simp only [Exit.inBlock, Exit.then]
      exact bodyPost_ret (results_sk1 skM rfl _ _ w.heap.size HOK.out rfl HVD.out) rfl ⟨_, rfl, HAD.out, HKD.out, fun q hq => by have := (HFT.out q hq).1; omega⟩
end Go.Proofs.YtdachaekcjbfmaaGreatDoor
/-
  The law's behind of no model, and its awake, over any program's objects.
-/
namespace Go.Proofs.YtdachaekcjbfmaaGreatDoor
open Go.RowKit
section
variable {ops : Array Oper} {rest : List Oper} {a : Act} {w : World} {Q : Exit → Act → World → Prop}
set_option maxRecDepth 100000 in
theorem wpList_litC13 {dst : Option Tmp} {ty : TypeId} {pos : String} {after : Array Edge} {n : Nat} {xs : Array (Nat × Operand)} (L : List Cl) (hn : n = L.length)
    (hx : (xs.toList.map fun p => (p.1, a.eval p.2)) = ((L.map fun y => Value.agg (clC y).toArray).zipIdx 0).map fun x => (x.2, x.1)) (hs : L.length ≤ 1000) (hp : 0 < L.length)
    (h : ∀ W, W.heap.size = w.heap.size + 1 → Keeps [] w W → rkC13.In W.heap.size W (.slice (some ⟨w.heap.size, 0, none⟩) n n) L → wpList Tryz.prog ops Q rest (a.put dst (.slice (some ⟨w.heap.size, 0, none⟩) n n)) W) :
    wpList Tryz.prog ops Q ({ dst := dst, op := .buildSlice 22 n xs, type := ty, pos := pos, after := after, guard := none } :: rest) a w := by
  subst hn
  refine wpList_plain rfl fun _ hK => rkC13.wp_buildL xs L rfl (by rw [Array.toList_map]; exact hx) (by show L.length * 6 ≤ 10000; omega) hp (hK _ _ (h _ (Array.size_push _) ((Keeps.refl [] w).alloc _) ?_))
  exact rkC13.lit_in (heap_alloc_new w _) (by rw [show (w.alloc _).heap.size = w.heap.size + 1 from Array.size_push _]; omega) (by omega)
end
variable {G : World → Prop}
set_option maxHeartbeats 8000000
set_option maxRecDepth 100000
def mwA : List Cl := [⟨0, ⟨7, 0, 3, 5, 0⟩⟩]
def mwB : List Cl := [⟨3, ⟨10, 0, 0, 0, 0⟩⟩]
theorem mwA_in : ∀ y ∈ mwA, y.In := by
  intro y hy
  simp only [mwA, List.mem_cons, List.not_mem_nil, or_false] at hy
  subst hy
  exact ⟨by decide, by decide, ⟨by decide, by decide, by decide, by decide, by decide, by decide, by decide, by decide, by decide, by decide⟩⟩
theorem mwB_in : ∀ y ∈ mwB, y.In := by
  intro y hy
  simp only [mwB, List.mem_cons, List.not_mem_nil, or_false] at hy
  subst hy
  exact cl_in (by decide) (by decide) (by decide) (by decide)
theorem dec_lit {n : Nat} (h : n < 10) : dec (n : Int) = [UInt8.ofNat (48 + n)] := by
  show Lib.decDigits n = _
  rw [dec_small h, Nat.mod_eq_of_lt h]
theorem mwA_X : bhS (mdInit 2) mwA = .mp (kv0.set 3 (some 5)) := rfl
theorem mwB_X : bhS (mdInit 3) mwB = .lk 4 := rfl
theorem mwA_T : bs (mdT (.mp (kv0.set 3 (some 5)))) = { data := #[123, 51, 58, 53, 125] } := by
  have e1 : dec 3 = [51] := dec_lit (n := 3) (by decide)
  have e2 : dec 5 = [53] := dec_lit (n := 5) (by decide)
  have e3 : itOf 0 (kv0.set 3 (some 5)) = [⟨3, 5⟩] := rfl
  show bs (123 :: (spT ((itOf 0 (kv0.set 3 (some 5))).map itT) ++ [125])) = _
  rw [e3]
  show bs (123 :: ((dec 3 ++ 58 :: dec 5) ++ [125])) = _
  rw [e1, e2]
  rfl
theorem mwB_T : bs (mdT (.lk 4)) = { data := #[104, 101, 108, 100, 32, 98, 121, 32, 51] } := by
  have e1 : dec 3 = [51] := dec_lit (n := 3) (by decide)
  show bs (heldT ++ dec 3) = _
  rw [e1]
  rfl
theorem mwA_B : bs (mdB (.mp (kv0.set 3 (some 5)))) = { data := #[8, 0, 5] } := rfl
theorem mwA_I : oInit (some (.mp (kv0.set 3 (some 5)))) = false := rfl
theorem awake13_any (R : MdProg G) (w : World) (hG : G w) : Calls Tryz.prog 11 #[] w fun e w' => e = .returned (.bool true) ∧ Keeps [] w w' := by
  have HG := Lib.hid (fun w' (h : Keeps [] w w') => R.keepG hG h)
  clear hG
  go_enter Tryz.func11, Tryz.ntmps11
  go_wp2_with ((with_reducible refine wpList_litC13 mwA ?_ ?_ ?_ ?_ ?_); exact rfl; exact rfl; exact (by decide); exact (by decide))
  intro w1 hz hk hi
  have HK1 := Lib.hid hk; have HI := Lib.hid hi; clear hz hk hi
  generalize w.heap.size = ga at *
  go_wp2_with fail
  refine (behind13_any R w1 (HG.out _ HK1.out) (m := 2) (by decide) (by decide) mwA_in HI.out (by decide)).mono ?_
  rw [mwA_X]
  rintro e w2 ⟨st, rfl, hat, hk, hf⟩
  obtain ⟨A, rfl, hok⟩ := R.cells hat
  have HK2 := Lib.hid (HK1.out.trans hk (FSub.refl _ _))
  have HOA := Lib.hid hok
  have HC := Lib.hid (show (w2.alloc (.cells mdZA 29)).heap[w2.heap.size]? = some (.cells mdZ.toArray 29 (0, 0)) from heap_alloc_new w2 _)
  have HKC := Lib.hid (show Keeps [] w2 (w2.alloc (.cells mdZA 29)) from (Keeps.refl _ _).alloc _)
  have HAT := Lib.hid (R.new_ hat HKC.out)
  have HFT := Lib.hid (fun q hq => R.old hat q hq)
  clear hat hk hf hok HK1 HI
  go_wp2_with ((with_reducible refine wpList_putM (g := w2.heap.size) (old := mdZ) (A := A) HOA.out mdZ_ok ?_ ?_ HC.out ?_); exact rfl; exact rfl)
  intro w3 hW hk
  have HBA := Lib.hid hW
  have HA3 := Lib.hid (R.put HAT.out hk (fun q hq => Nat.ne_of_lt (HFT.out q hq)))
  have HK3 := Lib.hid (HK2.out.trans (HKC.out.trans' hk (Nat.le_refl _)) (FSub.refl _ _))
  clear hW hk HC HKC HAT HK2 HFT
  generalize w2.heap.size = g1 at *
  go_wp2_with ((with_reducible refine wpList_litC13 mwB ?_ ?_ ?_ ?_ ?_); exact rfl; exact rfl; exact (by decide); exact (by decide))
  intro w4 hz hk hi
  have HI := Lib.hid hi
  have HA4 := Lib.hid (R.new_ HA3.out hk); have HB4 := Lib.hid (hk.heap HBA.out (by simp)); have HK4 := Lib.hid (HK3.out.trans hk (FSub.refl _ _))
  clear hz hk hi HA3 HBA HK3
  generalize w3.heap.size = gb at *
  go_wp2_with fail
  refine (behind13_any R w4 (HG.out _ HK4.out) (m := 3) (by decide) (by decide) mwB_in HI.out (by decide)).mono ?_
  rw [mwB_X]
  rintro e w5 ⟨st, rfl, hat, hk, hf⟩
  obtain ⟨B, rfl, hok⟩ := R.cells hat
  have HK5 := Lib.hid (HK4.out.trans hk (FSub.refl _ _))
  have HOB := Lib.hid hok
  have HA5 := Lib.hid (R.new_ HA4.out hk); have HB5 := Lib.hid (hk.heap HB4.out (by simp))
  have HC := Lib.hid (show (w5.alloc (.cells mdZA 29)).heap[w5.heap.size]? = some (.cells mdZ.toArray 29 (0, 0)) from heap_alloc_new w5 _)
  have HKC := Lib.hid (show Keeps [] w5 (w5.alloc (.cells mdZA 29)) from (Keeps.refl _ _).alloc _)
  have HAT := Lib.hid (R.new_ hat HKC.out)
  have HFT := Lib.hid (fun q hq => R.old hat q hq)
  have HFA := Lib.hid (fun q hq => R.old HA5.out q hq)
  have HL5 := Lib.hid (lt_of_block HB5.out)
  clear hat hk hf hok HA4 HB4 HK4 HI
  go_wp2_with ((with_reducible refine wpList_putM (g := w5.heap.size) (old := mdZ) (A := B) HOB.out mdZ_ok ?_ ?_ HC.out ?_); exact rfl; exact rfl)
  intro w6 hW hk
  have HBB := Lib.hid hW
  have HB6 := Lib.hid (R.put HAT.out hk (fun q hq => Nat.ne_of_lt (HFT.out q hq)))
  have HA6 := Lib.hid (R.put (R.new_ HA5.out HKC.out) hk (fun q hq => Nat.ne_of_lt (HFA.out q hq)))
  have HBA := Lib.hid (hk.heap (HKC.out.heap HB5.out (by simp)) (by have := HL5.out; simp; omega))
  have HK6 := Lib.hid (HK5.out.trans (HKC.out.trans' hk (Nat.le_refl _)) (FSub.refl _ _))
  clear hW hk HC HKC HAT HK5 HFT HA5 HB5 HFA HL5
  generalize w5.heap.size = g3 at *
  go_wp2_with (first
    | ((with_reducible refine wpList_loadM (g := g1) (off := 0) HOA.out ?_ ?_ (block_range HBA.out) ?_); exact rfl; exact rfl))
  have hT := R.text w6 _ _ (HG.out _ HK6.out) HA6.out (show Md.len (.mp (kv0.set 3 (some 5))) ≤ 1000 from by decide)
  simp only [oT, mwA_T] at hT
  refine hT.mono ?_; rintro e w7 ⟨rfl, hk⟩
  clear hT
  have HK7 := Lib.hid (HK6.out.trans hk (FSub.refl _ _)); have HA7 := Lib.hid (R.new_ HA6.out hk); have HB7 := Lib.hid (R.new_ HB6.out hk)
  have HP7 := Lib.hid (hk.heap HBA.out (by simp)); have HQ7 := Lib.hid (hk.heap HBB.out (by simp))
  clear hk HK6 HA6 HB6 HBA HBB
  go_wp2_with ((with_reducible refine wpList_loadM (g := g1) (off := 0) HOA.out ?_ ?_ (block_range HP7.out) ?_); exact rfl; exact rfl)
  have hT := R.enc w7 _ _ (HG.out _ HK7.out) HA7.out (show Md.len (.mp (kv0.set 3 (some 5))) ≤ 1000 from by decide)
  simp only [oB, mwA_B] at hT
  refine hT.mono ?_; rintro e w8 ⟨rfl, hk⟩
  clear hT
  have HK8 := Lib.hid (HK7.out.trans hk (FSub.refl _ _)); have HA8 := Lib.hid (R.new_ HA7.out hk); have HB8 := Lib.hid (R.new_ HB7.out hk)
  have HP8 := Lib.hid (hk.heap HP7.out (by simp)); have HQ8 := Lib.hid (hk.heap HQ7.out (by simp))
  clear hk HK7 HA7 HB7 HP7 HQ7
  go_wp2_with ((with_reducible refine wpList_loadM (g := g1) (off := 0) HOA.out ?_ ?_ (block_range HP8.out) ?_); exact rfl; exact rfl)
  have hT := R.initial w8 _ _ (HG.out _ HK8.out) HA8.out (show Md.len (.mp (kv0.set 3 (some 5))) ≤ 1000 from by decide)
  rw [mwA_I] at hT
  refine hT.mono ?_; rintro e w9 ⟨rfl, hk⟩
  clear hT
  have HK9 := Lib.hid (HK8.out.trans hk (FSub.refl _ _)); have HB9 := Lib.hid (R.new_ HB8.out hk)
  have HQ9 := Lib.hid (hk.heap HQ8.out (by simp))
  clear hk HK8 HA8 HB8 HP8 HQ8
  go_wp2_with ((with_reducible refine wpList_loadM (g := g3) (off := 0) HOB.out ?_ ?_ (block_range HQ9.out) ?_); exact rfl; exact rfl)
  have hT := R.text w9 _ _ (HG.out _ HK9.out) HB9.out (show Md.len (.lk 4) ≤ 1000 from by decide)
  simp only [oT, mwB_T] at hT
  refine hT.mono ?_; rintro e wa ⟨rfl, hk⟩
  clear hT
  have HKA := Lib.hid (HK9.out.trans hk (FSub.refl _ _))
  clear hk
  go_wp2_with fail
  go_ret
  exact ⟨rfl, HKA.out⟩
end Go.Proofs.YtdachaekcjbfmaaGreatDoor
