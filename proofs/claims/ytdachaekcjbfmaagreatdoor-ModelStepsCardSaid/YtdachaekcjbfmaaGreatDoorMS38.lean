/-
  The law ModelSteps, over any program's objects.
-/
import Derived.Test.YtdachaekcjbfmaaGreatDoorMS00
import Derived.Test.YtdachaekcjbfmaaGreatDoorMS37
set_option linter.unusedSimpArgs false
set_option linter.unusedVariables false
namespace Go.Proofs.YtdachaekcjbfmaaGreatDoor
open Go.RowKit
set_option maxRecDepth 100000
section
variable {o : Oper} {a : Act} {w : World} {K : Act → World → Prop} {Q : Exit → Act → World → Prop}
theorem run_allocD (w : World) : (Instr.alloc 36 true (.tuple #[])).run Tryz.prog w = .ok (.pointer (some ⟨w.heap.size, 0, none⟩)) (w.alloc (.cells mdC0.toArray 36)) := by kernel_rfl
theorem wp_allocD (ho : o.op = .alloc 36) (h : K (a.put o.dst (.pointer (some ⟨w.heap.size, 0, none⟩))) (w.alloc (.cells mdC0.toArray 36))) : o.wp Tryz.prog a w K Q := by
  unfold Oper.wp execOp
  simp only [ho, Sem.run_bind, run_allocD, Result.andThen_ok, Sem.run_pure]
  exact h
end
section
variable {ops : Array Oper} {rest : List Oper} {a : Act} {w : World} {Q : Exit → Act → World → Prop}
theorem wpList_loadN13 {dst : Option Tmp} {ty : TypeId} {pos : String} {after : Array Edge} {gd : Option (Nat × Bool)} {x : Operand} {g : Nat} {y : Ans}
    (hw : Region.wanted { dst := dst, op := .load 25 x, type := ty, pos := pos, after := after, guard := gd } (yielded ops a.tmps) = true)
    (hx : a.eval x = .pointer (some ⟨g, 0, none⟩)) (hr : w.heap[g]? = some (.cells (ansC y).toArray 25 (0, 0))) (h : wpList Tryz.prog ops Q rest (a.put dst (.agg #[.int .u8 y.k, .int .u16 y.v])) w) :
    wpList Tryz.prog ops Q ({ dst := dst, op := .load 25 x, type := ty, pos := pos, after := after, guard := gd } :: rest) a w := skR.wpList_load (ansC_ok y) hw hx (block_range hr) h
end
/-- A region's end, told once: what it puts into which slot, and the facts. -/
theorem wp_join13 {P : Program} {c : Code} {Q : Exit → Act → World → Prop} {a : Act} {w : World} (f : Nat → Nat → Value → List Value → Act → Act) (F : Nat → Nat → Value → World → Prop)
    (h : c.wp P (fun e a' w' => e = .normal ∧ ∃ qa qb zv us, a' = f qa qb zv us a ∧ F qa qb zv w') a w)
    (k : ∀ qa qb zv us w', F qa qb zv w' → Q .normal (f qa qb zv us a) w') : c.wp P Q a w :=
  Code.wp_mono (fun e a' w' ⟨he, qa, qb, zv, us, ha, hf⟩ => by subst he; subst ha; exact k qa qb zv us w' hf) h
variable {G : World → Prop}
set_option maxHeartbeats 8000000
theorem ModelSteps_any (R : MdProg G) (F : MdFits R) (w : World) (hG : G w) {m : Int} (h0 : 0 ≤ m) (h3 : m ≤ 3) {v : Value} {l : List Cl} (hl : ∀ y ∈ l, y.In) (hI : rkC13.In w.heap.size w v l) (hn : l.length ≤ 150) (rr : Ans) (hrr : (0 ≤ rr.k ∧ rr.k < 256) ∧ (0 ≤ rr.v ∧ rr.v < 65536)) :
    Calls Tryz.prog 3 #[.int .u8 m, v, .agg (ansC rr).toArray] w fun e w' => e = .returned (.bool true) ∧ Keeps [] w w' := by
  obtain ⟨a, cp, rfl, hc, hm, -⟩ := id hI
  have HZ := Lib.hid (show (w.alloc (.cells #[.int .u8 rr.k, .int .u16 rr.v] 25)).heap[w.heap.size]? = some (.cells (ansC rr).toArray 25 (0, 0)) from heap_alloc_new w _)
  have HKZ := Lib.hid (show Keeps [] w (w.alloc (.cells #[.int .u8 rr.k, .int .u16 rr.v] 25)) from (Keeps.refl _ _).alloc _)
  have HN := Lib.hid (R.new _ m (R.keepG hG HKZ.out) ⟨h0, by omega⟩)
  rw [if_pos h3, show oNew m = some (mdInit m) from if_pos h3] at HN
  have HIN := Lib.hid hI; have HLI := Lib.hid hl; have HGL := Lib.hid (fun w' (h : Keeps [] w w') => R.keepG hG h)
  have HRR := Lib.hid hrr
  have HLE := Lib.hid (fun k => show (bhS (mdInit m) (l.take k)).len ≤ 150 from by
    have h1 := bhS_len (mdInit m) (l.take k)
    rw [mdInit_len] at h1
    have h2 : (l.take k).length ≤ l.length := by rw [List.length_take]; omega
    omega)
  clear hI hl hG hrr
  generalize hn2 : l.length = n at *
  have HN2 := Lib.hid hn2
  have hn3 : ¬ (150 : Int) < n := by omega
  clear hn2
  go_enter Tryz.func3, Tryz.ntmps3
  go_wp2_with fail
  refine HN.out.mono ?_; rintro e w1 ⟨st0, rfl, hat, hk1, hf0⟩
  obtain ⟨A0, rfl, hok0⟩ := R.cells hat
  have hz1 : (w.alloc (.cells #[.int .u8 rr.k, .int .u16 rr.v] 25)).heap.size = w.heap.size + 1 := Array.size_push _
  have HZ1 := Lib.hid (hk1.heap HZ.out (by simp))
  have HK1 := Lib.hid (HKZ.out.trans hk1 (FSub.refl _ _))
  have HOK0 := Lib.hid hok0
  have HC := Lib.hid (show (w1.alloc (.cells mdZA 29)).heap[w1.heap.size]? = some (.cells mdZ.toArray 29 (0, 0)) from heap_alloc_new w1 _)
  have HKC := Lib.hid (show Keeps [] w1 (w1.alloc (.cells mdZA 29)) from (Keeps.refl _ _).alloc _)
  have HA1 := Lib.hid (R.new_ hat HKC.out)
  have HF1 := Lib.hid (fun q hq => R.old hat q hq)
  clear hat hk1 hf0 hok0 HN HZ HKZ
  go_wp2_with ((with_reducible refine wpList_putM (g := w1.heap.size) (old := mdZ) (A := A0) HOK0.out mdZ_ok ?_ ?_ HC.out ?_); exact rfl; exact rfl)
  intro w2 hW2 hk2
  have HB2 := Lib.hid hW2
  have HA2 := Lib.hid (R.put HA1.out hk2 (fun q hq => Nat.ne_of_lt (HF1.out q hq)))
  have hk12 := HKC.out.trans' hk2 (Nat.le_refl _)
  have HK2 := Lib.hid (HK1.out.trans hk12 (FSub.refl _ _))
  have HZ2 := Lib.hid (hk12.heap HZ1.out (by simp))
  have HLG := Lib.hid (lt_of_block HZ1.out)
  have HL2 := Lib.hid (lt_of_block hW2)
  clear hW2 hk2 hk12 HC HKC HA1 HK1 HZ1
  generalize w1.heap.size = g7 at *
  go_wp2_with fail
  refine (r13New_any w2 m h0 (by omega)).mono ?_; rintro e w3 ⟨rfl, hk3⟩
  rw [if_pos h3, if_pos h3]
  have HI3 := Lib.hid (D13.init w3 m)
  have HOI := Lib.hid HI3.out.ok
  have HK3 := Lib.hid (HK2.out.trans hk3 (FSub.refl _ _)); have HA3 := Lib.hid (R.new_ HA2.out hk3)
  have HB3 := Lib.hid (hk3.heap HB2.out (by simp)); have HZ3 := Lib.hid (hk3.heap HZ2.out (by simp)); have HL3 := Lib.hid (Nat.lt_of_lt_of_le HL2.out hk3.size)
  have HC := Lib.hid (show (w3.alloc (.cells #[.int .u8 0, .int .u16 0, .slice none 0 0, .slice none 0 0, .int .i64 0] 36)).heap[w3.heap.size]? = some (.cells mdC0.toArray 36 (0, 0)) from heap_alloc_new w3 _)
  have HKC := Lib.hid (show Keeps [] w3 (w3.alloc (.cells #[.int .u8 0, .int .u16 0, .slice none 0 0, .slice none 0 0, .int .i64 0] 36)) from (Keeps.refl _ _).alloc _)
  clear hk3 HK2 HA2 HB2 HZ2 HL2
  go_wp2_with ((with_reducible refine wpList_putD (g := w3.heap.size) (old := mdC0) (A := mdC (mdInit m) (.slice none 0 0) (.slice none 0 0)) HOI.out mdC0_ok ?_ ?_ HC.out ?_); exact rfl; exact rfl)
  intro w4 hW4 hk4
  have hk34 := HKC.out.trans' hk4 (Nat.le_refl _)
  have HD4 := Lib.hid hW4
  have HA4 := Lib.hid (R.new_ HA3.out hk34); have HI4 := Lib.hid (HI3.out.new hk34); have HK4 := Lib.hid (HK3.out.trans hk34 (FSub.refl _ _))
  have HB4 := Lib.hid (hk34.heap HB3.out (by simp)); have HZ4 := Lib.hid (hk34.heap HZ3.out (by simp))
  clear hW4 hk4 hk34 HC HKC HA3 HI3 HK3 HB3 HZ3
  generalize w3.heap.size = g9 at *
  go_wp2_with (first
    | ((with_reducible refine wpList_loadM (g := g7) (off := 0) HOK0.out ?_ ?_ (block_range HB4.out) ?_); exact rfl; exact rfl)
    | ((with_reducible refine wpList_loadD (g := g9) (off := 0) HOI.out ?_ ?_ (block_range HD4.out) ?_); exact rfl; exact rfl))
  refine (alike13_any R w4 (HGL.out _ HK4.out) HA4.out (by rw [mdInit_len]; omega) HI4.out).mono ?_; rintro e w5 ⟨rfl, hk5⟩
  have HK5 := Lib.hid (HK4.out.trans hk5 (FSub.refl _ _)); have HA5 := Lib.hid (R.new_ HA4.out hk5); have HI5 := Lib.hid (HI4.out.new hk5)
  have HB5 := Lib.hid (hk5.heap HB4.out (by simp)); have HZ5 := Lib.hid (hk5.heap HZ4.out (by simp)); have HD5 := Lib.hid (hk5.heap HD4.out (by simp))
  clear hk5 HK4 HA4 HI4 HB4 HZ4 HD4
  go_wp2_with fail
  go_loopw [11] (fun i wr => ∃ (k : Nat) (A : List Value) (q mm : Value), i = .int .i64 k ∧ k ≤ n ∧ skM.Ok A ∧ wr.heap[g7]? = some (.cells A.toArray 29 (0, 0)) ∧ wr.heap[g9]? = some (.cells (mdC (bhS (mdInit m) (l.take k)) q mm).toArray 36 (0, 0)) ∧ R.At wr (.agg A.toArray) (some (bhS (mdInit m) (l.take k))) ∧ D13 wr (bhS (mdInit m) (l.take k)) q mm ∧ (∀ q ∈ R.foot (.agg A.toArray), q ≠ g7 ∧ q ≠ g9) ∧ ((bhS (mdInit m) (l.take k)).list ≠ [] → ∀ p ∈ own q, p ≠ g7 ∧ p ≠ g9) ∧ (∀ t, (bhS (mdInit m) (l.take k)).items t → t ≠ [] → ∀ p ∈ own mm, p ≠ g7 ∧ p ≠ g9) ∧ wr.heap[w.heap.size]? = some (.cells (ansC rr).toArray 25 (0, 0)) ∧ Keeps [] w wr) (fun i _ => n - (intOf i).toNat)
  case atStart => exact ⟨0, A0, .slice none 0 0, .slice none 0 0, rfl, by omega, HOK0.out, HB5.out, HD5.out, HA5.out, HI5.out, fun q hq => by have := HF1.out q hq; have := HL3.out; omega, fun _ p hp => (nomatch (show p ∈ ([] : List Nat) from hp)), fun _ _ _ p hp => (nomatch (show p ∈ ([] : List Nat) from hp)), HZ5.out, HK5.out⟩
  case round =>
    obtain ⟨k, A, q, mm, rfl, hk, hok, hb, hd, hat, hi, hft, hoq, hom, hz, hkw⟩ := hrel
    have HOK := Lib.hid hok; have HB := Lib.hid hb; have HD := Lib.hid hd; have HAT0 := Lib.hid hat; have HI := Lib.hid hi; have HFT := Lib.hid hft; have HOQ := Lib.hid hoq; have HOM := Lib.hid hom; have HZ := Lib.hid hz; have HK := Lib.hid hkw
    clear hok hb hd hat hi hft hoq hom hz hkw HOK0 HB5 HD5 HA5 HI5 HZ5 HK5 HF1
    by_cases hlt : k < n
    · have hkl : k < l.length := by have := HN2.out; omega
      obtain ⟨g, o, rfl, hg, hr⟩ := InC13_at (HIN.out.new HK.out (Nat.le_refl _)) hkl
      have HRW := Lib.hid hr
      have HNX := Lib.hid (bhS_next (S := mdInit m) hkl)
      have HXI := Lib.hid (HLI.out l[k] (List.getElem_mem hkl))
      have HLK := Lib.hid (HLE.out k)
      have hb1 : (k : Int) < n := by omega
      have hb0 : 0 ≤ (k : Int) := by omega
      have HF0 := Lib.hid (fun q hq => R.old HAT0.out q hq)
      have HSI := Lib.hid (R.in_ HAT0.out)
      clear hr
      generalize l[k] = y at *
      generalize bhS (mdInit m) (l.take k) = S at *
      have HQ0 := Lib.hid (fun hn p hp => HI.out.old_q hn p hp)
      have HM0 := Lib.hid (fun t ht hn p hp => HI.out.old_m (t := t) ht hn p hp)
      have HQK := Lib.hid HI.out.ok
      have HST := Lib.hid (fun w' (h : Keeps [] wr w') => R.step w' _ (some S) y.c y.x (HGL.out _ (HK.out.trans h (FSub.refl _ _))) (R.new_ HAT0.out h) (show S.len ≤ 1000 from by have := HLK.out; omega) ⟨HXI.out.c0, HXI.out.c1⟩ HXI.out.x)
      have HDS := Lib.hid (fun w' (h : Keeps [] wr w') => r13Step_any w' HSI.out (by have := HLK.out; omega) (HI.out.new h) ⟨HXI.out.c0, HXI.out.c1⟩ y.x HXI.out.x)
      have HFS := Lib.hid (fun w' (h : Keeps [] wr w') => F.fits w' _ (some S) y.c y.x rr (HGL.out _ (HK.out.trans h (FSub.refl _ _))) (R.new_ HAT0.out h) (show S.len ≤ 1000 from by have := HLK.out; omega) ⟨HXI.out.c0, HXI.out.c1⟩ HXI.out.x HRR.out)
      have HL1 := Lib.hid (mdX_len S y.c y.x)
      have hX : oX (some S) y.c y.x = (some (mdX S y.c y.x).1, (mdX S y.c y.x).2.1, (mdX S y.c y.x).2.2) := rfl
      rw [hX] at HST HFS
      clear hX
      generalize mdX S y.c y.x = X at HST HDS HFS HNX HL1
      obtain ⟨S1, r, e1⟩ := X
      simp only [Post13] at HST HDS HFS HNX HL1
      have hS2 : (if e1 = 0 ∧ r = rr then some S1 else some S) = some (if e1 = 0 ∧ r = rr then S1 else S) := by split <;> rfl
      rw [hS2] at HFS
      clear hS2
      obtain ⟨D, hD⟩ : ∃ D, D = decide (e1 = 0 ∧ r = rr) := ⟨_, rfl⟩
      obtain ⟨S2, hS2⟩ : ∃ S2, S2 = (if e1 = 0 ∧ r = rr then S1 else S) := ⟨_, rfl⟩
      rw [← hD, ← hS2] at HFS
      have HDD := Lib.hid hD; have HSS := Lib.hid hS2
      clear hD hS2
      go_wp2_with fail
      refine wp_join13 (fun qa qb zv us a => (((((((((((((((((((a.put (some 58) (us.getD 0 undef)).put (some 59) (us.getD 1 undef)).put (some 60) (us.getD 2 undef)).put (some 61) (us.getD 3 undef)).put (some 62) (us.getD 4 undef)).put (some 63) (us.getD 5 undef)).put (some 64) (us.getD 6 undef)).put (some 65) (us.getD 7 undef)).put (some 66) (us.getD 8 undef)).put (some 67) (us.getD 9 undef)).put (some 68) (us.getD 10 undef)).put (some 69) (us.getD 11 undef)).put (some 57) (us.getD 12 undef)).put (some 70) (us.getD 13 undef)).put (some 71) (us.getD 14 undef)).put (some 72) (us.getD 15 undef)).put (some 12) (.pointer (some ⟨qa, 0, none⟩))).put (some 13) (.pointer (some ⟨qb, 0, none⟩))).put (some 14) (.int .i64 e1))) (fun qa qb zv w' => ∃ A1 : List Value, zv = .agg A1.toArray ∧ skM.Ok A1 ∧ w'.heap[qa]? = some (.cells A1.toArray 29 (0, 0)) ∧ w'.heap[qb]? = some (.cells (ansC r).toArray 25 (0, 0)) ∧ R.At w' (.agg A1.toArray) (some S1) ∧ (∀ q ∈ R.foot (.agg A1.toArray), q ∈ R.foot (.agg A.toArray) ∨ wr.heap.size ≤ q) ∧ (∀ q ∈ R.foot (.agg A1.toArray), q ≠ qa) ∧ (∀ q ∈ R.foot (.agg A1.toArray), q ≠ qb) ∧ Keeps [] wr w' ∧ wr.heap.size ≤ qa ∧ wr.heap.size ≤ qb ∧ qa ≠ qb) ?_ ?_
      · obtain ⟨S0, hS0⟩ : ∃ S0 : World → Prop, S0 = fun y => Keeps [] wr y := ⟨_, rfl⟩
        have HSE := Lib.hid hS0
        have hSD : S0 wr.drew := by rw [hS0]; exact (Keeps.refl _ _).drew
        have HSA := Lib.hid (fun (w' : World) (hh : S0 w') => show w'.rangeAt g7 0 A from by rw [hS0] at hh; exact fun j v hv => hh.cell (block_range HB.out j v hv) (by simp))
        have HSC := Lib.hid (fun (w' : World) (hh : S0 w') => show w'.cell? ⟨g, o + k * 6, none⟩ = some (.int .u8 y.c) from by rw [hS0] at hh; exact hh.cell (cl_parts HRW.out).1 (by simp))
        have HSX := Lib.hid (fun (w' : World) (hh : S0 w') => show w'.rangeAt g (o + k * 6 + 1) (opC y.x) from by rw [hS0] at hh; exact fun j v hv => hh.cell ((cl_parts HRW.out).2 j v hv) (by simp))
        clear hS0
        refine wp_region_noPanic ?_
        refine wp_region_held_drew (S := S0) (by kernel_rfl) hSD (fun hHeld => ?_)
        apply wpAnyH_take (i := 0)
        · simp only [List.getElem?_toArray]; rfl
        iterate 3 (· kernel_rfl)
        · exact fun _ _ _ h => h
        · exact skM.yields HOK.out rfl _ rfl g7 0 rfl HSA.out
        · assumption
        try simp only [Act.put, lsA, lsZ, lsS]
        apply wpAnyH_take (i := 1)
        · simp only [List.getElem?_toArray]; rfl
        iterate 3 (· kernel_rfl)
        · exact fun _ _ _ h => h
        · exact Or.inl ⟨by rfl, by intro w hSw; go_simp; try with_reducible rfl⟩
        · assumption
        try simp only [Act.put, lsA, lsZ, lsS]
        apply wpAnyH_take (i := 2)
        · simp only [List.getElem?_toArray]; rfl
        iterate 3 (· kernel_rfl)
        · exact fun _ _ _ h => h
        · exact Or.inl ⟨by rfl, by intro w hSw; go_simp; try with_reducible rfl⟩
        · assumption
        try simp only [Act.put, lsA, lsZ, lsS]
        apply wpAnyH_take (i := 3)
        · simp only [List.getElem?_toArray]; rfl
        iterate 3 (· kernel_rfl)
        · exact fun _ _ _ h => h
        · exact yields_indexC13 rfl _ _ rfl g o n cp k rfl rfl hlt
        · assumption
        try simp only [Act.put, lsA, lsZ, lsS]
        apply wpAnyH_take (i := 4)
        · simp only [List.getElem?_toArray]; rfl
        iterate 3 (· kernel_rfl)
        · exact fun _ _ _ h => h
        · exact Or.inl ⟨by rfl, by intro w hSw; go_simp; try with_reducible rfl⟩
        · assumption
        try simp only [Act.put, lsA, lsZ, lsS]
        apply wpAnyH_take (i := 5)
        · simp only [List.getElem?_toArray]; rfl
        iterate 3 (· kernel_rfl)
        · exact fun _ _ _ h => h
        · exact Or.inl ⟨by rfl, by intro w hSw; have q0 := HSC.out w hSw; go_simp; try with_reducible rfl⟩
        · assumption
        try simp only [Act.put, lsA, lsZ, lsS]
        apply wpAnyH_take (i := 6)
        · simp only [List.getElem?_toArray]; rfl
        iterate 3 (· kernel_rfl)
        · exact fun _ _ _ h => h
        · exact Or.inl ⟨by rfl, by intro w hSw; go_simp; try with_reducible rfl⟩
        · assumption
        try simp only [Act.put, lsA, lsZ, lsS]
        apply wpAnyH_take (i := 7)
        · simp only [List.getElem?_toArray]; rfl
        iterate 3 (· kernel_rfl)
        · exact fun _ _ _ h => h
        · exact Or.inl ⟨by rfl, by intro w hSw; go_simp; try with_reducible rfl⟩
        · assumption
        try simp only [Act.put, lsA, lsZ, lsS]
        apply wpAnyH_take (i := 8)
        · simp only [List.getElem?_toArray]; rfl
        iterate 3 (· kernel_rfl)
        · exact fun _ _ _ h => h
        · exact yields_indexC13 rfl _ _ rfl g o n cp k rfl rfl hlt
        · assumption
        try simp only [Act.put, lsA, lsZ, lsS]
        apply wpAnyH_take (i := 9)
        · simp only [List.getElem?_toArray]; rfl
        iterate 3 (· kernel_rfl)
        · exact fun _ _ _ h => h
        · exact Or.inl ⟨by rfl, by intro w hSw; go_simp; try with_reducible rfl⟩
        · assumption
        try simp only [Act.put, lsA, lsZ, lsS]
        apply wpAnyH_take (i := 10)
        · simp only [List.getElem?_toArray]; rfl
        iterate 3 (· kernel_rfl)
        · exact fun _ _ _ h => h
        · exact yields_loadP y.x rfl _ rfl g _ rfl HSX.out
        · assumption
        try simp only [Act.put, lsA, lsZ, lsS]
        have HY := Lib.hid ((Keeps.refl [] wr).drew)
        generalize wr.drew = YC at *
        apply wpAnyH_ready (rs := [11, 16, 17])
        · kernel_rfl
        · simp
        apply AllReadyH.cons
        · simp only [List.getElem?_toArray]; rfl
        · intro K hK
          rw [if_pos (by rfl)]
          refine wp_call9 13 _ _ rfl [.agg A.toArray, .int .u8 y.c, y.x.val] rfl Tryz.func13 (by kernel_rfl) (by kernel_rfl) ((HST.out _ HY.out).mono ?_)
          rintro e YC ⟨st1, rfl, hat, hk, hf⟩
          refine ⟨_, rfl, ?_⟩
          try have HFA := Lib.hid (show ∀ q ∈ R.foot st1, q ≠ ga from fun q hq => by
            rcases hf q hq with h | h
            · have h1 := HF0.out q h; have h2 := HGA.out; omega
            · have := HLA.out; omega)
          try have HFB := Lib.hid (show ∀ q ∈ R.foot st1, q ≠ gb from fun q hq => by
            rcases hf q hq with h | h
            · have h1 := HF0.out q h; have h2 := HGB.out; omega
            · have := HLB.out; omega)
          have HFN := Lib.hid (show ∀ q ∈ R.foot st1, q ∈ R.foot (.agg A.toArray) ∨ wr.heap.size ≤ q from fun q hq => (hf q hq).imp id (fun h => Nat.le_trans HY.out.size h))
          try replace HBA := Lib.hid (hk.heap HBA.out (by simp))
          try replace HBB := Lib.hid (hk.heap HBB.out (by simp))
          try replace HAT := Lib.hid (R.new_ HAT.out hk)
          try replace HLA := Lib.hid (Nat.lt_of_lt_of_le HLA.out hk.size)
          try replace HLB := Lib.hid (Nat.lt_of_lt_of_le HLB.out hk.size)
          replace HY := Lib.hid (HY.out.trans hk (FSub.refl _ _))
          have HAT := Lib.hid hat
          obtain ⟨A1, rfl, hok1⟩ := R.cells hat
          have HOK1 := Lib.hid hok1
          clear hat hk hf hok1
          refine hK.out _ _ ?_ (fun hHeld => ?_)
          · exact (by rw [HSE.out]; exact HY.out)
          clear hK K
          try simp only [Act.put, lsA, lsZ, lsS]
          apply wpAnyH_take (i := 12)
          · simp only [List.getElem?_toArray]; rfl
          iterate 3 (· kernel_rfl)
          · exact fun _ _ _ h => h
          · exact Or.inl ⟨by rfl, by intro w hSw; go_simp; try with_reducible rfl⟩
          · assumption
          try simp only [Act.put, lsA, lsZ, lsS]
          apply wpAnyH_take (i := 13)
          · simp only [List.getElem?_toArray]; rfl
          iterate 3 (· kernel_rfl)
          · exact fun _ _ _ h => h
          · exact Or.inl ⟨by rfl, by intro w hSw; go_simp; try with_reducible rfl⟩
          · assumption
          try simp only [Act.put, lsA, lsZ, lsS]
          apply wpAnyH_take (i := 14)
          · simp only [List.getElem?_toArray]; rfl
          iterate 3 (· kernel_rfl)
          · exact fun _ _ _ h => h
          · exact Or.inl ⟨by rfl, by intro w hSw; go_simp; try with_reducible rfl⟩
          · assumption
          try simp only [Act.put, lsA, lsZ, lsS]
          apply wpAnyH_take (i := 15)
          · simp only [List.getElem?_toArray]; rfl
          iterate 3 (· kernel_rfl)
          · exact fun _ _ _ h => h
          · exact Or.inl ⟨by rfl, by intro w hSw; go_simp; try with_reducible rfl⟩
          · assumption
          try simp only [Act.put, lsA, lsZ, lsS]
          apply wpAnyH_ready (rs := [16, 17])
          · kernel_rfl
          · simp
          apply AllReadyH.cons
          · simp only [List.getElem?_toArray]; rfl
          · intro K hK
            rw [if_pos (by rfl)]
            refine wp_allocM rfl ?_
            have hk : Keeps [] YC (YC.alloc (.cells mdZ.toArray 29)) := (Keeps.refl _ _).alloc _
            have hb := heap_alloc_new YC (.cells mdZ.toArray 29)
            try have HFA := Lib.hid (fun q hq => (show q ≠ YC.heap.size from Nat.ne_of_lt (R.old HAT.out q hq)))
            try have HAB := Lib.hid (show YC.heap.size ≠ gb from Nat.ne_of_gt HLB.out)
            have HGA := Lib.hid HY.out.size
            try replace HBA := Lib.hid (hk.heap HBA.out (by simp))
            try replace HBB := Lib.hid (hk.heap HBB.out (by simp))
            try replace HAT := Lib.hid (R.new_ HAT.out hk)
            try replace HLA := Lib.hid (Nat.lt_of_lt_of_le HLA.out hk.size)
            try replace HLB := Lib.hid (Nat.lt_of_lt_of_le HLB.out hk.size)
            replace HY := Lib.hid (HY.out.trans hk (FSub.refl _ _))
            have HBA := Lib.hid hb
            have HLA := Lib.hid (lt_of_block hb)
            clear hk hb
            generalize YC.heap.size = ga at *
            generalize YC.alloc (.cells mdZ.toArray 29) = YC at *
            refine hK.out _ _ ?_ (fun hHeld => ?_)
            · exact (by rw [HSE.out]; exact HY.out)
            clear hK K
            try simp only [Act.put, lsA, lsZ, lsS]
            apply wpAnyH_ready (rs := [17])
            · kernel_rfl
            · simp
            apply AllReadyH.cons (hs := AllReadyH.nil)
            · simp only [List.getElem?_toArray]; rfl
            intro K hK
            rw [if_pos (by rfl)]
            refine wp_allocA _ _ _ _ rfl ?_
            have hk : Keeps [] YC (YC.alloc (.cells (ansC ⟨0, 0⟩).toArray 25)) := (Keeps.refl _ _).alloc _
            have hb := heap_alloc_new YC (.cells (ansC ⟨0, 0⟩).toArray 25)
            try have HFB := Lib.hid (fun q hq => (show q ≠ YC.heap.size from Nat.ne_of_lt (R.old HAT.out q hq)))
            try have HAB := Lib.hid (show ga ≠ YC.heap.size from Nat.ne_of_lt HLA.out)
            have HGB := Lib.hid HY.out.size
            try replace HBA := Lib.hid (hk.heap HBA.out (by simp))
            try replace HBB := Lib.hid (hk.heap HBB.out (by simp))
            try replace HAT := Lib.hid (R.new_ HAT.out hk)
            try replace HLA := Lib.hid (Nat.lt_of_lt_of_le HLA.out hk.size)
            try replace HLB := Lib.hid (Nat.lt_of_lt_of_le HLB.out hk.size)
            replace HY := Lib.hid (HY.out.trans hk (FSub.refl _ _))
            have HBB := Lib.hid hb
            have HLB := Lib.hid (lt_of_block hb)
            clear hk hb
            generalize YC.heap.size = gb at *
            generalize YC.alloc (.cells (ansC ⟨0, 0⟩).toArray 25) = YC at *
            refine hK.out _ _ ?_ (fun hHeld => ?_)
            · exact (by rw [HSE.out]; exact HY.out)
            clear hK K
            try simp only [Act.put, lsA, lsZ, lsS]
            apply wpAnyH_ready (rs := [18])
            · kernel_rfl
            · simp
            apply AllReadyH.cons (hs := AllReadyH.nil)
            · simp only [List.getElem?_toArray]; rfl
            intro K hK
            rw [if_pos (by rfl)]
            refine skM.wp_put rfl (g := ga) (old := mdZ) (A := A1) HOK1.out mdZ_ok rfl rfl HBA.out (fun YC hV hk => ?_)
            replace HBA := Lib.hid hV
            replace HBB := Lib.hid (hk.heap HBB.out (by have := HAB.out; simp; exact fun e => this e.symm))
            replace HAT := Lib.hid (R.put HAT.out hk HFA.out)
            replace HY := Lib.hid (HY.out.trans' hk HGA.out)
            clear hV hk
            refine hK.out _ _ ?_ (fun hHeld => ?_)
            · exact (by rw [HSE.out]; exact HY.out)
            clear hK K
            try simp only [Act.put, lsA, lsZ, lsS]
            apply wpAnyH_ready (rs := [19])
            · kernel_rfl
            · simp
            apply AllReadyH.cons (hs := AllReadyH.nil)
            · simp only [List.getElem?_toArray]; rfl
            intro K hK
            rw [if_pos (by rfl)]
            refine wp_putN rfl (g := gb) (old := ⟨0, 0⟩) r rfl rfl HBB.out (fun YC hV hk => ?_)
            replace HBB := Lib.hid hV
            replace HBA := Lib.hid (hk.heap HBA.out (by have := HAB.out; simpa using this))
            replace HAT := Lib.hid (R.put HAT.out hk HFB.out)
            replace HY := Lib.hid (HY.out.trans' hk HGB.out)
            clear hV hk
            refine hK.out _ _ ?_ (fun hHeld => ?_)
            · exact (by rw [HSE.out]; exact HY.out)
            clear hK K
            try simp only [Act.put, lsA, lsZ, lsS]
            apply wpAnyH_take (i := 20)
            · simp only [List.getElem?_toArray]; rfl
            iterate 3 (· kernel_rfl)
            · exact fun _ _ _ h => h
            · exact Or.inl ⟨by rfl, by intro w hSw; go_simp; try with_reducible rfl⟩
            · assumption
            try simp only [Act.put, lsA, lsZ, lsS]
            refine wpAnyH_done (by kernel_rfl) ?_ _
            refine NoPanic.normal ?_
            exact ⟨rfl, ga, gb, .agg A1.toArray, [_, _, _, _, _, _, _, _, _, _, _, _, _, _, _, _], rfl, A1, rfl, HOK1.out, HBA.out, HBB.out, HAT.out, HFN.out, HFA.out, HFB.out, HY.out, HGA.out, HGB.out, HAB.out⟩
          apply AllReadyH.cons (hs := AllReadyH.nil)
          · simp only [List.getElem?_toArray]; rfl
          intro K hK
          rw [if_pos (by rfl)]
          refine wp_allocA _ _ _ _ rfl ?_
          have hk : Keeps [] YC (YC.alloc (.cells (ansC ⟨0, 0⟩).toArray 25)) := (Keeps.refl _ _).alloc _
          have hb := heap_alloc_new YC (.cells (ansC ⟨0, 0⟩).toArray 25)
          try have HFB := Lib.hid (fun q hq => (show q ≠ YC.heap.size from Nat.ne_of_lt (R.old HAT.out q hq)))
          try have HAB := Lib.hid (show ga ≠ YC.heap.size from Nat.ne_of_lt HLA.out)
          have HGB := Lib.hid HY.out.size
          try replace HBA := Lib.hid (hk.heap HBA.out (by simp))
          try replace HBB := Lib.hid (hk.heap HBB.out (by simp))
          try replace HAT := Lib.hid (R.new_ HAT.out hk)
          try replace HLA := Lib.hid (Nat.lt_of_lt_of_le HLA.out hk.size)
          try replace HLB := Lib.hid (Nat.lt_of_lt_of_le HLB.out hk.size)
          replace HY := Lib.hid (HY.out.trans hk (FSub.refl _ _))
          have HBB := Lib.hid hb
          have HLB := Lib.hid (lt_of_block hb)
          clear hk hb
          generalize YC.heap.size = gb at *
          generalize YC.alloc (.cells (ansC ⟨0, 0⟩).toArray 25) = YC at *
          refine hK.out _ _ ?_ (fun hHeld => ?_)
          · exact (by rw [HSE.out]; exact HY.out)
          clear hK K
          try simp only [Act.put, lsA, lsZ, lsS]
          apply wpAnyH_ready (rs := [16])
          · kernel_rfl
          · simp
          apply AllReadyH.cons (hs := AllReadyH.nil)
          · simp only [List.getElem?_toArray]; rfl
          intro K hK
          rw [if_pos (by rfl)]
          refine wp_allocM rfl ?_
          have hk : Keeps [] YC (YC.alloc (.cells mdZ.toArray 29)) := (Keeps.refl _ _).alloc _
          have hb := heap_alloc_new YC (.cells mdZ.toArray 29)
          try have HFA := Lib.hid (fun q hq => (show q ≠ YC.heap.size from Nat.ne_of_lt (R.old HAT.out q hq)))
          try have HAB := Lib.hid (show YC.heap.size ≠ gb from Nat.ne_of_gt HLB.out)
          have HGA := Lib.hid HY.out.size
          try replace HBA := Lib.hid (hk.heap HBA.out (by simp))
          try replace HBB := Lib.hid (hk.heap HBB.out (by simp))
          try replace HAT := Lib.hid (R.new_ HAT.out hk)
          try replace HLA := Lib.hid (Nat.lt_of_lt_of_le HLA.out hk.size)
          try replace HLB := Lib.hid (Nat.lt_of_lt_of_le HLB.out hk.size)
          replace HY := Lib.hid (HY.out.trans hk (FSub.refl _ _))
          have HBA := Lib.hid hb
          have HLA := Lib.hid (lt_of_block hb)
          clear hk hb
          generalize YC.heap.size = ga at *
          generalize YC.alloc (.cells mdZ.toArray 29) = YC at *
          refine hK.out _ _ ?_ (fun hHeld => ?_)
          · exact (by rw [HSE.out]; exact HY.out)
          clear hK K
          try simp only [Act.put, lsA, lsZ, lsS]
          apply wpAnyH_ready (rs := [18])
          · kernel_rfl
          · simp
          apply AllReadyH.cons (hs := AllReadyH.nil)
          · simp only [List.getElem?_toArray]; rfl
          intro K hK
          rw [if_pos (by rfl)]
          refine skM.wp_put rfl (g := ga) (old := mdZ) (A := A1) HOK1.out mdZ_ok rfl rfl HBA.out (fun YC hV hk => ?_)
          replace HBA := Lib.hid hV
          replace HBB := Lib.hid (hk.heap HBB.out (by have := HAB.out; simp; exact fun e => this e.symm))
          replace HAT := Lib.hid (R.put HAT.out hk HFA.out)
          replace HY := Lib.hid (HY.out.trans' hk HGA.out)
          clear hV hk
          refine hK.out _ _ ?_ (fun hHeld => ?_)
          · exact (by rw [HSE.out]; exact HY.out)
          clear hK K
          try simp only [Act.put, lsA, lsZ, lsS]
          apply wpAnyH_ready (rs := [19])
          · kernel_rfl
          · simp
          apply AllReadyH.cons (hs := AllReadyH.nil)
          · simp only [List.getElem?_toArray]; rfl
          intro K hK
          rw [if_pos (by rfl)]
          refine wp_putN rfl (g := gb) (old := ⟨0, 0⟩) r rfl rfl HBB.out (fun YC hV hk => ?_)
          replace HBB := Lib.hid hV
          replace HBA := Lib.hid (hk.heap HBA.out (by have := HAB.out; simpa using this))
          replace HAT := Lib.hid (R.put HAT.out hk HFB.out)
          replace HY := Lib.hid (HY.out.trans' hk HGB.out)
          clear hV hk
          refine hK.out _ _ ?_ (fun hHeld => ?_)
          · exact (by rw [HSE.out]; exact HY.out)
          clear hK K
          try simp only [Act.put, lsA, lsZ, lsS]
          apply wpAnyH_take (i := 20)
          · simp only [List.getElem?_toArray]; rfl
          iterate 3 (· kernel_rfl)
          · exact fun _ _ _ h => h
          · exact Or.inl ⟨by rfl, by intro w hSw; go_simp; try with_reducible rfl⟩
          · assumption
          try simp only [Act.put, lsA, lsZ, lsS]
          refine wpAnyH_done (by kernel_rfl) ?_ _
          refine NoPanic.normal ?_
          exact ⟨rfl, ga, gb, .agg A1.toArray, [_, _, _, _, _, _, _, _, _, _, _, _, _, _, _, _], rfl, A1, rfl, HOK1.out, HBA.out, HBB.out, HAT.out, HFN.out, HFA.out, HFB.out, HY.out, HGA.out, HGB.out, HAB.out⟩
        apply AllReadyH.cons
        · simp only [List.getElem?_toArray]; rfl
        · intro K hK
          rw [if_pos (by rfl)]
          refine wp_allocM rfl ?_
          have hk : Keeps [] YC (YC.alloc (.cells mdZ.toArray 29)) := (Keeps.refl _ _).alloc _
          have hb := heap_alloc_new YC (.cells mdZ.toArray 29)
          try have HFA := Lib.hid (fun q hq => (show q ≠ YC.heap.size from Nat.ne_of_lt (R.old HAT.out q hq)))
          try have HAB := Lib.hid (show YC.heap.size ≠ gb from Nat.ne_of_gt HLB.out)
          have HGA := Lib.hid HY.out.size
          try replace HBA := Lib.hid (hk.heap HBA.out (by simp))
          try replace HBB := Lib.hid (hk.heap HBB.out (by simp))
          try replace HAT := Lib.hid (R.new_ HAT.out hk)
          try replace HLA := Lib.hid (Nat.lt_of_lt_of_le HLA.out hk.size)
          try replace HLB := Lib.hid (Nat.lt_of_lt_of_le HLB.out hk.size)
          replace HY := Lib.hid (HY.out.trans hk (FSub.refl _ _))
          have HBA := Lib.hid hb
          have HLA := Lib.hid (lt_of_block hb)
          clear hk hb
          generalize YC.heap.size = ga at *
          generalize YC.alloc (.cells mdZ.toArray 29) = YC at *
          refine hK.out _ _ ?_ (fun hHeld => ?_)
          · exact (by rw [HSE.out]; exact HY.out)
          clear hK K
          try simp only [Act.put, lsA, lsZ, lsS]
          apply wpAnyH_ready (rs := [11, 17])
          · kernel_rfl
          · simp
          apply AllReadyH.cons
          · simp only [List.getElem?_toArray]; rfl
          · intro K hK
            rw [if_pos (by rfl)]
            refine wp_call9 13 _ _ rfl [.agg A.toArray, .int .u8 y.c, y.x.val] rfl Tryz.func13 (by kernel_rfl) (by kernel_rfl) ((HST.out _ HY.out).mono ?_)
            rintro e YC ⟨st1, rfl, hat, hk, hf⟩
            refine ⟨_, rfl, ?_⟩
            try have HFA := Lib.hid (show ∀ q ∈ R.foot st1, q ≠ ga from fun q hq => by
              rcases hf q hq with h | h
              · have h1 := HF0.out q h; have h2 := HGA.out; omega
              · have := HLA.out; omega)
            try have HFB := Lib.hid (show ∀ q ∈ R.foot st1, q ≠ gb from fun q hq => by
              rcases hf q hq with h | h
              · have h1 := HF0.out q h; have h2 := HGB.out; omega
              · have := HLB.out; omega)
            have HFN := Lib.hid (show ∀ q ∈ R.foot st1, q ∈ R.foot (.agg A.toArray) ∨ wr.heap.size ≤ q from fun q hq => (hf q hq).imp id (fun h => Nat.le_trans HY.out.size h))
            try replace HBA := Lib.hid (hk.heap HBA.out (by simp))
            try replace HBB := Lib.hid (hk.heap HBB.out (by simp))
            try replace HAT := Lib.hid (R.new_ HAT.out hk)
            try replace HLA := Lib.hid (Nat.lt_of_lt_of_le HLA.out hk.size)
            try replace HLB := Lib.hid (Nat.lt_of_lt_of_le HLB.out hk.size)
            replace HY := Lib.hid (HY.out.trans hk (FSub.refl _ _))
            have HAT := Lib.hid hat
            obtain ⟨A1, rfl, hok1⟩ := R.cells hat
            have HOK1 := Lib.hid hok1
            clear hat hk hf hok1
            refine hK.out _ _ ?_ (fun hHeld => ?_)
            · exact (by rw [HSE.out]; exact HY.out)
            clear hK K
            try simp only [Act.put, lsA, lsZ, lsS]
            apply wpAnyH_take (i := 12)
            · simp only [List.getElem?_toArray]; rfl
            iterate 3 (· kernel_rfl)
            · exact fun _ _ _ h => h
            · exact Or.inl ⟨by rfl, by intro w hSw; go_simp; try with_reducible rfl⟩
            · assumption
            try simp only [Act.put, lsA, lsZ, lsS]
            apply wpAnyH_take (i := 13)
            · simp only [List.getElem?_toArray]; rfl
            iterate 3 (· kernel_rfl)
            · exact fun _ _ _ h => h
            · exact Or.inl ⟨by rfl, by intro w hSw; go_simp; try with_reducible rfl⟩
            · assumption
            try simp only [Act.put, lsA, lsZ, lsS]
            apply wpAnyH_take (i := 14)
            · simp only [List.getElem?_toArray]; rfl
            iterate 3 (· kernel_rfl)
            · exact fun _ _ _ h => h
            · exact Or.inl ⟨by rfl, by intro w hSw; go_simp; try with_reducible rfl⟩
            · assumption
            try simp only [Act.put, lsA, lsZ, lsS]
            apply wpAnyH_take (i := 15)
            · simp only [List.getElem?_toArray]; rfl
            iterate 3 (· kernel_rfl)
            · exact fun _ _ _ h => h
            · exact Or.inl ⟨by rfl, by intro w hSw; go_simp; try with_reducible rfl⟩
            · assumption
            try simp only [Act.put, lsA, lsZ, lsS]
            apply wpAnyH_ready (rs := [17])
            · kernel_rfl
            · simp
            apply AllReadyH.cons (hs := AllReadyH.nil)
            · simp only [List.getElem?_toArray]; rfl
            intro K hK
            rw [if_pos (by rfl)]
            refine wp_allocA _ _ _ _ rfl ?_
            have hk : Keeps [] YC (YC.alloc (.cells (ansC ⟨0, 0⟩).toArray 25)) := (Keeps.refl _ _).alloc _
            have hb := heap_alloc_new YC (.cells (ansC ⟨0, 0⟩).toArray 25)
            try have HFB := Lib.hid (fun q hq => (show q ≠ YC.heap.size from Nat.ne_of_lt (R.old HAT.out q hq)))
            try have HAB := Lib.hid (show ga ≠ YC.heap.size from Nat.ne_of_lt HLA.out)
            have HGB := Lib.hid HY.out.size
            try replace HBA := Lib.hid (hk.heap HBA.out (by simp))
            try replace HBB := Lib.hid (hk.heap HBB.out (by simp))
            try replace HAT := Lib.hid (R.new_ HAT.out hk)
            try replace HLA := Lib.hid (Nat.lt_of_lt_of_le HLA.out hk.size)
            try replace HLB := Lib.hid (Nat.lt_of_lt_of_le HLB.out hk.size)
            replace HY := Lib.hid (HY.out.trans hk (FSub.refl _ _))
            have HBB := Lib.hid hb
            have HLB := Lib.hid (lt_of_block hb)
            clear hk hb
            generalize YC.heap.size = gb at *
            generalize YC.alloc (.cells (ansC ⟨0, 0⟩).toArray 25) = YC at *
            refine hK.out _ _ ?_ (fun hHeld => ?_)
            · exact (by rw [HSE.out]; exact HY.out)
            clear hK K
            try simp only [Act.put, lsA, lsZ, lsS]
            apply wpAnyH_ready (rs := [18])
            · kernel_rfl
            · simp
            apply AllReadyH.cons (hs := AllReadyH.nil)
            · simp only [List.getElem?_toArray]; rfl
            intro K hK
            rw [if_pos (by rfl)]
            refine skM.wp_put rfl (g := ga) (old := mdZ) (A := A1) HOK1.out mdZ_ok rfl rfl HBA.out (fun YC hV hk => ?_)
            replace HBA := Lib.hid hV
            replace HBB := Lib.hid (hk.heap HBB.out (by have := HAB.out; simp; exact fun e => this e.symm))
            replace HAT := Lib.hid (R.put HAT.out hk HFA.out)
            replace HY := Lib.hid (HY.out.trans' hk HGA.out)
            clear hV hk
            refine hK.out _ _ ?_ (fun hHeld => ?_)
            · exact (by rw [HSE.out]; exact HY.out)
            clear hK K
            try simp only [Act.put, lsA, lsZ, lsS]
            apply wpAnyH_ready (rs := [19])
            · kernel_rfl
            · simp
            apply AllReadyH.cons (hs := AllReadyH.nil)
            · simp only [List.getElem?_toArray]; rfl
            intro K hK
            rw [if_pos (by rfl)]
            refine wp_putN rfl (g := gb) (old := ⟨0, 0⟩) r rfl rfl HBB.out (fun YC hV hk => ?_)
            replace HBB := Lib.hid hV
            replace HBA := Lib.hid (hk.heap HBA.out (by have := HAB.out; simpa using this))
            replace HAT := Lib.hid (R.put HAT.out hk HFB.out)
            replace HY := Lib.hid (HY.out.trans' hk HGB.out)
            clear hV hk
            refine hK.out _ _ ?_ (fun hHeld => ?_)
            · exact (by rw [HSE.out]; exact HY.out)
            clear hK K
            try simp only [Act.put, lsA, lsZ, lsS]
            apply wpAnyH_take (i := 20)
            · simp only [List.getElem?_toArray]; rfl
            iterate 3 (· kernel_rfl)
            · exact fun _ _ _ h => h
            · exact Or.inl ⟨by rfl, by intro w hSw; go_simp; try with_reducible rfl⟩
            · assumption
            try simp only [Act.put, lsA, lsZ, lsS]
            refine wpAnyH_done (by kernel_rfl) ?_ _
            refine NoPanic.normal ?_
            exact ⟨rfl, ga, gb, .agg A1.toArray, [_, _, _, _, _, _, _, _, _, _, _, _, _, _, _, _], rfl, A1, rfl, HOK1.out, HBA.out, HBB.out, HAT.out, HFN.out, HFA.out, HFB.out, HY.out, HGA.out, HGB.out, HAB.out⟩
          apply AllReadyH.cons (hs := AllReadyH.nil)
          · simp only [List.getElem?_toArray]; rfl
          intro K hK
          rw [if_pos (by rfl)]
          refine wp_allocA _ _ _ _ rfl ?_
          have hk : Keeps [] YC (YC.alloc (.cells (ansC ⟨0, 0⟩).toArray 25)) := (Keeps.refl _ _).alloc _
          have hb := heap_alloc_new YC (.cells (ansC ⟨0, 0⟩).toArray 25)
          try have HFB := Lib.hid (fun q hq => (show q ≠ YC.heap.size from Nat.ne_of_lt (R.old HAT.out q hq)))
          try have HAB := Lib.hid (show ga ≠ YC.heap.size from Nat.ne_of_lt HLA.out)
          have HGB := Lib.hid HY.out.size
          try replace HBA := Lib.hid (hk.heap HBA.out (by simp))
          try replace HBB := Lib.hid (hk.heap HBB.out (by simp))
          try replace HAT := Lib.hid (R.new_ HAT.out hk)
          try replace HLA := Lib.hid (Nat.lt_of_lt_of_le HLA.out hk.size)
          try replace HLB := Lib.hid (Nat.lt_of_lt_of_le HLB.out hk.size)
          replace HY := Lib.hid (HY.out.trans hk (FSub.refl _ _))
          have HBB := Lib.hid hb
          have HLB := Lib.hid (lt_of_block hb)
          clear hk hb
          generalize YC.heap.size = gb at *
          generalize YC.alloc (.cells (ansC ⟨0, 0⟩).toArray 25) = YC at *
          refine hK.out _ _ ?_ (fun hHeld => ?_)
          · exact (by rw [HSE.out]; exact HY.out)
          clear hK K
          try simp only [Act.put, lsA, lsZ, lsS]
          apply wpAnyH_ready (rs := [11])
          · kernel_rfl
          · simp
          apply AllReadyH.cons (hs := AllReadyH.nil)
          · simp only [List.getElem?_toArray]; rfl
          intro K hK
          rw [if_pos (by rfl)]
          refine wp_call9 13 _ _ rfl [.agg A.toArray, .int .u8 y.c, y.x.val] rfl Tryz.func13 (by kernel_rfl) (by kernel_rfl) ((HST.out _ HY.out).mono ?_)
          rintro e YC ⟨st1, rfl, hat, hk, hf⟩
          refine ⟨_, rfl, ?_⟩
          try have HFA := Lib.hid (show ∀ q ∈ R.foot st1, q ≠ ga from fun q hq => by
            rcases hf q hq with h | h
            · have h1 := HF0.out q h; have h2 := HGA.out; omega
            · have := HLA.out; omega)
          try have HFB := Lib.hid (show ∀ q ∈ R.foot st1, q ≠ gb from fun q hq => by
            rcases hf q hq with h | h
            · have h1 := HF0.out q h; have h2 := HGB.out; omega
            · have := HLB.out; omega)
          have HFN := Lib.hid (show ∀ q ∈ R.foot st1, q ∈ R.foot (.agg A.toArray) ∨ wr.heap.size ≤ q from fun q hq => (hf q hq).imp id (fun h => Nat.le_trans HY.out.size h))
          try replace HBA := Lib.hid (hk.heap HBA.out (by simp))
          try replace HBB := Lib.hid (hk.heap HBB.out (by simp))
          try replace HAT := Lib.hid (R.new_ HAT.out hk)
          try replace HLA := Lib.hid (Nat.lt_of_lt_of_le HLA.out hk.size)
          try replace HLB := Lib.hid (Nat.lt_of_lt_of_le HLB.out hk.size)
          replace HY := Lib.hid (HY.out.trans hk (FSub.refl _ _))
          have HAT := Lib.hid hat
          obtain ⟨A1, rfl, hok1⟩ := R.cells hat
          have HOK1 := Lib.hid hok1
          clear hat hk hf hok1
          refine hK.out _ _ ?_ (fun hHeld => ?_)
          · exact (by rw [HSE.out]; exact HY.out)
          clear hK K
          try simp only [Act.put, lsA, lsZ, lsS]
          apply wpAnyH_take (i := 12)
          · simp only [List.getElem?_toArray]; rfl
          iterate 3 (· kernel_rfl)
          · exact fun _ _ _ h => h
          · exact Or.inl ⟨by rfl, by intro w hSw; go_simp; try with_reducible rfl⟩
          · assumption
          try simp only [Act.put, lsA, lsZ, lsS]
          apply wpAnyH_take (i := 13)
          · simp only [List.getElem?_toArray]; rfl
          iterate 3 (· kernel_rfl)
          · exact fun _ _ _ h => h
          · exact Or.inl ⟨by rfl, by intro w hSw; go_simp; try with_reducible rfl⟩
          · assumption
          try simp only [Act.put, lsA, lsZ, lsS]
          apply wpAnyH_take (i := 14)
          · simp only [List.getElem?_toArray]; rfl
          iterate 3 (· kernel_rfl)
          · exact fun _ _ _ h => h
          · exact Or.inl ⟨by rfl, by intro w hSw; go_simp; try with_reducible rfl⟩
          · assumption
          try simp only [Act.put, lsA, lsZ, lsS]
          apply wpAnyH_take (i := 15)
          · simp only [List.getElem?_toArray]; rfl
          iterate 3 (· kernel_rfl)
          · exact fun _ _ _ h => h
          · exact Or.inl ⟨by rfl, by intro w hSw; go_simp; try with_reducible rfl⟩
          · assumption
          try simp only [Act.put, lsA, lsZ, lsS]
          apply wpAnyH_ready (rs := [18])
          · kernel_rfl
          · simp
          apply AllReadyH.cons (hs := AllReadyH.nil)
          · simp only [List.getElem?_toArray]; rfl
          intro K hK
          rw [if_pos (by rfl)]
          refine skM.wp_put rfl (g := ga) (old := mdZ) (A := A1) HOK1.out mdZ_ok rfl rfl HBA.out (fun YC hV hk => ?_)
          replace HBA := Lib.hid hV
          replace HBB := Lib.hid (hk.heap HBB.out (by have := HAB.out; simp; exact fun e => this e.symm))
          replace HAT := Lib.hid (R.put HAT.out hk HFA.out)
          replace HY := Lib.hid (HY.out.trans' hk HGA.out)
          clear hV hk
          refine hK.out _ _ ?_ (fun hHeld => ?_)
          · exact (by rw [HSE.out]; exact HY.out)
          clear hK K
          try simp only [Act.put, lsA, lsZ, lsS]
          apply wpAnyH_ready (rs := [19])
          · kernel_rfl
          · simp
          apply AllReadyH.cons (hs := AllReadyH.nil)
          · simp only [List.getElem?_toArray]; rfl
          intro K hK
          rw [if_pos (by rfl)]
          refine wp_putN rfl (g := gb) (old := ⟨0, 0⟩) r rfl rfl HBB.out (fun YC hV hk => ?_)
          replace HBB := Lib.hid hV
          replace HBA := Lib.hid (hk.heap HBA.out (by have := HAB.out; simpa using this))
          replace HAT := Lib.hid (R.put HAT.out hk HFB.out)
          replace HY := Lib.hid (HY.out.trans' hk HGB.out)
          clear hV hk
          refine hK.out _ _ ?_ (fun hHeld => ?_)
          · exact (by rw [HSE.out]; exact HY.out)
          clear hK K
          try simp only [Act.put, lsA, lsZ, lsS]
          apply wpAnyH_take (i := 20)
          · simp only [List.getElem?_toArray]; rfl
          iterate 3 (· kernel_rfl)
          · exact fun _ _ _ h => h
          · exact Or.inl ⟨by rfl, by intro w hSw; go_simp; try with_reducible rfl⟩
          · assumption
          try simp only [Act.put, lsA, lsZ, lsS]
          refine wpAnyH_done (by kernel_rfl) ?_ _
          refine NoPanic.normal ?_
          exact ⟨rfl, ga, gb, .agg A1.toArray, [_, _, _, _, _, _, _, _, _, _, _, _, _, _, _, _], rfl, A1, rfl, HOK1.out, HBA.out, HBB.out, HAT.out, HFN.out, HFA.out, HFB.out, HY.out, HGA.out, HGB.out, HAB.out⟩
        apply AllReadyH.cons (hs := AllReadyH.nil)
        · simp only [List.getElem?_toArray]; rfl
        intro K hK
        rw [if_pos (by rfl)]
        refine wp_allocA _ _ _ _ rfl ?_
        have hk : Keeps [] YC (YC.alloc (.cells (ansC ⟨0, 0⟩).toArray 25)) := (Keeps.refl _ _).alloc _
        have hb := heap_alloc_new YC (.cells (ansC ⟨0, 0⟩).toArray 25)
        try have HFB := Lib.hid (fun q hq => (show q ≠ YC.heap.size from Nat.ne_of_lt (R.old HAT.out q hq)))
        try have HAB := Lib.hid (show ga ≠ YC.heap.size from Nat.ne_of_lt HLA.out)
        have HGB := Lib.hid HY.out.size
        try replace HBA := Lib.hid (hk.heap HBA.out (by simp))
        try replace HBB := Lib.hid (hk.heap HBB.out (by simp))
        try replace HAT := Lib.hid (R.new_ HAT.out hk)
        try replace HLA := Lib.hid (Nat.lt_of_lt_of_le HLA.out hk.size)
        try replace HLB := Lib.hid (Nat.lt_of_lt_of_le HLB.out hk.size)
        replace HY := Lib.hid (HY.out.trans hk (FSub.refl _ _))
        have HBB := Lib.hid hb
        have HLB := Lib.hid (lt_of_block hb)
        clear hk hb
        generalize YC.heap.size = gb at *
        generalize YC.alloc (.cells (ansC ⟨0, 0⟩).toArray 25) = YC at *
        refine hK.out _ _ ?_ (fun hHeld => ?_)
        · exact (by rw [HSE.out]; exact HY.out)
        clear hK K
        try simp only [Act.put, lsA, lsZ, lsS]
        apply wpAnyH_ready (rs := [11, 16])
        · kernel_rfl
        · simp
        apply AllReadyH.cons
        · simp only [List.getElem?_toArray]; rfl
        · intro K hK
          rw [if_pos (by rfl)]
          refine wp_call9 13 _ _ rfl [.agg A.toArray, .int .u8 y.c, y.x.val] rfl Tryz.func13 (by kernel_rfl) (by kernel_rfl) ((HST.out _ HY.out).mono ?_)
          rintro e YC ⟨st1, rfl, hat, hk, hf⟩
          refine ⟨_, rfl, ?_⟩
          try have HFA := Lib.hid (show ∀ q ∈ R.foot st1, q ≠ ga from fun q hq => by
            rcases hf q hq with h | h
            · have h1 := HF0.out q h; have h2 := HGA.out; omega
            · have := HLA.out; omega)
          try have HFB := Lib.hid (show ∀ q ∈ R.foot st1, q ≠ gb from fun q hq => by
            rcases hf q hq with h | h
            · have h1 := HF0.out q h; have h2 := HGB.out; omega
            · have := HLB.out; omega)
          have HFN := Lib.hid (show ∀ q ∈ R.foot st1, q ∈ R.foot (.agg A.toArray) ∨ wr.heap.size ≤ q from fun q hq => (hf q hq).imp id (fun h => Nat.le_trans HY.out.size h))
          try replace HBA := Lib.hid (hk.heap HBA.out (by simp))
          try replace HBB := Lib.hid (hk.heap HBB.out (by simp))
          try replace HAT := Lib.hid (R.new_ HAT.out hk)
          try replace HLA := Lib.hid (Nat.lt_of_lt_of_le HLA.out hk.size)
          try replace HLB := Lib.hid (Nat.lt_of_lt_of_le HLB.out hk.size)
          replace HY := Lib.hid (HY.out.trans hk (FSub.refl _ _))
          have HAT := Lib.hid hat
          obtain ⟨A1, rfl, hok1⟩ := R.cells hat
          have HOK1 := Lib.hid hok1
          clear hat hk hf hok1
          refine hK.out _ _ ?_ (fun hHeld => ?_)
          · exact (by rw [HSE.out]; exact HY.out)
          clear hK K
          try simp only [Act.put, lsA, lsZ, lsS]
          apply wpAnyH_take (i := 12)
          · simp only [List.getElem?_toArray]; rfl
          iterate 3 (· kernel_rfl)
          · exact fun _ _ _ h => h
          · exact Or.inl ⟨by rfl, by intro w hSw; go_simp; try with_reducible rfl⟩
          · assumption
          try simp only [Act.put, lsA, lsZ, lsS]
          apply wpAnyH_take (i := 13)
          · simp only [List.getElem?_toArray]; rfl
          iterate 3 (· kernel_rfl)
          · exact fun _ _ _ h => h
          · exact Or.inl ⟨by rfl, by intro w hSw; go_simp; try with_reducible rfl⟩
          · assumption
          try simp only [Act.put, lsA, lsZ, lsS]
          apply wpAnyH_take (i := 14)
          · simp only [List.getElem?_toArray]; rfl
          iterate 3 (· kernel_rfl)
          · exact fun _ _ _ h => h
          · exact Or.inl ⟨by rfl, by intro w hSw; go_simp; try with_reducible rfl⟩
          · assumption
          try simp only [Act.put, lsA, lsZ, lsS]
          apply wpAnyH_take (i := 15)
          · simp only [List.getElem?_toArray]; rfl
          iterate 3 (· kernel_rfl)
          · exact fun _ _ _ h => h
          · exact Or.inl ⟨by rfl, by intro w hSw; go_simp; try with_reducible rfl⟩
          · assumption
          try simp only [Act.put, lsA, lsZ, lsS]
          apply wpAnyH_ready (rs := [16])
          · kernel_rfl
          · simp
          apply AllReadyH.cons (hs := AllReadyH.nil)
          · simp only [List.getElem?_toArray]; rfl
          intro K hK
          rw [if_pos (by rfl)]
          refine wp_allocM rfl ?_
          have hk : Keeps [] YC (YC.alloc (.cells mdZ.toArray 29)) := (Keeps.refl _ _).alloc _
          have hb := heap_alloc_new YC (.cells mdZ.toArray 29)
          try have HFA := Lib.hid (fun q hq => (show q ≠ YC.heap.size from Nat.ne_of_lt (R.old HAT.out q hq)))
          try have HAB := Lib.hid (show YC.heap.size ≠ gb from Nat.ne_of_gt HLB.out)
          have HGA := Lib.hid HY.out.size
          try replace HBA := Lib.hid (hk.heap HBA.out (by simp))
          try replace HBB := Lib.hid (hk.heap HBB.out (by simp))
          try replace HAT := Lib.hid (R.new_ HAT.out hk)
          try replace HLA := Lib.hid (Nat.lt_of_lt_of_le HLA.out hk.size)
          try replace HLB := Lib.hid (Nat.lt_of_lt_of_le HLB.out hk.size)
          replace HY := Lib.hid (HY.out.trans hk (FSub.refl _ _))
          have HBA := Lib.hid hb
          have HLA := Lib.hid (lt_of_block hb)
          clear hk hb
          generalize YC.heap.size = ga at *
          generalize YC.alloc (.cells mdZ.toArray 29) = YC at *
          refine hK.out _ _ ?_ (fun hHeld => ?_)
          · exact (by rw [HSE.out]; exact HY.out)
          clear hK K
          try simp only [Act.put, lsA, lsZ, lsS]
          apply wpAnyH_ready (rs := [18])
          · kernel_rfl
          · simp
          apply AllReadyH.cons (hs := AllReadyH.nil)
          · simp only [List.getElem?_toArray]; rfl
          intro K hK
          rw [if_pos (by rfl)]
          refine skM.wp_put rfl (g := ga) (old := mdZ) (A := A1) HOK1.out mdZ_ok rfl rfl HBA.out (fun YC hV hk => ?_)
          replace HBA := Lib.hid hV
          replace HBB := Lib.hid (hk.heap HBB.out (by have := HAB.out; simp; exact fun e => this e.symm))
          replace HAT := Lib.hid (R.put HAT.out hk HFA.out)
          replace HY := Lib.hid (HY.out.trans' hk HGA.out)
          clear hV hk
          refine hK.out _ _ ?_ (fun hHeld => ?_)
          · exact (by rw [HSE.out]; exact HY.out)
          clear hK K
          try simp only [Act.put, lsA, lsZ, lsS]
          apply wpAnyH_ready (rs := [19])
          · kernel_rfl
          · simp
          apply AllReadyH.cons (hs := AllReadyH.nil)
          · simp only [List.getElem?_toArray]; rfl
          intro K hK
          rw [if_pos (by rfl)]
          refine wp_putN rfl (g := gb) (old := ⟨0, 0⟩) r rfl rfl HBB.out (fun YC hV hk => ?_)
          replace HBB := Lib.hid hV
          replace HBA := Lib.hid (hk.heap HBA.out (by have := HAB.out; simpa using this))
          replace HAT := Lib.hid (R.put HAT.out hk HFB.out)
          replace HY := Lib.hid (HY.out.trans' hk HGB.out)
          clear hV hk
          refine hK.out _ _ ?_ (fun hHeld => ?_)
          · exact (by rw [HSE.out]; exact HY.out)
          clear hK K
          try simp only [Act.put, lsA, lsZ, lsS]
          apply wpAnyH_take (i := 20)
          · simp only [List.getElem?_toArray]; rfl
          iterate 3 (· kernel_rfl)
          · exact fun _ _ _ h => h
          · exact Or.inl ⟨by rfl, by intro w hSw; go_simp; try with_reducible rfl⟩
          · assumption
          try simp only [Act.put, lsA, lsZ, lsS]
          refine wpAnyH_done (by kernel_rfl) ?_ _
          refine NoPanic.normal ?_
          exact ⟨rfl, ga, gb, .agg A1.toArray, [_, _, _, _, _, _, _, _, _, _, _, _, _, _, _, _], rfl, A1, rfl, HOK1.out, HBA.out, HBB.out, HAT.out, HFN.out, HFA.out, HFB.out, HY.out, HGA.out, HGB.out, HAB.out⟩
        apply AllReadyH.cons (hs := AllReadyH.nil)
        · simp only [List.getElem?_toArray]; rfl
        intro K hK
        rw [if_pos (by rfl)]
        refine wp_allocM rfl ?_
        have hk : Keeps [] YC (YC.alloc (.cells mdZ.toArray 29)) := (Keeps.refl _ _).alloc _
        have hb := heap_alloc_new YC (.cells mdZ.toArray 29)
        try have HFA := Lib.hid (fun q hq => (show q ≠ YC.heap.size from Nat.ne_of_lt (R.old HAT.out q hq)))
        try have HAB := Lib.hid (show YC.heap.size ≠ gb from Nat.ne_of_gt HLB.out)
        have HGA := Lib.hid HY.out.size
        try replace HBA := Lib.hid (hk.heap HBA.out (by simp))
        try replace HBB := Lib.hid (hk.heap HBB.out (by simp))
        try replace HAT := Lib.hid (R.new_ HAT.out hk)
        try replace HLA := Lib.hid (Nat.lt_of_lt_of_le HLA.out hk.size)
        try replace HLB := Lib.hid (Nat.lt_of_lt_of_le HLB.out hk.size)
        replace HY := Lib.hid (HY.out.trans hk (FSub.refl _ _))
        have HBA := Lib.hid hb
        have HLA := Lib.hid (lt_of_block hb)
        clear hk hb
        generalize YC.heap.size = ga at *
        generalize YC.alloc (.cells mdZ.toArray 29) = YC at *
        refine hK.out _ _ ?_ (fun hHeld => ?_)
        · exact (by rw [HSE.out]; exact HY.out)
        clear hK K
        try simp only [Act.put, lsA, lsZ, lsS]
        apply wpAnyH_ready (rs := [11])
        · kernel_rfl
        · simp
        apply AllReadyH.cons (hs := AllReadyH.nil)
        · simp only [List.getElem?_toArray]; rfl
        intro K hK
        rw [if_pos (by rfl)]
        refine wp_call9 13 _ _ rfl [.agg A.toArray, .int .u8 y.c, y.x.val] rfl Tryz.func13 (by kernel_rfl) (by kernel_rfl) ((HST.out _ HY.out).mono ?_)
        rintro e YC ⟨st1, rfl, hat, hk, hf⟩
        refine ⟨_, rfl, ?_⟩
        try have HFA := Lib.hid (show ∀ q ∈ R.foot st1, q ≠ ga from fun q hq => by
          rcases hf q hq with h | h
          · have h1 := HF0.out q h; have h2 := HGA.out; omega
          · have := HLA.out; omega)
        try have HFB := Lib.hid (show ∀ q ∈ R.foot st1, q ≠ gb from fun q hq => by
          rcases hf q hq with h | h
          · have h1 := HF0.out q h; have h2 := HGB.out; omega
          · have := HLB.out; omega)
        have HFN := Lib.hid (show ∀ q ∈ R.foot st1, q ∈ R.foot (.agg A.toArray) ∨ wr.heap.size ≤ q from fun q hq => (hf q hq).imp id (fun h => Nat.le_trans HY.out.size h))
        try replace HBA := Lib.hid (hk.heap HBA.out (by simp))
        try replace HBB := Lib.hid (hk.heap HBB.out (by simp))
        try replace HAT := Lib.hid (R.new_ HAT.out hk)
        try replace HLA := Lib.hid (Nat.lt_of_lt_of_le HLA.out hk.size)
        try replace HLB := Lib.hid (Nat.lt_of_lt_of_le HLB.out hk.size)
        replace HY := Lib.hid (HY.out.trans hk (FSub.refl _ _))
        have HAT := Lib.hid hat
        obtain ⟨A1, rfl, hok1⟩ := R.cells hat
        have HOK1 := Lib.hid hok1
        clear hat hk hf hok1
        refine hK.out _ _ ?_ (fun hHeld => ?_)
        · exact (by rw [HSE.out]; exact HY.out)
        clear hK K
        try simp only [Act.put, lsA, lsZ, lsS]
        apply wpAnyH_take (i := 12)
        · simp only [List.getElem?_toArray]; rfl
        iterate 3 (· kernel_rfl)
        · exact fun _ _ _ h => h
        · exact Or.inl ⟨by rfl, by intro w hSw; go_simp; try with_reducible rfl⟩
        · assumption
        try simp only [Act.put, lsA, lsZ, lsS]
        apply wpAnyH_take (i := 13)
        · simp only [List.getElem?_toArray]; rfl
        iterate 3 (· kernel_rfl)
        · exact fun _ _ _ h => h
        · exact Or.inl ⟨by rfl, by intro w hSw; go_simp; try with_reducible rfl⟩
        · assumption
        try simp only [Act.put, lsA, lsZ, lsS]
        apply wpAnyH_take (i := 14)
        · simp only [List.getElem?_toArray]; rfl
        iterate 3 (· kernel_rfl)
        · exact fun _ _ _ h => h
        · exact Or.inl ⟨by rfl, by intro w hSw; go_simp; try with_reducible rfl⟩
        · assumption
        try simp only [Act.put, lsA, lsZ, lsS]
        apply wpAnyH_take (i := 15)
        · simp only [List.getElem?_toArray]; rfl
        iterate 3 (· kernel_rfl)
        · exact fun _ _ _ h => h
        · exact Or.inl ⟨by rfl, by intro w hSw; go_simp; try with_reducible rfl⟩
        · assumption
        try simp only [Act.put, lsA, lsZ, lsS]
        apply wpAnyH_ready (rs := [18])
        · kernel_rfl
        · simp
        apply AllReadyH.cons (hs := AllReadyH.nil)
        · simp only [List.getElem?_toArray]; rfl
        intro K hK
        rw [if_pos (by rfl)]
        refine skM.wp_put rfl (g := ga) (old := mdZ) (A := A1) HOK1.out mdZ_ok rfl rfl HBA.out (fun YC hV hk => ?_)
        replace HBA := Lib.hid hV
        replace HBB := Lib.hid (hk.heap HBB.out (by have := HAB.out; simp; exact fun e => this e.symm))
        replace HAT := Lib.hid (R.put HAT.out hk HFA.out)
        replace HY := Lib.hid (HY.out.trans' hk HGA.out)
        clear hV hk
        refine hK.out _ _ ?_ (fun hHeld => ?_)
        · exact (by rw [HSE.out]; exact HY.out)
        clear hK K
        try simp only [Act.put, lsA, lsZ, lsS]
        apply wpAnyH_ready (rs := [19])
        · kernel_rfl
        · simp
        apply AllReadyH.cons (hs := AllReadyH.nil)
        · simp only [List.getElem?_toArray]; rfl
        intro K hK
        rw [if_pos (by rfl)]
        refine wp_putN rfl (g := gb) (old := ⟨0, 0⟩) r rfl rfl HBB.out (fun YC hV hk => ?_)
        replace HBB := Lib.hid hV
        replace HBA := Lib.hid (hk.heap HBA.out (by have := HAB.out; simpa using this))
        replace HAT := Lib.hid (R.put HAT.out hk HFB.out)
        replace HY := Lib.hid (HY.out.trans' hk HGB.out)
        clear hV hk
        refine hK.out _ _ ?_ (fun hHeld => ?_)
        · exact (by rw [HSE.out]; exact HY.out)
        clear hK K
        try simp only [Act.put, lsA, lsZ, lsS]
        apply wpAnyH_take (i := 20)
        · simp only [List.getElem?_toArray]; rfl
        iterate 3 (· kernel_rfl)
        · exact fun _ _ _ h => h
        · exact Or.inl ⟨by rfl, by intro w hSw; go_simp; try with_reducible rfl⟩
        · assumption
        try simp only [Act.put, lsA, lsZ, lsS]
        refine wpAnyH_done (by kernel_rfl) ?_ _
        refine NoPanic.normal ?_
        exact ⟨rfl, ga, gb, .agg A1.toArray, [_, _, _, _, _, _, _, _, _, _, _, _, _, _, _, _], rfl, A1, rfl, HOK1.out, HBA.out, HBB.out, HAT.out, HFN.out, HFA.out, HFB.out, HY.out, HGA.out, HGB.out, HAB.out⟩
      rintro p12 p13 zv us V1 ⟨A1, rfl, hok1, hba, hbb, hat, hfn, hfa, hfb, hky, hga, hgb, hab⟩
      simp only [Act.put, lsA, lsZ, lsS]
      have HOK1 := Lib.hid hok1; have HBA1 := Lib.hid hba; have HBB1 := Lib.hid hbb; have HAT1 := Lib.hid hat
      have HFT1 := Lib.hid (show ∀ q ∈ R.foot (.agg A1.toArray), q ≠ g7 ∧ q ≠ g9 from fun q hq => by
        rcases hfn q hq with h | h
        · exact HFT.out q h
        · have h1 := lt_of_block HB.out; have h2 := lt_of_block HD.out; omega)
      have HB1 := Lib.hid (hky.heap HB.out (by simp)); have HD1 := Lib.hid (hky.heap HD.out (by simp)); have HZ1 := Lib.hid (hky.heap HZ.out (by simp))
      have HAO1 := Lib.hid (R.new_ HAT0.out hky); have HI1 := Lib.hid (HI.out.new hky); have HK1 := Lib.hid (HK.out.trans hky (FSub.refl _ _))
      have HRW1 := Lib.hid (fun j v hv => hky.cell (HRW.out j v hv) (by simp))
      replace HDS := Lib.hid (fun w' (h : Keeps [] V1 w') => HDS.out w' (hky.trans h (FSub.refl _ _)))
      replace HFS := Lib.hid (fun w' (h : Keeps [] V1 w') => HFS.out w' (hky.trans h (FSub.refl _ _)))
      replace HQ0 := Lib.hid (fun hn p hp => Nat.lt_of_lt_of_le (HQ0.out hn p hp) hky.size)
      replace HM0 := Lib.hid (fun t ht hn p hp => Nat.lt_of_lt_of_le (HM0.out t ht hn p hp) hky.size)
      clear hok1 hba hbb hat hfn hfa hfb hky hga hgb hab HB HD HZ HAT0 HI HK HST HF0 HRW HFT
      go_wp2_with fail
      refine wp_join13 (fun qa qb zv us a => (((((((((((((((((((a.put (some 74) (us.getD 0 undef)).put (some 75) (us.getD 1 undef)).put (some 76) (us.getD 2 undef)).put (some 77) (us.getD 3 undef)).put (some 78) (us.getD 4 undef)).put (some 79) (us.getD 5 undef)).put (some 80) (us.getD 6 undef)).put (some 81) (us.getD 7 undef)).put (some 82) (us.getD 8 undef)).put (some 83) (us.getD 9 undef)).put (some 84) (us.getD 10 undef)).put (some 85) (us.getD 11 undef)).put (some 73) (us.getD 12 undef)).put (some 86) (us.getD 13 undef)).put (some 87) (us.getD 14 undef)).put (some 88) (us.getD 15 undef)).put (some 15) (.pointer (some ⟨qa, 0, none⟩))).put (some 16) (.pointer (some ⟨qb, 0, none⟩))).put (some 17) (.int .i64 e1))) (fun qa qb zv w' => ∃ q1 m1 : Value, zv = .agg #[q1, m1] ∧ skD.Ok (mdC S1 q1 m1) ∧ w'.heap[qa]? = some (.cells (mdC S1 q1 m1).toArray 36 (0, 0)) ∧ w'.heap[qb]? = some (.cells (ansC r).toArray 25 (0, 0)) ∧ D13 w' S1 q1 m1 ∧ (S1.list ≠ [] → ∀ p ∈ own q1, (S.list ≠ [] ∧ p ∈ own q) ∨ V1.heap.size ≤ p) ∧ (∀ t, S1.items t → t ≠ [] → ∀ p ∈ own m1, ((∃ u, S.items u ∧ u ≠ []) ∧ p ∈ own mm) ∨ V1.heap.size ≤ p) ∧ (S1.list ≠ [] → ∀ p ∈ own q1, p ≠ qa ∧ p ≠ qb) ∧ (∀ t, S1.items t → t ≠ [] → ∀ p ∈ own m1, p ≠ qa ∧ p ≠ qb) ∧ Keeps [] V1 w' ∧ V1.heap.size ≤ qa ∧ V1.heap.size ≤ qb ∧ qa ≠ qb) ?_ ?_
      · obtain ⟨S0, hS0⟩ : ∃ S0 : World → Prop, S0 = fun y => Keeps [] V1 y := ⟨_, rfl⟩
        have HSE := Lib.hid hS0
        have hSD : S0 V1.drew := by rw [hS0]; exact (Keeps.refl _ _).drew
        have HSA := Lib.hid (fun (w' : World) (hh : S0 w') => show w'.rangeAt g9 0 (mdC S q mm) from by rw [hS0] at hh; exact fun j v hv => hh.cell (block_range HD1.out j v hv) (by simp))
        have HSC := Lib.hid (fun (w' : World) (hh : S0 w') => show w'.cell? ⟨g, o + k * 6, none⟩ = some (.int .u8 y.c) from by rw [hS0] at hh; exact hh.cell (cl_parts HRW1.out).1 (by simp))
        have HSX := Lib.hid (fun (w' : World) (hh : S0 w') => show w'.rangeAt g (o + k * 6 + 1) (opC y.x) from by rw [hS0] at hh; exact fun j v hv => hh.cell ((cl_parts HRW1.out).2 j v hv) (by simp))
        clear hS0
        refine wp_region_noPanic ?_
        refine wp_region_held_drew (S := S0) (by kernel_rfl) hSD (fun hHeld => ?_)
        apply wpAnyH_take (i := 0)
        · simp only [List.getElem?_toArray]; rfl
        iterate 3 (· kernel_rfl)
        · exact fun _ _ _ h => h
        · exact skD.yields HQK.out rfl _ rfl g9 0 rfl HSA.out
        · assumption
        try simp only [Act.put, lsA, lsZ, lsS]
        apply wpAnyH_take (i := 1)
        · simp only [List.getElem?_toArray]; rfl
        iterate 3 (· kernel_rfl)
        · exact fun _ _ _ h => h
        · exact Or.inl ⟨by rfl, by intro w hSw; go_simp; try with_reducible rfl⟩
        · assumption
        try simp only [Act.put, lsA, lsZ, lsS]
        apply wpAnyH_take (i := 2)
        · simp only [List.getElem?_toArray]; rfl
        iterate 3 (· kernel_rfl)
        · exact fun _ _ _ h => h
        · exact Or.inl ⟨by rfl, by intro w hSw; go_simp; try with_reducible rfl⟩
        · assumption
        try simp only [Act.put, lsA, lsZ, lsS]
        apply wpAnyH_take (i := 3)
        · simp only [List.getElem?_toArray]; rfl
        iterate 3 (· kernel_rfl)
        · exact fun _ _ _ h => h
        · exact yields_indexC13 rfl _ _ rfl g o n cp k rfl rfl hlt
        · assumption
        try simp only [Act.put, lsA, lsZ, lsS]
        apply wpAnyH_take (i := 4)
        · simp only [List.getElem?_toArray]; rfl
        iterate 3 (· kernel_rfl)
        · exact fun _ _ _ h => h
        · exact Or.inl ⟨by rfl, by intro w hSw; go_simp; try with_reducible rfl⟩
        · assumption
        try simp only [Act.put, lsA, lsZ, lsS]
        apply wpAnyH_take (i := 5)
        · simp only [List.getElem?_toArray]; rfl
        iterate 3 (· kernel_rfl)
        · exact fun _ _ _ h => h
        · exact Or.inl ⟨by rfl, by intro w hSw; have q0 := HSC.out w hSw; go_simp; try with_reducible rfl⟩
        · assumption
        try simp only [Act.put, lsA, lsZ, lsS]
        apply wpAnyH_take (i := 6)
        · simp only [List.getElem?_toArray]; rfl
        iterate 3 (· kernel_rfl)
        · exact fun _ _ _ h => h
        · exact Or.inl ⟨by rfl, by intro w hSw; go_simp; try with_reducible rfl⟩
        · assumption
        try simp only [Act.put, lsA, lsZ, lsS]
        apply wpAnyH_take (i := 7)
        · simp only [List.getElem?_toArray]; rfl
        iterate 3 (· kernel_rfl)
        · exact fun _ _ _ h => h
        · exact Or.inl ⟨by rfl, by intro w hSw; go_simp; try with_reducible rfl⟩
        · assumption
        try simp only [Act.put, lsA, lsZ, lsS]
        apply wpAnyH_take (i := 8)
        · simp only [List.getElem?_toArray]; rfl
        iterate 3 (· kernel_rfl)
        · exact fun _ _ _ h => h
        · exact yields_indexC13 rfl _ _ rfl g o n cp k rfl rfl hlt
        · assumption
        try simp only [Act.put, lsA, lsZ, lsS]
        apply wpAnyH_take (i := 9)
        · simp only [List.getElem?_toArray]; rfl
        iterate 3 (· kernel_rfl)
        · exact fun _ _ _ h => h
        · exact Or.inl ⟨by rfl, by intro w hSw; go_simp; try with_reducible rfl⟩
        · assumption
        try simp only [Act.put, lsA, lsZ, lsS]
        apply wpAnyH_take (i := 10)
        · simp only [List.getElem?_toArray]; rfl
        iterate 3 (· kernel_rfl)
        · exact fun _ _ _ h => h
        · exact yields_loadP y.x rfl _ rfl g _ rfl HSX.out
        · assumption
        try simp only [Act.put, lsA, lsZ, lsS]
        have HY := Lib.hid ((Keeps.refl [] V1).drew)
        have HDT := Lib.hid (HI1.out.new HY.out)
        generalize V1.drew = YC at *
        apply wpAnyH_ready (rs := [11, 16, 17])
        · kernel_rfl
        · simp
        apply AllReadyH.cons
        · simp only [List.getElem?_toArray]; rfl
        · intro K hK
          rw [if_pos (by rfl)]
          refine wp_call9 14 _ _ rfl [.agg (mdC S q mm).toArray, .int .u8 y.c, y.x.val] rfl Tryz.func14 (by kernel_rfl) (by kernel_rfl) ((HDS.out _ HY.out).mono ?_)
          rintro e YC ⟨q1, m1, rfl, hd, hk, hpq, hpm⟩
          refine ⟨_, rfl, ?_⟩
          try have HQA := Lib.hid (show S1.list ≠ [] → ∀ p ∈ own q1, p ≠ ga from fun hn p hp => by
            rcases hpq hn p hp with ⟨h1, h2⟩ | h
            · have h1 := HQ0.out h1 p h2; have h2 := HGA.out; omega
            · have := HLA.out; omega)
          try have HMA := Lib.hid (show ∀ t, S1.items t → t ≠ [] → ∀ p ∈ own m1, p ≠ ga from fun t ht hn p hp => by
            rcases hpm t ht hn p hp with ⟨⟨u, h1, h3⟩, h2⟩ | h
            · have h1 := HM0.out u h1 h3 p h2; have h2 := HGA.out; omega
            · have := HLA.out; omega)
          try have HQB := Lib.hid (show S1.list ≠ [] → ∀ p ∈ own q1, p ≠ gb from fun hn p hp => by
            rcases hpq hn p hp with ⟨h1, h2⟩ | h
            · have h1 := HQ0.out h1 p h2; have h2 := HGB.out; omega
            · have := HLB.out; omega)
          try have HMB := Lib.hid (show ∀ t, S1.items t → t ≠ [] → ∀ p ∈ own m1, p ≠ gb from fun t ht hn p hp => by
            rcases hpm t ht hn p hp with ⟨⟨u, h1, h3⟩, h2⟩ | h
            · have h1 := HM0.out u h1 h3 p h2; have h2 := HGB.out; omega
            · have := HLB.out; omega)
          have HQN := Lib.hid (show S1.list ≠ [] → ∀ p ∈ own q1, (S.list ≠ [] ∧ p ∈ own q) ∨ V1.heap.size ≤ p from fun hn p hp => (hpq hn p hp).imp id (fun h => Nat.le_trans HY.out.size h))
          have HMN := Lib.hid (show ∀ t, S1.items t → t ≠ [] → ∀ p ∈ own m1, ((∃ u, S.items u ∧ u ≠ []) ∧ p ∈ own mm) ∨ V1.heap.size ≤ p from fun t ht hn p hp => (hpm t ht hn p hp).imp id (fun h => Nat.le_trans HY.out.size h))
          try replace HBA := Lib.hid (hk.heap HBA.out (by simp))
          try replace HBB := Lib.hid (hk.heap HBB.out (by simp))
          try replace HDT := Lib.hid (HDT.out.new hk)
          try replace HLA := Lib.hid (Nat.lt_of_lt_of_le HLA.out hk.size)
          try replace HLB := Lib.hid (Nat.lt_of_lt_of_le HLB.out hk.size)
          replace HY := Lib.hid (HY.out.trans hk (FSub.refl _ _))
          have HDT := Lib.hid hd
          have HOK1 := Lib.hid hd.ok
          clear hd hk hpq hpm
          refine hK.out _ _ ?_ (fun hHeld => ?_)
          · exact (by rw [HSE.out]; exact HY.out)
          clear hK K
          try simp only [Act.put, lsA, lsZ, lsS]
          apply wpAnyH_take (i := 12)
          · simp only [List.getElem?_toArray]; rfl
          iterate 3 (· kernel_rfl)
          · exact fun _ _ _ h => h
          · exact Or.inl ⟨by rfl, by intro w hSw; go_simp; try with_reducible rfl⟩
          · assumption
          try simp only [Act.put, lsA, lsZ, lsS]
          apply wpAnyH_take (i := 13)
          · simp only [List.getElem?_toArray]; rfl
          iterate 3 (· kernel_rfl)
          · exact fun _ _ _ h => h
          · exact Or.inl ⟨by rfl, by intro w hSw; go_simp; try with_reducible rfl⟩
          · assumption
          try simp only [Act.put, lsA, lsZ, lsS]
          apply wpAnyH_take (i := 14)
          · simp only [List.getElem?_toArray]; rfl
          iterate 3 (· kernel_rfl)
          · exact fun _ _ _ h => h
          · exact Or.inl ⟨by rfl, by intro w hSw; go_simp; try with_reducible rfl⟩
          · assumption
          try simp only [Act.put, lsA, lsZ, lsS]
          apply wpAnyH_take (i := 15)
          · simp only [List.getElem?_toArray]; rfl
          iterate 3 (· kernel_rfl)
          · exact fun _ _ _ h => h
          · exact Or.inl ⟨by rfl, by intro w hSw; go_simp; try with_reducible rfl⟩
          · assumption
          try simp only [Act.put, lsA, lsZ, lsS]
          apply wpAnyH_ready (rs := [16, 17])
          · kernel_rfl
          · simp
          apply AllReadyH.cons
          · simp only [List.getElem?_toArray]; rfl
          · intro K hK
            rw [if_pos (by rfl)]
            refine wp_allocD rfl ?_
            have hk : Keeps [] YC (YC.alloc (.cells mdC0.toArray 36)) := (Keeps.refl _ _).alloc _
            have hb := heap_alloc_new YC (.cells mdC0.toArray 36)
            try have HQA := Lib.hid (fun hn p hp => (show p ≠ YC.heap.size from Nat.ne_of_lt (HDT.out.old_q hn p hp)))
            try have HMA := Lib.hid (fun t ht hn p hp => (show p ≠ YC.heap.size from Nat.ne_of_lt (HDT.out.old_m (t := t) ht hn p hp)))
            try have HAB := Lib.hid (show YC.heap.size ≠ gb from Nat.ne_of_gt HLB.out)
            have HGA := Lib.hid HY.out.size
            try replace HBA := Lib.hid (hk.heap HBA.out (by simp))
            try replace HBB := Lib.hid (hk.heap HBB.out (by simp))
            try replace HDT := Lib.hid (HDT.out.new hk)
            try replace HLA := Lib.hid (Nat.lt_of_lt_of_le HLA.out hk.size)
            try replace HLB := Lib.hid (Nat.lt_of_lt_of_le HLB.out hk.size)
            replace HY := Lib.hid (HY.out.trans hk (FSub.refl _ _))
            have HBA := Lib.hid hb
            have HLA := Lib.hid (lt_of_block hb)
            clear hk hb
            generalize YC.heap.size = ga at *
            generalize YC.alloc (.cells mdC0.toArray 36) = YC at *
            refine hK.out _ _ ?_ (fun hHeld => ?_)
            · exact (by rw [HSE.out]; exact HY.out)
            clear hK K
            try simp only [Act.put, lsA, lsZ, lsS]
            apply wpAnyH_ready (rs := [17])
            · kernel_rfl
            · simp
            apply AllReadyH.cons (hs := AllReadyH.nil)
            · simp only [List.getElem?_toArray]; rfl
            intro K hK
            rw [if_pos (by rfl)]
            refine wp_allocA _ _ _ _ rfl ?_
            have hk : Keeps [] YC (YC.alloc (.cells (ansC ⟨0, 0⟩).toArray 25)) := (Keeps.refl _ _).alloc _
            have hb := heap_alloc_new YC (.cells (ansC ⟨0, 0⟩).toArray 25)
            try have HQB := Lib.hid (fun hn p hp => (show p ≠ YC.heap.size from Nat.ne_of_lt (HDT.out.old_q hn p hp)))
            try have HMB := Lib.hid (fun t ht hn p hp => (show p ≠ YC.heap.size from Nat.ne_of_lt (HDT.out.old_m (t := t) ht hn p hp)))
            try have HAB := Lib.hid (show ga ≠ YC.heap.size from Nat.ne_of_lt HLA.out)
            have HGB := Lib.hid HY.out.size
            try replace HBA := Lib.hid (hk.heap HBA.out (by simp))
            try replace HBB := Lib.hid (hk.heap HBB.out (by simp))
            try replace HDT := Lib.hid (HDT.out.new hk)
            try replace HLA := Lib.hid (Nat.lt_of_lt_of_le HLA.out hk.size)
            try replace HLB := Lib.hid (Nat.lt_of_lt_of_le HLB.out hk.size)
            replace HY := Lib.hid (HY.out.trans hk (FSub.refl _ _))
            have HBB := Lib.hid hb
            have HLB := Lib.hid (lt_of_block hb)
            clear hk hb
            generalize YC.heap.size = gb at *
            generalize YC.alloc (.cells (ansC ⟨0, 0⟩).toArray 25) = YC at *
            refine hK.out _ _ ?_ (fun hHeld => ?_)
            · exact (by rw [HSE.out]; exact HY.out)
            clear hK K
            try simp only [Act.put, lsA, lsZ, lsS]
            apply wpAnyH_ready (rs := [18])
            · kernel_rfl
            · simp
            apply AllReadyH.cons (hs := AllReadyH.nil)
            · simp only [List.getElem?_toArray]; rfl
            intro K hK
            rw [if_pos (by rfl)]
            refine skD.wp_put rfl (g := ga) (old := mdC0) (A := mdC S1 q1 m1) HOK1.out mdC0_ok rfl rfl HBA.out (fun YC hV hk => ?_)
            replace HBA := Lib.hid hV
            replace HBB := Lib.hid (hk.heap HBB.out (by have := HAB.out; simp; exact fun e => this e.symm))
            replace HDT := Lib.hid (D13.keeps HDT.out hk (fun hn p hp => by simpa using HQA.out hn p hp) (fun t ht hn p hp => by simpa using HMA.out t ht hn p hp))
            replace HY := Lib.hid (HY.out.trans' hk HGA.out)
            clear hV hk
            refine hK.out _ _ ?_ (fun hHeld => ?_)
            · exact (by rw [HSE.out]; exact HY.out)
            clear hK K
            try simp only [Act.put, lsA, lsZ, lsS]
            apply wpAnyH_ready (rs := [19])
            · kernel_rfl
            · simp
            apply AllReadyH.cons (hs := AllReadyH.nil)
            · simp only [List.getElem?_toArray]; rfl
            intro K hK
            rw [if_pos (by rfl)]
            refine wp_putN rfl (g := gb) (old := ⟨0, 0⟩) r rfl rfl HBB.out (fun YC hV hk => ?_)
            replace HBB := Lib.hid hV
            replace HBA := Lib.hid (hk.heap HBA.out (by have := HAB.out; simpa using this))
            replace HDT := Lib.hid (D13.keeps HDT.out hk (fun hn p hp => by simpa using HQB.out hn p hp) (fun t ht hn p hp => by simpa using HMB.out t ht hn p hp))
            replace HY := Lib.hid (HY.out.trans' hk HGB.out)
            clear hV hk
            refine hK.out _ _ ?_ (fun hHeld => ?_)
            · exact (by rw [HSE.out]; exact HY.out)
            clear hK K
            try simp only [Act.put, lsA, lsZ, lsS]
            apply wpAnyH_take (i := 20)
            · simp only [List.getElem?_toArray]; rfl
            iterate 3 (· kernel_rfl)
            · exact fun _ _ _ h => h
            · exact Or.inl ⟨by rfl, by intro w hSw; go_simp; try with_reducible rfl⟩
            · assumption
            try simp only [Act.put, lsA, lsZ, lsS]
            refine wpAnyH_done (by kernel_rfl) ?_ _
            refine NoPanic.normal ?_
            exact ⟨rfl, ga, gb, .agg #[q1, m1], [_, _, _, _, _, _, _, _, _, _, _, _, _, _, _, _], rfl, q1, m1, rfl, HOK1.out, HBA.out, HBB.out, HDT.out, HQN.out, HMN.out, fun hn p hp => ⟨HQA.out hn p hp, HQB.out hn p hp⟩, fun t ht hn p hp => ⟨HMA.out t ht hn p hp, HMB.out t ht hn p hp⟩, HY.out, HGA.out, HGB.out, HAB.out⟩
          apply AllReadyH.cons (hs := AllReadyH.nil)
          · simp only [List.getElem?_toArray]; rfl
          intro K hK
          rw [if_pos (by rfl)]
          refine wp_allocA _ _ _ _ rfl ?_
          have hk : Keeps [] YC (YC.alloc (.cells (ansC ⟨0, 0⟩).toArray 25)) := (Keeps.refl _ _).alloc _
          have hb := heap_alloc_new YC (.cells (ansC ⟨0, 0⟩).toArray 25)
          try have HQB := Lib.hid (fun hn p hp => (show p ≠ YC.heap.size from Nat.ne_of_lt (HDT.out.old_q hn p hp)))
          try have HMB := Lib.hid (fun t ht hn p hp => (show p ≠ YC.heap.size from Nat.ne_of_lt (HDT.out.old_m (t := t) ht hn p hp)))
          try have HAB := Lib.hid (show ga ≠ YC.heap.size from Nat.ne_of_lt HLA.out)
          have HGB := Lib.hid HY.out.size
          try replace HBA := Lib.hid (hk.heap HBA.out (by simp))
          try replace HBB := Lib.hid (hk.heap HBB.out (by simp))
          try replace HDT := Lib.hid (HDT.out.new hk)
          try replace HLA := Lib.hid (Nat.lt_of_lt_of_le HLA.out hk.size)
          try replace HLB := Lib.hid (Nat.lt_of_lt_of_le HLB.out hk.size)
          replace HY := Lib.hid (HY.out.trans hk (FSub.refl _ _))
          have HBB := Lib.hid hb
          have HLB := Lib.hid (lt_of_block hb)
          clear hk hb
          generalize YC.heap.size = gb at *
          generalize YC.alloc (.cells (ansC ⟨0, 0⟩).toArray 25) = YC at *
          refine hK.out _ _ ?_ (fun hHeld => ?_)
          · exact (by rw [HSE.out]; exact HY.out)
          clear hK K
          try simp only [Act.put, lsA, lsZ, lsS]
          apply wpAnyH_ready (rs := [16])
          · kernel_rfl
          · simp
          apply AllReadyH.cons (hs := AllReadyH.nil)
          · simp only [List.getElem?_toArray]; rfl
          intro K hK
          rw [if_pos (by rfl)]
          refine wp_allocD rfl ?_
          have hk : Keeps [] YC (YC.alloc (.cells mdC0.toArray 36)) := (Keeps.refl _ _).alloc _
          have hb := heap_alloc_new YC (.cells mdC0.toArray 36)
          try have HQA := Lib.hid (fun hn p hp => (show p ≠ YC.heap.size from Nat.ne_of_lt (HDT.out.old_q hn p hp)))
          try have HMA := Lib.hid (fun t ht hn p hp => (show p ≠ YC.heap.size from Nat.ne_of_lt (HDT.out.old_m (t := t) ht hn p hp)))
          try have HAB := Lib.hid (show YC.heap.size ≠ gb from Nat.ne_of_gt HLB.out)
          have HGA := Lib.hid HY.out.size
          try replace HBA := Lib.hid (hk.heap HBA.out (by simp))
          try replace HBB := Lib.hid (hk.heap HBB.out (by simp))
          try replace HDT := Lib.hid (HDT.out.new hk)
          try replace HLA := Lib.hid (Nat.lt_of_lt_of_le HLA.out hk.size)
          try replace HLB := Lib.hid (Nat.lt_of_lt_of_le HLB.out hk.size)
          replace HY := Lib.hid (HY.out.trans hk (FSub.refl _ _))
          have HBA := Lib.hid hb
          have HLA := Lib.hid (lt_of_block hb)
          clear hk hb
          generalize YC.heap.size = ga at *
          generalize YC.alloc (.cells mdC0.toArray 36) = YC at *
          refine hK.out _ _ ?_ (fun hHeld => ?_)
          · exact (by rw [HSE.out]; exact HY.out)
          clear hK K
          try simp only [Act.put, lsA, lsZ, lsS]
          apply wpAnyH_ready (rs := [18])
          · kernel_rfl
          · simp
          apply AllReadyH.cons (hs := AllReadyH.nil)
          · simp only [List.getElem?_toArray]; rfl
          intro K hK
          rw [if_pos (by rfl)]
          refine skD.wp_put rfl (g := ga) (old := mdC0) (A := mdC S1 q1 m1) HOK1.out mdC0_ok rfl rfl HBA.out (fun YC hV hk => ?_)
          replace HBA := Lib.hid hV
          replace HBB := Lib.hid (hk.heap HBB.out (by have := HAB.out; simp; exact fun e => this e.symm))
          replace HDT := Lib.hid (D13.keeps HDT.out hk (fun hn p hp => by simpa using HQA.out hn p hp) (fun t ht hn p hp => by simpa using HMA.out t ht hn p hp))
          replace HY := Lib.hid (HY.out.trans' hk HGA.out)
          clear hV hk
          refine hK.out _ _ ?_ (fun hHeld => ?_)
          · exact (by rw [HSE.out]; exact HY.out)
          clear hK K
          try simp only [Act.put, lsA, lsZ, lsS]
          apply wpAnyH_ready (rs := [19])
          · kernel_rfl
          · simp
          apply AllReadyH.cons (hs := AllReadyH.nil)
          · simp only [List.getElem?_toArray]; rfl
          intro K hK
          rw [if_pos (by rfl)]
          refine wp_putN rfl (g := gb) (old := ⟨0, 0⟩) r rfl rfl HBB.out (fun YC hV hk => ?_)
          replace HBB := Lib.hid hV
          replace HBA := Lib.hid (hk.heap HBA.out (by have := HAB.out; simpa using this))
          replace HDT := Lib.hid (D13.keeps HDT.out hk (fun hn p hp => by simpa using HQB.out hn p hp) (fun t ht hn p hp => by simpa using HMB.out t ht hn p hp))
          replace HY := Lib.hid (HY.out.trans' hk HGB.out)
          clear hV hk
          refine hK.out _ _ ?_ (fun hHeld => ?_)
          · exact (by rw [HSE.out]; exact HY.out)
          clear hK K
          try simp only [Act.put, lsA, lsZ, lsS]
          apply wpAnyH_take (i := 20)
          · simp only [List.getElem?_toArray]; rfl
          iterate 3 (· kernel_rfl)
          · exact fun _ _ _ h => h
          · exact Or.inl ⟨by rfl, by intro w hSw; go_simp; try with_reducible rfl⟩
          · assumption
          try simp only [Act.put, lsA, lsZ, lsS]
          refine wpAnyH_done (by kernel_rfl) ?_ _
          refine NoPanic.normal ?_
          exact ⟨rfl, ga, gb, .agg #[q1, m1], [_, _, _, _, _, _, _, _, _, _, _, _, _, _, _, _], rfl, q1, m1, rfl, HOK1.out, HBA.out, HBB.out, HDT.out, HQN.out, HMN.out, fun hn p hp => ⟨HQA.out hn p hp, HQB.out hn p hp⟩, fun t ht hn p hp => ⟨HMA.out t ht hn p hp, HMB.out t ht hn p hp⟩, HY.out, HGA.out, HGB.out, HAB.out⟩
        apply AllReadyH.cons
        · simp only [List.getElem?_toArray]; rfl
        · intro K hK
          rw [if_pos (by rfl)]
          refine wp_allocD rfl ?_
          have hk : Keeps [] YC (YC.alloc (.cells mdC0.toArray 36)) := (Keeps.refl _ _).alloc _
          have hb := heap_alloc_new YC (.cells mdC0.toArray 36)
          try have HQA := Lib.hid (fun hn p hp => (show p ≠ YC.heap.size from Nat.ne_of_lt (HDT.out.old_q hn p hp)))
          try have HMA := Lib.hid (fun t ht hn p hp => (show p ≠ YC.heap.size from Nat.ne_of_lt (HDT.out.old_m (t := t) ht hn p hp)))
          try have HAB := Lib.hid (show YC.heap.size ≠ gb from Nat.ne_of_gt HLB.out)
          have HGA := Lib.hid HY.out.size
          try replace HBA := Lib.hid (hk.heap HBA.out (by simp))
          try replace HBB := Lib.hid (hk.heap HBB.out (by simp))
          try replace HDT := Lib.hid (HDT.out.new hk)
          try replace HLA := Lib.hid (Nat.lt_of_lt_of_le HLA.out hk.size)
          try replace HLB := Lib.hid (Nat.lt_of_lt_of_le HLB.out hk.size)
          replace HY := Lib.hid (HY.out.trans hk (FSub.refl _ _))
          have HBA := Lib.hid hb
          have HLA := Lib.hid (lt_of_block hb)
          clear hk hb
          generalize YC.heap.size = ga at *
          generalize YC.alloc (.cells mdC0.toArray 36) = YC at *
          refine hK.out _ _ ?_ (fun hHeld => ?_)
          · exact (by rw [HSE.out]; exact HY.out)
          clear hK K
          try simp only [Act.put, lsA, lsZ, lsS]
          apply wpAnyH_ready (rs := [11, 17])
          · kernel_rfl
          · simp
          apply AllReadyH.cons
          · simp only [List.getElem?_toArray]; rfl
          · intro K hK
            rw [if_pos (by rfl)]
            refine wp_call9 14 _ _ rfl [.agg (mdC S q mm).toArray, .int .u8 y.c, y.x.val] rfl Tryz.func14 (by kernel_rfl) (by kernel_rfl) ((HDS.out _ HY.out).mono ?_)
            rintro e YC ⟨q1, m1, rfl, hd, hk, hpq, hpm⟩
            refine ⟨_, rfl, ?_⟩
            try have HQA := Lib.hid (show S1.list ≠ [] → ∀ p ∈ own q1, p ≠ ga from fun hn p hp => by
              rcases hpq hn p hp with ⟨h1, h2⟩ | h
              · have h1 := HQ0.out h1 p h2; have h2 := HGA.out; omega
              · have := HLA.out; omega)
            try have HMA := Lib.hid (show ∀ t, S1.items t → t ≠ [] → ∀ p ∈ own m1, p ≠ ga from fun t ht hn p hp => by
              rcases hpm t ht hn p hp with ⟨⟨u, h1, h3⟩, h2⟩ | h
              · have h1 := HM0.out u h1 h3 p h2; have h2 := HGA.out; omega
              · have := HLA.out; omega)
            try have HQB := Lib.hid (show S1.list ≠ [] → ∀ p ∈ own q1, p ≠ gb from fun hn p hp => by
              rcases hpq hn p hp with ⟨h1, h2⟩ | h
              · have h1 := HQ0.out h1 p h2; have h2 := HGB.out; omega
              · have := HLB.out; omega)
            try have HMB := Lib.hid (show ∀ t, S1.items t → t ≠ [] → ∀ p ∈ own m1, p ≠ gb from fun t ht hn p hp => by
              rcases hpm t ht hn p hp with ⟨⟨u, h1, h3⟩, h2⟩ | h
              · have h1 := HM0.out u h1 h3 p h2; have h2 := HGB.out; omega
              · have := HLB.out; omega)
            have HQN := Lib.hid (show S1.list ≠ [] → ∀ p ∈ own q1, (S.list ≠ [] ∧ p ∈ own q) ∨ V1.heap.size ≤ p from fun hn p hp => (hpq hn p hp).imp id (fun h => Nat.le_trans HY.out.size h))
            have HMN := Lib.hid (show ∀ t, S1.items t → t ≠ [] → ∀ p ∈ own m1, ((∃ u, S.items u ∧ u ≠ []) ∧ p ∈ own mm) ∨ V1.heap.size ≤ p from fun t ht hn p hp => (hpm t ht hn p hp).imp id (fun h => Nat.le_trans HY.out.size h))
            try replace HBA := Lib.hid (hk.heap HBA.out (by simp))
            try replace HBB := Lib.hid (hk.heap HBB.out (by simp))
            try replace HDT := Lib.hid (HDT.out.new hk)
            try replace HLA := Lib.hid (Nat.lt_of_lt_of_le HLA.out hk.size)
            try replace HLB := Lib.hid (Nat.lt_of_lt_of_le HLB.out hk.size)
            replace HY := Lib.hid (HY.out.trans hk (FSub.refl _ _))
            have HDT := Lib.hid hd
            have HOK1 := Lib.hid hd.ok
            clear hd hk hpq hpm
            refine hK.out _ _ ?_ (fun hHeld => ?_)
            · exact (by rw [HSE.out]; exact HY.out)
            clear hK K
            try simp only [Act.put, lsA, lsZ, lsS]
            apply wpAnyH_take (i := 12)
            · simp only [List.getElem?_toArray]; rfl
            iterate 3 (· kernel_rfl)
            · exact fun _ _ _ h => h
            · exact Or.inl ⟨by rfl, by intro w hSw; go_simp; try with_reducible rfl⟩
            · assumption
            try simp only [Act.put, lsA, lsZ, lsS]
            apply wpAnyH_take (i := 13)
            · simp only [List.getElem?_toArray]; rfl
            iterate 3 (· kernel_rfl)
            · exact fun _ _ _ h => h
            · exact Or.inl ⟨by rfl, by intro w hSw; go_simp; try with_reducible rfl⟩
            · assumption
            try simp only [Act.put, lsA, lsZ, lsS]
            apply wpAnyH_take (i := 14)
            · simp only [List.getElem?_toArray]; rfl
            iterate 3 (· kernel_rfl)
            · exact fun _ _ _ h => h
            · exact Or.inl ⟨by rfl, by intro w hSw; go_simp; try with_reducible rfl⟩
            · assumption
            try simp only [Act.put, lsA, lsZ, lsS]
            apply wpAnyH_take (i := 15)
            · simp only [List.getElem?_toArray]; rfl
            iterate 3 (· kernel_rfl)
            · exact fun _ _ _ h => h
            · exact Or.inl ⟨by rfl, by intro w hSw; go_simp; try with_reducible rfl⟩
            · assumption
            try simp only [Act.put, lsA, lsZ, lsS]
            apply wpAnyH_ready (rs := [17])
            · kernel_rfl
            · simp
            apply AllReadyH.cons (hs := AllReadyH.nil)
            · simp only [List.getElem?_toArray]; rfl
            intro K hK
            rw [if_pos (by rfl)]
            refine wp_allocA _ _ _ _ rfl ?_
            have hk : Keeps [] YC (YC.alloc (.cells (ansC ⟨0, 0⟩).toArray 25)) := (Keeps.refl _ _).alloc _
            have hb := heap_alloc_new YC (.cells (ansC ⟨0, 0⟩).toArray 25)
            try have HQB := Lib.hid (fun hn p hp => (show p ≠ YC.heap.size from Nat.ne_of_lt (HDT.out.old_q hn p hp)))
            try have HMB := Lib.hid (fun t ht hn p hp => (show p ≠ YC.heap.size from Nat.ne_of_lt (HDT.out.old_m (t := t) ht hn p hp)))
            try have HAB := Lib.hid (show ga ≠ YC.heap.size from Nat.ne_of_lt HLA.out)
            have HGB := Lib.hid HY.out.size
            try replace HBA := Lib.hid (hk.heap HBA.out (by simp))
            try replace HBB := Lib.hid (hk.heap HBB.out (by simp))
            try replace HDT := Lib.hid (HDT.out.new hk)
            try replace HLA := Lib.hid (Nat.lt_of_lt_of_le HLA.out hk.size)
            try replace HLB := Lib.hid (Nat.lt_of_lt_of_le HLB.out hk.size)
            replace HY := Lib.hid (HY.out.trans hk (FSub.refl _ _))
            have HBB := Lib.hid hb
            have HLB := Lib.hid (lt_of_block hb)
            clear hk hb
            generalize YC.heap.size = gb at *
            generalize YC.alloc (.cells (ansC ⟨0, 0⟩).toArray 25) = YC at *
            refine hK.out _ _ ?_ (fun hHeld => ?_)
            · exact (by rw [HSE.out]; exact HY.out)
            clear hK K
            try simp only [Act.put, lsA, lsZ, lsS]
            apply wpAnyH_ready (rs := [18])
            · kernel_rfl
            · simp
            apply AllReadyH.cons (hs := AllReadyH.nil)
            · simp only [List.getElem?_toArray]; rfl
            intro K hK
            rw [if_pos (by rfl)]
            refine skD.wp_put rfl (g := ga) (old := mdC0) (A := mdC S1 q1 m1) HOK1.out mdC0_ok rfl rfl HBA.out (fun YC hV hk => ?_)
            replace HBA := Lib.hid hV
            replace HBB := Lib.hid (hk.heap HBB.out (by have := HAB.out; simp; exact fun e => this e.symm))
            replace HDT := Lib.hid (D13.keeps HDT.out hk (fun hn p hp => by simpa using HQA.out hn p hp) (fun t ht hn p hp => by simpa using HMA.out t ht hn p hp))
            replace HY := Lib.hid (HY.out.trans' hk HGA.out)
            clear hV hk
            refine hK.out _ _ ?_ (fun hHeld => ?_)
            · exact (by rw [HSE.out]; exact HY.out)
            clear hK K
            try simp only [Act.put, lsA, lsZ, lsS]
            apply wpAnyH_ready (rs := [19])
            · kernel_rfl
            · simp
            apply AllReadyH.cons (hs := AllReadyH.nil)
            · simp only [List.getElem?_toArray]; rfl
            intro K hK
            rw [if_pos (by rfl)]
            refine wp_putN rfl (g := gb) (old := ⟨0, 0⟩) r rfl rfl HBB.out (fun YC hV hk => ?_)
            replace HBB := Lib.hid hV
            replace HBA := Lib.hid (hk.heap HBA.out (by have := HAB.out; simpa using this))
            replace HDT := Lib.hid (D13.keeps HDT.out hk (fun hn p hp => by simpa using HQB.out hn p hp) (fun t ht hn p hp => by simpa using HMB.out t ht hn p hp))
            replace HY := Lib.hid (HY.out.trans' hk HGB.out)
            clear hV hk
            refine hK.out _ _ ?_ (fun hHeld => ?_)
            · exact (by rw [HSE.out]; exact HY.out)
            clear hK K
            try simp only [Act.put, lsA, lsZ, lsS]
            apply wpAnyH_take (i := 20)
            · simp only [List.getElem?_toArray]; rfl
            iterate 3 (· kernel_rfl)
            · exact fun _ _ _ h => h
            · exact Or.inl ⟨by rfl, by intro w hSw; go_simp; try with_reducible rfl⟩
            · assumption
            try simp only [Act.put, lsA, lsZ, lsS]
            refine wpAnyH_done (by kernel_rfl) ?_ _
            refine NoPanic.normal ?_
            exact ⟨rfl, ga, gb, .agg #[q1, m1], [_, _, _, _, _, _, _, _, _, _, _, _, _, _, _, _], rfl, q1, m1, rfl, HOK1.out, HBA.out, HBB.out, HDT.out, HQN.out, HMN.out, fun hn p hp => ⟨HQA.out hn p hp, HQB.out hn p hp⟩, fun t ht hn p hp => ⟨HMA.out t ht hn p hp, HMB.out t ht hn p hp⟩, HY.out, HGA.out, HGB.out, HAB.out⟩
          apply AllReadyH.cons (hs := AllReadyH.nil)
          · simp only [List.getElem?_toArray]; rfl
          intro K hK
          rw [if_pos (by rfl)]
          refine wp_allocA _ _ _ _ rfl ?_
          have hk : Keeps [] YC (YC.alloc (.cells (ansC ⟨0, 0⟩).toArray 25)) := (Keeps.refl _ _).alloc _
          have hb := heap_alloc_new YC (.cells (ansC ⟨0, 0⟩).toArray 25)
          try have HQB := Lib.hid (fun hn p hp => (show p ≠ YC.heap.size from Nat.ne_of_lt (HDT.out.old_q hn p hp)))
          try have HMB := Lib.hid (fun t ht hn p hp => (show p ≠ YC.heap.size from Nat.ne_of_lt (HDT.out.old_m (t := t) ht hn p hp)))
          try have HAB := Lib.hid (show ga ≠ YC.heap.size from Nat.ne_of_lt HLA.out)
          have HGB := Lib.hid HY.out.size
          try replace HBA := Lib.hid (hk.heap HBA.out (by simp))
          try replace HBB := Lib.hid (hk.heap HBB.out (by simp))
          try replace HDT := Lib.hid (HDT.out.new hk)
          try replace HLA := Lib.hid (Nat.lt_of_lt_of_le HLA.out hk.size)
          try replace HLB := Lib.hid (Nat.lt_of_lt_of_le HLB.out hk.size)
          replace HY := Lib.hid (HY.out.trans hk (FSub.refl _ _))
          have HBB := Lib.hid hb
          have HLB := Lib.hid (lt_of_block hb)
          clear hk hb
          generalize YC.heap.size = gb at *
          generalize YC.alloc (.cells (ansC ⟨0, 0⟩).toArray 25) = YC at *
          refine hK.out _ _ ?_ (fun hHeld => ?_)
          · exact (by rw [HSE.out]; exact HY.out)
          clear hK K
          try simp only [Act.put, lsA, lsZ, lsS]
          apply wpAnyH_ready (rs := [11])
          · kernel_rfl
          · simp
          apply AllReadyH.cons (hs := AllReadyH.nil)
          · simp only [List.getElem?_toArray]; rfl
          intro K hK
          rw [if_pos (by rfl)]
          refine wp_call9 14 _ _ rfl [.agg (mdC S q mm).toArray, .int .u8 y.c, y.x.val] rfl Tryz.func14 (by kernel_rfl) (by kernel_rfl) ((HDS.out _ HY.out).mono ?_)
          rintro e YC ⟨q1, m1, rfl, hd, hk, hpq, hpm⟩
          refine ⟨_, rfl, ?_⟩
          try have HQA := Lib.hid (show S1.list ≠ [] → ∀ p ∈ own q1, p ≠ ga from fun hn p hp => by
            rcases hpq hn p hp with ⟨h1, h2⟩ | h
            · have h1 := HQ0.out h1 p h2; have h2 := HGA.out; omega
            · have := HLA.out; omega)
          try have HMA := Lib.hid (show ∀ t, S1.items t → t ≠ [] → ∀ p ∈ own m1, p ≠ ga from fun t ht hn p hp => by
            rcases hpm t ht hn p hp with ⟨⟨u, h1, h3⟩, h2⟩ | h
            · have h1 := HM0.out u h1 h3 p h2; have h2 := HGA.out; omega
            · have := HLA.out; omega)
          try have HQB := Lib.hid (show S1.list ≠ [] → ∀ p ∈ own q1, p ≠ gb from fun hn p hp => by
            rcases hpq hn p hp with ⟨h1, h2⟩ | h
            · have h1 := HQ0.out h1 p h2; have h2 := HGB.out; omega
            · have := HLB.out; omega)
          try have HMB := Lib.hid (show ∀ t, S1.items t → t ≠ [] → ∀ p ∈ own m1, p ≠ gb from fun t ht hn p hp => by
            rcases hpm t ht hn p hp with ⟨⟨u, h1, h3⟩, h2⟩ | h
            · have h1 := HM0.out u h1 h3 p h2; have h2 := HGB.out; omega
            · have := HLB.out; omega)
          have HQN := Lib.hid (show S1.list ≠ [] → ∀ p ∈ own q1, (S.list ≠ [] ∧ p ∈ own q) ∨ V1.heap.size ≤ p from fun hn p hp => (hpq hn p hp).imp id (fun h => Nat.le_trans HY.out.size h))
          have HMN := Lib.hid (show ∀ t, S1.items t → t ≠ [] → ∀ p ∈ own m1, ((∃ u, S.items u ∧ u ≠ []) ∧ p ∈ own mm) ∨ V1.heap.size ≤ p from fun t ht hn p hp => (hpm t ht hn p hp).imp id (fun h => Nat.le_trans HY.out.size h))
          try replace HBA := Lib.hid (hk.heap HBA.out (by simp))
          try replace HBB := Lib.hid (hk.heap HBB.out (by simp))
          try replace HDT := Lib.hid (HDT.out.new hk)
          try replace HLA := Lib.hid (Nat.lt_of_lt_of_le HLA.out hk.size)
          try replace HLB := Lib.hid (Nat.lt_of_lt_of_le HLB.out hk.size)
          replace HY := Lib.hid (HY.out.trans hk (FSub.refl _ _))
          have HDT := Lib.hid hd
          have HOK1 := Lib.hid hd.ok
          clear hd hk hpq hpm
          refine hK.out _ _ ?_ (fun hHeld => ?_)
          · exact (by rw [HSE.out]; exact HY.out)
          clear hK K
          try simp only [Act.put, lsA, lsZ, lsS]
          apply wpAnyH_take (i := 12)
          · simp only [List.getElem?_toArray]; rfl
          iterate 3 (· kernel_rfl)
          · exact fun _ _ _ h => h
          · exact Or.inl ⟨by rfl, by intro w hSw; go_simp; try with_reducible rfl⟩
          · assumption
          try simp only [Act.put, lsA, lsZ, lsS]
          apply wpAnyH_take (i := 13)
          · simp only [List.getElem?_toArray]; rfl
          iterate 3 (· kernel_rfl)
          · exact fun _ _ _ h => h
          · exact Or.inl ⟨by rfl, by intro w hSw; go_simp; try with_reducible rfl⟩
          · assumption
          try simp only [Act.put, lsA, lsZ, lsS]
          apply wpAnyH_take (i := 14)
          · simp only [List.getElem?_toArray]; rfl
          iterate 3 (· kernel_rfl)
          · exact fun _ _ _ h => h
          · exact Or.inl ⟨by rfl, by intro w hSw; go_simp; try with_reducible rfl⟩
          · assumption
          try simp only [Act.put, lsA, lsZ, lsS]
          apply wpAnyH_take (i := 15)
          · simp only [List.getElem?_toArray]; rfl
          iterate 3 (· kernel_rfl)
          · exact fun _ _ _ h => h
          · exact Or.inl ⟨by rfl, by intro w hSw; go_simp; try with_reducible rfl⟩
          · assumption
          try simp only [Act.put, lsA, lsZ, lsS]
          apply wpAnyH_ready (rs := [18])
          · kernel_rfl
          · simp
          apply AllReadyH.cons (hs := AllReadyH.nil)
          · simp only [List.getElem?_toArray]; rfl
          intro K hK
          rw [if_pos (by rfl)]
          refine skD.wp_put rfl (g := ga) (old := mdC0) (A := mdC S1 q1 m1) HOK1.out mdC0_ok rfl rfl HBA.out (fun YC hV hk => ?_)
          replace HBA := Lib.hid hV
          replace HBB := Lib.hid (hk.heap HBB.out (by have := HAB.out; simp; exact fun e => this e.symm))
          replace HDT := Lib.hid (D13.keeps HDT.out hk (fun hn p hp => by simpa using HQA.out hn p hp) (fun t ht hn p hp => by simpa using HMA.out t ht hn p hp))
          replace HY := Lib.hid (HY.out.trans' hk HGA.out)
          clear hV hk
          refine hK.out _ _ ?_ (fun hHeld => ?_)
          · exact (by rw [HSE.out]; exact HY.out)
          clear hK K
          try simp only [Act.put, lsA, lsZ, lsS]
          apply wpAnyH_ready (rs := [19])
          · kernel_rfl
          · simp
          apply AllReadyH.cons (hs := AllReadyH.nil)
          · simp only [List.getElem?_toArray]; rfl
          intro K hK
          rw [if_pos (by rfl)]
          refine wp_putN rfl (g := gb) (old := ⟨0, 0⟩) r rfl rfl HBB.out (fun YC hV hk => ?_)
          replace HBB := Lib.hid hV
          replace HBA := Lib.hid (hk.heap HBA.out (by have := HAB.out; simpa using this))
          replace HDT := Lib.hid (D13.keeps HDT.out hk (fun hn p hp => by simpa using HQB.out hn p hp) (fun t ht hn p hp => by simpa using HMB.out t ht hn p hp))
          replace HY := Lib.hid (HY.out.trans' hk HGB.out)
          clear hV hk
          refine hK.out _ _ ?_ (fun hHeld => ?_)
          · exact (by rw [HSE.out]; exact HY.out)
          clear hK K
          try simp only [Act.put, lsA, lsZ, lsS]
          apply wpAnyH_take (i := 20)
          · simp only [List.getElem?_toArray]; rfl
          iterate 3 (· kernel_rfl)
          · exact fun _ _ _ h => h
          · exact Or.inl ⟨by rfl, by intro w hSw; go_simp; try with_reducible rfl⟩
          · assumption
          try simp only [Act.put, lsA, lsZ, lsS]
          refine wpAnyH_done (by kernel_rfl) ?_ _
          refine NoPanic.normal ?_
          exact ⟨rfl, ga, gb, .agg #[q1, m1], [_, _, _, _, _, _, _, _, _, _, _, _, _, _, _, _], rfl, q1, m1, rfl, HOK1.out, HBA.out, HBB.out, HDT.out, HQN.out, HMN.out, fun hn p hp => ⟨HQA.out hn p hp, HQB.out hn p hp⟩, fun t ht hn p hp => ⟨HMA.out t ht hn p hp, HMB.out t ht hn p hp⟩, HY.out, HGA.out, HGB.out, HAB.out⟩
        apply AllReadyH.cons (hs := AllReadyH.nil)
        · simp only [List.getElem?_toArray]; rfl
        intro K hK
        rw [if_pos (by rfl)]
        refine wp_allocA _ _ _ _ rfl ?_
        have hk : Keeps [] YC (YC.alloc (.cells (ansC ⟨0, 0⟩).toArray 25)) := (Keeps.refl _ _).alloc _
        have hb := heap_alloc_new YC (.cells (ansC ⟨0, 0⟩).toArray 25)
        try have HQB := Lib.hid (fun hn p hp => (show p ≠ YC.heap.size from Nat.ne_of_lt (HDT.out.old_q hn p hp)))
        try have HMB := Lib.hid (fun t ht hn p hp => (show p ≠ YC.heap.size from Nat.ne_of_lt (HDT.out.old_m (t := t) ht hn p hp)))
        try have HAB := Lib.hid (show ga ≠ YC.heap.size from Nat.ne_of_lt HLA.out)
        have HGB := Lib.hid HY.out.size
        try replace HBA := Lib.hid (hk.heap HBA.out (by simp))
        try replace HBB := Lib.hid (hk.heap HBB.out (by simp))
        try replace HDT := Lib.hid (HDT.out.new hk)
        try replace HLA := Lib.hid (Nat.lt_of_lt_of_le HLA.out hk.size)
        try replace HLB := Lib.hid (Nat.lt_of_lt_of_le HLB.out hk.size)
        replace HY := Lib.hid (HY.out.trans hk (FSub.refl _ _))
        have HBB := Lib.hid hb
        have HLB := Lib.hid (lt_of_block hb)
        clear hk hb
        generalize YC.heap.size = gb at *
        generalize YC.alloc (.cells (ansC ⟨0, 0⟩).toArray 25) = YC at *
        refine hK.out _ _ ?_ (fun hHeld => ?_)
        · exact (by rw [HSE.out]; exact HY.out)
        clear hK K
        try simp only [Act.put, lsA, lsZ, lsS]
        apply wpAnyH_ready (rs := [11, 16])
        · kernel_rfl
        · simp
        apply AllReadyH.cons
        · simp only [List.getElem?_toArray]; rfl
        · intro K hK
          rw [if_pos (by rfl)]
          refine wp_call9 14 _ _ rfl [.agg (mdC S q mm).toArray, .int .u8 y.c, y.x.val] rfl Tryz.func14 (by kernel_rfl) (by kernel_rfl) ((HDS.out _ HY.out).mono ?_)
          rintro e YC ⟨q1, m1, rfl, hd, hk, hpq, hpm⟩
          refine ⟨_, rfl, ?_⟩
          try have HQA := Lib.hid (show S1.list ≠ [] → ∀ p ∈ own q1, p ≠ ga from fun hn p hp => by
            rcases hpq hn p hp with ⟨h1, h2⟩ | h
            · have h1 := HQ0.out h1 p h2; have h2 := HGA.out; omega
            · have := HLA.out; omega)
          try have HMA := Lib.hid (show ∀ t, S1.items t → t ≠ [] → ∀ p ∈ own m1, p ≠ ga from fun t ht hn p hp => by
            rcases hpm t ht hn p hp with ⟨⟨u, h1, h3⟩, h2⟩ | h
            · have h1 := HM0.out u h1 h3 p h2; have h2 := HGA.out; omega
            · have := HLA.out; omega)
          try have HQB := Lib.hid (show S1.list ≠ [] → ∀ p ∈ own q1, p ≠ gb from fun hn p hp => by
            rcases hpq hn p hp with ⟨h1, h2⟩ | h
            · have h1 := HQ0.out h1 p h2; have h2 := HGB.out; omega
            · have := HLB.out; omega)
          try have HMB := Lib.hid (show ∀ t, S1.items t → t ≠ [] → ∀ p ∈ own m1, p ≠ gb from fun t ht hn p hp => by
            rcases hpm t ht hn p hp with ⟨⟨u, h1, h3⟩, h2⟩ | h
            · have h1 := HM0.out u h1 h3 p h2; have h2 := HGB.out; omega
            · have := HLB.out; omega)
          have HQN := Lib.hid (show S1.list ≠ [] → ∀ p ∈ own q1, (S.list ≠ [] ∧ p ∈ own q) ∨ V1.heap.size ≤ p from fun hn p hp => (hpq hn p hp).imp id (fun h => Nat.le_trans HY.out.size h))
          have HMN := Lib.hid (show ∀ t, S1.items t → t ≠ [] → ∀ p ∈ own m1, ((∃ u, S.items u ∧ u ≠ []) ∧ p ∈ own mm) ∨ V1.heap.size ≤ p from fun t ht hn p hp => (hpm t ht hn p hp).imp id (fun h => Nat.le_trans HY.out.size h))
          try replace HBA := Lib.hid (hk.heap HBA.out (by simp))
          try replace HBB := Lib.hid (hk.heap HBB.out (by simp))
          try replace HDT := Lib.hid (HDT.out.new hk)
          try replace HLA := Lib.hid (Nat.lt_of_lt_of_le HLA.out hk.size)
          try replace HLB := Lib.hid (Nat.lt_of_lt_of_le HLB.out hk.size)
          replace HY := Lib.hid (HY.out.trans hk (FSub.refl _ _))
          have HDT := Lib.hid hd
          have HOK1 := Lib.hid hd.ok
          clear hd hk hpq hpm
          refine hK.out _ _ ?_ (fun hHeld => ?_)
          · exact (by rw [HSE.out]; exact HY.out)
          clear hK K
          try simp only [Act.put, lsA, lsZ, lsS]
          apply wpAnyH_take (i := 12)
          · simp only [List.getElem?_toArray]; rfl
          iterate 3 (· kernel_rfl)
          · exact fun _ _ _ h => h
          · exact Or.inl ⟨by rfl, by intro w hSw; go_simp; try with_reducible rfl⟩
          · assumption
          try simp only [Act.put, lsA, lsZ, lsS]
          apply wpAnyH_take (i := 13)
          · simp only [List.getElem?_toArray]; rfl
          iterate 3 (· kernel_rfl)
          · exact fun _ _ _ h => h
          · exact Or.inl ⟨by rfl, by intro w hSw; go_simp; try with_reducible rfl⟩
          · assumption
          try simp only [Act.put, lsA, lsZ, lsS]
          apply wpAnyH_take (i := 14)
          · simp only [List.getElem?_toArray]; rfl
          iterate 3 (· kernel_rfl)
          · exact fun _ _ _ h => h
          · exact Or.inl ⟨by rfl, by intro w hSw; go_simp; try with_reducible rfl⟩
          · assumption
          try simp only [Act.put, lsA, lsZ, lsS]
          apply wpAnyH_take (i := 15)
          · simp only [List.getElem?_toArray]; rfl
          iterate 3 (· kernel_rfl)
          · exact fun _ _ _ h => h
          · exact Or.inl ⟨by rfl, by intro w hSw; go_simp; try with_reducible rfl⟩
          · assumption
          try simp only [Act.put, lsA, lsZ, lsS]
          apply wpAnyH_ready (rs := [16])
          · kernel_rfl
          · simp
          apply AllReadyH.cons (hs := AllReadyH.nil)
          · simp only [List.getElem?_toArray]; rfl
          intro K hK
          rw [if_pos (by rfl)]
          refine wp_allocD rfl ?_
          have hk : Keeps [] YC (YC.alloc (.cells mdC0.toArray 36)) := (Keeps.refl _ _).alloc _
          have hb := heap_alloc_new YC (.cells mdC0.toArray 36)
          try have HQA := Lib.hid (fun hn p hp => (show p ≠ YC.heap.size from Nat.ne_of_lt (HDT.out.old_q hn p hp)))
          try have HMA := Lib.hid (fun t ht hn p hp => (show p ≠ YC.heap.size from Nat.ne_of_lt (HDT.out.old_m (t := t) ht hn p hp)))
          try have HAB := Lib.hid (show YC.heap.size ≠ gb from Nat.ne_of_gt HLB.out)
          have HGA := Lib.hid HY.out.size
          try replace HBA := Lib.hid (hk.heap HBA.out (by simp))
          try replace HBB := Lib.hid (hk.heap HBB.out (by simp))
          try replace HDT := Lib.hid (HDT.out.new hk)
          try replace HLA := Lib.hid (Nat.lt_of_lt_of_le HLA.out hk.size)
          try replace HLB := Lib.hid (Nat.lt_of_lt_of_le HLB.out hk.size)
          replace HY := Lib.hid (HY.out.trans hk (FSub.refl _ _))
          have HBA := Lib.hid hb
          have HLA := Lib.hid (lt_of_block hb)
          clear hk hb
          generalize YC.heap.size = ga at *
          generalize YC.alloc (.cells mdC0.toArray 36) = YC at *
          refine hK.out _ _ ?_ (fun hHeld => ?_)
          · exact (by rw [HSE.out]; exact HY.out)
          clear hK K
          try simp only [Act.put, lsA, lsZ, lsS]
          apply wpAnyH_ready (rs := [18])
          · kernel_rfl
          · simp
          apply AllReadyH.cons (hs := AllReadyH.nil)
          · simp only [List.getElem?_toArray]; rfl
          intro K hK
          rw [if_pos (by rfl)]
          refine skD.wp_put rfl (g := ga) (old := mdC0) (A := mdC S1 q1 m1) HOK1.out mdC0_ok rfl rfl HBA.out (fun YC hV hk => ?_)
          replace HBA := Lib.hid hV
          replace HBB := Lib.hid (hk.heap HBB.out (by have := HAB.out; simp; exact fun e => this e.symm))
          replace HDT := Lib.hid (D13.keeps HDT.out hk (fun hn p hp => by simpa using HQA.out hn p hp) (fun t ht hn p hp => by simpa using HMA.out t ht hn p hp))
          replace HY := Lib.hid (HY.out.trans' hk HGA.out)
          clear hV hk
          refine hK.out _ _ ?_ (fun hHeld => ?_)
          · exact (by rw [HSE.out]; exact HY.out)
          clear hK K
          try simp only [Act.put, lsA, lsZ, lsS]
          apply wpAnyH_ready (rs := [19])
          · kernel_rfl
          · simp
          apply AllReadyH.cons (hs := AllReadyH.nil)
          · simp only [List.getElem?_toArray]; rfl
          intro K hK
          rw [if_pos (by rfl)]
          refine wp_putN rfl (g := gb) (old := ⟨0, 0⟩) r rfl rfl HBB.out (fun YC hV hk => ?_)
          replace HBB := Lib.hid hV
          replace HBA := Lib.hid (hk.heap HBA.out (by have := HAB.out; simpa using this))
          replace HDT := Lib.hid (D13.keeps HDT.out hk (fun hn p hp => by simpa using HQB.out hn p hp) (fun t ht hn p hp => by simpa using HMB.out t ht hn p hp))
          replace HY := Lib.hid (HY.out.trans' hk HGB.out)
          clear hV hk
          refine hK.out _ _ ?_ (fun hHeld => ?_)
          · exact (by rw [HSE.out]; exact HY.out)
          clear hK K
          try simp only [Act.put, lsA, lsZ, lsS]
          apply wpAnyH_take (i := 20)
          · simp only [List.getElem?_toArray]; rfl
          iterate 3 (· kernel_rfl)
          · exact fun _ _ _ h => h
          · exact Or.inl ⟨by rfl, by intro w hSw; go_simp; try with_reducible rfl⟩
          · assumption
          try simp only [Act.put, lsA, lsZ, lsS]
          refine wpAnyH_done (by kernel_rfl) ?_ _
          refine NoPanic.normal ?_
          exact ⟨rfl, ga, gb, .agg #[q1, m1], [_, _, _, _, _, _, _, _, _, _, _, _, _, _, _, _], rfl, q1, m1, rfl, HOK1.out, HBA.out, HBB.out, HDT.out, HQN.out, HMN.out, fun hn p hp => ⟨HQA.out hn p hp, HQB.out hn p hp⟩, fun t ht hn p hp => ⟨HMA.out t ht hn p hp, HMB.out t ht hn p hp⟩, HY.out, HGA.out, HGB.out, HAB.out⟩
        apply AllReadyH.cons (hs := AllReadyH.nil)
        · simp only [List.getElem?_toArray]; rfl
        intro K hK
        rw [if_pos (by rfl)]
        refine wp_allocD rfl ?_
        have hk : Keeps [] YC (YC.alloc (.cells mdC0.toArray 36)) := (Keeps.refl _ _).alloc _
        have hb := heap_alloc_new YC (.cells mdC0.toArray 36)
        try have HQA := Lib.hid (fun hn p hp => (show p ≠ YC.heap.size from Nat.ne_of_lt (HDT.out.old_q hn p hp)))
        try have HMA := Lib.hid (fun t ht hn p hp => (show p ≠ YC.heap.size from Nat.ne_of_lt (HDT.out.old_m (t := t) ht hn p hp)))
        try have HAB := Lib.hid (show YC.heap.size ≠ gb from Nat.ne_of_gt HLB.out)
        have HGA := Lib.hid HY.out.size
        try replace HBA := Lib.hid (hk.heap HBA.out (by simp))
        try replace HBB := Lib.hid (hk.heap HBB.out (by simp))
        try replace HDT := Lib.hid (HDT.out.new hk)
        try replace HLA := Lib.hid (Nat.lt_of_lt_of_le HLA.out hk.size)
        try replace HLB := Lib.hid (Nat.lt_of_lt_of_le HLB.out hk.size)
        replace HY := Lib.hid (HY.out.trans hk (FSub.refl _ _))
        have HBA := Lib.hid hb
        have HLA := Lib.hid (lt_of_block hb)
        clear hk hb
        generalize YC.heap.size = ga at *
        generalize YC.alloc (.cells mdC0.toArray 36) = YC at *
        refine hK.out _ _ ?_ (fun hHeld => ?_)
        · exact (by rw [HSE.out]; exact HY.out)
        clear hK K
        try simp only [Act.put, lsA, lsZ, lsS]
        apply wpAnyH_ready (rs := [11])
        · kernel_rfl
        · simp
        apply AllReadyH.cons (hs := AllReadyH.nil)
        · simp only [List.getElem?_toArray]; rfl
        intro K hK
        rw [if_pos (by rfl)]
        refine wp_call9 14 _ _ rfl [.agg (mdC S q mm).toArray, .int .u8 y.c, y.x.val] rfl Tryz.func14 (by kernel_rfl) (by kernel_rfl) ((HDS.out _ HY.out).mono ?_)
        rintro e YC ⟨q1, m1, rfl, hd, hk, hpq, hpm⟩
        refine ⟨_, rfl, ?_⟩
        try have HQA := Lib.hid (show S1.list ≠ [] → ∀ p ∈ own q1, p ≠ ga from fun hn p hp => by
          rcases hpq hn p hp with ⟨h1, h2⟩ | h
          · have h1 := HQ0.out h1 p h2; have h2 := HGA.out; omega
          · have := HLA.out; omega)
        try have HMA := Lib.hid (show ∀ t, S1.items t → t ≠ [] → ∀ p ∈ own m1, p ≠ ga from fun t ht hn p hp => by
          rcases hpm t ht hn p hp with ⟨⟨u, h1, h3⟩, h2⟩ | h
          · have h1 := HM0.out u h1 h3 p h2; have h2 := HGA.out; omega
          · have := HLA.out; omega)
        try have HQB := Lib.hid (show S1.list ≠ [] → ∀ p ∈ own q1, p ≠ gb from fun hn p hp => by
          rcases hpq hn p hp with ⟨h1, h2⟩ | h
          · have h1 := HQ0.out h1 p h2; have h2 := HGB.out; omega
          · have := HLB.out; omega)
        try have HMB := Lib.hid (show ∀ t, S1.items t → t ≠ [] → ∀ p ∈ own m1, p ≠ gb from fun t ht hn p hp => by
          rcases hpm t ht hn p hp with ⟨⟨u, h1, h3⟩, h2⟩ | h
          · have h1 := HM0.out u h1 h3 p h2; have h2 := HGB.out; omega
          · have := HLB.out; omega)
        have HQN := Lib.hid (show S1.list ≠ [] → ∀ p ∈ own q1, (S.list ≠ [] ∧ p ∈ own q) ∨ V1.heap.size ≤ p from fun hn p hp => (hpq hn p hp).imp id (fun h => Nat.le_trans HY.out.size h))
        have HMN := Lib.hid (show ∀ t, S1.items t → t ≠ [] → ∀ p ∈ own m1, ((∃ u, S.items u ∧ u ≠ []) ∧ p ∈ own mm) ∨ V1.heap.size ≤ p from fun t ht hn p hp => (hpm t ht hn p hp).imp id (fun h => Nat.le_trans HY.out.size h))
        try replace HBA := Lib.hid (hk.heap HBA.out (by simp))
        try replace HBB := Lib.hid (hk.heap HBB.out (by simp))
        try replace HDT := Lib.hid (HDT.out.new hk)
        try replace HLA := Lib.hid (Nat.lt_of_lt_of_le HLA.out hk.size)
        try replace HLB := Lib.hid (Nat.lt_of_lt_of_le HLB.out hk.size)
        replace HY := Lib.hid (HY.out.trans hk (FSub.refl _ _))
        have HDT := Lib.hid hd
        have HOK1 := Lib.hid hd.ok
        clear hd hk hpq hpm
        refine hK.out _ _ ?_ (fun hHeld => ?_)
        · exact (by rw [HSE.out]; exact HY.out)
        clear hK K
        try simp only [Act.put, lsA, lsZ, lsS]
        apply wpAnyH_take (i := 12)
        · simp only [List.getElem?_toArray]; rfl
        iterate 3 (· kernel_rfl)
        · exact fun _ _ _ h => h
        · exact Or.inl ⟨by rfl, by intro w hSw; go_simp; try with_reducible rfl⟩
        · assumption
        try simp only [Act.put, lsA, lsZ, lsS]
        apply wpAnyH_take (i := 13)
        · simp only [List.getElem?_toArray]; rfl
        iterate 3 (· kernel_rfl)
        · exact fun _ _ _ h => h
        · exact Or.inl ⟨by rfl, by intro w hSw; go_simp; try with_reducible rfl⟩
        · assumption
        try simp only [Act.put, lsA, lsZ, lsS]
        apply wpAnyH_take (i := 14)
        · simp only [List.getElem?_toArray]; rfl
        iterate 3 (· kernel_rfl)
        · exact fun _ _ _ h => h
        · exact Or.inl ⟨by rfl, by intro w hSw; go_simp; try with_reducible rfl⟩
        · assumption
        try simp only [Act.put, lsA, lsZ, lsS]
        apply wpAnyH_take (i := 15)
        · simp only [List.getElem?_toArray]; rfl
        iterate 3 (· kernel_rfl)
        · exact fun _ _ _ h => h
        · exact Or.inl ⟨by rfl, by intro w hSw; go_simp; try with_reducible rfl⟩
        · assumption
        try simp only [Act.put, lsA, lsZ, lsS]
        apply wpAnyH_ready (rs := [18])
        · kernel_rfl
        · simp
        apply AllReadyH.cons (hs := AllReadyH.nil)
        · simp only [List.getElem?_toArray]; rfl
        intro K hK
        rw [if_pos (by rfl)]
        refine skD.wp_put rfl (g := ga) (old := mdC0) (A := mdC S1 q1 m1) HOK1.out mdC0_ok rfl rfl HBA.out (fun YC hV hk => ?_)
        replace HBA := Lib.hid hV
        replace HBB := Lib.hid (hk.heap HBB.out (by have := HAB.out; simp; exact fun e => this e.symm))
        replace HDT := Lib.hid (D13.keeps HDT.out hk (fun hn p hp => by simpa using HQA.out hn p hp) (fun t ht hn p hp => by simpa using HMA.out t ht hn p hp))
        replace HY := Lib.hid (HY.out.trans' hk HGA.out)
        clear hV hk
        refine hK.out _ _ ?_ (fun hHeld => ?_)
        · exact (by rw [HSE.out]; exact HY.out)
        clear hK K
        try simp only [Act.put, lsA, lsZ, lsS]
        apply wpAnyH_ready (rs := [19])
        · kernel_rfl
        · simp
        apply AllReadyH.cons (hs := AllReadyH.nil)
        · simp only [List.getElem?_toArray]; rfl
        intro K hK
        rw [if_pos (by rfl)]
        refine wp_putN rfl (g := gb) (old := ⟨0, 0⟩) r rfl rfl HBB.out (fun YC hV hk => ?_)
        replace HBB := Lib.hid hV
        replace HBA := Lib.hid (hk.heap HBA.out (by have := HAB.out; simpa using this))
        replace HDT := Lib.hid (D13.keeps HDT.out hk (fun hn p hp => by simpa using HQB.out hn p hp) (fun t ht hn p hp => by simpa using HMB.out t ht hn p hp))
        replace HY := Lib.hid (HY.out.trans' hk HGB.out)
        clear hV hk
        refine hK.out _ _ ?_ (fun hHeld => ?_)
        · exact (by rw [HSE.out]; exact HY.out)
        clear hK K
        try simp only [Act.put, lsA, lsZ, lsS]
        apply wpAnyH_take (i := 20)
        · simp only [List.getElem?_toArray]; rfl
        iterate 3 (· kernel_rfl)
        · exact fun _ _ _ h => h
        · exact Or.inl ⟨by rfl, by intro w hSw; go_simp; try with_reducible rfl⟩
        · assumption
        try simp only [Act.put, lsA, lsZ, lsS]
        refine wpAnyH_done (by kernel_rfl) ?_ _
        refine NoPanic.normal ?_
        exact ⟨rfl, ga, gb, .agg #[q1, m1], [_, _, _, _, _, _, _, _, _, _, _, _, _, _, _, _], rfl, q1, m1, rfl, HOK1.out, HBA.out, HBB.out, HDT.out, HQN.out, HMN.out, fun hn p hp => ⟨HQA.out hn p hp, HQB.out hn p hp⟩, fun t ht hn p hp => ⟨HMA.out t ht hn p hp, HMB.out t ht hn p hp⟩, HY.out, HGA.out, HGB.out, HAB.out⟩
      rintro p15 p16 zv us V2 ⟨q1, m1, rfl, hok1, hba, hbb, hdt, hqn, hmn, hqa, hma, hky, hga, hgb, hab⟩
      simp only [Act.put, lsA, lsZ, lsS]
      have HOD := Lib.hid hok1; have HBD2 := Lib.hid hba; have HBR2 := Lib.hid hbb; have HDT2 := Lib.hid hdt
      have HOQ1 := Lib.hid (show S1.list ≠ [] → ∀ p ∈ own q1, p ≠ g7 ∧ p ≠ g9 from fun hn p hp => by
        rcases hqn hn p hp with ⟨h1, h2⟩ | h
        · exact HOQ.out h1 p h2
        · have h1 := lt_of_block HB1.out; have h2 := lt_of_block HD1.out; omega)
      have HOM1 := Lib.hid (show ∀ t, S1.items t → t ≠ [] → ∀ p ∈ own m1, p ≠ g7 ∧ p ≠ g9 from fun t ht hn p hp => by
        rcases hmn t ht hn p hp with ⟨⟨u, h1, h3⟩, h2⟩ | h
        · exact HOM.out u h1 h3 p h2
        · have h1 := lt_of_block HB1.out; have h2 := lt_of_block HD1.out; omega)
      have HP15 := Lib.hid (show p15 ≠ g7 from by have h1 := lt_of_block HB1.out; omega)
      have HB2 := Lib.hid (hky.heap HB1.out (by simp)); have HD2 := Lib.hid (hky.heap HD1.out (by simp)); have HZ2 := Lib.hid (hky.heap HZ1.out (by simp))
      have HBA2 := Lib.hid (hky.heap HBA1.out (by simp)); have HBB2 := Lib.hid (hky.heap HBB1.out (by simp)); have HAT2 := Lib.hid (R.new_ HAT1.out hky)
      have HAO2 := Lib.hid (R.new_ HAO1.out hky); have HI2 := Lib.hid (HI1.out.new hky); have HK2 := Lib.hid (HK1.out.trans hky (FSub.refl _ _))
      have HRW2 := Lib.hid (fun j v hv => hky.cell (HRW1.out j v hv) (by simp))
      replace HFS := Lib.hid (fun w' (h : Keeps [] V2 w') => HFS.out w' (hky.trans h (FSub.refl _ _)))
      clear hok1 hba hbb hdt hqn hmn hqa hma hky hga hgb hab HB1 HD1 HZ1 HAO1 HI1 HK1 HRW1 HBA1 HBB1 HAT1 HDS HQ0 HM0
      have tk : (r.k == r.k) = true := by simp
      have tv : (r.v == r.v) = true := by simp
      have te : (e1 == e1) = true := by simp
      go_wp2_with (first
        | ((with_reducible refine wpList_loadM (g := p12) (off := 0) HOK1.out ?_ ?_ (block_range HBA2.out) ?_); exact rfl; exact rfl)
        | ((with_reducible refine wpList_loadD (g := p15) (off := 0) HOD.out ?_ ?_ (block_range HBD2.out) ?_); exact rfl; exact rfl)
        | ((with_reducible refine wpList_loadN13 (g := p13) (y := r) ?_ ?_ HBB2.out ?_); exact rfl; exact rfl)
        | ((with_reducible refine wpList_loadN13 (g := p16) (y := r) ?_ ?_ HBR2.out ?_); exact rfl; exact rfl))
      refine (alike13_any R V2 (HGL.out _ HK2.out) HAT2.out (by have := HLK.out; have := HL1.out; omega) HDT2.out).mono ?_; rintro e V3 ⟨rfl, hky⟩
      have HB3 := Lib.hid (hky.heap HB2.out (by simp)); have HD3 := Lib.hid (hky.heap HD2.out (by simp)); have HZ3 := Lib.hid (hky.heap HZ2.out (by simp))
      have HBA3 := Lib.hid (hky.heap HBA2.out (by simp)); have HAT3 := Lib.hid (R.new_ HAT2.out hky)
      have HBD3 := Lib.hid (hky.heap HBD2.out (by simp)); have HBR3 := Lib.hid (hky.heap HBR2.out (by simp)); have HDT3 := Lib.hid (HDT2.out.new hky)
      have HAO3 := Lib.hid (R.new_ HAO2.out hky); have HI3 := Lib.hid (HI2.out.new hky); have HK3 := Lib.hid (HK2.out.trans hky (FSub.refl _ _))
      have HRW3 := Lib.hid (fun j v hv => hky.cell (HRW2.out j v hv) (by simp))
      replace HFS := Lib.hid (fun w' (h : Keeps [] V3 w') => HFS.out w' (hky.trans h (FSub.refl _ _)))
      clear hky HB2 HD2 HZ2 HBA2 HAT2 HBD2 HBR2 HDT2 HAO2 HI2 HK2 HRW2
      go_wp2_with (first
        | ((with_reducible refine wpList_loadM (g := g7) (off := 0) HOK.out ?_ ?_ (block_range HB3.out) ?_); exact rfl; exact rfl)
        | ((with_reducible refine wpList_loadD (g := g9) (off := 0) HQK.out ?_ ?_ (block_range HD3.out) ?_); exact rfl; exact rfl))
      refine (alike13_any R V3 (HGL.out _ HK3.out) HAO3.out (by have := HLK.out; omega) HI3.out).mono ?_; rintro e V4 ⟨rfl, hky⟩
      have HB4 := Lib.hid (hky.heap HB3.out (by simp)); have HD4 := Lib.hid (hky.heap HD3.out (by simp)); have HZ4 := Lib.hid (hky.heap HZ3.out (by simp))
      have HBA4 := Lib.hid (hky.heap HBA3.out (by simp)); have HAT4 := Lib.hid (R.new_ HAT3.out hky)
      have HBD4 := Lib.hid (hky.heap HBD3.out (by simp)); have HBR4 := Lib.hid (hky.heap HBR3.out (by simp)); have HDT4 := Lib.hid (HDT3.out.new hky)
      have HAO4 := Lib.hid (R.new_ HAO3.out hky); have HI4 := Lib.hid (HI3.out.new hky); have HK4 := Lib.hid (HK3.out.trans hky (FSub.refl _ _))
      have HRW4 := Lib.hid (fun j v hv => hky.cell (HRW3.out j v hv) (by simp))
      replace HFS := Lib.hid (fun w' (h : Keeps [] V4 w') => HFS.out w' (hky.trans h (FSub.refl _ _)))
      clear hky HB3 HD3 HZ3 HBA3 HAT3 HBD3 HBR3 HDT3 HAO3 HI3 HK3 HRW3
      have HF0 := Lib.hid (fun q hq => R.old HAO4.out q hq)
      go_wp2_with fail
      refine wp_join13 (fun qa qb zv us a => ((((((((((((((((((a.put (some 110) (us.getD 0 undef)).put (some 111) (us.getD 1 undef)).put (some 112) (us.getD 2 undef)).put (some 113) (us.getD 3 undef)).put (some 114) (us.getD 4 undef)).put (some 115) (us.getD 5 undef)).put (some 116) (us.getD 6 undef)).put (some 117) (us.getD 7 undef)).put (some 118) (us.getD 8 undef)).put (some 119) (us.getD 9 undef)).put (some 120) (us.getD 10 undef)).put (some 121) (us.getD 11 undef)).put (some 122) (us.getD 12 undef)).put (some 109) (us.getD 13 undef)).put (some 123) (us.getD 14 undef)).put (some 124) (us.getD 15 undef)).put (some 18) (.pointer (some ⟨qa, 0, none⟩))).put (some 19) (.bool D))) (fun qa qb zv w' => ∃ A1 : List Value, zv = .agg A1.toArray ∧ skM.Ok A1 ∧ w'.heap[qa]? = some (.cells A1.toArray 29 (0, 0)) ∧ R.At w' (.agg A1.toArray) (some S2) ∧ Keeps [] V4 w') ?_ ?_
      · obtain ⟨S0, hS0⟩ : ∃ S0 : World → Prop, S0 = fun y => Keeps [] V4 y := ⟨_, rfl⟩
        have HSE := Lib.hid hS0
        have hSD : S0 V4.drew := by rw [hS0]; exact (Keeps.refl _ _).drew
        have HSA := Lib.hid (fun (w' : World) (hh : S0 w') => show w'.rangeAt g7 0 A from by rw [hS0] at hh; exact fun j v hv => hh.cell (block_range HB4.out j v hv) (by simp))
        have HSC := Lib.hid (fun (w' : World) (hh : S0 w') => show w'.cell? ⟨g, o + k * 6, none⟩ = some (.int .u8 y.c) from by rw [hS0] at hh; exact hh.cell (cl_parts HRW4.out).1 (by simp))
        have HSX := Lib.hid (fun (w' : World) (hh : S0 w') => show w'.rangeAt g (o + k * 6 + 1) (opC y.x) from by rw [hS0] at hh; exact fun j v hv => hh.cell ((cl_parts HRW4.out).2 j v hv) (by simp))
        have HSR := Lib.hid (fun (w' : World) (hh : S0 w') => show w'.rangeAt w.heap.size 0 (ansC rr) from by rw [hS0] at hh; exact fun j v hv => hh.cell (block_range HZ4.out j v hv) (by simp))
        clear hS0
        refine wp_region_noPanic ?_
        refine wp_region_held_drew (S := S0) (by kernel_rfl) hSD (fun hHeld => ?_)
        apply wpAnyH_take (i := 0)
        · simp only [List.getElem?_toArray]; rfl
        iterate 3 (· kernel_rfl)
        · exact fun _ _ _ h => h
        · exact skM.yields HOK.out rfl _ rfl g7 0 rfl HSA.out
        · assumption
        try simp only [Act.put, lsA, lsZ, lsS]
        apply wpAnyH_take (i := 1)
        · simp only [List.getElem?_toArray]; rfl
        iterate 3 (· kernel_rfl)
        · exact fun _ _ _ h => h
        · exact Or.inl ⟨by rfl, by intro w hSw; go_simp; try with_reducible rfl⟩
        · assumption
        try simp only [Act.put, lsA, lsZ, lsS]
        apply wpAnyH_take (i := 2)
        · simp only [List.getElem?_toArray]; rfl
        iterate 3 (· kernel_rfl)
        · exact fun _ _ _ h => h
        · exact Or.inl ⟨by rfl, by intro w hSw; go_simp; try with_reducible rfl⟩
        · assumption
        try simp only [Act.put, lsA, lsZ, lsS]
        apply wpAnyH_take (i := 3)
        · simp only [List.getElem?_toArray]; rfl
        iterate 3 (· kernel_rfl)
        · exact fun _ _ _ h => h
        · exact yields_indexC13 rfl _ _ rfl g o n cp k rfl rfl hlt
        · assumption
        try simp only [Act.put, lsA, lsZ, lsS]
        apply wpAnyH_take (i := 4)
        · simp only [List.getElem?_toArray]; rfl
        iterate 3 (· kernel_rfl)
        · exact fun _ _ _ h => h
        · exact Or.inl ⟨by rfl, by intro w hSw; go_simp; try with_reducible rfl⟩
        · assumption
        try simp only [Act.put, lsA, lsZ, lsS]
        apply wpAnyH_take (i := 5)
        · simp only [List.getElem?_toArray]; rfl
        iterate 3 (· kernel_rfl)
        · exact fun _ _ _ h => h
        · exact Or.inl ⟨by rfl, by intro w hSw; have q0 := HSC.out w hSw; go_simp; try with_reducible rfl⟩
        · assumption
        try simp only [Act.put, lsA, lsZ, lsS]
        apply wpAnyH_take (i := 6)
        · simp only [List.getElem?_toArray]; rfl
        iterate 3 (· kernel_rfl)
        · exact fun _ _ _ h => h
        · exact Or.inl ⟨by rfl, by intro w hSw; go_simp; try with_reducible rfl⟩
        · assumption
        try simp only [Act.put, lsA, lsZ, lsS]
        apply wpAnyH_take (i := 7)
        · simp only [List.getElem?_toArray]; rfl
        iterate 3 (· kernel_rfl)
        · exact fun _ _ _ h => h
        · exact Or.inl ⟨by rfl, by intro w hSw; go_simp; try with_reducible rfl⟩
        · assumption
        try simp only [Act.put, lsA, lsZ, lsS]
        apply wpAnyH_take (i := 8)
        · simp only [List.getElem?_toArray]; rfl
        iterate 3 (· kernel_rfl)
        · exact fun _ _ _ h => h
        · exact yields_indexC13 rfl _ _ rfl g o n cp k rfl rfl hlt
        · assumption
        try simp only [Act.put, lsA, lsZ, lsS]
        apply wpAnyH_take (i := 9)
        · simp only [List.getElem?_toArray]; rfl
        iterate 3 (· kernel_rfl)
        · exact fun _ _ _ h => h
        · exact Or.inl ⟨by rfl, by intro w hSw; go_simp; try with_reducible rfl⟩
        · assumption
        try simp only [Act.put, lsA, lsZ, lsS]
        apply wpAnyH_take (i := 10)
        · simp only [List.getElem?_toArray]; rfl
        iterate 3 (· kernel_rfl)
        · exact fun _ _ _ h => h
        · exact yields_loadP y.x rfl _ rfl g _ rfl HSX.out
        · assumption
        try simp only [Act.put, lsA, lsZ, lsS]
        apply wpAnyH_take (i := 11)
        · simp only [List.getElem?_toArray]; rfl
        iterate 3 (· kernel_rfl)
        · exact fun _ _ _ h => h
        · exact skR.yields (ansC_ok rr) rfl _ rfl w.heap.size 0 rfl HSR.out
        · assumption
        try simp only [Act.put, lsA, lsZ, lsS]
        have HY := Lib.hid ((Keeps.refl [] V4).drew)
        generalize V4.drew = YC at *
        apply wpAnyH_ready (rs := [12, 16])
        · kernel_rfl
        · simp
        apply AllReadyH.cons
        · simp only [List.getElem?_toArray]; rfl
        · intro K hK
          rw [if_pos (by rfl)]
          refine wp_call9 15 _ _ rfl [.agg A.toArray, .int .u8 y.c, y.x.val, .agg (ansC rr).toArray] rfl Tryz.func15 (by kernel_rfl) (by kernel_rfl) ((HFS.out _ HY.out).mono ?_)
          rintro e YC ⟨st1, rfl, hat, hk, hf⟩
          refine ⟨_, rfl, ?_⟩
          try have HFA := Lib.hid (show ∀ q ∈ R.foot st1, q ≠ ga from fun q hq => by
            rcases hf q hq with h | h
            · have h1 := HF0.out q h; have h2 := HGA.out; omega
            · have := HLA.out; omega)
          try replace HBA := Lib.hid (hk.heap HBA.out (by simp))
          try replace HLA := Lib.hid (Nat.lt_of_lt_of_le HLA.out hk.size)
          replace HY := Lib.hid (HY.out.trans hk (FSub.refl _ _))
          have HAT := Lib.hid hat
          obtain ⟨A2, rfl, hok1⟩ := R.cells hat
          have HOK2 := Lib.hid hok1
          clear hat hk hf hok1
          refine hK.out _ _ ?_ (fun hHeld => ?_)
          · exact (by rw [HSE.out]; exact HY.out)
          clear hK K
          try simp only [Act.put, lsA, lsZ, lsS]
          apply wpAnyH_take (i := 13)
          · simp only [List.getElem?_toArray]; rfl
          iterate 3 (· kernel_rfl)
          · exact fun _ _ _ h => h
          · exact Or.inl ⟨by rfl, by intro w hSw; go_simp; try with_reducible rfl⟩
          · assumption
          try simp only [Act.put, lsA, lsZ, lsS]
          apply wpAnyH_take (i := 14)
          · simp only [List.getElem?_toArray]; rfl
          iterate 3 (· kernel_rfl)
          · exact fun _ _ _ h => h
          · exact Or.inl ⟨by rfl, by intro w hSw; go_simp; try with_reducible rfl⟩
          · assumption
          try simp only [Act.put, lsA, lsZ, lsS]
          apply wpAnyH_take (i := 15)
          · simp only [List.getElem?_toArray]; rfl
          iterate 3 (· kernel_rfl)
          · exact fun _ _ _ h => h
          · exact Or.inl ⟨by rfl, by intro w hSw; go_simp; try with_reducible rfl⟩
          · assumption
          try simp only [Act.put, lsA, lsZ, lsS]
          apply wpAnyH_ready (rs := [16])
          · kernel_rfl
          · simp
          apply AllReadyH.cons (hs := AllReadyH.nil)
          · simp only [List.getElem?_toArray]; rfl
          intro K hK
          rw [if_pos (by rfl)]
          refine wp_allocM rfl ?_
          have hk : Keeps [] YC (YC.alloc (.cells mdZ.toArray 29)) := (Keeps.refl _ _).alloc _
          have hb := heap_alloc_new YC (.cells mdZ.toArray 29)
          try have HFA := Lib.hid (fun q hq => (show q ≠ YC.heap.size from Nat.ne_of_lt (R.old HAT.out q hq)))
          have HGA := Lib.hid HY.out.size
          try replace HAT := Lib.hid (R.new_ HAT.out hk)
          replace HY := Lib.hid (HY.out.trans hk (FSub.refl _ _))
          have HBA := Lib.hid hb
          have HLA := Lib.hid (lt_of_block hb)
          clear hk hb
          generalize YC.heap.size = ga at *
          generalize YC.alloc (.cells mdZ.toArray 29) = YC at *
          refine hK.out _ _ ?_ (fun hHeld => ?_)
          · exact (by rw [HSE.out]; exact HY.out)
          clear hK K
          try simp only [Act.put, lsA, lsZ, lsS]
          apply wpAnyH_ready (rs := [17])
          · kernel_rfl
          · simp
          apply AllReadyH.cons (hs := AllReadyH.nil)
          · simp only [List.getElem?_toArray]; rfl
          intro K hK
          rw [if_pos (by rfl)]
          refine skM.wp_put rfl (g := ga) (old := mdZ) (A := A2) HOK2.out mdZ_ok rfl rfl HBA.out (fun YC hV hk => ?_)
          replace HBA := Lib.hid hV
          replace HAT := Lib.hid (R.put HAT.out hk HFA.out)
          replace HY := Lib.hid (HY.out.trans' hk HGA.out)
          clear hV hk
          refine hK.out _ _ ?_ (fun hHeld => ?_)
          · exact (by rw [HSE.out]; exact HY.out)
          clear hK K
          try simp only [Act.put, lsA, lsZ, lsS]
          apply wpAnyH_take (i := 18)
          · simp only [List.getElem?_toArray]; rfl
          iterate 3 (· kernel_rfl)
          · exact fun _ _ _ h => h
          · exact Or.inl ⟨by rfl, by intro w hSw; go_simp; try with_reducible rfl⟩
          · assumption
          try simp only [Act.put, lsA, lsZ, lsS]
          refine wpAnyH_done (by kernel_rfl) ?_ _
          refine NoPanic.normal ?_
          exact ⟨rfl, ga, 0, .agg A2.toArray, [_, _, _, _, _, _, _, _, _, _, _, _, _, _, _, _], rfl, A2, rfl, HOK2.out, HBA.out, HAT.out, HY.out⟩
        apply AllReadyH.cons (hs := AllReadyH.nil)
        · simp only [List.getElem?_toArray]; rfl
        intro K hK
        rw [if_pos (by rfl)]
        refine wp_allocM rfl ?_
        have hk : Keeps [] YC (YC.alloc (.cells mdZ.toArray 29)) := (Keeps.refl _ _).alloc _
        have hb := heap_alloc_new YC (.cells mdZ.toArray 29)
        try have HFA := Lib.hid (fun q hq => (show q ≠ YC.heap.size from Nat.ne_of_lt (R.old HAT.out q hq)))
        have HGA := Lib.hid HY.out.size
        try replace HAT := Lib.hid (R.new_ HAT.out hk)
        replace HY := Lib.hid (HY.out.trans hk (FSub.refl _ _))
        have HBA := Lib.hid hb
        have HLA := Lib.hid (lt_of_block hb)
        clear hk hb
        generalize YC.heap.size = ga at *
        generalize YC.alloc (.cells mdZ.toArray 29) = YC at *
        refine hK.out _ _ ?_ (fun hHeld => ?_)
        · exact (by rw [HSE.out]; exact HY.out)
        clear hK K
        try simp only [Act.put, lsA, lsZ, lsS]
        apply wpAnyH_ready (rs := [12])
        · kernel_rfl
        · simp
        apply AllReadyH.cons (hs := AllReadyH.nil)
        · simp only [List.getElem?_toArray]; rfl
        intro K hK
        rw [if_pos (by rfl)]
        refine wp_call9 15 _ _ rfl [.agg A.toArray, .int .u8 y.c, y.x.val, .agg (ansC rr).toArray] rfl Tryz.func15 (by kernel_rfl) (by kernel_rfl) ((HFS.out _ HY.out).mono ?_)
        rintro e YC ⟨st1, rfl, hat, hk, hf⟩
        refine ⟨_, rfl, ?_⟩
        try have HFA := Lib.hid (show ∀ q ∈ R.foot st1, q ≠ ga from fun q hq => by
          rcases hf q hq with h | h
          · have h1 := HF0.out q h; have h2 := HGA.out; omega
          · have := HLA.out; omega)
        try replace HBA := Lib.hid (hk.heap HBA.out (by simp))
        try replace HLA := Lib.hid (Nat.lt_of_lt_of_le HLA.out hk.size)
        replace HY := Lib.hid (HY.out.trans hk (FSub.refl _ _))
        have HAT := Lib.hid hat
        obtain ⟨A2, rfl, hok1⟩ := R.cells hat
        have HOK2 := Lib.hid hok1
        clear hat hk hf hok1
        refine hK.out _ _ ?_ (fun hHeld => ?_)
        · exact (by rw [HSE.out]; exact HY.out)
        clear hK K
        try simp only [Act.put, lsA, lsZ, lsS]
        apply wpAnyH_take (i := 13)
        · simp only [List.getElem?_toArray]; rfl
        iterate 3 (· kernel_rfl)
        · exact fun _ _ _ h => h
        · exact Or.inl ⟨by rfl, by intro w hSw; go_simp; try with_reducible rfl⟩
        · assumption
        try simp only [Act.put, lsA, lsZ, lsS]
        apply wpAnyH_take (i := 14)
        · simp only [List.getElem?_toArray]; rfl
        iterate 3 (· kernel_rfl)
        · exact fun _ _ _ h => h
        · exact Or.inl ⟨by rfl, by intro w hSw; go_simp; try with_reducible rfl⟩
        · assumption
        try simp only [Act.put, lsA, lsZ, lsS]
        apply wpAnyH_take (i := 15)
        · simp only [List.getElem?_toArray]; rfl
        iterate 3 (· kernel_rfl)
        · exact fun _ _ _ h => h
        · exact Or.inl ⟨by rfl, by intro w hSw; go_simp; try with_reducible rfl⟩
        · assumption
        try simp only [Act.put, lsA, lsZ, lsS]
        apply wpAnyH_ready (rs := [17])
        · kernel_rfl
        · simp
        apply AllReadyH.cons (hs := AllReadyH.nil)
        · simp only [List.getElem?_toArray]; rfl
        intro K hK
        rw [if_pos (by rfl)]
        refine skM.wp_put rfl (g := ga) (old := mdZ) (A := A2) HOK2.out mdZ_ok rfl rfl HBA.out (fun YC hV hk => ?_)
        replace HBA := Lib.hid hV
        replace HAT := Lib.hid (R.put HAT.out hk HFA.out)
        replace HY := Lib.hid (HY.out.trans' hk HGA.out)
        clear hV hk
        refine hK.out _ _ ?_ (fun hHeld => ?_)
        · exact (by rw [HSE.out]; exact HY.out)
        clear hK K
        try simp only [Act.put, lsA, lsZ, lsS]
        apply wpAnyH_take (i := 18)
        · simp only [List.getElem?_toArray]; rfl
        iterate 3 (· kernel_rfl)
        · exact fun _ _ _ h => h
        · exact Or.inl ⟨by rfl, by intro w hSw; go_simp; try with_reducible rfl⟩
        · assumption
        try simp only [Act.put, lsA, lsZ, lsS]
        refine wpAnyH_done (by kernel_rfl) ?_ _
        refine NoPanic.normal ?_
        exact ⟨rfl, ga, 0, .agg A2.toArray, [_, _, _, _, _, _, _, _, _, _, _, _, _, _, _, _], rfl, A2, rfl, HOK2.out, HBA.out, HAT.out, HY.out⟩
      rintro p18 - zv us V5 ⟨A2, rfl, hok2, hba, hat, hky⟩
      simp only [Act.put, lsA, lsZ, lsS]
      have HOK2 := Lib.hid hok2; have HBF5 := Lib.hid hba; have HAF5 := Lib.hid hat
      have HB5 := Lib.hid (hky.heap HB4.out (by simp)); have HD5 := Lib.hid (hky.heap HD4.out (by simp)); have HZ5 := Lib.hid (hky.heap HZ4.out (by simp))
      have HBA5 := Lib.hid (hky.heap HBA4.out (by simp)); have HAT5 := Lib.hid (R.new_ HAT4.out hky)
      have HBD5 := Lib.hid (hky.heap HBD4.out (by simp)); have HBR5 := Lib.hid (hky.heap HBR4.out (by simp)); have HDT5 := Lib.hid (HDT4.out.new hky)
      have HAO5 := Lib.hid (R.new_ HAO4.out hky); have HI5 := Lib.hid (HI4.out.new hky); have HK5 := Lib.hid (HK4.out.trans hky (FSub.refl _ _))
      have HRW5 := Lib.hid (fun j v hv => hky.cell (HRW4.out j v hv) (by simp))
      replace HFS := Lib.hid (fun w' (h : Keeps [] V5 w') => HFS.out w' (hky.trans h (FSub.refl _ _)))
      clear hky HB4 HD4 HZ4 HBA4 HAT4 HBD4 HBR4 HDT4 HAO4 HI4 HK4 HRW4
      clear hok2 hba hat HFS HF0
      by_cases h1 : e1 = 0
      · by_cases h2 : r = rr
        · obtain rfl : D = true := by rw [HDD.out]; simp [h1, h2]
          obtain rfl : S1 = S2 := by rw [HSS.out, if_pos ⟨h1, h2⟩]
          subst h1 h2
          go_wp2_with (first
            | ((with_reducible refine wpList_loadM (g := p18) (off := 0) HOK2.out ?_ ?_ (block_range HBF5.out) ?_); exact rfl; exact rfl)
            | ((with_reducible refine wpList_loadD (g := p15) (off := 0) HOD.out ?_ ?_ (block_range HBD5.out) ?_); exact rfl; exact rfl)
            | ((with_reducible refine wpList_loadN13 (g := p16) (y := r) ?_ ?_ HBR5.out ?_); exact rfl; exact rfl)
            | ((with_reducible refine wpList_loadN13 (g := w.heap.size) (y := r) ?_ ?_ HZ5.out ?_); exact rfl; exact rfl))
          refine (alike13_any R V5 (HGL.out _ HK5.out) HAF5.out (by have := HLK.out; have := HL1.out; omega) HDT5.out).mono ?_; rintro e V6 ⟨rfl, hky⟩
          have HB6 := Lib.hid (hky.heap HB5.out (by simp)); have HD6 := Lib.hid (hky.heap HD5.out (by simp)); have HZ6 := Lib.hid (hky.heap HZ5.out (by simp))
          have HBA6 := Lib.hid (hky.heap HBA5.out (by simp)); have HAT6 := Lib.hid (R.new_ HAT5.out hky)
          have HBD6 := Lib.hid (hky.heap HBD5.out (by simp)); have HDT6 := Lib.hid (HDT5.out.new hky)
          have HK6 := Lib.hid (HK5.out.trans hky (FSub.refl _ _))
          clear hky HB5 HD5 HZ5 HBA5 HAT5 HBD5 HBR5 HDT5 HAO5 HI5 HK5 HRW5 HBF5 HAF5
          go_wp2_with (first
            | ((with_reducible refine wpList_loadM (g := p12) (off := 0) HOK1.out ?_ ?_ (block_range HBA6.out) ?_); exact rfl; exact rfl)
            | ((with_reducible refine wpList_putM (g := g7) (old := A) (A := A1) HOK1.out HOK.out ?_ ?_ HB6.out ?_); exact rfl; exact rfl))
          intro V7 hV hk
          have HB7 := Lib.hid hV
          have HD7 := Lib.hid (hk.heap HD6.out (by have := HL3.out; simp; omega)); have HZ7 := Lib.hid (hk.heap HZ6.out (by have := HLG.out; simp; omega))
          have HBD7 := Lib.hid (hk.heap HBD6.out (by have := HP15.out; simpa using this))
          have HAT7 := Lib.hid (R.put HAT6.out hk (fun q hq => (HFT1.out q hq).1))
          have HDT7 := Lib.hid (D13.keeps HDT6.out hk (fun hn p hp => by simpa using (HOQ1.out hn p hp).1) (fun t ht hn p hp => by simpa using (HOM1.out t ht hn p hp).1))
          have HK7 := Lib.hid (HK6.out.trans hk (fun q hq => .inr (by have := HLG.out; simp at hq; omega)))
          clear hV hk HB6 HD6 HZ6 HBA6 HAT6 HBD6 HDT6 HK6
          go_wp2_with (first
            | ((with_reducible refine wpList_loadD (g := p15) (off := 0) HOD.out ?_ ?_ (block_range HBD7.out) ?_); exact rfl; exact rfl)
            | ((with_reducible refine wpList_putD (g := g9) (old := mdC S q mm) (A := mdC S1 q1 m1) HOD.out HQK.out ?_ ?_ HD7.out ?_); exact rfl; exact rfl))
          intro V8 hV hk
          have HD8 := Lib.hid hV
          have HB8 := Lib.hid (hk.heap HB7.out (by have := HL3.out; simp; omega)); have HZ8 := Lib.hid (hk.heap HZ7.out (by have := HLG.out; have := HL3.out; simp; omega))
          have HAT8 := Lib.hid (R.put HAT7.out hk (fun q hq => (HFT1.out q hq).2))
          have HDT8 := Lib.hid (D13.keeps HDT7.out hk (fun hn p hp => by simpa using (HOQ1.out hn p hp).2) (fun t ht hn p hp => by simpa using (HOM1.out t ht hn p hp).2))
          have HK8 := Lib.hid (HK7.out.trans hk (fun q hq => .inr (by have := HLG.out; have := HL3.out; simp at hq; omega)))
          clear hV hk HB7 HD7 HZ7 HAT7 HBD7 HDT7 HK7
          go_wp2_with fail
          go_roundw
          case rel => exact ⟨k + 1, A1, q1, m1, by go_num, by omega, HOK1.out, HB8.out, by rw [HNX.out]; exact HD8.out, by rw [HNX.out]; exact HAT8.out, by rw [HNX.out]; exact HDT8.out, HFT1.out, by rw [HNX.out]; exact HOQ1.out, by rw [HNX.out]; exact HOM1.out, HZ8.out, HK8.out⟩
          case measure => simp [intOf]; omega
        · obtain rfl : D = false := by rw [HDD.out]; simp [h2]
          obtain rfl : S = S2 := by rw [HSS.out, if_neg (fun h => h2 h.2)]
          subst h1
          by_cases h3 : r.k = rr.k
          · have h4 : r.v ≠ rr.v := fun h => h2 (by cases r; cases rr; simp at h3 h; simp [h3, h])
            have qk : (r.k == rr.k) = true := by simp [h3]
            have qv : (r.v == rr.v) = false := by simpa using h4
            clear h2 h3 h4
            go_wp2_with (first
              | ((with_reducible refine wpList_loadM (g := p18) (off := 0) HOK2.out ?_ ?_ (block_range HBF5.out) ?_); exact rfl; exact rfl)
              | ((with_reducible refine wpList_loadD (g := g9) (off := 0) HQK.out ?_ ?_ (block_range HD5.out) ?_); exact rfl; exact rfl)
              | ((with_reducible refine wpList_loadN13 (g := p16) (y := r) ?_ ?_ HBR5.out ?_); exact rfl; exact rfl)
              | ((with_reducible refine wpList_loadN13 (g := w.heap.size) (y := rr) ?_ ?_ HZ5.out ?_); exact rfl; exact rfl))
            refine (alike13_any R V5 (HGL.out _ HK5.out) HAF5.out (by have := HLK.out; omega) HI5.out).mono ?_; rintro e V6 ⟨rfl, hky⟩
            have HB6 := Lib.hid (hky.heap HB5.out (by simp)); have HD6 := Lib.hid (hky.heap HD5.out (by simp)); have HZ6 := Lib.hid (hky.heap HZ5.out (by simp))
            have HBA6 := Lib.hid (hky.heap HBA5.out (by simp)); have HAT6 := Lib.hid (R.new_ HAT5.out hky)
            have HBD6 := Lib.hid (hky.heap HBD5.out (by simp)); have HDT6 := Lib.hid (HDT5.out.new hky)
            have HK6 := Lib.hid (HK5.out.trans hky (FSub.refl _ _))
            clear hky HB5 HD5 HZ5 HBA5 HAT5 HBD5 HBR5 HDT5 HAO5 HI5 HK5 HRW5 HBF5 HAF5
            go_wp2_with (first
              | ((with_reducible refine wpList_loadM (g := p12) (off := 0) HOK1.out ?_ ?_ (block_range HBA6.out) ?_); exact rfl; exact rfl)
              | ((with_reducible refine wpList_putM (g := g7) (old := A) (A := A1) HOK1.out HOK.out ?_ ?_ HB6.out ?_); exact rfl; exact rfl))
            intro V7 hV hk
            have HB7 := Lib.hid hV
            have HD7 := Lib.hid (hk.heap HD6.out (by have := HL3.out; simp; omega)); have HZ7 := Lib.hid (hk.heap HZ6.out (by have := HLG.out; simp; omega))
            have HBD7 := Lib.hid (hk.heap HBD6.out (by have := HP15.out; simpa using this))
            have HAT7 := Lib.hid (R.put HAT6.out hk (fun q hq => (HFT1.out q hq).1))
            have HDT7 := Lib.hid (D13.keeps HDT6.out hk (fun hn p hp => by simpa using (HOQ1.out hn p hp).1) (fun t ht hn p hp => by simpa using (HOM1.out t ht hn p hp).1))
            have HK7 := Lib.hid (HK6.out.trans hk (fun q hq => .inr (by have := HLG.out; simp at hq; omega)))
            clear hV hk HB6 HD6 HZ6 HBA6 HAT6 HBD6 HDT6 HK6
            go_wp2_with (first
              | ((with_reducible refine wpList_loadD (g := p15) (off := 0) HOD.out ?_ ?_ (block_range HBD7.out) ?_); exact rfl; exact rfl)
              | ((with_reducible refine wpList_putD (g := g9) (old := mdC S q mm) (A := mdC S1 q1 m1) HOD.out HQK.out ?_ ?_ HD7.out ?_); exact rfl; exact rfl))
            intro V8 hV hk
            have HD8 := Lib.hid hV
            have HB8 := Lib.hid (hk.heap HB7.out (by have := HL3.out; simp; omega)); have HZ8 := Lib.hid (hk.heap HZ7.out (by have := HLG.out; have := HL3.out; simp; omega))
            have HAT8 := Lib.hid (R.put HAT7.out hk (fun q hq => (HFT1.out q hq).2))
            have HDT8 := Lib.hid (D13.keeps HDT7.out hk (fun hn p hp => by simpa using (HOQ1.out hn p hp).2) (fun t ht hn p hp => by simpa using (HOM1.out t ht hn p hp).2))
            have HK8 := Lib.hid (HK7.out.trans hk (fun q hq => .inr (by have := HLG.out; have := HL3.out; simp at hq; omega)))
            clear hV hk HB7 HD7 HZ7 HAT7 HBD7 HDT7 HK7
            go_wp2_with fail
            go_roundw
            case rel => exact ⟨k + 1, A1, q1, m1, by go_num, by omega, HOK1.out, HB8.out, by rw [HNX.out]; exact HD8.out, by rw [HNX.out]; exact HAT8.out, by rw [HNX.out]; exact HDT8.out, HFT1.out, by rw [HNX.out]; exact HOQ1.out, by rw [HNX.out]; exact HOM1.out, HZ8.out, HK8.out⟩
            case measure => simp [intOf]; omega
          · have qk : (r.k == rr.k) = false := by simpa using h3
            clear h2 h3
            go_wp2_with (first
              | ((with_reducible refine wpList_loadM (g := p18) (off := 0) HOK2.out ?_ ?_ (block_range HBF5.out) ?_); exact rfl; exact rfl)
              | ((with_reducible refine wpList_loadD (g := g9) (off := 0) HQK.out ?_ ?_ (block_range HD5.out) ?_); exact rfl; exact rfl)
              | ((with_reducible refine wpList_loadN13 (g := p16) (y := r) ?_ ?_ HBR5.out ?_); exact rfl; exact rfl)
              | ((with_reducible refine wpList_loadN13 (g := w.heap.size) (y := rr) ?_ ?_ HZ5.out ?_); exact rfl; exact rfl))
            refine (alike13_any R V5 (HGL.out _ HK5.out) HAF5.out (by have := HLK.out; omega) HI5.out).mono ?_; rintro e V6 ⟨rfl, hky⟩
            have HB6 := Lib.hid (hky.heap HB5.out (by simp)); have HD6 := Lib.hid (hky.heap HD5.out (by simp)); have HZ6 := Lib.hid (hky.heap HZ5.out (by simp))
            have HBA6 := Lib.hid (hky.heap HBA5.out (by simp)); have HAT6 := Lib.hid (R.new_ HAT5.out hky)
            have HBD6 := Lib.hid (hky.heap HBD5.out (by simp)); have HDT6 := Lib.hid (HDT5.out.new hky)
            have HK6 := Lib.hid (HK5.out.trans hky (FSub.refl _ _))
            clear hky HB5 HD5 HZ5 HBA5 HAT5 HBD5 HBR5 HDT5 HAO5 HI5 HK5 HRW5 HBF5 HAF5
            go_wp2_with (first
              | ((with_reducible refine wpList_loadM (g := p12) (off := 0) HOK1.out ?_ ?_ (block_range HBA6.out) ?_); exact rfl; exact rfl)
              | ((with_reducible refine wpList_putM (g := g7) (old := A) (A := A1) HOK1.out HOK.out ?_ ?_ HB6.out ?_); exact rfl; exact rfl))
            intro V7 hV hk
            have HB7 := Lib.hid hV
            have HD7 := Lib.hid (hk.heap HD6.out (by have := HL3.out; simp; omega)); have HZ7 := Lib.hid (hk.heap HZ6.out (by have := HLG.out; simp; omega))
            have HBD7 := Lib.hid (hk.heap HBD6.out (by have := HP15.out; simpa using this))
            have HAT7 := Lib.hid (R.put HAT6.out hk (fun q hq => (HFT1.out q hq).1))
            have HDT7 := Lib.hid (D13.keeps HDT6.out hk (fun hn p hp => by simpa using (HOQ1.out hn p hp).1) (fun t ht hn p hp => by simpa using (HOM1.out t ht hn p hp).1))
            have HK7 := Lib.hid (HK6.out.trans hk (fun q hq => .inr (by have := HLG.out; simp at hq; omega)))
            clear hV hk HB6 HD6 HZ6 HBA6 HAT6 HBD6 HDT6 HK6
            go_wp2_with (first
              | ((with_reducible refine wpList_loadD (g := p15) (off := 0) HOD.out ?_ ?_ (block_range HBD7.out) ?_); exact rfl; exact rfl)
              | ((with_reducible refine wpList_putD (g := g9) (old := mdC S q mm) (A := mdC S1 q1 m1) HOD.out HQK.out ?_ ?_ HD7.out ?_); exact rfl; exact rfl))
            intro V8 hV hk
            have HD8 := Lib.hid hV
            have HB8 := Lib.hid (hk.heap HB7.out (by have := HL3.out; simp; omega)); have HZ8 := Lib.hid (hk.heap HZ7.out (by have := HLG.out; have := HL3.out; simp; omega))
            have HAT8 := Lib.hid (R.put HAT7.out hk (fun q hq => (HFT1.out q hq).2))
            have HDT8 := Lib.hid (D13.keeps HDT7.out hk (fun hn p hp => by simpa using (HOQ1.out hn p hp).2) (fun t ht hn p hp => by simpa using (HOM1.out t ht hn p hp).2))
            have HK8 := Lib.hid (HK7.out.trans hk (fun q hq => .inr (by have := HLG.out; have := HL3.out; simp at hq; omega)))
            clear hV hk HB7 HD7 HZ7 HAT7 HBD7 HDT7 HK7
            go_wp2_with fail
            go_roundw
            case rel => exact ⟨k + 1, A1, q1, m1, by go_num, by omega, HOK1.out, HB8.out, by rw [HNX.out]; exact HD8.out, by rw [HNX.out]; exact HAT8.out, by rw [HNX.out]; exact HDT8.out, HFT1.out, by rw [HNX.out]; exact HOQ1.out, by rw [HNX.out]; exact HOM1.out, HZ8.out, HK8.out⟩
            case measure => simp [intOf]; omega
      · obtain rfl : D = false := by rw [HDD.out]; simp [h1]
        obtain rfl : S = S2 := by rw [HSS.out, if_neg (fun h => h1 h.1)]
        have q0 : (e1 == 0) = false := by simpa using h1
        clear h1
        go_wp2_with (first
          | ((with_reducible refine wpList_loadM (g := p18) (off := 0) HOK2.out ?_ ?_ (block_range HBF5.out) ?_); exact rfl; exact rfl)
          | ((with_reducible refine wpList_loadD (g := g9) (off := 0) HQK.out ?_ ?_ (block_range HD5.out) ?_); exact rfl; exact rfl)
          | ((with_reducible refine wpList_loadN13 (g := p16) (y := r) ?_ ?_ HBR5.out ?_); exact rfl; exact rfl)
          | ((with_reducible refine wpList_loadN13 (g := w.heap.size) (y := rr) ?_ ?_ HZ5.out ?_); exact rfl; exact rfl))
        refine (alike13_any R V5 (HGL.out _ HK5.out) HAF5.out (by have := HLK.out; omega) HI5.out).mono ?_; rintro e V6 ⟨rfl, hky⟩
        have HB6 := Lib.hid (hky.heap HB5.out (by simp)); have HD6 := Lib.hid (hky.heap HD5.out (by simp)); have HZ6 := Lib.hid (hky.heap HZ5.out (by simp))
        have HBA6 := Lib.hid (hky.heap HBA5.out (by simp)); have HAT6 := Lib.hid (R.new_ HAT5.out hky)
        have HBD6 := Lib.hid (hky.heap HBD5.out (by simp)); have HDT6 := Lib.hid (HDT5.out.new hky)
        have HK6 := Lib.hid (HK5.out.trans hky (FSub.refl _ _))
        clear hky HB5 HD5 HZ5 HBA5 HAT5 HBD5 HBR5 HDT5 HAO5 HI5 HK5 HRW5 HBF5 HAF5
        go_wp2_with (first
          | ((with_reducible refine wpList_loadM (g := p12) (off := 0) HOK1.out ?_ ?_ (block_range HBA6.out) ?_); exact rfl; exact rfl)
          | ((with_reducible refine wpList_putM (g := g7) (old := A) (A := A1) HOK1.out HOK.out ?_ ?_ HB6.out ?_); exact rfl; exact rfl))
        intro V7 hV hk
        have HB7 := Lib.hid hV
        have HD7 := Lib.hid (hk.heap HD6.out (by have := HL3.out; simp; omega)); have HZ7 := Lib.hid (hk.heap HZ6.out (by have := HLG.out; simp; omega))
        have HBD7 := Lib.hid (hk.heap HBD6.out (by have := HP15.out; simpa using this))
        have HAT7 := Lib.hid (R.put HAT6.out hk (fun q hq => (HFT1.out q hq).1))
        have HDT7 := Lib.hid (D13.keeps HDT6.out hk (fun hn p hp => by simpa using (HOQ1.out hn p hp).1) (fun t ht hn p hp => by simpa using (HOM1.out t ht hn p hp).1))
        have HK7 := Lib.hid (HK6.out.trans hk (fun q hq => .inr (by have := HLG.out; simp at hq; omega)))
        clear hV hk HB6 HD6 HZ6 HBA6 HAT6 HBD6 HDT6 HK6
        go_wp2_with (first
          | ((with_reducible refine wpList_loadD (g := p15) (off := 0) HOD.out ?_ ?_ (block_range HBD7.out) ?_); exact rfl; exact rfl)
          | ((with_reducible refine wpList_putD (g := g9) (old := mdC S q mm) (A := mdC S1 q1 m1) HOD.out HQK.out ?_ ?_ HD7.out ?_); exact rfl; exact rfl))
        intro V8 hV hk
        have HD8 := Lib.hid hV
        have HB8 := Lib.hid (hk.heap HB7.out (by have := HL3.out; simp; omega)); have HZ8 := Lib.hid (hk.heap HZ7.out (by have := HLG.out; have := HL3.out; simp; omega))
        have HAT8 := Lib.hid (R.put HAT7.out hk (fun q hq => (HFT1.out q hq).2))
        have HDT8 := Lib.hid (D13.keeps HDT7.out hk (fun hn p hp => by simpa using (HOQ1.out hn p hp).2) (fun t ht hn p hp => by simpa using (HOM1.out t ht hn p hp).2))
        have HK8 := Lib.hid (HK7.out.trans hk (fun q hq => .inr (by have := HLG.out; have := HL3.out; simp at hq; omega)))
        clear hV hk HB7 HD7 HZ7 HAT7 HBD7 HDT7 HK7
        go_wp2_with fail
        go_roundw
        case rel => exact ⟨k + 1, A1, q1, m1, by go_num, by omega, HOK1.out, HB8.out, by rw [HNX.out]; exact HD8.out, by rw [HNX.out]; exact HAT8.out, by rw [HNX.out]; exact HDT8.out, HFT1.out, by rw [HNX.out]; exact HOQ1.out, by rw [HNX.out]; exact HOM1.out, HZ8.out, HK8.out⟩
        case measure => simp [intOf]; omega
    · obtain rfl : k = n := by omega
      have hb1 : ¬ (k : Int) < k := by omega
      clear hlt hk
      go_wp2_with fail
      refine (awake13_any R wr (HGL.out _ HK.out)).mono ?_; rintro e V1 ⟨rfl, hky⟩
      have HKV := Lib.hid (HK.out.trans hky (FSub.refl _ _))
      clear hky
      go_wp2_with fail
      go_ret
      exact ⟨rfl, HKV.out⟩
theorem ModelSteps_out (R : MdProg G) (w : World) (hG : G w) {m : Int} (h0 : 0 ≤ m) (h4 : m < 256) {v : Value} {l : List Cl} (hI : rkC13.In w.heap.size w v l) (hn : 150 < l.length ∨ 3 < m) (rr : Ans) :
    Calls Tryz.prog 3 #[.int .u8 m, v, .agg (ansC rr).toArray] w fun e w' => e = .returned (.bool true) ∧ Keeps [] w w' := by
  obtain ⟨a, cp, rfl, hc, hm, -⟩ := id hI
  have HZ := Lib.hid (show (w.alloc (.cells #[.int .u8 rr.k, .int .u16 rr.v] 25)).heap[w.heap.size]? = some (.cells (ansC rr).toArray 25 (0, 0)) from heap_alloc_new w _)
  have HKZ := Lib.hid (show Keeps [] w (w.alloc (.cells #[.int .u8 rr.k, .int .u16 rr.v] 25)) from (Keeps.refl _ _).alloc _)
  have HN := Lib.hid (R.new _ m (R.keepG hG HKZ.out) ⟨h0, h4⟩)
  have HGL := Lib.hid (fun w' (h : Keeps [] w w') => R.keepG hG h)
  obtain ⟨E, hE⟩ : ∃ E : Int, E = if m ≤ 3 then 0 else 10 := ⟨_, rfl⟩
  rw [← hE] at HN
  have HE := Lib.hid hE
  clear hI hG hE
  generalize l.length = n at *
  have HNN := Lib.hid hn
  clear hn
  go_enter Tryz.func3, Tryz.ntmps3
  go_wp2_with fail
  refine HN.out.mono ?_; rintro e w1 ⟨st0, rfl, hat, hk1, hf0⟩
  obtain ⟨A0, rfl, hok0⟩ := R.cells hat
  have HK1 := Lib.hid (HKZ.out.trans hk1 (FSub.refl _ _))
  have HOK0 := Lib.hid hok0
  have HC := Lib.hid (show (w1.alloc (.cells mdZA 29)).heap[w1.heap.size]? = some (.cells mdZ.toArray 29 (0, 0)) from heap_alloc_new w1 _)
  have HKC := Lib.hid (show Keeps [] w1 (w1.alloc (.cells mdZA 29)) from (Keeps.refl _ _).alloc _)
  clear hat hk1 hf0 hok0 HN HZ HKZ
  go_wp2_with ((with_reducible refine wpList_putM (g := w1.heap.size) (old := mdZ) (A := A0) HOK0.out mdZ_ok ?_ ?_ HC.out ?_); exact rfl; exact rfl)
  intro w2 hW2 hk2
  have HK2 := Lib.hid (HK1.out.trans (HKC.out.trans' hk2 (Nat.le_refl _)) (FSub.refl _ _))
  clear hW2 hk2 HC HKC HK1
  generalize w1.heap.size = g7 at *
  go_wp2_with fail
  refine (r13New_any w2 m h0 h4).mono ?_; rintro e w3 ⟨rfl, hk3⟩
  rw [← HE.out]
  obtain ⟨B, hB⟩ : ∃ B, B = if m ≤ 3 then mdC (mdInit m) (.slice none 0 0) (.slice none 0 0) else mdC0 := ⟨_, rfl⟩
  rw [← hB]
  have HOB := Lib.hid (show skD.Ok B from by
    rw [hB]; split
    · exact (D13.init w3 m).ok
    · exact mdC0_ok)
  have HK3 := Lib.hid (HK2.out.trans hk3 (FSub.refl _ _))
  have HC := Lib.hid (show (w3.alloc (.cells #[.int .u8 0, .int .u16 0, .slice none 0 0, .slice none 0 0, .int .i64 0] 36)).heap[w3.heap.size]? = some (.cells mdC0.toArray 36 (0, 0)) from heap_alloc_new w3 _)
  have HKC := Lib.hid (show Keeps [] w3 (w3.alloc (.cells #[.int .u8 0, .int .u16 0, .slice none 0 0, .slice none 0 0, .int .i64 0] 36)) from (Keeps.refl _ _).alloc _)
  clear hk3 HK2 hB
  go_wp2_with ((with_reducible refine wpList_putD (g := w3.heap.size) (old := mdC0) (A := B) HOB.out mdC0_ok ?_ ?_ HC.out ?_); exact rfl; exact rfl)
  intro w4 hW4 hk4
  have HK4 := Lib.hid (HK3.out.trans (HKC.out.trans' hk4 (Nat.le_refl _)) (FSub.refl _ _))
  clear hW4 hk4 HC HKC HK3
  generalize w3.heap.size = g9 at *
  have te : (E == E) = true := by simp
  by_cases hb : 150 < n
  · have hb1 : (150 : Int) < n := by omega
    go_wp2_with fail
    refine (awake13_any R w4 (HGL.out _ HK4.out)).mono ?_; rintro e w5 ⟨rfl, hk5⟩
    have HK5 := Lib.hid (HK4.out.trans hk5 (FSub.refl _ _))
    clear hk5
    go_wp2_with fail
    go_ret
    exact ⟨rfl, HK5.out⟩
  · have hb1 : ¬ (150 : Int) < n := by omega
    have hE : E = 10 := by rw [HE.out, if_neg (by have := HNN.out; omega)]
    have qe : (E == 0) = false := by rw [hE]; rfl
    clear hE
    go_wp2_with fail
    refine (awake13_any R w4 (HGL.out _ HK4.out)).mono ?_; rintro e w5 ⟨rfl, hk5⟩
    have HK5 := Lib.hid (HK4.out.trans hk5 (FSub.refl _ _))
    clear hk5
    go_wp2_with fail
    go_ret
    exact ⟨rfl, HK5.out⟩
theorem ModelSteps_all (R : MdProg G) (F : MdFits R) (w : World) (hG : G w) {m : Int} (h0 : 0 ≤ m) (h4 : m < 256) {v : Value} {l : List Cl} (hl : ∀ y ∈ l, y.In) (hI : rkC13.In w.heap.size w v l) (rr : Ans) (hrr : (0 ≤ rr.k ∧ rr.k < 256) ∧ (0 ≤ rr.v ∧ rr.v < 65536)) :
    Calls Tryz.prog 3 #[.int .u8 m, v, .agg (ansC rr).toArray] w fun e w' => e = .returned (.bool true) ∧ Keeps [] w w' := by
  by_cases hn : l.length ≤ 150
  · by_cases h3 : m ≤ 3
    · exact ModelSteps_any R F w hG h0 h3 hl hI hn rr hrr
    · exact ModelSteps_out R w hG h0 h4 hI (.inr (by omega)) rr
  · exact ModelSteps_out R w hG h0 h4 hI (.inl (by omega)) rr
end Go.Proofs.YtdachaekcjbfmaaGreatDoor
