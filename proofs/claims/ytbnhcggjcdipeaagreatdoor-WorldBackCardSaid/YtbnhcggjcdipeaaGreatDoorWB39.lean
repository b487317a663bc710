/-
  The program's World: Step.
-/
import Derived.Test.YtbnhcggjcdipeaaGreatDoorWB00
import Derived.Test.YtbnhcggjcdipeaaGreatDoorWB38
import Derived.Test.YtbnhcggjcdipeaaGreatDoorWB27
set_option linter.unusedSimpArgs false
set_option linter.unusedVariables false
namespace Go.Proofs.YtbnhcggjcdipeaaGreatDoor
open Go.RowKit
set_option maxRecDepth 100000
set_option maxHeartbeats 8000000
variable {G : World → Prop}
/-- The blocks of a state, of a world. -/
def ApM (R : MdProg G) (v : Value) (p : Nat → Prop) : Prop := ∀ q ∈ R.foot (.agg #[v]), p q
def ApW (R : MdProg G) (A : List Value) (p : Nat → Prop) : Prop := ∀ q ∈ wFoot R (.agg A.toArray), p q
/-- The program's State, as what lasts. -/
def kpM (R : MdProg G) (O : Option Md) : Kept Value where
  cs v := [v]
  P v w := R.At w (.agg #[v]) O
  Ap v p := ∀ q ∈ R.foot (.agg #[v]), p q
  keep h hk ha := R.keep h hk ha
  old h := R.old h
  mono h hp := fun q hq => hp q (h q hq)
  and_ h h' := fun q hq => ⟨h q hq, h' q hq⟩
/-- The program's World. -/
def kpW (R : MdProg G) (O : Option Wd) : Kept (List Value) where
  cs A := A
  P A w := WoAt R w (.agg A.toArray) O
  Ap A p := ∀ q ∈ wFoot R (.agg A.toArray), p q
  keep h hk ha := h.keep hk ha
  old h := h.old
  mono h hp := fun q hq => hp q (h q hq)
  and_ h h' := fun q hq => ⟨h q hq, h' q hq⟩
theorem oLen_at {O : Option Wd} (hi : ∀ W, O = some W → W.In) (hu : wUp O 1000) {o : Nat} (ho : o < 8) : oLen (O.map (·.at o)) ≤ 1000 := by
  cases O with
  | none => exact Nat.zero_le _
  | some W => exact hu W rfl _ (Wd.at_mem (hi W rfl) ho)
theorem mdStep_post (R : MdProg G) (w : World) {v : Value} {O : Option Md} (hG : G w) (h : R.At w (.agg #[v]) O) (hl : oLen O ≤ 1000) {c : Int} (hc : 0 ≤ c ∧ c < 256) (x : Opn) (hx : x.In) :
    Calls Tryz.prog 33 #[.agg #[v], .int .u8 c, x.val] w (Post3 (kpM R (oX O c x).1) (oX O c x).2.1 (oX O c x).2.2 (ApM R v) w) := by
  refine (R.step w _ O c x hG h hl hc hx).mono ?_
  rintro e w' ⟨st', rfl, hat, hk, hf⟩
  obtain ⟨A, rfl, hA⟩ := R.cells hat
  obtain ⟨u, rfl⟩ : ∃ u, A = [u] := List.length_eq_one_iff.1 hA.1
  exact ⟨u, rfl, hat, hk, fun p hp hn q hq => (hf q hq).elim (hp q) (hn q)⟩
theorem oWX_e {O : Option Wd} (c : Int) (x : Opn) : (oWX O c x).2.2 = (oX (O.map (·.at (wObj x))) c x).2.2 := by
  cases O with
  | none => rfl
  | some W => show (wdX W c x).2.2 = (mdX (W.at (wObj x)) c x).2.2; rw [wdX_err, mdX_err]
theorem oWX_bad {O : Option Wd} {c : Int} {x : Opn} (h : (oWX O c x).2.2 ≠ 0) : (oWX O c x).1 = O ∧ (oWX O c x).2.1 = ⟨0, 0⟩ := by
  cases O with
  | none => exact ⟨rfl, rfl⟩
  | some W => exact ⟨congrArg some (wdX_bad h).1, (wdX_bad h).2⟩
theorem oWX_ok {O : Option Wd} {c : Int} {x : Opn} (h : (oWX O c x).2.2 = 0) : ∃ W S, O = some W ∧ (oX (O.map (·.at (wObj x))) c x).1 = some S ∧ oWX O c x = (some (W.put (wObj x) S), (oX (O.map (·.at (wObj x))) c x).2.1, 0) ∧ S.model = (W.at (wObj x)).model := by
  cases O with
  | none => exact absurd (show (1 : Int) = 0 from h) (by decide)
  | some W =>
    have h1 := wdX_ok (W := W) (c := c) (x := x) h
    refine ⟨W, _, rfl, rfl, ?_, mdX_model _ c x⟩
    show (some (wdX W c x).1, (wdX W c x).2.1, (wdX W c x).2.2) = _
    rw [h1.2]
    rfl
section
variable {ops : Array Oper} {S : World → Prop} {o : Oper} {a : Act}
theorem yields_indexS (hw : Region.wanted o (yielded ops a.tmps) = true) (x y : Operand) (ho : o.op = .indexAddr 31 x y) (g k : Nat) (q : IntKind) (hx : a.eval x = .pointer (some ⟨g, 0, none⟩)) (hy : a.eval y = .int q k) (hk : k < 8) :
    YieldsIf Tryz.prog ops S o (.pointer (some ⟨g, k, none⟩)) a :=
  Or.inl ⟨hw, by
    have hk2 : (k : Int) < 8 := by omega
    intro w _
    unfold execOp
    simp only [ho, hx, hy]
    go_simp⟩
end
theorem wdStep_post (R : MdProg G) (w : World) {A : List Value} {O : Option Wd} (hG : G w) (h : WoAt R w (.agg A.toArray) O) (hu : wUp O 1000) {cl : Int} (hc : 0 ≤ cl ∧ cl < 256) (x : Opn) (hx : x.In) :
    Calls Tryz.prog 13 #[.agg A.toArray, .int .u8 cl, x.val] w (Post3 (kpW R (oWX O cl x).1) (oWX O cl x).2.1 (oWX O cl x).2.2 (ApW R A) w) := by
  obtain ⟨h0, h1, h2, h3, hz, hk⟩ := four_vars w A.toArray #[.int .u8 x.f, .int .u8 x.o, .int .u8 x.k, .int .u16 x.a, .int .u16 x.b] wdZA #[.int .u8 0, .int .u16 0] 33 47 33 25 rfl
  have ho8 := wObj_lt x
  have HE0 := oWX_e (O := O) cl x
  have HBAD := Lib.hid (fun hb => oWX_bad (O := O) (c := cl) (x := x) hb); have HGOOD := Lib.hid (fun hb => oWX_ok (O := O) (c := cl) (x := x) hb)
  obtain ⟨o, ho⟩ : ∃ o, o = wObj x := ⟨_, rfl⟩
  rw [← ho] at HE0 HGOOD
  have HOO := Lib.hid (show (o : Int) = if 7 < x.o then 0 else x.o from by
    rw [ho]; unfold wObj; split
    · rfl
    · exact Int.toNat_of_nonneg hx.o0)
  rw [← ho] at ho8
  obtain ⟨v, hv, hv1, hat⟩ := h.one (o := o) ho8
  have hlen := oLen_at (o := o) (fun W hW => by subst hW; exact h.in_) hu ho8
  obtain ⟨A', eA, hA⟩ := h.cells
  obtain rfl : A = A' := by simpa using eA
  have HAO := Lib.hid hA; have HO8 := Lib.hid ho8; have HVA := Lib.hid hv; have HVO := Lib.hid (v_ok hv1)
  have HW := Lib.hid (h.new hk); have HX := Lib.hid hx; have HC := Lib.hid hc
  have H0 := Lib.hid h0; have H1 := Lib.hid h1
  have H2 := Lib.hid (h2.trans (show some (Obj.cells _ _ _) = some (Obj.cells wdZ.toArray 33 (0, 0)) from rfl))
  have H3 := Lib.hid (h3.trans (show some (Obj.cells _ _ _) = some (Obj.cells (ansC ⟨0, 0⟩).toArray 25 (0, 0)) from rfl))
  have HK := Lib.hid hk; have HZ := Lib.hid hz; have HOLD := Lib.hid h.old
  have HAT := Lib.hid (R.new_ hat hk); have HGL := Lib.hid (fun w' (h : Keeps [] w w') => R.keepG hG h); have HLEN := Lib.hid hlen
  clear h0 h1 h2 h3 hz hk h hat hlen hx hc hu hG ho ho8 hv hv1 hA eA
  generalize hWX : oWX O cl x = X at *
  obtain ⟨W2, r, e1⟩ := X
  have HST1 := Lib.hid (fun w' (hg : G w') (h : R.At w' (.agg #[v]) (O.map (·.at o))) => mdStep_post R w' hg h HLEN.out HC.out x HX.out)
  generalize hMX : oX (O.map (·.at o)) cl x = Y at *
  obtain ⟨T1, rr, ee⟩ := Y
  simp only at HBAD HGOOD HE0 HST1 ⊢
  subst HE0
  unfold Opn.val
  clear hWX hMX
  go_enter Tryz.func13, Tryz.ntmps13
  generalize hWW : (((w.alloc (.cells A.toArray 33)).alloc (.cells #[.int .u8 x.f, .int .u8 x.o, .int .u8 x.k, .int .u16 x.a, .int .u16 x.b] 47)).alloc (.cells wdZA 33)).alloc (.cells #[.int .u8 0, .int .u16 0] 25) = V0 at *
  have HST := Lib.hid (fun w' (h : Keeps [] V0 w') => HST1.out w' (HGL.out _ (HK.out.trans h (FSub.refl _ _))) (R.new_ HAT.out h))
  have HOL := Lib.hid (show ∀ p : Nat → Prop, (∀ q, q < V0.heap.size → p q) → ApM R v p from fun p hp q hq => hp q (R.old HAT.out q hq))
  have d1 : V0.cell? ⟨w.heap.size + 1, 1, none⟩ = some (.int .u8 x.o) := cell_lit H1.out 1 rfl
  have xo := HX.out.o0
  have xo1 := HX.out.o1
  clear HST1
  by_cases h7 : 7 < x.o
  · have E0 := Lib.hid (show o = 0 from by have := HOO.out; rw [if_pos h7] at this; omega)
    have h8 : 8 ≤ x.o := by omega
    go_wp2_with fail
    clear d1
    obtain ⟨OL, hOL⟩ : ∃ OL, OL = ApM R v := ⟨_, rfl⟩
    obtain ⟨KP, hKP⟩ : ∃ KP, KP = kpM R T1 := ⟨_, rfl⟩
    have HOKP := Lib.hid (show ∀ x w, KP.P x w → skM.Ok (KP.cs x) from by
      rw [hKP]
      intro x w h
      obtain ⟨A, e, hA⟩ := R.cells (show R.At w (.agg #[x]) T1 from h)
      rw [show A = [x] by simpa using e.symm] at hA
      exact hA)
    rw [← hOL] at HOL; rw [← hOL, ← hKP] at HST
    have HKP := Lib.hid hKP; have HOLE := Lib.hid hOL
    clear hKP hOL
    refine wp_join13 (fun qa qb zv us a => ((((((((((((((a.put (some 18) (us.getD 0 undef)).put (some 19) (us.getD 1 undef)).put (some 20) (us.getD 2 undef)).put (some 21) (us.getD 3 undef)).put (some 22) (us.getD 4 undef)).put (some 23) (us.getD 5 undef)).put (some 24) (us.getD 6 undef)).put (some 17) (us.getD 7 undef)).put (some 25) (us.getD 8 undef)).put (some 26) (us.getD 9 undef)).put (some 27) (us.getD 10 undef)).put (some 10) (.pointer (some ⟨qa, 0, none⟩))).put (some 11) (.pointer (some ⟨qb, 0, none⟩))).put (some 12) (.int .i64 e1))) (Fin3 KP 30 rr OL V0) ?_ ?_
    · obtain ⟨S0, hS0⟩ : ∃ S0 : World → Prop, S0 = fun y => Keeps [] V0 y := ⟨_, rfl⟩
      have HSE := Lib.hid hS0
      have hSD : S0 V0.drew := by rw [hS0]; exact (Keeps.refl _ _).drew
      have HSA := Lib.hid (fun (w' : World) (hh : S0 w') => show w'.rangeAt w.heap.size o [v] from by rw [hS0] at hh; exact one_range (hh.heap H0.out (by simp)) HVA.out)
      have HSX := Lib.hid (fun (w' : World) (hh : S0 w') => show w'.rangeAt (w.heap.size + 1) 0 (opC x) from by rw [hS0] at hh; exact fun j v hv => hh.cell (block_range (A := opC x) H1.out j v hv) (by simp))
      clear hS0
      refine wp_region_noPanic ?_
      refine wp_region_held_drew (S := S0) (by kernel_rfl) hSD (fun hHeld => ?_)
      apply wpAnyH_take (i := 0)
      · simp only [List.getElem?_toArray]; rfl
      iterate 3 (· kernel_rfl)
      · exact fun _ _ _ h => h
      · exact Or.inl ⟨by rfl, by intro w hSw; go_simp; try with_reducible rfl⟩
      · assumption
      try simp only [Act.put, lsA, lsZ, lsS]
      apply wpAnyH_take (i := 1)
      · simp only [List.getElem?_toArray]; rfl
      iterate 3 (· kernel_rfl)
      · exact fun _ _ _ h => h
      · exact Or.inl ⟨by rfl, by intro w hSw; go_simp; try with_reducible rfl⟩
      · assumption
      try simp only [Act.put, lsA, lsZ, lsS]
      apply wpAnyH_take (i := 2)
      · simp only [List.getElem?_toArray]; rfl
      iterate 3 (· kernel_rfl)
      · exact fun _ _ _ h => h
      · exact yields_indexS rfl _ _ rfl w.heap.size o .u8 rfl (by first | rfl | (rw [E0.out]; rfl)) HO8.out
      · assumption
      try simp only [Act.put, lsA, lsZ, lsS]
      apply wpAnyH_take (i := 3)
      · simp only [List.getElem?_toArray]; rfl
      iterate 3 (· kernel_rfl)
      · exact fun _ _ _ h => h
      · exact skM.yields HVO.out rfl _ rfl w.heap.size o rfl HSA.out
      · assumption
      try simp only [Act.put, lsA, lsZ, lsS]
      apply wpAnyH_take (i := 4)
      · simp only [List.getElem?_toArray]; rfl
      iterate 3 (· kernel_rfl)
      · exact fun _ _ _ h => h
      · exact Or.inl ⟨by rfl, by intro w hSw; go_simp; try with_reducible rfl⟩
      · assumption
      try simp only [Act.put, lsA, lsZ, lsS]
      apply wpAnyH_take (i := 5)
      · simp only [List.getElem?_toArray]; rfl
      iterate 3 (· kernel_rfl)
      · exact fun _ _ _ h => h
      · exact yields_loadP x rfl _ rfl (w.heap.size + 1) 0 rfl HSX.out
      · assumption
      try simp only [Act.put, lsA, lsZ, lsS]
      have HY := Lib.hid ((Keeps.refl [] V0).drew)
      generalize V0.drew = YC at *
      apply wpAnyH_ready (rs := [6, 11, 12])
      · kernel_rfl
      · simp
      apply AllReadyH.cons
      · simp only [List.getElem?_toArray]; rfl
      · intro K hK
        rw [if_pos (by rfl)]
        refine wp_call9 33 _ _ rfl [.agg #[v], .int .u8 cl, x.val] rfl Tryz.func33 (by kernel_rfl) (by kernel_rfl) ((HST.out _ HY.out).mono ?_)
        rintro e YC ⟨x1, rfl, hpp, hk, hf⟩
        refine ⟨_, rfl, ?_⟩
        try have HFA := Lib.hid (show KP.Ap x1 (fun q => q ≠ ga) from hf _ (HOL.out _ (fun q hq => by have := HGA.out; omega)) (fun q hq => by have := HLA.out; omega))
        try have HFB := Lib.hid (show KP.Ap x1 (fun q => q ≠ gb) from hf _ (HOL.out _ (fun q hq => by have := HGB.out; omega)) (fun q hq => by have := HLB.out; omega))
        have HFN := Lib.hid (show ∀ p : Nat → Prop, OL p → (∀ q, V0.heap.size ≤ q → p q) → KP.Ap x1 p from fun p h1 h2 => hf p h1 (fun q hq => h2 q (Nat.le_trans HY.out.size hq)))
        try replace HBA := Lib.hid (hk.heap HBA.out (by simp))
        try replace HBB := Lib.hid (hk.heap HBB.out (by simp))
        try replace HAT := Lib.hid (KP.new HAT.out hk)
        try replace HLA := Lib.hid (Nat.lt_of_lt_of_le HLA.out hk.size)
        try replace HLB := Lib.hid (Nat.lt_of_lt_of_le HLB.out hk.size)
        replace HY := Lib.hid (HY.out.trans hk (FSub.refl _ _))
        have HAT := Lib.hid hpp
        clear hpp hk hf
        refine hK.out _ _ ?_ (fun hHeld => ?_)
        · exact (by rw [HSE.out]; exact HY.out)
        clear hK K
        try simp only [Act.put, lsA, lsZ, lsS]
        apply wpAnyH_take (i := 7)
        · simp only [List.getElem?_toArray]; rfl
        iterate 3 (· kernel_rfl)
        · exact fun _ _ _ h => h
        · exact Or.inl ⟨by rfl, by intro w hSw; go_simp; try with_reducible rfl⟩
        · assumption
        try simp only [Act.put, lsA, lsZ, lsS]
        apply wpAnyH_take (i := 8)
        · simp only [List.getElem?_toArray]; rfl
        iterate 3 (· kernel_rfl)
        · exact fun _ _ _ h => h
        · exact Or.inl ⟨by rfl, by intro w hSw; go_simp; try with_reducible rfl⟩
        · assumption
        try simp only [Act.put, lsA, lsZ, lsS]
        apply wpAnyH_take (i := 9)
        · simp only [List.getElem?_toArray]; rfl
        iterate 3 (· kernel_rfl)
        · exact fun _ _ _ h => h
        · exact Or.inl ⟨by rfl, by intro w hSw; go_simp; try with_reducible rfl⟩
        · assumption
        try simp only [Act.put, lsA, lsZ, lsS]
        apply wpAnyH_take (i := 10)
        · simp only [List.getElem?_toArray]; rfl
        iterate 3 (· kernel_rfl)
        · exact fun _ _ _ h => h
        · exact Or.inl ⟨by rfl, by intro w hSw; go_simp; try with_reducible rfl⟩
        · assumption
        try simp only [Act.put, lsA, lsZ, lsS]
        apply wpAnyH_ready (rs := [11, 12])
        · kernel_rfl
        · simp
        apply AllReadyH.cons
        · simp only [List.getElem?_toArray]; rfl
        · intro K hK
          rw [if_pos (by rfl)]
          refine wp_allocM rfl ?_
          have hk : Keeps [] YC (YC.alloc (.cells mdZ.toArray 30)) := (Keeps.refl _ _).alloc _
          have hb := heap_alloc_new YC (.cells mdZ.toArray 30)
          try have HFA := Lib.hid (show KP.Ap x1 (fun q => q ≠ YC.heap.size) from KP.mono (KP.old HAT.out) (fun q hq => Nat.ne_of_lt hq))
          try have HAB := Lib.hid (show YC.heap.size ≠ gb from Nat.ne_of_gt HLB.out)
          have HGA := Lib.hid HY.out.size
          try replace HBA := Lib.hid (hk.heap HBA.out (by simp))
          try replace HBB := Lib.hid (hk.heap HBB.out (by simp))
          try replace HAT := Lib.hid (KP.new HAT.out hk)
          try replace HLA := Lib.hid (Nat.lt_of_lt_of_le HLA.out hk.size)
          try replace HLB := Lib.hid (Nat.lt_of_lt_of_le HLB.out hk.size)
          replace HY := Lib.hid (HY.out.trans hk (FSub.refl _ _))
          have HBA := Lib.hid hb
          have HLA := Lib.hid (lt_of_block hb)
          clear hk hb
          generalize YC.heap.size = ga at *
          generalize YC.alloc (.cells mdZ.toArray 30) = YC at *
          refine hK.out _ _ ?_ (fun hHeld => ?_)
          · exact (by rw [HSE.out]; exact HY.out)
          clear hK K
          try simp only [Act.put, lsA, lsZ, lsS]
          apply wpAnyH_ready (rs := [12])
          · kernel_rfl
          · simp
          apply AllReadyH.cons (hs := AllReadyH.nil)
          · simp only [List.getElem?_toArray]; rfl
          intro K hK
          rw [if_pos (by rfl)]
          refine wp_allocA _ _ _ _ rfl ?_
          have hk : Keeps [] YC (YC.alloc (.cells (ansC ⟨0, 0⟩).toArray 25)) := (Keeps.refl _ _).alloc _
          have hb := heap_alloc_new YC (.cells (ansC ⟨0, 0⟩).toArray 25)
          try have HFB := Lib.hid (show KP.Ap x1 (fun q => q ≠ YC.heap.size) from KP.mono (KP.old HAT.out) (fun q hq => Nat.ne_of_lt hq))
          try have HAB := Lib.hid (show ga ≠ YC.heap.size from Nat.ne_of_lt HLA.out)
          have HGB := Lib.hid HY.out.size
          try replace HBA := Lib.hid (hk.heap HBA.out (by simp))
          try replace HBB := Lib.hid (hk.heap HBB.out (by simp))
          try replace HAT := Lib.hid (KP.new HAT.out hk)
          try replace HLA := Lib.hid (Nat.lt_of_lt_of_le HLA.out hk.size)
          try replace HLB := Lib.hid (Nat.lt_of_lt_of_le HLB.out hk.size)
          replace HY := Lib.hid (HY.out.trans hk (FSub.refl _ _))
          have HBB := Lib.hid hb
          have HLB := Lib.hid (lt_of_block hb)
          clear hk hb
          generalize YC.heap.size = gb at *
          generalize YC.alloc (.cells (ansC ⟨0, 0⟩).toArray 25) = YC at *
          refine hK.out _ _ ?_ (fun hHeld => ?_)
          · exact (by rw [HSE.out]; exact HY.out)
          clear hK K
          try simp only [Act.put, lsA, lsZ, lsS]
          apply wpAnyH_ready (rs := [13])
          · kernel_rfl
          · simp
          apply AllReadyH.cons (hs := AllReadyH.nil)
          · simp only [List.getElem?_toArray]; rfl
          intro K hK
          rw [if_pos (by rfl)]
          refine skM.wp_put rfl (g := ga) (old := mdZ) (A := KP.cs x1) (HOKP.out _ _ HAT.out) mdZ_ok rfl rfl HBA.out (fun YC hV hk => ?_)
          replace HBA := Lib.hid hV
          replace HBB := Lib.hid (hk.heap HBB.out (by have := HAB.out; simp; exact fun e => this e.symm))
          replace HAT := Lib.hid (KP.put HAT.out hk HFA.out)
          replace HY := Lib.hid (HY.out.trans' hk HGA.out)
          clear hV hk
          refine hK.out _ _ ?_ (fun hHeld => ?_)
          · exact (by rw [HSE.out]; exact HY.out)
          clear hK K
          try simp only [Act.put, lsA, lsZ, lsS]
          apply wpAnyH_ready (rs := [14])
          · kernel_rfl
          · simp
          apply AllReadyH.cons (hs := AllReadyH.nil)
          · simp only [List.getElem?_toArray]; rfl
          intro K hK
          rw [if_pos (by rfl)]
          refine wp_putN rfl (g := gb) (old := ⟨0, 0⟩) rr rfl rfl HBB.out (fun YC hV hk => ?_)
          replace HBB := Lib.hid hV
          replace HBA := Lib.hid (hk.heap HBA.out (by have := HAB.out; simpa using this))
          replace HAT := Lib.hid (KP.put HAT.out hk HFB.out)
          replace HY := Lib.hid (HY.out.trans' hk HGB.out)
          clear hV hk
          refine hK.out _ _ ?_ (fun hHeld => ?_)
          · exact (by rw [HSE.out]; exact HY.out)
          clear hK K
          try simp only [Act.put, lsA, lsZ, lsS]
          apply wpAnyH_take (i := 15)
          · simp only [List.getElem?_toArray]; rfl
          iterate 3 (· kernel_rfl)
          · exact fun _ _ _ h => h
          · exact Or.inl ⟨by rfl, by intro w hSw; go_simp; try with_reducible rfl⟩
          · assumption
          try simp only [Act.put, lsA, lsZ, lsS]
          refine wpAnyH_done (by kernel_rfl) ?_ _
          refine NoPanic.normal ?_
          exact ⟨rfl, ga, gb, .agg (KP.cs x1).toArray, [_, _, _, _, _, _, _, _, _, _, _], rfl, x1, rfl, HBA.out, HBB.out, HAT.out, HY.out, HGA.out, HGB.out, HAB.out, HFN.out, KP.and_ HFA.out HFB.out⟩
        apply AllReadyH.cons (hs := AllReadyH.nil)
        · simp only [List.getElem?_toArray]; rfl
        intro K hK
        rw [if_pos (by rfl)]
        refine wp_allocA _ _ _ _ rfl ?_
        have hk : Keeps [] YC (YC.alloc (.cells (ansC ⟨0, 0⟩).toArray 25)) := (Keeps.refl _ _).alloc _
        have hb := heap_alloc_new YC (.cells (ansC ⟨0, 0⟩).toArray 25)
        try have HFB := Lib.hid (show KP.Ap x1 (fun q => q ≠ YC.heap.size) from KP.mono (KP.old HAT.out) (fun q hq => Nat.ne_of_lt hq))
        try have HAB := Lib.hid (show ga ≠ YC.heap.size from Nat.ne_of_lt HLA.out)
        have HGB := Lib.hid HY.out.size
        try replace HBA := Lib.hid (hk.heap HBA.out (by simp))
        try replace HBB := Lib.hid (hk.heap HBB.out (by simp))
        try replace HAT := Lib.hid (KP.new HAT.out hk)
        try replace HLA := Lib.hid (Nat.lt_of_lt_of_le HLA.out hk.size)
        try replace HLB := Lib.hid (Nat.lt_of_lt_of_le HLB.out hk.size)
        replace HY := Lib.hid (HY.out.trans hk (FSub.refl _ _))
        have HBB := Lib.hid hb
        have HLB := Lib.hid (lt_of_block hb)
        clear hk hb
        generalize YC.heap.size = gb at *
        generalize YC.alloc (.cells (ansC ⟨0, 0⟩).toArray 25) = YC at *
        refine hK.out _ _ ?_ (fun hHeld => ?_)
        · exact (by rw [HSE.out]; exact HY.out)
        clear hK K
        try simp only [Act.put, lsA, lsZ, lsS]
        apply wpAnyH_ready (rs := [11])
        · kernel_rfl
        · simp
        apply AllReadyH.cons (hs := AllReadyH.nil)
        · simp only [List.getElem?_toArray]; rfl
        intro K hK
        rw [if_pos (by rfl)]
        refine wp_allocM rfl ?_
        have hk : Keeps [] YC (YC.alloc (.cells mdZ.toArray 30)) := (Keeps.refl _ _).alloc _
        have hb := heap_alloc_new YC (.cells mdZ.toArray 30)
        try have HFA := Lib.hid (show KP.Ap x1 (fun q => q ≠ YC.heap.size) from KP.mono (KP.old HAT.out) (fun q hq => Nat.ne_of_lt hq))
        try have HAB := Lib.hid (show YC.heap.size ≠ gb from Nat.ne_of_gt HLB.out)
        have HGA := Lib.hid HY.out.size
        try replace HBA := Lib.hid (hk.heap HBA.out (by simp))
        try replace HBB := Lib.hid (hk.heap HBB.out (by simp))
        try replace HAT := Lib.hid (KP.new HAT.out hk)
        try replace HLA := Lib.hid (Nat.lt_of_lt_of_le HLA.out hk.size)
        try replace HLB := Lib.hid (Nat.lt_of_lt_of_le HLB.out hk.size)
        replace HY := Lib.hid (HY.out.trans hk (FSub.refl _ _))
        have HBA := Lib.hid hb
        have HLA := Lib.hid (lt_of_block hb)
        clear hk hb
        generalize YC.heap.size = ga at *
        generalize YC.alloc (.cells mdZ.toArray 30) = YC at *
        refine hK.out _ _ ?_ (fun hHeld => ?_)
        · exact (by rw [HSE.out]; exact HY.out)
        clear hK K
        try simp only [Act.put, lsA, lsZ, lsS]
        apply wpAnyH_ready (rs := [13])
        · kernel_rfl
        · simp
        apply AllReadyH.cons (hs := AllReadyH.nil)
        · simp only [List.getElem?_toArray]; rfl
        intro K hK
        rw [if_pos (by rfl)]
        refine skM.wp_put rfl (g := ga) (old := mdZ) (A := KP.cs x1) (HOKP.out _ _ HAT.out) mdZ_ok rfl rfl HBA.out (fun YC hV hk => ?_)
        replace HBA := Lib.hid hV
        replace HBB := Lib.hid (hk.heap HBB.out (by have := HAB.out; simp; exact fun e => this e.symm))
        replace HAT := Lib.hid (KP.put HAT.out hk HFA.out)
        replace HY := Lib.hid (HY.out.trans' hk HGA.out)
        clear hV hk
        refine hK.out _ _ ?_ (fun hHeld => ?_)
        · exact (by rw [HSE.out]; exact HY.out)
        clear hK K
        try simp only [Act.put, lsA, lsZ, lsS]
        apply wpAnyH_ready (rs := [14])
        · kernel_rfl
        · simp
        apply AllReadyH.cons (hs := AllReadyH.nil)
        · simp only [List.getElem?_toArray]; rfl
        intro K hK
        rw [if_pos (by rfl)]
        refine wp_putN rfl (g := gb) (old := ⟨0, 0⟩) rr rfl rfl HBB.out (fun YC hV hk => ?_)
        replace HBB := Lib.hid hV
        replace HBA := Lib.hid (hk.heap HBA.out (by have := HAB.out; simpa using this))
        replace HAT := Lib.hid (KP.put HAT.out hk HFB.out)
        replace HY := Lib.hid (HY.out.trans' hk HGB.out)
        clear hV hk
        refine hK.out _ _ ?_ (fun hHeld => ?_)
        · exact (by rw [HSE.out]; exact HY.out)
        clear hK K
        try simp only [Act.put, lsA, lsZ, lsS]
        apply wpAnyH_take (i := 15)
        · simp only [List.getElem?_toArray]; rfl
        iterate 3 (· kernel_rfl)
        · exact fun _ _ _ h => h
        · exact Or.inl ⟨by rfl, by intro w hSw; go_simp; try with_reducible rfl⟩
        · assumption
        try simp only [Act.put, lsA, lsZ, lsS]
        refine wpAnyH_done (by kernel_rfl) ?_ _
        refine NoPanic.normal ?_
        exact ⟨rfl, ga, gb, .agg (KP.cs x1).toArray, [_, _, _, _, _, _, _, _, _, _, _], rfl, x1, rfl, HBA.out, HBB.out, HAT.out, HY.out, HGA.out, HGB.out, HAB.out, HFN.out, KP.and_ HFA.out HFB.out⟩
      apply AllReadyH.cons
      · simp only [List.getElem?_toArray]; rfl
      · intro K hK
        rw [if_pos (by rfl)]
        refine wp_allocM rfl ?_
        have hk : Keeps [] YC (YC.alloc (.cells mdZ.toArray 30)) := (Keeps.refl _ _).alloc _
        have hb := heap_alloc_new YC (.cells mdZ.toArray 30)
        try have HFA := Lib.hid (show KP.Ap x1 (fun q => q ≠ YC.heap.size) from KP.mono (KP.old HAT.out) (fun q hq => Nat.ne_of_lt hq))
        try have HAB := Lib.hid (show YC.heap.size ≠ gb from Nat.ne_of_gt HLB.out)
        have HGA := Lib.hid HY.out.size
        try replace HBA := Lib.hid (hk.heap HBA.out (by simp))
        try replace HBB := Lib.hid (hk.heap HBB.out (by simp))
        try replace HAT := Lib.hid (KP.new HAT.out hk)
        try replace HLA := Lib.hid (Nat.lt_of_lt_of_le HLA.out hk.size)
        try replace HLB := Lib.hid (Nat.lt_of_lt_of_le HLB.out hk.size)
        replace HY := Lib.hid (HY.out.trans hk (FSub.refl _ _))
        have HBA := Lib.hid hb
        have HLA := Lib.hid (lt_of_block hb)
        clear hk hb
        generalize YC.heap.size = ga at *
        generalize YC.alloc (.cells mdZ.toArray 30) = YC at *
        refine hK.out _ _ ?_ (fun hHeld => ?_)
        · exact (by rw [HSE.out]; exact HY.out)
        clear hK K
        try simp only [Act.put, lsA, lsZ, lsS]
        apply wpAnyH_ready (rs := [6, 12])
        · kernel_rfl
        · simp
        apply AllReadyH.cons
        · simp only [List.getElem?_toArray]; rfl
        · intro K hK
          rw [if_pos (by rfl)]
          refine wp_call9 33 _ _ rfl [.agg #[v], .int .u8 cl, x.val] rfl Tryz.func33 (by kernel_rfl) (by kernel_rfl) ((HST.out _ HY.out).mono ?_)
          rintro e YC ⟨x1, rfl, hpp, hk, hf⟩
          refine ⟨_, rfl, ?_⟩
          try have HFA := Lib.hid (show KP.Ap x1 (fun q => q ≠ ga) from hf _ (HOL.out _ (fun q hq => by have := HGA.out; omega)) (fun q hq => by have := HLA.out; omega))
          try have HFB := Lib.hid (show KP.Ap x1 (fun q => q ≠ gb) from hf _ (HOL.out _ (fun q hq => by have := HGB.out; omega)) (fun q hq => by have := HLB.out; omega))
          have HFN := Lib.hid (show ∀ p : Nat → Prop, OL p → (∀ q, V0.heap.size ≤ q → p q) → KP.Ap x1 p from fun p h1 h2 => hf p h1 (fun q hq => h2 q (Nat.le_trans HY.out.size hq)))
          try replace HBA := Lib.hid (hk.heap HBA.out (by simp))
          try replace HBB := Lib.hid (hk.heap HBB.out (by simp))
          try replace HAT := Lib.hid (KP.new HAT.out hk)
          try replace HLA := Lib.hid (Nat.lt_of_lt_of_le HLA.out hk.size)
          try replace HLB := Lib.hid (Nat.lt_of_lt_of_le HLB.out hk.size)
          replace HY := Lib.hid (HY.out.trans hk (FSub.refl _ _))
          have HAT := Lib.hid hpp
          clear hpp hk hf
          refine hK.out _ _ ?_ (fun hHeld => ?_)
          · exact (by rw [HSE.out]; exact HY.out)
          clear hK K
          try simp only [Act.put, lsA, lsZ, lsS]
          apply wpAnyH_take (i := 7)
          · simp only [List.getElem?_toArray]; rfl
          iterate 3 (· kernel_rfl)
          · exact fun _ _ _ h => h
          · exact Or.inl ⟨by rfl, by intro w hSw; go_simp; try with_reducible rfl⟩
          · assumption
          try simp only [Act.put, lsA, lsZ, lsS]
          apply wpAnyH_take (i := 8)
          · simp only [List.getElem?_toArray]; rfl
          iterate 3 (· kernel_rfl)
          · exact fun _ _ _ h => h
          · exact Or.inl ⟨by rfl, by intro w hSw; go_simp; try with_reducible rfl⟩
          · assumption
          try simp only [Act.put, lsA, lsZ, lsS]
          apply wpAnyH_take (i := 9)
          · simp only [List.getElem?_toArray]; rfl
          iterate 3 (· kernel_rfl)
          · exact fun _ _ _ h => h
          · exact Or.inl ⟨by rfl, by intro w hSw; go_simp; try with_reducible rfl⟩
          · assumption
          try simp only [Act.put, lsA, lsZ, lsS]
          apply wpAnyH_take (i := 10)
          · simp only [List.getElem?_toArray]; rfl
          iterate 3 (· kernel_rfl)
          · exact fun _ _ _ h => h
          · exact Or.inl ⟨by rfl, by intro w hSw; go_simp; try with_reducible rfl⟩
          · assumption
          try simp only [Act.put, lsA, lsZ, lsS]
          apply wpAnyH_ready (rs := [12])
          · kernel_rfl
          · simp
          apply AllReadyH.cons (hs := AllReadyH.nil)
          · simp only [List.getElem?_toArray]; rfl
          intro K hK
          rw [if_pos (by rfl)]
          refine wp_allocA _ _ _ _ rfl ?_
          have hk : Keeps [] YC (YC.alloc (.cells (ansC ⟨0, 0⟩).toArray 25)) := (Keeps.refl _ _).alloc _
          have hb := heap_alloc_new YC (.cells (ansC ⟨0, 0⟩).toArray 25)
          try have HFB := Lib.hid (show KP.Ap x1 (fun q => q ≠ YC.heap.size) from KP.mono (KP.old HAT.out) (fun q hq => Nat.ne_of_lt hq))
          try have HAB := Lib.hid (show ga ≠ YC.heap.size from Nat.ne_of_lt HLA.out)
          have HGB := Lib.hid HY.out.size
          try replace HBA := Lib.hid (hk.heap HBA.out (by simp))
          try replace HBB := Lib.hid (hk.heap HBB.out (by simp))
          try replace HAT := Lib.hid (KP.new HAT.out hk)
          try replace HLA := Lib.hid (Nat.lt_of_lt_of_le HLA.out hk.size)
          try replace HLB := Lib.hid (Nat.lt_of_lt_of_le HLB.out hk.size)
          replace HY := Lib.hid (HY.out.trans hk (FSub.refl _ _))
          have HBB := Lib.hid hb
          have HLB := Lib.hid (lt_of_block hb)
          clear hk hb
          generalize YC.heap.size = gb at *
          generalize YC.alloc (.cells (ansC ⟨0, 0⟩).toArray 25) = YC at *
          refine hK.out _ _ ?_ (fun hHeld => ?_)
          · exact (by rw [HSE.out]; exact HY.out)
          clear hK K
          try simp only [Act.put, lsA, lsZ, lsS]
          apply wpAnyH_ready (rs := [13])
          · kernel_rfl
          · simp
          apply AllReadyH.cons (hs := AllReadyH.nil)
          · simp only [List.getElem?_toArray]; rfl
          intro K hK
          rw [if_pos (by rfl)]
          refine skM.wp_put rfl (g := ga) (old := mdZ) (A := KP.cs x1) (HOKP.out _ _ HAT.out) mdZ_ok rfl rfl HBA.out (fun YC hV hk => ?_)
          replace HBA := Lib.hid hV
          replace HBB := Lib.hid (hk.heap HBB.out (by have := HAB.out; simp; exact fun e => this e.symm))
          replace HAT := Lib.hid (KP.put HAT.out hk HFA.out)
          replace HY := Lib.hid (HY.out.trans' hk HGA.out)
          clear hV hk
          refine hK.out _ _ ?_ (fun hHeld => ?_)
          · exact (by rw [HSE.out]; exact HY.out)
          clear hK K
          try simp only [Act.put, lsA, lsZ, lsS]
          apply wpAnyH_ready (rs := [14])
          · kernel_rfl
          · simp
          apply AllReadyH.cons (hs := AllReadyH.nil)
          · simp only [List.getElem?_toArray]; rfl
          intro K hK
          rw [if_pos (by rfl)]
          refine wp_putN rfl (g := gb) (old := ⟨0, 0⟩) rr rfl rfl HBB.out (fun YC hV hk => ?_)
          replace HBB := Lib.hid hV
          replace HBA := Lib.hid (hk.heap HBA.out (by have := HAB.out; simpa using this))
          replace HAT := Lib.hid (KP.put HAT.out hk HFB.out)
          replace HY := Lib.hid (HY.out.trans' hk HGB.out)
          clear hV hk
          refine hK.out _ _ ?_ (fun hHeld => ?_)
          · exact (by rw [HSE.out]; exact HY.out)
          clear hK K
          try simp only [Act.put, lsA, lsZ, lsS]
          apply wpAnyH_take (i := 15)
          · simp only [List.getElem?_toArray]; rfl
          iterate 3 (· kernel_rfl)
          · exact fun _ _ _ h => h
          · exact Or.inl ⟨by rfl, by intro w hSw; go_simp; try with_reducible rfl⟩
          · assumption
          try simp only [Act.put, lsA, lsZ, lsS]
          refine wpAnyH_done (by kernel_rfl) ?_ _
          refine NoPanic.normal ?_
          exact ⟨rfl, ga, gb, .agg (KP.cs x1).toArray, [_, _, _, _, _, _, _, _, _, _, _], rfl, x1, rfl, HBA.out, HBB.out, HAT.out, HY.out, HGA.out, HGB.out, HAB.out, HFN.out, KP.and_ HFA.out HFB.out⟩
        apply AllReadyH.cons (hs := AllReadyH.nil)
        · simp only [List.getElem?_toArray]; rfl
        intro K hK
        rw [if_pos (by rfl)]
        refine wp_allocA _ _ _ _ rfl ?_
        have hk : Keeps [] YC (YC.alloc (.cells (ansC ⟨0, 0⟩).toArray 25)) := (Keeps.refl _ _).alloc _
        have hb := heap_alloc_new YC (.cells (ansC ⟨0, 0⟩).toArray 25)
        try have HFB := Lib.hid (show KP.Ap x1 (fun q => q ≠ YC.heap.size) from KP.mono (KP.old HAT.out) (fun q hq => Nat.ne_of_lt hq))
        try have HAB := Lib.hid (show ga ≠ YC.heap.size from Nat.ne_of_lt HLA.out)
        have HGB := Lib.hid HY.out.size
        try replace HBA := Lib.hid (hk.heap HBA.out (by simp))
        try replace HBB := Lib.hid (hk.heap HBB.out (by simp))
        try replace HAT := Lib.hid (KP.new HAT.out hk)
        try replace HLA := Lib.hid (Nat.lt_of_lt_of_le HLA.out hk.size)
        try replace HLB := Lib.hid (Nat.lt_of_lt_of_le HLB.out hk.size)
        replace HY := Lib.hid (HY.out.trans hk (FSub.refl _ _))
        have HBB := Lib.hid hb
        have HLB := Lib.hid (lt_of_block hb)
        clear hk hb
        generalize YC.heap.size = gb at *
        generalize YC.alloc (.cells (ansC ⟨0, 0⟩).toArray 25) = YC at *
        refine hK.out _ _ ?_ (fun hHeld => ?_)
        · exact (by rw [HSE.out]; exact HY.out)
        clear hK K
        try simp only [Act.put, lsA, lsZ, lsS]
        apply wpAnyH_ready (rs := [6])
        · kernel_rfl
        · simp
        apply AllReadyH.cons (hs := AllReadyH.nil)
        · simp only [List.getElem?_toArray]; rfl
        intro K hK
        rw [if_pos (by rfl)]
        refine wp_call9 33 _ _ rfl [.agg #[v], .int .u8 cl, x.val] rfl Tryz.func33 (by kernel_rfl) (by kernel_rfl) ((HST.out _ HY.out).mono ?_)
        rintro e YC ⟨x1, rfl, hpp, hk, hf⟩
        refine ⟨_, rfl, ?_⟩
        try have HFA := Lib.hid (show KP.Ap x1 (fun q => q ≠ ga) from hf _ (HOL.out _ (fun q hq => by have := HGA.out; omega)) (fun q hq => by have := HLA.out; omega))
        try have HFB := Lib.hid (show KP.Ap x1 (fun q => q ≠ gb) from hf _ (HOL.out _ (fun q hq => by have := HGB.out; omega)) (fun q hq => by have := HLB.out; omega))
        have HFN := Lib.hid (show ∀ p : Nat → Prop, OL p → (∀ q, V0.heap.size ≤ q → p q) → KP.Ap x1 p from fun p h1 h2 => hf p h1 (fun q hq => h2 q (Nat.le_trans HY.out.size hq)))
        try replace HBA := Lib.hid (hk.heap HBA.out (by simp))
        try replace HBB := Lib.hid (hk.heap HBB.out (by simp))
        try replace HAT := Lib.hid (KP.new HAT.out hk)
        try replace HLA := Lib.hid (Nat.lt_of_lt_of_le HLA.out hk.size)
        try replace HLB := Lib.hid (Nat.lt_of_lt_of_le HLB.out hk.size)
        replace HY := Lib.hid (HY.out.trans hk (FSub.refl _ _))
        have HAT := Lib.hid hpp
        clear hpp hk hf
        refine hK.out _ _ ?_ (fun hHeld => ?_)
        · exact (by rw [HSE.out]; exact HY.out)
        clear hK K
        try simp only [Act.put, lsA, lsZ, lsS]
        apply wpAnyH_take (i := 7)
        · simp only [List.getElem?_toArray]; rfl
        iterate 3 (· kernel_rfl)
        · exact fun _ _ _ h => h
        · exact Or.inl ⟨by rfl, by intro w hSw; go_simp; try with_reducible rfl⟩
        · assumption
        try simp only [Act.put, lsA, lsZ, lsS]
        apply wpAnyH_take (i := 8)
        · simp only [List.getElem?_toArray]; rfl
        iterate 3 (· kernel_rfl)
        · exact fun _ _ _ h => h
        · exact Or.inl ⟨by rfl, by intro w hSw; go_simp; try with_reducible rfl⟩
        · assumption
        try simp only [Act.put, lsA, lsZ, lsS]
        apply wpAnyH_take (i := 9)
        · simp only [List.getElem?_toArray]; rfl
        iterate 3 (· kernel_rfl)
        · exact fun _ _ _ h => h
        · exact Or.inl ⟨by rfl, by intro w hSw; go_simp; try with_reducible rfl⟩
        · assumption
        try simp only [Act.put, lsA, lsZ, lsS]
        apply wpAnyH_take (i := 10)
        · simp only [List.getElem?_toArray]; rfl
        iterate 3 (· kernel_rfl)
        · exact fun _ _ _ h => h
        · exact Or.inl ⟨by rfl, by intro w hSw; go_simp; try with_reducible rfl⟩
        · assumption
        try simp only [Act.put, lsA, lsZ, lsS]
        apply wpAnyH_ready (rs := [13])
        · kernel_rfl
        · simp
        apply AllReadyH.cons (hs := AllReadyH.nil)
        · simp only [List.getElem?_toArray]; rfl
        intro K hK
        rw [if_pos (by rfl)]
        refine skM.wp_put rfl (g := ga) (old := mdZ) (A := KP.cs x1) (HOKP.out _ _ HAT.out) mdZ_ok rfl rfl HBA.out (fun YC hV hk => ?_)
        replace HBA := Lib.hid hV
        replace HBB := Lib.hid (hk.heap HBB.out (by have := HAB.out; simp; exact fun e => this e.symm))
        replace HAT := Lib.hid (KP.put HAT.out hk HFA.out)
        replace HY := Lib.hid (HY.out.trans' hk HGA.out)
        clear hV hk
        refine hK.out _ _ ?_ (fun hHeld => ?_)
        · exact (by rw [HSE.out]; exact HY.out)
        clear hK K
        try simp only [Act.put, lsA, lsZ, lsS]
        apply wpAnyH_ready (rs := [14])
        · kernel_rfl
        · simp
        apply AllReadyH.cons (hs := AllReadyH.nil)
        · simp only [List.getElem?_toArray]; rfl
        intro K hK
        rw [if_pos (by rfl)]
        refine wp_putN rfl (g := gb) (old := ⟨0, 0⟩) rr rfl rfl HBB.out (fun YC hV hk => ?_)
        replace HBB := Lib.hid hV
        replace HBA := Lib.hid (hk.heap HBA.out (by have := HAB.out; simpa using this))
        replace HAT := Lib.hid (KP.put HAT.out hk HFB.out)
        replace HY := Lib.hid (HY.out.trans' hk HGB.out)
        clear hV hk
        refine hK.out _ _ ?_ (fun hHeld => ?_)
        · exact (by rw [HSE.out]; exact HY.out)
        clear hK K
        try simp only [Act.put, lsA, lsZ, lsS]
        apply wpAnyH_take (i := 15)
        · simp only [List.getElem?_toArray]; rfl
        iterate 3 (· kernel_rfl)
        · exact fun _ _ _ h => h
        · exact Or.inl ⟨by rfl, by intro w hSw; go_simp; try with_reducible rfl⟩
        · assumption
        try simp only [Act.put, lsA, lsZ, lsS]
        refine wpAnyH_done (by kernel_rfl) ?_ _
        refine NoPanic.normal ?_
        exact ⟨rfl, ga, gb, .agg (KP.cs x1).toArray, [_, _, _, _, _, _, _, _, _, _, _], rfl, x1, rfl, HBA.out, HBB.out, HAT.out, HY.out, HGA.out, HGB.out, HAB.out, HFN.out, KP.and_ HFA.out HFB.out⟩
      apply AllReadyH.cons (hs := AllReadyH.nil)
      · simp only [List.getElem?_toArray]; rfl
      intro K hK
      rw [if_pos (by rfl)]
      refine wp_allocA _ _ _ _ rfl ?_
      have hk : Keeps [] YC (YC.alloc (.cells (ansC ⟨0, 0⟩).toArray 25)) := (Keeps.refl _ _).alloc _
      have hb := heap_alloc_new YC (.cells (ansC ⟨0, 0⟩).toArray 25)
      try have HFB := Lib.hid (show KP.Ap x1 (fun q => q ≠ YC.heap.size) from KP.mono (KP.old HAT.out) (fun q hq => Nat.ne_of_lt hq))
      try have HAB := Lib.hid (show ga ≠ YC.heap.size from Nat.ne_of_lt HLA.out)
      have HGB := Lib.hid HY.out.size
      try replace HBA := Lib.hid (hk.heap HBA.out (by simp))
      try replace HBB := Lib.hid (hk.heap HBB.out (by simp))
      try replace HAT := Lib.hid (KP.new HAT.out hk)
      try replace HLA := Lib.hid (Nat.lt_of_lt_of_le HLA.out hk.size)
      try replace HLB := Lib.hid (Nat.lt_of_lt_of_le HLB.out hk.size)
      replace HY := Lib.hid (HY.out.trans hk (FSub.refl _ _))
      have HBB := Lib.hid hb
      have HLB := Lib.hid (lt_of_block hb)
      clear hk hb
      generalize YC.heap.size = gb at *
      generalize YC.alloc (.cells (ansC ⟨0, 0⟩).toArray 25) = YC at *
      refine hK.out _ _ ?_ (fun hHeld => ?_)
      · exact (by rw [HSE.out]; exact HY.out)
      clear hK K
      try simp only [Act.put, lsA, lsZ, lsS]
      apply wpAnyH_ready (rs := [6, 11])
      · kernel_rfl
      · simp
      apply AllReadyH.cons
      · simp only [List.getElem?_toArray]; rfl
      · intro K hK
        rw [if_pos (by rfl)]
        refine wp_call9 33 _ _ rfl [.agg #[v], .int .u8 cl, x.val] rfl Tryz.func33 (by kernel_rfl) (by kernel_rfl) ((HST.out _ HY.out).mono ?_)
        rintro e YC ⟨x1, rfl, hpp, hk, hf⟩
        refine ⟨_, rfl, ?_⟩
        try have HFA := Lib.hid (show KP.Ap x1 (fun q => q ≠ ga) from hf _ (HOL.out _ (fun q hq => by have := HGA.out; omega)) (fun q hq => by have := HLA.out; omega))
        try have HFB := Lib.hid (show KP.Ap x1 (fun q => q ≠ gb) from hf _ (HOL.out _ (fun q hq => by have := HGB.out; omega)) (fun q hq => by have := HLB.out; omega))
        have HFN := Lib.hid (show ∀ p : Nat → Prop, OL p → (∀ q, V0.heap.size ≤ q → p q) → KP.Ap x1 p from fun p h1 h2 => hf p h1 (fun q hq => h2 q (Nat.le_trans HY.out.size hq)))
        try replace HBA := Lib.hid (hk.heap HBA.out (by simp))
        try replace HBB := Lib.hid (hk.heap HBB.out (by simp))
        try replace HAT := Lib.hid (KP.new HAT.out hk)
        try replace HLA := Lib.hid (Nat.lt_of_lt_of_le HLA.out hk.size)
        try replace HLB := Lib.hid (Nat.lt_of_lt_of_le HLB.out hk.size)
        replace HY := Lib.hid (HY.out.trans hk (FSub.refl _ _))
        have HAT := Lib.hid hpp
        clear hpp hk hf
        refine hK.out _ _ ?_ (fun hHeld => ?_)
        · exact (by rw [HSE.out]; exact HY.out)
        clear hK K
        try simp only [Act.put, lsA, lsZ, lsS]
        apply wpAnyH_take (i := 7)
        · simp only [List.getElem?_toArray]; rfl
        iterate 3 (· kernel_rfl)
        · exact fun _ _ _ h => h
        · exact Or.inl ⟨by rfl, by intro w hSw; go_simp; try with_reducible rfl⟩
        · assumption
        try simp only [Act.put, lsA, lsZ, lsS]
        apply wpAnyH_take (i := 8)
        · simp only [List.getElem?_toArray]; rfl
        iterate 3 (· kernel_rfl)
        · exact fun _ _ _ h => h
        · exact Or.inl ⟨by rfl, by intro w hSw; go_simp; try with_reducible rfl⟩
        · assumption
        try simp only [Act.put, lsA, lsZ, lsS]
        apply wpAnyH_take (i := 9)
        · simp only [List.getElem?_toArray]; rfl
        iterate 3 (· kernel_rfl)
        · exact fun _ _ _ h => h
        · exact Or.inl ⟨by rfl, by intro w hSw; go_simp; try with_reducible rfl⟩
        · assumption
        try simp only [Act.put, lsA, lsZ, lsS]
        apply wpAnyH_take (i := 10)
        · simp only [List.getElem?_toArray]; rfl
        iterate 3 (· kernel_rfl)
        · exact fun _ _ _ h => h
        · exact Or.inl ⟨by rfl, by intro w hSw; go_simp; try with_reducible rfl⟩
        · assumption
        try simp only [Act.put, lsA, lsZ, lsS]
        apply wpAnyH_ready (rs := [11])
        · kernel_rfl
        · simp
        apply AllReadyH.cons (hs := AllReadyH.nil)
        · simp only [List.getElem?_toArray]; rfl
        intro K hK
        rw [if_pos (by rfl)]
        refine wp_allocM rfl ?_
        have hk : Keeps [] YC (YC.alloc (.cells mdZ.toArray 30)) := (Keeps.refl _ _).alloc _
        have hb := heap_alloc_new YC (.cells mdZ.toArray 30)
        try have HFA := Lib.hid (show KP.Ap x1 (fun q => q ≠ YC.heap.size) from KP.mono (KP.old HAT.out) (fun q hq => Nat.ne_of_lt hq))
        try have HAB := Lib.hid (show YC.heap.size ≠ gb from Nat.ne_of_gt HLB.out)
        have HGA := Lib.hid HY.out.size
        try replace HBA := Lib.hid (hk.heap HBA.out (by simp))
        try replace HBB := Lib.hid (hk.heap HBB.out (by simp))
        try replace HAT := Lib.hid (KP.new HAT.out hk)
        try replace HLA := Lib.hid (Nat.lt_of_lt_of_le HLA.out hk.size)
        try replace HLB := Lib.hid (Nat.lt_of_lt_of_le HLB.out hk.size)
        replace HY := Lib.hid (HY.out.trans hk (FSub.refl _ _))
        have HBA := Lib.hid hb
        have HLA := Lib.hid (lt_of_block hb)
        clear hk hb
        generalize YC.heap.size = ga at *
        generalize YC.alloc (.cells mdZ.toArray 30) = YC at *
        refine hK.out _ _ ?_ (fun hHeld => ?_)
        · exact (by rw [HSE.out]; exact HY.out)
        clear hK K
        try simp only [Act.put, lsA, lsZ, lsS]
        apply wpAnyH_ready (rs := [13])
        · kernel_rfl
        · simp
        apply AllReadyH.cons (hs := AllReadyH.nil)
        · simp only [List.getElem?_toArray]; rfl
        intro K hK
        rw [if_pos (by rfl)]
        refine skM.wp_put rfl (g := ga) (old := mdZ) (A := KP.cs x1) (HOKP.out _ _ HAT.out) mdZ_ok rfl rfl HBA.out (fun YC hV hk => ?_)
        replace HBA := Lib.hid hV
        replace HBB := Lib.hid (hk.heap HBB.out (by have := HAB.out; simp; exact fun e => this e.symm))
        replace HAT := Lib.hid (KP.put HAT.out hk HFA.out)
        replace HY := Lib.hid (HY.out.trans' hk HGA.out)
        clear hV hk
        refine hK.out _ _ ?_ (fun hHeld => ?_)
        · exact (by rw [HSE.out]; exact HY.out)
        clear hK K
        try simp only [Act.put, lsA, lsZ, lsS]
        apply wpAnyH_ready (rs := [14])
        · kernel_rfl
        · simp
        apply AllReadyH.cons (hs := AllReadyH.nil)
        · simp only [List.getElem?_toArray]; rfl
        intro K hK
        rw [if_pos (by rfl)]
        refine wp_putN rfl (g := gb) (old := ⟨0, 0⟩) rr rfl rfl HBB.out (fun YC hV hk => ?_)
        replace HBB := Lib.hid hV
        replace HBA := Lib.hid (hk.heap HBA.out (by have := HAB.out; simpa using this))
        replace HAT := Lib.hid (KP.put HAT.out hk HFB.out)
        replace HY := Lib.hid (HY.out.trans' hk HGB.out)
        clear hV hk
        refine hK.out _ _ ?_ (fun hHeld => ?_)
        · exact (by rw [HSE.out]; exact HY.out)
        clear hK K
        try simp only [Act.put, lsA, lsZ, lsS]
        apply wpAnyH_take (i := 15)
        · simp only [List.getElem?_toArray]; rfl
        iterate 3 (· kernel_rfl)
        · exact fun _ _ _ h => h
        · exact Or.inl ⟨by rfl, by intro w hSw; go_simp; try with_reducible rfl⟩
        · assumption
        try simp only [Act.put, lsA, lsZ, lsS]
        refine wpAnyH_done (by kernel_rfl) ?_ _
        refine NoPanic.normal ?_
        exact ⟨rfl, ga, gb, .agg (KP.cs x1).toArray, [_, _, _, _, _, _, _, _, _, _, _], rfl, x1, rfl, HBA.out, HBB.out, HAT.out, HY.out, HGA.out, HGB.out, HAB.out, HFN.out, KP.and_ HFA.out HFB.out⟩
      apply AllReadyH.cons (hs := AllReadyH.nil)
      · simp only [List.getElem?_toArray]; rfl
      intro K hK
      rw [if_pos (by rfl)]
      refine wp_allocM rfl ?_
      have hk : Keeps [] YC (YC.alloc (.cells mdZ.toArray 30)) := (Keeps.refl _ _).alloc _
      have hb := heap_alloc_new YC (.cells mdZ.toArray 30)
      try have HFA := Lib.hid (show KP.Ap x1 (fun q => q ≠ YC.heap.size) from KP.mono (KP.old HAT.out) (fun q hq => Nat.ne_of_lt hq))
      try have HAB := Lib.hid (show YC.heap.size ≠ gb from Nat.ne_of_gt HLB.out)
      have HGA := Lib.hid HY.out.size
      try replace HBA := Lib.hid (hk.heap HBA.out (by simp))
      try replace HBB := Lib.hid (hk.heap HBB.out (by simp))
      try replace HAT := Lib.hid (KP.new HAT.out hk)
      try replace HLA := Lib.hid (Nat.lt_of_lt_of_le HLA.out hk.size)
      try replace HLB := Lib.hid (Nat.lt_of_lt_of_le HLB.out hk.size)
      replace HY := Lib.hid (HY.out.trans hk (FSub.refl _ _))
      have HBA := Lib.hid hb
      have HLA := Lib.hid (lt_of_block hb)
      clear hk hb
      generalize YC.heap.size = ga at *
      generalize YC.alloc (.cells mdZ.toArray 30) = YC at *
      refine hK.out _ _ ?_ (fun hHeld => ?_)
      · exact (by rw [HSE.out]; exact HY.out)
      clear hK K
      try simp only [Act.put, lsA, lsZ, lsS]
      apply wpAnyH_ready (rs := [6])
      · kernel_rfl
      · simp
      apply AllReadyH.cons (hs := AllReadyH.nil)
      · simp only [List.getElem?_toArray]; rfl
      intro K hK
      rw [if_pos (by rfl)]
      refine wp_call9 33 _ _ rfl [.agg #[v], .int .u8 cl, x.val] rfl Tryz.func33 (by kernel_rfl) (by kernel_rfl) ((HST.out _ HY.out).mono ?_)
      rintro e YC ⟨x1, rfl, hpp, hk, hf⟩
      refine ⟨_, rfl, ?_⟩
      try have HFA := Lib.hid (show KP.Ap x1 (fun q => q ≠ ga) from hf _ (HOL.out _ (fun q hq => by have := HGA.out; omega)) (fun q hq => by have := HLA.out; omega))
      try have HFB := Lib.hid (show KP.Ap x1 (fun q => q ≠ gb) from hf _ (HOL.out _ (fun q hq => by have := HGB.out; omega)) (fun q hq => by have := HLB.out; omega))
      have HFN := Lib.hid (show ∀ p : Nat → Prop, OL p → (∀ q, V0.heap.size ≤ q → p q) → KP.Ap x1 p from fun p h1 h2 => hf p h1 (fun q hq => h2 q (Nat.le_trans HY.out.size hq)))
      try replace HBA := Lib.hid (hk.heap HBA.out (by simp))
      try replace HBB := Lib.hid (hk.heap HBB.out (by simp))
      try replace HAT := Lib.hid (KP.new HAT.out hk)
      try replace HLA := Lib.hid (Nat.lt_of_lt_of_le HLA.out hk.size)
      try replace HLB := Lib.hid (Nat.lt_of_lt_of_le HLB.out hk.size)
      replace HY := Lib.hid (HY.out.trans hk (FSub.refl _ _))
      have HAT := Lib.hid hpp
      clear hpp hk hf
      refine hK.out _ _ ?_ (fun hHeld => ?_)
      · exact (by rw [HSE.out]; exact HY.out)
      clear hK K
      try simp only [Act.put, lsA, lsZ, lsS]
      apply wpAnyH_take (i := 7)
      · simp only [List.getElem?_toArray]; rfl
      iterate 3 (· kernel_rfl)
      · exact fun _ _ _ h => h
      · exact Or.inl ⟨by rfl, by intro w hSw; go_simp; try with_reducible rfl⟩
      · assumption
      try simp only [Act.put, lsA, lsZ, lsS]
      apply wpAnyH_take (i := 8)
      · simp only [List.getElem?_toArray]; rfl
      iterate 3 (· kernel_rfl)
      · exact fun _ _ _ h => h
      · exact Or.inl ⟨by rfl, by intro w hSw; go_simp; try with_reducible rfl⟩
      · assumption
      try simp only [Act.put, lsA, lsZ, lsS]
      apply wpAnyH_take (i := 9)
      · simp only [List.getElem?_toArray]; rfl
      iterate 3 (· kernel_rfl)
      · exact fun _ _ _ h => h
      · exact Or.inl ⟨by rfl, by intro w hSw; go_simp; try with_reducible rfl⟩
      · assumption
      try simp only [Act.put, lsA, lsZ, lsS]
      apply wpAnyH_take (i := 10)
      · simp only [List.getElem?_toArray]; rfl
      iterate 3 (· kernel_rfl)
      · exact fun _ _ _ h => h
      · exact Or.inl ⟨by rfl, by intro w hSw; go_simp; try with_reducible rfl⟩
      · assumption
      try simp only [Act.put, lsA, lsZ, lsS]
      apply wpAnyH_ready (rs := [13])
      · kernel_rfl
      · simp
      apply AllReadyH.cons (hs := AllReadyH.nil)
      · simp only [List.getElem?_toArray]; rfl
      intro K hK
      rw [if_pos (by rfl)]
      refine skM.wp_put rfl (g := ga) (old := mdZ) (A := KP.cs x1) (HOKP.out _ _ HAT.out) mdZ_ok rfl rfl HBA.out (fun YC hV hk => ?_)
      replace HBA := Lib.hid hV
      replace HBB := Lib.hid (hk.heap HBB.out (by have := HAB.out; simp; exact fun e => this e.symm))
      replace HAT := Lib.hid (KP.put HAT.out hk HFA.out)
      replace HY := Lib.hid (HY.out.trans' hk HGA.out)
      clear hV hk
      refine hK.out _ _ ?_ (fun hHeld => ?_)
      · exact (by rw [HSE.out]; exact HY.out)
      clear hK K
      try simp only [Act.put, lsA, lsZ, lsS]
      apply wpAnyH_ready (rs := [14])
      · kernel_rfl
      · simp
      apply AllReadyH.cons (hs := AllReadyH.nil)
      · simp only [List.getElem?_toArray]; rfl
      intro K hK
      rw [if_pos (by rfl)]
      refine wp_putN rfl (g := gb) (old := ⟨0, 0⟩) rr rfl rfl HBB.out (fun YC hV hk => ?_)
      replace HBB := Lib.hid hV
      replace HBA := Lib.hid (hk.heap HBA.out (by have := HAB.out; simpa using this))
      replace HAT := Lib.hid (KP.put HAT.out hk HFB.out)
      replace HY := Lib.hid (HY.out.trans' hk HGB.out)
      clear hV hk
      refine hK.out _ _ ?_ (fun hHeld => ?_)
      · exact (by rw [HSE.out]; exact HY.out)
      clear hK K
      try simp only [Act.put, lsA, lsZ, lsS]
      apply wpAnyH_take (i := 15)
      · simp only [List.getElem?_toArray]; rfl
      iterate 3 (· kernel_rfl)
      · exact fun _ _ _ h => h
      · exact Or.inl ⟨by rfl, by intro w hSw; go_simp; try with_reducible rfl⟩
      · assumption
      try simp only [Act.put, lsA, lsZ, lsS]
      refine wpAnyH_done (by kernel_rfl) ?_ _
      refine NoPanic.normal ?_
      exact ⟨rfl, ga, gb, .agg (KP.cs x1).toArray, [_, _, _, _, _, _, _, _, _, _, _], rfl, x1, rfl, HBA.out, HBB.out, HAT.out, HY.out, HGA.out, HGB.out, HAB.out, HFN.out, KP.and_ HFA.out HFB.out⟩
    rintro qa qb zv us YD ⟨v1, rfl, hba, hbb, hp, hky, hga, hgb, hab, hol, hap⟩
    simp only [Act.put, lsA, lsZ, lsS]
    have HVO1 := Lib.hid (HOKP.out _ _ hp)
    have hKP := HKP.out; have hOL := HOLE.out
    subst hKP
    subst hOL
    replace HVO1 := Lib.hid (show skM.Ok [v1] from HVO1.out)
    have HV11 := Lib.hid (HVO1.out.2 v1 (by simp))
    have HBA := Lib.hid (show YD.heap[qa]? = some (.cells [v1].toArray 30 (0, 0)) from hba); have HBB := Lib.hid hbb
    have HP := Lib.hid (show R.At YD (.agg #[v1]) T1 from hp); have HKY := Lib.hid hky
    have HAB := Lib.hid (show qa ≠ qb ∧ V0.heap.size ≤ qa ∧ V0.heap.size ≤ qb from ⟨hab, hga, hgb⟩)
    have HOLN := Lib.hid (show ∀ p : Nat → Prop, (∀ q ∈ R.foot (.agg #[v]), p q) → (∀ q, V0.heap.size ≤ q → p q) → ∀ q ∈ R.foot (.agg #[v1]), p q from hol)
    have H0D := Lib.hid (hky.heap H0.out (by simp)); have H2D := Lib.hid (hky.heap H2.out (by simp)); have H3D := Lib.hid (hky.heap H3.out (by simp))
    have HKD := Lib.hid (HK.out.trans hky (FSub.refl _ _)); have HWD := Lib.hid (HW.out.new hky)
    clear hba hbb hp hky hga hgb hab hol hap HST HOKP HOL H0 H1 H2 H3 HW
    by_cases he : e1 = 0
    · obtain ⟨W, S, rfl, hS, hX, hm⟩ := HGOOD.out he
      simp only [Prod.mk.injEq] at hX hS
      obtain ⟨rfl, rfl, -⟩ := hX
      subst hS
      have HM := Lib.hid hm
      subst he
      clear HBAD HGOOD hm
      have HRB := Lib.hid (block_range HBA.out)
      have o8 := HO8.out
      have o1 : (o : Int) < 8 := by omega
      have o2 : 0 ≤ (o : Int) := by omega
      have HLA := Lib.hid (show o < A.length from by rw [HAO.out.1]; exact HO8.out)
      go_wp2_with (first
        | ((with_reducible refine wpList_loadM (g := qa) (off := 0) HVO1.out ?_ ?_ HRB.out ?_); exact rfl; exact rfl)
        | ((with_reducible refine wpList_putO (g := w.heap.size) (j := o) (v := v1) (A := A) ?_ ?_ H0D.out HLA.out HV11.out ?_); (first | exact rfl | (rw [E0.out]; exact rfl)); exact rfl))
      intro YE hV hk
      have HG := Lib.hid (show YE.heap[w.heap.size]? = some (.cells (A.set o v1).toArray 33 (0, 0)) from hV)
      have H2E := Lib.hid (hk.heap H2D.out (by simp; omega)); have H3E := Lib.hid (hk.heap H3D.out (by simp; omega))
      have HBBE := Lib.hid (hk.heap HBB.out (by have := HAB.out; have := HZ.out; simp; omega))
      have HAL := Lib.hid (fun q (hq : q ∈ wFoot R (.agg A.toArray)) => HOLD.out q hq)
      have HFN := Lib.hid (show ∀ q ∈ R.foot (.agg #[v1]), q ∈ wFoot R (.agg A.toArray) ∨ V0.heap.size ≤ q from HOLN.out (fun q => q ∈ wFoot R (.agg A.toArray) ∨ V0.heap.size ≤ q) (fun q hq => .inl (wFoot_mem HVA.out q hq)) (fun q hq => .inr hq))
      have HWE := Lib.hid (show WoAt R YE (.agg (A.set o v1).toArray) (some (W.put o S)) from
        WoAt.set (HWD.out.keep hk (fun q hq => by have := HAL.out q hq; simp; omega)) HO8.out (HVO1.out.2 v1 (by simp)) (R.keep HP.out hk (fun q hq => by
          rcases HFN.out q hq with h | h
          · have := HAL.out q h; simp; omega
          · have := HZ.out; simp; omega)) (by rw [HM.out]; exact (Wd.at_in HWD.out.in_ HO8.out).1))
      have HFA := Lib.hid (show ∀ q ∈ wFoot R (.agg (A.set o v1).toArray), q ∈ wFoot R (.agg A.toArray) ∨ V0.heap.size ≤ q from wFoot_set (F := []) (fun q hq => HFN.out q hq))
      have HKE := Lib.hid (HKD.out.trans hk (fun q hq => .inr (by simp at hq; omega)))
      have HNO := Lib.hid (show skW.Ok (A.set o v1) from by
        obtain ⟨B, e, h⟩ := HWE.out.cells
        rw [show A.set o v1 = B by simpa using e]; exact h)
      clear hV hk H0D H2D H3D HBA HBB HP HWD HKD HRB
      go_wp2_with fail
      obtain ⟨S0, hS0⟩ : ∃ S0 : World → Prop, S0 = fun y => Keeps [w.heap.size + 1 + 1, w.heap.size + 1 + 1 + 1] YE y := ⟨_, rfl⟩
      have HSE := Lib.hid hS0
      have hSD : S0 YE.drew := by rw [hS0]; exact (Keeps.refl _ _).drew
      have HS0 := Lib.hid (fun (w' : World) (hh : S0 w') => show w'.rangeAt w.heap.size 0 (A.set o v1) from by rw [hS0] at hh; exact fun j v hv => hh.cell (block_range HG.out j v hv) (by simp; omega))
      have HS1 := Lib.hid (fun (w' : World) (hh : S0 w') => show w'.rangeAt qb 0 (ansC r) from by rw [hS0] at hh; exact fun j v hv => hh.cell (block_range HBBE.out j v hv) (by have := HAB.out; have := HZ.out; simp; omega))
      clear hS0
      refine wp_region_noPanic ?_
      refine wp_region_held_drew (S := S0) (by kernel_rfl) hSD (fun hHeld => ?_)
      apply wpAnyH_take (i := 0)
      · simp only [List.getElem?_toArray]; rfl
      iterate 3 (· kernel_rfl)
      · exact fun _ _ _ h => h
      · exact skW.yields HNO.out rfl _ rfl w.heap.size 0 rfl HS0.out
      · assumption
      try simp only [Act.put, lsA, lsZ, lsS]
      apply wpAnyH_take (i := 1)
      · simp only [List.getElem?_toArray]; rfl
      iterate 3 (· kernel_rfl)
      · exact fun _ _ _ h => h
      · exact skR.yields (ansC_ok r) rfl _ rfl qb 0 rfl HS1.out
      · assumption
      try simp only [Act.put, lsA, lsZ, lsS]
      apply wpAnyH_ready (rs := [2])
      · kernel_rfl
      · simp
      apply AllReadyH.cons (hs := AllReadyH.nil)
      · simp only [List.getElem?_toArray]; rfl
      intro K hK
      rw [if_pos (by rfl)]
      refine skW.wp_put rfl (g := w.heap.size + 1 + 1) (old := wdZ) (A := A.set o v1) HNO.out wdZ_ok rfl rfl (((Keeps.refl [] YE).drew).heap H2E.out (by simp)) (fun V6 hV6 hj6 => ?_)
      have HV6 := Lib.hid hV6
      have HJ6 := Lib.hid ((((Keeps.refl [] YE).drew).more (G := [w.heap.size + 1 + 1, w.heap.size + 1 + 1 + 1]) (by simp)).step hj6 (by simp))
      have HB36 := Lib.hid (hj6.heap (((Keeps.refl [] YE).drew).heap H3E.out (by simp)) (by simp))
      clear hV6 hj6
      refine hK.out _ _ ?_ (fun hHeld => ?_)
      · exact (by rw [HSE.out]; exact HJ6.out)
      clear hK K
      try simp only [Act.put, lsA, lsZ, lsS]
      apply wpAnyH_ready (rs := [3])
      · kernel_rfl
      · simp
      apply AllReadyH.cons (hs := AllReadyH.nil)
      · simp only [List.getElem?_toArray]; rfl
      intro K hK
      rw [if_pos (by rfl)]
      refine wp_putN rfl (g := w.heap.size + 1 + 1 + 1) (old := ⟨0, 0⟩) r rfl rfl HB36.out (fun V7 hV7 hj7 => ?_)
      have HV7 := Lib.hid hV7
      have HS7 := Lib.hid (hj7.heap HV6.out (by simp))
      have HJ7 := Lib.hid (HJ6.out.step hj7 (by simp))
      clear hV7 hj7
      refine hK.out _ _ ?_ (fun hHeld => ?_)
      · exact (by rw [HSE.out]; exact HJ7.out)
      clear hK K
      try simp only [Act.put, lsA, lsZ, lsS]
      apply wpAnyH_take (i := 4)
      · simp only [List.getElem?_toArray]; rfl
      iterate 3 (· kernel_rfl)
      · exact fun _ _ _ h => h
      · exact Or.inl ⟨by rfl, by intro w hSw; go_simp; try with_reducible rfl⟩
      · assumption
      try simp only [Act.put, lsA, lsZ, lsS]
      refine wpAnyH_done (by kernel_rfl) ?_ _
      refine NoPanic.normal ?_
      go_wp2_with fail
      try simp only [Exit.inBlock, Exit.then]
      refine bodyPost_ret (results_sk3 skW rfl _ _ (w.heap.size + 1 + 1) (w.heap.size + 1 + 1 + 1) HNO.out r rfl HS7.out rfl HV7.out) rfl ⟨A.set o v1, rfl, ?_, HKE.out.trans HJ7.out (fun q hq => .inr (by simp at hq; omega)), fun p hp hn q hq => ?_⟩
      · refine HWE.out.keep HJ7.out (fun q hq => ?_)
        rcases HFA.out q hq with h | h
        · have := HAL.out q h; simp; omega
        · have := HZ.out; simp; omega
      · rcases HFA.out q hq with h | h
        · exact hp q h
        · exact hn q (by have := HZ.out; omega)
    · obtain ⟨rfl, rfl⟩ := HBAD.out he
      clear HGOOD HBAD
      have HRD := Lib.hid (block_range H0D.out)
      go_wp2_with (first
        | ((with_reducible refine wpList_loadW (g := w.heap.size) HAO.out ?_ ?_ HRD.out ?_); exact rfl; exact rfl)
        | ((with_reducible refine wpList_putW (g := w.heap.size + 1 + 1) (old := wdZ) (A := A) HAO.out wdZ_ok ?_ ?_ H2D.out ?_); exact rfl; exact rfl))
      intro YE hV hk
      have HVE := Lib.hid hV; have HKE := Lib.hid hk
      have H3E := Lib.hid (hk.heap H3D.out (by simp))
      clear hV hk
      go_wp2_with ((with_reducible refine wpList_putN (g := w.heap.size + 1 + 1 + 1) (old := ⟨0, 0⟩) ⟨0, 0⟩ ?_ ?_ H3E.out ?_); exact rfl; exact rfl)
      intro YF hV hk
      have HVF := Lib.hid hV; have HKF := Lib.hid hk
      have HVG := Lib.hid (hk.heap HVE.out (by simp))
      clear hV hk
      go_wp2_with fail
      try simp only [Exit.inBlock, Exit.then]
      refine bodyPost_ret (results_sk3 skW rfl _ _ (w.heap.size + 1 + 1) (w.heap.size + 1 + 1 + 1) HAO.out ⟨0, 0⟩ rfl HVG.out rfl HVF.out) rfl ⟨A, rfl, (HWD.out.keep HKE.out (fun q hq => by have := HOLD.out q hq; simp; omega)).keep HKF.out (fun q hq => by have := HOLD.out q hq; simp; omega), (HKD.out.trans HKE.out (fun q hq => .inr (by simp at hq; omega))).trans HKF.out (fun q hq => .inr (by simp at hq; omega)), fun p hp _ => hp⟩
  · have eo : x.o = (o : Int) := by have := HOO.out; rw [if_neg h7] at this; omega
    rw [eo] at d1
    have E0 := Lib.hid eo
    clear eo
    have h8 := HO8.out
    have t1 : ¬ 8 ≤ (o : Int) := by omega
    have t2 : 0 ≤ (o : Int) := by omega
    go_wp2_with fail
    clear d1
    obtain ⟨OL, hOL⟩ : ∃ OL, OL = ApM R v := ⟨_, rfl⟩
    obtain ⟨KP, hKP⟩ : ∃ KP, KP = kpM R T1 := ⟨_, rfl⟩
    have HOKP := Lib.hid (show ∀ x w, KP.P x w → skM.Ok (KP.cs x) from by
      rw [hKP]
      intro x w h
      obtain ⟨A, e, hA⟩ := R.cells (show R.At w (.agg #[x]) T1 from h)
      rw [show A = [x] by simpa using e.symm] at hA
      exact hA)
    rw [← hOL] at HOL; rw [← hOL, ← hKP] at HST
    have HKP := Lib.hid hKP; have HOLE := Lib.hid hOL
    clear hKP hOL
    refine wp_join13 (fun qa qb zv us a => ((((((((((((((a.put (some 18) (us.getD 0 undef)).put (some 19) (us.getD 1 undef)).put (some 20) (us.getD 2 undef)).put (some 21) (us.getD 3 undef)).put (some 22) (us.getD 4 undef)).put (some 23) (us.getD 5 undef)).put (some 24) (us.getD 6 undef)).put (some 17) (us.getD 7 undef)).put (some 25) (us.getD 8 undef)).put (some 26) (us.getD 9 undef)).put (some 27) (us.getD 10 undef)).put (some 10) (.pointer (some ⟨qa, 0, none⟩))).put (some 11) (.pointer (some ⟨qb, 0, none⟩))).put (some 12) (.int .i64 e1))) (Fin3 KP 30 rr OL V0) ?_ ?_
    · obtain ⟨S0, hS0⟩ : ∃ S0 : World → Prop, S0 = fun y => Keeps [] V0 y := ⟨_, rfl⟩
      have HSE := Lib.hid hS0
      have hSD : S0 V0.drew := by rw [hS0]; exact (Keeps.refl _ _).drew
      have HSA := Lib.hid (fun (w' : World) (hh : S0 w') => show w'.rangeAt w.heap.size o [v] from by rw [hS0] at hh; exact one_range (hh.heap H0.out (by simp)) HVA.out)
      have HSX := Lib.hid (fun (w' : World) (hh : S0 w') => show w'.rangeAt (w.heap.size + 1) 0 (opC x) from by rw [hS0] at hh; exact fun j v hv => hh.cell (block_range (A := opC x) H1.out j v hv) (by simp))
      clear hS0
      refine wp_region_noPanic ?_
      refine wp_region_held_drew (S := S0) (by kernel_rfl) hSD (fun hHeld => ?_)
      apply wpAnyH_take (i := 0)
      · simp only [List.getElem?_toArray]; rfl
      iterate 3 (· kernel_rfl)
      · exact fun _ _ _ h => h
      · exact Or.inl ⟨by rfl, by intro w hSw; go_simp; try with_reducible rfl⟩
      · assumption
      try simp only [Act.put, lsA, lsZ, lsS]
      apply wpAnyH_take (i := 1)
      · simp only [List.getElem?_toArray]; rfl
      iterate 3 (· kernel_rfl)
      · exact fun _ _ _ h => h
      · exact Or.inl ⟨by rfl, by intro w hSw; go_simp; try with_reducible rfl⟩
      · assumption
      try simp only [Act.put, lsA, lsZ, lsS]
      apply wpAnyH_take (i := 2)
      · simp only [List.getElem?_toArray]; rfl
      iterate 3 (· kernel_rfl)
      · exact fun _ _ _ h => h
      · exact yields_indexS rfl _ _ rfl w.heap.size o .u8 rfl (by first | rfl | (rw [E0.out]; rfl)) HO8.out
      · assumption
      try simp only [Act.put, lsA, lsZ, lsS]
      apply wpAnyH_take (i := 3)
      · simp only [List.getElem?_toArray]; rfl
      iterate 3 (· kernel_rfl)
      · exact fun _ _ _ h => h
      · exact skM.yields HVO.out rfl _ rfl w.heap.size o rfl HSA.out
      · assumption
      try simp only [Act.put, lsA, lsZ, lsS]
      apply wpAnyH_take (i := 4)
      · simp only [List.getElem?_toArray]; rfl
      iterate 3 (· kernel_rfl)
      · exact fun _ _ _ h => h
      · exact Or.inl ⟨by rfl, by intro w hSw; go_simp; try with_reducible rfl⟩
      · assumption
      try simp only [Act.put, lsA, lsZ, lsS]
      apply wpAnyH_take (i := 5)
      · simp only [List.getElem?_toArray]; rfl
      iterate 3 (· kernel_rfl)
      · exact fun _ _ _ h => h
      · exact yields_loadP x rfl _ rfl (w.heap.size + 1) 0 rfl HSX.out
      · assumption
      try simp only [Act.put, lsA, lsZ, lsS]
      have HY := Lib.hid ((Keeps.refl [] V0).drew)
      generalize V0.drew = YC at *
      apply wpAnyH_ready (rs := [6, 11, 12])
      · kernel_rfl
      · simp
      apply AllReadyH.cons
      · simp only [List.getElem?_toArray]; rfl
      · intro K hK
        rw [if_pos (by rfl)]
        refine wp_call9 33 _ _ rfl [.agg #[v], .int .u8 cl, x.val] rfl Tryz.func33 (by kernel_rfl) (by kernel_rfl) ((HST.out _ HY.out).mono ?_)
        rintro e YC ⟨x1, rfl, hpp, hk, hf⟩
        refine ⟨_, rfl, ?_⟩
        try have HFA := Lib.hid (show KP.Ap x1 (fun q => q ≠ ga) from hf _ (HOL.out _ (fun q hq => by have := HGA.out; omega)) (fun q hq => by have := HLA.out; omega))
        try have HFB := Lib.hid (show KP.Ap x1 (fun q => q ≠ gb) from hf _ (HOL.out _ (fun q hq => by have := HGB.out; omega)) (fun q hq => by have := HLB.out; omega))
        have HFN := Lib.hid (show ∀ p : Nat → Prop, OL p → (∀ q, V0.heap.size ≤ q → p q) → KP.Ap x1 p from fun p h1 h2 => hf p h1 (fun q hq => h2 q (Nat.le_trans HY.out.size hq)))
        try replace HBA := Lib.hid (hk.heap HBA.out (by simp))
        try replace HBB := Lib.hid (hk.heap HBB.out (by simp))
        try replace HAT := Lib.hid (KP.new HAT.out hk)
        try replace HLA := Lib.hid (Nat.lt_of_lt_of_le HLA.out hk.size)
        try replace HLB := Lib.hid (Nat.lt_of_lt_of_le HLB.out hk.size)
        replace HY := Lib.hid (HY.out.trans hk (FSub.refl _ _))
        have HAT := Lib.hid hpp
        clear hpp hk hf
        refine hK.out _ _ ?_ (fun hHeld => ?_)
        · exact (by rw [HSE.out]; exact HY.out)
        clear hK K
        try simp only [Act.put, lsA, lsZ, lsS]
        apply wpAnyH_take (i := 7)
        · simp only [List.getElem?_toArray]; rfl
        iterate 3 (· kernel_rfl)
        · exact fun _ _ _ h => h
        · exact Or.inl ⟨by rfl, by intro w hSw; go_simp; try with_reducible rfl⟩
        · assumption
        try simp only [Act.put, lsA, lsZ, lsS]
        apply wpAnyH_take (i := 8)
        · simp only [List.getElem?_toArray]; rfl
        iterate 3 (· kernel_rfl)
        · exact fun _ _ _ h => h
        · exact Or.inl ⟨by rfl, by intro w hSw; go_simp; try with_reducible rfl⟩
        · assumption
        try simp only [Act.put, lsA, lsZ, lsS]
        apply wpAnyH_take (i := 9)
        · simp only [List.getElem?_toArray]; rfl
        iterate 3 (· kernel_rfl)
        · exact fun _ _ _ h => h
        · exact Or.inl ⟨by rfl, by intro w hSw; go_simp; try with_reducible rfl⟩
        · assumption
        try simp only [Act.put, lsA, lsZ, lsS]
        apply wpAnyH_take (i := 10)
        · simp only [List.getElem?_toArray]; rfl
        iterate 3 (· kernel_rfl)
        · exact fun _ _ _ h => h
        · exact Or.inl ⟨by rfl, by intro w hSw; go_simp; try with_reducible rfl⟩
        · assumption
        try simp only [Act.put, lsA, lsZ, lsS]
        apply wpAnyH_ready (rs := [11, 12])
        · kernel_rfl
        · simp
        apply AllReadyH.cons
        · simp only [List.getElem?_toArray]; rfl
        · intro K hK
          rw [if_pos (by rfl)]
          refine wp_allocM rfl ?_
          have hk : Keeps [] YC (YC.alloc (.cells mdZ.toArray 30)) := (Keeps.refl _ _).alloc _
          have hb := heap_alloc_new YC (.cells mdZ.toArray 30)
          try have HFA := Lib.hid (show KP.Ap x1 (fun q => q ≠ YC.heap.size) from KP.mono (KP.old HAT.out) (fun q hq => Nat.ne_of_lt hq))
          try have HAB := Lib.hid (show YC.heap.size ≠ gb from Nat.ne_of_gt HLB.out)
          have HGA := Lib.hid HY.out.size
          try replace HBA := Lib.hid (hk.heap HBA.out (by simp))
          try replace HBB := Lib.hid (hk.heap HBB.out (by simp))
          try replace HAT := Lib.hid (KP.new HAT.out hk)
          try replace HLA := Lib.hid (Nat.lt_of_lt_of_le HLA.out hk.size)
          try replace HLB := Lib.hid (Nat.lt_of_lt_of_le HLB.out hk.size)
          replace HY := Lib.hid (HY.out.trans hk (FSub.refl _ _))
          have HBA := Lib.hid hb
          have HLA := Lib.hid (lt_of_block hb)
          clear hk hb
          generalize YC.heap.size = ga at *
          generalize YC.alloc (.cells mdZ.toArray 30) = YC at *
          refine hK.out _ _ ?_ (fun hHeld => ?_)
          · exact (by rw [HSE.out]; exact HY.out)
          clear hK K
          try simp only [Act.put, lsA, lsZ, lsS]
          apply wpAnyH_ready (rs := [12])
          · kernel_rfl
          · simp
          apply AllReadyH.cons (hs := AllReadyH.nil)
          · simp only [List.getElem?_toArray]; rfl
          intro K hK
          rw [if_pos (by rfl)]
          refine wp_allocA _ _ _ _ rfl ?_
          have hk : Keeps [] YC (YC.alloc (.cells (ansC ⟨0, 0⟩).toArray 25)) := (Keeps.refl _ _).alloc _
          have hb := heap_alloc_new YC (.cells (ansC ⟨0, 0⟩).toArray 25)
          try have HFB := Lib.hid (show KP.Ap x1 (fun q => q ≠ YC.heap.size) from KP.mono (KP.old HAT.out) (fun q hq => Nat.ne_of_lt hq))
          try have HAB := Lib.hid (show ga ≠ YC.heap.size from Nat.ne_of_lt HLA.out)
          have HGB := Lib.hid HY.out.size
          try replace HBA := Lib.hid (hk.heap HBA.out (by simp))
          try replace HBB := Lib.hid (hk.heap HBB.out (by simp))
          try replace HAT := Lib.hid (KP.new HAT.out hk)
          try replace HLA := Lib.hid (Nat.lt_of_lt_of_le HLA.out hk.size)
          try replace HLB := Lib.hid (Nat.lt_of_lt_of_le HLB.out hk.size)
          replace HY := Lib.hid (HY.out.trans hk (FSub.refl _ _))
          have HBB := Lib.hid hb
          have HLB := Lib.hid (lt_of_block hb)
          clear hk hb
          generalize YC.heap.size = gb at *
          generalize YC.alloc (.cells (ansC ⟨0, 0⟩).toArray 25) = YC at *
          refine hK.out _ _ ?_ (fun hHeld => ?_)
          · exact (by rw [HSE.out]; exact HY.out)
          clear hK K
          try simp only [Act.put, lsA, lsZ, lsS]
          apply wpAnyH_ready (rs := [13])
          · kernel_rfl
          · simp
          apply AllReadyH.cons (hs := AllReadyH.nil)
          · simp only [List.getElem?_toArray]; rfl
          intro K hK
          rw [if_pos (by rfl)]
          refine skM.wp_put rfl (g := ga) (old := mdZ) (A := KP.cs x1) (HOKP.out _ _ HAT.out) mdZ_ok rfl rfl HBA.out (fun YC hV hk => ?_)
          replace HBA := Lib.hid hV
          replace HBB := Lib.hid (hk.heap HBB.out (by have := HAB.out; simp; exact fun e => this e.symm))
          replace HAT := Lib.hid (KP.put HAT.out hk HFA.out)
          replace HY := Lib.hid (HY.out.trans' hk HGA.out)
          clear hV hk
          refine hK.out _ _ ?_ (fun hHeld => ?_)
          · exact (by rw [HSE.out]; exact HY.out)
          clear hK K
          try simp only [Act.put, lsA, lsZ, lsS]
          apply wpAnyH_ready (rs := [14])
          · kernel_rfl
          · simp
          apply AllReadyH.cons (hs := AllReadyH.nil)
          · simp only [List.getElem?_toArray]; rfl
          intro K hK
          rw [if_pos (by rfl)]
          refine wp_putN rfl (g := gb) (old := ⟨0, 0⟩) rr rfl rfl HBB.out (fun YC hV hk => ?_)
          replace HBB := Lib.hid hV
          replace HBA := Lib.hid (hk.heap HBA.out (by have := HAB.out; simpa using this))
          replace HAT := Lib.hid (KP.put HAT.out hk HFB.out)
          replace HY := Lib.hid (HY.out.trans' hk HGB.out)
          clear hV hk
          refine hK.out _ _ ?_ (fun hHeld => ?_)
          · exact (by rw [HSE.out]; exact HY.out)
          clear hK K
          try simp only [Act.put, lsA, lsZ, lsS]
          apply wpAnyH_take (i := 15)
          · simp only [List.getElem?_toArray]; rfl
          iterate 3 (· kernel_rfl)
          · exact fun _ _ _ h => h
          · exact Or.inl ⟨by rfl, by intro w hSw; go_simp; try with_reducible rfl⟩
          · assumption
          try simp only [Act.put, lsA, lsZ, lsS]
          refine wpAnyH_done (by kernel_rfl) ?_ _
          refine NoPanic.normal ?_
          exact ⟨rfl, ga, gb, .agg (KP.cs x1).toArray, [_, _, _, _, _, _, _, _, _, _, _], rfl, x1, rfl, HBA.out, HBB.out, HAT.out, HY.out, HGA.out, HGB.out, HAB.out, HFN.out, KP.and_ HFA.out HFB.out⟩
        apply AllReadyH.cons (hs := AllReadyH.nil)
        · simp only [List.getElem?_toArray]; rfl
        intro K hK
        rw [if_pos (by rfl)]
        refine wp_allocA _ _ _ _ rfl ?_
        have hk : Keeps [] YC (YC.alloc (.cells (ansC ⟨0, 0⟩).toArray 25)) := (Keeps.refl _ _).alloc _
        have hb := heap_alloc_new YC (.cells (ansC ⟨0, 0⟩).toArray 25)
        try have HFB := Lib.hid (show KP.Ap x1 (fun q => q ≠ YC.heap.size) from KP.mono (KP.old HAT.out) (fun q hq => Nat.ne_of_lt hq))
        try have HAB := Lib.hid (show ga ≠ YC.heap.size from Nat.ne_of_lt HLA.out)
        have HGB := Lib.hid HY.out.size
        try replace HBA := Lib.hid (hk.heap HBA.out (by simp))
        try replace HBB := Lib.hid (hk.heap HBB.out (by simp))
        try replace HAT := Lib.hid (KP.new HAT.out hk)
        try replace HLA := Lib.hid (Nat.lt_of_lt_of_le HLA.out hk.size)
        try replace HLB := Lib.hid (Nat.lt_of_lt_of_le HLB.out hk.size)
        replace HY := Lib.hid (HY.out.trans hk (FSub.refl _ _))
        have HBB := Lib.hid hb
        have HLB := Lib.hid (lt_of_block hb)
        clear hk hb
        generalize YC.heap.size = gb at *
        generalize YC.alloc (.cells (ansC ⟨0, 0⟩).toArray 25) = YC at *
        refine hK.out _ _ ?_ (fun hHeld => ?_)
        · exact (by rw [HSE.out]; exact HY.out)
        clear hK K
        try simp only [Act.put, lsA, lsZ, lsS]
        apply wpAnyH_ready (rs := [11])
        · kernel_rfl
        · simp
        apply AllReadyH.cons (hs := AllReadyH.nil)
        · simp only [List.getElem?_toArray]; rfl
        intro K hK
        rw [if_pos (by rfl)]
        refine wp_allocM rfl ?_
        have hk : Keeps [] YC (YC.alloc (.cells mdZ.toArray 30)) := (Keeps.refl _ _).alloc _
        have hb := heap_alloc_new YC (.cells mdZ.toArray 30)
        try have HFA := Lib.hid (show KP.Ap x1 (fun q => q ≠ YC.heap.size) from KP.mono (KP.old HAT.out) (fun q hq => Nat.ne_of_lt hq))
        try have HAB := Lib.hid (show YC.heap.size ≠ gb from Nat.ne_of_gt HLB.out)
        have HGA := Lib.hid HY.out.size
        try replace HBA := Lib.hid (hk.heap HBA.out (by simp))
        try replace HBB := Lib.hid (hk.heap HBB.out (by simp))
        try replace HAT := Lib.hid (KP.new HAT.out hk)
        try replace HLA := Lib.hid (Nat.lt_of_lt_of_le HLA.out hk.size)
        try replace HLB := Lib.hid (Nat.lt_of_lt_of_le HLB.out hk.size)
        replace HY := Lib.hid (HY.out.trans hk (FSub.refl _ _))
        have HBA := Lib.hid hb
        have HLA := Lib.hid (lt_of_block hb)
        clear hk hb
        generalize YC.heap.size = ga at *
        generalize YC.alloc (.cells mdZ.toArray 30) = YC at *
        refine hK.out _ _ ?_ (fun hHeld => ?_)
        · exact (by rw [HSE.out]; exact HY.out)
        clear hK K
        try simp only [Act.put, lsA, lsZ, lsS]
        apply wpAnyH_ready (rs := [13])
        · kernel_rfl
        · simp
        apply AllReadyH.cons (hs := AllReadyH.nil)
        · simp only [List.getElem?_toArray]; rfl
        intro K hK
        rw [if_pos (by rfl)]
        refine skM.wp_put rfl (g := ga) (old := mdZ) (A := KP.cs x1) (HOKP.out _ _ HAT.out) mdZ_ok rfl rfl HBA.out (fun YC hV hk => ?_)
        replace HBA := Lib.hid hV
        replace HBB := Lib.hid (hk.heap HBB.out (by have := HAB.out; simp; exact fun e => this e.symm))
        replace HAT := Lib.hid (KP.put HAT.out hk HFA.out)
        replace HY := Lib.hid (HY.out.trans' hk HGA.out)
        clear hV hk
        refine hK.out _ _ ?_ (fun hHeld => ?_)
        · exact (by rw [HSE.out]; exact HY.out)
        clear hK K
        try simp only [Act.put, lsA, lsZ, lsS]
        apply wpAnyH_ready (rs := [14])
        · kernel_rfl
        · simp
        apply AllReadyH.cons (hs := AllReadyH.nil)
        · simp only [List.getElem?_toArray]; rfl
        intro K hK
        rw [if_pos (by rfl)]
        refine wp_putN rfl (g := gb) (old := ⟨0, 0⟩) rr rfl rfl HBB.out (fun YC hV hk => ?_)
        replace HBB := Lib.hid hV
        replace HBA := Lib.hid (hk.heap HBA.out (by have := HAB.out; simpa using this))
        replace HAT := Lib.hid (KP.put HAT.out hk HFB.out)
        replace HY := Lib.hid (HY.out.trans' hk HGB.out)
        clear hV hk
        refine hK.out _ _ ?_ (fun hHeld => ?_)
        · exact (by rw [HSE.out]; exact HY.out)
        clear hK K
        try simp only [Act.put, lsA, lsZ, lsS]
        apply wpAnyH_take (i := 15)
        · simp only [List.getElem?_toArray]; rfl
        iterate 3 (· kernel_rfl)
        · exact fun _ _ _ h => h
        · exact Or.inl ⟨by rfl, by intro w hSw; go_simp; try with_reducible rfl⟩
        · assumption
        try simp only [Act.put, lsA, lsZ, lsS]
        refine wpAnyH_done (by kernel_rfl) ?_ _
        refine NoPanic.normal ?_
        exact ⟨rfl, ga, gb, .agg (KP.cs x1).toArray, [_, _, _, _, _, _, _, _, _, _, _], rfl, x1, rfl, HBA.out, HBB.out, HAT.out, HY.out, HGA.out, HGB.out, HAB.out, HFN.out, KP.and_ HFA.out HFB.out⟩
      apply AllReadyH.cons
      · simp only [List.getElem?_toArray]; rfl
      · intro K hK
        rw [if_pos (by rfl)]
        refine wp_allocM rfl ?_
        have hk : Keeps [] YC (YC.alloc (.cells mdZ.toArray 30)) := (Keeps.refl _ _).alloc _
        have hb := heap_alloc_new YC (.cells mdZ.toArray 30)
        try have HFA := Lib.hid (show KP.Ap x1 (fun q => q ≠ YC.heap.size) from KP.mono (KP.old HAT.out) (fun q hq => Nat.ne_of_lt hq))
        try have HAB := Lib.hid (show YC.heap.size ≠ gb from Nat.ne_of_gt HLB.out)
        have HGA := Lib.hid HY.out.size
        try replace HBA := Lib.hid (hk.heap HBA.out (by simp))
        try replace HBB := Lib.hid (hk.heap HBB.out (by simp))
        try replace HAT := Lib.hid (KP.new HAT.out hk)
        try replace HLA := Lib.hid (Nat.lt_of_lt_of_le HLA.out hk.size)
        try replace HLB := Lib.hid (Nat.lt_of_lt_of_le HLB.out hk.size)
        replace HY := Lib.hid (HY.out.trans hk (FSub.refl _ _))
        have HBA := Lib.hid hb
        have HLA := Lib.hid (lt_of_block hb)
        clear hk hb
        generalize YC.heap.size = ga at *
        generalize YC.alloc (.cells mdZ.toArray 30) = YC at *
        refine hK.out _ _ ?_ (fun hHeld => ?_)
        · exact (by rw [HSE.out]; exact HY.out)
        clear hK K
        try simp only [Act.put, lsA, lsZ, lsS]
        apply wpAnyH_ready (rs := [6, 12])
        · kernel_rfl
        · simp
        apply AllReadyH.cons
        · simp only [List.getElem?_toArray]; rfl
        · intro K hK
          rw [if_pos (by rfl)]
          refine wp_call9 33 _ _ rfl [.agg #[v], .int .u8 cl, x.val] rfl Tryz.func33 (by kernel_rfl) (by kernel_rfl) ((HST.out _ HY.out).mono ?_)
          rintro e YC ⟨x1, rfl, hpp, hk, hf⟩
          refine ⟨_, rfl, ?_⟩
          try have HFA := Lib.hid (show KP.Ap x1 (fun q => q ≠ ga) from hf _ (HOL.out _ (fun q hq => by have := HGA.out; omega)) (fun q hq => by have := HLA.out; omega))
          try have HFB := Lib.hid (show KP.Ap x1 (fun q => q ≠ gb) from hf _ (HOL.out _ (fun q hq => by have := HGB.out; omega)) (fun q hq => by have := HLB.out; omega))
          have HFN := Lib.hid (show ∀ p : Nat → Prop, OL p → (∀ q, V0.heap.size ≤ q → p q) → KP.Ap x1 p from fun p h1 h2 => hf p h1 (fun q hq => h2 q (Nat.le_trans HY.out.size hq)))
          try replace HBA := Lib.hid (hk.heap HBA.out (by simp))
          try replace HBB := Lib.hid (hk.heap HBB.out (by simp))
          try replace HAT := Lib.hid (KP.new HAT.out hk)
          try replace HLA := Lib.hid (Nat.lt_of_lt_of_le HLA.out hk.size)
          try replace HLB := Lib.hid (Nat.lt_of_lt_of_le HLB.out hk.size)
          replace HY := Lib.hid (HY.out.trans hk (FSub.refl _ _))
          have HAT := Lib.hid hpp
          clear hpp hk hf
          refine hK.out _ _ ?_ (fun hHeld => ?_)
          · exact (by rw [HSE.out]; exact HY.out)
          clear hK K
          try simp only [Act.put, lsA, lsZ, lsS]
          apply wpAnyH_take (i := 7)
          · simp only [List.getElem?_toArray]; rfl
          iterate 3 (· kernel_rfl)
          · exact fun _ _ _ h => h
          · exact Or.inl ⟨by rfl, by intro w hSw; go_simp; try with_reducible rfl⟩
          · assumption
          try simp only [Act.put, lsA, lsZ, lsS]
          apply wpAnyH_take (i := 8)
          · simp only [List.getElem?_toArray]; rfl
          iterate 3 (· kernel_rfl)
          · exact fun _ _ _ h => h
          · exact Or.inl ⟨by rfl, by intro w hSw; go_simp; try with_reducible rfl⟩
          · assumption
          try simp only [Act.put, lsA, lsZ, lsS]
          apply wpAnyH_take (i := 9)
          · simp only [List.getElem?_toArray]; rfl
          iterate 3 (· kernel_rfl)
          · exact fun _ _ _ h => h
          · exact Or.inl ⟨by rfl, by intro w hSw; go_simp; try with_reducible rfl⟩
          · assumption
          try simp only [Act.put, lsA, lsZ, lsS]
          apply wpAnyH_take (i := 10)
          · simp only [List.getElem?_toArray]; rfl
          iterate 3 (· kernel_rfl)
          · exact fun _ _ _ h => h
          · exact Or.inl ⟨by rfl, by intro w hSw; go_simp; try with_reducible rfl⟩
          · assumption
          try simp only [Act.put, lsA, lsZ, lsS]
          apply wpAnyH_ready (rs := [12])
          · kernel_rfl
          · simp
          apply AllReadyH.cons (hs := AllReadyH.nil)
          · simp only [List.getElem?_toArray]; rfl
          intro K hK
          rw [if_pos (by rfl)]
          refine wp_allocA _ _ _ _ rfl ?_
          have hk : Keeps [] YC (YC.alloc (.cells (ansC ⟨0, 0⟩).toArray 25)) := (Keeps.refl _ _).alloc _
          have hb := heap_alloc_new YC (.cells (ansC ⟨0, 0⟩).toArray 25)
          try have HFB := Lib.hid (show KP.Ap x1 (fun q => q ≠ YC.heap.size) from KP.mono (KP.old HAT.out) (fun q hq => Nat.ne_of_lt hq))
          try have HAB := Lib.hid (show ga ≠ YC.heap.size from Nat.ne_of_lt HLA.out)
          have HGB := Lib.hid HY.out.size
          try replace HBA := Lib.hid (hk.heap HBA.out (by simp))
          try replace HBB := Lib.hid (hk.heap HBB.out (by simp))
          try replace HAT := Lib.hid (KP.new HAT.out hk)
          try replace HLA := Lib.hid (Nat.lt_of_lt_of_le HLA.out hk.size)
          try replace HLB := Lib.hid (Nat.lt_of_lt_of_le HLB.out hk.size)
          replace HY := Lib.hid (HY.out.trans hk (FSub.refl _ _))
          have HBB := Lib.hid hb
          have HLB := Lib.hid (lt_of_block hb)
          clear hk hb
          generalize YC.heap.size = gb at *
          generalize YC.alloc (.cells (ansC ⟨0, 0⟩).toArray 25) = YC at *
          refine hK.out _ _ ?_ (fun hHeld => ?_)
          · exact (by rw [HSE.out]; exact HY.out)
          clear hK K
          try simp only [Act.put, lsA, lsZ, lsS]
          apply wpAnyH_ready (rs := [13])
          · kernel_rfl
          · simp
          apply AllReadyH.cons (hs := AllReadyH.nil)
          · simp only [List.getElem?_toArray]; rfl
          intro K hK
          rw [if_pos (by rfl)]
          refine skM.wp_put rfl (g := ga) (old := mdZ) (A := KP.cs x1) (HOKP.out _ _ HAT.out) mdZ_ok rfl rfl HBA.out (fun YC hV hk => ?_)
          replace HBA := Lib.hid hV
          replace HBB := Lib.hid (hk.heap HBB.out (by have := HAB.out; simp; exact fun e => this e.symm))
          replace HAT := Lib.hid (KP.put HAT.out hk HFA.out)
          replace HY := Lib.hid (HY.out.trans' hk HGA.out)
          clear hV hk
          refine hK.out _ _ ?_ (fun hHeld => ?_)
          · exact (by rw [HSE.out]; exact HY.out)
          clear hK K
          try simp only [Act.put, lsA, lsZ, lsS]
          apply wpAnyH_ready (rs := [14])
          · kernel_rfl
          · simp
          apply AllReadyH.cons (hs := AllReadyH.nil)
          · simp only [List.getElem?_toArray]; rfl
          intro K hK
          rw [if_pos (by rfl)]
          refine wp_putN rfl (g := gb) (old := ⟨0, 0⟩) rr rfl rfl HBB.out (fun YC hV hk => ?_)
          replace HBB := Lib.hid hV
          replace HBA := Lib.hid (hk.heap HBA.out (by have := HAB.out; simpa using this))
          replace HAT := Lib.hid (KP.put HAT.out hk HFB.out)
          replace HY := Lib.hid (HY.out.trans' hk HGB.out)
          clear hV hk
          refine hK.out _ _ ?_ (fun hHeld => ?_)
          · exact (by rw [HSE.out]; exact HY.out)
          clear hK K
          try simp only [Act.put, lsA, lsZ, lsS]
          apply wpAnyH_take (i := 15)
          · simp only [List.getElem?_toArray]; rfl
          iterate 3 (· kernel_rfl)
          · exact fun _ _ _ h => h
          · exact Or.inl ⟨by rfl, by intro w hSw; go_simp; try with_reducible rfl⟩
          · assumption
          try simp only [Act.put, lsA, lsZ, lsS]
          refine wpAnyH_done (by kernel_rfl) ?_ _
          refine NoPanic.normal ?_
          exact ⟨rfl, ga, gb, .agg (KP.cs x1).toArray, [_, _, _, _, _, _, _, _, _, _, _], rfl, x1, rfl, HBA.out, HBB.out, HAT.out, HY.out, HGA.out, HGB.out, HAB.out, HFN.out, KP.and_ HFA.out HFB.out⟩
        apply AllReadyH.cons (hs := AllReadyH.nil)
        · simp only [List.getElem?_toArray]; rfl
        intro K hK
        rw [if_pos (by rfl)]
        refine wp_allocA _ _ _ _ rfl ?_
        have hk : Keeps [] YC (YC.alloc (.cells (ansC ⟨0, 0⟩).toArray 25)) := (Keeps.refl _ _).alloc _
        have hb := heap_alloc_new YC (.cells (ansC ⟨0, 0⟩).toArray 25)
        try have HFB := Lib.hid (show KP.Ap x1 (fun q => q ≠ YC.heap.size) from KP.mono (KP.old HAT.out) (fun q hq => Nat.ne_of_lt hq))
        try have HAB := Lib.hid (show ga ≠ YC.heap.size from Nat.ne_of_lt HLA.out)
        have HGB := Lib.hid HY.out.size
        try replace HBA := Lib.hid (hk.heap HBA.out (by simp))
        try replace HBB := Lib.hid (hk.heap HBB.out (by simp))
        try replace HAT := Lib.hid (KP.new HAT.out hk)
        try replace HLA := Lib.hid (Nat.lt_of_lt_of_le HLA.out hk.size)
        try replace HLB := Lib.hid (Nat.lt_of_lt_of_le HLB.out hk.size)
        replace HY := Lib.hid (HY.out.trans hk (FSub.refl _ _))
        have HBB := Lib.hid hb
        have HLB := Lib.hid (lt_of_block hb)
        clear hk hb
        generalize YC.heap.size = gb at *
        generalize YC.alloc (.cells (ansC ⟨0, 0⟩).toArray 25) = YC at *
        refine hK.out _ _ ?_ (fun hHeld => ?_)
        · exact (by rw [HSE.out]; exact HY.out)
        clear hK K
        try simp only [Act.put, lsA, lsZ, lsS]
        apply wpAnyH_ready (rs := [6])
        · kernel_rfl
        · simp
        apply AllReadyH.cons (hs := AllReadyH.nil)
        · simp only [List.getElem?_toArray]; rfl
        intro K hK
        rw [if_pos (by rfl)]
        refine wp_call9 33 _ _ rfl [.agg #[v], .int .u8 cl, x.val] rfl Tryz.func33 (by kernel_rfl) (by kernel_rfl) ((HST.out _ HY.out).mono ?_)
        rintro e YC ⟨x1, rfl, hpp, hk, hf⟩
        refine ⟨_, rfl, ?_⟩
        try have HFA := Lib.hid (show KP.Ap x1 (fun q => q ≠ ga) from hf _ (HOL.out _ (fun q hq => by have := HGA.out; omega)) (fun q hq => by have := HLA.out; omega))
        try have HFB := Lib.hid (show KP.Ap x1 (fun q => q ≠ gb) from hf _ (HOL.out _ (fun q hq => by have := HGB.out; omega)) (fun q hq => by have := HLB.out; omega))
        have HFN := Lib.hid (show ∀ p : Nat → Prop, OL p → (∀ q, V0.heap.size ≤ q → p q) → KP.Ap x1 p from fun p h1 h2 => hf p h1 (fun q hq => h2 q (Nat.le_trans HY.out.size hq)))
        try replace HBA := Lib.hid (hk.heap HBA.out (by simp))
        try replace HBB := Lib.hid (hk.heap HBB.out (by simp))
        try replace HAT := Lib.hid (KP.new HAT.out hk)
        try replace HLA := Lib.hid (Nat.lt_of_lt_of_le HLA.out hk.size)
        try replace HLB := Lib.hid (Nat.lt_of_lt_of_le HLB.out hk.size)
        replace HY := Lib.hid (HY.out.trans hk (FSub.refl _ _))
        have HAT := Lib.hid hpp
        clear hpp hk hf
        refine hK.out _ _ ?_ (fun hHeld => ?_)
        · exact (by rw [HSE.out]; exact HY.out)
        clear hK K
        try simp only [Act.put, lsA, lsZ, lsS]
        apply wpAnyH_take (i := 7)
        · simp only [List.getElem?_toArray]; rfl
        iterate 3 (· kernel_rfl)
        · exact fun _ _ _ h => h
        · exact Or.inl ⟨by rfl, by intro w hSw; go_simp; try with_reducible rfl⟩
        · assumption
        try simp only [Act.put, lsA, lsZ, lsS]
        apply wpAnyH_take (i := 8)
        · simp only [List.getElem?_toArray]; rfl
        iterate 3 (· kernel_rfl)
        · exact fun _ _ _ h => h
        · exact Or.inl ⟨by rfl, by intro w hSw; go_simp; try with_reducible rfl⟩
        · assumption
        try simp only [Act.put, lsA, lsZ, lsS]
        apply wpAnyH_take (i := 9)
        · simp only [List.getElem?_toArray]; rfl
        iterate 3 (· kernel_rfl)
        · exact fun _ _ _ h => h
        · exact Or.inl ⟨by rfl, by intro w hSw; go_simp; try with_reducible rfl⟩
        · assumption
        try simp only [Act.put, lsA, lsZ, lsS]
        apply wpAnyH_take (i := 10)
        · simp only [List.getElem?_toArray]; rfl
        iterate 3 (· kernel_rfl)
        · exact fun _ _ _ h => h
        · exact Or.inl ⟨by rfl, by intro w hSw; go_simp; try with_reducible rfl⟩
        · assumption
        try simp only [Act.put, lsA, lsZ, lsS]
        apply wpAnyH_ready (rs := [13])
        · kernel_rfl
        · simp
        apply AllReadyH.cons (hs := AllReadyH.nil)
        · simp only [List.getElem?_toArray]; rfl
        intro K hK
        rw [if_pos (by rfl)]
        refine skM.wp_put rfl (g := ga) (old := mdZ) (A := KP.cs x1) (HOKP.out _ _ HAT.out) mdZ_ok rfl rfl HBA.out (fun YC hV hk => ?_)
        replace HBA := Lib.hid hV
        replace HBB := Lib.hid (hk.heap HBB.out (by have := HAB.out; simp; exact fun e => this e.symm))
        replace HAT := Lib.hid (KP.put HAT.out hk HFA.out)
        replace HY := Lib.hid (HY.out.trans' hk HGA.out)
        clear hV hk
        refine hK.out _ _ ?_ (fun hHeld => ?_)
        · exact (by rw [HSE.out]; exact HY.out)
        clear hK K
        try simp only [Act.put, lsA, lsZ, lsS]
        apply wpAnyH_ready (rs := [14])
        · kernel_rfl
        · simp
        apply AllReadyH.cons (hs := AllReadyH.nil)
        · simp only [List.getElem?_toArray]; rfl
        intro K hK
        rw [if_pos (by rfl)]
        refine wp_putN rfl (g := gb) (old := ⟨0, 0⟩) rr rfl rfl HBB.out (fun YC hV hk => ?_)
        replace HBB := Lib.hid hV
        replace HBA := Lib.hid (hk.heap HBA.out (by have := HAB.out; simpa using this))
        replace HAT := Lib.hid (KP.put HAT.out hk HFB.out)
        replace HY := Lib.hid (HY.out.trans' hk HGB.out)
        clear hV hk
        refine hK.out _ _ ?_ (fun hHeld => ?_)
        · exact (by rw [HSE.out]; exact HY.out)
        clear hK K
        try simp only [Act.put, lsA, lsZ, lsS]
        apply wpAnyH_take (i := 15)
        · simp only [List.getElem?_toArray]; rfl
        iterate 3 (· kernel_rfl)
        · exact fun _ _ _ h => h
        · exact Or.inl ⟨by rfl, by intro w hSw; go_simp; try with_reducible rfl⟩
        · assumption
        try simp only [Act.put, lsA, lsZ, lsS]
        refine wpAnyH_done (by kernel_rfl) ?_ _
        refine NoPanic.normal ?_
        exact ⟨rfl, ga, gb, .agg (KP.cs x1).toArray, [_, _, _, _, _, _, _, _, _, _, _], rfl, x1, rfl, HBA.out, HBB.out, HAT.out, HY.out, HGA.out, HGB.out, HAB.out, HFN.out, KP.and_ HFA.out HFB.out⟩
      apply AllReadyH.cons (hs := AllReadyH.nil)
      · simp only [List.getElem?_toArray]; rfl
      intro K hK
      rw [if_pos (by rfl)]
      refine wp_allocA _ _ _ _ rfl ?_
      have hk : Keeps [] YC (YC.alloc (.cells (ansC ⟨0, 0⟩).toArray 25)) := (Keeps.refl _ _).alloc _
      have hb := heap_alloc_new YC (.cells (ansC ⟨0, 0⟩).toArray 25)
      try have HFB := Lib.hid (show KP.Ap x1 (fun q => q ≠ YC.heap.size) from KP.mono (KP.old HAT.out) (fun q hq => Nat.ne_of_lt hq))
      try have HAB := Lib.hid (show ga ≠ YC.heap.size from Nat.ne_of_lt HLA.out)
      have HGB := Lib.hid HY.out.size
      try replace HBA := Lib.hid (hk.heap HBA.out (by simp))
      try replace HBB := Lib.hid (hk.heap HBB.out (by simp))
      try replace HAT := Lib.hid (KP.new HAT.out hk)
      try replace HLA := Lib.hid (Nat.lt_of_lt_of_le HLA.out hk.size)
      try replace HLB := Lib.hid (Nat.lt_of_lt_of_le HLB.out hk.size)
      replace HY := Lib.hid (HY.out.trans hk (FSub.refl _ _))
      have HBB := Lib.hid hb
      have HLB := Lib.hid (lt_of_block hb)
      clear hk hb
      generalize YC.heap.size = gb at *
      generalize YC.alloc (.cells (ansC ⟨0, 0⟩).toArray 25) = YC at *
      refine hK.out _ _ ?_ (fun hHeld => ?_)
      · exact (by rw [HSE.out]; exact HY.out)
      clear hK K
      try simp only [Act.put, lsA, lsZ, lsS]
      apply wpAnyH_ready (rs := [6, 11])
      · kernel_rfl
      · simp
      apply AllReadyH.cons
      · simp only [List.getElem?_toArray]; rfl
      · intro K hK
        rw [if_pos (by rfl)]
        refine wp_call9 33 _ _ rfl [.agg #[v], .int .u8 cl, x.val] rfl Tryz.func33 (by kernel_rfl) (by kernel_rfl) ((HST.out _ HY.out).mono ?_)
        rintro e YC ⟨x1, rfl, hpp, hk, hf⟩
        refine ⟨_, rfl, ?_⟩
        try have HFA := Lib.hid (show KP.Ap x1 (fun q => q ≠ ga) from hf _ (HOL.out _ (fun q hq => by have := HGA.out; omega)) (fun q hq => by have := HLA.out; omega))
        try have HFB := Lib.hid (show KP.Ap x1 (fun q => q ≠ gb) from hf _ (HOL.out _ (fun q hq => by have := HGB.out; omega)) (fun q hq => by have := HLB.out; omega))
        have HFN := Lib.hid (show ∀ p : Nat → Prop, OL p → (∀ q, V0.heap.size ≤ q → p q) → KP.Ap x1 p from fun p h1 h2 => hf p h1 (fun q hq => h2 q (Nat.le_trans HY.out.size hq)))
        try replace HBA := Lib.hid (hk.heap HBA.out (by simp))
        try replace HBB := Lib.hid (hk.heap HBB.out (by simp))
        try replace HAT := Lib.hid (KP.new HAT.out hk)
        try replace HLA := Lib.hid (Nat.lt_of_lt_of_le HLA.out hk.size)
        try replace HLB := Lib.hid (Nat.lt_of_lt_of_le HLB.out hk.size)
        replace HY := Lib.hid (HY.out.trans hk (FSub.refl _ _))
        have HAT := Lib.hid hpp
        clear hpp hk hf
        refine hK.out _ _ ?_ (fun hHeld => ?_)
        · exact (by rw [HSE.out]; exact HY.out)
        clear hK K
        try simp only [Act.put, lsA, lsZ, lsS]
        apply wpAnyH_take (i := 7)
        · simp only [List.getElem?_toArray]; rfl
        iterate 3 (· kernel_rfl)
        · exact fun _ _ _ h => h
        · exact Or.inl ⟨by rfl, by intro w hSw; go_simp; try with_reducible rfl⟩
        · assumption
        try simp only [Act.put, lsA, lsZ, lsS]
        apply wpAnyH_take (i := 8)
        · simp only [List.getElem?_toArray]; rfl
        iterate 3 (· kernel_rfl)
        · exact fun _ _ _ h => h
        · exact Or.inl ⟨by rfl, by intro w hSw; go_simp; try with_reducible rfl⟩
        · assumption
        try simp only [Act.put, lsA, lsZ, lsS]
        apply wpAnyH_take (i := 9)
        · simp only [List.getElem?_toArray]; rfl
        iterate 3 (· kernel_rfl)
        · exact fun _ _ _ h => h
        · exact Or.inl ⟨by rfl, by intro w hSw; go_simp; try with_reducible rfl⟩
        · assumption
        try simp only [Act.put, lsA, lsZ, lsS]
        apply wpAnyH_take (i := 10)
        · simp only [List.getElem?_toArray]; rfl
        iterate 3 (· kernel_rfl)
        · exact fun _ _ _ h => h
        · exact Or.inl ⟨by rfl, by intro w hSw; go_simp; try with_reducible rfl⟩
        · assumption
        try simp only [Act.put, lsA, lsZ, lsS]
        apply wpAnyH_ready (rs := [11])
        · kernel_rfl
        · simp
        apply AllReadyH.cons (hs := AllReadyH.nil)
        · simp only [List.getElem?_toArray]; rfl
        intro K hK
        rw [if_pos (by rfl)]
        refine wp_allocM rfl ?_
        have hk : Keeps [] YC (YC.alloc (.cells mdZ.toArray 30)) := (Keeps.refl _ _).alloc _
        have hb := heap_alloc_new YC (.cells mdZ.toArray 30)
        try have HFA := Lib.hid (show KP.Ap x1 (fun q => q ≠ YC.heap.size) from KP.mono (KP.old HAT.out) (fun q hq => Nat.ne_of_lt hq))
        try have HAB := Lib.hid (show YC.heap.size ≠ gb from Nat.ne_of_gt HLB.out)
        have HGA := Lib.hid HY.out.size
        try replace HBA := Lib.hid (hk.heap HBA.out (by simp))
        try replace HBB := Lib.hid (hk.heap HBB.out (by simp))
        try replace HAT := Lib.hid (KP.new HAT.out hk)
        try replace HLA := Lib.hid (Nat.lt_of_lt_of_le HLA.out hk.size)
        try replace HLB := Lib.hid (Nat.lt_of_lt_of_le HLB.out hk.size)
        replace HY := Lib.hid (HY.out.trans hk (FSub.refl _ _))
        have HBA := Lib.hid hb
        have HLA := Lib.hid (lt_of_block hb)
        clear hk hb
        generalize YC.heap.size = ga at *
        generalize YC.alloc (.cells mdZ.toArray 30) = YC at *
        refine hK.out _ _ ?_ (fun hHeld => ?_)
        · exact (by rw [HSE.out]; exact HY.out)
        clear hK K
        try simp only [Act.put, lsA, lsZ, lsS]
        apply wpAnyH_ready (rs := [13])
        · kernel_rfl
        · simp
        apply AllReadyH.cons (hs := AllReadyH.nil)
        · simp only [List.getElem?_toArray]; rfl
        intro K hK
        rw [if_pos (by rfl)]
        refine skM.wp_put rfl (g := ga) (old := mdZ) (A := KP.cs x1) (HOKP.out _ _ HAT.out) mdZ_ok rfl rfl HBA.out (fun YC hV hk => ?_)
        replace HBA := Lib.hid hV
        replace HBB := Lib.hid (hk.heap HBB.out (by have := HAB.out; simp; exact fun e => this e.symm))
        replace HAT := Lib.hid (KP.put HAT.out hk HFA.out)
        replace HY := Lib.hid (HY.out.trans' hk HGA.out)
        clear hV hk
        refine hK.out _ _ ?_ (fun hHeld => ?_)
        · exact (by rw [HSE.out]; exact HY.out)
        clear hK K
        try simp only [Act.put, lsA, lsZ, lsS]
        apply wpAnyH_ready (rs := [14])
        · kernel_rfl
        · simp
        apply AllReadyH.cons (hs := AllReadyH.nil)
        · simp only [List.getElem?_toArray]; rfl
        intro K hK
        rw [if_pos (by rfl)]
        refine wp_putN rfl (g := gb) (old := ⟨0, 0⟩) rr rfl rfl HBB.out (fun YC hV hk => ?_)
        replace HBB := Lib.hid hV
        replace HBA := Lib.hid (hk.heap HBA.out (by have := HAB.out; simpa using this))
        replace HAT := Lib.hid (KP.put HAT.out hk HFB.out)
        replace HY := Lib.hid (HY.out.trans' hk HGB.out)
        clear hV hk
        refine hK.out _ _ ?_ (fun hHeld => ?_)
        · exact (by rw [HSE.out]; exact HY.out)
        clear hK K
        try simp only [Act.put, lsA, lsZ, lsS]
        apply wpAnyH_take (i := 15)
        · simp only [List.getElem?_toArray]; rfl
        iterate 3 (· kernel_rfl)
        · exact fun _ _ _ h => h
        · exact Or.inl ⟨by rfl, by intro w hSw; go_simp; try with_reducible rfl⟩
        · assumption
        try simp only [Act.put, lsA, lsZ, lsS]
        refine wpAnyH_done (by kernel_rfl) ?_ _
        refine NoPanic.normal ?_
        exact ⟨rfl, ga, gb, .agg (KP.cs x1).toArray, [_, _, _, _, _, _, _, _, _, _, _], rfl, x1, rfl, HBA.out, HBB.out, HAT.out, HY.out, HGA.out, HGB.out, HAB.out, HFN.out, KP.and_ HFA.out HFB.out⟩
      apply AllReadyH.cons (hs := AllReadyH.nil)
      · simp only [List.getElem?_toArray]; rfl
      intro K hK
      rw [if_pos (by rfl)]
      refine wp_allocM rfl ?_
      have hk : Keeps [] YC (YC.alloc (.cells mdZ.toArray 30)) := (Keeps.refl _ _).alloc _
      have hb := heap_alloc_new YC (.cells mdZ.toArray 30)
      try have HFA := Lib.hid (show KP.Ap x1 (fun q => q ≠ YC.heap.size) from KP.mono (KP.old HAT.out) (fun q hq => Nat.ne_of_lt hq))
      try have HAB := Lib.hid (show YC.heap.size ≠ gb from Nat.ne_of_gt HLB.out)
      have HGA := Lib.hid HY.out.size
      try replace HBA := Lib.hid (hk.heap HBA.out (by simp))
      try replace HBB := Lib.hid (hk.heap HBB.out (by simp))
      try replace HAT := Lib.hid (KP.new HAT.out hk)
      try replace HLA := Lib.hid (Nat.lt_of_lt_of_le HLA.out hk.size)
      try replace HLB := Lib.hid (Nat.lt_of_lt_of_le HLB.out hk.size)
      replace HY := Lib.hid (HY.out.trans hk (FSub.refl _ _))
      have HBA := Lib.hid hb
      have HLA := Lib.hid (lt_of_block hb)
      clear hk hb
      generalize YC.heap.size = ga at *
      generalize YC.alloc (.cells mdZ.toArray 30) = YC at *
      refine hK.out _ _ ?_ (fun hHeld => ?_)
      · exact (by rw [HSE.out]; exact HY.out)
      clear hK K
      try simp only [Act.put, lsA, lsZ, lsS]
      apply wpAnyH_ready (rs := [6])
      · kernel_rfl
      · simp
      apply AllReadyH.cons (hs := AllReadyH.nil)
      · simp only [List.getElem?_toArray]; rfl
      intro K hK
      rw [if_pos (by rfl)]
      refine wp_call9 33 _ _ rfl [.agg #[v], .int .u8 cl, x.val] rfl Tryz.func33 (by kernel_rfl) (by kernel_rfl) ((HST.out _ HY.out).mono ?_)
      rintro e YC ⟨x1, rfl, hpp, hk, hf⟩
      refine ⟨_, rfl, ?_⟩
      try have HFA := Lib.hid (show KP.Ap x1 (fun q => q ≠ ga) from hf _ (HOL.out _ (fun q hq => by have := HGA.out; omega)) (fun q hq => by have := HLA.out; omega))
      try have HFB := Lib.hid (show KP.Ap x1 (fun q => q ≠ gb) from hf _ (HOL.out _ (fun q hq => by have := HGB.out; omega)) (fun q hq => by have := HLB.out; omega))
      have HFN := Lib.hid (show ∀ p : Nat → Prop, OL p → (∀ q, V0.heap.size ≤ q → p q) → KP.Ap x1 p from fun p h1 h2 => hf p h1 (fun q hq => h2 q (Nat.le_trans HY.out.size hq)))
      try replace HBA := Lib.hid (hk.heap HBA.out (by simp))
      try replace HBB := Lib.hid (hk.heap HBB.out (by simp))
      try replace HAT := Lib.hid (KP.new HAT.out hk)
      try replace HLA := Lib.hid (Nat.lt_of_lt_of_le HLA.out hk.size)
      try replace HLB := Lib.hid (Nat.lt_of_lt_of_le HLB.out hk.size)
      replace HY := Lib.hid (HY.out.trans hk (FSub.refl _ _))
      have HAT := Lib.hid hpp
      clear hpp hk hf
      refine hK.out _ _ ?_ (fun hHeld => ?_)
      · exact (by rw [HSE.out]; exact HY.out)
      clear hK K
      try simp only [Act.put, lsA, lsZ, lsS]
      apply wpAnyH_take (i := 7)
      · simp only [List.getElem?_toArray]; rfl
      iterate 3 (· kernel_rfl)
      · exact fun _ _ _ h => h
      · exact Or.inl ⟨by rfl, by intro w hSw; go_simp; try with_reducible rfl⟩
      · assumption
      try simp only [Act.put, lsA, lsZ, lsS]
      apply wpAnyH_take (i := 8)
      · simp only [List.getElem?_toArray]; rfl
      iterate 3 (· kernel_rfl)
      · exact fun _ _ _ h => h
      · exact Or.inl ⟨by rfl, by intro w hSw; go_simp; try with_reducible rfl⟩
      · assumption
      try simp only [Act.put, lsA, lsZ, lsS]
      apply wpAnyH_take (i := 9)
      · simp only [List.getElem?_toArray]; rfl
      iterate 3 (· kernel_rfl)
      · exact fun _ _ _ h => h
      · exact Or.inl ⟨by rfl, by intro w hSw; go_simp; try with_reducible rfl⟩
      · assumption
      try simp only [Act.put, lsA, lsZ, lsS]
      apply wpAnyH_take (i := 10)
      · simp only [List.getElem?_toArray]; rfl
      iterate 3 (· kernel_rfl)
      · exact fun _ _ _ h => h
      · exact Or.inl ⟨by rfl, by intro w hSw; go_simp; try with_reducible rfl⟩
      · assumption
      try simp only [Act.put, lsA, lsZ, lsS]
      apply wpAnyH_ready (rs := [13])
      · kernel_rfl
      · simp
      apply AllReadyH.cons (hs := AllReadyH.nil)
      · simp only [List.getElem?_toArray]; rfl
      intro K hK
      rw [if_pos (by rfl)]
      refine skM.wp_put rfl (g := ga) (old := mdZ) (A := KP.cs x1) (HOKP.out _ _ HAT.out) mdZ_ok rfl rfl HBA.out (fun YC hV hk => ?_)
      replace HBA := Lib.hid hV
      replace HBB := Lib.hid (hk.heap HBB.out (by have := HAB.out; simp; exact fun e => this e.symm))
      replace HAT := Lib.hid (KP.put HAT.out hk HFA.out)
      replace HY := Lib.hid (HY.out.trans' hk HGA.out)
      clear hV hk
      refine hK.out _ _ ?_ (fun hHeld => ?_)
      · exact (by rw [HSE.out]; exact HY.out)
      clear hK K
      try simp only [Act.put, lsA, lsZ, lsS]
      apply wpAnyH_ready (rs := [14])
      · kernel_rfl
      · simp
      apply AllReadyH.cons (hs := AllReadyH.nil)
      · simp only [List.getElem?_toArray]; rfl
      intro K hK
      rw [if_pos (by rfl)]
      refine wp_putN rfl (g := gb) (old := ⟨0, 0⟩) rr rfl rfl HBB.out (fun YC hV hk => ?_)
      replace HBB := Lib.hid hV
      replace HBA := Lib.hid (hk.heap HBA.out (by have := HAB.out; simpa using this))
      replace HAT := Lib.hid (KP.put HAT.out hk HFB.out)
      replace HY := Lib.hid (HY.out.trans' hk HGB.out)
      clear hV hk
      refine hK.out _ _ ?_ (fun hHeld => ?_)
      · exact (by rw [HSE.out]; exact HY.out)
      clear hK K
      try simp only [Act.put, lsA, lsZ, lsS]
      apply wpAnyH_take (i := 15)
      · simp only [List.getElem?_toArray]; rfl
      iterate 3 (· kernel_rfl)
      · exact fun _ _ _ h => h
      · exact Or.inl ⟨by rfl, by intro w hSw; go_simp; try with_reducible rfl⟩
      · assumption
      try simp only [Act.put, lsA, lsZ, lsS]
      refine wpAnyH_done (by kernel_rfl) ?_ _
      refine NoPanic.normal ?_
      exact ⟨rfl, ga, gb, .agg (KP.cs x1).toArray, [_, _, _, _, _, _, _, _, _, _, _], rfl, x1, rfl, HBA.out, HBB.out, HAT.out, HY.out, HGA.out, HGB.out, HAB.out, HFN.out, KP.and_ HFA.out HFB.out⟩
    rintro qa qb zv us YD ⟨v1, rfl, hba, hbb, hp, hky, hga, hgb, hab, hol, hap⟩
    simp only [Act.put, lsA, lsZ, lsS]
    have HVO1 := Lib.hid (HOKP.out _ _ hp)
    have hKP := HKP.out; have hOL := HOLE.out
    subst hKP
    subst hOL
    replace HVO1 := Lib.hid (show skM.Ok [v1] from HVO1.out)
    have HV11 := Lib.hid (HVO1.out.2 v1 (by simp))
    have HBA := Lib.hid (show YD.heap[qa]? = some (.cells [v1].toArray 30 (0, 0)) from hba); have HBB := Lib.hid hbb
    have HP := Lib.hid (show R.At YD (.agg #[v1]) T1 from hp); have HKY := Lib.hid hky
    have HAB := Lib.hid (show qa ≠ qb ∧ V0.heap.size ≤ qa ∧ V0.heap.size ≤ qb from ⟨hab, hga, hgb⟩)
    have HOLN := Lib.hid (show ∀ p : Nat → Prop, (∀ q ∈ R.foot (.agg #[v]), p q) → (∀ q, V0.heap.size ≤ q → p q) → ∀ q ∈ R.foot (.agg #[v1]), p q from hol)
    have H0D := Lib.hid (hky.heap H0.out (by simp)); have H2D := Lib.hid (hky.heap H2.out (by simp)); have H3D := Lib.hid (hky.heap H3.out (by simp))
    have HKD := Lib.hid (HK.out.trans hky (FSub.refl _ _)); have HWD := Lib.hid (HW.out.new hky)
    clear hba hbb hp hky hga hgb hab hol hap HST HOKP HOL H0 H1 H2 H3 HW
    by_cases he : e1 = 0
    · obtain ⟨W, S, rfl, hS, hX, hm⟩ := HGOOD.out he
      simp only [Prod.mk.injEq] at hX hS
      obtain ⟨rfl, rfl, -⟩ := hX
      subst hS
      have HM := Lib.hid hm
      subst he
      clear HBAD HGOOD hm
      have HRB := Lib.hid (block_range HBA.out)
      have o8 := HO8.out
      have o1 : (o : Int) < 8 := by omega
      have o2 : 0 ≤ (o : Int) := by omega
      have HLA := Lib.hid (show o < A.length from by rw [HAO.out.1]; exact HO8.out)
      go_wp2_with (first
        | ((with_reducible refine wpList_loadM (g := qa) (off := 0) HVO1.out ?_ ?_ HRB.out ?_); exact rfl; exact rfl)
        | ((with_reducible refine wpList_putO (g := w.heap.size) (j := o) (v := v1) (A := A) ?_ ?_ H0D.out HLA.out HV11.out ?_); (first | exact rfl | (rw [E0.out]; exact rfl)); exact rfl))
      intro YE hV hk
      have HG := Lib.hid (show YE.heap[w.heap.size]? = some (.cells (A.set o v1).toArray 33 (0, 0)) from hV)
      have H2E := Lib.hid (hk.heap H2D.out (by simp; omega)); have H3E := Lib.hid (hk.heap H3D.out (by simp; omega))
      have HBBE := Lib.hid (hk.heap HBB.out (by have := HAB.out; have := HZ.out; simp; omega))
      have HAL := Lib.hid (fun q (hq : q ∈ wFoot R (.agg A.toArray)) => HOLD.out q hq)
      have HFN := Lib.hid (show ∀ q ∈ R.foot (.agg #[v1]), q ∈ wFoot R (.agg A.toArray) ∨ V0.heap.size ≤ q from HOLN.out (fun q => q ∈ wFoot R (.agg A.toArray) ∨ V0.heap.size ≤ q) (fun q hq => .inl (wFoot_mem HVA.out q hq)) (fun q hq => .inr hq))
      have HWE := Lib.hid (show WoAt R YE (.agg (A.set o v1).toArray) (some (W.put o S)) from
        WoAt.set (HWD.out.keep hk (fun q hq => by have := HAL.out q hq; simp; omega)) HO8.out (HVO1.out.2 v1 (by simp)) (R.keep HP.out hk (fun q hq => by
          rcases HFN.out q hq with h | h
          · have := HAL.out q h; simp; omega
          · have := HZ.out; simp; omega)) (by rw [HM.out]; exact (Wd.at_in HWD.out.in_ HO8.out).1))
      have HFA := Lib.hid (show ∀ q ∈ wFoot R (.agg (A.set o v1).toArray), q ∈ wFoot R (.agg A.toArray) ∨ V0.heap.size ≤ q from wFoot_set (F := []) (fun q hq => HFN.out q hq))
      have HKE := Lib.hid (HKD.out.trans hk (fun q hq => .inr (by simp at hq; omega)))
      have HNO := Lib.hid (show skW.Ok (A.set o v1) from by
        obtain ⟨B, e, h⟩ := HWE.out.cells
        rw [show A.set o v1 = B by simpa using e]; exact h)
      clear hV hk H0D H2D H3D HBA HBB HP HWD HKD HRB
      go_wp2_with fail
      obtain ⟨S0, hS0⟩ : ∃ S0 : World → Prop, S0 = fun y => Keeps [w.heap.size + 1 + 1, w.heap.size + 1 + 1 + 1] YE y := ⟨_, rfl⟩
      have HSE := Lib.hid hS0
      have hSD : S0 YE.drew := by rw [hS0]; exact (Keeps.refl _ _).drew
      have HS0 := Lib.hid (fun (w' : World) (hh : S0 w') => show w'.rangeAt w.heap.size 0 (A.set o v1) from by rw [hS0] at hh; exact fun j v hv => hh.cell (block_range HG.out j v hv) (by simp; omega))
      have HS1 := Lib.hid (fun (w' : World) (hh : S0 w') => show w'.rangeAt qb 0 (ansC r) from by rw [hS0] at hh; exact fun j v hv => hh.cell (block_range HBBE.out j v hv) (by have := HAB.out; have := HZ.out; simp; omega))
      clear hS0
      refine wp_region_noPanic ?_
      refine wp_region_held_drew (S := S0) (by kernel_rfl) hSD (fun hHeld => ?_)
      apply wpAnyH_take (i := 0)
      · simp only [List.getElem?_toArray]; rfl
      iterate 3 (· kernel_rfl)
      · exact fun _ _ _ h => h
      · exact skW.yields HNO.out rfl _ rfl w.heap.size 0 rfl HS0.out
      · assumption
      try simp only [Act.put, lsA, lsZ, lsS]
      apply wpAnyH_take (i := 1)
      · simp only [List.getElem?_toArray]; rfl
      iterate 3 (· kernel_rfl)
      · exact fun _ _ _ h => h
      · exact skR.yields (ansC_ok r) rfl _ rfl qb 0 rfl HS1.out
      · assumption
      try simp only [Act.put, lsA, lsZ, lsS]
      apply wpAnyH_ready (rs := [2])
      · kernel_rfl
      · simp
      apply AllReadyH.cons (hs := AllReadyH.nil)
      · simp only [List.getElem?_toArray]; rfl
      intro K hK
      rw [if_pos (by rfl)]
      refine skW.wp_put rfl (g := w.heap.size + 1 + 1) (old := wdZ) (A := A.set o v1) HNO.out wdZ_ok rfl rfl (((Keeps.refl [] YE).drew).heap H2E.out (by simp)) (fun V6 hV6 hj6 => ?_)
      have HV6 := Lib.hid hV6
      have HJ6 := Lib.hid ((((Keeps.refl [] YE).drew).more (G := [w.heap.size + 1 + 1, w.heap.size + 1 + 1 + 1]) (by simp)).step hj6 (by simp))
      have HB36 := Lib.hid (hj6.heap (((Keeps.refl [] YE).drew).heap H3E.out (by simp)) (by simp))
      clear hV6 hj6
      refine hK.out _ _ ?_ (fun hHeld => ?_)
      · exact (by rw [HSE.out]; exact HJ6.out)
      clear hK K
      try simp only [Act.put, lsA, lsZ, lsS]
      apply wpAnyH_ready (rs := [3])
      · kernel_rfl
      · simp
      apply AllReadyH.cons (hs := AllReadyH.nil)
      · simp only [List.getElem?_toArray]; rfl
      intro K hK
      rw [if_pos (by rfl)]
      refine wp_putN rfl (g := w.heap.size + 1 + 1 + 1) (old := ⟨0, 0⟩) r rfl rfl HB36.out (fun V7 hV7 hj7 => ?_)
      have HV7 := Lib.hid hV7
      have HS7 := Lib.hid (hj7.heap HV6.out (by simp))
      have HJ7 := Lib.hid (HJ6.out.step hj7 (by simp))
      clear hV7 hj7
      refine hK.out _ _ ?_ (fun hHeld => ?_)
      · exact (by rw [HSE.out]; exact HJ7.out)
      clear hK K
      try simp only [Act.put, lsA, lsZ, lsS]
      apply wpAnyH_take (i := 4)
      · simp only [List.getElem?_toArray]; rfl
      iterate 3 (· kernel_rfl)
      · exact fun _ _ _ h => h
      · exact Or.inl ⟨by rfl, by intro w hSw; go_simp; try with_reducible rfl⟩
      · assumption
      try simp only [Act.put, lsA, lsZ, lsS]
      refine wpAnyH_done (by kernel_rfl) ?_ _
      refine NoPanic.normal ?_
      go_wp2_with fail
      try simp only [Exit.inBlock, Exit.then]
      refine bodyPost_ret (results_sk3 skW rfl _ _ (w.heap.size + 1 + 1) (w.heap.size + 1 + 1 + 1) HNO.out r rfl HS7.out rfl HV7.out) rfl ⟨A.set o v1, rfl, ?_, HKE.out.trans HJ7.out (fun q hq => .inr (by simp at hq; omega)), fun p hp hn q hq => ?_⟩
      · refine HWE.out.keep HJ7.out (fun q hq => ?_)
        rcases HFA.out q hq with h | h
        · have := HAL.out q h; simp; omega
        · have := HZ.out; simp; omega
      · rcases HFA.out q hq with h | h
        · exact hp q h
        · exact hn q (by have := HZ.out; omega)
    · obtain ⟨rfl, rfl⟩ := HBAD.out he
      clear HGOOD HBAD
      have HRD := Lib.hid (block_range H0D.out)
      go_wp2_with (first
        | ((with_reducible refine wpList_loadW (g := w.heap.size) HAO.out ?_ ?_ HRD.out ?_); exact rfl; exact rfl)
        | ((with_reducible refine wpList_putW (g := w.heap.size + 1 + 1) (old := wdZ) (A := A) HAO.out wdZ_ok ?_ ?_ H2D.out ?_); exact rfl; exact rfl))
      intro YE hV hk
      have HVE := Lib.hid hV; have HKE := Lib.hid hk
      have H3E := Lib.hid (hk.heap H3D.out (by simp))
      clear hV hk
      go_wp2_with ((with_reducible refine wpList_putN (g := w.heap.size + 1 + 1 + 1) (old := ⟨0, 0⟩) ⟨0, 0⟩ ?_ ?_ H3E.out ?_); exact rfl; exact rfl)
      intro YF hV hk
      have HVF := Lib.hid hV; have HKF := Lib.hid hk
      have HVG := Lib.hid (hk.heap HVE.out (by simp))
      clear hV hk
      go_wp2_with fail
      try simp only [Exit.inBlock, Exit.then]
      refine bodyPost_ret (results_sk3 skW rfl _ _ (w.heap.size + 1 + 1) (w.heap.size + 1 + 1 + 1) HAO.out ⟨0, 0⟩ rfl HVG.out rfl HVF.out) rfl ⟨A, rfl, (HWD.out.keep HKE.out (fun q hq => by have := HOLD.out q hq; simp; omega)).keep HKF.out (fun q hq => by have := HOLD.out q hq; simp; omega), (HKD.out.trans HKE.out (fun q hq => .inr (by simp at hq; omega))).trans HKF.out (fun q hq => .inr (by simp at hq; omega)), fun p hp _ => hp⟩
end Go.Proofs.YtbnhcggjcdipeaaGreatDoor
