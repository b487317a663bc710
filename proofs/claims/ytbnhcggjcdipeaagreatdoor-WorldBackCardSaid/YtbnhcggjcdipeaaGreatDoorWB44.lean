/-
  The law WorldBack, over any program's worlds.
-/
import Derived.Test.YtbnhcggjcdipeaaGreatDoorWB00
import Derived.Test.YtbnhcggjcdipeaaGreatDoorWB42
import Derived.Test.YtbnhcggjcdipeaaGreatDoorWB40
import Derived.Test.YtbnhcggjcdipeaaGreatDoorWB43
set_option linter.unusedSimpArgs false
set_option linter.unusedVariables false
namespace Go.Proofs.YtbnhcggjcdipeaaGreatDoor
open Go.RowKit
set_option maxRecDepth 100000
set_option maxHeartbeats 8000000
variable {G : World → Prop}
theorem woAt_ok {R : MdProg G} {w : World} {A : List Value} {O : Option Wd} (h : WoAt R w (.agg A.toArray) O) : skW.Ok A := by
  obtain ⟨B, e, hB⟩ := h.cells
  rw [show A = B by simpa using e]; exact hB
theorem wd0_li (m : Int) : (wd0 m).li = [] := liW_none 0 _ (fun S hS => by rw [(List.mem_replicate.1 hS).2]; rfl)
theorem wd0_B (m : Int) : wdB (wd0 m) = [] := by unfold wdB; rw [wd0_li]; rfl
theorem oNew_some {m : Int} (h : m ≤ 3) : oWNew m = some (wd0 m) := if_pos h
theorem WorldBack_any {R : MdProg G} (V : WdProg R) (w : World) (hG : G w) {m : Int} (h0 : 0 ≤ m ∧ m < 256) {v v2 : Value} {l l2 : List Cl} (hl : ∀ y ∈ l, y.In) (hl2 : ∀ y ∈ l2, y.In) (hI : rkC14.In w.heap.size w v l) (hI2 : rkC14.In w.heap.size w v2 l2) :
    Calls Tryz.prog 6 #[.int .u8 m, v, v2] w fun e w' => e = .returned (.bool true) ∧ Keeps [] w w' := by
  obtain ⟨a, cp, rfl, hc, hm, -⟩ := id hI
  obtain ⟨a2, cp2, rfl, hc2, hm2, -⟩ := id hI2
  have HG := Lib.hid (fun w' (h : Keeps [] w w') => R.keepG hG h)
  have HI := Lib.hid hI; have HI2 := Lib.hid hI2; have HL := Lib.hid hl; have HL2 := Lib.hid hl2
  have HK := Lib.hid (Keeps.refl [] w)
  have HN := Lib.hid (V.new w m hG h0)
  have HM := Lib.hid h0
  clear hI hI2 hl hl2 hG hc hm hc2 hm2 h0
  obtain ⟨er, her⟩ : ∃ er : Int, er = if m ≤ 3 then 0 else 10 := ⟨_, rfl⟩
  rw [← her] at HN
  obtain ⟨n, hn⟩ : ∃ n, n = l.length := ⟨_, rfl⟩
  obtain ⟨n2, hn2⟩ : ∃ n, n = l2.length := ⟨_, rfl⟩
  rw [← hn] at HI ⊢
  rw [← hn2] at HI2 ⊢
  have HER := Lib.hid her; have HNN := Lib.hid hn; have HNN2 := Lib.hid hn2
  clear her hn hn2
  go_enter Tryz.func6, Tryz.ntmps6
  go_wp2_with fail
  refine HN.out.mono ?_; rintro e w1 ⟨st, rfl, hat, hk, -⟩
  clear HN
  replace HK := Lib.hid (HK.out.trans hk (FSub.refl _ _))
  try replace H1 := Lib.hid (H1.out.new hk)
  try replace HX := Lib.hid (HX.out.new hk)
  try replace HV := Lib.hid (HV.out.new hk)
  try replace H3 := Lib.hid (H3.out.new hk)
  try replace HB1 := Lib.hid (hk.heap HB1.out (by simp))
  try replace HBX := Lib.hid (hk.heap HBX.out (by simp))
  try replace HBV := Lib.hid (hk.heap HBV.out (by simp))
  try replace HB3 := Lib.hid (hk.heap HB3.out (by simp))
  obtain ⟨A1, rfl, hok⟩ := hat.cells
  have HO1 := Lib.hid hok
  have H1 := Lib.hid hat
  clear hat hok hk
  have HNC := Lib.hid (show (w1.alloc (.cells wdZA 33)).heap[w1.heap.size]? = some (.cells wdZ.toArray 33 (0, 0)) from heap_alloc_new w1 _)
  have HNK := Lib.hid (show Keeps [] w1 (w1.alloc (.cells wdZA 33)) from (Keeps.refl _ _).alloc _)
  go_wp2_with ((with_reducible refine wpList_putW (g := w1.heap.size) (old := wdZ) (A := A1) HO1.out wdZ_ok ?_ ?_ HNC.out ?_); exact rfl; exact rfl)
  intro V0 hW hk2
  have hk := HNK.out.trans' hk2 (Nat.le_refl _)
  replace HK := Lib.hid (HK.out.trans hk (FSub.refl _ _))
  try replace H1 := Lib.hid (H1.out.new hk)
  try replace HX := Lib.hid (HX.out.new hk)
  try replace HV := Lib.hid (HV.out.new hk)
  try replace H3 := Lib.hid (H3.out.new hk)
  try replace HB1 := Lib.hid (hk.heap HB1.out (by simp))
  try replace HBX := Lib.hid (hk.heap HBX.out (by simp))
  try replace HBV := Lib.hid (hk.heap HBV.out (by simp))
  try replace HB3 := Lib.hid (hk.heap HB3.out (by simp))
  have HB1 := Lib.hid hW
  clear hk hW hk2 HNC HNK
  generalize w1.heap.size = p1 at *
  by_cases c1 : (60 : Int) < n
  case pos =>
    go_wp2_with fail
    refine (works14_any V V0 (HG.out _ HK.out)).mono ?_; rintro e v3 ⟨rfl, hk⟩
    go_wp2_with fail
    go_ret
    exact ⟨rfl, HK.out.trans hk (FSub.refl _ _)⟩
  by_cases c2 : (60 : Int) < n2
  case pos =>
    go_wp2_with fail
    refine (works14_any V V0 (HG.out _ HK.out)).mono ?_; rintro e v3 ⟨rfl, hk⟩
    go_wp2_with fail
    go_ret
    exact ⟨rfl, HK.out.trans hk (FSub.refl _ _)⟩
  by_cases h3 : m ≤ 3
  case neg =>
    obtain rfl : er = 10 := by rw [HER.out, if_neg h3]
    go_wp2_with fail
    refine (works14_any V V0 (HG.out _ HK.out)).mono ?_; rintro e v3 ⟨rfl, hk⟩
    go_wp2_with fail
    go_ret
    exact ⟨rfl, HK.out.trans hk (FSub.refl _ _)⟩
  obtain rfl : er = 0 := by rw [HER.out, if_pos h3]
  rw [oNew_some h3] at H1
  have hWI := wd0_in HM.out.1 h3
  have HC1 := Lib.hid c1; have HC2 := Lib.hid c2
  go_wp2_with fail
  clear c1 c2
  have HA1 := Lib.hid (fun y (h : Keeps [] V0 y) => after14_any V y (K := 0) (HG.out _ (HK.out.trans h (FSub.refl _ _))) (H1.out.new h) (wd0_upto m 0) HL.out ((HI.out.new (HK.out.trans h (FSub.refl _ _)) (Nat.le_refl _)).more (HK.out.trans h (FSub.refl _ _)).size) (by have := HC1.out; have := HNN.out; omega))
  have HA2 := Lib.hid (fun y (h : Keeps [] V0 y) => after14_any V y (K := 0) (HG.out _ (HK.out.trans h (FSub.refl _ _))) (H1.out.new h) (wd0_upto m 0) HL2.out ((HI2.out.new (HK.out.trans h (FSub.refl _ _)) (Nat.le_refl _)).more (HK.out.trans h (FSub.refl _ _)).size) (by have := HC2.out; have := HNN2.out; omega))
  obtain ⟨X, hX⟩ : ∃ X, X = bhW (wd0 m) l := ⟨_, rfl⟩
  obtain ⟨Y, hY⟩ : ∃ Y, Y = bhW (wd0 m) l2 := ⟨_, rfl⟩
  rw [← hX] at HA1
  rw [← hY] at HA2
  have HXI := Lib.hid (show X.In ∧ X.m = m ∧ X.upto 60 from by
    rw [hX]
    refine ⟨bhW_in _ hWI HL.out, bhW_m _ _, fun S hS => Nat.le_trans (bhW_upto (k := 0) l hWI HL.out (wd0_upto m 0) S hS) ?_⟩
    have := HC1.out; have := HNN.out; omega)
  have HYI := Lib.hid (show Y.In ∧ Y.m = m ∧ Y.upto 60 from by
    rw [hY]
    refine ⟨bhW_in _ hWI HL2.out, bhW_m _ _, fun S hS => Nat.le_trans (bhW_upto (k := 0) l2 hWI HL2.out (wd0_upto m 0) S hS) ?_⟩
    have := HC2.out; have := HNN2.out; omega)
  clear hX hY hWI HI HI2 HC1 HC2 HNN HNN2 HER HL HL2
  refine wp_join13 (fun qa qb zv us a => ((((((((a.put (some 32) (us.getD 0 undef)).put (some 33) (us.getD 1 undef)).put (some 34) (us.getD 2 undef)).put (some 35) (us.getD 3 undef)).put (some 36) (us.getD 4 undef)).put (some 37) (us.getD 5 undef)).put (some 9) (.pointer (some ⟨qa, 0, none⟩))).put (some 10) (.pointer (some ⟨qb, 0, none⟩)))) (fun qa qb _ w' => ∃ x1 x2 : List Value, w'.heap[qa]? = some (.cells x1.toArray 33 (0, 0)) ∧ w'.heap[qb]? = some (.cells x2.toArray 33 (0, 0)) ∧ WoAt R w' (.agg x1.toArray) (some X) ∧ WoAt R w' (.agg x2.toArray) (some Y) ∧ Keeps [] V0 w') ?_ ?_
  · obtain ⟨S0, hS0⟩ : ∃ S0 : World → Prop, S0 = fun y => Keeps [] V0 y := ⟨_, rfl⟩
    have HSE := Lib.hid hS0
    have hSD : S0 V0.drew := by rw [hS0]; exact (Keeps.refl _ _).drew
    have HSA := Lib.hid (fun (w' : World) (hh : S0 w') => show w'.rangeAt p1 0 A1 from by rw [hS0] at hh; exact block_range (hh.heap HB1.out (by simp)))
    clear hS0
    refine wp_region_noPanic ?_
    refine wp_region_held_drew (S := S0) (by kernel_rfl) hSD (fun hHeld => ?_)
    apply wpAnyH_take (i := 0)
    · simp only [List.getElem?_toArray]; rfl
    iterate 3 (· kernel_rfl)
    · exact fun _ _ _ h => h
    · exact skW.yields HO1.out rfl _ rfl p1 0 rfl HSA.out
    · assumption
    try simp only [Act.put, lsA, lsZ, lsS]
    apply wpAnyH_take (i := 1)
    · simp only [List.getElem?_toArray]; rfl
    iterate 3 (· kernel_rfl)
    · exact fun _ _ _ h => h
    · exact Or.inl ⟨by rfl, by intro w hSw; go_simp; try with_reducible rfl⟩
    · assumption
    try simp only [Act.put, lsA, lsZ, lsS]
    apply wpAnyH_take (i := 3)
    · simp only [List.getElem?_toArray]; rfl
    iterate 3 (· kernel_rfl)
    · exact fun _ _ _ h => h
    · exact skW.yields HO1.out rfl _ rfl p1 0 rfl HSA.out
    · assumption
    try simp only [Act.put, lsA, lsZ, lsS]
    apply wpAnyH_take (i := 4)
    · simp only [List.getElem?_toArray]; rfl
    iterate 3 (· kernel_rfl)
    · exact fun _ _ _ h => h
    · exact Or.inl ⟨by rfl, by intro w hSw; go_simp; try with_reducible rfl⟩
    · assumption
    try simp only [Act.put, lsA, lsZ, lsS]
    have HY := Lib.hid ((Keeps.refl [] V0).drew)
    generalize V0.drew = YC at *
    apply wpAnyH_ready (rs := [2, 6, 7])
    · kernel_rfl
    · simp
    apply AllReadyH.cons
    · simp only [List.getElem?_toArray]; rfl
    · intro K hK
      rw [if_pos (by rfl)]
      refine wp_call9 23 _ _ rfl [.agg A1.toArray, .slice a n cp] rfl Tryz.func23 (by kernel_rfl) (by kernel_rfl) ((HA1.out _ HY.out).mono ?_)
      rintro e YC ⟨x1, rfl, haf, hk, hfo⟩
      refine ⟨_, rfl, ?_⟩
      try have HF1A := Lib.hid (show ∀ q ∈ wFoot R (.agg x1.toArray), q ≠ ga from fun q hq => by
        rcases hfo q hq with h | h
        · have h1 := H1.out.old q h; have h2 := HGA.out; omega
        · have := lt_of_block HBA.out; omega)
      try have HF1B := Lib.hid (show ∀ q ∈ wFoot R (.agg x1.toArray), q ≠ gb from fun q hq => by
        rcases hfo q hq with h | h
        · have h1 := H1.out.old q h; have h2 := HGB.out; omega
        · have := lt_of_block HBB.out; omega)
      try replace HBA := Lib.hid (hk.heap HBA.out (by simp))
      try replace HBB := Lib.hid (hk.heap HBB.out (by simp))
      try replace HX1 := Lib.hid (HX1.out.new hk)
      try replace HX2 := Lib.hid (HX2.out.new hk)
      replace HY := Lib.hid (HY.out.trans hk (FSub.refl _ _))
      have HX1 := Lib.hid haf
      clear haf hk hfo
      refine hK.out _ _ ?_ (fun hHeld => ?_)
      · exact (by rw [HSE.out]; exact HY.out)
      clear hK K
      try simp only [Act.put, lsA, lsZ, lsS]
      apply wpAnyH_ready (rs := [5, 6, 7])
      · kernel_rfl
      · simp
      apply AllReadyH.cons
      · simp only [List.getElem?_toArray]; rfl
      · intro K hK
        rw [if_pos (by rfl)]
        refine wp_call9 23 _ _ rfl [.agg A1.toArray, .slice a2 n2 cp2] rfl Tryz.func23 (by kernel_rfl) (by kernel_rfl) ((HA2.out _ HY.out).mono ?_)
        rintro e YC ⟨x2, rfl, haf, hk, hfo⟩
        refine ⟨_, rfl, ?_⟩
        try have HF2A := Lib.hid (show ∀ q ∈ wFoot R (.agg x2.toArray), q ≠ ga from fun q hq => by
          rcases hfo q hq with h | h
          · have h1 := H1.out.old q h; have h2 := HGA.out; omega
          · have := lt_of_block HBA.out; omega)
        try have HF2B := Lib.hid (show ∀ q ∈ wFoot R (.agg x2.toArray), q ≠ gb from fun q hq => by
          rcases hfo q hq with h | h
          · have h1 := H1.out.old q h; have h2 := HGB.out; omega
          · have := lt_of_block HBB.out; omega)
        try replace HBA := Lib.hid (hk.heap HBA.out (by simp))
        try replace HBB := Lib.hid (hk.heap HBB.out (by simp))
        try replace HX1 := Lib.hid (HX1.out.new hk)
        try replace HX2 := Lib.hid (HX2.out.new hk)
        replace HY := Lib.hid (HY.out.trans hk (FSub.refl _ _))
        have HX2 := Lib.hid haf
        clear haf hk hfo
        refine hK.out _ _ ?_ (fun hHeld => ?_)
        · exact (by rw [HSE.out]; exact HY.out)
        clear hK K
        try simp only [Act.put, lsA, lsZ, lsS]
        apply wpAnyH_ready (rs := [6, 7])
        · kernel_rfl
        · simp
        apply AllReadyH.cons
        · simp only [List.getElem?_toArray]; rfl
        · intro K hK
          rw [if_pos (by rfl)]
          refine wp_allocW14 rfl ?_
          have hk : Keeps [] YC (YC.alloc (.cells wdZ.toArray 33)) := (Keeps.refl _ _).alloc _
          have hb := heap_alloc_new YC (.cells wdZ.toArray 33)
          try have HF1A := Lib.hid (show ∀ q ∈ wFoot R (.agg x1.toArray), q ≠ YC.heap.size from fun q hq => Nat.ne_of_lt (HX1.out.old q hq))
          try have HF2A := Lib.hid (show ∀ q ∈ wFoot R (.agg x2.toArray), q ≠ YC.heap.size from fun q hq => Nat.ne_of_lt (HX2.out.old q hq))
          try have HAB := Lib.hid (show YC.heap.size ≠ gb from Nat.ne_of_gt (lt_of_block HBB.out))
          have HGA := Lib.hid HY.out.size
          try replace HBA := Lib.hid (hk.heap HBA.out (by simp))
          try replace HBB := Lib.hid (hk.heap HBB.out (by simp))
          try replace HX1 := Lib.hid (HX1.out.new hk)
          try replace HX2 := Lib.hid (HX2.out.new hk)
          replace HY := Lib.hid (HY.out.trans hk (FSub.refl _ _))
          have HBA := Lib.hid hb
          clear hk hb
          generalize YC.heap.size = ga at *
          generalize YC.alloc (.cells wdZ.toArray 33) = YC at *
          refine hK.out _ _ ?_ (fun hHeld => ?_)
          · exact (by rw [HSE.out]; exact HY.out)
          clear hK K
          try simp only [Act.put, lsA, lsZ, lsS]
          apply wpAnyH_ready (rs := [7])
          · kernel_rfl
          · simp
          apply AllReadyH.cons (hs := AllReadyH.nil)
          · simp only [List.getElem?_toArray]; rfl
          intro K hK
          rw [if_pos (by rfl)]
          refine wp_allocW14 rfl ?_
          have hk : Keeps [] YC (YC.alloc (.cells wdZ.toArray 33)) := (Keeps.refl _ _).alloc _
          have hb := heap_alloc_new YC (.cells wdZ.toArray 33)
          try have HF1B := Lib.hid (show ∀ q ∈ wFoot R (.agg x1.toArray), q ≠ YC.heap.size from fun q hq => Nat.ne_of_lt (HX1.out.old q hq))
          try have HF2B := Lib.hid (show ∀ q ∈ wFoot R (.agg x2.toArray), q ≠ YC.heap.size from fun q hq => Nat.ne_of_lt (HX2.out.old q hq))
          try have HAB := Lib.hid (show ga ≠ YC.heap.size from Nat.ne_of_lt (lt_of_block HBA.out))
          have HGB := Lib.hid HY.out.size
          try replace HBA := Lib.hid (hk.heap HBA.out (by simp))
          try replace HBB := Lib.hid (hk.heap HBB.out (by simp))
          try replace HX1 := Lib.hid (HX1.out.new hk)
          try replace HX2 := Lib.hid (HX2.out.new hk)
          replace HY := Lib.hid (HY.out.trans hk (FSub.refl _ _))
          have HBB := Lib.hid hb
          clear hk hb
          generalize YC.heap.size = gb at *
          generalize YC.alloc (.cells wdZ.toArray 33) = YC at *
          refine hK.out _ _ ?_ (fun hHeld => ?_)
          · exact (by rw [HSE.out]; exact HY.out)
          clear hK K
          try simp only [Act.put, lsA, lsZ, lsS]
          have HXO1 := woAt_ok HX1.out; have HXO2 := woAt_ok HX2.out
          apply wpAnyH_ready (rs := [8])
          · kernel_rfl
          · simp
          apply AllReadyH.cons (hs := AllReadyH.nil)
          · simp only [List.getElem?_toArray]; rfl
          intro K hK
          rw [if_pos (by rfl)]
          refine skW.wp_put rfl (g := ga) (old := wdZ) (A := x1) HXO1 wdZ_ok rfl rfl HBA.out (fun YC hV hk => ?_)
          replace HBA := Lib.hid hV
          replace HBB := Lib.hid (hk.heap HBB.out (by have := HAB.out; simp; first | exact this | exact fun e => this e.symm))
          replace HX1 := Lib.hid (HX1.out.put hk HF1A.out); replace HX2 := Lib.hid (HX2.out.put hk HF2A.out)
          replace HY := Lib.hid (HY.out.trans' hk HGA.out)
          clear hV hk
          refine hK.out _ _ ?_ (fun hHeld => ?_)
          · exact (by rw [HSE.out]; exact HY.out)
          clear hK K
          try simp only [Act.put, lsA, lsZ, lsS]
          apply wpAnyH_ready (rs := [9])
          · kernel_rfl
          · simp
          apply AllReadyH.cons (hs := AllReadyH.nil)
          · simp only [List.getElem?_toArray]; rfl
          intro K hK
          rw [if_pos (by rfl)]
          refine skW.wp_put rfl (g := gb) (old := wdZ) (A := x2) HXO2 wdZ_ok rfl rfl HBB.out (fun YC hV hk => ?_)
          replace HBB := Lib.hid hV
          replace HBA := Lib.hid (hk.heap HBA.out (by have := HAB.out; simp; first | exact this | exact fun e => this e.symm))
          replace HX1 := Lib.hid (HX1.out.put hk HF1B.out); replace HX2 := Lib.hid (HX2.out.put hk HF2B.out)
          replace HY := Lib.hid (HY.out.trans' hk HGB.out)
          clear hV hk
          refine hK.out _ _ ?_ (fun hHeld => ?_)
          · exact (by rw [HSE.out]; exact HY.out)
          clear hK K
          try simp only [Act.put, lsA, lsZ, lsS]
          refine wpAnyH_done (by kernel_rfl) ?_ _
          refine NoPanic.normal ?_
          exact ⟨rfl, ga, gb, undef, [_, _, _, _, _, _], rfl, x1, x2, HBA.out, HBB.out, HX1.out, HX2.out, HY.out⟩
        apply AllReadyH.cons (hs := AllReadyH.nil)
        · simp only [List.getElem?_toArray]; rfl
        intro K hK
        rw [if_pos (by rfl)]
        refine wp_allocW14 rfl ?_
        have hk : Keeps [] YC (YC.alloc (.cells wdZ.toArray 33)) := (Keeps.refl _ _).alloc _
        have hb := heap_alloc_new YC (.cells wdZ.toArray 33)
        try have HF1B := Lib.hid (show ∀ q ∈ wFoot R (.agg x1.toArray), q ≠ YC.heap.size from fun q hq => Nat.ne_of_lt (HX1.out.old q hq))
        try have HF2B := Lib.hid (show ∀ q ∈ wFoot R (.agg x2.toArray), q ≠ YC.heap.size from fun q hq => Nat.ne_of_lt (HX2.out.old q hq))
        try have HAB := Lib.hid (show ga ≠ YC.heap.size from Nat.ne_of_lt (lt_of_block HBA.out))
        have HGB := Lib.hid HY.out.size
        try replace HBA := Lib.hid (hk.heap HBA.out (by simp))
        try replace HBB := Lib.hid (hk.heap HBB.out (by simp))
        try replace HX1 := Lib.hid (HX1.out.new hk)
        try replace HX2 := Lib.hid (HX2.out.new hk)
        replace HY := Lib.hid (HY.out.trans hk (FSub.refl _ _))
        have HBB := Lib.hid hb
        clear hk hb
        generalize YC.heap.size = gb at *
        generalize YC.alloc (.cells wdZ.toArray 33) = YC at *
        refine hK.out _ _ ?_ (fun hHeld => ?_)
        · exact (by rw [HSE.out]; exact HY.out)
        clear hK K
        try simp only [Act.put, lsA, lsZ, lsS]
        apply wpAnyH_ready (rs := [6])
        · kernel_rfl
        · simp
        apply AllReadyH.cons (hs := AllReadyH.nil)
        · simp only [List.getElem?_toArray]; rfl
        intro K hK
        rw [if_pos (by rfl)]
        refine wp_allocW14 rfl ?_
        have hk : Keeps [] YC (YC.alloc (.cells wdZ.toArray 33)) := (Keeps.refl _ _).alloc _
        have hb := heap_alloc_new YC (.cells wdZ.toArray 33)
        try have HF1A := Lib.hid (show ∀ q ∈ wFoot R (.agg x1.toArray), q ≠ YC.heap.size from fun q hq => Nat.ne_of_lt (HX1.out.old q hq))
        try have HF2A := Lib.hid (show ∀ q ∈ wFoot R (.agg x2.toArray), q ≠ YC.heap.size from fun q hq => Nat.ne_of_lt (HX2.out.old q hq))
        try have HAB := Lib.hid (show YC.heap.size ≠ gb from Nat.ne_of_gt (lt_of_block HBB.out))
        have HGA := Lib.hid HY.out.size
        try replace HBA := Lib.hid (hk.heap HBA.out (by simp))
        try replace HBB := Lib.hid (hk.heap HBB.out (by simp))
        try replace HX1 := Lib.hid (HX1.out.new hk)
        try replace HX2 := Lib.hid (HX2.out.new hk)
        replace HY := Lib.hid (HY.out.trans hk (FSub.refl _ _))
        have HBA := Lib.hid hb
        clear hk hb
        generalize YC.heap.size = ga at *
        generalize YC.alloc (.cells wdZ.toArray 33) = YC at *
        refine hK.out _ _ ?_ (fun hHeld => ?_)
        · exact (by rw [HSE.out]; exact HY.out)
        clear hK K
        try simp only [Act.put, lsA, lsZ, lsS]
        have HXO1 := woAt_ok HX1.out; have HXO2 := woAt_ok HX2.out
        apply wpAnyH_ready (rs := [8])
        · kernel_rfl
        · simp
        apply AllReadyH.cons (hs := AllReadyH.nil)
        · simp only [List.getElem?_toArray]; rfl
        intro K hK
        rw [if_pos (by rfl)]
        refine skW.wp_put rfl (g := ga) (old := wdZ) (A := x1) HXO1 wdZ_ok rfl rfl HBA.out (fun YC hV hk => ?_)
        replace HBA := Lib.hid hV
        replace HBB := Lib.hid (hk.heap HBB.out (by have := HAB.out; simp; first | exact this | exact fun e => this e.symm))
        replace HX1 := Lib.hid (HX1.out.put hk HF1A.out); replace HX2 := Lib.hid (HX2.out.put hk HF2A.out)
        replace HY := Lib.hid (HY.out.trans' hk HGA.out)
        clear hV hk
        refine hK.out _ _ ?_ (fun hHeld => ?_)
        · exact (by rw [HSE.out]; exact HY.out)
        clear hK K
        try simp only [Act.put, lsA, lsZ, lsS]
        apply wpAnyH_ready (rs := [9])
        · kernel_rfl
        · simp
        apply AllReadyH.cons (hs := AllReadyH.nil)
        · simp only [List.getElem?_toArray]; rfl
        intro K hK
        rw [if_pos (by rfl)]
        refine skW.wp_put rfl (g := gb) (old := wdZ) (A := x2) HXO2 wdZ_ok rfl rfl HBB.out (fun YC hV hk => ?_)
        replace HBB := Lib.hid hV
        replace HBA := Lib.hid (hk.heap HBA.out (by have := HAB.out; simp; first | exact this | exact fun e => this e.symm))
        replace HX1 := Lib.hid (HX1.out.put hk HF1B.out); replace HX2 := Lib.hid (HX2.out.put hk HF2B.out)
        replace HY := Lib.hid (HY.out.trans' hk HGB.out)
        clear hV hk
        refine hK.out _ _ ?_ (fun hHeld => ?_)
        · exact (by rw [HSE.out]; exact HY.out)
        clear hK K
        try simp only [Act.put, lsA, lsZ, lsS]
        refine wpAnyH_done (by kernel_rfl) ?_ _
        refine NoPanic.normal ?_
        exact ⟨rfl, ga, gb, undef, [_, _, _, _, _, _], rfl, x1, x2, HBA.out, HBB.out, HX1.out, HX2.out, HY.out⟩
      apply AllReadyH.cons
      · simp only [List.getElem?_toArray]; rfl
      · intro K hK
        rw [if_pos (by rfl)]
        refine wp_allocW14 rfl ?_
        have hk : Keeps [] YC (YC.alloc (.cells wdZ.toArray 33)) := (Keeps.refl _ _).alloc _
        have hb := heap_alloc_new YC (.cells wdZ.toArray 33)
        try have HF1A := Lib.hid (show ∀ q ∈ wFoot R (.agg x1.toArray), q ≠ YC.heap.size from fun q hq => Nat.ne_of_lt (HX1.out.old q hq))
        try have HF2A := Lib.hid (show ∀ q ∈ wFoot R (.agg x2.toArray), q ≠ YC.heap.size from fun q hq => Nat.ne_of_lt (HX2.out.old q hq))
        try have HAB := Lib.hid (show YC.heap.size ≠ gb from Nat.ne_of_gt (lt_of_block HBB.out))
        have HGA := Lib.hid HY.out.size
        try replace HBA := Lib.hid (hk.heap HBA.out (by simp))
        try replace HBB := Lib.hid (hk.heap HBB.out (by simp))
        try replace HX1 := Lib.hid (HX1.out.new hk)
        try replace HX2 := Lib.hid (HX2.out.new hk)
        replace HY := Lib.hid (HY.out.trans hk (FSub.refl _ _))
        have HBA := Lib.hid hb
        clear hk hb
        generalize YC.heap.size = ga at *
        generalize YC.alloc (.cells wdZ.toArray 33) = YC at *
        refine hK.out _ _ ?_ (fun hHeld => ?_)
        · exact (by rw [HSE.out]; exact HY.out)
        clear hK K
        try simp only [Act.put, lsA, lsZ, lsS]
        apply wpAnyH_ready (rs := [5, 7])
        · kernel_rfl
        · simp
        apply AllReadyH.cons
        · simp only [List.getElem?_toArray]; rfl
        · intro K hK
          rw [if_pos (by rfl)]
          refine wp_call9 23 _ _ rfl [.agg A1.toArray, .slice a2 n2 cp2] rfl Tryz.func23 (by kernel_rfl) (by kernel_rfl) ((HA2.out _ HY.out).mono ?_)
          rintro e YC ⟨x2, rfl, haf, hk, hfo⟩
          refine ⟨_, rfl, ?_⟩
          try have HF2A := Lib.hid (show ∀ q ∈ wFoot R (.agg x2.toArray), q ≠ ga from fun q hq => by
            rcases hfo q hq with h | h
            · have h1 := H1.out.old q h; have h2 := HGA.out; omega
            · have := lt_of_block HBA.out; omega)
          try have HF2B := Lib.hid (show ∀ q ∈ wFoot R (.agg x2.toArray), q ≠ gb from fun q hq => by
            rcases hfo q hq with h | h
            · have h1 := H1.out.old q h; have h2 := HGB.out; omega
            · have := lt_of_block HBB.out; omega)
          try replace HBA := Lib.hid (hk.heap HBA.out (by simp))
          try replace HBB := Lib.hid (hk.heap HBB.out (by simp))
          try replace HX1 := Lib.hid (HX1.out.new hk)
          try replace HX2 := Lib.hid (HX2.out.new hk)
          replace HY := Lib.hid (HY.out.trans hk (FSub.refl _ _))
          have HX2 := Lib.hid haf
          clear haf hk hfo
          refine hK.out _ _ ?_ (fun hHeld => ?_)
          · exact (by rw [HSE.out]; exact HY.out)
          clear hK K
          try simp only [Act.put, lsA, lsZ, lsS]
          apply wpAnyH_ready (rs := [7])
          · kernel_rfl
          · simp
          apply AllReadyH.cons (hs := AllReadyH.nil)
          · simp only [List.getElem?_toArray]; rfl
          intro K hK
          rw [if_pos (by rfl)]
          refine wp_allocW14 rfl ?_
          have hk : Keeps [] YC (YC.alloc (.cells wdZ.toArray 33)) := (Keeps.refl _ _).alloc _
          have hb := heap_alloc_new YC (.cells wdZ.toArray 33)
          try have HF1B := Lib.hid (show ∀ q ∈ wFoot R (.agg x1.toArray), q ≠ YC.heap.size from fun q hq => Nat.ne_of_lt (HX1.out.old q hq))
          try have HF2B := Lib.hid (show ∀ q ∈ wFoot R (.agg x2.toArray), q ≠ YC.heap.size from fun q hq => Nat.ne_of_lt (HX2.out.old q hq))
          try have HAB := Lib.hid (show ga ≠ YC.heap.size from Nat.ne_of_lt (lt_of_block HBA.out))
          have HGB := Lib.hid HY.out.size
          try replace HBA := Lib.hid (hk.heap HBA.out (by simp))
          try replace HBB := Lib.hid (hk.heap HBB.out (by simp))
          try replace HX1 := Lib.hid (HX1.out.new hk)
          try replace HX2 := Lib.hid (HX2.out.new hk)
          replace HY := Lib.hid (HY.out.trans hk (FSub.refl _ _))
          have HBB := Lib.hid hb
          clear hk hb
          generalize YC.heap.size = gb at *
          generalize YC.alloc (.cells wdZ.toArray 33) = YC at *
          refine hK.out _ _ ?_ (fun hHeld => ?_)
          · exact (by rw [HSE.out]; exact HY.out)
          clear hK K
          try simp only [Act.put, lsA, lsZ, lsS]
          have HXO1 := woAt_ok HX1.out; have HXO2 := woAt_ok HX2.out
          apply wpAnyH_ready (rs := [8])
          · kernel_rfl
          · simp
          apply AllReadyH.cons (hs := AllReadyH.nil)
          · simp only [List.getElem?_toArray]; rfl
          intro K hK
          rw [if_pos (by rfl)]
          refine skW.wp_put rfl (g := ga) (old := wdZ) (A := x1) HXO1 wdZ_ok rfl rfl HBA.out (fun YC hV hk => ?_)
          replace HBA := Lib.hid hV
          replace HBB := Lib.hid (hk.heap HBB.out (by have := HAB.out; simp; first | exact this | exact fun e => this e.symm))
          replace HX1 := Lib.hid (HX1.out.put hk HF1A.out); replace HX2 := Lib.hid (HX2.out.put hk HF2A.out)
          replace HY := Lib.hid (HY.out.trans' hk HGA.out)
          clear hV hk
          refine hK.out _ _ ?_ (fun hHeld => ?_)
          · exact (by rw [HSE.out]; exact HY.out)
          clear hK K
          try simp only [Act.put, lsA, lsZ, lsS]
          apply wpAnyH_ready (rs := [9])
          · kernel_rfl
          · simp
          apply AllReadyH.cons (hs := AllReadyH.nil)
          · simp only [List.getElem?_toArray]; rfl
          intro K hK
          rw [if_pos (by rfl)]
          refine skW.wp_put rfl (g := gb) (old := wdZ) (A := x2) HXO2 wdZ_ok rfl rfl HBB.out (fun YC hV hk => ?_)
          replace HBB := Lib.hid hV
          replace HBA := Lib.hid (hk.heap HBA.out (by have := HAB.out; simp; first | exact this | exact fun e => this e.symm))
          replace HX1 := Lib.hid (HX1.out.put hk HF1B.out); replace HX2 := Lib.hid (HX2.out.put hk HF2B.out)
          replace HY := Lib.hid (HY.out.trans' hk HGB.out)
          clear hV hk
          refine hK.out _ _ ?_ (fun hHeld => ?_)
          · exact (by rw [HSE.out]; exact HY.out)
          clear hK K
          try simp only [Act.put, lsA, lsZ, lsS]
          refine wpAnyH_done (by kernel_rfl) ?_ _
          refine NoPanic.normal ?_
          exact ⟨rfl, ga, gb, undef, [_, _, _, _, _, _], rfl, x1, x2, HBA.out, HBB.out, HX1.out, HX2.out, HY.out⟩
        apply AllReadyH.cons (hs := AllReadyH.nil)
        · simp only [List.getElem?_toArray]; rfl
        intro K hK
        rw [if_pos (by rfl)]
        refine wp_allocW14 rfl ?_
        have hk : Keeps [] YC (YC.alloc (.cells wdZ.toArray 33)) := (Keeps.refl _ _).alloc _
        have hb := heap_alloc_new YC (.cells wdZ.toArray 33)
        try have HF1B := Lib.hid (show ∀ q ∈ wFoot R (.agg x1.toArray), q ≠ YC.heap.size from fun q hq => Nat.ne_of_lt (HX1.out.old q hq))
        try have HF2B := Lib.hid (show ∀ q ∈ wFoot R (.agg x2.toArray), q ≠ YC.heap.size from fun q hq => Nat.ne_of_lt (HX2.out.old q hq))
        try have HAB := Lib.hid (show ga ≠ YC.heap.size from Nat.ne_of_lt (lt_of_block HBA.out))
        have HGB := Lib.hid HY.out.size
        try replace HBA := Lib.hid (hk.heap HBA.out (by simp))
        try replace HBB := Lib.hid (hk.heap HBB.out (by simp))
        try replace HX1 := Lib.hid (HX1.out.new hk)
        try replace HX2 := Lib.hid (HX2.out.new hk)
        replace HY := Lib.hid (HY.out.trans hk (FSub.refl _ _))
        have HBB := Lib.hid hb
        clear hk hb
        generalize YC.heap.size = gb at *
        generalize YC.alloc (.cells wdZ.toArray 33) = YC at *
        refine hK.out _ _ ?_ (fun hHeld => ?_)
        · exact (by rw [HSE.out]; exact HY.out)
        clear hK K
        try simp only [Act.put, lsA, lsZ, lsS]
        apply wpAnyH_ready (rs := [5])
        · kernel_rfl
        · simp
        apply AllReadyH.cons (hs := AllReadyH.nil)
        · simp only [List.getElem?_toArray]; rfl
        intro K hK
        rw [if_pos (by rfl)]
        refine wp_call9 23 _ _ rfl [.agg A1.toArray, .slice a2 n2 cp2] rfl Tryz.func23 (by kernel_rfl) (by kernel_rfl) ((HA2.out _ HY.out).mono ?_)
        rintro e YC ⟨x2, rfl, haf, hk, hfo⟩
        refine ⟨_, rfl, ?_⟩
        try have HF2A := Lib.hid (show ∀ q ∈ wFoot R (.agg x2.toArray), q ≠ ga from fun q hq => by
          rcases hfo q hq with h | h
          · have h1 := H1.out.old q h; have h2 := HGA.out; omega
          · have := lt_of_block HBA.out; omega)
        try have HF2B := Lib.hid (show ∀ q ∈ wFoot R (.agg x2.toArray), q ≠ gb from fun q hq => by
          rcases hfo q hq with h | h
          · have h1 := H1.out.old q h; have h2 := HGB.out; omega
          · have := lt_of_block HBB.out; omega)
        try replace HBA := Lib.hid (hk.heap HBA.out (by simp))
        try replace HBB := Lib.hid (hk.heap HBB.out (by simp))
        try replace HX1 := Lib.hid (HX1.out.new hk)
        try replace HX2 := Lib.hid (HX2.out.new hk)
        replace HY := Lib.hid (HY.out.trans hk (FSub.refl _ _))
        have HX2 := Lib.hid haf
        clear haf hk hfo
        refine hK.out _ _ ?_ (fun hHeld => ?_)
        · exact (by rw [HSE.out]; exact HY.out)
        clear hK K
        try simp only [Act.put, lsA, lsZ, lsS]
        have HXO1 := woAt_ok HX1.out; have HXO2 := woAt_ok HX2.out
        apply wpAnyH_ready (rs := [8])
        · kernel_rfl
        · simp
        apply AllReadyH.cons (hs := AllReadyH.nil)
        · simp only [List.getElem?_toArray]; rfl
        intro K hK
        rw [if_pos (by rfl)]
        refine skW.wp_put rfl (g := ga) (old := wdZ) (A := x1) HXO1 wdZ_ok rfl rfl HBA.out (fun YC hV hk => ?_)
        replace HBA := Lib.hid hV
        replace HBB := Lib.hid (hk.heap HBB.out (by have := HAB.out; simp; first | exact this | exact fun e => this e.symm))
        replace HX1 := Lib.hid (HX1.out.put hk HF1A.out); replace HX2 := Lib.hid (HX2.out.put hk HF2A.out)
        replace HY := Lib.hid (HY.out.trans' hk HGA.out)
        clear hV hk
        refine hK.out _ _ ?_ (fun hHeld => ?_)
        · exact (by rw [HSE.out]; exact HY.out)
        clear hK K
        try simp only [Act.put, lsA, lsZ, lsS]
        apply wpAnyH_ready (rs := [9])
        · kernel_rfl
        · simp
        apply AllReadyH.cons (hs := AllReadyH.nil)
        · simp only [List.getElem?_toArray]; rfl
        intro K hK
        rw [if_pos (by rfl)]
        refine skW.wp_put rfl (g := gb) (old := wdZ) (A := x2) HXO2 wdZ_ok rfl rfl HBB.out (fun YC hV hk => ?_)
        replace HBB := Lib.hid hV
        replace HBA := Lib.hid (hk.heap HBA.out (by have := HAB.out; simp; first | exact this | exact fun e => this e.symm))
        replace HX1 := Lib.hid (HX1.out.put hk HF1B.out); replace HX2 := Lib.hid (HX2.out.put hk HF2B.out)
        replace HY := Lib.hid (HY.out.trans' hk HGB.out)
        clear hV hk
        refine hK.out _ _ ?_ (fun hHeld => ?_)
        · exact (by rw [HSE.out]; exact HY.out)
        clear hK K
        try simp only [Act.put, lsA, lsZ, lsS]
        refine wpAnyH_done (by kernel_rfl) ?_ _
        refine NoPanic.normal ?_
        exact ⟨rfl, ga, gb, undef, [_, _, _, _, _, _], rfl, x1, x2, HBA.out, HBB.out, HX1.out, HX2.out, HY.out⟩
      apply AllReadyH.cons (hs := AllReadyH.nil)
      · simp only [List.getElem?_toArray]; rfl
      intro K hK
      rw [if_pos (by rfl)]
      refine wp_allocW14 rfl ?_
      have hk : Keeps [] YC (YC.alloc (.cells wdZ.toArray 33)) := (Keeps.refl _ _).alloc _
      have hb := heap_alloc_new YC (.cells wdZ.toArray 33)
      try have HF1B := Lib.hid (show ∀ q ∈ wFoot R (.agg x1.toArray), q ≠ YC.heap.size from fun q hq => Nat.ne_of_lt (HX1.out.old q hq))
      try have HF2B := Lib.hid (show ∀ q ∈ wFoot R (.agg x2.toArray), q ≠ YC.heap.size from fun q hq => Nat.ne_of_lt (HX2.out.old q hq))
      try have HAB := Lib.hid (show ga ≠ YC.heap.size from Nat.ne_of_lt (lt_of_block HBA.out))
      have HGB := Lib.hid HY.out.size
      try replace HBA := Lib.hid (hk.heap HBA.out (by simp))
      try replace HBB := Lib.hid (hk.heap HBB.out (by simp))
      try replace HX1 := Lib.hid (HX1.out.new hk)
      try replace HX2 := Lib.hid (HX2.out.new hk)
      replace HY := Lib.hid (HY.out.trans hk (FSub.refl _ _))
      have HBB := Lib.hid hb
      clear hk hb
      generalize YC.heap.size = gb at *
      generalize YC.alloc (.cells wdZ.toArray 33) = YC at *
      refine hK.out _ _ ?_ (fun hHeld => ?_)
      · exact (by rw [HSE.out]; exact HY.out)
      clear hK K
      try simp only [Act.put, lsA, lsZ, lsS]
      apply wpAnyH_ready (rs := [5, 6])
      · kernel_rfl
      · simp
      apply AllReadyH.cons
      · simp only [List.getElem?_toArray]; rfl
      · intro K hK
        rw [if_pos (by rfl)]
        refine wp_call9 23 _ _ rfl [.agg A1.toArray, .slice a2 n2 cp2] rfl Tryz.func23 (by kernel_rfl) (by kernel_rfl) ((HA2.out _ HY.out).mono ?_)
        rintro e YC ⟨x2, rfl, haf, hk, hfo⟩
        refine ⟨_, rfl, ?_⟩
        try have HF2A := Lib.hid (show ∀ q ∈ wFoot R (.agg x2.toArray), q ≠ ga from fun q hq => by
          rcases hfo q hq with h | h
          · have h1 := H1.out.old q h; have h2 := HGA.out; omega
          · have := lt_of_block HBA.out; omega)
        try have HF2B := Lib.hid (show ∀ q ∈ wFoot R (.agg x2.toArray), q ≠ gb from fun q hq => by
          rcases hfo q hq with h | h
          · have h1 := H1.out.old q h; have h2 := HGB.out; omega
          · have := lt_of_block HBB.out; omega)
        try replace HBA := Lib.hid (hk.heap HBA.out (by simp))
        try replace HBB := Lib.hid (hk.heap HBB.out (by simp))
        try replace HX1 := Lib.hid (HX1.out.new hk)
        try replace HX2 := Lib.hid (HX2.out.new hk)
        replace HY := Lib.hid (HY.out.trans hk (FSub.refl _ _))
        have HX2 := Lib.hid haf
        clear haf hk hfo
        refine hK.out _ _ ?_ (fun hHeld => ?_)
        · exact (by rw [HSE.out]; exact HY.out)
        clear hK K
        try simp only [Act.put, lsA, lsZ, lsS]
        apply wpAnyH_ready (rs := [6])
        · kernel_rfl
        · simp
        apply AllReadyH.cons (hs := AllReadyH.nil)
        · simp only [List.getElem?_toArray]; rfl
        intro K hK
        rw [if_pos (by rfl)]
        refine wp_allocW14 rfl ?_
        have hk : Keeps [] YC (YC.alloc (.cells wdZ.toArray 33)) := (Keeps.refl _ _).alloc _
        have hb := heap_alloc_new YC (.cells wdZ.toArray 33)
        try have HF1A := Lib.hid (show ∀ q ∈ wFoot R (.agg x1.toArray), q ≠ YC.heap.size from fun q hq => Nat.ne_of_lt (HX1.out.old q hq))
        try have HF2A := Lib.hid (show ∀ q ∈ wFoot R (.agg x2.toArray), q ≠ YC.heap.size from fun q hq => Nat.ne_of_lt (HX2.out.old q hq))
        try have HAB := Lib.hid (show YC.heap.size ≠ gb from Nat.ne_of_gt (lt_of_block HBB.out))
        have HGA := Lib.hid HY.out.size
        try replace HBA := Lib.hid (hk.heap HBA.out (by simp))
        try replace HBB := Lib.hid (hk.heap HBB.out (by simp))
        try replace HX1 := Lib.hid (HX1.out.new hk)
        try replace HX2 := Lib.hid (HX2.out.new hk)
        replace HY := Lib.hid (HY.out.trans hk (FSub.refl _ _))
        have HBA := Lib.hid hb
        clear hk hb
        generalize YC.heap.size = ga at *
        generalize YC.alloc (.cells wdZ.toArray 33) = YC at *
        refine hK.out _ _ ?_ (fun hHeld => ?_)
        · exact (by rw [HSE.out]; exact HY.out)
        clear hK K
        try simp only [Act.put, lsA, lsZ, lsS]
        have HXO1 := woAt_ok HX1.out; have HXO2 := woAt_ok HX2.out
        apply wpAnyH_ready (rs := [8])
        · kernel_rfl
        · simp
        apply AllReadyH.cons (hs := AllReadyH.nil)
        · simp only [List.getElem?_toArray]; rfl
        intro K hK
        rw [if_pos (by rfl)]
        refine skW.wp_put rfl (g := ga) (old := wdZ) (A := x1) HXO1 wdZ_ok rfl rfl HBA.out (fun YC hV hk => ?_)
        replace HBA := Lib.hid hV
        replace HBB := Lib.hid (hk.heap HBB.out (by have := HAB.out; simp; first | exact this | exact fun e => this e.symm))
        replace HX1 := Lib.hid (HX1.out.put hk HF1A.out); replace HX2 := Lib.hid (HX2.out.put hk HF2A.out)
        replace HY := Lib.hid (HY.out.trans' hk HGA.out)
        clear hV hk
        refine hK.out _ _ ?_ (fun hHeld => ?_)
        · exact (by rw [HSE.out]; exact HY.out)
        clear hK K
        try simp only [Act.put, lsA, lsZ, lsS]
        apply wpAnyH_ready (rs := [9])
        · kernel_rfl
        · simp
        apply AllReadyH.cons (hs := AllReadyH.nil)
        · simp only [List.getElem?_toArray]; rfl
        intro K hK
        rw [if_pos (by rfl)]
        refine skW.wp_put rfl (g := gb) (old := wdZ) (A := x2) HXO2 wdZ_ok rfl rfl HBB.out (fun YC hV hk => ?_)
        replace HBB := Lib.hid hV
        replace HBA := Lib.hid (hk.heap HBA.out (by have := HAB.out; simp; first | exact this | exact fun e => this e.symm))
        replace HX1 := Lib.hid (HX1.out.put hk HF1B.out); replace HX2 := Lib.hid (HX2.out.put hk HF2B.out)
        replace HY := Lib.hid (HY.out.trans' hk HGB.out)
        clear hV hk
        refine hK.out _ _ ?_ (fun hHeld => ?_)
        · exact (by rw [HSE.out]; exact HY.out)
        clear hK K
        try simp only [Act.put, lsA, lsZ, lsS]
        refine wpAnyH_done (by kernel_rfl) ?_ _
        refine NoPanic.normal ?_
        exact ⟨rfl, ga, gb, undef, [_, _, _, _, _, _], rfl, x1, x2, HBA.out, HBB.out, HX1.out, HX2.out, HY.out⟩
      apply AllReadyH.cons (hs := AllReadyH.nil)
      · simp only [List.getElem?_toArray]; rfl
      intro K hK
      rw [if_pos (by rfl)]
      refine wp_allocW14 rfl ?_
      have hk : Keeps [] YC (YC.alloc (.cells wdZ.toArray 33)) := (Keeps.refl _ _).alloc _
      have hb := heap_alloc_new YC (.cells wdZ.toArray 33)
      try have HF1A := Lib.hid (show ∀ q ∈ wFoot R (.agg x1.toArray), q ≠ YC.heap.size from fun q hq => Nat.ne_of_lt (HX1.out.old q hq))
      try have HF2A := Lib.hid (show ∀ q ∈ wFoot R (.agg x2.toArray), q ≠ YC.heap.size from fun q hq => Nat.ne_of_lt (HX2.out.old q hq))
      try have HAB := Lib.hid (show YC.heap.size ≠ gb from Nat.ne_of_gt (lt_of_block HBB.out))
      have HGA := Lib.hid HY.out.size
      try replace HBA := Lib.hid (hk.heap HBA.out (by simp))
      try replace HBB := Lib.hid (hk.heap HBB.out (by simp))
      try replace HX1 := Lib.hid (HX1.out.new hk)
      try replace HX2 := Lib.hid (HX2.out.new hk)
      replace HY := Lib.hid (HY.out.trans hk (FSub.refl _ _))
      have HBA := Lib.hid hb
      clear hk hb
      generalize YC.heap.size = ga at *
      generalize YC.alloc (.cells wdZ.toArray 33) = YC at *
      refine hK.out _ _ ?_ (fun hHeld => ?_)
      · exact (by rw [HSE.out]; exact HY.out)
      clear hK K
      try simp only [Act.put, lsA, lsZ, lsS]
      apply wpAnyH_ready (rs := [5])
      · kernel_rfl
      · simp
      apply AllReadyH.cons (hs := AllReadyH.nil)
      · simp only [List.getElem?_toArray]; rfl
      intro K hK
      rw [if_pos (by rfl)]
      refine wp_call9 23 _ _ rfl [.agg A1.toArray, .slice a2 n2 cp2] rfl Tryz.func23 (by kernel_rfl) (by kernel_rfl) ((HA2.out _ HY.out).mono ?_)
      rintro e YC ⟨x2, rfl, haf, hk, hfo⟩
      refine ⟨_, rfl, ?_⟩
      try have HF2A := Lib.hid (show ∀ q ∈ wFoot R (.agg x2.toArray), q ≠ ga from fun q hq => by
        rcases hfo q hq with h | h
        · have h1 := H1.out.old q h; have h2 := HGA.out; omega
        · have := lt_of_block HBA.out; omega)
      try have HF2B := Lib.hid (show ∀ q ∈ wFoot R (.agg x2.toArray), q ≠ gb from fun q hq => by
        rcases hfo q hq with h | h
        · have h1 := H1.out.old q h; have h2 := HGB.out; omega
        · have := lt_of_block HBB.out; omega)
      try replace HBA := Lib.hid (hk.heap HBA.out (by simp))
      try replace HBB := Lib.hid (hk.heap HBB.out (by simp))
      try replace HX1 := Lib.hid (HX1.out.new hk)
      try replace HX2 := Lib.hid (HX2.out.new hk)
      replace HY := Lib.hid (HY.out.trans hk (FSub.refl _ _))
      have HX2 := Lib.hid haf
      clear haf hk hfo
      refine hK.out _ _ ?_ (fun hHeld => ?_)
      · exact (by rw [HSE.out]; exact HY.out)
      clear hK K
      try simp only [Act.put, lsA, lsZ, lsS]
      have HXO1 := woAt_ok HX1.out; have HXO2 := woAt_ok HX2.out
      apply wpAnyH_ready (rs := [8])
      · kernel_rfl
      · simp
      apply AllReadyH.cons (hs := AllReadyH.nil)
      · simp only [List.getElem?_toArray]; rfl
      intro K hK
      rw [if_pos (by rfl)]
      refine skW.wp_put rfl (g := ga) (old := wdZ) (A := x1) HXO1 wdZ_ok rfl rfl HBA.out (fun YC hV hk => ?_)
      replace HBA := Lib.hid hV
      replace HBB := Lib.hid (hk.heap HBB.out (by have := HAB.out; simp; first | exact this | exact fun e => this e.symm))
      replace HX1 := Lib.hid (HX1.out.put hk HF1A.out); replace HX2 := Lib.hid (HX2.out.put hk HF2A.out)
      replace HY := Lib.hid (HY.out.trans' hk HGA.out)
      clear hV hk
      refine hK.out _ _ ?_ (fun hHeld => ?_)
      · exact (by rw [HSE.out]; exact HY.out)
      clear hK K
      try simp only [Act.put, lsA, lsZ, lsS]
      apply wpAnyH_ready (rs := [9])
      · kernel_rfl
      · simp
      apply AllReadyH.cons (hs := AllReadyH.nil)
      · simp only [List.getElem?_toArray]; rfl
      intro K hK
      rw [if_pos (by rfl)]
      refine skW.wp_put rfl (g := gb) (old := wdZ) (A := x2) HXO2 wdZ_ok rfl rfl HBB.out (fun YC hV hk => ?_)
      replace HBB := Lib.hid hV
      replace HBA := Lib.hid (hk.heap HBA.out (by have := HAB.out; simp; first | exact this | exact fun e => this e.symm))
      replace HX1 := Lib.hid (HX1.out.put hk HF1B.out); replace HX2 := Lib.hid (HX2.out.put hk HF2B.out)
      replace HY := Lib.hid (HY.out.trans' hk HGB.out)
      clear hV hk
      refine hK.out _ _ ?_ (fun hHeld => ?_)
      · exact (by rw [HSE.out]; exact HY.out)
      clear hK K
      try simp only [Act.put, lsA, lsZ, lsS]
      refine wpAnyH_done (by kernel_rfl) ?_ _
      refine NoPanic.normal ?_
      exact ⟨rfl, ga, gb, undef, [_, _, _, _, _, _], rfl, x1, x2, HBA.out, HBB.out, HX1.out, HX2.out, HY.out⟩
    apply AllReadyH.cons
    · simp only [List.getElem?_toArray]; rfl
    · intro K hK
      rw [if_pos (by rfl)]
      refine wp_allocW14 rfl ?_
      have hk : Keeps [] YC (YC.alloc (.cells wdZ.toArray 33)) := (Keeps.refl _ _).alloc _
      have hb := heap_alloc_new YC (.cells wdZ.toArray 33)
      try have HF1A := Lib.hid (show ∀ q ∈ wFoot R (.agg x1.toArray), q ≠ YC.heap.size from fun q hq => Nat.ne_of_lt (HX1.out.old q hq))
      try have HF2A := Lib.hid (show ∀ q ∈ wFoot R (.agg x2.toArray), q ≠ YC.heap.size from fun q hq => Nat.ne_of_lt (HX2.out.old q hq))
      try have HAB := Lib.hid (show YC.heap.size ≠ gb from Nat.ne_of_gt (lt_of_block HBB.out))
      have HGA := Lib.hid HY.out.size
      try replace HBA := Lib.hid (hk.heap HBA.out (by simp))
      try replace HBB := Lib.hid (hk.heap HBB.out (by simp))
      try replace HX1 := Lib.hid (HX1.out.new hk)
      try replace HX2 := Lib.hid (HX2.out.new hk)
      replace HY := Lib.hid (HY.out.trans hk (FSub.refl _ _))
      have HBA := Lib.hid hb
      clear hk hb
      generalize YC.heap.size = ga at *
      generalize YC.alloc (.cells wdZ.toArray 33) = YC at *
      refine hK.out _ _ ?_ (fun hHeld => ?_)
      · exact (by rw [HSE.out]; exact HY.out)
      clear hK K
      try simp only [Act.put, lsA, lsZ, lsS]
      apply wpAnyH_ready (rs := [2, 7])
      · kernel_rfl
      · simp
      apply AllReadyH.cons
      · simp only [List.getElem?_toArray]; rfl
      · intro K hK
        rw [if_pos (by rfl)]
        refine wp_call9 23 _ _ rfl [.agg A1.toArray, .slice a n cp] rfl Tryz.func23 (by kernel_rfl) (by kernel_rfl) ((HA1.out _ HY.out).mono ?_)
        rintro e YC ⟨x1, rfl, haf, hk, hfo⟩
        refine ⟨_, rfl, ?_⟩
        try have HF1A := Lib.hid (show ∀ q ∈ wFoot R (.agg x1.toArray), q ≠ ga from fun q hq => by
          rcases hfo q hq with h | h
          · have h1 := H1.out.old q h; have h2 := HGA.out; omega
          · have := lt_of_block HBA.out; omega)
        try have HF1B := Lib.hid (show ∀ q ∈ wFoot R (.agg x1.toArray), q ≠ gb from fun q hq => by
          rcases hfo q hq with h | h
          · have h1 := H1.out.old q h; have h2 := HGB.out; omega
          · have := lt_of_block HBB.out; omega)
        try replace HBA := Lib.hid (hk.heap HBA.out (by simp))
        try replace HBB := Lib.hid (hk.heap HBB.out (by simp))
        try replace HX1 := Lib.hid (HX1.out.new hk)
        try replace HX2 := Lib.hid (HX2.out.new hk)
        replace HY := Lib.hid (HY.out.trans hk (FSub.refl _ _))
        have HX1 := Lib.hid haf
        clear haf hk hfo
        refine hK.out _ _ ?_ (fun hHeld => ?_)
        · exact (by rw [HSE.out]; exact HY.out)
        clear hK K
        try simp only [Act.put, lsA, lsZ, lsS]
        apply wpAnyH_ready (rs := [5, 7])
        · kernel_rfl
        · simp
        apply AllReadyH.cons
        · simp only [List.getElem?_toArray]; rfl
        · intro K hK
          rw [if_pos (by rfl)]
          refine wp_call9 23 _ _ rfl [.agg A1.toArray, .slice a2 n2 cp2] rfl Tryz.func23 (by kernel_rfl) (by kernel_rfl) ((HA2.out _ HY.out).mono ?_)
          rintro e YC ⟨x2, rfl, haf, hk, hfo⟩
          refine ⟨_, rfl, ?_⟩
          try have HF2A := Lib.hid (show ∀ q ∈ wFoot R (.agg x2.toArray), q ≠ ga from fun q hq => by
            rcases hfo q hq with h | h
            · have h1 := H1.out.old q h; have h2 := HGA.out; omega
            · have := lt_of_block HBA.out; omega)
          try have HF2B := Lib.hid (show ∀ q ∈ wFoot R (.agg x2.toArray), q ≠ gb from fun q hq => by
            rcases hfo q hq with h | h
            · have h1 := H1.out.old q h; have h2 := HGB.out; omega
            · have := lt_of_block HBB.out; omega)
          try replace HBA := Lib.hid (hk.heap HBA.out (by simp))
          try replace HBB := Lib.hid (hk.heap HBB.out (by simp))
          try replace HX1 := Lib.hid (HX1.out.new hk)
          try replace HX2 := Lib.hid (HX2.out.new hk)
          replace HY := Lib.hid (HY.out.trans hk (FSub.refl _ _))
          have HX2 := Lib.hid haf
          clear haf hk hfo
          refine hK.out _ _ ?_ (fun hHeld => ?_)
          · exact (by rw [HSE.out]; exact HY.out)
          clear hK K
          try simp only [Act.put, lsA, lsZ, lsS]
          apply wpAnyH_ready (rs := [7])
          · kernel_rfl
          · simp
          apply AllReadyH.cons (hs := AllReadyH.nil)
          · simp only [List.getElem?_toArray]; rfl
          intro K hK
          rw [if_pos (by rfl)]
          refine wp_allocW14 rfl ?_
          have hk : Keeps [] YC (YC.alloc (.cells wdZ.toArray 33)) := (Keeps.refl _ _).alloc _
          have hb := heap_alloc_new YC (.cells wdZ.toArray 33)
          try have HF1B := Lib.hid (show ∀ q ∈ wFoot R (.agg x1.toArray), q ≠ YC.heap.size from fun q hq => Nat.ne_of_lt (HX1.out.old q hq))
          try have HF2B := Lib.hid (show ∀ q ∈ wFoot R (.agg x2.toArray), q ≠ YC.heap.size from fun q hq => Nat.ne_of_lt (HX2.out.old q hq))
          try have HAB := Lib.hid (show ga ≠ YC.heap.size from Nat.ne_of_lt (lt_of_block HBA.out))
          have HGB := Lib.hid HY.out.size
          try replace HBA := Lib.hid (hk.heap HBA.out (by simp))
          try replace HBB := Lib.hid (hk.heap HBB.out (by simp))
          try replace HX1 := Lib.hid (HX1.out.new hk)
          try replace HX2 := Lib.hid (HX2.out.new hk)
          replace HY := Lib.hid (HY.out.trans hk (FSub.refl _ _))
          have HBB := Lib.hid hb
          clear hk hb
          generalize YC.heap.size = gb at *
          generalize YC.alloc (.cells wdZ.toArray 33) = YC at *
          refine hK.out _ _ ?_ (fun hHeld => ?_)
          · exact (by rw [HSE.out]; exact HY.out)
          clear hK K
          try simp only [Act.put, lsA, lsZ, lsS]
          have HXO1 := woAt_ok HX1.out; have HXO2 := woAt_ok HX2.out
          apply wpAnyH_ready (rs := [8])
          · kernel_rfl
          · simp
          apply AllReadyH.cons (hs := AllReadyH.nil)
          · simp only [List.getElem?_toArray]; rfl
          intro K hK
          rw [if_pos (by rfl)]
          refine skW.wp_put rfl (g := ga) (old := wdZ) (A := x1) HXO1 wdZ_ok rfl rfl HBA.out (fun YC hV hk => ?_)
          replace HBA := Lib.hid hV
          replace HBB := Lib.hid (hk.heap HBB.out (by have := HAB.out; simp; first | exact this | exact fun e => this e.symm))
          replace HX1 := Lib.hid (HX1.out.put hk HF1A.out); replace HX2 := Lib.hid (HX2.out.put hk HF2A.out)
          replace HY := Lib.hid (HY.out.trans' hk HGA.out)
          clear hV hk
          refine hK.out _ _ ?_ (fun hHeld => ?_)
          · exact (by rw [HSE.out]; exact HY.out)
          clear hK K
          try simp only [Act.put, lsA, lsZ, lsS]
          apply wpAnyH_ready (rs := [9])
          · kernel_rfl
          · simp
          apply AllReadyH.cons (hs := AllReadyH.nil)
          · simp only [List.getElem?_toArray]; rfl
          intro K hK
          rw [if_pos (by rfl)]
          refine skW.wp_put rfl (g := gb) (old := wdZ) (A := x2) HXO2 wdZ_ok rfl rfl HBB.out (fun YC hV hk => ?_)
          replace HBB := Lib.hid hV
          replace HBA := Lib.hid (hk.heap HBA.out (by have := HAB.out; simp; first | exact this | exact fun e => this e.symm))
          replace HX1 := Lib.hid (HX1.out.put hk HF1B.out); replace HX2 := Lib.hid (HX2.out.put hk HF2B.out)
          replace HY := Lib.hid (HY.out.trans' hk HGB.out)
          clear hV hk
          refine hK.out _ _ ?_ (fun hHeld => ?_)
          · exact (by rw [HSE.out]; exact HY.out)
          clear hK K
          try simp only [Act.put, lsA, lsZ, lsS]
          refine wpAnyH_done (by kernel_rfl) ?_ _
          refine NoPanic.normal ?_
          exact ⟨rfl, ga, gb, undef, [_, _, _, _, _, _], rfl, x1, x2, HBA.out, HBB.out, HX1.out, HX2.out, HY.out⟩
        apply AllReadyH.cons (hs := AllReadyH.nil)
        · simp only [List.getElem?_toArray]; rfl
        intro K hK
        rw [if_pos (by rfl)]
        refine wp_allocW14 rfl ?_
        have hk : Keeps [] YC (YC.alloc (.cells wdZ.toArray 33)) := (Keeps.refl _ _).alloc _
        have hb := heap_alloc_new YC (.cells wdZ.toArray 33)
        try have HF1B := Lib.hid (show ∀ q ∈ wFoot R (.agg x1.toArray), q ≠ YC.heap.size from fun q hq => Nat.ne_of_lt (HX1.out.old q hq))
        try have HF2B := Lib.hid (show ∀ q ∈ wFoot R (.agg x2.toArray), q ≠ YC.heap.size from fun q hq => Nat.ne_of_lt (HX2.out.old q hq))
        try have HAB := Lib.hid (show ga ≠ YC.heap.size from Nat.ne_of_lt (lt_of_block HBA.out))
        have HGB := Lib.hid HY.out.size
        try replace HBA := Lib.hid (hk.heap HBA.out (by simp))
        try replace HBB := Lib.hid (hk.heap HBB.out (by simp))
        try replace HX1 := Lib.hid (HX1.out.new hk)
        try replace HX2 := Lib.hid (HX2.out.new hk)
        replace HY := Lib.hid (HY.out.trans hk (FSub.refl _ _))
        have HBB := Lib.hid hb
        clear hk hb
        generalize YC.heap.size = gb at *
        generalize YC.alloc (.cells wdZ.toArray 33) = YC at *
        refine hK.out _ _ ?_ (fun hHeld => ?_)
        · exact (by rw [HSE.out]; exact HY.out)
        clear hK K
        try simp only [Act.put, lsA, lsZ, lsS]
        apply wpAnyH_ready (rs := [5])
        · kernel_rfl
        · simp
        apply AllReadyH.cons (hs := AllReadyH.nil)
        · simp only [List.getElem?_toArray]; rfl
        intro K hK
        rw [if_pos (by rfl)]
        refine wp_call9 23 _ _ rfl [.agg A1.toArray, .slice a2 n2 cp2] rfl Tryz.func23 (by kernel_rfl) (by kernel_rfl) ((HA2.out _ HY.out).mono ?_)
        rintro e YC ⟨x2, rfl, haf, hk, hfo⟩
        refine ⟨_, rfl, ?_⟩
        try have HF2A := Lib.hid (show ∀ q ∈ wFoot R (.agg x2.toArray), q ≠ ga from fun q hq => by
          rcases hfo q hq with h | h
          · have h1 := H1.out.old q h; have h2 := HGA.out; omega
          · have := lt_of_block HBA.out; omega)
        try have HF2B := Lib.hid (show ∀ q ∈ wFoot R (.agg x2.toArray), q ≠ gb from fun q hq => by
          rcases hfo q hq with h | h
          · have h1 := H1.out.old q h; have h2 := HGB.out; omega
          · have := lt_of_block HBB.out; omega)
        try replace HBA := Lib.hid (hk.heap HBA.out (by simp))
        try replace HBB := Lib.hid (hk.heap HBB.out (by simp))
        try replace HX1 := Lib.hid (HX1.out.new hk)
        try replace HX2 := Lib.hid (HX2.out.new hk)
        replace HY := Lib.hid (HY.out.trans hk (FSub.refl _ _))
        have HX2 := Lib.hid haf
        clear haf hk hfo
        refine hK.out _ _ ?_ (fun hHeld => ?_)
        · exact (by rw [HSE.out]; exact HY.out)
        clear hK K
        try simp only [Act.put, lsA, lsZ, lsS]
        have HXO1 := woAt_ok HX1.out; have HXO2 := woAt_ok HX2.out
        apply wpAnyH_ready (rs := [8])
        · kernel_rfl
        · simp
        apply AllReadyH.cons (hs := AllReadyH.nil)
        · simp only [List.getElem?_toArray]; rfl
        intro K hK
        rw [if_pos (by rfl)]
        refine skW.wp_put rfl (g := ga) (old := wdZ) (A := x1) HXO1 wdZ_ok rfl rfl HBA.out (fun YC hV hk => ?_)
        replace HBA := Lib.hid hV
        replace HBB := Lib.hid (hk.heap HBB.out (by have := HAB.out; simp; first | exact this | exact fun e => this e.symm))
        replace HX1 := Lib.hid (HX1.out.put hk HF1A.out); replace HX2 := Lib.hid (HX2.out.put hk HF2A.out)
        replace HY := Lib.hid (HY.out.trans' hk HGA.out)
        clear hV hk
        refine hK.out _ _ ?_ (fun hHeld => ?_)
        · exact (by rw [HSE.out]; exact HY.out)
        clear hK K
        try simp only [Act.put, lsA, lsZ, lsS]
        apply wpAnyH_ready (rs := [9])
        · kernel_rfl
        · simp
        apply AllReadyH.cons (hs := AllReadyH.nil)
        · simp only [List.getElem?_toArray]; rfl
        intro K hK
        rw [if_pos (by rfl)]
        refine skW.wp_put rfl (g := gb) (old := wdZ) (A := x2) HXO2 wdZ_ok rfl rfl HBB.out (fun YC hV hk => ?_)
        replace HBB := Lib.hid hV
        replace HBA := Lib.hid (hk.heap HBA.out (by have := HAB.out; simp; first | exact this | exact fun e => this e.symm))
        replace HX1 := Lib.hid (HX1.out.put hk HF1B.out); replace HX2 := Lib.hid (HX2.out.put hk HF2B.out)
        replace HY := Lib.hid (HY.out.trans' hk HGB.out)
        clear hV hk
        refine hK.out _ _ ?_ (fun hHeld => ?_)
        · exact (by rw [HSE.out]; exact HY.out)
        clear hK K
        try simp only [Act.put, lsA, lsZ, lsS]
        refine wpAnyH_done (by kernel_rfl) ?_ _
        refine NoPanic.normal ?_
        exact ⟨rfl, ga, gb, undef, [_, _, _, _, _, _], rfl, x1, x2, HBA.out, HBB.out, HX1.out, HX2.out, HY.out⟩
      apply AllReadyH.cons (hs := AllReadyH.nil)
      · simp only [List.getElem?_toArray]; rfl
      intro K hK
      rw [if_pos (by rfl)]
      refine wp_allocW14 rfl ?_
      have hk : Keeps [] YC (YC.alloc (.cells wdZ.toArray 33)) := (Keeps.refl _ _).alloc _
      have hb := heap_alloc_new YC (.cells wdZ.toArray 33)
      try have HF1B := Lib.hid (show ∀ q ∈ wFoot R (.agg x1.toArray), q ≠ YC.heap.size from fun q hq => Nat.ne_of_lt (HX1.out.old q hq))
      try have HF2B := Lib.hid (show ∀ q ∈ wFoot R (.agg x2.toArray), q ≠ YC.heap.size from fun q hq => Nat.ne_of_lt (HX2.out.old q hq))
      try have HAB := Lib.hid (show ga ≠ YC.heap.size from Nat.ne_of_lt (lt_of_block HBA.out))
      have HGB := Lib.hid HY.out.size
      try replace HBA := Lib.hid (hk.heap HBA.out (by simp))
      try replace HBB := Lib.hid (hk.heap HBB.out (by simp))
      try replace HX1 := Lib.hid (HX1.out.new hk)
      try replace HX2 := Lib.hid (HX2.out.new hk)
      replace HY := Lib.hid (HY.out.trans hk (FSub.refl _ _))
      have HBB := Lib.hid hb
      clear hk hb
      generalize YC.heap.size = gb at *
      generalize YC.alloc (.cells wdZ.toArray 33) = YC at *
      refine hK.out _ _ ?_ (fun hHeld => ?_)
      · exact (by rw [HSE.out]; exact HY.out)
      clear hK K
      try simp only [Act.put, lsA, lsZ, lsS]
      apply wpAnyH_ready (rs := [2])
      · kernel_rfl
      · simp
      apply AllReadyH.cons (hs := AllReadyH.nil)
      · simp only [List.getElem?_toArray]; rfl
      intro K hK
      rw [if_pos (by rfl)]
      refine wp_call9 23 _ _ rfl [.agg A1.toArray, .slice a n cp] rfl Tryz.func23 (by kernel_rfl) (by kernel_rfl) ((HA1.out _ HY.out).mono ?_)
      rintro e YC ⟨x1, rfl, haf, hk, hfo⟩
      refine ⟨_, rfl, ?_⟩
      try have HF1A := Lib.hid (show ∀ q ∈ wFoot R (.agg x1.toArray), q ≠ ga from fun q hq => by
        rcases hfo q hq with h | h
        · have h1 := H1.out.old q h; have h2 := HGA.out; omega
        · have := lt_of_block HBA.out; omega)
      try have HF1B := Lib.hid (show ∀ q ∈ wFoot R (.agg x1.toArray), q ≠ gb from fun q hq => by
        rcases hfo q hq with h | h
        · have h1 := H1.out.old q h; have h2 := HGB.out; omega
        · have := lt_of_block HBB.out; omega)
      try replace HBA := Lib.hid (hk.heap HBA.out (by simp))
      try replace HBB := Lib.hid (hk.heap HBB.out (by simp))
      try replace HX1 := Lib.hid (HX1.out.new hk)
      try replace HX2 := Lib.hid (HX2.out.new hk)
      replace HY := Lib.hid (HY.out.trans hk (FSub.refl _ _))
      have HX1 := Lib.hid haf
      clear haf hk hfo
      refine hK.out _ _ ?_ (fun hHeld => ?_)
      · exact (by rw [HSE.out]; exact HY.out)
      clear hK K
      try simp only [Act.put, lsA, lsZ, lsS]
      apply wpAnyH_ready (rs := [5])
      · kernel_rfl
      · simp
      apply AllReadyH.cons (hs := AllReadyH.nil)
      · simp only [List.getElem?_toArray]; rfl
      intro K hK
      rw [if_pos (by rfl)]
      refine wp_call9 23 _ _ rfl [.agg A1.toArray, .slice a2 n2 cp2] rfl Tryz.func23 (by kernel_rfl) (by kernel_rfl) ((HA2.out _ HY.out).mono ?_)
      rintro e YC ⟨x2, rfl, haf, hk, hfo⟩
      refine ⟨_, rfl, ?_⟩
      try have HF2A := Lib.hid (show ∀ q ∈ wFoot R (.agg x2.toArray), q ≠ ga from fun q hq => by
        rcases hfo q hq with h | h
        · have h1 := H1.out.old q h; have h2 := HGA.out; omega
        · have := lt_of_block HBA.out; omega)
      try have HF2B := Lib.hid (show ∀ q ∈ wFoot R (.agg x2.toArray), q ≠ gb from fun q hq => by
        rcases hfo q hq with h | h
        · have h1 := H1.out.old q h; have h2 := HGB.out; omega
        · have := lt_of_block HBB.out; omega)
      try replace HBA := Lib.hid (hk.heap HBA.out (by simp))
      try replace HBB := Lib.hid (hk.heap HBB.out (by simp))
      try replace HX1 := Lib.hid (HX1.out.new hk)
      try replace HX2 := Lib.hid (HX2.out.new hk)
      replace HY := Lib.hid (HY.out.trans hk (FSub.refl _ _))
      have HX2 := Lib.hid haf
      clear haf hk hfo
      refine hK.out _ _ ?_ (fun hHeld => ?_)
      · exact (by rw [HSE.out]; exact HY.out)
      clear hK K
      try simp only [Act.put, lsA, lsZ, lsS]
      have HXO1 := woAt_ok HX1.out; have HXO2 := woAt_ok HX2.out
      apply wpAnyH_ready (rs := [8])
      · kernel_rfl
      · simp
      apply AllReadyH.cons (hs := AllReadyH.nil)
      · simp only [List.getElem?_toArray]; rfl
      intro K hK
      rw [if_pos (by rfl)]
      refine skW.wp_put rfl (g := ga) (old := wdZ) (A := x1) HXO1 wdZ_ok rfl rfl HBA.out (fun YC hV hk => ?_)
      replace HBA := Lib.hid hV
      replace HBB := Lib.hid (hk.heap HBB.out (by have := HAB.out; simp; first | exact this | exact fun e => this e.symm))
      replace HX1 := Lib.hid (HX1.out.put hk HF1A.out); replace HX2 := Lib.hid (HX2.out.put hk HF2A.out)
      replace HY := Lib.hid (HY.out.trans' hk HGA.out)
      clear hV hk
      refine hK.out _ _ ?_ (fun hHeld => ?_)
      · exact (by rw [HSE.out]; exact HY.out)
      clear hK K
      try simp only [Act.put, lsA, lsZ, lsS]
      apply wpAnyH_ready (rs := [9])
      · kernel_rfl
      · simp
      apply AllReadyH.cons (hs := AllReadyH.nil)
      · simp only [List.getElem?_toArray]; rfl
      intro K hK
      rw [if_pos (by rfl)]
      refine skW.wp_put rfl (g := gb) (old := wdZ) (A := x2) HXO2 wdZ_ok rfl rfl HBB.out (fun YC hV hk => ?_)
      replace HBB := Lib.hid hV
      replace HBA := Lib.hid (hk.heap HBA.out (by have := HAB.out; simp; first | exact this | exact fun e => this e.symm))
      replace HX1 := Lib.hid (HX1.out.put hk HF1B.out); replace HX2 := Lib.hid (HX2.out.put hk HF2B.out)
      replace HY := Lib.hid (HY.out.trans' hk HGB.out)
      clear hV hk
      refine hK.out _ _ ?_ (fun hHeld => ?_)
      · exact (by rw [HSE.out]; exact HY.out)
      clear hK K
      try simp only [Act.put, lsA, lsZ, lsS]
      refine wpAnyH_done (by kernel_rfl) ?_ _
      refine NoPanic.normal ?_
      exact ⟨rfl, ga, gb, undef, [_, _, _, _, _, _], rfl, x1, x2, HBA.out, HBB.out, HX1.out, HX2.out, HY.out⟩
    apply AllReadyH.cons (hs := AllReadyH.nil)
    · simp only [List.getElem?_toArray]; rfl
    intro K hK
    rw [if_pos (by rfl)]
    refine wp_allocW14 rfl ?_
    have hk : Keeps [] YC (YC.alloc (.cells wdZ.toArray 33)) := (Keeps.refl _ _).alloc _
    have hb := heap_alloc_new YC (.cells wdZ.toArray 33)
    try have HF1B := Lib.hid (show ∀ q ∈ wFoot R (.agg x1.toArray), q ≠ YC.heap.size from fun q hq => Nat.ne_of_lt (HX1.out.old q hq))
    try have HF2B := Lib.hid (show ∀ q ∈ wFoot R (.agg x2.toArray), q ≠ YC.heap.size from fun q hq => Nat.ne_of_lt (HX2.out.old q hq))
    try have HAB := Lib.hid (show ga ≠ YC.heap.size from Nat.ne_of_lt (lt_of_block HBA.out))
    have HGB := Lib.hid HY.out.size
    try replace HBA := Lib.hid (hk.heap HBA.out (by simp))
    try replace HBB := Lib.hid (hk.heap HBB.out (by simp))
    try replace HX1 := Lib.hid (HX1.out.new hk)
    try replace HX2 := Lib.hid (HX2.out.new hk)
    replace HY := Lib.hid (HY.out.trans hk (FSub.refl _ _))
    have HBB := Lib.hid hb
    clear hk hb
    generalize YC.heap.size = gb at *
    generalize YC.alloc (.cells wdZ.toArray 33) = YC at *
    refine hK.out _ _ ?_ (fun hHeld => ?_)
    · exact (by rw [HSE.out]; exact HY.out)
    clear hK K
    try simp only [Act.put, lsA, lsZ, lsS]
    apply wpAnyH_ready (rs := [2, 6])
    · kernel_rfl
    · simp
    apply AllReadyH.cons
    · simp only [List.getElem?_toArray]; rfl
    · intro K hK
      rw [if_pos (by rfl)]
      refine wp_call9 23 _ _ rfl [.agg A1.toArray, .slice a n cp] rfl Tryz.func23 (by kernel_rfl) (by kernel_rfl) ((HA1.out _ HY.out).mono ?_)
      rintro e YC ⟨x1, rfl, haf, hk, hfo⟩
      refine ⟨_, rfl, ?_⟩
      try have HF1A := Lib.hid (show ∀ q ∈ wFoot R (.agg x1.toArray), q ≠ ga from fun q hq => by
        rcases hfo q hq with h | h
        · have h1 := H1.out.old q h; have h2 := HGA.out; omega
        · have := lt_of_block HBA.out; omega)
      try have HF1B := Lib.hid (show ∀ q ∈ wFoot R (.agg x1.toArray), q ≠ gb from fun q hq => by
        rcases hfo q hq with h | h
        · have h1 := H1.out.old q h; have h2 := HGB.out; omega
        · have := lt_of_block HBB.out; omega)
      try replace HBA := Lib.hid (hk.heap HBA.out (by simp))
      try replace HBB := Lib.hid (hk.heap HBB.out (by simp))
      try replace HX1 := Lib.hid (HX1.out.new hk)
      try replace HX2 := Lib.hid (HX2.out.new hk)
      replace HY := Lib.hid (HY.out.trans hk (FSub.refl _ _))
      have HX1 := Lib.hid haf
      clear haf hk hfo
      refine hK.out _ _ ?_ (fun hHeld => ?_)
      · exact (by rw [HSE.out]; exact HY.out)
      clear hK K
      try simp only [Act.put, lsA, lsZ, lsS]
      apply wpAnyH_ready (rs := [5, 6])
      · kernel_rfl
      · simp
      apply AllReadyH.cons
      · simp only [List.getElem?_toArray]; rfl
      · intro K hK
        rw [if_pos (by rfl)]
        refine wp_call9 23 _ _ rfl [.agg A1.toArray, .slice a2 n2 cp2] rfl Tryz.func23 (by kernel_rfl) (by kernel_rfl) ((HA2.out _ HY.out).mono ?_)
        rintro e YC ⟨x2, rfl, haf, hk, hfo⟩
        refine ⟨_, rfl, ?_⟩
        try have HF2A := Lib.hid (show ∀ q ∈ wFoot R (.agg x2.toArray), q ≠ ga from fun q hq => by
          rcases hfo q hq with h | h
          · have h1 := H1.out.old q h; have h2 := HGA.out; omega
          · have := lt_of_block HBA.out; omega)
        try have HF2B := Lib.hid (show ∀ q ∈ wFoot R (.agg x2.toArray), q ≠ gb from fun q hq => by
          rcases hfo q hq with h | h
          · have h1 := H1.out.old q h; have h2 := HGB.out; omega
          · have := lt_of_block HBB.out; omega)
        try replace HBA := Lib.hid (hk.heap HBA.out (by simp))
        try replace HBB := Lib.hid (hk.heap HBB.out (by simp))
        try replace HX1 := Lib.hid (HX1.out.new hk)
        try replace HX2 := Lib.hid (HX2.out.new hk)
        replace HY := Lib.hid (HY.out.trans hk (FSub.refl _ _))
        have HX2 := Lib.hid haf
        clear haf hk hfo
        refine hK.out _ _ ?_ (fun hHeld => ?_)
        · exact (by rw [HSE.out]; exact HY.out)
        clear hK K
        try simp only [Act.put, lsA, lsZ, lsS]
        apply wpAnyH_ready (rs := [6])
        · kernel_rfl
        · simp
        apply AllReadyH.cons (hs := AllReadyH.nil)
        · simp only [List.getElem?_toArray]; rfl
        intro K hK
        rw [if_pos (by rfl)]
        refine wp_allocW14 rfl ?_
        have hk : Keeps [] YC (YC.alloc (.cells wdZ.toArray 33)) := (Keeps.refl _ _).alloc _
        have hb := heap_alloc_new YC (.cells wdZ.toArray 33)
        try have HF1A := Lib.hid (show ∀ q ∈ wFoot R (.agg x1.toArray), q ≠ YC.heap.size from fun q hq => Nat.ne_of_lt (HX1.out.old q hq))
        try have HF2A := Lib.hid (show ∀ q ∈ wFoot R (.agg x2.toArray), q ≠ YC.heap.size from fun q hq => Nat.ne_of_lt (HX2.out.old q hq))
        try have HAB := Lib.hid (show YC.heap.size ≠ gb from Nat.ne_of_gt (lt_of_block HBB.out))
        have HGA := Lib.hid HY.out.size
        try replace HBA := Lib.hid (hk.heap HBA.out (by simp))
        try replace HBB := Lib.hid (hk.heap HBB.out (by simp))
        try replace HX1 := Lib.hid (HX1.out.new hk)
        try replace HX2 := Lib.hid (HX2.out.new hk)
        replace HY := Lib.hid (HY.out.trans hk (FSub.refl _ _))
        have HBA := Lib.hid hb
        clear hk hb
        generalize YC.heap.size = ga at *
        generalize YC.alloc (.cells wdZ.toArray 33) = YC at *
        refine hK.out _ _ ?_ (fun hHeld => ?_)
        · exact (by rw [HSE.out]; exact HY.out)
        clear hK K
        try simp only [Act.put, lsA, lsZ, lsS]
        have HXO1 := woAt_ok HX1.out; have HXO2 := woAt_ok HX2.out
        apply wpAnyH_ready (rs := [8])
        · kernel_rfl
        · simp
        apply AllReadyH.cons (hs := AllReadyH.nil)
        · simp only [List.getElem?_toArray]; rfl
        intro K hK
        rw [if_pos (by rfl)]
        refine skW.wp_put rfl (g := ga) (old := wdZ) (A := x1) HXO1 wdZ_ok rfl rfl HBA.out (fun YC hV hk => ?_)
        replace HBA := Lib.hid hV
        replace HBB := Lib.hid (hk.heap HBB.out (by have := HAB.out; simp; first | exact this | exact fun e => this e.symm))
        replace HX1 := Lib.hid (HX1.out.put hk HF1A.out); replace HX2 := Lib.hid (HX2.out.put hk HF2A.out)
        replace HY := Lib.hid (HY.out.trans' hk HGA.out)
        clear hV hk
        refine hK.out _ _ ?_ (fun hHeld => ?_)
        · exact (by rw [HSE.out]; exact HY.out)
        clear hK K
        try simp only [Act.put, lsA, lsZ, lsS]
        apply wpAnyH_ready (rs := [9])
        · kernel_rfl
        · simp
        apply AllReadyH.cons (hs := AllReadyH.nil)
        · simp only [List.getElem?_toArray]; rfl
        intro K hK
        rw [if_pos (by rfl)]
        refine skW.wp_put rfl (g := gb) (old := wdZ) (A := x2) HXO2 wdZ_ok rfl rfl HBB.out (fun YC hV hk => ?_)
        replace HBB := Lib.hid hV
        replace HBA := Lib.hid (hk.heap HBA.out (by have := HAB.out; simp; first | exact this | exact fun e => this e.symm))
        replace HX1 := Lib.hid (HX1.out.put hk HF1B.out); replace HX2 := Lib.hid (HX2.out.put hk HF2B.out)
        replace HY := Lib.hid (HY.out.trans' hk HGB.out)
        clear hV hk
        refine hK.out _ _ ?_ (fun hHeld => ?_)
        · exact (by rw [HSE.out]; exact HY.out)
        clear hK K
        try simp only [Act.put, lsA, lsZ, lsS]
        refine wpAnyH_done (by kernel_rfl) ?_ _
        refine NoPanic.normal ?_
        exact ⟨rfl, ga, gb, undef, [_, _, _, _, _, _], rfl, x1, x2, HBA.out, HBB.out, HX1.out, HX2.out, HY.out⟩
      apply AllReadyH.cons (hs := AllReadyH.nil)
      · simp only [List.getElem?_toArray]; rfl
      intro K hK
      rw [if_pos (by rfl)]
      refine wp_allocW14 rfl ?_
      have hk : Keeps [] YC (YC.alloc (.cells wdZ.toArray 33)) := (Keeps.refl _ _).alloc _
      have hb := heap_alloc_new YC (.cells wdZ.toArray 33)
      try have HF1A := Lib.hid (show ∀ q ∈ wFoot R (.agg x1.toArray), q ≠ YC.heap.size from fun q hq => Nat.ne_of_lt (HX1.out.old q hq))
      try have HF2A := Lib.hid (show ∀ q ∈ wFoot R (.agg x2.toArray), q ≠ YC.heap.size from fun q hq => Nat.ne_of_lt (HX2.out.old q hq))
      try have HAB := Lib.hid (show YC.heap.size ≠ gb from Nat.ne_of_gt (lt_of_block HBB.out))
      have HGA := Lib.hid HY.out.size
      try replace HBA := Lib.hid (hk.heap HBA.out (by simp))
      try replace HBB := Lib.hid (hk.heap HBB.out (by simp))
      try replace HX1 := Lib.hid (HX1.out.new hk)
      try replace HX2 := Lib.hid (HX2.out.new hk)
      replace HY := Lib.hid (HY.out.trans hk (FSub.refl _ _))
      have HBA := Lib.hid hb
      clear hk hb
      generalize YC.heap.size = ga at *
      generalize YC.alloc (.cells wdZ.toArray 33) = YC at *
      refine hK.out _ _ ?_ (fun hHeld => ?_)
      · exact (by rw [HSE.out]; exact HY.out)
      clear hK K
      try simp only [Act.put, lsA, lsZ, lsS]
      apply wpAnyH_ready (rs := [5])
      · kernel_rfl
      · simp
      apply AllReadyH.cons (hs := AllReadyH.nil)
      · simp only [List.getElem?_toArray]; rfl
      intro K hK
      rw [if_pos (by rfl)]
      refine wp_call9 23 _ _ rfl [.agg A1.toArray, .slice a2 n2 cp2] rfl Tryz.func23 (by kernel_rfl) (by kernel_rfl) ((HA2.out _ HY.out).mono ?_)
      rintro e YC ⟨x2, rfl, haf, hk, hfo⟩
      refine ⟨_, rfl, ?_⟩
      try have HF2A := Lib.hid (show ∀ q ∈ wFoot R (.agg x2.toArray), q ≠ ga from fun q hq => by
        rcases hfo q hq with h | h
        · have h1 := H1.out.old q h; have h2 := HGA.out; omega
        · have := lt_of_block HBA.out; omega)
      try have HF2B := Lib.hid (show ∀ q ∈ wFoot R (.agg x2.toArray), q ≠ gb from fun q hq => by
        rcases hfo q hq with h | h
        · have h1 := H1.out.old q h; have h2 := HGB.out; omega
        · have := lt_of_block HBB.out; omega)
      try replace HBA := Lib.hid (hk.heap HBA.out (by simp))
      try replace HBB := Lib.hid (hk.heap HBB.out (by simp))
      try replace HX1 := Lib.hid (HX1.out.new hk)
      try replace HX2 := Lib.hid (HX2.out.new hk)
      replace HY := Lib.hid (HY.out.trans hk (FSub.refl _ _))
      have HX2 := Lib.hid haf
      clear haf hk hfo
      refine hK.out _ _ ?_ (fun hHeld => ?_)
      · exact (by rw [HSE.out]; exact HY.out)
      clear hK K
      try simp only [Act.put, lsA, lsZ, lsS]
      have HXO1 := woAt_ok HX1.out; have HXO2 := woAt_ok HX2.out
      apply wpAnyH_ready (rs := [8])
      · kernel_rfl
      · simp
      apply AllReadyH.cons (hs := AllReadyH.nil)
      · simp only [List.getElem?_toArray]; rfl
      intro K hK
      rw [if_pos (by rfl)]
      refine skW.wp_put rfl (g := ga) (old := wdZ) (A := x1) HXO1 wdZ_ok rfl rfl HBA.out (fun YC hV hk => ?_)
      replace HBA := Lib.hid hV
      replace HBB := Lib.hid (hk.heap HBB.out (by have := HAB.out; simp; first | exact this | exact fun e => this e.symm))
      replace HX1 := Lib.hid (HX1.out.put hk HF1A.out); replace HX2 := Lib.hid (HX2.out.put hk HF2A.out)
      replace HY := Lib.hid (HY.out.trans' hk HGA.out)
      clear hV hk
      refine hK.out _ _ ?_ (fun hHeld => ?_)
      · exact (by rw [HSE.out]; exact HY.out)
      clear hK K
      try simp only [Act.put, lsA, lsZ, lsS]
      apply wpAnyH_ready (rs := [9])
      · kernel_rfl
      · simp
      apply AllReadyH.cons (hs := AllReadyH.nil)
      · simp only [List.getElem?_toArray]; rfl
      intro K hK
      rw [if_pos (by rfl)]
      refine skW.wp_put rfl (g := gb) (old := wdZ) (A := x2) HXO2 wdZ_ok rfl rfl HBB.out (fun YC hV hk => ?_)
      replace HBB := Lib.hid hV
      replace HBA := Lib.hid (hk.heap HBA.out (by have := HAB.out; simp; first | exact this | exact fun e => this e.symm))
      replace HX1 := Lib.hid (HX1.out.put hk HF1B.out); replace HX2 := Lib.hid (HX2.out.put hk HF2B.out)
      replace HY := Lib.hid (HY.out.trans' hk HGB.out)
      clear hV hk
      refine hK.out _ _ ?_ (fun hHeld => ?_)
      · exact (by rw [HSE.out]; exact HY.out)
      clear hK K
      try simp only [Act.put, lsA, lsZ, lsS]
      refine wpAnyH_done (by kernel_rfl) ?_ _
      refine NoPanic.normal ?_
      exact ⟨rfl, ga, gb, undef, [_, _, _, _, _, _], rfl, x1, x2, HBA.out, HBB.out, HX1.out, HX2.out, HY.out⟩
    apply AllReadyH.cons (hs := AllReadyH.nil)
    · simp only [List.getElem?_toArray]; rfl
    intro K hK
    rw [if_pos (by rfl)]
    refine wp_allocW14 rfl ?_
    have hk : Keeps [] YC (YC.alloc (.cells wdZ.toArray 33)) := (Keeps.refl _ _).alloc _
    have hb := heap_alloc_new YC (.cells wdZ.toArray 33)
    try have HF1A := Lib.hid (show ∀ q ∈ wFoot R (.agg x1.toArray), q ≠ YC.heap.size from fun q hq => Nat.ne_of_lt (HX1.out.old q hq))
    try have HF2A := Lib.hid (show ∀ q ∈ wFoot R (.agg x2.toArray), q ≠ YC.heap.size from fun q hq => Nat.ne_of_lt (HX2.out.old q hq))
    try have HAB := Lib.hid (show YC.heap.size ≠ gb from Nat.ne_of_gt (lt_of_block HBB.out))
    have HGA := Lib.hid HY.out.size
    try replace HBA := Lib.hid (hk.heap HBA.out (by simp))
    try replace HBB := Lib.hid (hk.heap HBB.out (by simp))
    try replace HX1 := Lib.hid (HX1.out.new hk)
    try replace HX2 := Lib.hid (HX2.out.new hk)
    replace HY := Lib.hid (HY.out.trans hk (FSub.refl _ _))
    have HBA := Lib.hid hb
    clear hk hb
    generalize YC.heap.size = ga at *
    generalize YC.alloc (.cells wdZ.toArray 33) = YC at *
    refine hK.out _ _ ?_ (fun hHeld => ?_)
    · exact (by rw [HSE.out]; exact HY.out)
    clear hK K
    try simp only [Act.put, lsA, lsZ, lsS]
    apply wpAnyH_ready (rs := [2])
    · kernel_rfl
    · simp
    apply AllReadyH.cons (hs := AllReadyH.nil)
    · simp only [List.getElem?_toArray]; rfl
    intro K hK
    rw [if_pos (by rfl)]
    refine wp_call9 23 _ _ rfl [.agg A1.toArray, .slice a n cp] rfl Tryz.func23 (by kernel_rfl) (by kernel_rfl) ((HA1.out _ HY.out).mono ?_)
    rintro e YC ⟨x1, rfl, haf, hk, hfo⟩
    refine ⟨_, rfl, ?_⟩
    try have HF1A := Lib.hid (show ∀ q ∈ wFoot R (.agg x1.toArray), q ≠ ga from fun q hq => by
      rcases hfo q hq with h | h
      · have h1 := H1.out.old q h; have h2 := HGA.out; omega
      · have := lt_of_block HBA.out; omega)
    try have HF1B := Lib.hid (show ∀ q ∈ wFoot R (.agg x1.toArray), q ≠ gb from fun q hq => by
      rcases hfo q hq with h | h
      · have h1 := H1.out.old q h; have h2 := HGB.out; omega
      · have := lt_of_block HBB.out; omega)
    try replace HBA := Lib.hid (hk.heap HBA.out (by simp))
    try replace HBB := Lib.hid (hk.heap HBB.out (by simp))
    try replace HX1 := Lib.hid (HX1.out.new hk)
    try replace HX2 := Lib.hid (HX2.out.new hk)
    replace HY := Lib.hid (HY.out.trans hk (FSub.refl _ _))
    have HX1 := Lib.hid haf
    clear haf hk hfo
    refine hK.out _ _ ?_ (fun hHeld => ?_)
    · exact (by rw [HSE.out]; exact HY.out)
    clear hK K
    try simp only [Act.put, lsA, lsZ, lsS]
    apply wpAnyH_ready (rs := [5])
    · kernel_rfl
    · simp
    apply AllReadyH.cons (hs := AllReadyH.nil)
    · simp only [List.getElem?_toArray]; rfl
    intro K hK
    rw [if_pos (by rfl)]
    refine wp_call9 23 _ _ rfl [.agg A1.toArray, .slice a2 n2 cp2] rfl Tryz.func23 (by kernel_rfl) (by kernel_rfl) ((HA2.out _ HY.out).mono ?_)
    rintro e YC ⟨x2, rfl, haf, hk, hfo⟩
    refine ⟨_, rfl, ?_⟩
    try have HF2A := Lib.hid (show ∀ q ∈ wFoot R (.agg x2.toArray), q ≠ ga from fun q hq => by
      rcases hfo q hq with h | h
      · have h1 := H1.out.old q h; have h2 := HGA.out; omega
      · have := lt_of_block HBA.out; omega)
    try have HF2B := Lib.hid (show ∀ q ∈ wFoot R (.agg x2.toArray), q ≠ gb from fun q hq => by
      rcases hfo q hq with h | h
      · have h1 := H1.out.old q h; have h2 := HGB.out; omega
      · have := lt_of_block HBB.out; omega)
    try replace HBA := Lib.hid (hk.heap HBA.out (by simp))
    try replace HBB := Lib.hid (hk.heap HBB.out (by simp))
    try replace HX1 := Lib.hid (HX1.out.new hk)
    try replace HX2 := Lib.hid (HX2.out.new hk)
    replace HY := Lib.hid (HY.out.trans hk (FSub.refl _ _))
    have HX2 := Lib.hid haf
    clear haf hk hfo
    refine hK.out _ _ ?_ (fun hHeld => ?_)
    · exact (by rw [HSE.out]; exact HY.out)
    clear hK K
    try simp only [Act.put, lsA, lsZ, lsS]
    have HXO1 := woAt_ok HX1.out; have HXO2 := woAt_ok HX2.out
    apply wpAnyH_ready (rs := [8])
    · kernel_rfl
    · simp
    apply AllReadyH.cons (hs := AllReadyH.nil)
    · simp only [List.getElem?_toArray]; rfl
    intro K hK
    rw [if_pos (by rfl)]
    refine skW.wp_put rfl (g := ga) (old := wdZ) (A := x1) HXO1 wdZ_ok rfl rfl HBA.out (fun YC hV hk => ?_)
    replace HBA := Lib.hid hV
    replace HBB := Lib.hid (hk.heap HBB.out (by have := HAB.out; simp; first | exact this | exact fun e => this e.symm))
    replace HX1 := Lib.hid (HX1.out.put hk HF1A.out); replace HX2 := Lib.hid (HX2.out.put hk HF2A.out)
    replace HY := Lib.hid (HY.out.trans' hk HGA.out)
    clear hV hk
    refine hK.out _ _ ?_ (fun hHeld => ?_)
    · exact (by rw [HSE.out]; exact HY.out)
    clear hK K
    try simp only [Act.put, lsA, lsZ, lsS]
    apply wpAnyH_ready (rs := [9])
    · kernel_rfl
    · simp
    apply AllReadyH.cons (hs := AllReadyH.nil)
    · simp only [List.getElem?_toArray]; rfl
    intro K hK
    rw [if_pos (by rfl)]
    refine skW.wp_put rfl (g := gb) (old := wdZ) (A := x2) HXO2 wdZ_ok rfl rfl HBB.out (fun YC hV hk => ?_)
    replace HBB := Lib.hid hV
    replace HBA := Lib.hid (hk.heap HBA.out (by have := HAB.out; simp; first | exact this | exact fun e => this e.symm))
    replace HX1 := Lib.hid (HX1.out.put hk HF1B.out); replace HX2 := Lib.hid (HX2.out.put hk HF2B.out)
    replace HY := Lib.hid (HY.out.trans' hk HGB.out)
    clear hV hk
    refine hK.out _ _ ?_ (fun hHeld => ?_)
    · exact (by rw [HSE.out]; exact HY.out)
    clear hK K
    try simp only [Act.put, lsA, lsZ, lsS]
    refine wpAnyH_done (by kernel_rfl) ?_ _
    refine NoPanic.normal ?_
    exact ⟨rfl, ga, gb, undef, [_, _, _, _, _, _], rfl, x1, x2, HBA.out, HBB.out, HX1.out, HX2.out, HY.out⟩
  rintro p2 p3 zv us w3 ⟨x1, x2, hb1, hb2, hx1, hx2, hk⟩
  simp only [Act.put, lsA, lsZ, lsS]
  replace HK := Lib.hid (HK.out.trans hk (FSub.refl _ _))
  try replace H1 := Lib.hid (H1.out.new hk)
  try replace HX := Lib.hid (HX.out.new hk)
  try replace HV := Lib.hid (HV.out.new hk)
  try replace H3 := Lib.hid (H3.out.new hk)
  try replace HB1 := Lib.hid (hk.heap HB1.out (by simp))
  try replace HBX := Lib.hid (hk.heap HBX.out (by simp))
  try replace HBV := Lib.hid (hk.heap HBV.out (by simp))
  try replace HB3 := Lib.hid (hk.heap HB3.out (by simp))
  have HX := Lib.hid hx1; have HV := Lib.hid hx2; have HBX := Lib.hid hb1; have HBV := Lib.hid hb2
  have HOX := Lib.hid (woAt_ok hx1); have HOV := Lib.hid (woAt_ok hx2)
  clear hx1 hx2 hb1 hb2 hk HA1 HA2
  go_wp2_with ((with_reducible refine wpList_loadW (g := p2) HOX.out ?_ ?_ (block_range HBX.out) ?_); exact rfl; exact rfl)
  refine (V.enc _ _ (some X) (HG.out _ HK.out) HX.out (fun V' e => by obtain rfl := Option.some.inj e; exact fun S hS => Nat.le_trans (HXI.out.2.2 S hS) (by decide))).mono ?_; rintro e w4 ⟨rfl, hk⟩
  replace HK := Lib.hid (HK.out.trans hk (FSub.refl _ _))
  try replace H1 := Lib.hid (H1.out.new hk)
  try replace HX := Lib.hid (HX.out.new hk)
  try replace HV := Lib.hid (HV.out.new hk)
  try replace H3 := Lib.hid (H3.out.new hk)
  try replace HB1 := Lib.hid (hk.heap HB1.out (by simp))
  try replace HBX := Lib.hid (hk.heap HBX.out (by simp))
  try replace HBV := Lib.hid (hk.heap HBV.out (by simp))
  try replace HB3 := Lib.hid (hk.heap HB3.out (by simp))
  clear hk
  go_wp2_with fail
  refine (V.dec _ m (oWB (some X)) (HG.out _ HK.out) HM.out (by have := wdB_len HXI.out.1 HXI.out.2.2; show (wdB X).length ≤ _; omega) (wShort_wd HXI.out.1 (fun S hS => Nat.le_trans (HXI.out.2.2 S hS) (by decide)) _)).mono ?_; rintro e w5 ⟨st, rfl, hat, hk, -⟩
  rw [show wdDec m (oWB (some X)) = (some X, 0) from by
    have h := wdDec_back HXI.out.1 (fun S hS => Nat.le_trans (HXI.out.2.2 S hS) (by decide))
    rw [HXI.out.2.1] at h; exact h] at hat ⊢
  replace HK := Lib.hid (HK.out.trans hk (FSub.refl _ _))
  try replace H1 := Lib.hid (H1.out.new hk)
  try replace HX := Lib.hid (HX.out.new hk)
  try replace HV := Lib.hid (HV.out.new hk)
  try replace H3 := Lib.hid (H3.out.new hk)
  try replace HB1 := Lib.hid (hk.heap HB1.out (by simp))
  try replace HBX := Lib.hid (hk.heap HBX.out (by simp))
  try replace HBV := Lib.hid (hk.heap HBV.out (by simp))
  try replace HB3 := Lib.hid (hk.heap HB3.out (by simp))
  obtain ⟨A3, rfl, hok⟩ := hat.cells
  have HO3 := Lib.hid hok
  have H3 := Lib.hid hat
  clear hat hok hk
  have HNC := Lib.hid (show (w5.alloc (.cells wdZA 33)).heap[w5.heap.size]? = some (.cells wdZ.toArray 33 (0, 0)) from heap_alloc_new w5 _)
  have HNK := Lib.hid (show Keeps [] w5 (w5.alloc (.cells wdZA 33)) from (Keeps.refl _ _).alloc _)
  go_wp2_with ((with_reducible refine wpList_putW (g := w5.heap.size) (old := wdZ) (A := A3) HO3.out wdZ_ok ?_ ?_ HNC.out ?_); exact rfl; exact rfl)
  intro w6 hW hk2
  have hk := HNK.out.trans' hk2 (Nat.le_refl _)
  replace HK := Lib.hid (HK.out.trans hk (FSub.refl _ _))
  try replace H1 := Lib.hid (H1.out.new hk)
  try replace HX := Lib.hid (HX.out.new hk)
  try replace HV := Lib.hid (HV.out.new hk)
  try replace H3 := Lib.hid (H3.out.new hk)
  try replace HB1 := Lib.hid (hk.heap HB1.out (by simp))
  try replace HBX := Lib.hid (hk.heap HBX.out (by simp))
  try replace HBV := Lib.hid (hk.heap HBV.out (by simp))
  try replace HB3 := Lib.hid (hk.heap HB3.out (by simp))
  have HB3 := Lib.hid hW
  clear hk hW hk2 HNC HNK
  generalize w5.heap.size = p4 at *
  go_wp2_with (first
    | ((with_reducible refine wpList_loadW (g := p2) HOX.out ?_ ?_ (block_range HBX.out) ?_); exact rfl; exact rfl)
    | ((with_reducible refine wpList_loadW (g := p3) HOV.out ?_ ?_ (block_range HBV.out) ?_); exact rfl; exact rfl))
  refine (V.same _ _ (some X) _ (some Y) (HG.out _ HK.out) HX.out HV.out (fun V' e => by obtain rfl := Option.some.inj e; exact fun S hS => Nat.le_trans (HXI.out.2.2 S hS) (by decide)) (fun V' e => by obtain rfl := Option.some.inj e; exact fun S hS => Nat.le_trans (HYI.out.2.2 S hS) (by decide))).mono ?_; rintro e w7 ⟨rfl, hk⟩
  replace HK := Lib.hid (HK.out.trans hk (FSub.refl _ _))
  try replace H1 := Lib.hid (H1.out.new hk)
  try replace HX := Lib.hid (HX.out.new hk)
  try replace HV := Lib.hid (HV.out.new hk)
  try replace H3 := Lib.hid (H3.out.new hk)
  try replace HB1 := Lib.hid (hk.heap HB1.out (by simp))
  try replace HBX := Lib.hid (hk.heap HBX.out (by simp))
  try replace HBV := Lib.hid (hk.heap HBV.out (by simp))
  try replace HB3 := Lib.hid (hk.heap HB3.out (by simp))
  clear hk
  go_wp2_with fail
  have HUX := Lib.hid (show wUp (some X) 1000 from fun V' e => by obtain rfl := Option.some.inj e; exact fun S hS => Nat.le_trans (HXI.out.2.2 S hS) (by decide))
  have HUY := Lib.hid (show wUp (some Y) 1000 from fun V' e => by obtain rfl := Option.some.inj e; exact fun S hS => Nat.le_trans (HYI.out.2.2 S hS) (by decide))
  obtain ⟨bb, hbb⟩ : ∃ bb, bb = oWSame (some X) (some Y) := ⟨_, rfl⟩
  rw [← hbb]
  have hXY : bb = true ↔ X = Y := by rw [hbb]; exact oWSame_eq HXI.out.1 HYI.out.1
  have teB : ((bs (wdB X)).toList == (bs (wdB Y)).toList) = bb := by
    rw [eq_bs]
    have h := wdB_inj HXI.out.1 HYI.out.1 (HXI.out.2.1.trans HYI.out.2.1.symm) (fun S hS => Nat.le_trans (HXI.out.2.2 S hS) (by decide)) (fun S hS => Nat.le_trans (HYI.out.2.2 S hS) (by decide))
    by_cases e : X = Y
    · rw [decide_eq_true (h.2 e), hXY.2 e]
    · rw [decide_eq_false (fun q => e (h.1 q))]; exact (Bool.eq_false_iff.2 (fun q => e (hXY.1 q))).symm
  have teT : ((bs (wdT X)).toList == (bs (wdT Y)).toList) = bb := by
    rw [eq_bs]
    have h := wdT_inj HXI.out.1 HYI.out.1 (HXI.out.2.1.trans HYI.out.2.1.symm)
    by_cases e : X = Y
    · rw [decide_eq_true (h.2 e), hXY.2 e]
    · rw [decide_eq_false (fun q => e (h.1 q))]; exact (Bool.eq_false_iff.2 (fun q => e (hXY.1 q))).symm
  have tb : (bb == bb) = true := by simp
  have tB : ((bs (wdB X)).toList == (bs (wdB X)).toList) = true := by simp
  have tT : ((bs (wdT X)).toList == (bs (wdT X)).toList) = true := by simp
  have HPS := Lib.hid (fun w' (h : Keeps [] w7 w') => V.same w' _ (some X) _ (some X) (HG.out _ (HK.out.trans h (FSub.refl _ _))) (H3.out.new h) (HX.out.new h) HUX.out HUX.out)
  rw [oWSame_refl HXI.out.1] at HPS
  have HEZ := Lib.hid (fun w' (h : Keeps [] w7 w') => V.enc w' _ (some X) (HG.out _ (HK.out.trans h (FSub.refl _ _))) (H3.out.new h) HUX.out)
  have HEX := Lib.hid (fun w' (h : Keeps [] w7 w') => V.enc w' _ (some X) (HG.out _ (HK.out.trans h (FSub.refl _ _))) (HX.out.new h) HUX.out)
  have HEY := Lib.hid (fun w' (h : Keeps [] w7 w') => V.enc w' _ (some Y) (HG.out _ (HK.out.trans h (FSub.refl _ _))) (HV.out.new h) HUY.out)
  have HTZ := Lib.hid (fun w' (h : Keeps [] w7 w') => V.text w' _ (some X) (HG.out _ (HK.out.trans h (FSub.refl _ _))) (H3.out.new h) HUX.out)
  have HTX := Lib.hid (fun w' (h : Keeps [] w7 w') => V.text w' _ (some X) (HG.out _ (HK.out.trans h (FSub.refl _ _))) (HX.out.new h) HUX.out)
  have HTY := Lib.hid (fun w' (h : Keeps [] w7 w') => V.text w' _ (some Y) (HG.out _ (HK.out.trans h (FSub.refl _ _))) (HV.out.new h) HUY.out)
  have HE0 := Lib.hid (fun w' (h : Keeps [] w7 w') => V.enc w' _ (some (wd0 m)) (HG.out _ (HK.out.trans h (FSub.refl _ _))) (H1.out.new h) (fun V' e => by obtain rfl := Option.some.inj e; exact wd0_upto m 1000))
  simp only [oWB, oWT] at HEZ HEX HEY HTZ HTX HTY HE0
  rw [wd0_B m, show bs [] = (⟨#[]⟩ : ByteArray) from rfl] at HE0
  have HWK := Lib.hid (fun w' (h : Keeps [] w7 w') => works14_any V w' (HG.out _ (HK.out.trans h (FSub.refl _ _))))
  clear hbb hXY HXI HYI HUX HUY
  generalize bs (wdB X) = EX at *
  generalize bs (wdB Y) = EY at *
  generalize bs (wdT X) = TX at *
  generalize bs (wdT Y) = TY at *
  obtain ⟨S0, hS0⟩ : ∃ S0 : World → Prop, S0 = fun y => Keeps [] w7 y := ⟨_, rfl⟩
  have HSE := Lib.hid hS0
  have hSD : S0 w7.drew := by rw [hS0]; exact (Keeps.refl _ _).drew
  have HL1 := Lib.hid (fun (w' : World) (hh : S0 w') => show w'.rangeAt p1 0 A1 from by rw [hS0] at hh; exact block_range (hh.heap HB1.out (by simp)))
  have HLX := Lib.hid (fun (w' : World) (hh : S0 w') => show w'.rangeAt p2 0 x1 from by rw [hS0] at hh; exact block_range (hh.heap HBX.out (by simp)))
  have HLY := Lib.hid (fun (w' : World) (hh : S0 w') => show w'.rangeAt p3 0 x2 from by rw [hS0] at hh; exact block_range (hh.heap HBV.out (by simp)))
  have HL3 := Lib.hid (fun (w' : World) (hh : S0 w') => show w'.rangeAt p4 0 A3 from by rw [hS0] at hh; exact block_range (hh.heap HB3.out (by simp)))
  clear hS0
  refine wp_region_noPanic ?_
  refine wp_region_held_drew (S := S0) (by kernel_rfl) hSD (fun hHeld => ?_)
  have HW := Lib.hid ((Keeps.refl [] w7).drew)
  apply wpAnyH_take (i := 0)
  · simp only [List.getElem?_toArray]; rfl
  iterate 3 (· kernel_rfl)
  · exact fun _ _ _ h => h
  · exact Or.inl ⟨by rfl, by intro w hSw; go_simp; try with_reducible rfl⟩
  · assumption
  try simp only [Act.put, lsA, lsZ, lsS]
  apply wpAnyH_take (i := 1)
  · simp only [List.getElem?_toArray]; rfl
  iterate 3 (· kernel_rfl)
  · exact fun _ _ _ h => h
  · exact Or.inl ⟨by rfl, by intro w hSw; go_simp; try with_reducible rfl⟩
  · assumption
  try simp only [Act.put, lsA, lsZ, lsS]
  apply wpAnyH_take (i := 2)
  · simp only [List.getElem?_toArray]; rfl
  iterate 3 (· kernel_rfl)
  · exact fun _ _ _ h => h
  · exact Or.inl ⟨by rfl, by intro w hSw; go_simp; try with_reducible rfl⟩
  · assumption
  try simp only [Act.put, lsA, lsZ, lsS]
  apply wpAnyH_take (i := 3)
  · simp only [List.getElem?_toArray]; rfl
  iterate 3 (· kernel_rfl)
  · exact fun _ _ _ h => h
  · exact skW.yields HO3.out rfl _ rfl p4 0 rfl HL3.out
  · assumption
  try simp only [Act.put, lsA, lsZ, lsS]
  apply wpAnyH_take (i := 4)
  · simp only [List.getElem?_toArray]; rfl
  iterate 3 (· kernel_rfl)
  · exact fun _ _ _ h => h
  · exact skW.yields HOX.out rfl _ rfl p2 0 rfl HLX.out
  · assumption
  try simp only [Act.put, lsA, lsZ, lsS]
  apply wpAnyH_ready (rs := [5])
  · kernel_rfl
  · simp
  apply AllReadyH.cons (hs := AllReadyH.nil)
  · simp only [List.getElem?_toArray]; rfl
  intro K hK
  rw [if_pos (by rfl)]
  refine wp_call9 20 _ _ rfl [.agg A3.toArray, .agg x1.toArray] rfl Tryz.func20 (by kernel_rfl) (by kernel_rfl) ((HPS.out _ HW.out).mono ?_)
  rintro e YC ⟨rfl, hky⟩
  refine ⟨_, rfl, ?_⟩
  replace HW := Lib.hid (HW.out.trans hky (FSub.refl _ _))
  clear hky
  refine hK.out _ _ ?_ (fun hHeld => ?_)
  · exact (by rw [HSE.out]; exact HW.out)
  clear hK K
  try simp only [Act.put, lsA, lsZ, lsS]
  apply wpAnyH_take (i := 6)
  · simp only [List.getElem?_toArray]; rfl
  iterate 3 (· kernel_rfl)
  · exact fun _ _ _ h => h
  · exact Or.inl ⟨by rfl, by intro w hSw; go_simp; try with_reducible rfl⟩
  · assumption
  try simp only [Act.put, lsA, lsZ, lsS]
  apply wpAnyH_take (i := 7)
  · simp only [List.getElem?_toArray]; rfl
  iterate 3 (· kernel_rfl)
  · exact fun _ _ _ h => h
  · exact Or.inl ⟨by rfl, by intro w hSw; go_simp; try with_reducible rfl⟩
  · assumption
  try simp only [Act.put, lsA, lsZ, lsS]
  apply wpAnyH_take (i := 8)
  · simp only [List.getElem?_toArray]; rfl
  iterate 3 (· kernel_rfl)
  · exact fun _ _ _ h => h
  · exact skW.yields HO3.out rfl _ rfl p4 0 rfl HL3.out
  · assumption
  try simp only [Act.put, lsA, lsZ, lsS]
  apply wpAnyH_take (i := 10)
  · simp only [List.getElem?_toArray]; rfl
  iterate 3 (· kernel_rfl)
  · exact fun _ _ _ h => h
  · exact skW.yields HOX.out rfl _ rfl p2 0 rfl HLX.out
  · assumption
  try simp only [Act.put, lsA, lsZ, lsS]
  apply wpAnyH_ready (rs := [9])
  · kernel_rfl
  · simp
  apply AllReadyH.cons (hs := AllReadyH.nil)
  · simp only [List.getElem?_toArray]; rfl
  intro K hK
  rw [if_pos (by rfl)]
  refine wp_call9 24 _ _ rfl [.agg A3.toArray] rfl Tryz.func24 (by kernel_rfl) (by kernel_rfl) ((HEZ.out _ HW.out).mono ?_)
  rintro e YC ⟨rfl, hky⟩
  refine ⟨_, rfl, ?_⟩
  replace HW := Lib.hid (HW.out.trans hky (FSub.refl _ _))
  clear hky
  refine hK.out _ _ ?_ (fun hHeld => ?_)
  · exact (by rw [HSE.out]; exact HW.out)
  clear hK K
  try simp only [Act.put, lsA, lsZ, lsS]
  apply wpAnyH_ready (rs := [11])
  · kernel_rfl
  · simp
  apply AllReadyH.cons (hs := AllReadyH.nil)
  · simp only [List.getElem?_toArray]; rfl
  intro K hK
  rw [if_pos (by rfl)]
  refine wp_call9 24 _ _ rfl [.agg x1.toArray] rfl Tryz.func24 (by kernel_rfl) (by kernel_rfl) ((HEX.out _ HW.out).mono ?_)
  rintro e YC ⟨rfl, hky⟩
  refine ⟨_, rfl, ?_⟩
  replace HW := Lib.hid (HW.out.trans hky (FSub.refl _ _))
  clear hky
  refine hK.out _ _ ?_ (fun hHeld => ?_)
  · exact (by rw [HSE.out]; exact HW.out)
  clear hK K
  try simp only [Act.put, lsA, lsZ, lsS]
  apply wpAnyH_take (i := 12)
  · simp only [List.getElem?_toArray]; rfl
  iterate 3 (· kernel_rfl)
  · exact fun _ _ _ h => h
  · exact Or.inl ⟨by rfl, by intro w hSw; go_simp; try with_reducible rfl⟩
  · assumption
  try simp only [Act.put, lsA, lsZ, lsS]
  apply wpAnyH_take (i := 13)
  · simp only [List.getElem?_toArray]; rfl
  iterate 3 (· kernel_rfl)
  · exact fun _ _ _ h => h
  · exact Or.inl ⟨by rfl, by intro w hSw; go_simp; try with_reducible rfl⟩
  · assumption
  try simp only [Act.put, lsA, lsZ, lsS]
  apply wpAnyH_take (i := 14)
  · simp only [List.getElem?_toArray]; rfl
  iterate 3 (· kernel_rfl)
  · exact fun _ _ _ h => h
  · exact Or.inl ⟨by rfl, by intro w hSw; go_simp; try with_reducible rfl⟩
  · assumption
  try simp only [Act.put, lsA, lsZ, lsS]
  apply wpAnyH_take (i := 15)
  · simp only [List.getElem?_toArray]; rfl
  iterate 3 (· kernel_rfl)
  · exact fun _ _ _ h => h
  · exact skW.yields HO3.out rfl _ rfl p4 0 rfl HL3.out
  · assumption
  try simp only [Act.put, lsA, lsZ, lsS]
  apply wpAnyH_take (i := 17)
  · simp only [List.getElem?_toArray]; rfl
  iterate 3 (· kernel_rfl)
  · exact fun _ _ _ h => h
  · exact skW.yields HOX.out rfl _ rfl p2 0 rfl HLX.out
  · assumption
  try simp only [Act.put, lsA, lsZ, lsS]
  apply wpAnyH_ready (rs := [16])
  · kernel_rfl
  · simp
  apply AllReadyH.cons (hs := AllReadyH.nil)
  · simp only [List.getElem?_toArray]; rfl
  intro K hK
  rw [if_pos (by rfl)]
  refine wp_call9 25 _ _ rfl [.agg A3.toArray] rfl Tryz.func25 (by kernel_rfl) (by kernel_rfl) ((HTZ.out _ HW.out).mono ?_)
  rintro e YC ⟨rfl, hky⟩
  refine ⟨_, rfl, ?_⟩
  replace HW := Lib.hid (HW.out.trans hky (FSub.refl _ _))
  clear hky
  refine hK.out _ _ ?_ (fun hHeld => ?_)
  · exact (by rw [HSE.out]; exact HW.out)
  clear hK K
  try simp only [Act.put, lsA, lsZ, lsS]
  apply wpAnyH_ready (rs := [18])
  · kernel_rfl
  · simp
  apply AllReadyH.cons (hs := AllReadyH.nil)
  · simp only [List.getElem?_toArray]; rfl
  intro K hK
  rw [if_pos (by rfl)]
  refine wp_call9 25 _ _ rfl [.agg x1.toArray] rfl Tryz.func25 (by kernel_rfl) (by kernel_rfl) ((HTX.out _ HW.out).mono ?_)
  rintro e YC ⟨rfl, hky⟩
  refine ⟨_, rfl, ?_⟩
  replace HW := Lib.hid (HW.out.trans hky (FSub.refl _ _))
  clear hky
  refine hK.out _ _ ?_ (fun hHeld => ?_)
  · exact (by rw [HSE.out]; exact HW.out)
  clear hK K
  try simp only [Act.put, lsA, lsZ, lsS]
  apply wpAnyH_take (i := 19)
  · simp only [List.getElem?_toArray]; rfl
  iterate 3 (· kernel_rfl)
  · exact fun _ _ _ h => h
  · exact Or.inl ⟨by rfl, by intro w hSw; go_simp; try with_reducible rfl⟩
  · assumption
  try simp only [Act.put, lsA, lsZ, lsS]
  apply wpAnyH_take (i := 20)
  · simp only [List.getElem?_toArray]; rfl
  iterate 3 (· kernel_rfl)
  · exact fun _ _ _ h => h
  · exact Or.inl ⟨by rfl, by intro w hSw; go_simp; try with_reducible rfl⟩
  · assumption
  try simp only [Act.put, lsA, lsZ, lsS]
  apply wpAnyH_take (i := 21)
  · simp only [List.getElem?_toArray]; rfl
  iterate 3 (· kernel_rfl)
  · exact fun _ _ _ h => h
  · exact Or.inl ⟨by rfl, by intro w hSw; go_simp; try with_reducible rfl⟩
  · assumption
  try simp only [Act.put, lsA, lsZ, lsS]
  apply wpAnyH_take (i := 22)
  · simp only [List.getElem?_toArray]; rfl
  iterate 3 (· kernel_rfl)
  · exact fun _ _ _ h => h
  · exact Or.inl ⟨by rfl, by intro w hSw; go_simp; try with_reducible rfl⟩
  · assumption
  try simp only [Act.put, lsA, lsZ, lsS]
  apply wpAnyH_take (i := 23)
  · simp only [List.getElem?_toArray]; rfl
  iterate 3 (· kernel_rfl)
  · exact fun _ _ _ h => h
  · exact skW.yields HOX.out rfl _ rfl p2 0 rfl HLX.out
  · assumption
  try simp only [Act.put, lsA, lsZ, lsS]
  apply wpAnyH_take (i := 25)
  · simp only [List.getElem?_toArray]; rfl
  iterate 3 (· kernel_rfl)
  · exact fun _ _ _ h => h
  · exact skW.yields HOV.out rfl _ rfl p3 0 rfl HLY.out
  · assumption
  try simp only [Act.put, lsA, lsZ, lsS]
  apply wpAnyH_ready (rs := [24])
  · kernel_rfl
  · simp
  apply AllReadyH.cons (hs := AllReadyH.nil)
  · simp only [List.getElem?_toArray]; rfl
  intro K hK
  rw [if_pos (by rfl)]
  refine wp_call9 24 _ _ rfl [.agg x1.toArray] rfl Tryz.func24 (by kernel_rfl) (by kernel_rfl) ((HEX.out _ HW.out).mono ?_)
  rintro e YC ⟨rfl, hky⟩
  refine ⟨_, rfl, ?_⟩
  replace HW := Lib.hid (HW.out.trans hky (FSub.refl _ _))
  clear hky
  refine hK.out _ _ ?_ (fun hHeld => ?_)
  · exact (by rw [HSE.out]; exact HW.out)
  clear hK K
  try simp only [Act.put, lsA, lsZ, lsS]
  apply wpAnyH_ready (rs := [26])
  · kernel_rfl
  · simp
  apply AllReadyH.cons (hs := AllReadyH.nil)
  · simp only [List.getElem?_toArray]; rfl
  intro K hK
  rw [if_pos (by rfl)]
  refine wp_call9 24 _ _ rfl [.agg x2.toArray] rfl Tryz.func24 (by kernel_rfl) (by kernel_rfl) ((HEY.out _ HW.out).mono ?_)
  rintro e YC ⟨rfl, hky⟩
  refine ⟨_, rfl, ?_⟩
  replace HW := Lib.hid (HW.out.trans hky (FSub.refl _ _))
  clear hky
  refine hK.out _ _ ?_ (fun hHeld => ?_)
  · exact (by rw [HSE.out]; exact HW.out)
  clear hK K
  try simp only [Act.put, lsA, lsZ, lsS]
  apply wpAnyH_take (i := 27)
  · simp only [List.getElem?_toArray]; rfl
  iterate 3 (· kernel_rfl)
  · exact fun _ _ _ h => h
  · exact Or.inl ⟨by rfl, by intro w hSw; go_simp; try with_reducible rfl⟩
  · assumption
  try simp only [Act.put, lsA, lsZ, lsS]
  apply wpAnyH_take (i := 28)
  · simp only [List.getElem?_toArray]; rfl
  iterate 3 (· kernel_rfl)
  · exact fun _ _ _ h => h
  · exact Or.inl ⟨by rfl, by intro w hSw; go_simp; try with_reducible rfl⟩
  · assumption
  try simp only [Act.put, lsA, lsZ, lsS]
  apply wpAnyH_take (i := 29)
  · simp only [List.getElem?_toArray]; rfl
  iterate 3 (· kernel_rfl)
  · exact fun _ _ _ h => h
  · exact Or.inl ⟨by rfl, by intro w hSw; go_simp; try with_reducible rfl⟩
  · assumption
  try simp only [Act.put, lsA, lsZ, lsS]
  apply wpAnyH_take (i := 30)
  · simp only [List.getElem?_toArray]; rfl
  iterate 3 (· kernel_rfl)
  · exact fun _ _ _ h => h
  · exact Or.inl ⟨by rfl, by intro w hSw; go_simp; try with_reducible rfl⟩
  · assumption
  try simp only [Act.put, lsA, lsZ, lsS]
  apply wpAnyH_take (i := 31)
  · simp only [List.getElem?_toArray]; rfl
  iterate 3 (· kernel_rfl)
  · exact fun _ _ _ h => h
  · exact Or.inl ⟨by rfl, by intro w hSw; go_simp; try with_reducible rfl⟩
  · assumption
  try simp only [Act.put, lsA, lsZ, lsS]
  apply wpAnyH_take (i := 32)
  · simp only [List.getElem?_toArray]; rfl
  iterate 3 (· kernel_rfl)
  · exact fun _ _ _ h => h
  · exact skW.yields HOX.out rfl _ rfl p2 0 rfl HLX.out
  · assumption
  try simp only [Act.put, lsA, lsZ, lsS]
  apply wpAnyH_take (i := 34)
  · simp only [List.getElem?_toArray]; rfl
  iterate 3 (· kernel_rfl)
  · exact fun _ _ _ h => h
  · exact skW.yields HOV.out rfl _ rfl p3 0 rfl HLY.out
  · assumption
  try simp only [Act.put, lsA, lsZ, lsS]
  apply wpAnyH_ready (rs := [33])
  · kernel_rfl
  · simp
  apply AllReadyH.cons (hs := AllReadyH.nil)
  · simp only [List.getElem?_toArray]; rfl
  intro K hK
  rw [if_pos (by rfl)]
  refine wp_call9 25 _ _ rfl [.agg x1.toArray] rfl Tryz.func25 (by kernel_rfl) (by kernel_rfl) ((HTX.out _ HW.out).mono ?_)
  rintro e YC ⟨rfl, hky⟩
  refine ⟨_, rfl, ?_⟩
  replace HW := Lib.hid (HW.out.trans hky (FSub.refl _ _))
  clear hky
  refine hK.out _ _ ?_ (fun hHeld => ?_)
  · exact (by rw [HSE.out]; exact HW.out)
  clear hK K
  try simp only [Act.put, lsA, lsZ, lsS]
  apply wpAnyH_ready (rs := [35])
  · kernel_rfl
  · simp
  apply AllReadyH.cons (hs := AllReadyH.nil)
  · simp only [List.getElem?_toArray]; rfl
  intro K hK
  rw [if_pos (by rfl)]
  refine wp_call9 25 _ _ rfl [.agg x2.toArray] rfl Tryz.func25 (by kernel_rfl) (by kernel_rfl) ((HTY.out _ HW.out).mono ?_)
  rintro e YC ⟨rfl, hky⟩
  refine ⟨_, rfl, ?_⟩
  replace HW := Lib.hid (HW.out.trans hky (FSub.refl _ _))
  clear hky
  refine hK.out _ _ ?_ (fun hHeld => ?_)
  · exact (by rw [HSE.out]; exact HW.out)
  clear hK K
  try simp only [Act.put, lsA, lsZ, lsS]
  apply wpAnyH_take (i := 36)
  · simp only [List.getElem?_toArray]; rfl
  iterate 3 (· kernel_rfl)
  · exact fun _ _ _ h => h
  · exact Or.inl ⟨by rfl, by intro w hSw; go_simp; try with_reducible rfl⟩
  · assumption
  try simp only [Act.put, lsA, lsZ, lsS]
  apply wpAnyH_take (i := 37)
  · simp only [List.getElem?_toArray]; rfl
  iterate 3 (· kernel_rfl)
  · exact fun _ _ _ h => h
  · exact Or.inl ⟨by rfl, by intro w hSw; go_simp; try with_reducible rfl⟩
  · assumption
  try simp only [Act.put, lsA, lsZ, lsS]
  apply wpAnyH_take (i := 38)
  · simp only [List.getElem?_toArray]; rfl
  iterate 3 (· kernel_rfl)
  · exact fun _ _ _ h => h
  · exact Or.inl ⟨by rfl, by intro w hSw; go_simp; try with_reducible rfl⟩
  · assumption
  try simp only [Act.put, lsA, lsZ, lsS]
  apply wpAnyH_take (i := 39)
  · simp only [List.getElem?_toArray]; rfl
  iterate 3 (· kernel_rfl)
  · exact fun _ _ _ h => h
  · exact Or.inl ⟨by rfl, by intro w hSw; go_simp; try with_reducible rfl⟩
  · assumption
  try simp only [Act.put, lsA, lsZ, lsS]
  apply wpAnyH_take (i := 40)
  · simp only [List.getElem?_toArray]; rfl
  iterate 3 (· kernel_rfl)
  · exact fun _ _ _ h => h
  · exact skW.yields HO1.out rfl _ rfl p1 0 rfl HL1.out
  · assumption
  try simp only [Act.put, lsA, lsZ, lsS]
  apply wpAnyH_ready (rs := [41])
  · kernel_rfl
  · simp
  apply AllReadyH.cons (hs := AllReadyH.nil)
  · simp only [List.getElem?_toArray]; rfl
  intro K hK
  rw [if_pos (by rfl)]
  refine wp_call9 24 _ _ rfl [.agg A1.toArray] rfl Tryz.func24 (by kernel_rfl) (by kernel_rfl) ((HE0.out _ HW.out).mono ?_)
  rintro e YC ⟨rfl, hky⟩
  refine ⟨_, rfl, ?_⟩
  replace HW := Lib.hid (HW.out.trans hky (FSub.refl _ _))
  clear hky
  refine hK.out _ _ ?_ (fun hHeld => ?_)
  · exact (by rw [HSE.out]; exact HW.out)
  clear hK K
  try simp only [Act.put, lsA, lsZ, lsS]
  apply wpAnyH_take (i := 42)
  · simp only [List.getElem?_toArray]; rfl
  iterate 3 (· kernel_rfl)
  · exact fun _ _ _ h => h
  · exact Or.inl ⟨by rfl, by intro w hSw; go_simp; try with_reducible rfl⟩
  · assumption
  try simp only [Act.put, lsA, lsZ, lsS]
  apply wpAnyH_take (i := 43)
  · simp only [List.getElem?_toArray]; rfl
  iterate 3 (· kernel_rfl)
  · exact fun _ _ _ h => h
  · exact Or.inl ⟨by rfl, by intro w hSw; go_simp; try with_reducible rfl⟩
  · assumption
  try simp only [Act.put, lsA, lsZ, lsS]
  apply wpAnyH_take (i := 44)
  · simp only [List.getElem?_toArray]; rfl
  iterate 3 (· kernel_rfl)
  · exact fun _ _ _ h => h
  · exact Or.inl ⟨by rfl, by intro w hSw; go_simp; try with_reducible rfl⟩
  · assumption
  try simp only [Act.put, lsA, lsZ, lsS]
  apply wpAnyH_ready (rs := [45])
  · kernel_rfl
  · simp
  apply AllReadyH.cons (hs := AllReadyH.nil)
  · simp only [List.getElem?_toArray]; rfl
  intro K hK
  rw [if_pos (by rfl)]
  refine wp_call9 9 _ _ rfl [] rfl Tryz.func9 (by kernel_rfl) (by kernel_rfl) ((HWK.out _ HW.out).mono ?_)
  rintro e YC ⟨rfl, hky⟩
  refine ⟨_, rfl, ?_⟩
  replace HW := Lib.hid (HW.out.trans hky (FSub.refl _ _))
  clear hky
  refine hK.out _ _ ?_ (fun hHeld => ?_)
  · exact (by rw [HSE.out]; exact HW.out)
  clear hK K
  try simp only [Act.put, lsA, lsZ, lsS]
  apply wpAnyH_take (i := 46)
  · simp only [List.getElem?_toArray]; rfl
  iterate 3 (· kernel_rfl)
  · exact fun _ _ _ h => h
  · exact Or.inl ⟨by rfl, by intro w hSw; go_simp; try with_reducible rfl⟩
  · assumption
  try simp only [Act.put, lsA, lsZ, lsS]
  apply wpAnyH_take (i := 47)
  · simp only [List.getElem?_toArray]; rfl
  iterate 3 (· kernel_rfl)
  · exact fun _ _ _ h => h
  · exact Or.inl ⟨by rfl, by intro w hSw; go_simp; try with_reducible rfl⟩
  · assumption
  try simp only [Act.put, lsA, lsZ, lsS]
  refine wpAnyH_done (by kernel_rfl) ?_ _
  refine NoPanic.normal ?_
  have HKF := Lib.hid (HK.out.trans HW.out (FSub.refl _ _))
  clear hHeld hSD HSE HL1 HLX HLY HL3
  go_wp2_with fail
  go_ret
  exact ⟨rfl, HKF.out⟩
end Go.Proofs.YtbnhcggjcdipeaaGreatDoor
