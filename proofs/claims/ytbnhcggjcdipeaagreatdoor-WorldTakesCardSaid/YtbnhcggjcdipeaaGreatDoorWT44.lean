/-
  The law WorldTakes, over any program's worlds.
-/
import Derived.Test.YtbnhcggjcdipeaaGreatDoorWT00
import Derived.Test.YtbnhcggjcdipeaaGreatDoorWT43
set_option linter.unusedSimpArgs false
set_option linter.unusedVariables false
namespace Go.Proofs.YtbnhcggjcdipeaaGreatDoor
open Go.RowKit
set_option maxRecDepth 100000
set_option maxHeartbeats 8000000
variable {G : World → Prop}
theorem WorldTakes_any {R : MdProg G} (V : WdProg R) (w : World) (hG : G w) {m : Int} (h0 : 0 ≤ m ∧ m < 256) (b : List UInt8) {v v2 : Value} {l l2 : List Cl} (hl : ∀ y ∈ l, y.In) (hl2 : ∀ y ∈ l2, y.In) (hI : rkC14.In w.heap.size w v l) (hI2 : rkC14.In w.heap.size w v2 l2) :
    Calls Tryz.prog 7 #[.int .u8 m, .string (bs b), .agg #[v, v2]] w fun e w' => e = .returned (.bool true) ∧ Keeps [] w w' := by
  obtain ⟨a, cp, rfl, hc, hm, -⟩ := id hI
  obtain ⟨a2, cp2, rfl, hc2, hm2, -⟩ := id hI2
  have HT := Lib.hid (show (w.alloc (.cells #[.slice a l.length cp, .slice a2 l2.length cp2] 68)).heap[w.heap.size]? = some (.cells #[.slice a l.length cp, .slice a2 l2.length cp2] 68 (0, 0)) from heap_alloc_new w _)
  have HK := Lib.hid (show Keeps [] w (w.alloc (.cells #[.slice a l.length cp, .slice a2 l2.length cp2] 68)) from (Keeps.refl _ _).alloc _)
  have HGL := Lib.hid (fun w' (h : Keeps [] w w') => R.keepG hG h)
  have HI := Lib.hid hI; have HI2 := Lib.hid hI2; have HL := Lib.hid hl; have HL2 := Lib.hid hl2; have HM := Lib.hid h0
  have HSZ := Lib.hid (show (bs b).size = b.length from by simp [bs, ByteArray.size])
  clear hI hI2 hl hl2 hG hc hm hc2 hm2 h0
  obtain ⟨n, hn⟩ : ∃ n, n = l.length := ⟨_, rfl⟩
  obtain ⟨n2, hn2⟩ : ∃ n, n = l2.length := ⟨_, rfl⟩
  rw [← hn] at HI HT HK ⊢
  rw [← hn2] at HI2 HT HK ⊢
  have HNN := Lib.hid hn; have HNN2 := Lib.hid hn2
  clear hn hn2
  have x1 := (cell_lit HT.out 0 rfl : World.cell? _ _ = some (Value.slice a n cp))
  have x2 := (cell_lit HT.out 1 rfl : World.cell? _ _ = some (Value.slice a2 n2 cp2))
  by_cases hb : b.length ≤ 1000
  case neg =>
    have z : (1000 : Int) < (bs b).size := by rw [HSZ.out]; omega
    clear hb HSZ
    generalize bs b = B at *
    go_enter Tryz.func7, Tryz.ntmps7
    go_wp2_with fail
    refine (works14_any V _ (HGL.out _ HK.out)).mono ?_; rintro e v3 ⟨rfl, hk⟩
    have HKF := Lib.hid (HK.out.trans hk (FSub.refl _ _))
    clear hk
    go_wp2_with fail
    go_ret
    exact ⟨rfl, HKF.out⟩
  have z : ¬ (1000 : Int) < (bs b).size := by rw [HSZ.out]; omega
  by_cases c1 : (60 : Int) < n
  case pos =>
    clear hb HSZ
    generalize bs b = B at *
    go_enter Tryz.func7, Tryz.ntmps7
    go_wp2_with fail
    refine (works14_any V _ (HGL.out _ HK.out)).mono ?_; rintro e v3 ⟨rfl, hk⟩
    have HKF := Lib.hid (HK.out.trans hk (FSub.refl _ _))
    clear hk
    go_wp2_with fail
    go_ret
    exact ⟨rfl, HKF.out⟩
  by_cases c2 : (60 : Int) < n2
  case pos =>
    clear hb HSZ
    generalize bs b = B at *
    go_enter Tryz.func7, Tryz.ntmps7
    go_wp2_with fail
    refine (works14_any V _ (HGL.out _ HK.out)).mono ?_; rintro e v3 ⟨rfl, hk⟩
    have HKF := Lib.hid (HK.out.trans hk (FSub.refl _ _))
    clear hk
    go_wp2_with fail
    go_ret
    exact ⟨rfl, HKF.out⟩
  have HC1 := Lib.hid c1; have HC2 := Lib.hid c2
  have HD := Lib.hid (V.dec _ m b (HGL.out _ HK.out) HM.out (by omega) (wShort_len _ b hb))
  have hor := wdDec_or m b
  have HTK := Lib.hid (fun (X : Wd) (h : (wdDec m b).1 = some X) => (show X.In ∧ X.upto 1000 ∧ wdB X = b from ⟨(wdDec_took HM.out.1 h).1, fun S hS => Nat.le_trans ((wdDec_took HM.out.1 h).2.2.2.1 S hS) hb, (wdDec_took HM.out.1 h).2.2.1⟩))
  have H10 := Lib.hid (fun h3 : ¬ m ≤ 3 => (show wdDec m b = (none, 10) from if_neg h3))
  clear hb HSZ
  generalize wdDec m b = X at *
  obtain ⟨O, er⟩ := X
  simp only at HD HTK hor H10
  obtain ⟨B, hB⟩ : ∃ B, B = bs b := ⟨_, rfl⟩
  rw [← hB] at HD z ⊢
  have HBE := Lib.hid hB
  clear hB
  go_enter Tryz.func7, Tryz.ntmps7
  go_wp2_with fail
  refine HD.out.mono ?_; rintro e w1 ⟨st, rfl, hat, hk, -⟩
  clear HD c1 c2 x1 x2 z
  replace HK := Lib.hid (HK.out.trans hk (FSub.refl _ _))
  try replace HT := Lib.hid (hk.heap HT.out (by simp))
  try replace HAT := Lib.hid (HAT.out.new hk)
  try replace HA1 := Lib.hid (HA1.out.new hk)
  try replace HA2 := Lib.hid (HA2.out.new hk)
  try replace HBT := Lib.hid (hk.heap HBT.out (by simp))
  try replace HBN := Lib.hid (hk.heap HBN.out (by simp))
  try replace HAN := Lib.hid (HAN.out.new hk)
  try replace HB := Lib.hid (hk.heap HB.out (by simp))
  try replace HB1 := Lib.hid (hk.heap HB1.out (by simp))
  try replace HB2 := Lib.hid (hk.heap HB2.out (by simp))
  try replace HRW := Lib.hid (fun j v hv => hk.cell (HRW.out j v hv) (by simp))
  try replace HP1 := Lib.hid (HP1.out.new hk)
  try replace HP2 := Lib.hid (HP2.out.new hk)
  try replace HB15 := Lib.hid (hk.heap HB15.out (by simp))
  try replace HB16 := Lib.hid (hk.heap HB16.out (by simp))
  try replace HB18 := Lib.hid (hk.heap HB18.out (by simp))
  try replace HB19 := Lib.hid (hk.heap HB19.out (by simp))
  obtain ⟨AT, rfl, hok⟩ := hat.cells
  have HOT := Lib.hid hok
  have HAT := Lib.hid hat
  have HFT := Lib.hid (fun q hq => hat.old q hq)
  clear hat hok hk
  have HNC := Lib.hid (show (w1.alloc (.cells wdZA 33)).heap[w1.heap.size]? = some (.cells wdZ.toArray 33 (0, 0)) from heap_alloc_new w1 _)
  have HNK := Lib.hid (show Keeps [] w1 (w1.alloc (.cells wdZA 33)) from (Keeps.refl _ _).alloc _)
  go_wp2_with ((with_reducible refine wpList_putW (g := w1.heap.size) (old := wdZ) (A := AT) HOT.out wdZ_ok ?_ ?_ HNC.out ?_); exact rfl; exact rfl)
  intro w2 hW hk2
  have hk := HNK.out.trans' hk2 (Nat.le_refl _)
  replace HK := Lib.hid (HK.out.trans hk (FSub.refl _ _))
  try replace HT := Lib.hid (hk.heap HT.out (by simp))
  try replace HAT := Lib.hid (HAT.out.new hk)
  try replace HA1 := Lib.hid (HA1.out.new hk)
  try replace HA2 := Lib.hid (HA2.out.new hk)
  try replace HBT := Lib.hid (hk.heap HBT.out (by simp))
  try replace HBN := Lib.hid (hk.heap HBN.out (by simp))
  try replace HAN := Lib.hid (HAN.out.new hk)
  try replace HB := Lib.hid (hk.heap HB.out (by simp))
  try replace HB1 := Lib.hid (hk.heap HB1.out (by simp))
  try replace HB2 := Lib.hid (hk.heap HB2.out (by simp))
  try replace HRW := Lib.hid (fun j v hv => hk.cell (HRW.out j v hv) (by simp))
  try replace HP1 := Lib.hid (HP1.out.new hk)
  try replace HP2 := Lib.hid (HP2.out.new hk)
  try replace HB15 := Lib.hid (hk.heap HB15.out (by simp))
  try replace HB16 := Lib.hid (hk.heap HB16.out (by simp))
  try replace HB18 := Lib.hid (hk.heap HB18.out (by simp))
  try replace HB19 := Lib.hid (hk.heap HB19.out (by simp))
  have HBT := Lib.hid hW
  have HST := Lib.hid (lt_of_block hW)
  clear hk hW hk2 HNC HNK
  generalize w1.heap.size = p7 at *
  have HN := Lib.hid (fun y (h : Keeps [] w y) => V.new y m (HGL.out _ h) HM.out)
  by_cases h3 : m ≤ 3
  case neg =>
    simp only [if_neg h3] at HN
    obtain ⟨rfl, rfl⟩ : O = none ∧ er = 10 := by simpa using H10.out (by omega)
    go_wp2_with fail
    refine (HN.out _ HK.out).mono ?_; rintro e w3 ⟨st, rfl, hat, hk, -⟩
    clear HN hor
    replace HK := Lib.hid (HK.out.trans hk (FSub.refl _ _))
    try replace HT := Lib.hid (hk.heap HT.out (by simp))
    try replace HAT := Lib.hid (HAT.out.new hk)
    try replace HA1 := Lib.hid (HA1.out.new hk)
    try replace HA2 := Lib.hid (HA2.out.new hk)
    try replace HBT := Lib.hid (hk.heap HBT.out (by simp))
    try replace HBN := Lib.hid (hk.heap HBN.out (by simp))
    try replace HAN := Lib.hid (HAN.out.new hk)
    try replace HB := Lib.hid (hk.heap HB.out (by simp))
    try replace HB1 := Lib.hid (hk.heap HB1.out (by simp))
    try replace HB2 := Lib.hid (hk.heap HB2.out (by simp))
    try replace HRW := Lib.hid (fun j v hv => hk.cell (HRW.out j v hv) (by simp))
    try replace HP1 := Lib.hid (HP1.out.new hk)
    try replace HP2 := Lib.hid (HP2.out.new hk)
    try replace HB15 := Lib.hid (hk.heap HB15.out (by simp))
    try replace HB16 := Lib.hid (hk.heap HB16.out (by simp))
    try replace HB18 := Lib.hid (hk.heap HB18.out (by simp))
    try replace HB19 := Lib.hid (hk.heap HB19.out (by simp))
    obtain ⟨AN, rfl, hok⟩ := hat.cells
    have HON := Lib.hid hok
    have HAN := Lib.hid hat
    have HFN := Lib.hid (fun q hq => hat.old q hq)
    clear hat hok hk
    have HNC := Lib.hid (show (w3.alloc (.cells wdZA 33)).heap[w3.heap.size]? = some (.cells wdZ.toArray 33 (0, 0)) from heap_alloc_new w3 _)
    have HNK := Lib.hid (show Keeps [] w3 (w3.alloc (.cells wdZA 33)) from (Keeps.refl _ _).alloc _)
    go_wp2_with ((with_reducible refine wpList_putW (g := w3.heap.size) (old := wdZ) (A := AN) HON.out wdZ_ok ?_ ?_ HNC.out ?_); exact rfl; exact rfl)
    intro w4 hW hk2
    have hk := HNK.out.trans' hk2 (Nat.le_refl _)
    replace HK := Lib.hid (HK.out.trans hk (FSub.refl _ _))
    try replace HT := Lib.hid (hk.heap HT.out (by simp))
    try replace HAT := Lib.hid (HAT.out.new hk)
    try replace HA1 := Lib.hid (HA1.out.new hk)
    try replace HA2 := Lib.hid (HA2.out.new hk)
    try replace HBT := Lib.hid (hk.heap HBT.out (by simp))
    try replace HBN := Lib.hid (hk.heap HBN.out (by simp))
    try replace HAN := Lib.hid (HAN.out.new hk)
    try replace HB := Lib.hid (hk.heap HB.out (by simp))
    try replace HB1 := Lib.hid (hk.heap HB1.out (by simp))
    try replace HB2 := Lib.hid (hk.heap HB2.out (by simp))
    try replace HRW := Lib.hid (fun j v hv => hk.cell (HRW.out j v hv) (by simp))
    try replace HP1 := Lib.hid (HP1.out.new hk)
    try replace HP2 := Lib.hid (HP2.out.new hk)
    try replace HB15 := Lib.hid (hk.heap HB15.out (by simp))
    try replace HB16 := Lib.hid (hk.heap HB16.out (by simp))
    try replace HB18 := Lib.hid (hk.heap HB18.out (by simp))
    try replace HB19 := Lib.hid (hk.heap HB19.out (by simp))
    have HBN := Lib.hid hW
    have HSN := Lib.hid (lt_of_block hW)
    clear hk hW hk2 HNC HNK
    generalize w3.heap.size = p9 at *
    go_wp2_with fail
    refine (works14_any V w4 (HGL.out _ HK.out)).mono ?_; rintro e v3 ⟨rfl, hk⟩
    have HKF := Lib.hid (HK.out.trans hk (FSub.refl _ _))
    clear hk
    go_wp2_with fail
    go_ret
    exact ⟨rfl, HKF.out⟩
  simp only [if_pos h3, oNew_some h3] at HN
  have hWI := wd0_in HM.out.1 h3
  have HA := Lib.hid (fun y (h : Keeps [] w y) {A0 : List Value} (h2 : WoAt R y (.agg A0.toArray) (some (wd0 m))) => after14_any V y (K := 0) (HGL.out _ h) h2 (wd0_upto m 0) HL.out ((HI.out.new h (Nat.le_refl _)).more h.size) (by have := HC1.out; have := HNN.out; omega))
  obtain ⟨X, hX⟩ : ∃ X, X = bhW (wd0 m) l := ⟨_, rfl⟩
  rw [← hX] at HA
  have HXI := Lib.hid (show X.In ∧ X.m = m ∧ X.upto 60 from by
    rw [hX]
    refine ⟨bhW_in _ hWI HL.out, bhW_m _ _, fun S hS => Nat.le_trans (bhW_upto (k := 0) l hWI HL.out (wd0_upto m 0) S hS) ?_⟩
    have := HC1.out; have := HNN.out; omega)
  have HUP := Lib.hid (fun k => show (bhW X (l2.take k)).upto 120 from fun S hS => by
    have h1 := bhW_upto (k := 60) (l2.take k) HXI.out.1 (fun y hy => HL2.out y (List.mem_of_mem_take hy)) HXI.out.2.2 S hS
    have h2 : (l2.take k).length ≤ l2.length := by rw [List.length_take]; omega
    have := HC2.out; have := HNN2.out; omega)
  clear hX hWI
  rcases hor with ⟨X0, e1⟩ | ⟨e0, hne, e1⟩
  · obtain ⟨rfl, rfl⟩ : O = some X0 ∧ er = 0 := by simpa using e1
    have HUT := Lib.hid (HTK.out X0 rfl)
    clear e1 HTK H10
    go_wp2_with ((with_reducible refine wpList_loadW (g := p7) HOT.out ?_ ?_ (block_range HBT.out) ?_); exact rfl; exact rfl)
    refine (V.enc _ _ (some X0) (HGL.out _ HK.out) HAT.out (fun V' e => by obtain rfl := Option.some.inj e; exact HUT.out.2.1)).mono ?_; rintro e w2e ⟨rfl, hk⟩
    rw [show bs (oWB (some X0)) = B from by rw [HBE.out]; exact congrArg bs HUT.out.2.2]
    replace HK := Lib.hid (HK.out.trans hk (FSub.refl _ _))
    try replace HT := Lib.hid (hk.heap HT.out (by simp))
    try replace HAT := Lib.hid (HAT.out.new hk)
    try replace HA1 := Lib.hid (HA1.out.new hk)
    try replace HA2 := Lib.hid (HA2.out.new hk)
    try replace HBT := Lib.hid (hk.heap HBT.out (by simp))
    try replace HBN := Lib.hid (hk.heap HBN.out (by simp))
    try replace HAN := Lib.hid (HAN.out.new hk)
    try replace HB := Lib.hid (hk.heap HB.out (by simp))
    try replace HB1 := Lib.hid (hk.heap HB1.out (by simp))
    try replace HB2 := Lib.hid (hk.heap HB2.out (by simp))
    try replace HRW := Lib.hid (fun j v hv => hk.cell (HRW.out j v hv) (by simp))
    try replace HP1 := Lib.hid (HP1.out.new hk)
    try replace HP2 := Lib.hid (HP2.out.new hk)
    try replace HB15 := Lib.hid (hk.heap HB15.out (by simp))
    try replace HB16 := Lib.hid (hk.heap HB16.out (by simp))
    try replace HB18 := Lib.hid (hk.heap HB18.out (by simp))
    try replace HB19 := Lib.hid (hk.heap HB19.out (by simp))
    clear hk HAT HBT HOT HFT HST
    have tB : (B.toList == B.toList) = true := by simp
    go_wp2_with fail
    refine (HN.out _ HK.out).mono ?_; rintro e w3 ⟨st, rfl, hat, hk, -⟩
    replace HK := Lib.hid (HK.out.trans hk (FSub.refl _ _))
    try replace HT := Lib.hid (hk.heap HT.out (by simp))
    try replace HAT := Lib.hid (HAT.out.new hk)
    try replace HA1 := Lib.hid (HA1.out.new hk)
    try replace HA2 := Lib.hid (HA2.out.new hk)
    try replace HBT := Lib.hid (hk.heap HBT.out (by simp))
    try replace HBN := Lib.hid (hk.heap HBN.out (by simp))
    try replace HAN := Lib.hid (HAN.out.new hk)
    try replace HB := Lib.hid (hk.heap HB.out (by simp))
    try replace HB1 := Lib.hid (hk.heap HB1.out (by simp))
    try replace HB2 := Lib.hid (hk.heap HB2.out (by simp))
    try replace HRW := Lib.hid (fun j v hv => hk.cell (HRW.out j v hv) (by simp))
    try replace HP1 := Lib.hid (HP1.out.new hk)
    try replace HP2 := Lib.hid (HP2.out.new hk)
    try replace HB15 := Lib.hid (hk.heap HB15.out (by simp))
    try replace HB16 := Lib.hid (hk.heap HB16.out (by simp))
    try replace HB18 := Lib.hid (hk.heap HB18.out (by simp))
    try replace HB19 := Lib.hid (hk.heap HB19.out (by simp))
    obtain ⟨AN, rfl, hok⟩ := hat.cells
    have HON := Lib.hid hok
    have HAN := Lib.hid hat
    have HFN := Lib.hid (fun q hq => hat.old q hq)
    clear hat hok hk
    have HNC := Lib.hid (show (w3.alloc (.cells wdZA 33)).heap[w3.heap.size]? = some (.cells wdZ.toArray 33 (0, 0)) from heap_alloc_new w3 _)
    have HNK := Lib.hid (show Keeps [] w3 (w3.alloc (.cells wdZA 33)) from (Keeps.refl _ _).alloc _)
    go_wp2_with ((with_reducible refine wpList_putW (g := w3.heap.size) (old := wdZ) (A := AN) HON.out wdZ_ok ?_ ?_ HNC.out ?_); exact rfl; exact rfl)
    intro w4 hW hk2
    have hk := HNK.out.trans' hk2 (Nat.le_refl _)
    replace HK := Lib.hid (HK.out.trans hk (FSub.refl _ _))
    try replace HT := Lib.hid (hk.heap HT.out (by simp))
    try replace HAT := Lib.hid (HAT.out.new hk)
    try replace HA1 := Lib.hid (HA1.out.new hk)
    try replace HA2 := Lib.hid (HA2.out.new hk)
    try replace HBT := Lib.hid (hk.heap HBT.out (by simp))
    try replace HBN := Lib.hid (hk.heap HBN.out (by simp))
    try replace HAN := Lib.hid (HAN.out.new hk)
    try replace HB := Lib.hid (hk.heap HB.out (by simp))
    try replace HB1 := Lib.hid (hk.heap HB1.out (by simp))
    try replace HB2 := Lib.hid (hk.heap HB2.out (by simp))
    try replace HRW := Lib.hid (fun j v hv => hk.cell (HRW.out j v hv) (by simp))
    try replace HP1 := Lib.hid (HP1.out.new hk)
    try replace HP2 := Lib.hid (HP2.out.new hk)
    try replace HB15 := Lib.hid (hk.heap HB15.out (by simp))
    try replace HB16 := Lib.hid (hk.heap HB16.out (by simp))
    try replace HB18 := Lib.hid (hk.heap HB18.out (by simp))
    try replace HB19 := Lib.hid (hk.heap HB19.out (by simp))
    have HBN := Lib.hid hW
    have HSN := Lib.hid (lt_of_block hW)
    clear hk hW hk2 HNC HNK
    generalize w3.heap.size = p9 at *
    have x1 := (cell_lit HT.out 0 rfl : World.cell? _ _ = some (Value.slice a n cp))
    go_wp2_with ((with_reducible refine wpList_loadW (g := p9) HON.out ?_ ?_ (block_range HBN.out) ?_); exact rfl; exact rfl)
    refine (HA.out _ HK.out HAN.out).mono ?_; rintro e w5 ⟨A, rfl, hat, hk, -⟩
    clear x1
    have HLG := Lib.hid (Nat.lt_of_lt_of_le (lt_of_block HT.out) hk.size)
    replace HK := Lib.hid (HK.out.trans hk (FSub.refl _ _))
    try replace HT := Lib.hid (hk.heap HT.out (by simp))
    try replace HAT := Lib.hid (HAT.out.new hk)
    try replace HA1 := Lib.hid (HA1.out.new hk)
    try replace HA2 := Lib.hid (HA2.out.new hk)
    try replace HBT := Lib.hid (hk.heap HBT.out (by simp))
    try replace HBN := Lib.hid (hk.heap HBN.out (by simp))
    try replace HAN := Lib.hid (HAN.out.new hk)
    try replace HB := Lib.hid (hk.heap HB.out (by simp))
    try replace HB1 := Lib.hid (hk.heap HB1.out (by simp))
    try replace HB2 := Lib.hid (hk.heap HB2.out (by simp))
    try replace HRW := Lib.hid (fun j v hv => hk.cell (HRW.out j v hv) (by simp))
    try replace HP1 := Lib.hid (HP1.out.new hk)
    try replace HP2 := Lib.hid (HP2.out.new hk)
    try replace HB15 := Lib.hid (hk.heap HB15.out (by simp))
    try replace HB16 := Lib.hid (hk.heap HB16.out (by simp))
    try replace HB18 := Lib.hid (hk.heap HB18.out (by simp))
    try replace HB19 := Lib.hid (hk.heap HB19.out (by simp))
    have HO1 := Lib.hid (woAt_ok hat)
    have HA1 := Lib.hid hat
    have HF1 := Lib.hid (fun q hq => hat.old q hq)
    clear hat hk HBN HAN HON HFN HSN HA HN
    have HNC := Lib.hid (show (w5.alloc (.cells wdZA 33)).heap[w5.heap.size]? = some (.cells wdZ.toArray 33 (0, 0)) from heap_alloc_new w5 _)
    have HNK := Lib.hid (show Keeps [] w5 (w5.alloc (.cells wdZA 33)) from (Keeps.refl _ _).alloc _)
    go_wp2_with ((with_reducible refine wpList_putW (g := w5.heap.size) (old := wdZ) (A := A) HO1.out wdZ_ok ?_ ?_ HNC.out ?_); exact rfl; exact rfl)
    intro w6 hW hk2
    have hk := HNK.out.trans' hk2 (Nat.le_refl _)
    replace HK := Lib.hid (HK.out.trans hk (FSub.refl _ _))
    try replace HT := Lib.hid (hk.heap HT.out (by simp))
    try replace HAT := Lib.hid (HAT.out.new hk)
    try replace HA1 := Lib.hid (HA1.out.new hk)
    try replace HA2 := Lib.hid (HA2.out.new hk)
    try replace HBT := Lib.hid (hk.heap HBT.out (by simp))
    try replace HBN := Lib.hid (hk.heap HBN.out (by simp))
    try replace HAN := Lib.hid (HAN.out.new hk)
    try replace HB := Lib.hid (hk.heap HB.out (by simp))
    try replace HB1 := Lib.hid (hk.heap HB1.out (by simp))
    try replace HB2 := Lib.hid (hk.heap HB2.out (by simp))
    try replace HRW := Lib.hid (fun j v hv => hk.cell (HRW.out j v hv) (by simp))
    try replace HP1 := Lib.hid (HP1.out.new hk)
    try replace HP2 := Lib.hid (HP2.out.new hk)
    try replace HB15 := Lib.hid (hk.heap HB15.out (by simp))
    try replace HB16 := Lib.hid (hk.heap HB16.out (by simp))
    try replace HB18 := Lib.hid (hk.heap HB18.out (by simp))
    try replace HB19 := Lib.hid (hk.heap HB19.out (by simp))
    have HB1 := Lib.hid hW
    clear hk hW hk2 HNC HNK
    generalize w5.heap.size = p11 at *
    go_wp2_with ((with_reducible refine wpList_loadW (g := p11) HO1.out ?_ ?_ (block_range HB1.out) ?_); exact rfl; exact rfl)
    refine (V.enc _ _ (some X) (HGL.out _ HK.out) HA1.out (fun V' e => by obtain rfl := Option.some.inj e; exact fun S hS => Nat.le_trans (HXI.out.2.2 S hS) (by decide))).mono ?_; rintro e w7 ⟨rfl, hk⟩
    replace HK := Lib.hid (HK.out.trans hk (FSub.refl _ _))
    try replace HT := Lib.hid (hk.heap HT.out (by simp))
    try replace HAT := Lib.hid (HAT.out.new hk)
    try replace HA1 := Lib.hid (HA1.out.new hk)
    try replace HA2 := Lib.hid (HA2.out.new hk)
    try replace HBT := Lib.hid (hk.heap HBT.out (by simp))
    try replace HBN := Lib.hid (hk.heap HBN.out (by simp))
    try replace HAN := Lib.hid (HAN.out.new hk)
    try replace HB := Lib.hid (hk.heap HB.out (by simp))
    try replace HB1 := Lib.hid (hk.heap HB1.out (by simp))
    try replace HB2 := Lib.hid (hk.heap HB2.out (by simp))
    try replace HRW := Lib.hid (fun j v hv => hk.cell (HRW.out j v hv) (by simp))
    try replace HP1 := Lib.hid (HP1.out.new hk)
    try replace HP2 := Lib.hid (HP2.out.new hk)
    try replace HB15 := Lib.hid (hk.heap HB15.out (by simp))
    try replace HB16 := Lib.hid (hk.heap HB16.out (by simp))
    try replace HB18 := Lib.hid (hk.heap HB18.out (by simp))
    try replace HB19 := Lib.hid (hk.heap HB19.out (by simp))
    clear hk
    go_wp2_with fail
    refine (V.dec _ m (oWB (some X)) (HGL.out _ HK.out) HM.out (by have := wdB_len HXI.out.1 HXI.out.2.2; show (wdB X).length ≤ _; omega) (wShort_wd HXI.out.1 (fun S hS => Nat.le_trans (HXI.out.2.2 S hS) (by decide)) _)).mono ?_; rintro e w8 ⟨st, rfl, hat, hk, hfr⟩
    rw [show wdDec m (oWB (some X)) = (some X, 0) from by
      have h := wdDec_back HXI.out.1 (fun S hS => Nat.le_trans (HXI.out.2.2 S hS) (by decide))
      rw [HXI.out.2.1] at h; exact h] at hat ⊢
    have HFR := Lib.hid (fun q hq => Nat.lt_of_lt_of_le (lt_of_block HB1.out) (hfr q hq))
    have HL12 := Lib.hid (Nat.lt_of_lt_of_le (lt_of_block HB1.out) hk.size)
    clear hfr
    replace HK := Lib.hid (HK.out.trans hk (FSub.refl _ _))
    try replace HT := Lib.hid (hk.heap HT.out (by simp))
    try replace HAT := Lib.hid (HAT.out.new hk)
    try replace HA1 := Lib.hid (HA1.out.new hk)
    try replace HA2 := Lib.hid (HA2.out.new hk)
    try replace HBT := Lib.hid (hk.heap HBT.out (by simp))
    try replace HBN := Lib.hid (hk.heap HBN.out (by simp))
    try replace HAN := Lib.hid (HAN.out.new hk)
    try replace HB := Lib.hid (hk.heap HB.out (by simp))
    try replace HB1 := Lib.hid (hk.heap HB1.out (by simp))
    try replace HB2 := Lib.hid (hk.heap HB2.out (by simp))
    try replace HRW := Lib.hid (fun j v hv => hk.cell (HRW.out j v hv) (by simp))
    try replace HP1 := Lib.hid (HP1.out.new hk)
    try replace HP2 := Lib.hid (HP2.out.new hk)
    try replace HB15 := Lib.hid (hk.heap HB15.out (by simp))
    try replace HB16 := Lib.hid (hk.heap HB16.out (by simp))
    try replace HB18 := Lib.hid (hk.heap HB18.out (by simp))
    try replace HB19 := Lib.hid (hk.heap HB19.out (by simp))
    obtain ⟨C, rfl, hok⟩ := hat.cells
    have HO2 := Lib.hid hok
    have HA2 := Lib.hid hat
    have HF2 := Lib.hid (fun q hq => hat.old q hq)
    clear hat hok hk
    have HNC := Lib.hid (show (w8.alloc (.cells wdZA 33)).heap[w8.heap.size]? = some (.cells wdZ.toArray 33 (0, 0)) from heap_alloc_new w8 _)
    have HNK := Lib.hid (show Keeps [] w8 (w8.alloc (.cells wdZA 33)) from (Keeps.refl _ _).alloc _)
    go_wp2_with ((with_reducible refine wpList_putW (g := w8.heap.size) (old := wdZ) (A := C) HO2.out wdZ_ok ?_ ?_ HNC.out ?_); exact rfl; exact rfl)
    intro w9 hW hk2
    have hk := HNK.out.trans' hk2 (Nat.le_refl _)
    replace HK := Lib.hid (HK.out.trans hk (FSub.refl _ _))
    try replace HT := Lib.hid (hk.heap HT.out (by simp))
    try replace HAT := Lib.hid (HAT.out.new hk)
    try replace HA1 := Lib.hid (HA1.out.new hk)
    try replace HA2 := Lib.hid (HA2.out.new hk)
    try replace HBT := Lib.hid (hk.heap HBT.out (by simp))
    try replace HBN := Lib.hid (hk.heap HBN.out (by simp))
    try replace HAN := Lib.hid (HAN.out.new hk)
    try replace HB := Lib.hid (hk.heap HB.out (by simp))
    try replace HB1 := Lib.hid (hk.heap HB1.out (by simp))
    try replace HB2 := Lib.hid (hk.heap HB2.out (by simp))
    try replace HRW := Lib.hid (fun j v hv => hk.cell (HRW.out j v hv) (by simp))
    try replace HP1 := Lib.hid (HP1.out.new hk)
    try replace HP2 := Lib.hid (HP2.out.new hk)
    try replace HB15 := Lib.hid (hk.heap HB15.out (by simp))
    try replace HB16 := Lib.hid (hk.heap HB16.out (by simp))
    try replace HB18 := Lib.hid (hk.heap HB18.out (by simp))
    try replace HB19 := Lib.hid (hk.heap HB19.out (by simp))
    have HB2 := Lib.hid hW
    have HS2 := Lib.hid (lt_of_block hW)
    clear hk hW hk2 HNC HNK
    generalize w8.heap.size = p12 at *
    go_wp2_with fail
    go_loopw [14] (fun i wr => ∃ (k : Nat) (A C : List Value), i = .int .i64 k ∧ k ≤ n2 ∧ skW.Ok A ∧ skW.Ok C ∧ wr.heap[p11]? = some (.cells A.toArray 33 (0, 0)) ∧ wr.heap[p12]? = some (.cells C.toArray 33 (0, 0)) ∧ WoAt R wr (.agg A.toArray) (some (bhW X (l2.take k))) ∧ WoAt R wr (.agg C.toArray) (some (bhW X (l2.take k))) ∧ (∀ q ∈ wFoot R (.agg A.toArray), q ≠ p11 ∧ q ≠ p12) ∧ (∀ q ∈ wFoot R (.agg C.toArray), q ≠ p11 ∧ q ≠ p12) ∧ wr.heap[w.heap.size]? = some (.cells #[.slice a n cp, .slice a2 n2 cp2] 68 (0, 0)) ∧ Keeps [] w wr) (fun i _ => n2 - (intOf i).toNat)
    case atStart => exact ⟨0, A, C, rfl, by omega, HO1.out, HO2.out, HB1.out, HB2.out, HA1.out, HA2.out, fun q hq => by have h1 := HF1.out q hq; have h2 := HL12.out; exact ⟨Nat.ne_of_lt h1, by omega⟩, fun q hq => by have h1 := HF2.out q hq; have h2 := HFR.out q hq; exact ⟨Nat.ne_of_gt h2, Nat.ne_of_lt h1⟩, HT.out, HK.out⟩
    case round =>
      clear HO1 HO2 HB1 HB2 HA1 HA2 HF1 HF2 HFR HT HK HS2
      obtain ⟨k, A, C, rfl, hk, hoa, hoc, hb1, hb2, ha1, ha2, hfa, hfc, ht, hkw⟩ := hrel
      have HO1 := Lib.hid hoa; have HO2 := Lib.hid hoc; have HB1 := Lib.hid hb1; have HB2 := Lib.hid hb2; have HA1 := Lib.hid ha1; have HA2 := Lib.hid ha2; have HFA := Lib.hid hfa; have HFC := Lib.hid hfc; have HT := Lib.hid ht; have HK := Lib.hid hkw
      clear hoa hoc hb1 hb2 ha1 ha2 hfa hfc ht hkw
      have x2 := (cell_lit HT.out 1 rfl : World.cell? _ _ = some (Value.slice a2 n2 cp2))
      by_cases hlt : k < n2
      · have hkl : k < l2.length := by have := HNN2.out; omega
        obtain ⟨g, o, rfl, hg, hr⟩ := InC14_at (HI2.out.new HK.out (Nat.le_refl _)) hkl
        have HRW := Lib.hid hr
        have HNX := Lib.hid (bhW_next (W := X) hkl)
        have HXI2 := Lib.hid (HL2.out l2[k] (List.getElem_mem hkl))
        have HLK := Lib.hid (show (bhW X (l2.take k)).upto 1000 from fun S hS => Nat.le_trans (HUP.out k S hS) (by decide))
        have HLU := Lib.hid (show (bhW X (l2.take (k + 1))).upto 1000 from fun S hS => Nat.le_trans (HUP.out (k + 1) S hS) (by decide))
        rw [HNX.out] at HLU
        clear hr hg
        generalize l2[k] = y at *
        generalize bhW X (l2.take k) = W at *
        obtain ⟨W1, hW1⟩ : ∃ W1, W1 = (wdX W y.c y.x).1 := ⟨_, rfl⟩
        obtain ⟨r, hr⟩ : ∃ r, r = (wdX W y.c y.x).2.1 := ⟨_, rfl⟩
        obtain ⟨e1, he1⟩ : ∃ e1, e1 = (wdX W y.c y.x).2.2 := ⟨_, rfl⟩
        rw [← hW1] at HNX HLU
        have HW1 := Lib.hid hW1.symm; have HR1 := Lib.hid hr.symm; have HE1 := Lib.hid he1.symm
        clear hW1 hr he1
        obtain ⟨V0, hV0⟩ : ∃ V0, V0 = wr := ⟨_, rfl⟩
        subst hV0
        go_wp2_with fail
        clear x2
        refine wp_join13 (fun qa qb zv us a => (((((((((((((((((((((a.put (some 85) (us.getD 0 undef)).put (some 86) (us.getD 1 undef)).put (some 87) (us.getD 2 undef)).put (some 88) (us.getD 3 undef)).put (some 89) (us.getD 4 undef)).put (some 90) (us.getD 5 undef)).put (some 91) (us.getD 6 undef)).put (some 92) (us.getD 7 undef)).put (some 93) (us.getD 8 undef)).put (some 94) (us.getD 9 undef)).put (some 95) (us.getD 10 undef)).put (some 96) (us.getD 11 undef)).put (some 97) (us.getD 12 undef)).put (some 98) (us.getD 13 undef)).put (some 84) (us.getD 14 undef)).put (some 99) (us.getD 15 undef)).put (some 100) (us.getD 16 undef)).put (some 101) (us.getD 17 undef)).put (some 15) (.pointer (some ⟨qa, 0, none⟩))).put (some 16) (.pointer (some ⟨qb, 0, none⟩))).put (some 17) (.int .i64 e1))) (Fin3 (kpW R (some W1)) 33 r (ApW R A) V0) ?_ ?_
        · skip
          obtain ⟨OL, hOL⟩ : ∃ OL, OL = ApW R A := ⟨_, rfl⟩
          obtain ⟨KP, hKP⟩ : ∃ KP, KP = kpW R (some W1) := ⟨_, rfl⟩
          have HOKP := Lib.hid (show ∀ x w, KP.P x w → skW.Ok (KP.cs x) from by rw [hKP]; exact kpW_ok R _)
          have HOL := Lib.hid (show ∀ p : Nat → Prop, (∀ q, q < V0.heap.size → p q) → OL p from by rw [hOL]; exact fun p hp q hq => hp q (HA1.out.old q hq))
          have HST := Lib.hid (fun w' (h : Keeps [] V0 w') => WdProg.post V w' (A := A) (O := some W) (HGL.out _ (HK.out.trans h (FSub.refl _ _))) (HA1.out.new h) (fun W' hW' => by obtain rfl := Option.some.inj hW'; exact HLK.out) ⟨HXI2.out.c0, HXI2.out.c1⟩ HXI2.out.x)
          simp only [oWX] at HST
          rw [HW1.out, HR1.out, HE1.out, ← hOL, ← hKP] at HST
          rw [← hOL, ← hKP]
          clear hOL hKP
          obtain ⟨S0, hS0⟩ : ∃ S0 : World → Prop, S0 = fun y => Keeps [] V0 y := ⟨_, rfl⟩
          have HSE := Lib.hid hS0
          have hSD : S0 V0.drew := by rw [hS0]; exact (Keeps.refl _ _).drew
          have HSA := Lib.hid (fun (w' : World) (hh : S0 w') => show w'.rangeAt p11 0 A from by rw [hS0] at hh; exact block_range (hh.heap HB1.out (by simp)))
          have HSC := Lib.hid (fun (w' : World) (hh : S0 w') => show w'.cell? ⟨g, o + k * 6, none⟩ = some (.int .u8 y.c) from by rw [hS0] at hh; exact hh.cell (cl_parts HRW.out).1 (by simp))
          have HSX := Lib.hid (fun (w' : World) (hh : S0 w') => show w'.rangeAt g (o + k * 6 + 1) (opC y.x) from by rw [hS0] at hh; exact fun j v hv => hh.cell ((cl_parts HRW.out).2 j v hv) (by simp))
          have HST2 := Lib.hid (fun (w' : World) (hh : S0 w') => show w'.cell? ⟨w.heap.size, 1, none⟩ = some (.slice (some ⟨g, o, none⟩) n2 cp2) from by rw [hS0] at hh; exact cell_lit (hh.heap HT.out (by simp)) 1 rfl)
          clear hS0
          refine wp_region_noPanic ?_
          refine wp_region_held_drew (S := S0) (by kernel_rfl) hSD (fun hHeld => ?_)
          apply wpAnyH_take (i := 0)
          · simp only [List.getElem?_toArray]; rfl
          iterate 3 (· kernel_rfl)
          · exact fun _ _ _ h => h
          · exact skW.yields HO1.out rfl _ rfl p11 0 rfl HSA.out
          · assumption
          try simp only [Act.put, lsA, lsZ, lsS]
          apply wpAnyH_take (i := 1)
          · simp only [List.getElem?_toArray]; rfl
          iterate 3 (· kernel_rfl)
          · exact fun _ _ _ h => h
          · exact Or.inl ⟨by rfl, by intro w hSw; go_simp; try with_reducible rfl⟩
          · assumption
          try simp only [Act.put, lsA, lsZ, lsS]
          apply wpAnyH_take (i := 2)
          · simp only [List.getElem?_toArray]; rfl
          iterate 3 (· kernel_rfl)
          · exact fun _ _ _ h => h
          · exact Or.inl ⟨by rfl, by intro w hSw; have q0 := HST2.out w hSw; go_simp; try with_reducible rfl⟩
          · assumption
          try simp only [Act.put, lsA, lsZ, lsS]
          apply wpAnyH_take (i := 3)
          · simp only [List.getElem?_toArray]; rfl
          iterate 3 (· kernel_rfl)
          · exact fun _ _ _ h => h
          · exact Or.inl ⟨by rfl, by intro w hSw; go_simp; try with_reducible rfl⟩
          · assumption
          try simp only [Act.put, lsA, lsZ, lsS]
          apply wpAnyH_take (i := 4)
          · simp only [List.getElem?_toArray]; rfl
          iterate 3 (· kernel_rfl)
          · exact fun _ _ _ h => h
          · exact yields_indexC14 rfl _ _ rfl g o n2 cp2 k rfl rfl hlt
          · assumption
          try simp only [Act.put, lsA, lsZ, lsS]
          apply wpAnyH_take (i := 5)
          · simp only [List.getElem?_toArray]; rfl
          iterate 3 (· kernel_rfl)
          · exact fun _ _ _ h => h
          · exact Or.inl ⟨by rfl, by intro w hSw; go_simp; try with_reducible rfl⟩
          · assumption
          try simp only [Act.put, lsA, lsZ, lsS]
          apply wpAnyH_take (i := 6)
          · simp only [List.getElem?_toArray]; rfl
          iterate 3 (· kernel_rfl)
          · exact fun _ _ _ h => h
          · exact Or.inl ⟨by rfl, by intro w hSw; have q0 := HSC.out w hSw; go_simp; try with_reducible rfl⟩
          · assumption
          try simp only [Act.put, lsA, lsZ, lsS]
          apply wpAnyH_take (i := 7)
          · simp only [List.getElem?_toArray]; rfl
          iterate 3 (· kernel_rfl)
          · exact fun _ _ _ h => h
          · exact Or.inl ⟨by rfl, by intro w hSw; go_simp; try with_reducible rfl⟩
          · assumption
          try simp only [Act.put, lsA, lsZ, lsS]
          apply wpAnyH_take (i := 8)
          · simp only [List.getElem?_toArray]; rfl
          iterate 3 (· kernel_rfl)
          · exact fun _ _ _ h => h
          · exact Or.inl ⟨by rfl, by intro w hSw; have q0 := HST2.out w hSw; go_simp; try with_reducible rfl⟩
          · assumption
          try simp only [Act.put, lsA, lsZ, lsS]
          apply wpAnyH_take (i := 9)
          · simp only [List.getElem?_toArray]; rfl
          iterate 3 (· kernel_rfl)
          · exact fun _ _ _ h => h
          · exact Or.inl ⟨by rfl, by intro w hSw; go_simp; try with_reducible rfl⟩
          · assumption
          try simp only [Act.put, lsA, lsZ, lsS]
          apply wpAnyH_take (i := 10)
          · simp only [List.getElem?_toArray]; rfl
          iterate 3 (· kernel_rfl)
          · exact fun _ _ _ h => h
          · exact yields_indexC14 rfl _ _ rfl g o n2 cp2 k rfl rfl hlt
          · assumption
          try simp only [Act.put, lsA, lsZ, lsS]
          apply wpAnyH_take (i := 11)
          · simp only [List.getElem?_toArray]; rfl
          iterate 3 (· kernel_rfl)
          · exact fun _ _ _ h => h
          · exact Or.inl ⟨by rfl, by intro w hSw; go_simp; try with_reducible rfl⟩
          · assumption
          try simp only [Act.put, lsA, lsZ, lsS]
          apply wpAnyH_take (i := 12)
          · simp only [List.getElem?_toArray]; rfl
          iterate 3 (· kernel_rfl)
          · exact fun _ _ _ h => h
          · exact yields_loadP y.x rfl _ rfl g _ rfl HSX.out
          · assumption
          try simp only [Act.put, lsA, lsZ, lsS]
          have HY := Lib.hid ((Keeps.refl [] V0).drew)
          generalize V0.drew = YC at *
          iterate 3
            all_goals
              first
                | apply wpAnyH_ready (rs := [13, 18, 19])
                  · decide +kernel
                  · simp
                  refine AllReadyH.cons (by simp only [List.getElem?_toArray]; rfl) ?_ (AllReadyH.cons (by simp only [List.getElem?_toArray]; rfl) ?_ (AllReadyH.cons (by simp only [List.getElem?_toArray]; rfl) ?_ (AllReadyH.nil)))
                | apply wpAnyH_ready (rs := [13, 18])
                  · decide +kernel
                  · simp
                  refine AllReadyH.cons (by simp only [List.getElem?_toArray]; rfl) ?_ (AllReadyH.cons (by simp only [List.getElem?_toArray]; rfl) ?_ (AllReadyH.nil))
                | apply wpAnyH_ready (rs := [13, 19])
                  · decide +kernel
                  · simp
                  refine AllReadyH.cons (by simp only [List.getElem?_toArray]; rfl) ?_ (AllReadyH.cons (by simp only [List.getElem?_toArray]; rfl) ?_ (AllReadyH.nil))
                | apply wpAnyH_ready (rs := [18, 19])
                  · decide +kernel
                  · simp
                  refine AllReadyH.cons (by simp only [List.getElem?_toArray]; rfl) ?_ (AllReadyH.cons (by simp only [List.getElem?_toArray]; rfl) ?_ (AllReadyH.nil))
                | apply wpAnyH_ready (rs := [13])
                  · decide +kernel
                  · simp
                  refine AllReadyH.cons (by simp only [List.getElem?_toArray]; rfl) ?_ (AllReadyH.nil)
                | apply wpAnyH_ready (rs := [18])
                  · decide +kernel
                  · simp
                  refine AllReadyH.cons (by simp only [List.getElem?_toArray]; rfl) ?_ (AllReadyH.nil)
                | apply wpAnyH_ready (rs := [19])
                  · decide +kernel
                  · simp
                  refine AllReadyH.cons (by simp only [List.getElem?_toArray]; rfl) ?_ (AllReadyH.nil)
              all_goals
                intro K hK
                rw [if_pos (by rfl)]
                first
                | refine wp_call9 13 _ _ rfl [.agg A.toArray, .int .u8 y.c, y.x.val] rfl Tryz.func13 (by kernel_rfl) (by kernel_rfl) ((HST.out _ HY.out).mono ?_)
                  rintro e YC ⟨x1, rfl, hpp, hk, hf⟩
                  refine ⟨_, rfl, ?_⟩
                  try have HFA := Lib.hid (show KP.Ap x1 (fun q => q ≠ ga) from hf _ (HOL.out _ (fun q hq => by have := HGA.out; omega)) (fun q hq => by have := HLA.out; omega))
                  try have HFB := Lib.hid (show KP.Ap x1 (fun q => q ≠ gb) from hf _ (HOL.out _ (fun q hq => by have := HGB.out; omega)) (fun q hq => by have := HLB.out; omega))
                  have HFN := Lib.hid (show ∀ p : Nat → Prop, OL p → (∀ q, V0.heap.size ≤ q → p q) → KP.Ap x1 p from fun p h1 h2 => hf p h1 (fun q hq => h2 q (Nat.le_trans HY.out.size hq)))
                  try replace HBA := Lib.hid (hk.heap HBA.out (by simp))
                  try replace HBB := Lib.hid (hk.heap HBB.out (by simp))
                  try replace HAT := Lib.hid (KP.new HAT.out hk)
                  try replace HLA := Lib.hid (Nat.lt_of_lt_of_le HLA.out hk.size)
                  try replace HLB := Lib.hid (Nat.lt_of_lt_of_le HLB.out hk.size)
                  replace HY := Lib.hid (HY.out.trans hk (FSub.refl _ _))
                  have HAT := Lib.hid hpp
                  clear hpp hk hf
                  refine hK.out _ _ ?_ (fun hHeld => ?_)
                  · exact (by rw [HSE.out]; exact HY.out)
                  clear hK K
                  try simp only [Act.put, lsA, lsZ, lsS]
                  apply wpAnyH_take (i := 14)
                  · simp only [List.getElem?_toArray]; rfl
                  iterate 3 (· kernel_rfl)
                  · exact fun _ _ _ h => h
                  · exact Or.inl ⟨by rfl, by intro w hSw; go_simp; try with_reducible rfl⟩
                  · assumption
                  try simp only [Act.put, lsA, lsZ, lsS]
                  apply wpAnyH_take (i := 15)
                  · simp only [List.getElem?_toArray]; rfl
                  iterate 3 (· kernel_rfl)
                  · exact fun _ _ _ h => h
                  · exact Or.inl ⟨by rfl, by intro w hSw; go_simp; try with_reducible rfl⟩
                  · assumption
                  try simp only [Act.put, lsA, lsZ, lsS]
                  apply wpAnyH_take (i := 16)
                  · simp only [List.getElem?_toArray]; rfl
                  iterate 3 (· kernel_rfl)
                  · exact fun _ _ _ h => h
                  · exact Or.inl ⟨by rfl, by intro w hSw; go_simp; try with_reducible rfl⟩
                  · assumption
                  try simp only [Act.put, lsA, lsZ, lsS]
                  apply wpAnyH_take (i := 17)
                  · simp only [List.getElem?_toArray]; rfl
                  iterate 3 (· kernel_rfl)
                  · exact fun _ _ _ h => h
                  · exact Or.inl ⟨by rfl, by intro w hSw; go_simp; try with_reducible rfl⟩
                  · assumption
                  try simp only [Act.put, lsA, lsZ, lsS]
                | refine wp_allocW14 rfl ?_
                  have hk : Keeps [] YC (YC.alloc (.cells wdZ.toArray 33)) := (Keeps.refl _ _).alloc _
                  have hb := heap_alloc_new YC (.cells wdZ.toArray 33)
                  try have HFA := Lib.hid (show KP.Ap x1 (fun q => q ≠ YC.heap.size) from KP.mono (KP.old HAT.out) (fun q hq => Nat.ne_of_lt hq))
                  try have HAB := Lib.hid (show YC.heap.size ≠ gb from Nat.ne_of_gt HLB.out)
                  have HGA := Lib.hid HY.out.size
                  try replace HBA := Lib.hid (hk.heap HBA.out (by simp))
                  try replace HBB := Lib.hid (hk.heap HBB.out (by simp))
                  try replace HAT := Lib.hid (KP.new HAT.out hk)
                  try replace HLA := Lib.hid (Nat.lt_of_lt_of_le HLA.out hk.size)
                  try replace HLB := Lib.hid (Nat.lt_of_lt_of_le HLB.out hk.size)
                  replace HY := Lib.hid (HY.out.trans hk (FSub.refl _ _))
                  have HBA := Lib.hid hb
                  have HLA := Lib.hid (lt_of_block hb)
                  clear hk hb
                  generalize YC.heap.size = ga at *
                  generalize YC.alloc (.cells wdZ.toArray 33) = YC at *
                  refine hK.out _ _ ?_ (fun hHeld => ?_)
                  · exact (by rw [HSE.out]; exact HY.out)
                  clear hK K
                  try simp only [Act.put, lsA, lsZ, lsS]
                | refine wp_allocA _ _ _ _ rfl ?_
                  have hk : Keeps [] YC (YC.alloc (.cells (ansC ⟨0, 0⟩).toArray 25)) := (Keeps.refl _ _).alloc _
                  have hb := heap_alloc_new YC (.cells (ansC ⟨0, 0⟩).toArray 25)
                  try have HFB := Lib.hid (show KP.Ap x1 (fun q => q ≠ YC.heap.size) from KP.mono (KP.old HAT.out) (fun q hq => Nat.ne_of_lt hq))
                  try have HAB := Lib.hid (show ga ≠ YC.heap.size from Nat.ne_of_lt HLA.out)
                  have HGB := Lib.hid HY.out.size
                  try replace HBA := Lib.hid (hk.heap HBA.out (by simp))
                  try replace HBB := Lib.hid (hk.heap HBB.out (by simp))
                  try replace HAT := Lib.hid (KP.new HAT.out hk)
                  try replace HLA := Lib.hid (Nat.lt_of_lt_of_le HLA.out hk.size)
                  try replace HLB := Lib.hid (Nat.lt_of_lt_of_le HLB.out hk.size)
                  replace HY := Lib.hid (HY.out.trans hk (FSub.refl _ _))
                  have HBB := Lib.hid hb
                  have HLB := Lib.hid (lt_of_block hb)
                  clear hk hb
                  generalize YC.heap.size = gb at *
                  generalize YC.alloc (.cells (ansC ⟨0, 0⟩).toArray 25) = YC at *
                  refine hK.out _ _ ?_ (fun hHeld => ?_)
                  · exact (by rw [HSE.out]; exact HY.out)
                  clear hK K
                  try simp only [Act.put, lsA, lsZ, lsS]
          all_goals
            apply wpAnyH_ready (rs := [20])
            · kernel_rfl
            · simp
            apply AllReadyH.cons (hs := AllReadyH.nil)
            · simp only [List.getElem?_toArray]; rfl
            intro K hK
            rw [if_pos (by rfl)]
            refine skW.wp_put rfl (g := ga) (old := wdZ) (A := KP.cs x1) (HOKP.out _ _ HAT.out) wdZ_ok rfl rfl HBA.out (fun YC hV hk => ?_)
            replace HBA := Lib.hid hV
            replace HBB := Lib.hid (hk.heap HBB.out (by have := HAB.out; simp; exact fun e => this e.symm))
            replace HAT := Lib.hid (KP.put HAT.out hk HFA.out)
            replace HY := Lib.hid (HY.out.trans' hk HGA.out)
            clear hV hk
            refine hK.out _ _ ?_ (fun hHeld => ?_)
            · exact (by rw [HSE.out]; exact HY.out)
            clear hK K
            try simp only [Act.put, lsA, lsZ, lsS]
            apply wpAnyH_ready (rs := [21])
            · kernel_rfl
            · simp
            apply AllReadyH.cons (hs := AllReadyH.nil)
            · simp only [List.getElem?_toArray]; rfl
            intro K hK
            rw [if_pos (by rfl)]
            refine wp_putN rfl (g := gb) (old := ⟨0, 0⟩) r rfl rfl HBB.out (fun YC hV hk => ?_)
            replace HBB := Lib.hid hV
            replace HBA := Lib.hid (hk.heap HBA.out (by have := HAB.out; simpa using this))
            replace HAT := Lib.hid (KP.put HAT.out hk HFB.out)
            replace HY := Lib.hid (HY.out.trans' hk HGB.out)
            clear hV hk
            refine hK.out _ _ ?_ (fun hHeld => ?_)
            · exact (by rw [HSE.out]; exact HY.out)
            clear hK K
            try simp only [Act.put, lsA, lsZ, lsS]
            apply wpAnyH_take (i := 22)
            · simp only [List.getElem?_toArray]; rfl
            iterate 3 (· kernel_rfl)
            · exact fun _ _ _ h => h
            · exact Or.inl ⟨by rfl, by intro w hSw; go_simp; try with_reducible rfl⟩
            · assumption
            try simp only [Act.put, lsA, lsZ, lsS]
            refine wpAnyH_done (by kernel_rfl) ?_ _
            refine NoPanic.normal ?_
            exact ⟨rfl, ga, gb, .agg (KP.cs x1).toArray, [_, _, _, _, _, _, _, _, _, _, _, _, _, _, _, _, _, _], rfl, x1, rfl, HBA.out, HBB.out, HAT.out, HY.out, HGA.out, HGB.out, HAB.out, HFN.out, KP.and_ HFA.out HFB.out⟩
        rintro p15 p16 zv us V1 ⟨x1, rfl, hba, hbb, hp, hk, hga, hgb, hab, hol, hap⟩
        simp only [Act.put, lsA, lsZ, lsS]
        have HF15 := Lib.hid (show ∀ q ∈ wFoot R (.agg x1.toArray), q ≠ p11 ∧ q ≠ p12 from hol (fun q => q ≠ p11 ∧ q ≠ p12) HFA.out (fun q hq => by have h1 := lt_of_block HB1.out; have h2 := lt_of_block HB2.out; omega))
        replace HK := Lib.hid (HK.out.trans hk (FSub.refl _ _))
        try replace HT := Lib.hid (hk.heap HT.out (by simp))
        try replace HAT := Lib.hid (HAT.out.new hk)
        try replace HA1 := Lib.hid (HA1.out.new hk)
        try replace HA2 := Lib.hid (HA2.out.new hk)
        try replace HBT := Lib.hid (hk.heap HBT.out (by simp))
        try replace HBN := Lib.hid (hk.heap HBN.out (by simp))
        try replace HAN := Lib.hid (HAN.out.new hk)
        try replace HB := Lib.hid (hk.heap HB.out (by simp))
        try replace HB1 := Lib.hid (hk.heap HB1.out (by simp))
        try replace HB2 := Lib.hid (hk.heap HB2.out (by simp))
        try replace HRW := Lib.hid (fun j v hv => hk.cell (HRW.out j v hv) (by simp))
        try replace HP1 := Lib.hid (HP1.out.new hk)
        try replace HP2 := Lib.hid (HP2.out.new hk)
        try replace HB15 := Lib.hid (hk.heap HB15.out (by simp))
        try replace HB16 := Lib.hid (hk.heap HB16.out (by simp))
        try replace HB18 := Lib.hid (hk.heap HB18.out (by simp))
        try replace HB19 := Lib.hid (hk.heap HB19.out (by simp))
        have HB15 := Lib.hid (show V1.heap[p15]? = some (.cells x1.toArray 33 (0, 0)) from hba); have HB16 := Lib.hid hbb
        have HP1 := Lib.hid (show WoAt R V1 (.agg x1.toArray) (some W1) from hp)
        have HO15 := Lib.hid (woAt_ok HP1.out)
        clear hba hbb hp hk hga hgb hab hol hap
        go_wp2_with fail
        refine wp_join13 (fun qa qb zv us a => (((((((((((((((((((((a.put (some 103) (us.getD 0 undef)).put (some 104) (us.getD 1 undef)).put (some 105) (us.getD 2 undef)).put (some 106) (us.getD 3 undef)).put (some 107) (us.getD 4 undef)).put (some 108) (us.getD 5 undef)).put (some 109) (us.getD 6 undef)).put (some 110) (us.getD 7 undef)).put (some 111) (us.getD 8 undef)).put (some 112) (us.getD 9 undef)).put (some 113) (us.getD 10 undef)).put (some 114) (us.getD 11 undef)).put (some 115) (us.getD 12 undef)).put (some 116) (us.getD 13 undef)).put (some 102) (us.getD 14 undef)).put (some 117) (us.getD 15 undef)).put (some 118) (us.getD 16 undef)).put (some 119) (us.getD 17 undef)).put (some 18) (.pointer (some ⟨qa, 0, none⟩))).put (some 19) (.pointer (some ⟨qb, 0, none⟩))).put (some 20) (.int .i64 e1))) (Fin3 (kpW R (some W1)) 33 r (ApW R C) V1) ?_ ?_
        · skip
          obtain ⟨OL, hOL⟩ : ∃ OL, OL = ApW R C := ⟨_, rfl⟩
          obtain ⟨KP, hKP⟩ : ∃ KP, KP = kpW R (some W1) := ⟨_, rfl⟩
          have HOKP := Lib.hid (show ∀ x w, KP.P x w → skW.Ok (KP.cs x) from by rw [hKP]; exact kpW_ok R _)
          have HOL := Lib.hid (show ∀ p : Nat → Prop, (∀ q, q < V1.heap.size → p q) → OL p from by rw [hOL]; exact fun p hp q hq => hp q (HA2.out.old q hq))
          have HST := Lib.hid (fun w' (h : Keeps [] V1 w') => WdProg.post V w' (A := C) (O := some W) (HGL.out _ (HK.out.trans h (FSub.refl _ _))) (HA2.out.new h) (fun W' hW' => by obtain rfl := Option.some.inj hW'; exact HLK.out) ⟨HXI2.out.c0, HXI2.out.c1⟩ HXI2.out.x)
          simp only [oWX] at HST
          rw [HW1.out, HR1.out, HE1.out, ← hOL, ← hKP] at HST
          rw [← hOL, ← hKP]
          clear hOL hKP
          obtain ⟨S0, hS0⟩ : ∃ S0 : World → Prop, S0 = fun y => Keeps [] V1 y := ⟨_, rfl⟩
          have HSE := Lib.hid hS0
          have hSD : S0 V1.drew := by rw [hS0]; exact (Keeps.refl _ _).drew
          have HSA := Lib.hid (fun (w' : World) (hh : S0 w') => show w'.rangeAt p12 0 C from by rw [hS0] at hh; exact block_range (hh.heap HB2.out (by simp)))
          have HSC := Lib.hid (fun (w' : World) (hh : S0 w') => show w'.cell? ⟨g, o + k * 6, none⟩ = some (.int .u8 y.c) from by rw [hS0] at hh; exact hh.cell (cl_parts HRW.out).1 (by simp))
          have HSX := Lib.hid (fun (w' : World) (hh : S0 w') => show w'.rangeAt g (o + k * 6 + 1) (opC y.x) from by rw [hS0] at hh; exact fun j v hv => hh.cell ((cl_parts HRW.out).2 j v hv) (by simp))
          have HST2 := Lib.hid (fun (w' : World) (hh : S0 w') => show w'.cell? ⟨w.heap.size, 1, none⟩ = some (.slice (some ⟨g, o, none⟩) n2 cp2) from by rw [hS0] at hh; exact cell_lit (hh.heap HT.out (by simp)) 1 rfl)
          clear hS0
          refine wp_region_noPanic ?_
          refine wp_region_held_drew (S := S0) (by kernel_rfl) hSD (fun hHeld => ?_)
          apply wpAnyH_take (i := 0)
          · simp only [List.getElem?_toArray]; rfl
          iterate 3 (· kernel_rfl)
          · exact fun _ _ _ h => h
          · exact skW.yields HO2.out rfl _ rfl p12 0 rfl HSA.out
          · assumption
          try simp only [Act.put, lsA, lsZ, lsS]
          apply wpAnyH_take (i := 1)
          · simp only [List.getElem?_toArray]; rfl
          iterate 3 (· kernel_rfl)
          · exact fun _ _ _ h => h
          · exact Or.inl ⟨by rfl, by intro w hSw; go_simp; try with_reducible rfl⟩
          · assumption
          try simp only [Act.put, lsA, lsZ, lsS]
          apply wpAnyH_take (i := 2)
          · simp only [List.getElem?_toArray]; rfl
          iterate 3 (· kernel_rfl)
          · exact fun _ _ _ h => h
          · exact Or.inl ⟨by rfl, by intro w hSw; have q0 := HST2.out w hSw; go_simp; try with_reducible rfl⟩
          · assumption
          try simp only [Act.put, lsA, lsZ, lsS]
          apply wpAnyH_take (i := 3)
          · simp only [List.getElem?_toArray]; rfl
          iterate 3 (· kernel_rfl)
          · exact fun _ _ _ h => h
          · exact Or.inl ⟨by rfl, by intro w hSw; go_simp; try with_reducible rfl⟩
          · assumption
          try simp only [Act.put, lsA, lsZ, lsS]
          apply wpAnyH_take (i := 4)
          · simp only [List.getElem?_toArray]; rfl
          iterate 3 (· kernel_rfl)
          · exact fun _ _ _ h => h
          · exact yields_indexC14 rfl _ _ rfl g o n2 cp2 k rfl rfl hlt
          · assumption
          try simp only [Act.put, lsA, lsZ, lsS]
          apply wpAnyH_take (i := 5)
          · simp only [List.getElem?_toArray]; rfl
          iterate 3 (· kernel_rfl)
          · exact fun _ _ _ h => h
          · exact Or.inl ⟨by rfl, by intro w hSw; go_simp; try with_reducible rfl⟩
          · assumption
          try simp only [Act.put, lsA, lsZ, lsS]
          apply wpAnyH_take (i := 6)
          · simp only [List.getElem?_toArray]; rfl
          iterate 3 (· kernel_rfl)
          · exact fun _ _ _ h => h
          · exact Or.inl ⟨by rfl, by intro w hSw; have q0 := HSC.out w hSw; go_simp; try with_reducible rfl⟩
          · assumption
          try simp only [Act.put, lsA, lsZ, lsS]
          apply wpAnyH_take (i := 7)
          · simp only [List.getElem?_toArray]; rfl
          iterate 3 (· kernel_rfl)
          · exact fun _ _ _ h => h
          · exact Or.inl ⟨by rfl, by intro w hSw; go_simp; try with_reducible rfl⟩
          · assumption
          try simp only [Act.put, lsA, lsZ, lsS]
          apply wpAnyH_take (i := 8)
          · simp only [List.getElem?_toArray]; rfl
          iterate 3 (· kernel_rfl)
          · exact fun _ _ _ h => h
          · exact Or.inl ⟨by rfl, by intro w hSw; have q0 := HST2.out w hSw; go_simp; try with_reducible rfl⟩
          · assumption
          try simp only [Act.put, lsA, lsZ, lsS]
          apply wpAnyH_take (i := 9)
          · simp only [List.getElem?_toArray]; rfl
          iterate 3 (· kernel_rfl)
          · exact fun _ _ _ h => h
          · exact Or.inl ⟨by rfl, by intro w hSw; go_simp; try with_reducible rfl⟩
          · assumption
          try simp only [Act.put, lsA, lsZ, lsS]
          apply wpAnyH_take (i := 10)
          · simp only [List.getElem?_toArray]; rfl
          iterate 3 (· kernel_rfl)
          · exact fun _ _ _ h => h
          · exact yields_indexC14 rfl _ _ rfl g o n2 cp2 k rfl rfl hlt
          · assumption
          try simp only [Act.put, lsA, lsZ, lsS]
          apply wpAnyH_take (i := 11)
          · simp only [List.getElem?_toArray]; rfl
          iterate 3 (· kernel_rfl)
          · exact fun _ _ _ h => h
          · exact Or.inl ⟨by rfl, by intro w hSw; go_simp; try with_reducible rfl⟩
          · assumption
          try simp only [Act.put, lsA, lsZ, lsS]
          apply wpAnyH_take (i := 12)
          · simp only [List.getElem?_toArray]; rfl
          iterate 3 (· kernel_rfl)
          · exact fun _ _ _ h => h
          · exact yields_loadP y.x rfl _ rfl g _ rfl HSX.out
          · assumption
          try simp only [Act.put, lsA, lsZ, lsS]
          have HY := Lib.hid ((Keeps.refl [] V1).drew)
          generalize V1.drew = YC at *
          iterate 3
            all_goals
              first
                | apply wpAnyH_ready (rs := [13, 18, 19])
                  · decide +kernel
                  · simp
                  refine AllReadyH.cons (by simp only [List.getElem?_toArray]; rfl) ?_ (AllReadyH.cons (by simp only [List.getElem?_toArray]; rfl) ?_ (AllReadyH.cons (by simp only [List.getElem?_toArray]; rfl) ?_ (AllReadyH.nil)))
                | apply wpAnyH_ready (rs := [13, 18])
                  · decide +kernel
                  · simp
                  refine AllReadyH.cons (by simp only [List.getElem?_toArray]; rfl) ?_ (AllReadyH.cons (by simp only [List.getElem?_toArray]; rfl) ?_ (AllReadyH.nil))
                | apply wpAnyH_ready (rs := [13, 19])
                  · decide +kernel
                  · simp
                  refine AllReadyH.cons (by simp only [List.getElem?_toArray]; rfl) ?_ (AllReadyH.cons (by simp only [List.getElem?_toArray]; rfl) ?_ (AllReadyH.nil))
                | apply wpAnyH_ready (rs := [18, 19])
                  · decide +kernel
                  · simp
                  refine AllReadyH.cons (by simp only [List.getElem?_toArray]; rfl) ?_ (AllReadyH.cons (by simp only [List.getElem?_toArray]; rfl) ?_ (AllReadyH.nil))
                | apply wpAnyH_ready (rs := [13])
                  · decide +kernel
                  · simp
                  refine AllReadyH.cons (by simp only [List.getElem?_toArray]; rfl) ?_ (AllReadyH.nil)
                | apply wpAnyH_ready (rs := [18])
                  · decide +kernel
                  · simp
                  refine AllReadyH.cons (by simp only [List.getElem?_toArray]; rfl) ?_ (AllReadyH.nil)
                | apply wpAnyH_ready (rs := [19])
                  · decide +kernel
                  · simp
                  refine AllReadyH.cons (by simp only [List.getElem?_toArray]; rfl) ?_ (AllReadyH.nil)
              all_goals
                intro K hK
                rw [if_pos (by rfl)]
                first
                | refine wp_call9 13 _ _ rfl [.agg C.toArray, .int .u8 y.c, y.x.val] rfl Tryz.func13 (by kernel_rfl) (by kernel_rfl) ((HST.out _ HY.out).mono ?_)
                  rintro e YC ⟨x1, rfl, hpp, hk, hf⟩
                  refine ⟨_, rfl, ?_⟩
                  try have HFA := Lib.hid (show KP.Ap x1 (fun q => q ≠ ga) from hf _ (HOL.out _ (fun q hq => by have := HGA.out; omega)) (fun q hq => by have := HLA.out; omega))
                  try have HFB := Lib.hid (show KP.Ap x1 (fun q => q ≠ gb) from hf _ (HOL.out _ (fun q hq => by have := HGB.out; omega)) (fun q hq => by have := HLB.out; omega))
                  have HFN := Lib.hid (show ∀ p : Nat → Prop, OL p → (∀ q, V1.heap.size ≤ q → p q) → KP.Ap x1 p from fun p h1 h2 => hf p h1 (fun q hq => h2 q (Nat.le_trans HY.out.size hq)))
                  try replace HBA := Lib.hid (hk.heap HBA.out (by simp))
                  try replace HBB := Lib.hid (hk.heap HBB.out (by simp))
                  try replace HAT := Lib.hid (KP.new HAT.out hk)
                  try replace HLA := Lib.hid (Nat.lt_of_lt_of_le HLA.out hk.size)
                  try replace HLB := Lib.hid (Nat.lt_of_lt_of_le HLB.out hk.size)
                  replace HY := Lib.hid (HY.out.trans hk (FSub.refl _ _))
                  have HAT := Lib.hid hpp
                  clear hpp hk hf
                  refine hK.out _ _ ?_ (fun hHeld => ?_)
                  · exact (by rw [HSE.out]; exact HY.out)
                  clear hK K
                  try simp only [Act.put, lsA, lsZ, lsS]
                  apply wpAnyH_take (i := 14)
                  · simp only [List.getElem?_toArray]; rfl
                  iterate 3 (· kernel_rfl)
                  · exact fun _ _ _ h => h
                  · exact Or.inl ⟨by rfl, by intro w hSw; go_simp; try with_reducible rfl⟩
                  · assumption
                  try simp only [Act.put, lsA, lsZ, lsS]
                  apply wpAnyH_take (i := 15)
                  · simp only [List.getElem?_toArray]; rfl
                  iterate 3 (· kernel_rfl)
                  · exact fun _ _ _ h => h
                  · exact Or.inl ⟨by rfl, by intro w hSw; go_simp; try with_reducible rfl⟩
                  · assumption
                  try simp only [Act.put, lsA, lsZ, lsS]
                  apply wpAnyH_take (i := 16)
                  · simp only [List.getElem?_toArray]; rfl
                  iterate 3 (· kernel_rfl)
                  · exact fun _ _ _ h => h
                  · exact Or.inl ⟨by rfl, by intro w hSw; go_simp; try with_reducible rfl⟩
                  · assumption
                  try simp only [Act.put, lsA, lsZ, lsS]
                  apply wpAnyH_take (i := 17)
                  · simp only [List.getElem?_toArray]; rfl
                  iterate 3 (· kernel_rfl)
                  · exact fun _ _ _ h => h
                  · exact Or.inl ⟨by rfl, by intro w hSw; go_simp; try with_reducible rfl⟩
                  · assumption
                  try simp only [Act.put, lsA, lsZ, lsS]
                | refine wp_allocW14 rfl ?_
                  have hk : Keeps [] YC (YC.alloc (.cells wdZ.toArray 33)) := (Keeps.refl _ _).alloc _
                  have hb := heap_alloc_new YC (.cells wdZ.toArray 33)
                  try have HFA := Lib.hid (show KP.Ap x1 (fun q => q ≠ YC.heap.size) from KP.mono (KP.old HAT.out) (fun q hq => Nat.ne_of_lt hq))
                  try have HAB := Lib.hid (show YC.heap.size ≠ gb from Nat.ne_of_gt HLB.out)
                  have HGA := Lib.hid HY.out.size
                  try replace HBA := Lib.hid (hk.heap HBA.out (by simp))
                  try replace HBB := Lib.hid (hk.heap HBB.out (by simp))
                  try replace HAT := Lib.hid (KP.new HAT.out hk)
                  try replace HLA := Lib.hid (Nat.lt_of_lt_of_le HLA.out hk.size)
                  try replace HLB := Lib.hid (Nat.lt_of_lt_of_le HLB.out hk.size)
                  replace HY := Lib.hid (HY.out.trans hk (FSub.refl _ _))
                  have HBA := Lib.hid hb
                  have HLA := Lib.hid (lt_of_block hb)
                  clear hk hb
                  generalize YC.heap.size = ga at *
                  generalize YC.alloc (.cells wdZ.toArray 33) = YC at *
                  refine hK.out _ _ ?_ (fun hHeld => ?_)
                  · exact (by rw [HSE.out]; exact HY.out)
                  clear hK K
                  try simp only [Act.put, lsA, lsZ, lsS]
                | refine wp_allocA _ _ _ _ rfl ?_
                  have hk : Keeps [] YC (YC.alloc (.cells (ansC ⟨0, 0⟩).toArray 25)) := (Keeps.refl _ _).alloc _
                  have hb := heap_alloc_new YC (.cells (ansC ⟨0, 0⟩).toArray 25)
                  try have HFB := Lib.hid (show KP.Ap x1 (fun q => q ≠ YC.heap.size) from KP.mono (KP.old HAT.out) (fun q hq => Nat.ne_of_lt hq))
                  try have HAB := Lib.hid (show ga ≠ YC.heap.size from Nat.ne_of_lt HLA.out)
                  have HGB := Lib.hid HY.out.size
                  try replace HBA := Lib.hid (hk.heap HBA.out (by simp))
                  try replace HBB := Lib.hid (hk.heap HBB.out (by simp))
                  try replace HAT := Lib.hid (KP.new HAT.out hk)
                  try replace HLA := Lib.hid (Nat.lt_of_lt_of_le HLA.out hk.size)
                  try replace HLB := Lib.hid (Nat.lt_of_lt_of_le HLB.out hk.size)
                  replace HY := Lib.hid (HY.out.trans hk (FSub.refl _ _))
                  have HBB := Lib.hid hb
                  have HLB := Lib.hid (lt_of_block hb)
                  clear hk hb
                  generalize YC.heap.size = gb at *
                  generalize YC.alloc (.cells (ansC ⟨0, 0⟩).toArray 25) = YC at *
                  refine hK.out _ _ ?_ (fun hHeld => ?_)
                  · exact (by rw [HSE.out]; exact HY.out)
                  clear hK K
                  try simp only [Act.put, lsA, lsZ, lsS]
          all_goals
            apply wpAnyH_ready (rs := [20])
            · kernel_rfl
            · simp
            apply AllReadyH.cons (hs := AllReadyH.nil)
            · simp only [List.getElem?_toArray]; rfl
            intro K hK
            rw [if_pos (by rfl)]
            refine skW.wp_put rfl (g := ga) (old := wdZ) (A := KP.cs x1) (HOKP.out _ _ HAT.out) wdZ_ok rfl rfl HBA.out (fun YC hV hk => ?_)
            replace HBA := Lib.hid hV
            replace HBB := Lib.hid (hk.heap HBB.out (by have := HAB.out; simp; exact fun e => this e.symm))
            replace HAT := Lib.hid (KP.put HAT.out hk HFA.out)
            replace HY := Lib.hid (HY.out.trans' hk HGA.out)
            clear hV hk
            refine hK.out _ _ ?_ (fun hHeld => ?_)
            · exact (by rw [HSE.out]; exact HY.out)
            clear hK K
            try simp only [Act.put, lsA, lsZ, lsS]
            apply wpAnyH_ready (rs := [21])
            · kernel_rfl
            · simp
            apply AllReadyH.cons (hs := AllReadyH.nil)
            · simp only [List.getElem?_toArray]; rfl
            intro K hK
            rw [if_pos (by rfl)]
            refine wp_putN rfl (g := gb) (old := ⟨0, 0⟩) r rfl rfl HBB.out (fun YC hV hk => ?_)
            replace HBB := Lib.hid hV
            replace HBA := Lib.hid (hk.heap HBA.out (by have := HAB.out; simpa using this))
            replace HAT := Lib.hid (KP.put HAT.out hk HFB.out)
            replace HY := Lib.hid (HY.out.trans' hk HGB.out)
            clear hV hk
            refine hK.out _ _ ?_ (fun hHeld => ?_)
            · exact (by rw [HSE.out]; exact HY.out)
            clear hK K
            try simp only [Act.put, lsA, lsZ, lsS]
            apply wpAnyH_take (i := 22)
            · simp only [List.getElem?_toArray]; rfl
            iterate 3 (· kernel_rfl)
            · exact fun _ _ _ h => h
            · exact Or.inl ⟨by rfl, by intro w hSw; go_simp; try with_reducible rfl⟩
            · assumption
            try simp only [Act.put, lsA, lsZ, lsS]
            refine wpAnyH_done (by kernel_rfl) ?_ _
            refine NoPanic.normal ?_
            exact ⟨rfl, ga, gb, .agg (KP.cs x1).toArray, [_, _, _, _, _, _, _, _, _, _, _, _, _, _, _, _, _, _], rfl, x1, rfl, HBA.out, HBB.out, HAT.out, HY.out, HGA.out, HGB.out, HAB.out, HFN.out, KP.and_ HFA.out HFB.out⟩
        rintro p18 p19 zv us V2 ⟨xc, rfl, hba, hbb, hp, hk, hga, hgb, hab, hol, hap⟩
        simp only [Act.put, lsA, lsZ, lsS]
        have HF18 := Lib.hid (show ∀ q ∈ wFoot R (.agg xc.toArray), q ≠ p11 ∧ q ≠ p12 from hol (fun q => q ≠ p11 ∧ q ≠ p12) HFC.out (fun q hq => by have h1 := lt_of_block HB1.out; have h2 := lt_of_block HB2.out; omega))
        have HG18 := Lib.hid (show p18 ≠ p11 from by have h1 := lt_of_block HB1.out; omega)
        replace HK := Lib.hid (HK.out.trans hk (FSub.refl _ _))
        try replace HT := Lib.hid (hk.heap HT.out (by simp))
        try replace HAT := Lib.hid (HAT.out.new hk)
        try replace HA1 := Lib.hid (HA1.out.new hk)
        try replace HA2 := Lib.hid (HA2.out.new hk)
        try replace HBT := Lib.hid (hk.heap HBT.out (by simp))
        try replace HBN := Lib.hid (hk.heap HBN.out (by simp))
        try replace HAN := Lib.hid (HAN.out.new hk)
        try replace HB := Lib.hid (hk.heap HB.out (by simp))
        try replace HB1 := Lib.hid (hk.heap HB1.out (by simp))
        try replace HB2 := Lib.hid (hk.heap HB2.out (by simp))
        try replace HRW := Lib.hid (fun j v hv => hk.cell (HRW.out j v hv) (by simp))
        try replace HP1 := Lib.hid (HP1.out.new hk)
        try replace HP2 := Lib.hid (HP2.out.new hk)
        try replace HB15 := Lib.hid (hk.heap HB15.out (by simp))
        try replace HB16 := Lib.hid (hk.heap HB16.out (by simp))
        try replace HB18 := Lib.hid (hk.heap HB18.out (by simp))
        try replace HB19 := Lib.hid (hk.heap HB19.out (by simp))
        have HB18 := Lib.hid (show V2.heap[p18]? = some (.cells xc.toArray 33 (0, 0)) from hba); have HB19 := Lib.hid hbb
        have HP2 := Lib.hid (show WoAt R V2 (.agg xc.toArray) (some W1) from hp)
        have HO18 := Lib.hid (woAt_ok HP2.out)
        clear hba hbb hp hk hga hgb hab hol hap
        have tk : (r.k == r.k) = true := by simp
        have tv : (r.v == r.v) = true := by simp
        have te : (e1 == e1) = true := by simp
        go_wp2_with (first
          | ((with_reducible refine wpList_loadN13 (g := p16) (y := r) ?_ ?_ HB16.out ?_); exact rfl; exact rfl)
          | ((with_reducible refine wpList_loadN13 (g := p19) (y := r) ?_ ?_ HB19.out ?_); exact rfl; exact rfl)
          | ((with_reducible refine wpList_loadW (g := p15) HO15.out ?_ ?_ (block_range HB15.out) ?_); exact rfl; exact rfl)
          | ((with_reducible refine wpList_loadW (g := p18) HO18.out ?_ ?_ (block_range HB18.out) ?_); exact rfl; exact rfl))
        refine (V.same _ _ (some W1) _ (some W1) (HGL.out _ HK.out) HP1.out HP2.out (fun V' e => by obtain rfl := Option.some.inj e; exact HLU.out) (fun V' e => by obtain rfl := Option.some.inj e; exact HLU.out)).mono ?_; rintro e V3 ⟨rfl, hk⟩
        rw [oWSame_refl HP1.out.in_]
        replace HK := Lib.hid (HK.out.trans hk (FSub.refl _ _))
        try replace HT := Lib.hid (hk.heap HT.out (by simp))
        try replace HAT := Lib.hid (HAT.out.new hk)
        try replace HA1 := Lib.hid (HA1.out.new hk)
        try replace HA2 := Lib.hid (HA2.out.new hk)
        try replace HBT := Lib.hid (hk.heap HBT.out (by simp))
        try replace HBN := Lib.hid (hk.heap HBN.out (by simp))
        try replace HAN := Lib.hid (HAN.out.new hk)
        try replace HB := Lib.hid (hk.heap HB.out (by simp))
        try replace HB1 := Lib.hid (hk.heap HB1.out (by simp))
        try replace HB2 := Lib.hid (hk.heap HB2.out (by simp))
        try replace HRW := Lib.hid (fun j v hv => hk.cell (HRW.out j v hv) (by simp))
        try replace HP1 := Lib.hid (HP1.out.new hk)
        try replace HP2 := Lib.hid (HP2.out.new hk)
        try replace HB15 := Lib.hid (hk.heap HB15.out (by simp))
        try replace HB16 := Lib.hid (hk.heap HB16.out (by simp))
        try replace HB18 := Lib.hid (hk.heap HB18.out (by simp))
        try replace HB19 := Lib.hid (hk.heap HB19.out (by simp))
        clear hk HB16 HB19 tk tv te HRW HA1 HA2
        go_wp2_with (first
          | ((with_reducible refine wpList_loadW (g := p15) HO15.out ?_ ?_ (block_range HB15.out) ?_); exact rfl; exact rfl)
          | ((with_reducible refine wpList_putW (g := p11) (old := A) (A := x1) HO15.out HO1.out ?_ ?_ HB1.out ?_); exact rfl; exact rfl))
        intro V4 hV hk
        have HB14 := Lib.hid hV
        have HB24 := Lib.hid (hk.heap HB2.out (by have := HL12.out; simp; omega)); have HT4 := Lib.hid (hk.heap HT.out (by have := HLG.out; simp; omega))
        have HB184 := Lib.hid (hk.heap HB18.out (by have := HG18.out; simpa using this))
        have HP14 := Lib.hid (HP1.out.put hk (fun q hq => (HF15.out q hq).1)); have HP24 := Lib.hid (HP2.out.put hk (fun q hq => (HF18.out q hq).1))
        have HK4 := Lib.hid (HK.out.trans hk (fun q hq => .inr (by have := HLG.out; simp at hq; omega)))
        clear hV hk HB1 HB2 HT HB15 HB18 HP1 HP2 HK
        go_wp2_with (first
          | ((with_reducible refine wpList_loadW (g := p18) HO18.out ?_ ?_ (block_range HB184.out) ?_); exact rfl; exact rfl)
          | ((with_reducible refine wpList_putW (g := p12) (old := C) (A := xc) HO18.out HO2.out ?_ ?_ HB24.out ?_); exact rfl; exact rfl))
        intro V5 hV hk
        have HB25 := Lib.hid hV
        have HB15 := Lib.hid (hk.heap HB14.out (by have := HL12.out; simp; omega)); have HT5 := Lib.hid (hk.heap HT4.out (by have := HLG.out; have := HL12.out; simp; omega))
        have HP15 := Lib.hid (HP14.out.put hk (fun q hq => (HF15.out q hq).2)); have HP25 := Lib.hid (HP24.out.put hk (fun q hq => (HF18.out q hq).2))
        have HK5 := Lib.hid (HK4.out.trans hk (fun q hq => .inr (by have := HLG.out; have := HL12.out; simp at hq; omega)))
        clear hV hk HB14 HB24 HT4 HB184 HP14 HP24 HK4
        have hc2 := HC2.out
        go_wp2_with fail
        go_roundw
        case rel => exact ⟨k + 1, x1, xc, by go_num, by omega, HO15.out, HO18.out, HB15.out, HB25.out, by rw [HNX.out]; exact HP15.out, by rw [HNX.out]; exact HP25.out, HF15.out, HF18.out, HT5.out, HK5.out⟩
        case measure => simp [intOf]; omega
      · obtain rfl : k = n2 := by omega
        have hb1 : ¬ (k : Int) < k := by omega
        clear hlt hk
        go_wp2_with fail
        refine (works14_any V _ (HGL.out _ HK.out)).mono ?_; rintro e v3 ⟨rfl, hk⟩
        have HKF := Lib.hid (HK.out.trans hk (FSub.refl _ _))
        clear hk
        go_wp2_with fail
        go_ret
        exact ⟨rfl, HKF.out⟩
  · obtain ⟨rfl, rfl⟩ : O = none ∧ er = e0 := by simpa using e1
    have t0 : (er == 0) = false := by simpa using hne
    clear e1 hne HTK H10 HAT HBT HOT HFT HST
    go_wp2_with fail
    refine (HN.out _ HK.out).mono ?_; rintro e w3 ⟨st, rfl, hat, hk, -⟩
    replace HK := Lib.hid (HK.out.trans hk (FSub.refl _ _))
    try replace HT := Lib.hid (hk.heap HT.out (by simp))
    try replace HAT := Lib.hid (HAT.out.new hk)
    try replace HA1 := Lib.hid (HA1.out.new hk)
    try replace HA2 := Lib.hid (HA2.out.new hk)
    try replace HBT := Lib.hid (hk.heap HBT.out (by simp))
    try replace HBN := Lib.hid (hk.heap HBN.out (by simp))
    try replace HAN := Lib.hid (HAN.out.new hk)
    try replace HB := Lib.hid (hk.heap HB.out (by simp))
    try replace HB1 := Lib.hid (hk.heap HB1.out (by simp))
    try replace HB2 := Lib.hid (hk.heap HB2.out (by simp))
    try replace HRW := Lib.hid (fun j v hv => hk.cell (HRW.out j v hv) (by simp))
    try replace HP1 := Lib.hid (HP1.out.new hk)
    try replace HP2 := Lib.hid (HP2.out.new hk)
    try replace HB15 := Lib.hid (hk.heap HB15.out (by simp))
    try replace HB16 := Lib.hid (hk.heap HB16.out (by simp))
    try replace HB18 := Lib.hid (hk.heap HB18.out (by simp))
    try replace HB19 := Lib.hid (hk.heap HB19.out (by simp))
    obtain ⟨AN, rfl, hok⟩ := hat.cells
    have HON := Lib.hid hok
    have HAN := Lib.hid hat
    have HFN := Lib.hid (fun q hq => hat.old q hq)
    clear hat hok hk
    have HNC := Lib.hid (show (w3.alloc (.cells wdZA 33)).heap[w3.heap.size]? = some (.cells wdZ.toArray 33 (0, 0)) from heap_alloc_new w3 _)
    have HNK := Lib.hid (show Keeps [] w3 (w3.alloc (.cells wdZA 33)) from (Keeps.refl _ _).alloc _)
    go_wp2_with ((with_reducible refine wpList_putW (g := w3.heap.size) (old := wdZ) (A := AN) HON.out wdZ_ok ?_ ?_ HNC.out ?_); exact rfl; exact rfl)
    intro w4 hW hk2
    have hk := HNK.out.trans' hk2 (Nat.le_refl _)
    replace HK := Lib.hid (HK.out.trans hk (FSub.refl _ _))
    try replace HT := Lib.hid (hk.heap HT.out (by simp))
    try replace HAT := Lib.hid (HAT.out.new hk)
    try replace HA1 := Lib.hid (HA1.out.new hk)
    try replace HA2 := Lib.hid (HA2.out.new hk)
    try replace HBT := Lib.hid (hk.heap HBT.out (by simp))
    try replace HBN := Lib.hid (hk.heap HBN.out (by simp))
    try replace HAN := Lib.hid (HAN.out.new hk)
    try replace HB := Lib.hid (hk.heap HB.out (by simp))
    try replace HB1 := Lib.hid (hk.heap HB1.out (by simp))
    try replace HB2 := Lib.hid (hk.heap HB2.out (by simp))
    try replace HRW := Lib.hid (fun j v hv => hk.cell (HRW.out j v hv) (by simp))
    try replace HP1 := Lib.hid (HP1.out.new hk)
    try replace HP2 := Lib.hid (HP2.out.new hk)
    try replace HB15 := Lib.hid (hk.heap HB15.out (by simp))
    try replace HB16 := Lib.hid (hk.heap HB16.out (by simp))
    try replace HB18 := Lib.hid (hk.heap HB18.out (by simp))
    try replace HB19 := Lib.hid (hk.heap HB19.out (by simp))
    have HBN := Lib.hid hW
    have HSN := Lib.hid (lt_of_block hW)
    clear hk hW hk2 HNC HNK
    generalize w3.heap.size = p9 at *
    have x1 := (cell_lit HT.out 0 rfl : World.cell? _ _ = some (Value.slice a n cp))
    go_wp2_with ((with_reducible refine wpList_loadW (g := p9) HON.out ?_ ?_ (block_range HBN.out) ?_); exact rfl; exact rfl)
    refine (HA.out _ HK.out HAN.out).mono ?_; rintro e w5 ⟨A, rfl, hat, hk, -⟩
    clear x1
    have HLG := Lib.hid (Nat.lt_of_lt_of_le (lt_of_block HT.out) hk.size)
    replace HK := Lib.hid (HK.out.trans hk (FSub.refl _ _))
    try replace HT := Lib.hid (hk.heap HT.out (by simp))
    try replace HAT := Lib.hid (HAT.out.new hk)
    try replace HA1 := Lib.hid (HA1.out.new hk)
    try replace HA2 := Lib.hid (HA2.out.new hk)
    try replace HBT := Lib.hid (hk.heap HBT.out (by simp))
    try replace HBN := Lib.hid (hk.heap HBN.out (by simp))
    try replace HAN := Lib.hid (HAN.out.new hk)
    try replace HB := Lib.hid (hk.heap HB.out (by simp))
    try replace HB1 := Lib.hid (hk.heap HB1.out (by simp))
    try replace HB2 := Lib.hid (hk.heap HB2.out (by simp))
    try replace HRW := Lib.hid (fun j v hv => hk.cell (HRW.out j v hv) (by simp))
    try replace HP1 := Lib.hid (HP1.out.new hk)
    try replace HP2 := Lib.hid (HP2.out.new hk)
    try replace HB15 := Lib.hid (hk.heap HB15.out (by simp))
    try replace HB16 := Lib.hid (hk.heap HB16.out (by simp))
    try replace HB18 := Lib.hid (hk.heap HB18.out (by simp))
    try replace HB19 := Lib.hid (hk.heap HB19.out (by simp))
    have HO1 := Lib.hid (woAt_ok hat)
    have HA1 := Lib.hid hat
    have HF1 := Lib.hid (fun q hq => hat.old q hq)
    clear hat hk HBN HAN HON HFN HSN HA HN
    have HNC := Lib.hid (show (w5.alloc (.cells wdZA 33)).heap[w5.heap.size]? = some (.cells wdZ.toArray 33 (0, 0)) from heap_alloc_new w5 _)
    have HNK := Lib.hid (show Keeps [] w5 (w5.alloc (.cells wdZA 33)) from (Keeps.refl _ _).alloc _)
    go_wp2_with ((with_reducible refine wpList_putW (g := w5.heap.size) (old := wdZ) (A := A) HO1.out wdZ_ok ?_ ?_ HNC.out ?_); exact rfl; exact rfl)
    intro w6 hW hk2
    have hk := HNK.out.trans' hk2 (Nat.le_refl _)
    replace HK := Lib.hid (HK.out.trans hk (FSub.refl _ _))
    try replace HT := Lib.hid (hk.heap HT.out (by simp))
    try replace HAT := Lib.hid (HAT.out.new hk)
    try replace HA1 := Lib.hid (HA1.out.new hk)
    try replace HA2 := Lib.hid (HA2.out.new hk)
    try replace HBT := Lib.hid (hk.heap HBT.out (by simp))
    try replace HBN := Lib.hid (hk.heap HBN.out (by simp))
    try replace HAN := Lib.hid (HAN.out.new hk)
    try replace HB := Lib.hid (hk.heap HB.out (by simp))
    try replace HB1 := Lib.hid (hk.heap HB1.out (by simp))
    try replace HB2 := Lib.hid (hk.heap HB2.out (by simp))
    try replace HRW := Lib.hid (fun j v hv => hk.cell (HRW.out j v hv) (by simp))
    try replace HP1 := Lib.hid (HP1.out.new hk)
    try replace HP2 := Lib.hid (HP2.out.new hk)
    try replace HB15 := Lib.hid (hk.heap HB15.out (by simp))
    try replace HB16 := Lib.hid (hk.heap HB16.out (by simp))
    try replace HB18 := Lib.hid (hk.heap HB18.out (by simp))
    try replace HB19 := Lib.hid (hk.heap HB19.out (by simp))
    have HB1 := Lib.hid hW
    clear hk hW hk2 HNC HNK
    generalize w5.heap.size = p11 at *
    go_wp2_with ((with_reducible refine wpList_loadW (g := p11) HO1.out ?_ ?_ (block_range HB1.out) ?_); exact rfl; exact rfl)
    refine (V.enc _ _ (some X) (HGL.out _ HK.out) HA1.out (fun V' e => by obtain rfl := Option.some.inj e; exact fun S hS => Nat.le_trans (HXI.out.2.2 S hS) (by decide))).mono ?_; rintro e w7 ⟨rfl, hk⟩
    replace HK := Lib.hid (HK.out.trans hk (FSub.refl _ _))
    try replace HT := Lib.hid (hk.heap HT.out (by simp))
    try replace HAT := Lib.hid (HAT.out.new hk)
    try replace HA1 := Lib.hid (HA1.out.new hk)
    try replace HA2 := Lib.hid (HA2.out.new hk)
    try replace HBT := Lib.hid (hk.heap HBT.out (by simp))
    try replace HBN := Lib.hid (hk.heap HBN.out (by simp))
    try replace HAN := Lib.hid (HAN.out.new hk)
    try replace HB := Lib.hid (hk.heap HB.out (by simp))
    try replace HB1 := Lib.hid (hk.heap HB1.out (by simp))
    try replace HB2 := Lib.hid (hk.heap HB2.out (by simp))
    try replace HRW := Lib.hid (fun j v hv => hk.cell (HRW.out j v hv) (by simp))
    try replace HP1 := Lib.hid (HP1.out.new hk)
    try replace HP2 := Lib.hid (HP2.out.new hk)
    try replace HB15 := Lib.hid (hk.heap HB15.out (by simp))
    try replace HB16 := Lib.hid (hk.heap HB16.out (by simp))
    try replace HB18 := Lib.hid (hk.heap HB18.out (by simp))
    try replace HB19 := Lib.hid (hk.heap HB19.out (by simp))
    clear hk
    go_wp2_with fail
    refine (V.dec _ m (oWB (some X)) (HGL.out _ HK.out) HM.out (by have := wdB_len HXI.out.1 HXI.out.2.2; show (wdB X).length ≤ _; omega) (wShort_wd HXI.out.1 (fun S hS => Nat.le_trans (HXI.out.2.2 S hS) (by decide)) _)).mono ?_; rintro e w8 ⟨st, rfl, hat, hk, hfr⟩
    rw [show wdDec m (oWB (some X)) = (some X, 0) from by
      have h := wdDec_back HXI.out.1 (fun S hS => Nat.le_trans (HXI.out.2.2 S hS) (by decide))
      rw [HXI.out.2.1] at h; exact h] at hat ⊢
    have HFR := Lib.hid (fun q hq => Nat.lt_of_lt_of_le (lt_of_block HB1.out) (hfr q hq))
    have HL12 := Lib.hid (Nat.lt_of_lt_of_le (lt_of_block HB1.out) hk.size)
    clear hfr
    replace HK := Lib.hid (HK.out.trans hk (FSub.refl _ _))
    try replace HT := Lib.hid (hk.heap HT.out (by simp))
    try replace HAT := Lib.hid (HAT.out.new hk)
    try replace HA1 := Lib.hid (HA1.out.new hk)
    try replace HA2 := Lib.hid (HA2.out.new hk)
    try replace HBT := Lib.hid (hk.heap HBT.out (by simp))
    try replace HBN := Lib.hid (hk.heap HBN.out (by simp))
    try replace HAN := Lib.hid (HAN.out.new hk)
    try replace HB := Lib.hid (hk.heap HB.out (by simp))
    try replace HB1 := Lib.hid (hk.heap HB1.out (by simp))
    try replace HB2 := Lib.hid (hk.heap HB2.out (by simp))
    try replace HRW := Lib.hid (fun j v hv => hk.cell (HRW.out j v hv) (by simp))
    try replace HP1 := Lib.hid (HP1.out.new hk)
    try replace HP2 := Lib.hid (HP2.out.new hk)
    try replace HB15 := Lib.hid (hk.heap HB15.out (by simp))
    try replace HB16 := Lib.hid (hk.heap HB16.out (by simp))
    try replace HB18 := Lib.hid (hk.heap HB18.out (by simp))
    try replace HB19 := Lib.hid (hk.heap HB19.out (by simp))
    obtain ⟨C, rfl, hok⟩ := hat.cells
    have HO2 := Lib.hid hok
    have HA2 := Lib.hid hat
    have HF2 := Lib.hid (fun q hq => hat.old q hq)
    clear hat hok hk
    have HNC := Lib.hid (show (w8.alloc (.cells wdZA 33)).heap[w8.heap.size]? = some (.cells wdZ.toArray 33 (0, 0)) from heap_alloc_new w8 _)
    have HNK := Lib.hid (show Keeps [] w8 (w8.alloc (.cells wdZA 33)) from (Keeps.refl _ _).alloc _)
    go_wp2_with ((with_reducible refine wpList_putW (g := w8.heap.size) (old := wdZ) (A := C) HO2.out wdZ_ok ?_ ?_ HNC.out ?_); exact rfl; exact rfl)
    intro w9 hW hk2
    have hk := HNK.out.trans' hk2 (Nat.le_refl _)
    replace HK := Lib.hid (HK.out.trans hk (FSub.refl _ _))
    try replace HT := Lib.hid (hk.heap HT.out (by simp))
    try replace HAT := Lib.hid (HAT.out.new hk)
    try replace HA1 := Lib.hid (HA1.out.new hk)
    try replace HA2 := Lib.hid (HA2.out.new hk)
    try replace HBT := Lib.hid (hk.heap HBT.out (by simp))
    try replace HBN := Lib.hid (hk.heap HBN.out (by simp))
    try replace HAN := Lib.hid (HAN.out.new hk)
    try replace HB := Lib.hid (hk.heap HB.out (by simp))
    try replace HB1 := Lib.hid (hk.heap HB1.out (by simp))
    try replace HB2 := Lib.hid (hk.heap HB2.out (by simp))
    try replace HRW := Lib.hid (fun j v hv => hk.cell (HRW.out j v hv) (by simp))
    try replace HP1 := Lib.hid (HP1.out.new hk)
    try replace HP2 := Lib.hid (HP2.out.new hk)
    try replace HB15 := Lib.hid (hk.heap HB15.out (by simp))
    try replace HB16 := Lib.hid (hk.heap HB16.out (by simp))
    try replace HB18 := Lib.hid (hk.heap HB18.out (by simp))
    try replace HB19 := Lib.hid (hk.heap HB19.out (by simp))
    have HB2 := Lib.hid hW
    have HS2 := Lib.hid (lt_of_block hW)
    clear hk hW hk2 HNC HNK
    generalize w8.heap.size = p12 at *
    go_wp2_with fail
    go_loopw [14] (fun i wr => ∃ (k : Nat) (A C : List Value), i = .int .i64 k ∧ k ≤ n2 ∧ skW.Ok A ∧ skW.Ok C ∧ wr.heap[p11]? = some (.cells A.toArray 33 (0, 0)) ∧ wr.heap[p12]? = some (.cells C.toArray 33 (0, 0)) ∧ WoAt R wr (.agg A.toArray) (some (bhW X (l2.take k))) ∧ WoAt R wr (.agg C.toArray) (some (bhW X (l2.take k))) ∧ (∀ q ∈ wFoot R (.agg A.toArray), q ≠ p11 ∧ q ≠ p12) ∧ (∀ q ∈ wFoot R (.agg C.toArray), q ≠ p11 ∧ q ≠ p12) ∧ wr.heap[w.heap.size]? = some (.cells #[.slice a n cp, .slice a2 n2 cp2] 68 (0, 0)) ∧ Keeps [] w wr) (fun i _ => n2 - (intOf i).toNat)
    case atStart => exact ⟨0, A, C, rfl, by omega, HO1.out, HO2.out, HB1.out, HB2.out, HA1.out, HA2.out, fun q hq => by have h1 := HF1.out q hq; have h2 := HL12.out; exact ⟨Nat.ne_of_lt h1, by omega⟩, fun q hq => by have h1 := HF2.out q hq; have h2 := HFR.out q hq; exact ⟨Nat.ne_of_gt h2, Nat.ne_of_lt h1⟩, HT.out, HK.out⟩
    case round =>
      clear HO1 HO2 HB1 HB2 HA1 HA2 HF1 HF2 HFR HT HK HS2
      obtain ⟨k, A, C, rfl, hk, hoa, hoc, hb1, hb2, ha1, ha2, hfa, hfc, ht, hkw⟩ := hrel
      have HO1 := Lib.hid hoa; have HO2 := Lib.hid hoc; have HB1 := Lib.hid hb1; have HB2 := Lib.hid hb2; have HA1 := Lib.hid ha1; have HA2 := Lib.hid ha2; have HFA := Lib.hid hfa; have HFC := Lib.hid hfc; have HT := Lib.hid ht; have HK := Lib.hid hkw
      clear hoa hoc hb1 hb2 ha1 ha2 hfa hfc ht hkw
      have x2 := (cell_lit HT.out 1 rfl : World.cell? _ _ = some (Value.slice a2 n2 cp2))
      by_cases hlt : k < n2
      · have hkl : k < l2.length := by have := HNN2.out; omega
        obtain ⟨g, o, rfl, hg, hr⟩ := InC14_at (HI2.out.new HK.out (Nat.le_refl _)) hkl
        have HRW := Lib.hid hr
        have HNX := Lib.hid (bhW_next (W := X) hkl)
        have HXI2 := Lib.hid (HL2.out l2[k] (List.getElem_mem hkl))
        have HLK := Lib.hid (show (bhW X (l2.take k)).upto 1000 from fun S hS => Nat.le_trans (HUP.out k S hS) (by decide))
        have HLU := Lib.hid (show (bhW X (l2.take (k + 1))).upto 1000 from fun S hS => Nat.le_trans (HUP.out (k + 1) S hS) (by decide))
        rw [HNX.out] at HLU
        clear hr hg
        generalize l2[k] = y at *
        generalize bhW X (l2.take k) = W at *
        obtain ⟨W1, hW1⟩ : ∃ W1, W1 = (wdX W y.c y.x).1 := ⟨_, rfl⟩
        obtain ⟨r, hr⟩ : ∃ r, r = (wdX W y.c y.x).2.1 := ⟨_, rfl⟩
        obtain ⟨e1, he1⟩ : ∃ e1, e1 = (wdX W y.c y.x).2.2 := ⟨_, rfl⟩
        rw [← hW1] at HNX HLU
        have HW1 := Lib.hid hW1.symm; have HR1 := Lib.hid hr.symm; have HE1 := Lib.hid he1.symm
        clear hW1 hr he1
        obtain ⟨V0, hV0⟩ : ∃ V0, V0 = wr := ⟨_, rfl⟩
        subst hV0
        go_wp2_with fail
        clear x2
        refine wp_join13 (fun qa qb zv us a => (((((((((((((((((((((a.put (some 85) (us.getD 0 undef)).put (some 86) (us.getD 1 undef)).put (some 87) (us.getD 2 undef)).put (some 88) (us.getD 3 undef)).put (some 89) (us.getD 4 undef)).put (some 90) (us.getD 5 undef)).put (some 91) (us.getD 6 undef)).put (some 92) (us.getD 7 undef)).put (some 93) (us.getD 8 undef)).put (some 94) (us.getD 9 undef)).put (some 95) (us.getD 10 undef)).put (some 96) (us.getD 11 undef)).put (some 97) (us.getD 12 undef)).put (some 98) (us.getD 13 undef)).put (some 84) (us.getD 14 undef)).put (some 99) (us.getD 15 undef)).put (some 100) (us.getD 16 undef)).put (some 101) (us.getD 17 undef)).put (some 15) (.pointer (some ⟨qa, 0, none⟩))).put (some 16) (.pointer (some ⟨qb, 0, none⟩))).put (some 17) (.int .i64 e1))) (Fin3 (kpW R (some W1)) 33 r (ApW R A) V0) ?_ ?_
        · skip
          obtain ⟨OL, hOL⟩ : ∃ OL, OL = ApW R A := ⟨_, rfl⟩
          obtain ⟨KP, hKP⟩ : ∃ KP, KP = kpW R (some W1) := ⟨_, rfl⟩
          have HOKP := Lib.hid (show ∀ x w, KP.P x w → skW.Ok (KP.cs x) from by rw [hKP]; exact kpW_ok R _)
          have HOL := Lib.hid (show ∀ p : Nat → Prop, (∀ q, q < V0.heap.size → p q) → OL p from by rw [hOL]; exact fun p hp q hq => hp q (HA1.out.old q hq))
          have HST := Lib.hid (fun w' (h : Keeps [] V0 w') => WdProg.post V w' (A := A) (O := some W) (HGL.out _ (HK.out.trans h (FSub.refl _ _))) (HA1.out.new h) (fun W' hW' => by obtain rfl := Option.some.inj hW'; exact HLK.out) ⟨HXI2.out.c0, HXI2.out.c1⟩ HXI2.out.x)
          simp only [oWX] at HST
          rw [HW1.out, HR1.out, HE1.out, ← hOL, ← hKP] at HST
          rw [← hOL, ← hKP]
          clear hOL hKP
          obtain ⟨S0, hS0⟩ : ∃ S0 : World → Prop, S0 = fun y => Keeps [] V0 y := ⟨_, rfl⟩
          have HSE := Lib.hid hS0
          have hSD : S0 V0.drew := by rw [hS0]; exact (Keeps.refl _ _).drew
          have HSA := Lib.hid (fun (w' : World) (hh : S0 w') => show w'.rangeAt p11 0 A from by rw [hS0] at hh; exact block_range (hh.heap HB1.out (by simp)))
          have HSC := Lib.hid (fun (w' : World) (hh : S0 w') => show w'.cell? ⟨g, o + k * 6, none⟩ = some (.int .u8 y.c) from by rw [hS0] at hh; exact hh.cell (cl_parts HRW.out).1 (by simp))
          have HSX := Lib.hid (fun (w' : World) (hh : S0 w') => show w'.rangeAt g (o + k * 6 + 1) (opC y.x) from by rw [hS0] at hh; exact fun j v hv => hh.cell ((cl_parts HRW.out).2 j v hv) (by simp))
          have HST2 := Lib.hid (fun (w' : World) (hh : S0 w') => show w'.cell? ⟨w.heap.size, 1, none⟩ = some (.slice (some ⟨g, o, none⟩) n2 cp2) from by rw [hS0] at hh; exact cell_lit (hh.heap HT.out (by simp)) 1 rfl)
          clear hS0
          refine wp_region_noPanic ?_
          refine wp_region_held_drew (S := S0) (by kernel_rfl) hSD (fun hHeld => ?_)
          apply wpAnyH_take (i := 0)
          · simp only [List.getElem?_toArray]; rfl
          iterate 3 (· kernel_rfl)
          · exact fun _ _ _ h => h
          · exact skW.yields HO1.out rfl _ rfl p11 0 rfl HSA.out
          · assumption
          try simp only [Act.put, lsA, lsZ, lsS]
          apply wpAnyH_take (i := 1)
          · simp only [List.getElem?_toArray]; rfl
          iterate 3 (· kernel_rfl)
          · exact fun _ _ _ h => h
          · exact Or.inl ⟨by rfl, by intro w hSw; go_simp; try with_reducible rfl⟩
          · assumption
          try simp only [Act.put, lsA, lsZ, lsS]
          apply wpAnyH_take (i := 2)
          · simp only [List.getElem?_toArray]; rfl
          iterate 3 (· kernel_rfl)
          · exact fun _ _ _ h => h
          · exact Or.inl ⟨by rfl, by intro w hSw; have q0 := HST2.out w hSw; go_simp; try with_reducible rfl⟩
          · assumption
          try simp only [Act.put, lsA, lsZ, lsS]
          apply wpAnyH_take (i := 3)
          · simp only [List.getElem?_toArray]; rfl
          iterate 3 (· kernel_rfl)
          · exact fun _ _ _ h => h
          · exact Or.inl ⟨by rfl, by intro w hSw; go_simp; try with_reducible rfl⟩
          · assumption
          try simp only [Act.put, lsA, lsZ, lsS]
          apply wpAnyH_take (i := 4)
          · simp only [List.getElem?_toArray]; rfl
          iterate 3 (· kernel_rfl)
          · exact fun _ _ _ h => h
          · exact yields_indexC14 rfl _ _ rfl g o n2 cp2 k rfl rfl hlt
          · assumption
          try simp only [Act.put, lsA, lsZ, lsS]
          apply wpAnyH_take (i := 5)
          · simp only [List.getElem?_toArray]; rfl
          iterate 3 (· kernel_rfl)
          · exact fun _ _ _ h => h
          · exact Or.inl ⟨by rfl, by intro w hSw; go_simp; try with_reducible rfl⟩
          · assumption
          try simp only [Act.put, lsA, lsZ, lsS]
          apply wpAnyH_take (i := 6)
          · simp only [List.getElem?_toArray]; rfl
          iterate 3 (· kernel_rfl)
          · exact fun _ _ _ h => h
          · exact Or.inl ⟨by rfl, by intro w hSw; have q0 := HSC.out w hSw; go_simp; try with_reducible rfl⟩
          · assumption
          try simp only [Act.put, lsA, lsZ, lsS]
          apply wpAnyH_take (i := 7)
          · simp only [List.getElem?_toArray]; rfl
          iterate 3 (· kernel_rfl)
          · exact fun _ _ _ h => h
          · exact Or.inl ⟨by rfl, by intro w hSw; go_simp; try with_reducible rfl⟩
          · assumption
          try simp only [Act.put, lsA, lsZ, lsS]
          apply wpAnyH_take (i := 8)
          · simp only [List.getElem?_toArray]; rfl
          iterate 3 (· kernel_rfl)
          · exact fun _ _ _ h => h
          · exact Or.inl ⟨by rfl, by intro w hSw; have q0 := HST2.out w hSw; go_simp; try with_reducible rfl⟩
          · assumption
          try simp only [Act.put, lsA, lsZ, lsS]
          apply wpAnyH_take (i := 9)
          · simp only [List.getElem?_toArray]; rfl
          iterate 3 (· kernel_rfl)
          · exact fun _ _ _ h => h
          · exact Or.inl ⟨by rfl, by intro w hSw; go_simp; try with_reducible rfl⟩
          · assumption
          try simp only [Act.put, lsA, lsZ, lsS]
          apply wpAnyH_take (i := 10)
          · simp only [List.getElem?_toArray]; rfl
          iterate 3 (· kernel_rfl)
          · exact fun _ _ _ h => h
          · exact yields_indexC14 rfl _ _ rfl g o n2 cp2 k rfl rfl hlt
          · assumption
          try simp only [Act.put, lsA, lsZ, lsS]
          apply wpAnyH_take (i := 11)
          · simp only [List.getElem?_toArray]; rfl
          iterate 3 (· kernel_rfl)
          · exact fun _ _ _ h => h
          · exact Or.inl ⟨by rfl, by intro w hSw; go_simp; try with_reducible rfl⟩
          · assumption
          try simp only [Act.put, lsA, lsZ, lsS]
          apply wpAnyH_take (i := 12)
          · simp only [List.getElem?_toArray]; rfl
          iterate 3 (· kernel_rfl)
          · exact fun _ _ _ h => h
          · exact yields_loadP y.x rfl _ rfl g _ rfl HSX.out
          · assumption
          try simp only [Act.put, lsA, lsZ, lsS]
          have HY := Lib.hid ((Keeps.refl [] V0).drew)
          generalize V0.drew = YC at *
          iterate 3
            all_goals
              first
                | apply wpAnyH_ready (rs := [13, 18, 19])
                  · decide +kernel
                  · simp
                  refine AllReadyH.cons (by simp only [List.getElem?_toArray]; rfl) ?_ (AllReadyH.cons (by simp only [List.getElem?_toArray]; rfl) ?_ (AllReadyH.cons (by simp only [List.getElem?_toArray]; rfl) ?_ (AllReadyH.nil)))
                | apply wpAnyH_ready (rs := [13, 18])
                  · decide +kernel
                  · simp
                  refine AllReadyH.cons (by simp only [List.getElem?_toArray]; rfl) ?_ (AllReadyH.cons (by simp only [List.getElem?_toArray]; rfl) ?_ (AllReadyH.nil))
                | apply wpAnyH_ready (rs := [13, 19])
                  · decide +kernel
                  · simp
                  refine AllReadyH.cons (by simp only [List.getElem?_toArray]; rfl) ?_ (AllReadyH.cons (by simp only [List.getElem?_toArray]; rfl) ?_ (AllReadyH.nil))
                | apply wpAnyH_ready (rs := [18, 19])
                  · decide +kernel
                  · simp
                  refine AllReadyH.cons (by simp only [List.getElem?_toArray]; rfl) ?_ (AllReadyH.cons (by simp only [List.getElem?_toArray]; rfl) ?_ (AllReadyH.nil))
                | apply wpAnyH_ready (rs := [13])
                  · decide +kernel
                  · simp
                  refine AllReadyH.cons (by simp only [List.getElem?_toArray]; rfl) ?_ (AllReadyH.nil)
                | apply wpAnyH_ready (rs := [18])
                  · decide +kernel
                  · simp
                  refine AllReadyH.cons (by simp only [List.getElem?_toArray]; rfl) ?_ (AllReadyH.nil)
                | apply wpAnyH_ready (rs := [19])
                  · decide +kernel
                  · simp
                  refine AllReadyH.cons (by simp only [List.getElem?_toArray]; rfl) ?_ (AllReadyH.nil)
              all_goals
                intro K hK
                rw [if_pos (by rfl)]
                first
                | refine wp_call9 13 _ _ rfl [.agg A.toArray, .int .u8 y.c, y.x.val] rfl Tryz.func13 (by kernel_rfl) (by kernel_rfl) ((HST.out _ HY.out).mono ?_)
                  rintro e YC ⟨x1, rfl, hpp, hk, hf⟩
                  refine ⟨_, rfl, ?_⟩
                  try have HFA := Lib.hid (show KP.Ap x1 (fun q => q ≠ ga) from hf _ (HOL.out _ (fun q hq => by have := HGA.out; omega)) (fun q hq => by have := HLA.out; omega))
                  try have HFB := Lib.hid (show KP.Ap x1 (fun q => q ≠ gb) from hf _ (HOL.out _ (fun q hq => by have := HGB.out; omega)) (fun q hq => by have := HLB.out; omega))
                  have HFN := Lib.hid (show ∀ p : Nat → Prop, OL p → (∀ q, V0.heap.size ≤ q → p q) → KP.Ap x1 p from fun p h1 h2 => hf p h1 (fun q hq => h2 q (Nat.le_trans HY.out.size hq)))
                  try replace HBA := Lib.hid (hk.heap HBA.out (by simp))
                  try replace HBB := Lib.hid (hk.heap HBB.out (by simp))
                  try replace HAT := Lib.hid (KP.new HAT.out hk)
                  try replace HLA := Lib.hid (Nat.lt_of_lt_of_le HLA.out hk.size)
                  try replace HLB := Lib.hid (Nat.lt_of_lt_of_le HLB.out hk.size)
                  replace HY := Lib.hid (HY.out.trans hk (FSub.refl _ _))
                  have HAT := Lib.hid hpp
                  clear hpp hk hf
                  refine hK.out _ _ ?_ (fun hHeld => ?_)
                  · exact (by rw [HSE.out]; exact HY.out)
                  clear hK K
                  try simp only [Act.put, lsA, lsZ, lsS]
                  apply wpAnyH_take (i := 14)
                  · simp only [List.getElem?_toArray]; rfl
                  iterate 3 (· kernel_rfl)
                  · exact fun _ _ _ h => h
                  · exact Or.inl ⟨by rfl, by intro w hSw; go_simp; try with_reducible rfl⟩
                  · assumption
                  try simp only [Act.put, lsA, lsZ, lsS]
                  apply wpAnyH_take (i := 15)
                  · simp only [List.getElem?_toArray]; rfl
                  iterate 3 (· kernel_rfl)
                  · exact fun _ _ _ h => h
                  · exact Or.inl ⟨by rfl, by intro w hSw; go_simp; try with_reducible rfl⟩
                  · assumption
                  try simp only [Act.put, lsA, lsZ, lsS]
                  apply wpAnyH_take (i := 16)
                  · simp only [List.getElem?_toArray]; rfl
                  iterate 3 (· kernel_rfl)
                  · exact fun _ _ _ h => h
                  · exact Or.inl ⟨by rfl, by intro w hSw; go_simp; try with_reducible rfl⟩
                  · assumption
                  try simp only [Act.put, lsA, lsZ, lsS]
                  apply wpAnyH_take (i := 17)
                  · simp only [List.getElem?_toArray]; rfl
                  iterate 3 (· kernel_rfl)
                  · exact fun _ _ _ h => h
                  · exact Or.inl ⟨by rfl, by intro w hSw; go_simp; try with_reducible rfl⟩
                  · assumption
                  try simp only [Act.put, lsA, lsZ, lsS]
                | refine wp_allocW14 rfl ?_
                  have hk : Keeps [] YC (YC.alloc (.cells wdZ.toArray 33)) := (Keeps.refl _ _).alloc _
                  have hb := heap_alloc_new YC (.cells wdZ.toArray 33)
                  try have HFA := Lib.hid (show KP.Ap x1 (fun q => q ≠ YC.heap.size) from KP.mono (KP.old HAT.out) (fun q hq => Nat.ne_of_lt hq))
                  try have HAB := Lib.hid (show YC.heap.size ≠ gb from Nat.ne_of_gt HLB.out)
                  have HGA := Lib.hid HY.out.size
                  try replace HBA := Lib.hid (hk.heap HBA.out (by simp))
                  try replace HBB := Lib.hid (hk.heap HBB.out (by simp))
                  try replace HAT := Lib.hid (KP.new HAT.out hk)
                  try replace HLA := Lib.hid (Nat.lt_of_lt_of_le HLA.out hk.size)
                  try replace HLB := Lib.hid (Nat.lt_of_lt_of_le HLB.out hk.size)
                  replace HY := Lib.hid (HY.out.trans hk (FSub.refl _ _))
                  have HBA := Lib.hid hb
                  have HLA := Lib.hid (lt_of_block hb)
                  clear hk hb
                  generalize YC.heap.size = ga at *
                  generalize YC.alloc (.cells wdZ.toArray 33) = YC at *
                  refine hK.out _ _ ?_ (fun hHeld => ?_)
                  · exact (by rw [HSE.out]; exact HY.out)
                  clear hK K
                  try simp only [Act.put, lsA, lsZ, lsS]
                | refine wp_allocA _ _ _ _ rfl ?_
                  have hk : Keeps [] YC (YC.alloc (.cells (ansC ⟨0, 0⟩).toArray 25)) := (Keeps.refl _ _).alloc _
                  have hb := heap_alloc_new YC (.cells (ansC ⟨0, 0⟩).toArray 25)
                  try have HFB := Lib.hid (show KP.Ap x1 (fun q => q ≠ YC.heap.size) from KP.mono (KP.old HAT.out) (fun q hq => Nat.ne_of_lt hq))
                  try have HAB := Lib.hid (show ga ≠ YC.heap.size from Nat.ne_of_lt HLA.out)
                  have HGB := Lib.hid HY.out.size
                  try replace HBA := Lib.hid (hk.heap HBA.out (by simp))
                  try replace HBB := Lib.hid (hk.heap HBB.out (by simp))
                  try replace HAT := Lib.hid (KP.new HAT.out hk)
                  try replace HLA := Lib.hid (Nat.lt_of_lt_of_le HLA.out hk.size)
                  try replace HLB := Lib.hid (Nat.lt_of_lt_of_le HLB.out hk.size)
                  replace HY := Lib.hid (HY.out.trans hk (FSub.refl _ _))
                  have HBB := Lib.hid hb
                  have HLB := Lib.hid (lt_of_block hb)
                  clear hk hb
                  generalize YC.heap.size = gb at *
                  generalize YC.alloc (.cells (ansC ⟨0, 0⟩).toArray 25) = YC at *
                  refine hK.out _ _ ?_ (fun hHeld => ?_)
                  · exact (by rw [HSE.out]; exact HY.out)
                  clear hK K
                  try simp only [Act.put, lsA, lsZ, lsS]
          all_goals
            apply wpAnyH_ready (rs := [20])
            · kernel_rfl
            · simp
            apply AllReadyH.cons (hs := AllReadyH.nil)
            · simp only [List.getElem?_toArray]; rfl
            intro K hK
            rw [if_pos (by rfl)]
            refine skW.wp_put rfl (g := ga) (old := wdZ) (A := KP.cs x1) (HOKP.out _ _ HAT.out) wdZ_ok rfl rfl HBA.out (fun YC hV hk => ?_)
            replace HBA := Lib.hid hV
            replace HBB := Lib.hid (hk.heap HBB.out (by have := HAB.out; simp; exact fun e => this e.symm))
            replace HAT := Lib.hid (KP.put HAT.out hk HFA.out)
            replace HY := Lib.hid (HY.out.trans' hk HGA.out)
            clear hV hk
            refine hK.out _ _ ?_ (fun hHeld => ?_)
            · exact (by rw [HSE.out]; exact HY.out)
            clear hK K
            try simp only [Act.put, lsA, lsZ, lsS]
            apply wpAnyH_ready (rs := [21])
            · kernel_rfl
            · simp
            apply AllReadyH.cons (hs := AllReadyH.nil)
            · simp only [List.getElem?_toArray]; rfl
            intro K hK
            rw [if_pos (by rfl)]
            refine wp_putN rfl (g := gb) (old := ⟨0, 0⟩) r rfl rfl HBB.out (fun YC hV hk => ?_)
            replace HBB := Lib.hid hV
            replace HBA := Lib.hid (hk.heap HBA.out (by have := HAB.out; simpa using this))
            replace HAT := Lib.hid (KP.put HAT.out hk HFB.out)
            replace HY := Lib.hid (HY.out.trans' hk HGB.out)
            clear hV hk
            refine hK.out _ _ ?_ (fun hHeld => ?_)
            · exact (by rw [HSE.out]; exact HY.out)
            clear hK K
            try simp only [Act.put, lsA, lsZ, lsS]
            apply wpAnyH_take (i := 22)
            · simp only [List.getElem?_toArray]; rfl
            iterate 3 (· kernel_rfl)
            · exact fun _ _ _ h => h
            · exact Or.inl ⟨by rfl, by intro w hSw; go_simp; try with_reducible rfl⟩
            · assumption
            try simp only [Act.put, lsA, lsZ, lsS]
            refine wpAnyH_done (by kernel_rfl) ?_ _
            refine NoPanic.normal ?_
            exact ⟨rfl, ga, gb, .agg (KP.cs x1).toArray, [_, _, _, _, _, _, _, _, _, _, _, _, _, _, _, _, _, _], rfl, x1, rfl, HBA.out, HBB.out, HAT.out, HY.out, HGA.out, HGB.out, HAB.out, HFN.out, KP.and_ HFA.out HFB.out⟩
        rintro p15 p16 zv us V1 ⟨x1, rfl, hba, hbb, hp, hk, hga, hgb, hab, hol, hap⟩
        simp only [Act.put, lsA, lsZ, lsS]
        have HF15 := Lib.hid (show ∀ q ∈ wFoot R (.agg x1.toArray), q ≠ p11 ∧ q ≠ p12 from hol (fun q => q ≠ p11 ∧ q ≠ p12) HFA.out (fun q hq => by have h1 := lt_of_block HB1.out; have h2 := lt_of_block HB2.out; omega))
        replace HK := Lib.hid (HK.out.trans hk (FSub.refl _ _))
        try replace HT := Lib.hid (hk.heap HT.out (by simp))
        try replace HAT := Lib.hid (HAT.out.new hk)
        try replace HA1 := Lib.hid (HA1.out.new hk)
        try replace HA2 := Lib.hid (HA2.out.new hk)
        try replace HBT := Lib.hid (hk.heap HBT.out (by simp))
        try replace HBN := Lib.hid (hk.heap HBN.out (by simp))
        try replace HAN := Lib.hid (HAN.out.new hk)
        try replace HB := Lib.hid (hk.heap HB.out (by simp))
        try replace HB1 := Lib.hid (hk.heap HB1.out (by simp))
        try replace HB2 := Lib.hid (hk.heap HB2.out (by simp))
        try replace HRW := Lib.hid (fun j v hv => hk.cell (HRW.out j v hv) (by simp))
        try replace HP1 := Lib.hid (HP1.out.new hk)
        try replace HP2 := Lib.hid (HP2.out.new hk)
        try replace HB15 := Lib.hid (hk.heap HB15.out (by simp))
        try replace HB16 := Lib.hid (hk.heap HB16.out (by simp))
        try replace HB18 := Lib.hid (hk.heap HB18.out (by simp))
        try replace HB19 := Lib.hid (hk.heap HB19.out (by simp))
        have HB15 := Lib.hid (show V1.heap[p15]? = some (.cells x1.toArray 33 (0, 0)) from hba); have HB16 := Lib.hid hbb
        have HP1 := Lib.hid (show WoAt R V1 (.agg x1.toArray) (some W1) from hp)
        have HO15 := Lib.hid (woAt_ok HP1.out)
        clear hba hbb hp hk hga hgb hab hol hap
        go_wp2_with fail
        refine wp_join13 (fun qa qb zv us a => (((((((((((((((((((((a.put (some 103) (us.getD 0 undef)).put (some 104) (us.getD 1 undef)).put (some 105) (us.getD 2 undef)).put (some 106) (us.getD 3 undef)).put (some 107) (us.getD 4 undef)).put (some 108) (us.getD 5 undef)).put (some 109) (us.getD 6 undef)).put (some 110) (us.getD 7 undef)).put (some 111) (us.getD 8 undef)).put (some 112) (us.getD 9 undef)).put (some 113) (us.getD 10 undef)).put (some 114) (us.getD 11 undef)).put (some 115) (us.getD 12 undef)).put (some 116) (us.getD 13 undef)).put (some 102) (us.getD 14 undef)).put (some 117) (us.getD 15 undef)).put (some 118) (us.getD 16 undef)).put (some 119) (us.getD 17 undef)).put (some 18) (.pointer (some ⟨qa, 0, none⟩))).put (some 19) (.pointer (some ⟨qb, 0, none⟩))).put (some 20) (.int .i64 e1))) (Fin3 (kpW R (some W1)) 33 r (ApW R C) V1) ?_ ?_
        · skip
          obtain ⟨OL, hOL⟩ : ∃ OL, OL = ApW R C := ⟨_, rfl⟩
          obtain ⟨KP, hKP⟩ : ∃ KP, KP = kpW R (some W1) := ⟨_, rfl⟩
          have HOKP := Lib.hid (show ∀ x w, KP.P x w → skW.Ok (KP.cs x) from by rw [hKP]; exact kpW_ok R _)
          have HOL := Lib.hid (show ∀ p : Nat → Prop, (∀ q, q < V1.heap.size → p q) → OL p from by rw [hOL]; exact fun p hp q hq => hp q (HA2.out.old q hq))
          have HST := Lib.hid (fun w' (h : Keeps [] V1 w') => WdProg.post V w' (A := C) (O := some W) (HGL.out _ (HK.out.trans h (FSub.refl _ _))) (HA2.out.new h) (fun W' hW' => by obtain rfl := Option.some.inj hW'; exact HLK.out) ⟨HXI2.out.c0, HXI2.out.c1⟩ HXI2.out.x)
          simp only [oWX] at HST
          rw [HW1.out, HR1.out, HE1.out, ← hOL, ← hKP] at HST
          rw [← hOL, ← hKP]
          clear hOL hKP
          obtain ⟨S0, hS0⟩ : ∃ S0 : World → Prop, S0 = fun y => Keeps [] V1 y := ⟨_, rfl⟩
          have HSE := Lib.hid hS0
          have hSD : S0 V1.drew := by rw [hS0]; exact (Keeps.refl _ _).drew
          have HSA := Lib.hid (fun (w' : World) (hh : S0 w') => show w'.rangeAt p12 0 C from by rw [hS0] at hh; exact block_range (hh.heap HB2.out (by simp)))
          have HSC := Lib.hid (fun (w' : World) (hh : S0 w') => show w'.cell? ⟨g, o + k * 6, none⟩ = some (.int .u8 y.c) from by rw [hS0] at hh; exact hh.cell (cl_parts HRW.out).1 (by simp))
          have HSX := Lib.hid (fun (w' : World) (hh : S0 w') => show w'.rangeAt g (o + k * 6 + 1) (opC y.x) from by rw [hS0] at hh; exact fun j v hv => hh.cell ((cl_parts HRW.out).2 j v hv) (by simp))
          have HST2 := Lib.hid (fun (w' : World) (hh : S0 w') => show w'.cell? ⟨w.heap.size, 1, none⟩ = some (.slice (some ⟨g, o, none⟩) n2 cp2) from by rw [hS0] at hh; exact cell_lit (hh.heap HT.out (by simp)) 1 rfl)
          clear hS0
          refine wp_region_noPanic ?_
          refine wp_region_held_drew (S := S0) (by kernel_rfl) hSD (fun hHeld => ?_)
          apply wpAnyH_take (i := 0)
          · simp only [List.getElem?_toArray]; rfl
          iterate 3 (· kernel_rfl)
          · exact fun _ _ _ h => h
          · exact skW.yields HO2.out rfl _ rfl p12 0 rfl HSA.out
          · assumption
          try simp only [Act.put, lsA, lsZ, lsS]
          apply wpAnyH_take (i := 1)
          · simp only [List.getElem?_toArray]; rfl
          iterate 3 (· kernel_rfl)
          · exact fun _ _ _ h => h
          · exact Or.inl ⟨by rfl, by intro w hSw; go_simp; try with_reducible rfl⟩
          · assumption
          try simp only [Act.put, lsA, lsZ, lsS]
          apply wpAnyH_take (i := 2)
          · simp only [List.getElem?_toArray]; rfl
          iterate 3 (· kernel_rfl)
          · exact fun _ _ _ h => h
          · exact Or.inl ⟨by rfl, by intro w hSw; have q0 := HST2.out w hSw; go_simp; try with_reducible rfl⟩
          · assumption
          try simp only [Act.put, lsA, lsZ, lsS]
          apply wpAnyH_take (i := 3)
          · simp only [List.getElem?_toArray]; rfl
          iterate 3 (· kernel_rfl)
          · exact fun _ _ _ h => h
          · exact Or.inl ⟨by rfl, by intro w hSw; go_simp; try with_reducible rfl⟩
          · assumption
          try simp only [Act.put, lsA, lsZ, lsS]
          apply wpAnyH_take (i := 4)
          · simp only [List.getElem?_toArray]; rfl
          iterate 3 (· kernel_rfl)
          · exact fun _ _ _ h => h
          · exact yields_indexC14 rfl _ _ rfl g o n2 cp2 k rfl rfl hlt
          · assumption
          try simp only [Act.put, lsA, lsZ, lsS]
          apply wpAnyH_take (i := 5)
          · simp only [List.getElem?_toArray]; rfl
          iterate 3 (· kernel_rfl)
          · exact fun _ _ _ h => h
          · exact Or.inl ⟨by rfl, by intro w hSw; go_simp; try with_reducible rfl⟩
          · assumption
          try simp only [Act.put, lsA, lsZ, lsS]
          apply wpAnyH_take (i := 6)
          · simp only [List.getElem?_toArray]; rfl
          iterate 3 (· kernel_rfl)
          · exact fun _ _ _ h => h
          · exact Or.inl ⟨by rfl, by intro w hSw; have q0 := HSC.out w hSw; go_simp; try with_reducible rfl⟩
          · assumption
          try simp only [Act.put, lsA, lsZ, lsS]
          apply wpAnyH_take (i := 7)
          · simp only [List.getElem?_toArray]; rfl
          iterate 3 (· kernel_rfl)
          · exact fun _ _ _ h => h
          · exact Or.inl ⟨by rfl, by intro w hSw; go_simp; try with_reducible rfl⟩
          · assumption
          try simp only [Act.put, lsA, lsZ, lsS]
          apply wpAnyH_take (i := 8)
          · simp only [List.getElem?_toArray]; rfl
          iterate 3 (· kernel_rfl)
          · exact fun _ _ _ h => h
          · exact Or.inl ⟨by rfl, by intro w hSw; have q0 := HST2.out w hSw; go_simp; try with_reducible rfl⟩
          · assumption
          try simp only [Act.put, lsA, lsZ, lsS]
          apply wpAnyH_take (i := 9)
          · simp only [List.getElem?_toArray]; rfl
          iterate 3 (· kernel_rfl)
          · exact fun _ _ _ h => h
          · exact Or.inl ⟨by rfl, by intro w hSw; go_simp; try with_reducible rfl⟩
          · assumption
          try simp only [Act.put, lsA, lsZ, lsS]
          apply wpAnyH_take (i := 10)
          · simp only [List.getElem?_toArray]; rfl
          iterate 3 (· kernel_rfl)
          · exact fun _ _ _ h => h
          · exact yields_indexC14 rfl _ _ rfl g o n2 cp2 k rfl rfl hlt
          · assumption
          try simp only [Act.put, lsA, lsZ, lsS]
          apply wpAnyH_take (i := 11)
          · simp only [List.getElem?_toArray]; rfl
          iterate 3 (· kernel_rfl)
          · exact fun _ _ _ h => h
          · exact Or.inl ⟨by rfl, by intro w hSw; go_simp; try with_reducible rfl⟩
          · assumption
          try simp only [Act.put, lsA, lsZ, lsS]
          apply wpAnyH_take (i := 12)
          · simp only [List.getElem?_toArray]; rfl
          iterate 3 (· kernel_rfl)
          · exact fun _ _ _ h => h
          · exact yields_loadP y.x rfl _ rfl g _ rfl HSX.out
          · assumption
          try simp only [Act.put, lsA, lsZ, lsS]
          have HY := Lib.hid ((Keeps.refl [] V1).drew)
          generalize V1.drew = YC at *
          iterate 3
            all_goals
              first
                | apply wpAnyH_ready (rs := [13, 18, 19])
                  · decide +kernel
                  · simp
                  refine AllReadyH.cons (by simp only [List.getElem?_toArray]; rfl) ?_ (AllReadyH.cons (by simp only [List.getElem?_toArray]; rfl) ?_ (AllReadyH.cons (by simp only [List.getElem?_toArray]; rfl) ?_ (AllReadyH.nil)))
                | apply wpAnyH_ready (rs := [13, 18])
                  · decide +kernel
                  · simp
                  refine AllReadyH.cons (by simp only [List.getElem?_toArray]; rfl) ?_ (AllReadyH.cons (by simp only [List.getElem?_toArray]; rfl) ?_ (AllReadyH.nil))
                | apply wpAnyH_ready (rs := [13, 19])
                  · decide +kernel
                  · simp
                  refine AllReadyH.cons (by simp only [List.getElem?_toArray]; rfl) ?_ (AllReadyH.cons (by simp only [List.getElem?_toArray]; rfl) ?_ (AllReadyH.nil))
                | apply wpAnyH_ready (rs := [18, 19])
                  · decide +kernel
                  · simp
                  refine AllReadyH.cons (by simp only [List.getElem?_toArray]; rfl) ?_ (AllReadyH.cons (by simp only [List.getElem?_toArray]; rfl) ?_ (AllReadyH.nil))
                | apply wpAnyH_ready (rs := [13])
                  · decide +kernel
                  · simp
                  refine AllReadyH.cons (by simp only [List.getElem?_toArray]; rfl) ?_ (AllReadyH.nil)
                | apply wpAnyH_ready (rs := [18])
                  · decide +kernel
                  · simp
                  refine AllReadyH.cons (by simp only [List.getElem?_toArray]; rfl) ?_ (AllReadyH.nil)
                | apply wpAnyH_ready (rs := [19])
                  · decide +kernel
                  · simp
                  refine AllReadyH.cons (by simp only [List.getElem?_toArray]; rfl) ?_ (AllReadyH.nil)
              all_goals
                intro K hK
                rw [if_pos (by rfl)]
                first
                | refine wp_call9 13 _ _ rfl [.agg C.toArray, .int .u8 y.c, y.x.val] rfl Tryz.func13 (by kernel_rfl) (by kernel_rfl) ((HST.out _ HY.out).mono ?_)
                  rintro e YC ⟨x1, rfl, hpp, hk, hf⟩
                  refine ⟨_, rfl, ?_⟩
                  try have HFA := Lib.hid (show KP.Ap x1 (fun q => q ≠ ga) from hf _ (HOL.out _ (fun q hq => by have := HGA.out; omega)) (fun q hq => by have := HLA.out; omega))
                  try have HFB := Lib.hid (show KP.Ap x1 (fun q => q ≠ gb) from hf _ (HOL.out _ (fun q hq => by have := HGB.out; omega)) (fun q hq => by have := HLB.out; omega))
                  have HFN := Lib.hid (show ∀ p : Nat → Prop, OL p → (∀ q, V1.heap.size ≤ q → p q) → KP.Ap x1 p from fun p h1 h2 => hf p h1 (fun q hq => h2 q (Nat.le_trans HY.out.size hq)))
                  try replace HBA := Lib.hid (hk.heap HBA.out (by simp))
                  try replace HBB := Lib.hid (hk.heap HBB.out (by simp))
                  try replace HAT := Lib.hid (KP.new HAT.out hk)
                  try replace HLA := Lib.hid (Nat.lt_of_lt_of_le HLA.out hk.size)
                  try replace HLB := Lib.hid (Nat.lt_of_lt_of_le HLB.out hk.size)
                  replace HY := Lib.hid (HY.out.trans hk (FSub.refl _ _))
                  have HAT := Lib.hid hpp
                  clear hpp hk hf
                  refine hK.out _ _ ?_ (fun hHeld => ?_)
                  · exact (by rw [HSE.out]; exact HY.out)
                  clear hK K
                  try simp only [Act.put, lsA, lsZ, lsS]
                  apply wpAnyH_take (i := 14)
                  · simp only [List.getElem?_toArray]; rfl
                  iterate 3 (· kernel_rfl)
                  · exact fun _ _ _ h => h
                  · exact Or.inl ⟨by rfl, by intro w hSw; go_simp; try with_reducible rfl⟩
                  · assumption
                  try simp only [Act.put, lsA, lsZ, lsS]
                  apply wpAnyH_take (i := 15)
                  · simp only [List.getElem?_toArray]; rfl
                  iterate 3 (· kernel_rfl)
                  · exact fun _ _ _ h => h
                  · exact Or.inl ⟨by rfl, by intro w hSw; go_simp; try with_reducible rfl⟩
                  · assumption
                  try simp only [Act.put, lsA, lsZ, lsS]
                  apply wpAnyH_take (i := 16)
                  · simp only [List.getElem?_toArray]; rfl
                  iterate 3 (· kernel_rfl)
                  · exact fun _ _ _ h => h
                  · exact Or.inl ⟨by rfl, by intro w hSw; go_simp; try with_reducible rfl⟩
                  · assumption
                  try simp only [Act.put, lsA, lsZ, lsS]
                  apply wpAnyH_take (i := 17)
                  · simp only [List.getElem?_toArray]; rfl
                  iterate 3 (· kernel_rfl)
                  · exact fun _ _ _ h => h
                  · exact Or.inl ⟨by rfl, by intro w hSw; go_simp; try with_reducible rfl⟩
                  · assumption
                  try simp only [Act.put, lsA, lsZ, lsS]
                | refine wp_allocW14 rfl ?_
                  have hk : Keeps [] YC (YC.alloc (.cells wdZ.toArray 33)) := (Keeps.refl _ _).alloc _
                  have hb := heap_alloc_new YC (.cells wdZ.toArray 33)
                  try have HFA := Lib.hid (show KP.Ap x1 (fun q => q ≠ YC.heap.size) from KP.mono (KP.old HAT.out) (fun q hq => Nat.ne_of_lt hq))
                  try have HAB := Lib.hid (show YC.heap.size ≠ gb from Nat.ne_of_gt HLB.out)
                  have HGA := Lib.hid HY.out.size
                  try replace HBA := Lib.hid (hk.heap HBA.out (by simp))
                  try replace HBB := Lib.hid (hk.heap HBB.out (by simp))
                  try replace HAT := Lib.hid (KP.new HAT.out hk)
                  try replace HLA := Lib.hid (Nat.lt_of_lt_of_le HLA.out hk.size)
                  try replace HLB := Lib.hid (Nat.lt_of_lt_of_le HLB.out hk.size)
                  replace HY := Lib.hid (HY.out.trans hk (FSub.refl _ _))
                  have HBA := Lib.hid hb
                  have HLA := Lib.hid (lt_of_block hb)
                  clear hk hb
                  generalize YC.heap.size = ga at *
                  generalize YC.alloc (.cells wdZ.toArray 33) = YC at *
                  refine hK.out _ _ ?_ (fun hHeld => ?_)
                  · exact (by rw [HSE.out]; exact HY.out)
                  clear hK K
                  try simp only [Act.put, lsA, lsZ, lsS]
                | refine wp_allocA _ _ _ _ rfl ?_
                  have hk : Keeps [] YC (YC.alloc (.cells (ansC ⟨0, 0⟩).toArray 25)) := (Keeps.refl _ _).alloc _
                  have hb := heap_alloc_new YC (.cells (ansC ⟨0, 0⟩).toArray 25)
                  try have HFB := Lib.hid (show KP.Ap x1 (fun q => q ≠ YC.heap.size) from KP.mono (KP.old HAT.out) (fun q hq => Nat.ne_of_lt hq))
                  try have HAB := Lib.hid (show ga ≠ YC.heap.size from Nat.ne_of_lt HLA.out)
                  have HGB := Lib.hid HY.out.size
                  try replace HBA := Lib.hid (hk.heap HBA.out (by simp))
                  try replace HBB := Lib.hid (hk.heap HBB.out (by simp))
                  try replace HAT := Lib.hid (KP.new HAT.out hk)
                  try replace HLA := Lib.hid (Nat.lt_of_lt_of_le HLA.out hk.size)
                  try replace HLB := Lib.hid (Nat.lt_of_lt_of_le HLB.out hk.size)
                  replace HY := Lib.hid (HY.out.trans hk (FSub.refl _ _))
                  have HBB := Lib.hid hb
                  have HLB := Lib.hid (lt_of_block hb)
                  clear hk hb
                  generalize YC.heap.size = gb at *
                  generalize YC.alloc (.cells (ansC ⟨0, 0⟩).toArray 25) = YC at *
                  refine hK.out _ _ ?_ (fun hHeld => ?_)
                  · exact (by rw [HSE.out]; exact HY.out)
                  clear hK K
                  try simp only [Act.put, lsA, lsZ, lsS]
          all_goals
            apply wpAnyH_ready (rs := [20])
            · kernel_rfl
            · simp
            apply AllReadyH.cons (hs := AllReadyH.nil)
            · simp only [List.getElem?_toArray]; rfl
            intro K hK
            rw [if_pos (by rfl)]
            refine skW.wp_put rfl (g := ga) (old := wdZ) (A := KP.cs x1) (HOKP.out _ _ HAT.out) wdZ_ok rfl rfl HBA.out (fun YC hV hk => ?_)
            replace HBA := Lib.hid hV
            replace HBB := Lib.hid (hk.heap HBB.out (by have := HAB.out; simp; exact fun e => this e.symm))
            replace HAT := Lib.hid (KP.put HAT.out hk HFA.out)
            replace HY := Lib.hid (HY.out.trans' hk HGA.out)
            clear hV hk
            refine hK.out _ _ ?_ (fun hHeld => ?_)
            · exact (by rw [HSE.out]; exact HY.out)
            clear hK K
            try simp only [Act.put, lsA, lsZ, lsS]
            apply wpAnyH_ready (rs := [21])
            · kernel_rfl
            · simp
            apply AllReadyH.cons (hs := AllReadyH.nil)
            · simp only [List.getElem?_toArray]; rfl
            intro K hK
            rw [if_pos (by rfl)]
            refine wp_putN rfl (g := gb) (old := ⟨0, 0⟩) r rfl rfl HBB.out (fun YC hV hk => ?_)
            replace HBB := Lib.hid hV
            replace HBA := Lib.hid (hk.heap HBA.out (by have := HAB.out; simpa using this))
            replace HAT := Lib.hid (KP.put HAT.out hk HFB.out)
            replace HY := Lib.hid (HY.out.trans' hk HGB.out)
            clear hV hk
            refine hK.out _ _ ?_ (fun hHeld => ?_)
            · exact (by rw [HSE.out]; exact HY.out)
            clear hK K
            try simp only [Act.put, lsA, lsZ, lsS]
            apply wpAnyH_take (i := 22)
            · simp only [List.getElem?_toArray]; rfl
            iterate 3 (· kernel_rfl)
            · exact fun _ _ _ h => h
            · exact Or.inl ⟨by rfl, by intro w hSw; go_simp; try with_reducible rfl⟩
            · assumption
            try simp only [Act.put, lsA, lsZ, lsS]
            refine wpAnyH_done (by kernel_rfl) ?_ _
            refine NoPanic.normal ?_
            exact ⟨rfl, ga, gb, .agg (KP.cs x1).toArray, [_, _, _, _, _, _, _, _, _, _, _, _, _, _, _, _, _, _], rfl, x1, rfl, HBA.out, HBB.out, HAT.out, HY.out, HGA.out, HGB.out, HAB.out, HFN.out, KP.and_ HFA.out HFB.out⟩
        rintro p18 p19 zv us V2 ⟨xc, rfl, hba, hbb, hp, hk, hga, hgb, hab, hol, hap⟩
        simp only [Act.put, lsA, lsZ, lsS]
        have HF18 := Lib.hid (show ∀ q ∈ wFoot R (.agg xc.toArray), q ≠ p11 ∧ q ≠ p12 from hol (fun q => q ≠ p11 ∧ q ≠ p12) HFC.out (fun q hq => by have h1 := lt_of_block HB1.out; have h2 := lt_of_block HB2.out; omega))
        have HG18 := Lib.hid (show p18 ≠ p11 from by have h1 := lt_of_block HB1.out; omega)
        replace HK := Lib.hid (HK.out.trans hk (FSub.refl _ _))
        try replace HT := Lib.hid (hk.heap HT.out (by simp))
        try replace HAT := Lib.hid (HAT.out.new hk)
        try replace HA1 := Lib.hid (HA1.out.new hk)
        try replace HA2 := Lib.hid (HA2.out.new hk)
        try replace HBT := Lib.hid (hk.heap HBT.out (by simp))
        try replace HBN := Lib.hid (hk.heap HBN.out (by simp))
        try replace HAN := Lib.hid (HAN.out.new hk)
        try replace HB := Lib.hid (hk.heap HB.out (by simp))
        try replace HB1 := Lib.hid (hk.heap HB1.out (by simp))
        try replace HB2 := Lib.hid (hk.heap HB2.out (by simp))
        try replace HRW := Lib.hid (fun j v hv => hk.cell (HRW.out j v hv) (by simp))
        try replace HP1 := Lib.hid (HP1.out.new hk)
        try replace HP2 := Lib.hid (HP2.out.new hk)
        try replace HB15 := Lib.hid (hk.heap HB15.out (by simp))
        try replace HB16 := Lib.hid (hk.heap HB16.out (by simp))
        try replace HB18 := Lib.hid (hk.heap HB18.out (by simp))
        try replace HB19 := Lib.hid (hk.heap HB19.out (by simp))
        have HB18 := Lib.hid (show V2.heap[p18]? = some (.cells xc.toArray 33 (0, 0)) from hba); have HB19 := Lib.hid hbb
        have HP2 := Lib.hid (show WoAt R V2 (.agg xc.toArray) (some W1) from hp)
        have HO18 := Lib.hid (woAt_ok HP2.out)
        clear hba hbb hp hk hga hgb hab hol hap
        have tk : (r.k == r.k) = true := by simp
        have tv : (r.v == r.v) = true := by simp
        have te : (e1 == e1) = true := by simp
        go_wp2_with (first
          | ((with_reducible refine wpList_loadN13 (g := p16) (y := r) ?_ ?_ HB16.out ?_); exact rfl; exact rfl)
          | ((with_reducible refine wpList_loadN13 (g := p19) (y := r) ?_ ?_ HB19.out ?_); exact rfl; exact rfl)
          | ((with_reducible refine wpList_loadW (g := p15) HO15.out ?_ ?_ (block_range HB15.out) ?_); exact rfl; exact rfl)
          | ((with_reducible refine wpList_loadW (g := p18) HO18.out ?_ ?_ (block_range HB18.out) ?_); exact rfl; exact rfl))
        refine (V.same _ _ (some W1) _ (some W1) (HGL.out _ HK.out) HP1.out HP2.out (fun V' e => by obtain rfl := Option.some.inj e; exact HLU.out) (fun V' e => by obtain rfl := Option.some.inj e; exact HLU.out)).mono ?_; rintro e V3 ⟨rfl, hk⟩
        rw [oWSame_refl HP1.out.in_]
        replace HK := Lib.hid (HK.out.trans hk (FSub.refl _ _))
        try replace HT := Lib.hid (hk.heap HT.out (by simp))
        try replace HAT := Lib.hid (HAT.out.new hk)
        try replace HA1 := Lib.hid (HA1.out.new hk)
        try replace HA2 := Lib.hid (HA2.out.new hk)
        try replace HBT := Lib.hid (hk.heap HBT.out (by simp))
        try replace HBN := Lib.hid (hk.heap HBN.out (by simp))
        try replace HAN := Lib.hid (HAN.out.new hk)
        try replace HB := Lib.hid (hk.heap HB.out (by simp))
        try replace HB1 := Lib.hid (hk.heap HB1.out (by simp))
        try replace HB2 := Lib.hid (hk.heap HB2.out (by simp))
        try replace HRW := Lib.hid (fun j v hv => hk.cell (HRW.out j v hv) (by simp))
        try replace HP1 := Lib.hid (HP1.out.new hk)
        try replace HP2 := Lib.hid (HP2.out.new hk)
        try replace HB15 := Lib.hid (hk.heap HB15.out (by simp))
        try replace HB16 := Lib.hid (hk.heap HB16.out (by simp))
        try replace HB18 := Lib.hid (hk.heap HB18.out (by simp))
        try replace HB19 := Lib.hid (hk.heap HB19.out (by simp))
        clear hk HB16 HB19 tk tv te HRW HA1 HA2
        go_wp2_with (first
          | ((with_reducible refine wpList_loadW (g := p15) HO15.out ?_ ?_ (block_range HB15.out) ?_); exact rfl; exact rfl)
          | ((with_reducible refine wpList_putW (g := p11) (old := A) (A := x1) HO15.out HO1.out ?_ ?_ HB1.out ?_); exact rfl; exact rfl))
        intro V4 hV hk
        have HB14 := Lib.hid hV
        have HB24 := Lib.hid (hk.heap HB2.out (by have := HL12.out; simp; omega)); have HT4 := Lib.hid (hk.heap HT.out (by have := HLG.out; simp; omega))
        have HB184 := Lib.hid (hk.heap HB18.out (by have := HG18.out; simpa using this))
        have HP14 := Lib.hid (HP1.out.put hk (fun q hq => (HF15.out q hq).1)); have HP24 := Lib.hid (HP2.out.put hk (fun q hq => (HF18.out q hq).1))
        have HK4 := Lib.hid (HK.out.trans hk (fun q hq => .inr (by have := HLG.out; simp at hq; omega)))
        clear hV hk HB1 HB2 HT HB15 HB18 HP1 HP2 HK
        go_wp2_with (first
          | ((with_reducible refine wpList_loadW (g := p18) HO18.out ?_ ?_ (block_range HB184.out) ?_); exact rfl; exact rfl)
          | ((with_reducible refine wpList_putW (g := p12) (old := C) (A := xc) HO18.out HO2.out ?_ ?_ HB24.out ?_); exact rfl; exact rfl))
        intro V5 hV hk
        have HB25 := Lib.hid hV
        have HB15 := Lib.hid (hk.heap HB14.out (by have := HL12.out; simp; omega)); have HT5 := Lib.hid (hk.heap HT4.out (by have := HLG.out; have := HL12.out; simp; omega))
        have HP15 := Lib.hid (HP14.out.put hk (fun q hq => (HF15.out q hq).2)); have HP25 := Lib.hid (HP24.out.put hk (fun q hq => (HF18.out q hq).2))
        have HK5 := Lib.hid (HK4.out.trans hk (fun q hq => .inr (by have := HLG.out; have := HL12.out; simp at hq; omega)))
        clear hV hk HB14 HB24 HT4 HB184 HP14 HP24 HK4
        have hc2 := HC2.out
        go_wp2_with fail
        go_roundw
        case rel => exact ⟨k + 1, x1, xc, by go_num, by omega, HO15.out, HO18.out, HB15.out, HB25.out, by rw [HNX.out]; exact HP15.out, by rw [HNX.out]; exact HP25.out, HF15.out, HF18.out, HT5.out, HK5.out⟩
        case measure => simp [intOf]; omega
      · obtain rfl : k = n2 := by omega
        have hb1 : ¬ (k : Int) < k := by omega
        clear hlt hk
        go_wp2_with fail
        refine (works14_any V _ (HGL.out _ HK.out)).mono ?_; rintro e v3 ⟨rfl, hk⟩
        have HKF := Lib.hid (HK.out.trans hk (FSub.refl _ _))
        clear hk
        go_wp2_with fail
        go_ret
        exact ⟨rfl, HKF.out⟩
end Go.Proofs.YtbnhcggjcdipeaaGreatDoor
