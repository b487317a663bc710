/-
  The words behind a line's kind: config.
-/
import Derived.Test.YtiljdehhjiahdaaGreatDoorG31
set_option linter.unusedSimpArgs false
set_option linter.unusedVariables false
namespace Go.Proofs.YtiljdehhjiahdaaGreatDoor
open Go.RowKit
theorem Glob6.model {w : World} (h : Glob6 w) (i : Nat) (hi : i < 5) : w.cell? ⟨0, i, none⟩ = some (.string (bs (mdNm i))) := by
  obtain ⟨t, fr, hw⟩ := h.models
  have hc : modelCells[i]? = some (.string (bs (mdNm i))) := by
    rcases (by omega : i = 0 ∨ i = 1 ∨ i = 2 ∨ i = 3 ∨ i = 4) with rfl | rfl | rfl | rfl | rfl <;> rfl
  simp [World.cell?, hw, hc]
/-- A config's words under way. -/
structure CfgSt (w : World) (B base : Nat) (cs : Array Value) (W : World) (v : Value) (l : Wds) : Prop where
  heap : W.heap[B]? = some (.cells cs 30 (0, 0))
  row : RowW base W v l
  keeps : Keeps [] w W
  lt : B < base
  le : base ≤ W.heap.size
  wb : w.heap.size ≤ base
theorem CfgSt.cell {w : World} {B base : Nat} {cs : Array Value} {W : World} {v : Value} {l : Wds} (h : CfgSt w B base cs W v l) (i : Nat) (u : Value) (hu : cs[i]? = some u) : W.cell? ⟨B, i, none⟩ = some u := by
  simp [World.cell?, h.heap, hu]
theorem CfgSt.add {w : World} {B base : Nat} {cs : Array Value} {W : World} {v : Value} {l : Wds} (h : CfgSt w B base cs W v l) (m : List UInt8) (S : ByteArray) (hS : S = bs m) (hn : l.length ≤ 1000) :
    ∃ v' w', (Builtin.append_ #[50, 50] 50 #[v, .slice (some ⟨W.heap.size, 0, none⟩) 1 1]).run Tryz.prog (W.alloc (.cells #[.string S] 9)) = .ok v' w' ∧ CfgSt w B base cs w' v' (l ++ [m]) := by
  subst hS
  obtain ⟨v', w', hr, ho, hk⟩ := append_lit W base h.le v l h.row (by omega) [m] (by simp) 1 rfl #[.string (bs m)] rfl
  have hF : ∀ y ∈ own v, base ≤ y := fun y hy => (row_base h.row y hy).1
  exact ⟨v', w', hr, hk.heap h.heap (fun hm => by have := hF _ hm; have := h.lt; omega), ho, h.keeps.trans hk (fun y hy => .inr (by have := hF y hy; have := h.wb; omega)), h.lt, Nat.le_trans h.le hk.size, h.wb⟩
set_option maxHeartbeats 16000000 in
set_option maxRecDepth 100000 in
theorem wordsOfConfig_any (w : World) (hG : Glob6 w) (x : Ev) (hx : x.In) (hg : cfgGood x.g = true) (tx rd : Value) : Calls Tryz.prog 37 #[.agg (evC x tx rd)] w (Words6 w (cfgW x.g)) := by
  obtain ⟨g1, g2, g3, g4⟩ := cfg_all hg
  have hk0 := (Keeps.refl [] w).alloc (.cells (evC x tx rd) 32)
  have HX := Lib.hid (heap_alloc_new w (.cells (evC x tx rd) 32))
  have HG0 := Lib.hid (hG.new hk0)
  have HK := Lib.hid hk0
  have hz : (w.alloc (.cells (evC x tx rd) 32)).heap.size = w.heap.size + 1 := by simp
  obtain ⟨M, hM⟩ := Int.eq_ofNat_of_zero_le hx.m0
  have hM5 : M < 5 := by omega
  have N1 := Lib.hid (fun w hG => Itoa6_any w hG x.g.mo (by omega) (by omega))
  have N2 := Lib.hid (fun w hG => Itoa6_any w hG x.g.ms (by omega) (by omega))
  have N3 := Lib.hid (fun w hG => Itoa6_any w hG x.g.mt (by omega) (by omega))
  have c12 := ev_cell HX.out 12 (evC_12 x tx rd); have c13 := ev_cell HX.out 13 (evC_13 x tx rd); have c14 := ev_cell HX.out 14 (evC_14 x tx rd); have c15 := ev_cell HX.out 15 (evC_15 x tx rd)
  have c16 := ev_cell HX.out 16 (evC_16 x tx rd); have c17 := ev_cell HX.out 17 (evC_17 x tx rd); have c18 := ev_cell HX.out 18 (evC_18 x tx rd)
  rw [hM] at c12
  obtain ⟨FP, hFP⟩ : ∃ F, x.g.p = F := ⟨_, rfl⟩
  obtain ⟨FC, hFC⟩ : ∃ F, x.g.cu = F := ⟨_, rfl⟩
  obtain ⟨FM, hFM⟩ : ∃ F, x.g.me = F := ⟨_, rfl⟩
  rw [hFP] at c16; rw [hFC] at c17; rw [hFM] at c18
  have hL : cfgW x.g = [mdNm M, dec x.g.mo, dec x.g.ms, dec x.g.mt] ++ flagW FP partL ++ flagW FC cutL ++ flagW FM memoL := by unfold cfgW; rw [hM, hFP, hFC, hFM]
  rw [hL]
  generalize x.g.mo = MO at *
  generalize x.g.ms = MS at *
  generalize x.g.mt = MT at *
  generalize hd1 : bs (dec MO) = D1 at *
  generalize hd2 : bs (dec MS) = D2 at *
  generalize hd3 : bs (dec MT) = D3 at *
  have HD1 := Lib.hid hd1; have HD2 := Lib.hid hd2; have HD3 := Lib.hid hd3
  clear hk0 hg hM hFP hFC hFM hL hd1 hd2 hd3 hG hx
  go_enter Tryz.func37, Tryz.ntmps37
  go_wp2_with ((with_reducible apply wpList_put_row (T := 30) 7); exact rfl; exact rfl; exact heap_alloc_at (by simp); exact ⟨rfl, rfl⟩; kernel_rfl; exact rfl)
  intro W2 hb2 hk2
  generalize w.alloc (.cells (evC x tx rd) 32) = w1 at *
  have hk2' : Keeps [] w1 W2 := ((Keeps.refl [] w1).alloc _).trans hk2 (fun y hy => .inr (by simp at hy; omega))
  have HG2 := Lib.hid (HG0.out.new hk2')
  have HK2 := Lib.hid (HK.out.trans hk2' (FSub.refl _ _))
  have hzb : w.heap.size + 1 < W2.heap.size := lt_of_block hb2
  clear hz
  generalize hBB : w.heap.size + 1 = B at *
  have e0 : W2.cell? ⟨B, 0, none⟩ = some (.int .u8 M) := by simp [World.cell?, hb2]
  have e1 : W2.cell? ⟨B, 1, none⟩ = some (.int .i64 MO) := by simp [World.cell?, hb2]
  have e2 : W2.cell? ⟨B, 2, none⟩ = some (.int .i64 MS) := by simp [World.cell?, hb2]
  have e3 : W2.cell? ⟨B, 3, none⟩ = some (.int .i64 MT) := by simp [World.cell?, hb2]
  have em := HG2.out.model M hM5
  have HB2 := Lib.hid hb2
  have HGD := Lib.hid (HG2.out.new (Keeps.refl [] W2).drew)
  generalize hmd : bs (mdNm M) = MD at *
  have HMD := Lib.hid hmd
  have hmb : 0 < W2.heap.size := World.block_lt_of_cell? _ _ em
  have hi0 : (0 : Int) ≤ (M : Int) := by omega
  have hi5 : (M : Int) < 5 := by omega
  clear hk2 hk2' hb2 HX HG0 HK c12 c13 c14 c15 c16 c17 c18 hmd
  go_wp2_with fail
  go_region_held3 (fun w' => w'.cell? ⟨B, 0, none⟩ = some (.int .u8 M) ∧ w'.cell? ⟨B, 1, none⟩ = some (.int .i64 MO) ∧ w'.cell? ⟨B, 2, none⟩ = some (.int .i64 MS) ∧ w'.cell? ⟨B, 3, none⟩ = some (.int .i64 MT) ∧ w'.cell? ⟨0, M, none⟩ = some (.string MD))
    (first | (refine ⟨?_, ?_, ?_, ?_, ?_⟩ <;> assumption) | go_keep)
    (first
      | (go_at_call 58; (with_reducible refine (N1.out _ HGD.out).mono ?_); rintro e wA ⟨rfl, hkA⟩; have kA : Keeps [] W2 wA := Keeps.undrew hkA; have gA := HGD.out.new hkA; have a0 := kA.cell e0 (by simp); have a1 := kA.cell e1 (by simp); have a2 := kA.cell e2 (by simp); have a3 := kA.cell e3 (by simp); have a4 := kA.cell em (by simp))
      | (go_at_call 58; (with_reducible refine (N2.out _ gA).mono ?_); rintro e wB ⟨rfl, hkB⟩; have kB : Keeps [] W2 wB := kA.trans hkB (FSub.refl _ _); have gB := gA.new hkB; have b0 := kB.cell e0 (by simp); have b1 := kB.cell e1 (by simp); have b2 := kB.cell e2 (by simp); have b3 := kB.cell e3 (by simp); have b4 := kB.cell em (by simp))
      | (go_at_call 58; (with_reducible refine (N3.out _ gB).mono ?_); rintro e wC ⟨rfl, hkC⟩; have kC : Keeps [] W2 wC := kB.trans hkC (FSub.refl _ _); have d0 := kC.cell e0 (by simp); have d1 := kC.cell e1 (by simp); have d2 := kC.cell e2 (by simp); have d3 := kC.cell e3 (by simp); have d4 := kC.cell em (by simp)))
  have hst : CfgSt w B wC.heap.size #[.int .u8 M, .int .i64 MO, .int .i64 MS, .int .i64 MT, .bool FP, .bool FC, .bool FM] (wC.alloc (.cells #[.string MD, .string D1, .string D2, .string D3] 9)) (.slice (some ⟨wC.heap.size, 0, none⟩) 4 4) [mdNm M, dec MO, dec MS, dec MT] := by
    have hr := World.ownsRow_lit (base := wC.heap.size) (e := 9) (size := 1) wC #[.string MD, .string D1, .string D2, .string D3] 4 (Nat.le_refl _) (by decide) rfl
    have hzc := kC.size
    refine ⟨heap_alloc_lt (kC.heap HB2.out (by simp)), ?_, (HK2.out.trans kC (FSub.refl _ _)).alloc _, by omega, by simp, by omega⟩
    unfold RowW
    rw [List.map_cons, List.map_cons, List.map_cons, List.map_cons, HMD.out, HD1.out, HD2.out, HD3.out]
    exact hr
  have S0 := Lib.hid hst
  clear hst hkA kA gA a0 a1 a2 a3 a4 hkB kB gB b0 b1 b2 b3 b4 hkC d0 d1 d2 d3 d4 e0 e1 e2 e3 em HGD HG2 HMD HD1 HD2 HD3 N1 N2 N3 HB2 hi0 hi5 hmb
  have hzC : w.heap.size ≤ wC.heap.size := by have := HK2.out.size; have := kC.size; omega
  clear kC HK2
  generalize wC.alloc (.cells #[.string MD, .string D1, .string D2, .string D3] 9) = WD at *
  generalize (Value.slice (some ⟨wC.heap.size, 0, none⟩) 4 4) = VD at *
  cases FP <;> cases FC <;> cases FM
  · have f04 := S0.out.cell 4 (.bool false) rfl; have f05 := S0.out.cell 5 (.bool false) rfl; have f06 := S0.out.cell 6 (.bool false) rfl
    go_wp2_with fail
    go_ret
    exact ⟨_, rfl, by have hrf := row_up (b2 := w.heap.size) S0.out.row (fun y hy => by have h1 := (row_base S0.out.row y hy).1; omega); simpa [RowW, flagW] using hrf, S0.out.keeps⟩
  · have f04 := S0.out.cell 4 (.bool false) rfl; have f05 := S0.out.cell 5 (.bool false) rfl; have f06 := S0.out.cell 6 (.bool true) rfl
    obtain ⟨v1, w1, hr1, hs⟩ := S0.out.add memoL (⟨#[109, 101, 109, 111]⟩ : ByteArray) rfl (by simp)
    have HR1 := Lib.hid hr1
    have S1 := Lib.hid hs
    clear hr1 hs
    have f14 := S1.out.cell 4 (.bool false) rfl; have f15 := S1.out.cell 5 (.bool false) rfl; have f16 := S1.out.cell 6 (.bool true) rfl
    go_wp2_with (at_builtin; first | (refine wpList_append_run rfl _ _ 50 rfl _ _ _ _ rfl rfl HR1.out ?_))
    go_ret
    exact ⟨_, rfl, by have hrf := row_up (b2 := w.heap.size) S1.out.row (fun y hy => by have h1 := (row_base S1.out.row y hy).1; omega); simpa [RowW, flagW] using hrf, S1.out.keeps⟩
  · have f04 := S0.out.cell 4 (.bool false) rfl; have f05 := S0.out.cell 5 (.bool true) rfl; have f06 := S0.out.cell 6 (.bool false) rfl
    obtain ⟨v1, w1, hr1, hs⟩ := S0.out.add cutL (⟨#[99, 117, 116]⟩ : ByteArray) rfl (by simp)
    have HR1 := Lib.hid hr1
    have S1 := Lib.hid hs
    clear hr1 hs
    have f14 := S1.out.cell 4 (.bool false) rfl; have f15 := S1.out.cell 5 (.bool true) rfl; have f16 := S1.out.cell 6 (.bool false) rfl
    go_wp2_with (at_builtin; first | (refine wpList_append_run rfl _ _ 50 rfl _ _ _ _ rfl rfl HR1.out ?_))
    go_ret
    exact ⟨_, rfl, by have hrf := row_up (b2 := w.heap.size) S1.out.row (fun y hy => by have h1 := (row_base S1.out.row y hy).1; omega); simpa [RowW, flagW] using hrf, S1.out.keeps⟩
  · have f04 := S0.out.cell 4 (.bool false) rfl; have f05 := S0.out.cell 5 (.bool true) rfl; have f06 := S0.out.cell 6 (.bool true) rfl
    obtain ⟨v1, w1, hr1, hs⟩ := S0.out.add cutL (⟨#[99, 117, 116]⟩ : ByteArray) rfl (by simp)
    have HR1 := Lib.hid hr1
    have S1 := Lib.hid hs
    clear hr1 hs
    have f14 := S1.out.cell 4 (.bool false) rfl; have f15 := S1.out.cell 5 (.bool true) rfl; have f16 := S1.out.cell 6 (.bool true) rfl
    obtain ⟨v2, w2, hr2, hs⟩ := S1.out.add memoL (⟨#[109, 101, 109, 111]⟩ : ByteArray) rfl (by simp)
    have HR2 := Lib.hid hr2
    have S2 := Lib.hid hs
    clear hr2 hs
    have f24 := S2.out.cell 4 (.bool false) rfl; have f25 := S2.out.cell 5 (.bool true) rfl; have f26 := S2.out.cell 6 (.bool true) rfl
    go_wp2_with (at_builtin; first | (refine wpList_append_run rfl _ _ 50 rfl _ _ _ _ rfl rfl HR1.out ?_) | (refine wpList_append_run rfl _ _ 50 rfl _ _ _ _ rfl rfl HR2.out ?_))
    go_ret
    exact ⟨_, rfl, by have hrf := row_up (b2 := w.heap.size) S2.out.row (fun y hy => by have h1 := (row_base S2.out.row y hy).1; omega); simpa [RowW, flagW] using hrf, S2.out.keeps⟩
  · have f04 := S0.out.cell 4 (.bool true) rfl; have f05 := S0.out.cell 5 (.bool false) rfl; have f06 := S0.out.cell 6 (.bool false) rfl
    obtain ⟨v1, w1, hr1, hs⟩ := S0.out.add partL (⟨#[112, 97, 114, 116, 105, 116, 105, 111, 110]⟩ : ByteArray) rfl (by simp)
    have HR1 := Lib.hid hr1
    have S1 := Lib.hid hs
    clear hr1 hs
    have f14 := S1.out.cell 4 (.bool true) rfl; have f15 := S1.out.cell 5 (.bool false) rfl; have f16 := S1.out.cell 6 (.bool false) rfl
    go_wp2_with (at_builtin; first | (refine wpList_append_run rfl _ _ 50 rfl _ _ _ _ rfl rfl HR1.out ?_))
    go_ret
    exact ⟨_, rfl, by have hrf := row_up (b2 := w.heap.size) S1.out.row (fun y hy => by have h1 := (row_base S1.out.row y hy).1; omega); simpa [RowW, flagW] using hrf, S1.out.keeps⟩
  · have f04 := S0.out.cell 4 (.bool true) rfl; have f05 := S0.out.cell 5 (.bool false) rfl; have f06 := S0.out.cell 6 (.bool true) rfl
    obtain ⟨v1, w1, hr1, hs⟩ := S0.out.add partL (⟨#[112, 97, 114, 116, 105, 116, 105, 111, 110]⟩ : ByteArray) rfl (by simp)
    have HR1 := Lib.hid hr1
    have S1 := Lib.hid hs
    clear hr1 hs
    have f14 := S1.out.cell 4 (.bool true) rfl; have f15 := S1.out.cell 5 (.bool false) rfl; have f16 := S1.out.cell 6 (.bool true) rfl
    obtain ⟨v2, w2, hr2, hs⟩ := S1.out.add memoL (⟨#[109, 101, 109, 111]⟩ : ByteArray) rfl (by simp)
    have HR2 := Lib.hid hr2
    have S2 := Lib.hid hs
    clear hr2 hs
    have f24 := S2.out.cell 4 (.bool true) rfl; have f25 := S2.out.cell 5 (.bool false) rfl; have f26 := S2.out.cell 6 (.bool true) rfl
    go_wp2_with (at_builtin; first | (refine wpList_append_run rfl _ _ 50 rfl _ _ _ _ rfl rfl HR1.out ?_) | (refine wpList_append_run rfl _ _ 50 rfl _ _ _ _ rfl rfl HR2.out ?_))
    go_ret
    exact ⟨_, rfl, by have hrf := row_up (b2 := w.heap.size) S2.out.row (fun y hy => by have h1 := (row_base S2.out.row y hy).1; omega); simpa [RowW, flagW] using hrf, S2.out.keeps⟩
  · have f04 := S0.out.cell 4 (.bool true) rfl; have f05 := S0.out.cell 5 (.bool true) rfl; have f06 := S0.out.cell 6 (.bool false) rfl
    obtain ⟨v1, w1, hr1, hs⟩ := S0.out.add partL (⟨#[112, 97, 114, 116, 105, 116, 105, 111, 110]⟩ : ByteArray) rfl (by simp)
    have HR1 := Lib.hid hr1
    have S1 := Lib.hid hs
    clear hr1 hs
    have f14 := S1.out.cell 4 (.bool true) rfl; have f15 := S1.out.cell 5 (.bool true) rfl; have f16 := S1.out.cell 6 (.bool false) rfl
    obtain ⟨v2, w2, hr2, hs⟩ := S1.out.add cutL (⟨#[99, 117, 116]⟩ : ByteArray) rfl (by simp)
    have HR2 := Lib.hid hr2
    have S2 := Lib.hid hs
    clear hr2 hs
    have f24 := S2.out.cell 4 (.bool true) rfl; have f25 := S2.out.cell 5 (.bool true) rfl; have f26 := S2.out.cell 6 (.bool false) rfl
    go_wp2_with (at_builtin; first | (refine wpList_append_run rfl _ _ 50 rfl _ _ _ _ rfl rfl HR1.out ?_) | (refine wpList_append_run rfl _ _ 50 rfl _ _ _ _ rfl rfl HR2.out ?_))
    go_ret
    exact ⟨_, rfl, by have hrf := row_up (b2 := w.heap.size) S2.out.row (fun y hy => by have h1 := (row_base S2.out.row y hy).1; omega); simpa [RowW, flagW] using hrf, S2.out.keeps⟩
  · have f04 := S0.out.cell 4 (.bool true) rfl; have f05 := S0.out.cell 5 (.bool true) rfl; have f06 := S0.out.cell 6 (.bool true) rfl
    obtain ⟨v1, w1, hr1, hs⟩ := S0.out.add partL (⟨#[112, 97, 114, 116, 105, 116, 105, 111, 110]⟩ : ByteArray) rfl (by simp)
    have HR1 := Lib.hid hr1
    have S1 := Lib.hid hs
    clear hr1 hs
    have f14 := S1.out.cell 4 (.bool true) rfl; have f15 := S1.out.cell 5 (.bool true) rfl; have f16 := S1.out.cell 6 (.bool true) rfl
    obtain ⟨v2, w2, hr2, hs⟩ := S1.out.add cutL (⟨#[99, 117, 116]⟩ : ByteArray) rfl (by simp)
    have HR2 := Lib.hid hr2
    have S2 := Lib.hid hs
    clear hr2 hs
    have f24 := S2.out.cell 4 (.bool true) rfl; have f25 := S2.out.cell 5 (.bool true) rfl; have f26 := S2.out.cell 6 (.bool true) rfl
    obtain ⟨v3, w3, hr3, hs⟩ := S2.out.add memoL (⟨#[109, 101, 109, 111]⟩ : ByteArray) rfl (by simp)
    have HR3 := Lib.hid hr3
    have S3 := Lib.hid hs
    clear hr3 hs
    have f34 := S3.out.cell 4 (.bool true) rfl; have f35 := S3.out.cell 5 (.bool true) rfl; have f36 := S3.out.cell 6 (.bool true) rfl
    go_wp2_with (at_builtin; first | (refine wpList_append_run rfl _ _ 50 rfl _ _ _ _ rfl rfl HR1.out ?_) | (refine wpList_append_run rfl _ _ 50 rfl _ _ _ _ rfl rfl HR2.out ?_) | (refine wpList_append_run rfl _ _ 50 rfl _ _ _ _ rfl rfl HR3.out ?_))
    go_ret
    exact ⟨_, rfl, by have hrf := row_up (b2 := w.heap.size) S3.out.row (fun y hy => by have h1 := (row_base S3.out.row y hy).1; omega); simpa [RowW, flagW] using hrf, S3.out.keeps⟩
end Go.Proofs.YtiljdehhjiahdaaGreatDoor
