/-
  The program's State: Encode, Text, Decode, Initial, Same.
-/
import Derived.Test.YtbnhcggjcdipeaaGreatDoorWA00
import Derived.Test.YtbnhcggjcdipeaaGreatDoorWA31
set_option linter.unusedSimpArgs false
set_option linter.unusedVariables false
namespace Go.Proofs.YtbnhcggjcdipeaaGreatDoor
open Go.RowKit
set_option maxRecDepth 100000
set_option maxHeartbeats 8000000
theorem mdEncode_any (w : World) (hG : Glob13 w) {st : Value} {O : Option Md} (h : StAt w st O) (hl : oLen O ≤ 1000) : Calls Tryz.prog 22 #[st] w fun e w' => e = .returned (.string (bs (oB O))) ∧ Keeps [] w w' := by
  cases O with
  | none =>
    obtain ⟨o, rfl, h⟩ := h
    obtain rfl : o = .nilIface := h
    have HV := Lib.hid (show (w.alloc (.cells #[.nilIface] 30)).heap[w.heap.size]? = some (.cells [.nilIface].toArray 30 (0, 0)) from heap_alloc_new w _)
    have HK := Lib.hid (show Keeps [] w (w.alloc (.cells #[.nilIface] 30)) from (Keeps.refl _ _).alloc _)
    go_enter Tryz.func22, Tryz.ntmps22
    go_wp2_with fail
    generalize w.alloc (.cells #[.nilIface] 30) = w0 at *
    refine (mdKind_none w0).mono ?_; rintro e w1 ⟨rfl, hk⟩
    replace HK := Lib.hid (HK.out.trans hk (FSub.refl _ _))
    clear hk HV
    have HC := Lib.hid (show (w1.alloc (.cells #[.nilFunc, .nilFunc, .nilFunc, .nilFunc, .nilFunc, .nilFunc] 106)).heap[w1.heap.size]? = some (.cells kdZ.toArray 106 (0, 0)) from heap_alloc_new w1 _)
    have HCK := Lib.hid (show Keeps [] w1 (w1.alloc (.cells #[.nilFunc, .nilFunc, .nilFunc, .nilFunc, .nilFunc, .nilFunc] 106)) from (Keeps.refl _ _).alloc _)
    go_wp2_with ((with_reducible refine wpList_putKd (g := w1.heap.size) (A := kdZ) (old := kdZ) kdZ_ok kdZ_ok ?_ ?_ HC.out ?_); exact rfl; exact rfl)
    intro W hW hkW
    have HKB := Lib.hid hW
    have hk := HCK.out.trans' hkW (Nat.le_refl _)
    replace HK := Lib.hid (HK.out.trans hk (FSub.refl _ _))
    clear hW hkW hk HC HCK HKB
    generalize w1.heap.size = g at *
    go_wp2_with fail
    go_ret
    exact ⟨rfl, HK.out⟩
  | some S =>
    have HL := Lib.hid (show S.len ≤ 1000 from hl)
    obtain ⟨o, rfl, h⟩ := h
    obtain ⟨t, v, rfl⟩ := ObAt.iface h
    have HV := Lib.hid (show (w.alloc (.cells #[.iface t v] 30)).heap[w.heap.size]? = some (.cells [.iface t v].toArray 30 (0, 0)) from heap_alloc_new w _)
    have HK := Lib.hid (show Keeps [] w (w.alloc (.cells #[.iface t v] 30)) from (Keeps.refl _ _).alloc _)
    have HS := Lib.hid (show StAt _ _ (some S) from ⟨_, rfl, ObAt.new h HK.out⟩)
    have HG := Lib.hid (fun w' (hk : Keeps [] w w') => hG.new hk)
    clear h hl hG
    go_enter Tryz.func22, Tryz.ntmps22
    go_wp2_with fail
    generalize w.alloc (.cells #[.iface t v] 30) = w0 at *
    refine (mdKind_any w0 HS.out).mono ?_; rintro e w1 ⟨k, rfl, ha, hk⟩
    replace HV := Lib.hid (hk.heap HV.out (by simp))
    replace HK := Lib.hid (HK.out.trans hk (FSub.refl _ _))
    replace HS := Lib.hid (HS.out.new hk)
    have HA := Lib.hid ha
    clear hk ha
    have HC := Lib.hid (show (w1.alloc (.cells #[.nilFunc, .nilFunc, .nilFunc, .nilFunc, .nilFunc, .nilFunc] 106)).heap[w1.heap.size]? = some (.cells kdZ.toArray 106 (0, 0)) from heap_alloc_new w1 _)
    have HCK := Lib.hid (show Keeps [] w1 (w1.alloc (.cells #[.nilFunc, .nilFunc, .nilFunc, .nilFunc, .nilFunc, .nilFunc] 106)) from (Keeps.refl _ _).alloc _)
    go_wp2_with ((with_reducible refine wpList_putKd (g := w1.heap.size) (A := Kd.cs k) (old := kdZ) (Kd.ok _) kdZ_ok ?_ ?_ HC.out ?_); exact rfl; exact rfl)
    intro W hW hkW
    have HKB := Lib.hid hW
    have hk := HCK.out.trans' hkW (Nat.le_refl _)
    replace HV := Lib.hid (hk.heap HV.out (by simp))
    replace HK := Lib.hid (HK.out.trans hk (FSub.refl _ _))
    replace HS := Lib.hid (HS.out.new hk)
    replace HA := Lib.hid (HA.out.new hk)
    have c0 : W.cell? ⟨w1.heap.size, 2, none⟩ = some (fv k.e) := cell_lit hW 2 rfl
    have c1 : W.cell? ⟨w.heap.size, 0, none⟩ = some (.iface t v) := cell_lit HV.out 0 rfl
    obtain ⟨o2, e2, ho⟩ := HS.out
    obtain rfl : Value.iface t v = o2 := by simpa using e2
    have HO := Lib.hid (show ObAt W (.iface t v) S from ho)
    clear hW hkW hk HC HCK HKB HS e2 ho
    generalize w1.heap.size = g at *
    go_wp2_with ((with_reducible refine wpList_callC (f := fv k.e) [.iface t v] ?_ ?_ ?_); exact rfl; exact rfl)
    refine (HA.out.at.enc _ _ S (Keeps.refl _ _) (HG.out _ HK.out) HO.out rfl HL.out).mono ?_
    rintro e w2 ⟨rfl, hk⟩
    refine ⟨_, rfl, ?_⟩
    go_wp2_with fail
    go_ret
    exact ⟨rfl, HK.out.trans hk (FSub.refl _ _)⟩
theorem mdText_any (w : World) (hG : Glob13 w) {st : Value} {O : Option Md} (h : StAt w st O) (hl : oLen O ≤ 1000) : Calls Tryz.prog 48 #[st] w fun e w' => e = .returned (.string (bs (oT O))) ∧ Keeps [] w w' := by
  cases O with
  | none =>
    obtain ⟨o, rfl, h⟩ := h
    obtain rfl : o = .nilIface := h
    have HV := Lib.hid (show (w.alloc (.cells #[.nilIface] 30)).heap[w.heap.size]? = some (.cells [.nilIface].toArray 30 (0, 0)) from heap_alloc_new w _)
    have HK := Lib.hid (show Keeps [] w (w.alloc (.cells #[.nilIface] 30)) from (Keeps.refl _ _).alloc _)
    go_enter Tryz.func48, Tryz.ntmps48
    go_wp2_with fail
    generalize w.alloc (.cells #[.nilIface] 30) = w0 at *
    refine (mdKind_none w0).mono ?_; rintro e w1 ⟨rfl, hk⟩
    replace HK := Lib.hid (HK.out.trans hk (FSub.refl _ _))
    clear hk HV
    have HC := Lib.hid (show (w1.alloc (.cells #[.nilFunc, .nilFunc, .nilFunc, .nilFunc, .nilFunc, .nilFunc] 106)).heap[w1.heap.size]? = some (.cells kdZ.toArray 106 (0, 0)) from heap_alloc_new w1 _)
    have HCK := Lib.hid (show Keeps [] w1 (w1.alloc (.cells #[.nilFunc, .nilFunc, .nilFunc, .nilFunc, .nilFunc, .nilFunc] 106)) from (Keeps.refl _ _).alloc _)
    go_wp2_with ((with_reducible refine wpList_putKd (g := w1.heap.size) (A := kdZ) (old := kdZ) kdZ_ok kdZ_ok ?_ ?_ HC.out ?_); exact rfl; exact rfl)
    intro W hW hkW
    have HKB := Lib.hid hW
    have hk := HCK.out.trans' hkW (Nat.le_refl _)
    replace HK := Lib.hid (HK.out.trans hk (FSub.refl _ _))
    clear hW hkW hk HC HCK HKB
    generalize w1.heap.size = g at *
    go_wp2_with fail
    go_ret
    exact ⟨rfl, HK.out⟩
  | some S =>
    have HL := Lib.hid (show S.len ≤ 1000 from hl)
    obtain ⟨o, rfl, h⟩ := h
    obtain ⟨t, v, rfl⟩ := ObAt.iface h
    have HV := Lib.hid (show (w.alloc (.cells #[.iface t v] 30)).heap[w.heap.size]? = some (.cells [.iface t v].toArray 30 (0, 0)) from heap_alloc_new w _)
    have HK := Lib.hid (show Keeps [] w (w.alloc (.cells #[.iface t v] 30)) from (Keeps.refl _ _).alloc _)
    have HS := Lib.hid (show StAt _ _ (some S) from ⟨_, rfl, ObAt.new h HK.out⟩)
    have HG := Lib.hid (fun w' (hk : Keeps [] w w') => hG.new hk)
    clear h hl hG
    go_enter Tryz.func48, Tryz.ntmps48
    go_wp2_with fail
    generalize w.alloc (.cells #[.iface t v] 30) = w0 at *
    refine (mdKind_any w0 HS.out).mono ?_; rintro e w1 ⟨k, rfl, ha, hk⟩
    replace HV := Lib.hid (hk.heap HV.out (by simp))
    replace HK := Lib.hid (HK.out.trans hk (FSub.refl _ _))
    replace HS := Lib.hid (HS.out.new hk)
    have HA := Lib.hid ha
    clear hk ha
    have HC := Lib.hid (show (w1.alloc (.cells #[.nilFunc, .nilFunc, .nilFunc, .nilFunc, .nilFunc, .nilFunc] 106)).heap[w1.heap.size]? = some (.cells kdZ.toArray 106 (0, 0)) from heap_alloc_new w1 _)
    have HCK := Lib.hid (show Keeps [] w1 (w1.alloc (.cells #[.nilFunc, .nilFunc, .nilFunc, .nilFunc, .nilFunc, .nilFunc] 106)) from (Keeps.refl _ _).alloc _)
    go_wp2_with ((with_reducible refine wpList_putKd (g := w1.heap.size) (A := Kd.cs k) (old := kdZ) (Kd.ok _) kdZ_ok ?_ ?_ HC.out ?_); exact rfl; exact rfl)
    intro W hW hkW
    have HKB := Lib.hid hW
    have hk := HCK.out.trans' hkW (Nat.le_refl _)
    replace HV := Lib.hid (hk.heap HV.out (by simp))
    replace HK := Lib.hid (HK.out.trans hk (FSub.refl _ _))
    replace HS := Lib.hid (HS.out.new hk)
    replace HA := Lib.hid (HA.out.new hk)
    have c0 : W.cell? ⟨w1.heap.size, 3, none⟩ = some (fv k.t) := cell_lit hW 3 rfl
    have c1 : W.cell? ⟨w.heap.size, 0, none⟩ = some (.iface t v) := cell_lit HV.out 0 rfl
    obtain ⟨o2, e2, ho⟩ := HS.out
    obtain rfl : Value.iface t v = o2 := by simpa using e2
    have HO := Lib.hid (show ObAt W (.iface t v) S from ho)
    clear hW hkW hk HC HCK HKB HS e2 ho
    generalize w1.heap.size = g at *
    go_wp2_with ((with_reducible refine wpList_callC (f := fv k.t) [.iface t v] ?_ ?_ ?_); exact rfl; exact rfl)
    refine (HA.out.at.text _ _ S (Keeps.refl _ _) (HG.out _ HK.out) HO.out rfl HL.out).mono ?_
    rintro e w2 ⟨rfl, hk⟩
    refine ⟨_, rfl, ?_⟩
    go_wp2_with fail
    go_ret
    exact ⟨rfl, HK.out.trans hk (FSub.refl _ _)⟩
theorem mdD_ways {m : Int} (h0 : 0 ≤ m) (h3 : m ≤ 3) (b : List UInt8) : (∃ S, mdD m b = (some S, 0)) ∨ mdD m b = (none, 4) := by
  unfold mdD
  rcases (by omega : m = 0 ∨ m = 1 ∨ m = 2 ∨ m = 3) with rfl | rfl | rfl | rfl
  · rw [if_pos rfl]; split
    · exact .inl ⟨_, rfl⟩
    · exact .inr rfl
  · rw [if_neg (by decide), if_pos rfl]; split
    · exact .inr rfl
    · exact .inl ⟨_, rfl⟩
  · rw [if_neg (by decide), if_neg (by decide), if_pos rfl]; split
    · exact .inl ⟨_, rfl⟩
    · exact .inr rfl
  · rw [if_neg (by decide), if_neg (by decide), if_neg (by decide), if_pos rfl]; split
    · exact .inl ⟨_, rfl⟩
    · exact .inr rfl
theorem mdD_far {m : Int} (h3 : 3 < m) (b : List UInt8) : mdD m b = (none, 10) := by
  unfold mdD
  rw [if_neg (by omega), if_neg (by omega), if_neg (by omega), if_neg (by omega)]
theorem mdDecode_any (w : World) {m : Int} (h0 : 0 ≤ m) {b : List UInt8} (hb : b.length ≤ 1000) : Calls Tryz.prog 40 #[.int .u8 m, .string (bs b)] w fun e w' =>
    ∃ st, e = .returned (.tuple #[st, .int .i64 (mdD m b).2]) ∧ StAt w' st (mdD m b).1 ∧ Keeps [] w w' ∧ ∀ q ∈ stFoot st, w.heap.size ≤ q := by
  have HN := Lib.hid (show (w.alloc (.cells #[.nilIface] 30)).heap[w.heap.size]? = some (.cells mdZ.toArray 30 (0, 0)) from heap_alloc_new w _)
  have HK := Lib.hid (show Keeps [] w (w.alloc (.cells #[.nilIface] 30)) from (Keeps.refl _ _).alloc _)
  have HLT := Lib.hid (lt_of_block HN.out)
  by_cases h3 : m ≤ 3
  · rcases mdD_ways h0 h3 b with ⟨S, hS⟩ | hS
    · rw [hS]
      go_enter Tryz.func40, Tryz.ntmps40
      go_wp2_with fail
      generalize w.alloc (.cells #[.nilIface] 30) = w0 at *
      refine (mdFind_any w0 h0 h3).mono ?_; rintro e w1 ⟨k, rfl, ha, hk⟩
      replace HN := Lib.hid (hk.heap HN.out (by simp))
      replace HK := Lib.hid (HK.out.trans hk (FSub.refl _ _))
      replace HLT := Lib.hid (lt_of_block HN.out)
      have HA := Lib.hid ha; have HBL := Lib.hid hb
      clear hk ha hb
      have HC := Lib.hid (show (w1.alloc (.cells #[.nilFunc, .nilFunc, .nilFunc, .nilFunc, .nilFunc, .nilFunc] 106)).heap[w1.heap.size]? = some (.cells kdZ.toArray 106 (0, 0)) from heap_alloc_new w1 _)
      have HCK := Lib.hid (show Keeps [] w1 (w1.alloc (.cells #[.nilFunc, .nilFunc, .nilFunc, .nilFunc, .nilFunc, .nilFunc] 106)) from (Keeps.refl _ _).alloc _)
      go_wp2_with ((with_reducible refine wpList_putKd (g := w1.heap.size) (A := Kd.cs k) (old := kdZ) (Kd.ok _) kdZ_ok ?_ ?_ HC.out ?_); exact rfl; exact rfl)
      intro W hW hkW
      have HKB := Lib.hid hW
      have hk := HCK.out.trans' hkW (Nat.le_refl _)
      replace HN := Lib.hid (hk.heap HN.out (by simp))
      replace HK := Lib.hid (HK.out.trans hk (FSub.refl _ _))
      replace HA := Lib.hid (HA.out.new hk)
      replace HLT := Lib.hid (lt_of_block HN.out)
      have c4 : W.cell? ⟨w1.heap.size, 4, none⟩ = some (fv k.d) := cell_lit hW 4 rfl
      clear hW hkW hk HC HCK
      generalize w1.heap.size = g at *
      go_wp2_with ((with_reducible refine wpList_callC (f := fv k.d) [.string (bs b)] ?_ ?_ ?_); exact rfl; exact rfl)
      refine (HA.out.at.dec _ b (Keeps.refl _ _) HBL.out).mono ?_
      rintro e w2 ⟨o, er, rfl, h1, hbad, hgood, hk, hfo⟩
      refine ⟨_, rfl, ?_⟩
      replace HN := Lib.hid (hk.heap HN.out (by simp))
      replace HK := Lib.hid (HK.out.trans hk (FSub.refl _ _))
      have HF := Lib.hid hfo
      clear hk hfo c4 HA HKB
      rw [hS] at hgood
      obtain ⟨rfl, ho⟩ := hgood S rfl
      obtain ⟨t, v, rfl⟩ := ho.iface
      have HO := Lib.hid ho
      clear hbad hgood ho hS
      go_wp2_with ((with_reducible refine wpList_putM (g := w.heap.size) (old := mdZ) (A := [.iface t v]) (st_ok _ rfl) mdZ_ok ?_ ?_ HN.out ?_); exact rfl; exact rfl)
      intro W2 hW hkW
      have HW := Lib.hid hW; have HKW := Lib.hid hkW
      clear hW hkW
      go_wp2_with fail
      try simp only [Exit.inBlock, Exit.then]
      exact bodyPost_ret (results_sk1 skM rfl _ _ (w.heap.size) (st_ok (.iface t v) rfl) rfl HW.out) rfl ⟨_, rfl, ⟨_, rfl, HO.out.keep HKW.out (fun q hq => by have := HF.out q hq; have := HLT.out; simp; omega)⟩, HK.out.trans HKW.out (fun q hq => .inr (by simp at hq; omega)), fun q hq => by
        have h := HF.out q hq; have := HLT.out; omega⟩
    · rw [hS]
      go_enter Tryz.func40, Tryz.ntmps40
      go_wp2_with fail
      generalize w.alloc (.cells #[.nilIface] 30) = w0 at *
      refine (mdFind_any w0 h0 h3).mono ?_; rintro e w1 ⟨k, rfl, ha, hk⟩
      replace HN := Lib.hid (hk.heap HN.out (by simp))
      replace HK := Lib.hid (HK.out.trans hk (FSub.refl _ _))
      replace HLT := Lib.hid (lt_of_block HN.out)
      have HA := Lib.hid ha; have HBL := Lib.hid hb
      clear hk ha hb
      have HC := Lib.hid (show (w1.alloc (.cells #[.nilFunc, .nilFunc, .nilFunc, .nilFunc, .nilFunc, .nilFunc] 106)).heap[w1.heap.size]? = some (.cells kdZ.toArray 106 (0, 0)) from heap_alloc_new w1 _)
      have HCK := Lib.hid (show Keeps [] w1 (w1.alloc (.cells #[.nilFunc, .nilFunc, .nilFunc, .nilFunc, .nilFunc, .nilFunc] 106)) from (Keeps.refl _ _).alloc _)
      go_wp2_with ((with_reducible refine wpList_putKd (g := w1.heap.size) (A := Kd.cs k) (old := kdZ) (Kd.ok _) kdZ_ok ?_ ?_ HC.out ?_); exact rfl; exact rfl)
      intro W hW hkW
      have HKB := Lib.hid hW
      have hk := HCK.out.trans' hkW (Nat.le_refl _)
      replace HN := Lib.hid (hk.heap HN.out (by simp))
      replace HK := Lib.hid (HK.out.trans hk (FSub.refl _ _))
      replace HA := Lib.hid (HA.out.new hk)
      replace HLT := Lib.hid (lt_of_block HN.out)
      have c4 : W.cell? ⟨w1.heap.size, 4, none⟩ = some (fv k.d) := cell_lit hW 4 rfl
      clear hW hkW hk HC HCK
      generalize w1.heap.size = g at *
      go_wp2_with ((with_reducible refine wpList_callC (f := fv k.d) [.string (bs b)] ?_ ?_ ?_); exact rfl; exact rfl)
      refine (HA.out.at.dec _ b (Keeps.refl _ _) HBL.out).mono ?_
      rintro e w2 ⟨o, er, rfl, h1, hbad, hgood, hk, hfo⟩
      refine ⟨_, rfl, ?_⟩
      replace HN := Lib.hid (hk.heap HN.out (by simp))
      replace HK := Lib.hid (HK.out.trans hk (FSub.refl _ _))
      have HF := Lib.hid hfo
      clear hk hfo c4 HA HKB
      rw [hS] at hbad
      have z : (er != 0) = true := by simpa using hbad (by decide)
      clear hbad hgood h1 hS
      go_wp2_with ((with_reducible refine wpList_putM (g := w.heap.size) (old := mdZ) (A := mdZ) mdZ_ok mdZ_ok ?_ ?_ HN.out ?_); exact rfl; exact rfl)
      intro W2 hW hkW
      have HW := Lib.hid hW; have HKW := Lib.hid hkW
      clear hW hkW
      go_wp2_with fail
      try simp only [Exit.inBlock, Exit.then]
      exact bodyPost_ret (results_sk1 skM rfl _ _ (w.heap.size) mdZ_ok rfl HW.out) rfl ⟨_, rfl, ⟨_, rfl, rfl⟩, HK.out.trans HKW.out (fun q hq => .inr (by simp at hq; omega)), fun q hq => by cases hq⟩
  · rw [mdD_far (by omega)]
    go_enter Tryz.func40, Tryz.ntmps40
    go_wp2_with fail
    generalize w.alloc (.cells #[.nilIface] 30) = w0 at *
    refine (mdFind_none w0 (by omega)).mono ?_; rintro e w1 ⟨rfl, hk⟩
    replace HN := Lib.hid (hk.heap HN.out (by simp))
    replace HK := Lib.hid (HK.out.trans hk (FSub.refl _ _))
    clear hk h0 h3 hb
    have HC := Lib.hid (show (w1.alloc (.cells #[.nilFunc, .nilFunc, .nilFunc, .nilFunc, .nilFunc, .nilFunc] 106)).heap[w1.heap.size]? = some (.cells kdZ.toArray 106 (0, 0)) from heap_alloc_new w1 _)
    have HCK := Lib.hid (show Keeps [] w1 (w1.alloc (.cells #[.nilFunc, .nilFunc, .nilFunc, .nilFunc, .nilFunc, .nilFunc] 106)) from (Keeps.refl _ _).alloc _)
    go_wp2_with ((with_reducible refine wpList_putKd (g := w1.heap.size) (A := kdZ) (old := kdZ) kdZ_ok kdZ_ok ?_ ?_ HC.out ?_); exact rfl; exact rfl)
    intro W hW hkW
    have HKB := Lib.hid hW
    have hk := HCK.out.trans' hkW (Nat.le_refl _)
    replace HN := Lib.hid (hk.heap HN.out (by simp))
    replace HK := Lib.hid (HK.out.trans hk (FSub.refl _ _))
    clear hW hkW hk HC HCK HKB
    generalize w1.heap.size = g at *
    go_wp2_with ((with_reducible refine wpList_putM (g := w.heap.size) (old := mdZ) (A := mdZ) mdZ_ok mdZ_ok ?_ ?_ HN.out ?_); exact rfl; exact rfl)
    intro W2 hW hkW
    have HW := Lib.hid hW; have HKW := Lib.hid hkW
    clear hW hkW
    go_wp2_with fail
    try simp only [Exit.inBlock, Exit.then]
    exact bodyPost_ret (results_sk1 skM rfl _ _ (w.heap.size) mdZ_ok rfl HW.out) rfl ⟨_, rfl, ⟨_, rfl, rfl⟩, HK.out.trans HKW.out (fun q hq => .inr (by simp at hq; omega)), fun q hq => by cases hq⟩
theorem mdInitial_any (w : World) (hG : Glob13 w) {st : Value} {O : Option Md} (h : StAt w st O) (hl : oLen O ≤ 1000) : Calls Tryz.prog 41 #[st] w fun e w' => e = .returned (.bool (oInit O)) ∧ Keeps [] w w' := by
  cases O with
  | none =>
    obtain ⟨o, rfl, h⟩ := h
    obtain rfl : o = .nilIface := h
    have HV := Lib.hid (show (w.alloc (.cells #[.nilIface] 30)).heap[w.heap.size]? = some (.cells [.nilIface].toArray 30 (0, 0)) from heap_alloc_new w _)
    have HK := Lib.hid (show Keeps [] w (w.alloc (.cells #[.nilIface] 30)) from (Keeps.refl _ _).alloc _)
    go_enter Tryz.func41, Tryz.ntmps41
    go_wp2_with fail
    generalize w.alloc (.cells #[.nilIface] 30) = w0 at *
    refine (mdKind_none w0).mono ?_; rintro e w1 ⟨rfl, hk⟩
    replace HK := Lib.hid (HK.out.trans hk (FSub.refl _ _))
    clear hk HV
    have HC := Lib.hid (show (w1.alloc (.cells #[.nilFunc, .nilFunc, .nilFunc, .nilFunc, .nilFunc, .nilFunc] 106)).heap[w1.heap.size]? = some (.cells kdZ.toArray 106 (0, 0)) from heap_alloc_new w1 _)
    have HCK := Lib.hid (show Keeps [] w1 (w1.alloc (.cells #[.nilFunc, .nilFunc, .nilFunc, .nilFunc, .nilFunc, .nilFunc] 106)) from (Keeps.refl _ _).alloc _)
    go_wp2_with ((with_reducible refine wpList_putKd (g := w1.heap.size) (A := kdZ) (old := kdZ) kdZ_ok kdZ_ok ?_ ?_ HC.out ?_); exact rfl; exact rfl)
    intro W hW hkW
    have HKB := Lib.hid hW
    have hk := HCK.out.trans' hkW (Nat.le_refl _)
    replace HK := Lib.hid (HK.out.trans hk (FSub.refl _ _))
    clear hW hkW hk HC HCK HKB
    generalize w1.heap.size = g at *
    go_wp2_with fail
    obtain ⟨S0, hS0⟩ : ∃ S0 : World → Prop, S0 = fun y => Keeps [] W y := ⟨_, rfl⟩
    have HSE := Lib.hid hS0
    have hSD : S0 W.drew := by rw [hS0]; exact (Keeps.refl _ _).drew
    have HQ := Lib.hid ((Keeps.refl [] W).drew)
    clear hS0
    refine wp_region_noPanic ?_
    refine wp_region_held_drew (S := S0) (by kernel_rfl) hSD (fun hHeld => ?_)
    refine tw 0 (h := ?_)
    refine tw 1 (h := ?_)
    refine tk 2 (y := by exact Or.inr ⟨by rfl, rfl⟩) (h := ?_)
    refine tk 3 (y := by exact Or.inr ⟨by rfl, rfl⟩) (h := ?_)
    refine tk 4 (y := by exact Or.inr ⟨by rfl, rfl⟩) (h := ?_)
    refine tk 5 (y := by exact Or.inr ⟨by rfl, rfl⟩) (h := ?_)
    refine tk 6 (y := by exact Or.inr ⟨by rfl, rfl⟩) (h := ?_)
    refine tk 7 (y := by exact Or.inr ⟨by rfl, rfl⟩) (h := ?_)
    refine tk 8 (y := by exact Or.inr ⟨by rfl, rfl⟩) (h := ?_)
    refine tk 9 (y := by exact Or.inr ⟨by rfl, rfl⟩) (h := ?_)
    refine tk 10 (y := by exact Or.inr ⟨by rfl, rfl⟩) (h := ?_)
    refine tk 11 (y := by exact Or.inr ⟨by rfl, rfl⟩) (h := ?_)
    refine tk 12 (y := by exact Or.inr ⟨by rfl, rfl⟩) (h := ?_)
    refine tk 13 (y := by exact Or.inr ⟨by rfl, rfl⟩) (h := ?_)
    refine tw 14 (h := ?_)
    refine tw 15 (h := ?_)
    refine wpAnyH_done (by kernel_rfl) ?_ _
    refine NoPanic.normal ?_
    go_wp2_with fail
    go_ret
    exact ⟨rfl, HK.out.trans HQ.out (FSub.refl _ _)⟩
  | some S =>
    have HL := Lib.hid (show S.len ≤ 1000 from hl)
    obtain ⟨o, rfl, h⟩ := h
    obtain ⟨t, v, rfl⟩ := ObAt.iface h
    have HV := Lib.hid (show (w.alloc (.cells #[.iface t v] 30)).heap[w.heap.size]? = some (.cells [.iface t v].toArray 30 (0, 0)) from heap_alloc_new w _)
    have HK := Lib.hid (show Keeps [] w (w.alloc (.cells #[.iface t v] 30)) from (Keeps.refl _ _).alloc _)
    have HS := Lib.hid (show StAt _ _ (some S) from ⟨_, rfl, ObAt.new h HK.out⟩)
    have HG := Lib.hid (fun w' (hk : Keeps [] w w') => hG.new hk)
    clear h hl hG
    go_enter Tryz.func41, Tryz.ntmps41
    go_wp2_with fail
    generalize w.alloc (.cells #[.iface t v] 30) = w0 at *
    refine (mdKind_any w0 HS.out).mono ?_; rintro e w1 ⟨k, rfl, ha, hk⟩
    replace HV := Lib.hid (hk.heap HV.out (by simp))
    replace HK := Lib.hid (HK.out.trans hk (FSub.refl _ _))
    replace HS := Lib.hid (HS.out.new hk)
    have HA := Lib.hid ha
    clear hk ha
    have HC := Lib.hid (show (w1.alloc (.cells #[.nilFunc, .nilFunc, .nilFunc, .nilFunc, .nilFunc, .nilFunc] 106)).heap[w1.heap.size]? = some (.cells kdZ.toArray 106 (0, 0)) from heap_alloc_new w1 _)
    have HCK := Lib.hid (show Keeps [] w1 (w1.alloc (.cells #[.nilFunc, .nilFunc, .nilFunc, .nilFunc, .nilFunc, .nilFunc] 106)) from (Keeps.refl _ _).alloc _)
    go_wp2_with ((with_reducible refine wpList_putKd (g := w1.heap.size) (A := Kd.cs k) (old := kdZ) (Kd.ok _) kdZ_ok ?_ ?_ HC.out ?_); exact rfl; exact rfl)
    intro W hW hkW
    have HKB := Lib.hid hW
    have hk := HCK.out.trans' hkW (Nat.le_refl _)
    replace HV := Lib.hid (hk.heap HV.out (by simp))
    replace HK := Lib.hid (HK.out.trans hk (FSub.refl _ _))
    replace HS := Lib.hid (HS.out.new hk)
    replace HA := Lib.hid (HA.out.new hk)
    obtain ⟨o2, e2, ho⟩ := HS.out
    obtain rfl : Value.iface t v = o2 := by simpa using e2
    have HO := Lib.hid (show ObAt W (.iface t v) S from ho)
    obtain ⟨S0, hS0⟩ : ∃ S0 : World → Prop, S0 = fun y => Keeps [] W y := ⟨_, rfl⟩
    have HSE := Lib.hid hS0
    have hSD : S0 W.drew := by rw [hS0]; exact (Keeps.refl _ _).drew
    have HCE := Lib.hid (fun (w' : World) (hh : S0 w') => show w'.cell? ⟨w1.heap.size, 2, none⟩ = some (fv k.e) from by rw [hS0] at hh; exact hh.cell (cell_lit hW 2 rfl) (by simp))
    have HCI := Lib.hid (fun (w' : World) (hh : S0 w') => show w'.cell? ⟨w1.heap.size, 0, none⟩ = some (fv k.i) from by rw [hS0] at hh; exact hh.cell (cell_lit hW 0 rfl) (by simp))
    have HCO := Lib.hid (fun (w' : World) (hh : S0 w') => show w'.cell? ⟨w.heap.size, 0, none⟩ = some (.iface t v) from by rw [hS0] at hh; exact hh.cell (cell_lit HV.out 0 rfl) (by simp))
    clear hS0
    clear hW hkW hk HC HCK HKB HS e2 ho
    generalize w1.heap.size = g at *
    go_wp2_with fail
    refine wp_region_noPanic ?_
    refine wp_region_held_drew (S := S0) (by kernel_rfl) hSD (fun hHeld => ?_)
    refine tw 0 (h := ?_)
    refine tw 1 (h := ?_)
    refine tw 2 (h := ?_)
    refine tk 3 (y := by exact Or.inl ⟨by rfl, by intro w hSw; have q0 := HCE.out w hSw; go_simp; try with_reducible rfl⟩) (h := ?_)
    refine tw 4 (h := ?_)
    refine tk 5 (y := by exact Or.inl ⟨by rfl, by intro w hSw; have q0 := HCO.out w hSw; go_simp; try with_reducible rfl⟩) (h := ?_)
    refine tw 7 (h := ?_)
    refine tk 8 (y := by exact Or.inl ⟨by rfl, by intro w hSw; have q0 := HCE.out w hSw; go_simp; try with_reducible rfl⟩) (h := ?_)
    refine tw 9 (h := ?_)
    refine tk 10 (y := by exact Or.inl ⟨by rfl, by intro w hSw; have q0 := HCI.out w hSw; go_simp; try with_reducible rfl⟩) (h := ?_)
    have HQ := Lib.hid ((Keeps.refl [] W).drew)
    refine rp 6 (h := fun K hK => ?_)
    refine wp_callC _ _ _ rfl rfl _ rfl ((HA.out.at.enc _ _ S HQ.out (HG.out _ (HK.out.trans HQ.out (FSub.refl _ _))) (HO.out.new HQ.out) rfl HL.out).mono ?_)
    rintro e W1 ⟨rfl, hk⟩
    refine ⟨_, rfl, ?_⟩
    replace HQ := Lib.hid (HQ.out.trans hk (FSub.refl _ _))
    clear hk
    refine hK.out _ _ (by rw [HSE.out]; exact HQ.out) (fun hHeld => ?_); clear hK K; try simp only [Act.put, lsA, lsZ, lsS]
    refine rp 11 (h := fun K hK => ?_)
    refine wp_callC _ _ _ rfl rfl [] rfl ((HA.out.at.init _ HQ.out).mono ?_)
    rintro e W2 ⟨o1, rfl, ho1, hk, -⟩
    refine ⟨_, rfl, ?_⟩
    replace HQ := Lib.hid (HQ.out.trans hk (FSub.refl _ _))
    have HO1 := Lib.hid ho1
    clear hk ho1
    refine hK.out _ _ (by rw [HSE.out]; exact HQ.out) (fun hHeld => ?_); clear hK K; try simp only [Act.put, lsA, lsZ, lsS]
    refine rp 12 (h := fun K hK => ?_)
    refine wp_callC _ _ _ rfl rfl _ rfl ((HA.out.at.enc _ _ (mdInit S.model) HQ.out (HG.out _ (HK.out.trans HQ.out (FSub.refl _ _))) HO1.out (mdInit_model S.model_in.1 S.model_in.2) (by rw [mdInit_len]; omega)).mono ?_)
    rintro e W3 ⟨rfl, hk⟩
    refine ⟨_, rfl, ?_⟩
    replace HQ := Lib.hid (HQ.out.trans hk (FSub.refl _ _))
    clear hk
    refine hK.out _ _ (by rw [HSE.out]; exact HQ.out) (fun hHeld => ?_); clear hK K; try simp only [Act.put, lsA, lsZ, lsS]
    refine tw 13 (h := ?_)
    refine tw 14 (h := ?_)
    refine tw 15 (h := ?_)
    refine wpAnyH_done (by kernel_rfl) ?_ _
    refine NoPanic.normal ?_
    go_wp2_with fail
    go_ret
    exact ⟨by show _ = Ending.returned (.bool (decide (mdB S = mdB (mdInit S.model)))); rw [← bs_beq]; rfl, HK.out.trans HQ.out (FSub.refl _ _)⟩
theorem oSame_same {O P : Option Md} (h1 : O.isSome = P.isSome) (h2 : oModel O = oModel P) : oSame O P = decide (oB O = oB P) := by
  cases O with
  | none => cases P with
    | none => rfl
    | some T => cases h1
  | some S => cases P with
    | none => cases h1
    | some T =>
      have h3 : S.model = T.model := h2
      show decide (S.model = T.model ∧ mdB S = mdB T) = decide (mdB S = mdB T)
      simp [h3]
theorem oSame_not {O P : Option Md} (h : O.isSome ≠ P.isSome ∨ oModel O ≠ oModel P) : oSame O P = false := by
  cases O with
  | none => cases P with
    | none => rcases h with h | h <;> exact absurd rfl h
    | some T => rfl
  | some S => cases P with
    | none => rfl
    | some T =>
      have h3 : S.model ≠ T.model := by rcases h with h | h; exact absurd rfl h; exact h
      exact decide_eq_false (fun e => h3 e.1)
theorem StAt.one {w : World} {st : Value} {O : Option Md} (h : StAt w st O) : ∃ o, st = .agg #[o] ∧ o.oneCell' = true := by
  obtain ⟨o, rfl, h⟩ := h
  refine ⟨o, rfl, ?_⟩
  cases O with
  | none => obtain rfl : o = .nilIface := h; rfl
  | some S => exact ObAt.one h
theorem mdSame_any (w : World) (hG : Glob13 w) {st st2 : Value} {O P : Option Md} (h : StAt w st O) (h2 : StAt w st2 P) (hl : oLen O ≤ 1000) (hl2 : oLen P ≤ 1000) : Calls Tryz.prog 45 #[st, st2] w fun e w' => e = .returned (.bool (oSame O P)) ∧ Keeps [] w w' := by
  obtain ⟨o1, rfl, ho1⟩ := h.one
  obtain ⟨o2, rfl, ho2⟩ := h2.one
  obtain ⟨e1, a1, a2, hk⟩ := two_vars w #[o1] #[o2] 30 30
  have HV1 := Lib.hid (show _ = some (Obj.cells [o1].toArray 30 (0, 0)) from a1); have HV2 := Lib.hid (show _ = some (Obj.cells [o2].toArray 30 (0, 0)) from a2)
  have HK := Lib.hid hk; have H1 := Lib.hid ho1; have H2 := Lib.hid ho2
  have HA := Lib.hid (h.new hk); have HB := Lib.hid (h2.new hk)
  have HL1 := Lib.hid hl; have HL2 := Lib.hid hl2; have HG := Lib.hid (hG.new hk)
  have HM1 := Lib.hid (fun w (h : StAt w (.agg #[o1]) O) => mdModel_any w h); have HM2 := Lib.hid (fun w (h : StAt w (.agg #[o2]) P) => mdModel_any w h)
  clear h h2 a1 a2 hk ho1 ho2 hl hl2 hG e1
  by_cases h1 : O.isSome = P.isSome
  · by_cases h2 : oModel O = oModel P
    · rw [oSame_same h1 h2, ← bs_beq]
      rw [← h1, ← h2] at HM2
      clear h1 h2
      generalize O.isSome = q at *
      generalize oModel O = n at *
      go_enter Tryz.func45, Tryz.ntmps45
      go_wp2_with fail
      refine (HM1.out _ HA.out).mono ?_; rintro e w1 ⟨rfl, hk⟩
      replace HK := Lib.hid (HK.out.trans hk (FSub.refl _ _))
      replace HA := Lib.hid (HA.out.new hk); replace HB := Lib.hid (HB.out.new hk); replace HG := Lib.hid (HG.out.new hk)
      replace HV1 := Lib.hid (hk.heap HV1.out (by simp)); replace HV2 := Lib.hid (hk.heap HV2.out (by simp))
      have c1 : w1.cell? ⟨w.heap.size + 1, 0, none⟩ = some o2 := cell_lit HV2.out 0 rfl
      clear hk
      go_wp2_with fail
      refine (HM2.out _ HB.out).mono ?_; rintro e w2 ⟨rfl, hk⟩
      replace HK := Lib.hid (HK.out.trans hk (FSub.refl _ _))
      replace HA := Lib.hid (HA.out.new hk); replace HB := Lib.hid (HB.out.new hk); replace HG := Lib.hid (HG.out.new hk)
      replace HV1 := Lib.hid (hk.heap HV1.out (by simp)); replace HV2 := Lib.hid (hk.heap HV2.out (by simp))
      clear hk c1
      go_wp2_with fail
      obtain ⟨S0, hS0⟩ : ∃ S0 : World → Prop, S0 = fun y => Keeps [] w2 y := ⟨_, rfl⟩
      have HSE := Lib.hid hS0
      have hSD : S0 w2.drew := by rw [hS0]; exact (Keeps.refl _ _).drew
      have HS1 := Lib.hid (fun (w' : World) (hh : S0 w') => show w'.rangeAt w.heap.size 0 [o1] from by rw [hS0] at hh; exact fun j v hv => hh.cell (block_range HV1.out j v hv) (by simp))
      have HS2 := Lib.hid (fun (w' : World) (hh : S0 w') => show w'.rangeAt (w.heap.size + 1) 0 [o2] from by rw [hS0] at hh; exact fun j v hv => hh.cell (block_range HV2.out j v hv) (by simp))
      clear hS0
      have HQ := Lib.hid ((Keeps.refl [] w2).drew)
      refine wp_region_noPanic ?_
      refine wp_region_held_drew (S := S0) (by kernel_rfl) hSD (fun hHeld => ?_)
      refine tw 0 (h := ?_)
      refine tw 1 (h := ?_)
      refine tw 2 (h := ?_)
      refine tw 3 (h := ?_)
      refine tw 4 (h := ?_)
      refine tw 5 (h := ?_)
      refine tw 6 (h := ?_)
      refine tw 7 (h := ?_)
      refine tw 8 (h := ?_)
      refine tk 9 (y := by exact skM.yields (st_ok o1 H1.out) rfl _ rfl w.heap.size 0 rfl HS1.out) (h := ?_)
      refine tk 11 (y := by exact skM.yields (st_ok o2 H2.out) rfl _ rfl (w.heap.size + 1) 0 rfl HS2.out) (h := ?_)
      refine rp 10 (h := fun K hK => ?_)
      refine wp_call9 22 _ _ rfl [.agg #[o1]] rfl Tryz.func22 (by kernel_rfl) (by kernel_rfl) ((mdEncode_any _ (HG.out.new HQ.out) (HA.out.new HQ.out) HL1.out).mono ?_)
      rintro e W1 ⟨rfl, hk⟩
      refine ⟨_, rfl, ?_⟩
      replace HQ := Lib.hid (HQ.out.trans hk (FSub.refl _ _))
      clear hk
      refine hK.out _ _ (by rw [HSE.out]; exact HQ.out) (fun hHeld => ?_); clear hK K; try simp only [Act.put, lsA, lsZ, lsS]
      refine rp 12 (h := fun K hK => ?_)
      refine wp_call9 22 _ _ rfl [.agg #[o2]] rfl Tryz.func22 (by kernel_rfl) (by kernel_rfl) ((mdEncode_any _ (HG.out.new HQ.out) (HB.out.new HQ.out) HL2.out).mono ?_)
      rintro e W2 ⟨rfl, hk⟩
      refine ⟨_, rfl, ?_⟩
      replace HQ := Lib.hid (HQ.out.trans hk (FSub.refl _ _))
      clear hk
      refine hK.out _ _ (by rw [HSE.out]; exact HQ.out) (fun hHeld => ?_); clear hK K; try simp only [Act.put, lsA, lsZ, lsS]
      refine tw 13 (h := ?_)
      refine tw 14 (h := ?_)
      refine tw 15 (h := ?_)
      refine wpAnyH_done (by kernel_rfl) ?_ _
      refine NoPanic.normal ?_
      go_wp2_with fail
      go_ret
      exact ⟨rfl, HK.out.trans HQ.out (FSub.refl _ _)⟩
    · rw [oSame_not (.inr h2)]
      rw [← h1] at HM2
      have t : (oModel O == oModel P) = false := by simpa using h2
      clear h1 h2
      generalize O.isSome = q at *
      generalize oModel O = n at *
      generalize oModel P = n2 at *
      go_enter Tryz.func45, Tryz.ntmps45
      go_wp2_with fail
      refine (HM1.out _ HA.out).mono ?_; rintro e w1 ⟨rfl, hk⟩
      replace HK := Lib.hid (HK.out.trans hk (FSub.refl _ _))
      replace HA := Lib.hid (HA.out.new hk); replace HB := Lib.hid (HB.out.new hk); replace HG := Lib.hid (HG.out.new hk)
      replace HV1 := Lib.hid (hk.heap HV1.out (by simp)); replace HV2 := Lib.hid (hk.heap HV2.out (by simp))
      have c1 : w1.cell? ⟨w.heap.size + 1, 0, none⟩ = some o2 := cell_lit HV2.out 0 rfl
      clear hk
      go_wp2_with fail
      refine (HM2.out _ HB.out).mono ?_; rintro e w2 ⟨rfl, hk⟩
      replace HK := Lib.hid (HK.out.trans hk (FSub.refl _ _))
      replace HA := Lib.hid (HA.out.new hk); replace HB := Lib.hid (HB.out.new hk); replace HG := Lib.hid (HG.out.new hk)
      replace HV1 := Lib.hid (hk.heap HV1.out (by simp)); replace HV2 := Lib.hid (hk.heap HV2.out (by simp))
      clear hk c1
      go_wp2_with fail
      obtain ⟨S0, hS0⟩ : ∃ S0 : World → Prop, S0 = fun y => Keeps [] w2 y := ⟨_, rfl⟩
      have HSE := Lib.hid hS0
      have hSD : S0 w2.drew := by rw [hS0]; exact (Keeps.refl _ _).drew
      have HS1 := Lib.hid (fun (w' : World) (hh : S0 w') => show w'.rangeAt w.heap.size 0 [o1] from by rw [hS0] at hh; exact fun j v hv => hh.cell (block_range HV1.out j v hv) (by simp))
      have HS2 := Lib.hid (fun (w' : World) (hh : S0 w') => show w'.rangeAt (w.heap.size + 1) 0 [o2] from by rw [hS0] at hh; exact fun j v hv => hh.cell (block_range HV2.out j v hv) (by simp))
      clear hS0
      have HQ := Lib.hid ((Keeps.refl [] w2).drew)
      refine wp_region_noPanic ?_
      refine wp_region_held_drew (S := S0) (by kernel_rfl) hSD (fun hHeld => ?_)
      refine tw 0 (h := ?_)
      refine tw 1 (h := ?_)
      refine tw 2 (h := ?_)
      refine tw 3 (h := ?_)
      refine tw 4 (h := ?_)
      refine tw 5 (h := ?_)
      refine tw 6 (h := ?_)
      refine tw 7 (h := ?_)
      refine tw 8 (h := ?_)
      refine tk 9 (y := by exact Or.inr ⟨by rfl, rfl⟩) (h := ?_)
      refine tk 10 (y := by exact Or.inr ⟨by rfl, rfl⟩) (h := ?_)
      refine tk 11 (y := by exact Or.inr ⟨by rfl, rfl⟩) (h := ?_)
      refine tk 12 (y := by exact Or.inr ⟨by rfl, rfl⟩) (h := ?_)
      refine tk 13 (y := by exact Or.inr ⟨by rfl, rfl⟩) (h := ?_)
      refine tw 14 (h := ?_)
      refine tw 15 (h := ?_)
      refine wpAnyH_done (by kernel_rfl) ?_ _
      refine NoPanic.normal ?_
      go_wp2_with fail
      go_ret
      exact ⟨rfl, HK.out.trans HQ.out (FSub.refl _ _)⟩
  · rw [oSame_not (.inl h1)]
    have t : (O.isSome == P.isSome) = false := by simpa using h1
    clear h1
    generalize O.isSome = q at *
    generalize P.isSome = q2 at *
    generalize oModel O = n at *
    generalize oModel P = n2 at *
    go_enter Tryz.func45, Tryz.ntmps45
    go_wp2_with fail
    refine (HM1.out _ HA.out).mono ?_; rintro e w1 ⟨rfl, hk⟩
    replace HK := Lib.hid (HK.out.trans hk (FSub.refl _ _))
    replace HA := Lib.hid (HA.out.new hk); replace HB := Lib.hid (HB.out.new hk); replace HG := Lib.hid (HG.out.new hk)
    replace HV1 := Lib.hid (hk.heap HV1.out (by simp)); replace HV2 := Lib.hid (hk.heap HV2.out (by simp))
    have c1 : w1.cell? ⟨w.heap.size + 1, 0, none⟩ = some o2 := cell_lit HV2.out 0 rfl
    clear hk
    go_wp2_with fail
    refine (HM2.out _ HB.out).mono ?_; rintro e w2 ⟨rfl, hk⟩
    replace HK := Lib.hid (HK.out.trans hk (FSub.refl _ _))
    replace HA := Lib.hid (HA.out.new hk); replace HB := Lib.hid (HB.out.new hk); replace HG := Lib.hid (HG.out.new hk)
    replace HV1 := Lib.hid (hk.heap HV1.out (by simp)); replace HV2 := Lib.hid (hk.heap HV2.out (by simp))
    clear hk c1
    go_wp2_with fail
    obtain ⟨S0, hS0⟩ : ∃ S0 : World → Prop, S0 = fun y => Keeps [] w2 y := ⟨_, rfl⟩
    have HSE := Lib.hid hS0
    have hSD : S0 w2.drew := by rw [hS0]; exact (Keeps.refl _ _).drew
    have HS1 := Lib.hid (fun (w' : World) (hh : S0 w') => show w'.rangeAt w.heap.size 0 [o1] from by rw [hS0] at hh; exact fun j v hv => hh.cell (block_range HV1.out j v hv) (by simp))
    have HS2 := Lib.hid (fun (w' : World) (hh : S0 w') => show w'.rangeAt (w.heap.size + 1) 0 [o2] from by rw [hS0] at hh; exact fun j v hv => hh.cell (block_range HV2.out j v hv) (by simp))
    clear hS0
    have HQ := Lib.hid ((Keeps.refl [] w2).drew)
    refine wp_region_noPanic ?_
    refine wp_region_held_drew (S := S0) (by kernel_rfl) hSD (fun hHeld => ?_)
    refine tw 0 (h := ?_)
    refine tw 1 (h := ?_)
    refine tw 2 (h := ?_)
    refine tw 3 (h := ?_)
    refine tk 4 (y := by exact Or.inr ⟨by rfl, rfl⟩) (h := ?_)
    refine tk 5 (y := by exact Or.inr ⟨by rfl, rfl⟩) (h := ?_)
    refine tk 6 (y := by exact Or.inr ⟨by rfl, rfl⟩) (h := ?_)
    refine tw 7 (h := ?_)
    refine tw 8 (h := ?_)
    refine tk 9 (y := by exact Or.inr ⟨by rfl, rfl⟩) (h := ?_)
    refine tk 10 (y := by exact Or.inr ⟨by rfl, rfl⟩) (h := ?_)
    refine tk 11 (y := by exact Or.inr ⟨by rfl, rfl⟩) (h := ?_)
    refine tk 12 (y := by exact Or.inr ⟨by rfl, rfl⟩) (h := ?_)
    refine tk 13 (y := by exact Or.inr ⟨by rfl, rfl⟩) (h := ?_)
    refine tw 14 (h := ?_)
    refine tw 15 (h := ?_)
    refine wpAnyH_done (by kernel_rfl) ?_ _
    refine NoPanic.normal ?_
    go_wp2_with fail
    go_ret
    exact ⟨rfl, HK.out.trans HQ.out (FSub.refl _ _)⟩
end Go.Proofs.YtbnhcggjcdipeaaGreatDoor
