/-
  The program's State: Encode, Text, Decode, Initial, Same.
-/
import Derived.Test.YtdachaekcjbfmaaGreatDoorMS00
import Derived.Test.YtdachaekcjbfmaaGreatDoorMS35
set_option linter.unusedSimpArgs false
set_option linter.unusedVariables false
namespace Go.Proofs.YtdachaekcjbfmaaGreatDoor
open Go.RowKit
set_option maxRecDepth 100000
set_option maxHeartbeats 8000000
theorem mdEncode_any (w : World) (hG : Glob13 w) {st : Value} {O : Option Md} (h : StAt w st O) (hl : oLen O ≤ 1000) : Calls Tryz.prog 25 #[st] w fun e w' => e = .returned (.string (bs (oB O))) ∧ Keeps [] w w' := by
  cases O with
  | none =>
    obtain ⟨o, rfl, h⟩ := h
    obtain rfl : o = .nilIface := h
    have HV := Lib.hid (show (w.alloc (.cells #[.nilIface] 29)).heap[w.heap.size]? = some (.cells [.nilIface].toArray 29 (0, 0)) from heap_alloc_new w _)
    have HK := Lib.hid (show Keeps [] w (w.alloc (.cells #[.nilIface] 29)) from (Keeps.refl _ _).alloc _)
    go_enter Tryz.func25, Tryz.ntmps25
    go_wp2_with fail
    generalize w.alloc (.cells #[.nilIface] 29) = w0 at *
    refine (mdKind_none w0).mono ?_; rintro e w1 ⟨rfl, hk⟩
    replace HK := Lib.hid (HK.out.trans hk (FSub.refl _ _))
    clear hk HV
    have HC := Lib.hid (show (w1.alloc (.cells #[.nilFunc, .nilFunc, .nilFunc, .nilFunc, .nilFunc, .nilFunc] 78)).heap[w1.heap.size]? = some (.cells kdZ.toArray 78 (0, 0)) from heap_alloc_new w1 _)
    have HCK := Lib.hid (show Keeps [] w1 (w1.alloc (.cells #[.nilFunc, .nilFunc, .nilFunc, .nilFunc, .nilFunc, .nilFunc] 78)) from (Keeps.refl _ _).alloc _)
    go_wp2_with ((with_reducible refine wpList_putKd (g := w1.heap.size) (A := kdZ) (old := kdZ) kdZ_ok kdZ_ok ?_ ?_ HC.out ?_); exact rfl; exact rfl)
    intro W hW hkW
    have HKB := Lib.hid hW
    have hk := HCK.out.trans' hkW (Nat.le_refl _)
    replace HK := Lib.hid (HK.out.trans hk (FSub.refl _ _))
    clear hW hkW hk HC HCK HKB
    generalize w1.heap.size = g at *
    go_wp2_with fail
    go_ret
    exact ⟨rfl, HK.out⟩
  | some S =>
    have HL := Lib.hid (show S.len ≤ 1000 from hl)
    obtain ⟨o, rfl, h⟩ := h
    obtain ⟨t, v, rfl⟩ := ObAt.iface h
    have HV := Lib.hid (show (w.alloc (.cells #[.iface t v] 29)).heap[w.heap.size]? = some (.cells [.iface t v].toArray 29 (0, 0)) from heap_alloc_new w _)
    have HK := Lib.hid (show Keeps [] w (w.alloc (.cells #[.iface t v] 29)) from (Keeps.refl _ _).alloc _)
    have HS := Lib.hid (show StAt _ _ (some S) from ⟨_, rfl, ObAt.new h HK.out⟩)
    have HG := Lib.hid (fun w' (hk : Keeps [] w w') => hG.new hk)
    clear h hl hG
    go_enter Tryz.func25, Tryz.ntmps25
    go_wp2_with fail
    generalize w.alloc (.cells #[.iface t v] 29) = w0 at *
    refine (mdKind_any w0 HS.out).mono ?_; rintro e w1 ⟨k, rfl, ha, hk⟩
    replace HV := Lib.hid (hk.heap HV.out (by simp))
    replace HK := Lib.hid (HK.out.trans hk (FSub.refl _ _))
    replace HS := Lib.hid (HS.out.new hk)
    have HA := Lib.hid ha
    clear hk ha
    have HC := Lib.hid (show (w1.alloc (.cells #[.nilFunc, .nilFunc, .nilFunc, .nilFunc, .nilFunc, .nilFunc] 78)).heap[w1.heap.size]? = some (.cells kdZ.toArray 78 (0, 0)) from heap_alloc_new w1 _)
    have HCK := Lib.hid (show Keeps [] w1 (w1.alloc (.cells #[.nilFunc, .nilFunc, .nilFunc, .nilFunc, .nilFunc, .nilFunc] 78)) from (Keeps.refl _ _).alloc _)
    go_wp2_with ((with_reducible refine wpList_putKd (g := w1.heap.size) (A := Kd.cs k) (old := kdZ) (Kd.ok _) kdZ_ok ?_ ?_ HC.out ?_); exact rfl; exact rfl)
    intro W hW hkW
    have HKB := Lib.hid hW
    have hk := HCK.out.trans' hkW (Nat.le_refl _)
    replace HV := Lib.hid (hk.heap HV.out (by simp))
    replace HK := Lib.hid (HK.out.trans hk (FSub.refl _ _))
    replace HS := Lib.hid (HS.out.new hk)
    replace HA := Lib.hid (HA.out.new hk)
    have c0 : W.cell? ⟨w1.heap.size, 2, none⟩ = some (fv k.e) := cell_lit hW 2 rfl
    have c1 : W.cell? ⟨w.heap.size, 0, none⟩ = some (.iface t v) := cell_lit HV.out 0 rfl
    obtain ⟨o2, e2, ho⟩ := HS.out
    obtain rfl : Value.iface t v = o2 := by simpa using e2
    have HO := Lib.hid (show ObAt W (.iface t v) S from ho)
    clear hW hkW hk HC HCK HKB HS e2 ho
    generalize w1.heap.size = g at *
    go_wp2_with ((with_reducible refine wpList_callC (f := fv k.e) [.iface t v] ?_ ?_ ?_); exact rfl; exact rfl)
    refine (HA.out.at.enc _ _ S (Keeps.refl _ _) (HG.out _ HK.out) HO.out rfl HL.out).mono ?_
    rintro e w2 ⟨rfl, hk⟩
    refine ⟨_, rfl, ?_⟩
    go_wp2_with fail
    go_ret
    exact ⟨rfl, HK.out.trans hk (FSub.refl _ _)⟩
theorem mdText_any (w : World) (hG : Glob13 w) {st : Value} {O : Option Md} (h : StAt w st O) (hl : oLen O ≤ 1000) : Calls Tryz.prog 21 #[st] w fun e w' => e = .returned (.string (bs (oT O))) ∧ Keeps [] w w' := by
  cases O with
  | none =>
    obtain ⟨o, rfl, h⟩ := h
    obtain rfl : o = .nilIface := h
    have HV := Lib.hid (show (w.alloc (.cells #[.nilIface] 29)).heap[w.heap.size]? = some (.cells [.nilIface].toArray 29 (0, 0)) from heap_alloc_new w _)
    have HK := Lib.hid (show Keeps [] w (w.alloc (.cells #[.nilIface] 29)) from (Keeps.refl _ _).alloc _)
    go_enter Tryz.func21, Tryz.ntmps21
    go_wp2_with fail
    generalize w.alloc (.cells #[.nilIface] 29) = w0 at *
    refine (mdKind_none w0).mono ?_; rintro e w1 ⟨rfl, hk⟩
    replace HK := Lib.hid (HK.out.trans hk (FSub.refl _ _))
    clear hk HV
    have HC := Lib.hid (show (w1.alloc (.cells #[.nilFunc, .nilFunc, .nilFunc, .nilFunc, .nilFunc, .nilFunc] 78)).heap[w1.heap.size]? = some (.cells kdZ.toArray 78 (0, 0)) from heap_alloc_new w1 _)
    have HCK := Lib.hid (show Keeps [] w1 (w1.alloc (.cells #[.nilFunc, .nilFunc, .nilFunc, .nilFunc, .nilFunc, .nilFunc] 78)) from (Keeps.refl _ _).alloc _)
    go_wp2_with ((with_reducible refine wpList_putKd (g := w1.heap.size) (A := kdZ) (old := kdZ) kdZ_ok kdZ_ok ?_ ?_ HC.out ?_); exact rfl; exact rfl)
    intro W hW hkW
    have HKB := Lib.hid hW
    have hk := HCK.out.trans' hkW (Nat.le_refl _)
    replace HK := Lib.hid (HK.out.trans hk (FSub.refl _ _))
    clear hW hkW hk HC HCK HKB
    generalize w1.heap.size = g at *
    go_wp2_with fail
    go_ret
    exact ⟨rfl, HK.out⟩
  | some S =>
    have HL := Lib.hid (show S.len ≤ 1000 from hl)
    obtain ⟨o, rfl, h⟩ := h
    obtain ⟨t, v, rfl⟩ := ObAt.iface h
    have HV := Lib.hid (show (w.alloc (.cells #[.iface t v] 29)).heap[w.heap.size]? = some (.cells [.iface t v].toArray 29 (0, 0)) from heap_alloc_new w _)
    have HK := Lib.hid (show Keeps [] w (w.alloc (.cells #[.iface t v] 29)) from (Keeps.refl _ _).alloc _)
    have HS := Lib.hid (show StAt _ _ (some S) from ⟨_, rfl, ObAt.new h HK.out⟩)
    have HG := Lib.hid (fun w' (hk : Keeps [] w w') => hG.new hk)
    clear h hl hG
    go_enter Tryz.func21, Tryz.ntmps21
    go_wp2_with fail
    generalize w.alloc (.cells #[.iface t v] 29) = w0 at *
    refine (mdKind_any w0 HS.out).mono ?_; rintro e w1 ⟨k, rfl, ha, hk⟩
    replace HV := Lib.hid (hk.heap HV.out (by simp))
    replace HK := Lib.hid (HK.out.trans hk (FSub.refl _ _))
    replace HS := Lib.hid (HS.out.new hk)
    have HA := Lib.hid ha
    clear hk ha
    have HC := Lib.hid (show (w1.alloc (.cells #[.nilFunc, .nilFunc, .nilFunc, .nilFunc, .nilFunc, .nilFunc] 78)).heap[w1.heap.size]? = some (.cells kdZ.toArray 78 (0, 0)) from heap_alloc_new w1 _)
    have HCK := Lib.hid (show Keeps [] w1 (w1.alloc (.cells #[.nilFunc, .nilFunc, .nilFunc, .nilFunc, .nilFunc, .nilFunc] 78)) from (Keeps.refl _ _).alloc _)
    go_wp2_with ((with_reducible refine wpList_putKd (g := w1.heap.size) (A := Kd.cs k) (old := kdZ) (Kd.ok _) kdZ_ok ?_ ?_ HC.out ?_); exact rfl; exact rfl)
    intro W hW hkW
    have HKB := Lib.hid hW
    have hk := HCK.out.trans' hkW (Nat.le_refl _)
    replace HV := Lib.hid (hk.heap HV.out (by simp))
    replace HK := Lib.hid (HK.out.trans hk (FSub.refl _ _))
    replace HS := Lib.hid (HS.out.new hk)
    replace HA := Lib.hid (HA.out.new hk)
    have c0 : W.cell? ⟨w1.heap.size, 3, none⟩ = some (fv k.t) := cell_lit hW 3 rfl
    have c1 : W.cell? ⟨w.heap.size, 0, none⟩ = some (.iface t v) := cell_lit HV.out 0 rfl
    obtain ⟨o2, e2, ho⟩ := HS.out
    obtain rfl : Value.iface t v = o2 := by simpa using e2
    have HO := Lib.hid (show ObAt W (.iface t v) S from ho)
    clear hW hkW hk HC HCK HKB HS e2 ho
    generalize w1.heap.size = g at *
    go_wp2_with ((with_reducible refine wpList_callC (f := fv k.t) [.iface t v] ?_ ?_ ?_); exact rfl; exact rfl)
    refine (HA.out.at.text _ _ S (Keeps.refl _ _) (HG.out _ HK.out) HO.out rfl HL.out).mono ?_
    rintro e w2 ⟨rfl, hk⟩
    refine ⟨_, rfl, ?_⟩
    go_wp2_with fail
    go_ret
    exact ⟨rfl, HK.out.trans hk (FSub.refl _ _)⟩
theorem mdInitial_any (w : World) (hG : Glob13 w) {st : Value} {O : Option Md} (h : StAt w st O) (hl : oLen O ≤ 1000) : Calls Tryz.prog 22 #[st] w fun e w' => e = .returned (.bool (oInit O)) ∧ Keeps [] w w' := by
  cases O with
  | none =>
    obtain ⟨o, rfl, h⟩ := h
    obtain rfl : o = .nilIface := h
    have HV := Lib.hid (show (w.alloc (.cells #[.nilIface] 29)).heap[w.heap.size]? = some (.cells [.nilIface].toArray 29 (0, 0)) from heap_alloc_new w _)
    have HK := Lib.hid (show Keeps [] w (w.alloc (.cells #[.nilIface] 29)) from (Keeps.refl _ _).alloc _)
    go_enter Tryz.func22, Tryz.ntmps22
    go_wp2_with fail
    generalize w.alloc (.cells #[.nilIface] 29) = w0 at *
    refine (mdKind_none w0).mono ?_; rintro e w1 ⟨rfl, hk⟩
    replace HK := Lib.hid (HK.out.trans hk (FSub.refl _ _))
    clear hk HV
    have HC := Lib.hid (show (w1.alloc (.cells #[.nilFunc, .nilFunc, .nilFunc, .nilFunc, .nilFunc, .nilFunc] 78)).heap[w1.heap.size]? = some (.cells kdZ.toArray 78 (0, 0)) from heap_alloc_new w1 _)
    have HCK := Lib.hid (show Keeps [] w1 (w1.alloc (.cells #[.nilFunc, .nilFunc, .nilFunc, .nilFunc, .nilFunc, .nilFunc] 78)) from (Keeps.refl _ _).alloc _)
    go_wp2_with ((with_reducible refine wpList_putKd (g := w1.heap.size) (A := kdZ) (old := kdZ) kdZ_ok kdZ_ok ?_ ?_ HC.out ?_); exact rfl; exact rfl)
    intro W hW hkW
    have HKB := Lib.hid hW
    have hk := HCK.out.trans' hkW (Nat.le_refl _)
    replace HK := Lib.hid (HK.out.trans hk (FSub.refl _ _))
    clear hW hkW hk HC HCK HKB
    generalize w1.heap.size = g at *
    go_wp2_with fail
    obtain ⟨S0, hS0⟩ : ∃ S0 : World → Prop, S0 = fun y => Keeps [] W y := ⟨_, rfl⟩
    have HSE := Lib.hid hS0
    have hSD : S0 W.drew := by rw [hS0]; exact (Keeps.refl _ _).drew
    have HQ := Lib.hid ((Keeps.refl [] W).drew)
    clear hS0
    refine wp_region_noPanic ?_
    refine wp_region_held_drew (S := S0) (by kernel_rfl) hSD (fun hHeld => ?_)
    apply wpAnyH_take (i := 0)
    · simp only [List.getElem?_toArray]; rfl
    iterate 3 (· kernel_rfl)
    · exact fun _ _ _ h => h
    · exact Or.inl ⟨by rfl, by intro w hSw; go_simp; try with_reducible rfl⟩
    · assumption
    try simp only [Act.put, lsA, lsZ, lsS]
    apply wpAnyH_take (i := 1)
    · simp only [List.getElem?_toArray]; rfl
    iterate 3 (· kernel_rfl)
    · exact fun _ _ _ h => h
    · exact Or.inl ⟨by rfl, by intro w hSw; go_simp; try with_reducible rfl⟩
    · assumption
    try simp only [Act.put, lsA, lsZ, lsS]
    apply wpAnyH_take (i := 2)
    · simp only [List.getElem?_toArray]; rfl
    iterate 3 (· kernel_rfl)
    · exact fun _ _ _ h => h
    · exact Or.inr ⟨by rfl, rfl⟩
    · assumption
    try simp only [Act.put, lsA, lsZ, lsS]
    apply wpAnyH_take (i := 3)
    · simp only [List.getElem?_toArray]; rfl
    iterate 3 (· kernel_rfl)
    · exact fun _ _ _ h => h
    · exact Or.inr ⟨by rfl, rfl⟩
    · assumption
    try simp only [Act.put, lsA, lsZ, lsS]
    apply wpAnyH_take (i := 4)
    · simp only [List.getElem?_toArray]; rfl
    iterate 3 (· kernel_rfl)
    · exact fun _ _ _ h => h
    · exact Or.inr ⟨by rfl, rfl⟩
    · assumption
    try simp only [Act.put, lsA, lsZ, lsS]
    apply wpAnyH_take (i := 5)
    · simp only [List.getElem?_toArray]; rfl
    iterate 3 (· kernel_rfl)
    · exact fun _ _ _ h => h
    · exact Or.inr ⟨by rfl, rfl⟩
    · assumption
    try simp only [Act.put, lsA, lsZ, lsS]
    apply wpAnyH_take (i := 6)
    · simp only [List.getElem?_toArray]; rfl
    iterate 3 (· kernel_rfl)
    · exact fun _ _ _ h => h
    · exact Or.inr ⟨by rfl, rfl⟩
    · assumption
    try simp only [Act.put, lsA, lsZ, lsS]
    apply wpAnyH_take (i := 7)
    · simp only [List.getElem?_toArray]; rfl
    iterate 3 (· kernel_rfl)
    · exact fun _ _ _ h => h
    · exact Or.inr ⟨by rfl, rfl⟩
    · assumption
    try simp only [Act.put, lsA, lsZ, lsS]
    apply wpAnyH_take (i := 8)
    · simp only [List.getElem?_toArray]; rfl
    iterate 3 (· kernel_rfl)
    · exact fun _ _ _ h => h
    · exact Or.inr ⟨by rfl, rfl⟩
    · assumption
    try simp only [Act.put, lsA, lsZ, lsS]
    apply wpAnyH_take (i := 9)
    · simp only [List.getElem?_toArray]; rfl
    iterate 3 (· kernel_rfl)
    · exact fun _ _ _ h => h
    · exact Or.inr ⟨by rfl, rfl⟩
    · assumption
    try simp only [Act.put, lsA, lsZ, lsS]
    apply wpAnyH_take (i := 10)
    · simp only [List.getElem?_toArray]; rfl
    iterate 3 (· kernel_rfl)
    · exact fun _ _ _ h => h
    · exact Or.inr ⟨by rfl, rfl⟩
    · assumption
    try simp only [Act.put, lsA, lsZ, lsS]
    apply wpAnyH_take (i := 11)
    · simp only [List.getElem?_toArray]; rfl
    iterate 3 (· kernel_rfl)
    · exact fun _ _ _ h => h
    · exact Or.inr ⟨by rfl, rfl⟩
    · assumption
    try simp only [Act.put, lsA, lsZ, lsS]
    apply wpAnyH_take (i := 12)
    · simp only [List.getElem?_toArray]; rfl
    iterate 3 (· kernel_rfl)
    · exact fun _ _ _ h => h
    · exact Or.inr ⟨by rfl, rfl⟩
    · assumption
    try simp only [Act.put, lsA, lsZ, lsS]
    apply wpAnyH_take (i := 13)
    · simp only [List.getElem?_toArray]; rfl
    iterate 3 (· kernel_rfl)
    · exact fun _ _ _ h => h
    · exact Or.inr ⟨by rfl, rfl⟩
    · assumption
    try simp only [Act.put, lsA, lsZ, lsS]
    apply wpAnyH_take (i := 14)
    · simp only [List.getElem?_toArray]; rfl
    iterate 3 (· kernel_rfl)
    · exact fun _ _ _ h => h
    · exact Or.inl ⟨by rfl, by intro w hSw; go_simp; try with_reducible rfl⟩
    · assumption
    try simp only [Act.put, lsA, lsZ, lsS]
    apply wpAnyH_take (i := 15)
    · simp only [List.getElem?_toArray]; rfl
    iterate 3 (· kernel_rfl)
    · exact fun _ _ _ h => h
    · exact Or.inl ⟨by rfl, by intro w hSw; go_simp; try with_reducible rfl⟩
    · assumption
    try simp only [Act.put, lsA, lsZ, lsS]
    refine wpAnyH_done (by kernel_rfl) ?_ _
    refine NoPanic.normal ?_
    go_wp2_with fail
    go_ret
    exact ⟨rfl, HK.out.trans HQ.out (FSub.refl _ _)⟩
  | some S =>
    have HL := Lib.hid (show S.len ≤ 1000 from hl)
    obtain ⟨o, rfl, h⟩ := h
    obtain ⟨t, v, rfl⟩ := ObAt.iface h
    have HV := Lib.hid (show (w.alloc (.cells #[.iface t v] 29)).heap[w.heap.size]? = some (.cells [.iface t v].toArray 29 (0, 0)) from heap_alloc_new w _)
    have HK := Lib.hid (show Keeps [] w (w.alloc (.cells #[.iface t v] 29)) from (Keeps.refl _ _).alloc _)
    have HS := Lib.hid (show StAt _ _ (some S) from ⟨_, rfl, ObAt.new h HK.out⟩)
    have HG := Lib.hid (fun w' (hk : Keeps [] w w') => hG.new hk)
    clear h hl hG
    go_enter Tryz.func22, Tryz.ntmps22
    go_wp2_with fail
    generalize w.alloc (.cells #[.iface t v] 29) = w0 at *
    refine (mdKind_any w0 HS.out).mono ?_; rintro e w1 ⟨k, rfl, ha, hk⟩
    replace HV := Lib.hid (hk.heap HV.out (by simp))
    replace HK := Lib.hid (HK.out.trans hk (FSub.refl _ _))
    replace HS := Lib.hid (HS.out.new hk)
    have HA := Lib.hid ha
    clear hk ha
    have HC := Lib.hid (show (w1.alloc (.cells #[.nilFunc, .nilFunc, .nilFunc, .nilFunc, .nilFunc, .nilFunc] 78)).heap[w1.heap.size]? = some (.cells kdZ.toArray 78 (0, 0)) from heap_alloc_new w1 _)
    have HCK := Lib.hid (show Keeps [] w1 (w1.alloc (.cells #[.nilFunc, .nilFunc, .nilFunc, .nilFunc, .nilFunc, .nilFunc] 78)) from (Keeps.refl _ _).alloc _)
    go_wp2_with ((with_reducible refine wpList_putKd (g := w1.heap.size) (A := Kd.cs k) (old := kdZ) (Kd.ok _) kdZ_ok ?_ ?_ HC.out ?_); exact rfl; exact rfl)
    intro W hW hkW
    have HKB := Lib.hid hW
    have hk := HCK.out.trans' hkW (Nat.le_refl _)
    replace HV := Lib.hid (hk.heap HV.out (by simp))
    replace HK := Lib.hid (HK.out.trans hk (FSub.refl _ _))
    replace HS := Lib.hid (HS.out.new hk)
    replace HA := Lib.hid (HA.out.new hk)
    obtain ⟨o2, e2, ho⟩ := HS.out
    obtain rfl : Value.iface t v = o2 := by simpa using e2
    have HO := Lib.hid (show ObAt W (.iface t v) S from ho)
    obtain ⟨S0, hS0⟩ : ∃ S0 : World → Prop, S0 = fun y => Keeps [] W y := ⟨_, rfl⟩
    have HSE := Lib.hid hS0
    have hSD : S0 W.drew := by rw [hS0]; exact (Keeps.refl _ _).drew
    have HCE := Lib.hid (fun (w' : World) (hh : S0 w') => show w'.cell? ⟨w1.heap.size, 2, none⟩ = some (fv k.e) from by rw [hS0] at hh; exact hh.cell (cell_lit hW 2 rfl) (by simp))
    have HCI := Lib.hid (fun (w' : World) (hh : S0 w') => show w'.cell? ⟨w1.heap.size, 0, none⟩ = some (fv k.i) from by rw [hS0] at hh; exact hh.cell (cell_lit hW 0 rfl) (by simp))
    have HCO := Lib.hid (fun (w' : World) (hh : S0 w') => show w'.cell? ⟨w.heap.size, 0, none⟩ = some (.iface t v) from by rw [hS0] at hh; exact hh.cell (cell_lit HV.out 0 rfl) (by simp))
    clear hS0
    clear hW hkW hk HC HCK HKB HS e2 ho
    generalize w1.heap.size = g at *
    go_wp2_with fail
    refine wp_region_noPanic ?_
    refine wp_region_held_drew (S := S0) (by kernel_rfl) hSD (fun hHeld => ?_)
    apply wpAnyH_take (i := 0)
    · simp only [List.getElem?_toArray]; rfl
    iterate 3 (· kernel_rfl)
    · exact fun _ _ _ h => h
    · exact Or.inl ⟨by rfl, by intro w hSw; go_simp; try with_reducible rfl⟩
    · assumption
    try simp only [Act.put, lsA, lsZ, lsS]
    apply wpAnyH_take (i := 1)
    · simp only [List.getElem?_toArray]; rfl
    iterate 3 (· kernel_rfl)
    · exact fun _ _ _ h => h
    · exact Or.inl ⟨by rfl, by intro w hSw; go_simp; try with_reducible rfl⟩
    · assumption
    try simp only [Act.put, lsA, lsZ, lsS]
    apply wpAnyH_take (i := 2)
    · simp only [List.getElem?_toArray]; rfl
    iterate 3 (· kernel_rfl)
    · exact fun _ _ _ h => h
    · exact Or.inl ⟨by rfl, by intro w hSw; go_simp; try with_reducible rfl⟩
    · assumption
    try simp only [Act.put, lsA, lsZ, lsS]
    apply wpAnyH_take (i := 3)
    · simp only [List.getElem?_toArray]; rfl
    iterate 3 (· kernel_rfl)
    · exact fun _ _ _ h => h
    · exact Or.inl ⟨by rfl, by intro w hSw; have q0 := HCE.out w hSw; go_simp; try with_reducible rfl⟩
    · assumption
    try simp only [Act.put, lsA, lsZ, lsS]
    apply wpAnyH_take (i := 4)
    · simp only [List.getElem?_toArray]; rfl
    iterate 3 (· kernel_rfl)
    · exact fun _ _ _ h => h
    · exact Or.inl ⟨by rfl, by intro w hSw; go_simp; try with_reducible rfl⟩
    · assumption
    try simp only [Act.put, lsA, lsZ, lsS]
    apply wpAnyH_take (i := 5)
    · simp only [List.getElem?_toArray]; rfl
    iterate 3 (· kernel_rfl)
    · exact fun _ _ _ h => h
    · exact Or.inl ⟨by rfl, by intro w hSw; have q0 := HCO.out w hSw; go_simp; try with_reducible rfl⟩
    · assumption
    try simp only [Act.put, lsA, lsZ, lsS]
    apply wpAnyH_take (i := 7)
    · simp only [List.getElem?_toArray]; rfl
    iterate 3 (· kernel_rfl)
    · exact fun _ _ _ h => h
    · exact Or.inl ⟨by rfl, by intro w hSw; go_simp; try with_reducible rfl⟩
    · assumption
    try simp only [Act.put, lsA, lsZ, lsS]
    apply wpAnyH_take (i := 8)
    · simp only [List.getElem?_toArray]; rfl
    iterate 3 (· kernel_rfl)
    · exact fun _ _ _ h => h
    · exact Or.inl ⟨by rfl, by intro w hSw; have q0 := HCE.out w hSw; go_simp; try with_reducible rfl⟩
    · assumption
    try simp only [Act.put, lsA, lsZ, lsS]
    apply wpAnyH_take (i := 9)
    · simp only [List.getElem?_toArray]; rfl
    iterate 3 (· kernel_rfl)
    · exact fun _ _ _ h => h
    · exact Or.inl ⟨by rfl, by intro w hSw; go_simp; try with_reducible rfl⟩
    · assumption
    try simp only [Act.put, lsA, lsZ, lsS]
    apply wpAnyH_take (i := 10)
    · simp only [List.getElem?_toArray]; rfl
    iterate 3 (· kernel_rfl)
    · exact fun _ _ _ h => h
    · exact Or.inl ⟨by rfl, by intro w hSw; have q0 := HCI.out w hSw; go_simp; try with_reducible rfl⟩
    · assumption
    try simp only [Act.put, lsA, lsZ, lsS]
    have HQ := Lib.hid ((Keeps.refl [] W).drew)
    apply wpAnyH_ready (rs := [6])
    · kernel_rfl
    · simp
    apply AllReadyH.cons (hs := AllReadyH.nil)
    · simp only [List.getElem?_toArray]; rfl
    intro K hK
    rw [if_pos (by rfl)]
    refine wp_callC _ _ _ rfl rfl _ rfl ((HA.out.at.enc _ _ S HQ.out (HG.out _ (HK.out.trans HQ.out (FSub.refl _ _))) (HO.out.new HQ.out) rfl HL.out).mono ?_)
    rintro e W1 ⟨rfl, hk⟩
    refine ⟨_, rfl, ?_⟩
    replace HQ := Lib.hid (HQ.out.trans hk (FSub.refl _ _))
    clear hk
    refine hK.out _ _ ?_ (fun hHeld => ?_)
    · exact (by rw [HSE.out]; exact HQ.out)
    clear hK K
    try simp only [Act.put, lsA, lsZ, lsS]
    apply wpAnyH_ready (rs := [11])
    · kernel_rfl
    · simp
    apply AllReadyH.cons (hs := AllReadyH.nil)
    · simp only [List.getElem?_toArray]; rfl
    intro K hK
    rw [if_pos (by rfl)]
    refine wp_callC _ _ _ rfl rfl [] rfl ((HA.out.at.init _ HQ.out).mono ?_)
    rintro e W2 ⟨o1, rfl, ho1, hk, -⟩
    refine ⟨_, rfl, ?_⟩
    replace HQ := Lib.hid (HQ.out.trans hk (FSub.refl _ _))
    have HO1 := Lib.hid ho1
    clear hk ho1
    refine hK.out _ _ ?_ (fun hHeld => ?_)
    · exact (by rw [HSE.out]; exact HQ.out)
    clear hK K
    try simp only [Act.put, lsA, lsZ, lsS]
    apply wpAnyH_ready (rs := [12])
    · kernel_rfl
    · simp
    apply AllReadyH.cons (hs := AllReadyH.nil)
    · simp only [List.getElem?_toArray]; rfl
    intro K hK
    rw [if_pos (by rfl)]
    refine wp_callC _ _ _ rfl rfl _ rfl ((HA.out.at.enc _ _ (mdInit S.model) HQ.out (HG.out _ (HK.out.trans HQ.out (FSub.refl _ _))) HO1.out (mdInit_model S.model_in.1 S.model_in.2) (by rw [mdInit_len]; omega)).mono ?_)
    rintro e W3 ⟨rfl, hk⟩
    refine ⟨_, rfl, ?_⟩
    replace HQ := Lib.hid (HQ.out.trans hk (FSub.refl _ _))
    clear hk
    refine hK.out _ _ ?_ (fun hHeld => ?_)
    · exact (by rw [HSE.out]; exact HQ.out)
    clear hK K
    try simp only [Act.put, lsA, lsZ, lsS]
    apply wpAnyH_take (i := 13)
    · simp only [List.getElem?_toArray]; rfl
    iterate 3 (· kernel_rfl)
    · exact fun _ _ _ h => h
    · exact Or.inl ⟨by rfl, by intro w hSw; go_simp; try with_reducible rfl⟩
    · assumption
    try simp only [Act.put, lsA, lsZ, lsS]
    apply wpAnyH_take (i := 14)
    · simp only [List.getElem?_toArray]; rfl
    iterate 3 (· kernel_rfl)
    · exact fun _ _ _ h => h
    · exact Or.inl ⟨by rfl, by intro w hSw; go_simp; try with_reducible rfl⟩
    · assumption
    try simp only [Act.put, lsA, lsZ, lsS]
    apply wpAnyH_take (i := 15)
    · simp only [List.getElem?_toArray]; rfl
    iterate 3 (· kernel_rfl)
    · exact fun _ _ _ h => h
    · exact Or.inl ⟨by rfl, by intro w hSw; go_simp; try with_reducible rfl⟩
    · assumption
    try simp only [Act.put, lsA, lsZ, lsS]
    refine wpAnyH_done (by kernel_rfl) ?_ _
    refine NoPanic.normal ?_
    go_wp2_with fail
    go_ret
    exact ⟨by show _ = Ending.returned (.bool (decide (mdB S = mdB (mdInit S.model)))); rw [← bs_beq]; rfl, HK.out.trans HQ.out (FSub.refl _ _)⟩
theorem StAt.one {w : World} {st : Value} {O : Option Md} (h : StAt w st O) : ∃ o, st = .agg #[o] ∧ o.oneCell' = true := by
  obtain ⟨o, rfl, h⟩ := h
  refine ⟨o, rfl, ?_⟩
  cases O with
  | none => obtain rfl : o = .nilIface := h; rfl
  | some S => exact ObAt.one h
end Go.Proofs.YtdachaekcjbfmaaGreatDoor
