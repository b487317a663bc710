/-
  The program's key map: the step of Swap.
-/
import Derived.Test.YtnmpekbkahkapaaKO17
import Derived.Test.YtnmpekbkahkapaaKO07
import Derived.Test.YtnmpekbkahkapaaKO06
import Derived.Test.YtnmpekbkahkapaaKO16
import Derived.Test.YtnmpekbkahkapaaKO11
import Derived.Test.YtnmpekbkahkapaaKO15
set_option linter.unusedSimpArgs false
set_option linter.unusedVariables false
namespace Go.Proofs.Ytnmpekbkahkapaa
open Go.RowKit
set_option maxHeartbeats 8000000
set_option maxRecDepth 100000
theorem kvSwap_none (w : World) {m : Kv} (hm : KvIn m) (f o a b : Int) {kn : Nat} (hk8 : kn < 8) (ho : m.getD kn none = none) :
    Calls Try.prog 56 #[.agg (kvA (kvH m) (kvV m)), .agg #[.int .u8 f, .int .u8 o, .int .u8 (kn : Int), .int .u16 a, .int .u16 b]] w (KsPost w m ⟨4, 0⟩) := by
  obtain ⟨W, hW⟩ : ∃ W, W = (((w.alloc (.cells (kvA (kvH m) (kvV m)) 25)).alloc (.cells #[.int .u8 f, .int .u8 o, .int .u8 (kn : Int), .int .u16 a, .int .u16 b] 27)).alloc (.cells (kvA 0 []) 25)).alloc (.cells (ansC ⟨0, 0⟩).toArray 32) := ⟨_, rfl⟩
  obtain ⟨hk0, h0, h1, h2, h3, hz⟩ := vars_k w _ _ _ W hW
  simp only [show (ansC ⟨0, 0⟩).toArray = #[Value.int .u8 0, .int .u16 0] from rfl, show kvA 0 [] = #[Value.int .u8 0, .int .u16 0, .int .u16 0, .int .u16 0, .int .u16 0, .int .u16 0, .int .u16 0, .int .u16 0, .int .u16 0] from rfl] at hW
  have h0' := h0
  rw [hW] at h0'
  have HL0 := Lib.hid h0'
  obtain ⟨R, hR⟩ : ∃ R, R = w.heap.size := ⟨_, rfl⟩
  rw [← hR] at h0 h1 h2 h3 hz
  have HWW := Lib.hid hW; have HRE := Lib.hid hR; have HK0 := Lib.hid hk0
  have HZ := Lib.hid hz; have HO := Lib.hid ho
  have HHAS := Lib.hid (fun w => kvHas_kv w hm (key := (kn : Int)) (Int.natCast_nonneg _))
  clear h0' hW hR hk0 hz
  obtain ⟨S, hS⟩ : ∃ S : World → Prop, S = fun y => Keeps [] W y := ⟨_, rfl⟩
  have HSE := Lib.hid hS
  have hSD : S W.drew := by rw [hS]; exact (Keeps.refl _ _).drew
  have HS0 := Lib.hid (fun (w' : World) (hh : S w') => show ∃ t, w'.heap[R]? = some (.cells (kvA (kvH m) (kvV m)) t (0, 0)) from by rw [hS] at hh; exact ⟨_, hh.heap h0 (by simp)⟩)
  have HSK := Lib.hid (fun (w' : World) (hh : S w') => show w'.cell? ⟨R + 1, 2, none⟩ = some (.int .u8 (kn : Int)) from by rw [hS] at hh; exact hh.cell (cell_lit h1 2 rfl) (by simp))
  have HSA := Lib.hid (fun (w' : World) (hh : S w') => show w'.cell? ⟨R + 1, 3, none⟩ = some (.int .u16 a) from by rw [hS] at hh; exact hh.cell (cell_lit h1 3 rfl) (by simp))
  have hcv := kv_cell h0 hk8
  have HLT := Lib.hid (fun (w' : World) (_ : S w') => show (kn : Int) < 8 from by omega)
  clear hS hcv
  go_enter Try.func56, Try.ntmps56
  go_wp2_with fail
  rw [← HRE.out, ← HWW.out]
  refine wp_region_noPanic ?_
  refine wp_region_held_drew (S := S) (by kernel_rfl) hSD (fun hHeld => ?_)
  apply wpAnyH_take (i := 0)
  · simp only [List.getElem?_toArray]; rfl
  · kernel_rfl
  · kernel_rfl
  · kernel_rfl
  · exact fun _ _ _ h => h
  · exact yields_loadK (by rfl) _ rfl R rfl _ _ HS0.out
  · assumption
  try simp only [Act.put, List.setIfInBounds_toArray, List.set_cons_zero, List.set_cons_succ]
  apply wpAnyH_take (i := 1)
  · simp only [List.getElem?_toArray]; rfl
  · kernel_rfl
  · kernel_rfl
  · kernel_rfl
  · exact fun _ _ _ h => h
  · exact Or.inl ⟨by rfl, by intro w hSw; go_simp; try with_reducible rfl⟩
  · assumption
  try simp only [Act.put, List.setIfInBounds_toArray, List.set_cons_zero, List.set_cons_succ]
  apply wpAnyH_take (i := 2)
  · simp only [List.getElem?_toArray]; rfl
  · kernel_rfl
  · kernel_rfl
  · kernel_rfl
  · exact fun _ _ _ h => h
  · exact Or.inl ⟨by rfl, by intro w hSw; have q0 := HSK.out w hSw; go_simp; try with_reducible rfl⟩
  · assumption
  try simp only [Act.put, List.setIfInBounds_toArray, List.set_cons_zero, List.set_cons_succ]
  apply wpAnyH_ready (rs := [3])
  · kernel_rfl
  · simp
  apply AllReadyH.cons (hs := AllReadyH.nil)
  · simp only [List.getElem?_toArray]; rfl
  intro K hK
  rw [if_pos (by rfl)]
  refine wp_call9 30 _ _ rfl [.agg (kvA (kvH m) (kvV m)), .int .u8 (kn : Int)] rfl Try.func30 (by kernel_rfl) (by kernel_rfl) ((HHAS.out W.drew).mono ?_)
  rintro e w1 ⟨rfl, hk1⟩
  refine ⟨_, rfl, ?_⟩
  rw [Int.toNat_natCast, HO.out]
  simp only [Option.isSome_none, Option.isSome_some]
  have HKW := Lib.hid (((Keeps.refl [] W).drew).trans hk1 (FSub.refl _ _))
  clear hk1
  refine hK.out _ _ ?_ (fun hHeld => ?_)
  · exact (by rw [HSE.out]; exact HKW.out)
  clear hK K
  try simp only [Act.put, List.setIfInBounds_toArray, List.set_cons_zero, List.set_cons_succ]
  apply wpAnyH_take (i := 4)
  · simp only [List.getElem?_toArray]; rfl
  · kernel_rfl
  · kernel_rfl
  · kernel_rfl
  · exact fun _ _ _ h => h
  · exact Or.inl ⟨by rfl, by intro w hSw; go_simp; try with_reducible rfl⟩
  · assumption
  try simp only [Act.put, List.setIfInBounds_toArray, List.set_cons_zero, List.set_cons_succ]
  apply wpAnyH_take (i := 5)
  · simp only [List.getElem?_toArray]; rfl
  · kernel_rfl
  · kernel_rfl
  · kernel_rfl
  · exact fun _ _ _ h => h
  · exact Or.inl ⟨by rfl, by intro w hSw; go_simp; try with_reducible rfl⟩
  · assumption
  try simp only [Act.put, List.setIfInBounds_toArray, List.set_cons_zero, List.set_cons_succ]
  apply wpAnyH_take (i := 6)
  · simp only [List.getElem?_toArray]; rfl
  · kernel_rfl
  · kernel_rfl
  · kernel_rfl
  · exact fun _ _ _ h => h
  · exact Or.inr ⟨by rfl, rfl⟩
  · assumption
  try simp only [Act.put, List.setIfInBounds_toArray, List.set_cons_zero, List.set_cons_succ]
  apply wpAnyH_take (i := 7)
  · simp only [List.getElem?_toArray]; rfl
  · kernel_rfl
  · kernel_rfl
  · kernel_rfl
  · exact fun _ _ _ h => h
  · exact Or.inr ⟨by rfl, rfl⟩
  · assumption
  try simp only [Act.put, List.setIfInBounds_toArray, List.set_cons_zero, List.set_cons_succ]
  apply wpAnyH_take (i := 8)
  · simp only [List.getElem?_toArray]; rfl
  · kernel_rfl
  · kernel_rfl
  · kernel_rfl
  · exact fun _ _ _ h => h
  · exact Or.inr ⟨by rfl, rfl⟩
  · assumption
  try simp only [Act.put, List.setIfInBounds_toArray, List.set_cons_zero, List.set_cons_succ]
  apply wpAnyH_take (i := 9)
  · simp only [List.getElem?_toArray]; rfl
  · kernel_rfl
  · kernel_rfl
  · kernel_rfl
  · exact fun _ _ _ h => h
  · exact Or.inr ⟨by rfl, rfl⟩
  · assumption
  try simp only [Act.put, List.setIfInBounds_toArray, List.set_cons_zero, List.set_cons_succ]
  apply wpAnyH_take (i := 10)
  · simp only [List.getElem?_toArray]; rfl
  · kernel_rfl
  · kernel_rfl
  · kernel_rfl
  · exact fun _ _ _ h => h
  · exact Or.inr ⟨by rfl, rfl⟩
  · assumption
  try simp only [Act.put, List.setIfInBounds_toArray, List.set_cons_zero, List.set_cons_succ]
  apply wpAnyH_take (i := 11)
  · simp only [List.getElem?_toArray]; rfl
  · kernel_rfl
  · kernel_rfl
  · kernel_rfl
  · exact fun _ _ _ h => h
  · exact Or.inr ⟨by rfl, rfl⟩
  · assumption
  try simp only [Act.put, List.setIfInBounds_toArray, List.set_cons_zero, List.set_cons_succ]
  apply wpAnyH_take (i := 12)
  · simp only [List.getElem?_toArray]; rfl
  · kernel_rfl
  · kernel_rfl
  · kernel_rfl
  · exact fun _ _ _ h => h
  · exact Or.inr ⟨by rfl, rfl⟩
  · assumption
  try simp only [Act.put, List.setIfInBounds_toArray, List.set_cons_zero, List.set_cons_succ]
  apply wpAnyH_take (i := 13)
  · simp only [List.getElem?_toArray]; rfl
  · kernel_rfl
  · kernel_rfl
  · kernel_rfl
  · exact fun _ _ _ h => h
  · exact Or.inr ⟨by rfl, rfl⟩
  · assumption
  try simp only [Act.put, List.setIfInBounds_toArray, List.set_cons_zero, List.set_cons_succ]
  apply wpAnyH_take (i := 14)
  · simp only [List.getElem?_toArray]; rfl
  · kernel_rfl
  · kernel_rfl
  · kernel_rfl
  · exact fun _ _ _ h => h
  · exact Or.inl ⟨by rfl, by intro w hSw; go_simp; try with_reducible rfl⟩
  · assumption
  try simp only [Act.put, List.setIfInBounds_toArray, List.set_cons_zero, List.set_cons_succ]
  refine wpAnyH_done (by kernel_rfl) ?_ _
  refine NoPanic.normal ?_
  have HB0 := Lib.hid (HKW.out.heap h0 (by simp)); have HB2 := Lib.hid (HKW.out.heap h2 (by simp)); have HB3 := Lib.hid (HKW.out.heap h3 (by simp))
  have hb1 := HKW.out.heap h1 (by simp)
  have c2 : w1.cell? ⟨R + 1, 2, none⟩ = some (.int .u8 (kn : Int)) := cell_lit hb1 2 rfl
  have c4 : w1.cell? ⟨R + 1, 4, none⟩ = some (.int .u16 b) := cell_lit hb1 4 rfl
  have HK1 := Lib.hid (HK0.out.trans HKW.out (FSub.refl _ _))
  clear h0 h1 h2 h3 hb1 HL0 HK0 HKW HHAS HS0 HSK HSA HLT
  go_wp2_with (first
    | ((with_reducible refine wpList_loadK (g := R) rfl ?_ HB0.out ?_); exact rfl)
    | ((with_reducible refine wpList_putK (g := R + 2) (h := kvH m) (vs := kvV m) ?_ ?_ HB2.out ?_); exact rfl; exact rfl))
  intro W2 hW2 hk2
  have HW2 := Lib.hid hW2
  have HA2 := Lib.hid (hk2.heap HB3.out (by simp))
  have HK2 := Lib.hid (HK1.out.trans hk2 (fun q hq => .inr (by have := HRE.out; simp at hq; omega)))
  clear hW2 hk2
  go_wp2_with ((with_reducible refine wpList_putN (g := R + 3) (old := ⟨0, 0⟩) ⟨4, 0⟩ ?_ ?_ HA2.out ?_); exact rfl; exact rfl)
  intro W3 hW3 hk3
  have HW3 := Lib.hid hW3
  have HS3 := Lib.hid (hk3.heap HW2.out (by simp))
  have HK3 := Lib.hid (HK2.out.trans hk3 (fun q hq => .inr (by have := HRE.out; simp at hq; omega)))
  clear hW3 hk3
  go_wp2_with fail
  try simp only [Exit.inBlock, Exit.then]
  exact bodyPost_ret (results_kv2 rfl _ _ (R + 2) (R + 3) ⟨4, 0⟩ rfl HS3.out rfl HW3.out) rfl ⟨rfl, HK3.out⟩
theorem kvSwap_ne (w : World) {m : Kv} (hm : KvIn m) (f o a b : Int) {kn : Nat} (hk8 : kn < 8) {v : Int} (ho : m.getD kn none = some v) (hne : v ≠ a) :
    Calls Try.prog 56 #[.agg (kvA (kvH m) (kvV m)), .agg #[.int .u8 f, .int .u8 o, .int .u8 (kn : Int), .int .u16 a, .int .u16 b]] w (KsPost w m ⟨4, 0⟩) := by
  have hval : (kvV m).getD kn 0 = v := by rw [kvV_getD (by rw [hm.len]; exact hk8), ho]; rfl
  obtain ⟨W, hW⟩ : ∃ W, W = (((w.alloc (.cells (kvA (kvH m) (kvV m)) 25)).alloc (.cells #[.int .u8 f, .int .u8 o, .int .u8 (kn : Int), .int .u16 a, .int .u16 b] 27)).alloc (.cells (kvA 0 []) 25)).alloc (.cells (ansC ⟨0, 0⟩).toArray 32) := ⟨_, rfl⟩
  obtain ⟨hk0, h0, h1, h2, h3, hz⟩ := vars_k w _ _ _ W hW
  simp only [show (ansC ⟨0, 0⟩).toArray = #[Value.int .u8 0, .int .u16 0] from rfl, show kvA 0 [] = #[Value.int .u8 0, .int .u16 0, .int .u16 0, .int .u16 0, .int .u16 0, .int .u16 0, .int .u16 0, .int .u16 0, .int .u16 0] from rfl] at hW
  have h0' := h0
  rw [hW] at h0'
  have HL0 := Lib.hid h0'
  obtain ⟨R, hR⟩ : ∃ R, R = w.heap.size := ⟨_, rfl⟩
  rw [← hR] at h0 h1 h2 h3 hz
  have HWW := Lib.hid hW; have HRE := Lib.hid hR; have HK0 := Lib.hid hk0
  have HZ := Lib.hid hz; have HO := Lib.hid ho
  have HHAS := Lib.hid (fun w => kvHas_kv w hm (key := (kn : Int)) (Int.natCast_nonneg _))
  clear h0' hW hR hk0 hz
  obtain ⟨S, hS⟩ : ∃ S : World → Prop, S = fun y => Keeps [] W y := ⟨_, rfl⟩
  have HSE := Lib.hid hS
  have hSD : S W.drew := by rw [hS]; exact (Keeps.refl _ _).drew
  have HS0 := Lib.hid (fun (w' : World) (hh : S w') => show ∃ t, w'.heap[R]? = some (.cells (kvA (kvH m) (kvV m)) t (0, 0)) from by rw [hS] at hh; exact ⟨_, hh.heap h0 (by simp)⟩)
  have HSK := Lib.hid (fun (w' : World) (hh : S w') => show w'.cell? ⟨R + 1, 2, none⟩ = some (.int .u8 (kn : Int)) from by rw [hS] at hh; exact hh.cell (cell_lit h1 2 rfl) (by simp))
  have HSA := Lib.hid (fun (w' : World) (hh : S w') => show w'.cell? ⟨R + 1, 3, none⟩ = some (.int .u16 a) from by rw [hS] at hh; exact hh.cell (cell_lit h1 3 rfl) (by simp))
  have hcv := kv_cell h0 hk8
  have HLT := Lib.hid (fun (w' : World) (_ : S w') => show (kn : Int) < 8 from by omega)
  rw [hval] at hcv
  have HSV := Lib.hid (fun (w' : World) (hh : S w') => show w'.cell? ⟨R, 1 + kn, none⟩ = some (.int .u16 v) from by rw [hS] at hh; exact hh.cell hcv (by simp))
  have HNE := Lib.hid (fun (w' : World) (_ : S w') => show (v != a) = true from by simpa using hne)
  clear hS hcv hval hne
  go_enter Try.func56, Try.ntmps56
  go_wp2_with fail
  rw [← HRE.out, ← HWW.out]
  refine wp_region_noPanic ?_
  refine wp_region_held_drew (S := S) (by kernel_rfl) hSD (fun hHeld => ?_)
  apply wpAnyH_take (i := 0)
  · simp only [List.getElem?_toArray]; rfl
  · kernel_rfl
  · kernel_rfl
  · kernel_rfl
  · exact fun _ _ _ h => h
  · exact yields_loadK (by rfl) _ rfl R rfl _ _ HS0.out
  · assumption
  try simp only [Act.put, List.setIfInBounds_toArray, List.set_cons_zero, List.set_cons_succ]
  apply wpAnyH_take (i := 1)
  · simp only [List.getElem?_toArray]; rfl
  · kernel_rfl
  · kernel_rfl
  · kernel_rfl
  · exact fun _ _ _ h => h
  · exact Or.inl ⟨by rfl, by intro w hSw; go_simp; try with_reducible rfl⟩
  · assumption
  try simp only [Act.put, List.setIfInBounds_toArray, List.set_cons_zero, List.set_cons_succ]
  apply wpAnyH_take (i := 2)
  · simp only [List.getElem?_toArray]; rfl
  · kernel_rfl
  · kernel_rfl
  · kernel_rfl
  · exact fun _ _ _ h => h
  · exact Or.inl ⟨by rfl, by intro w hSw; have q0 := HSK.out w hSw; go_simp; try with_reducible rfl⟩
  · assumption
  try simp only [Act.put, List.setIfInBounds_toArray, List.set_cons_zero, List.set_cons_succ]
  apply wpAnyH_ready (rs := [3])
  · kernel_rfl
  · simp
  apply AllReadyH.cons (hs := AllReadyH.nil)
  · simp only [List.getElem?_toArray]; rfl
  intro K hK
  rw [if_pos (by rfl)]
  refine wp_call9 30 _ _ rfl [.agg (kvA (kvH m) (kvV m)), .int .u8 (kn : Int)] rfl Try.func30 (by kernel_rfl) (by kernel_rfl) ((HHAS.out W.drew).mono ?_)
  rintro e w1 ⟨rfl, hk1⟩
  refine ⟨_, rfl, ?_⟩
  rw [Int.toNat_natCast, HO.out]
  simp only [Option.isSome_none, Option.isSome_some]
  have HKW := Lib.hid (((Keeps.refl [] W).drew).trans hk1 (FSub.refl _ _))
  clear hk1
  refine hK.out _ _ ?_ (fun hHeld => ?_)
  · exact (by rw [HSE.out]; exact HKW.out)
  clear hK K
  try simp only [Act.put, List.setIfInBounds_toArray, List.set_cons_zero, List.set_cons_succ]
  apply wpAnyH_take (i := 4)
  · simp only [List.getElem?_toArray]; rfl
  · kernel_rfl
  · kernel_rfl
  · kernel_rfl
  · exact fun _ _ _ h => h
  · exact Or.inl ⟨by rfl, by intro w hSw; go_simp; try with_reducible rfl⟩
  · assumption
  try simp only [Act.put, List.setIfInBounds_toArray, List.set_cons_zero, List.set_cons_succ]
  apply wpAnyH_take (i := 5)
  · simp only [List.getElem?_toArray]; rfl
  · kernel_rfl
  · kernel_rfl
  · kernel_rfl
  · exact fun _ _ _ h => h
  · exact Or.inl ⟨by rfl, by intro w hSw; go_simp; try with_reducible rfl⟩
  · assumption
  try simp only [Act.put, List.setIfInBounds_toArray, List.set_cons_zero, List.set_cons_succ]
  apply wpAnyH_take (i := 6)
  · simp only [List.getElem?_toArray]; rfl
  · kernel_rfl
  · kernel_rfl
  · kernel_rfl
  · exact fun _ _ _ h => h
  · exact Or.inl ⟨by rfl, by intro w hSw; go_simp; try with_reducible rfl⟩
  · assumption
  try simp only [Act.put, List.setIfInBounds_toArray, List.set_cons_zero, List.set_cons_succ]
  apply wpAnyH_take (i := 7)
  · simp only [List.getElem?_toArray]; rfl
  · kernel_rfl
  · kernel_rfl
  · kernel_rfl
  · exact fun _ _ _ h => h
  · exact Or.inl ⟨by rfl, by intro w hSw; have q0 := HSK.out w hSw; go_simp; try with_reducible rfl⟩
  · assumption
  try simp only [Act.put, List.setIfInBounds_toArray, List.set_cons_zero, List.set_cons_succ]
  apply wpAnyH_take (i := 8)
  · simp only [List.getElem?_toArray]; rfl
  · kernel_rfl
  · kernel_rfl
  · kernel_rfl
  · exact fun _ _ _ h => h
  · exact Or.inl ⟨by rfl, by intro w hSw; go_simp; try with_reducible rfl⟩
  · assumption
  try simp only [Act.put, List.setIfInBounds_toArray, List.set_cons_zero, List.set_cons_succ]
  apply wpAnyH_take (i := 9)
  · simp only [List.getElem?_toArray]; rfl
  · kernel_rfl
  · kernel_rfl
  · kernel_rfl
  · exact fun _ _ _ h => h
  · exact Or.inl ⟨by rfl, by intro w hSw; have q0 := HLT.out w hSw; go_simp; try with_reducible rfl⟩
  · assumption
  try simp only [Act.put, List.setIfInBounds_toArray, List.set_cons_zero, List.set_cons_succ]
  apply wpAnyH_take (i := 10)
  · simp only [List.getElem?_toArray]; rfl
  · kernel_rfl
  · kernel_rfl
  · kernel_rfl
  · exact fun _ _ _ h => h
  · exact Or.inl ⟨by rfl, by intro w hSw; have q0 := HSV.out w hSw; go_simp; try with_reducible rfl⟩
  · assumption
  try simp only [Act.put, List.setIfInBounds_toArray, List.set_cons_zero, List.set_cons_succ]
  apply wpAnyH_take (i := 11)
  · simp only [List.getElem?_toArray]; rfl
  · kernel_rfl
  · kernel_rfl
  · kernel_rfl
  · exact fun _ _ _ h => h
  · exact Or.inl ⟨by rfl, by intro w hSw; go_simp; try with_reducible rfl⟩
  · assumption
  try simp only [Act.put, List.setIfInBounds_toArray, List.set_cons_zero, List.set_cons_succ]
  apply wpAnyH_take (i := 12)
  · simp only [List.getElem?_toArray]; rfl
  · kernel_rfl
  · kernel_rfl
  · kernel_rfl
  · exact fun _ _ _ h => h
  · exact Or.inl ⟨by rfl, by intro w hSw; have q0 := HSA.out w hSw; go_simp; try with_reducible rfl⟩
  · assumption
  try simp only [Act.put, List.setIfInBounds_toArray, List.set_cons_zero, List.set_cons_succ]
  apply wpAnyH_take (i := 13)
  · simp only [List.getElem?_toArray]; rfl
  · kernel_rfl
  · kernel_rfl
  · kernel_rfl
  · exact fun _ _ _ h => h
  · exact Or.inl ⟨by rfl, by intro w hSw; have q0 := HNE.out w hSw; go_simp; try with_reducible rfl⟩
  · assumption
  try simp only [Act.put, List.setIfInBounds_toArray, List.set_cons_zero, List.set_cons_succ]
  apply wpAnyH_take (i := 14)
  · simp only [List.getElem?_toArray]; rfl
  · kernel_rfl
  · kernel_rfl
  · kernel_rfl
  · exact fun _ _ _ h => h
  · exact Or.inl ⟨by rfl, by intro w hSw; go_simp; try with_reducible rfl⟩
  · assumption
  try simp only [Act.put, List.setIfInBounds_toArray, List.set_cons_zero, List.set_cons_succ]
  refine wpAnyH_done (by kernel_rfl) ?_ _
  refine NoPanic.normal ?_
  have HB0 := Lib.hid (HKW.out.heap h0 (by simp)); have HB2 := Lib.hid (HKW.out.heap h2 (by simp)); have HB3 := Lib.hid (HKW.out.heap h3 (by simp))
  have hb1 := HKW.out.heap h1 (by simp)
  have c2 : w1.cell? ⟨R + 1, 2, none⟩ = some (.int .u8 (kn : Int)) := cell_lit hb1 2 rfl
  have c4 : w1.cell? ⟨R + 1, 4, none⟩ = some (.int .u16 b) := cell_lit hb1 4 rfl
  have HK1 := Lib.hid (HK0.out.trans HKW.out (FSub.refl _ _))
  clear h0 h1 h2 h3 hb1 HL0 HK0 HKW HHAS HS0 HSK HSA HLT
  go_wp2_with (first
    | ((with_reducible refine wpList_loadK (g := R) rfl ?_ HB0.out ?_); exact rfl)
    | ((with_reducible refine wpList_putK (g := R + 2) (h := kvH m) (vs := kvV m) ?_ ?_ HB2.out ?_); exact rfl; exact rfl))
  intro W2 hW2 hk2
  have HW2 := Lib.hid hW2
  have HA2 := Lib.hid (hk2.heap HB3.out (by simp))
  have HK2 := Lib.hid (HK1.out.trans hk2 (fun q hq => .inr (by have := HRE.out; simp at hq; omega)))
  clear hW2 hk2
  go_wp2_with ((with_reducible refine wpList_putN (g := R + 3) (old := ⟨0, 0⟩) ⟨4, 0⟩ ?_ ?_ HA2.out ?_); exact rfl; exact rfl)
  intro W3 hW3 hk3
  have HW3 := Lib.hid hW3
  have HS3 := Lib.hid (hk3.heap HW2.out (by simp))
  have HK3 := Lib.hid (HK2.out.trans hk3 (fun q hq => .inr (by have := HRE.out; simp at hq; omega)))
  clear hW3 hk3
  go_wp2_with fail
  try simp only [Exit.inBlock, Exit.then]
  exact bodyPost_ret (results_kv2 rfl _ _ (R + 2) (R + 3) ⟨4, 0⟩ rfl HS3.out rfl HW3.out) rfl ⟨rfl, HK3.out⟩
theorem kvSwap_eq (w : World) {m : Kv} (hm : KvIn m) (f o a b : Int) {kn : Nat} (hk8 : kn < 8) (ho : m.getD kn none = some a) :
    Calls Try.prog 56 #[.agg (kvA (kvH m) (kvV m)), .agg #[.int .u8 f, .int .u8 o, .int .u8 (kn : Int), .int .u16 a, .int .u16 b]] w (KsPost w (m.set kn (some b)) ⟨3, 0⟩) := by
  have hval : (kvV m).getD kn 0 = a := by rw [kvV_getD (by rw [hm.len]; exact hk8), ho]; rfl
  have HVS := Lib.hid (show kvV (m.set kn (some b)) = (kvV m).set kn b from kvV_set m kn (some b))
  have HVL := Lib.hid (show (kvV m).length = 8 by rw [kvV_len, hm.len]); have HK8 := Lib.hid hk8
  have HH2 := Lib.hid (show kvH (m.set kn (some b)) = kvH m from by
    have h := kvH_set m kn (by rw [hm.len]; exact hk8) (some b)
    rw [ho] at h
    simp at h
    exact h)
  obtain ⟨W, hW⟩ : ∃ W, W = (((w.alloc (.cells (kvA (kvH m) (kvV m)) 25)).alloc (.cells #[.int .u8 f, .int .u8 o, .int .u8 (kn : Int), .int .u16 a, .int .u16 b] 27)).alloc (.cells (kvA 0 []) 25)).alloc (.cells (ansC ⟨0, 0⟩).toArray 32) := ⟨_, rfl⟩
  obtain ⟨hk0, h0, h1, h2, h3, hz⟩ := vars_k w _ _ _ W hW
  simp only [show (ansC ⟨0, 0⟩).toArray = #[Value.int .u8 0, .int .u16 0] from rfl, show kvA 0 [] = #[Value.int .u8 0, .int .u16 0, .int .u16 0, .int .u16 0, .int .u16 0, .int .u16 0, .int .u16 0, .int .u16 0, .int .u16 0] from rfl] at hW
  have h0' := h0
  rw [hW] at h0'
  have HL0 := Lib.hid h0'
  obtain ⟨R, hR⟩ : ∃ R, R = w.heap.size := ⟨_, rfl⟩
  rw [← hR] at h0 h1 h2 h3 hz
  have HWW := Lib.hid hW; have HRE := Lib.hid hR; have HK0 := Lib.hid hk0
  have HZ := Lib.hid hz; have HO := Lib.hid ho
  have HHAS := Lib.hid (fun w => kvHas_kv w hm (key := (kn : Int)) (Int.natCast_nonneg _))
  clear h0' hW hR hk0 hz
  obtain ⟨S, hS⟩ : ∃ S : World → Prop, S = fun y => Keeps [] W y := ⟨_, rfl⟩
  have HSE := Lib.hid hS
  have hSD : S W.drew := by rw [hS]; exact (Keeps.refl _ _).drew
  have HS0 := Lib.hid (fun (w' : World) (hh : S w') => show ∃ t, w'.heap[R]? = some (.cells (kvA (kvH m) (kvV m)) t (0, 0)) from by rw [hS] at hh; exact ⟨_, hh.heap h0 (by simp)⟩)
  have HSK := Lib.hid (fun (w' : World) (hh : S w') => show w'.cell? ⟨R + 1, 2, none⟩ = some (.int .u8 (kn : Int)) from by rw [hS] at hh; exact hh.cell (cell_lit h1 2 rfl) (by simp))
  have HSA := Lib.hid (fun (w' : World) (hh : S w') => show w'.cell? ⟨R + 1, 3, none⟩ = some (.int .u16 a) from by rw [hS] at hh; exact hh.cell (cell_lit h1 3 rfl) (by simp))
  have hcv := kv_cell h0 hk8
  have HLT := Lib.hid (fun (w' : World) (_ : S w') => show (kn : Int) < 8 from by omega)
  rw [hval] at hcv
  have HSV := Lib.hid (fun (w' : World) (hh : S w') => show w'.cell? ⟨R, 1 + kn, none⟩ = some (.int .u16 a) from by rw [hS] at hh; exact hh.cell hcv (by simp))
  have HNE := Lib.hid (fun (w' : World) (_ : S w') => show (a != a) = false from by simp)
  clear hS hcv hval
  go_enter Try.func56, Try.ntmps56
  go_wp2_with fail
  rw [← HRE.out, ← HWW.out]
  refine wp_region_noPanic ?_
  refine wp_region_held_drew (S := S) (by kernel_rfl) hSD (fun hHeld => ?_)
  apply wpAnyH_take (i := 0)
  · simp only [List.getElem?_toArray]; rfl
  · kernel_rfl
  · kernel_rfl
  · kernel_rfl
  · exact fun _ _ _ h => h
  · exact yields_loadK (by rfl) _ rfl R rfl _ _ HS0.out
  · assumption
  try simp only [Act.put, List.setIfInBounds_toArray, List.set_cons_zero, List.set_cons_succ]
  apply wpAnyH_take (i := 1)
  · simp only [List.getElem?_toArray]; rfl
  · kernel_rfl
  · kernel_rfl
  · kernel_rfl
  · exact fun _ _ _ h => h
  · exact Or.inl ⟨by rfl, by intro w hSw; go_simp; try with_reducible rfl⟩
  · assumption
  try simp only [Act.put, List.setIfInBounds_toArray, List.set_cons_zero, List.set_cons_succ]
  apply wpAnyH_take (i := 2)
  · simp only [List.getElem?_toArray]; rfl
  · kernel_rfl
  · kernel_rfl
  · kernel_rfl
  · exact fun _ _ _ h => h
  · exact Or.inl ⟨by rfl, by intro w hSw; have q0 := HSK.out w hSw; go_simp; try with_reducible rfl⟩
  · assumption
  try simp only [Act.put, List.setIfInBounds_toArray, List.set_cons_zero, List.set_cons_succ]
  apply wpAnyH_ready (rs := [3])
  · kernel_rfl
  · simp
  apply AllReadyH.cons (hs := AllReadyH.nil)
  · simp only [List.getElem?_toArray]; rfl
  intro K hK
  rw [if_pos (by rfl)]
  refine wp_call9 30 _ _ rfl [.agg (kvA (kvH m) (kvV m)), .int .u8 (kn : Int)] rfl Try.func30 (by kernel_rfl) (by kernel_rfl) ((HHAS.out W.drew).mono ?_)
  rintro e w1 ⟨rfl, hk1⟩
  refine ⟨_, rfl, ?_⟩
  rw [Int.toNat_natCast, HO.out]
  simp only [Option.isSome_none, Option.isSome_some]
  have HKW := Lib.hid (((Keeps.refl [] W).drew).trans hk1 (FSub.refl _ _))
  clear hk1
  refine hK.out _ _ ?_ (fun hHeld => ?_)
  · exact (by rw [HSE.out]; exact HKW.out)
  clear hK K
  try simp only [Act.put, List.setIfInBounds_toArray, List.set_cons_zero, List.set_cons_succ]
  apply wpAnyH_take (i := 4)
  · simp only [List.getElem?_toArray]; rfl
  · kernel_rfl
  · kernel_rfl
  · kernel_rfl
  · exact fun _ _ _ h => h
  · exact Or.inl ⟨by rfl, by intro w hSw; go_simp; try with_reducible rfl⟩
  · assumption
  try simp only [Act.put, List.setIfInBounds_toArray, List.set_cons_zero, List.set_cons_succ]
  apply wpAnyH_take (i := 5)
  · simp only [List.getElem?_toArray]; rfl
  · kernel_rfl
  · kernel_rfl
  · kernel_rfl
  · exact fun _ _ _ h => h
  · exact Or.inl ⟨by rfl, by intro w hSw; go_simp; try with_reducible rfl⟩
  · assumption
  try simp only [Act.put, List.setIfInBounds_toArray, List.set_cons_zero, List.set_cons_succ]
  apply wpAnyH_take (i := 6)
  · simp only [List.getElem?_toArray]; rfl
  · kernel_rfl
  · kernel_rfl
  · kernel_rfl
  · exact fun _ _ _ h => h
  · exact Or.inl ⟨by rfl, by intro w hSw; go_simp; try with_reducible rfl⟩
  · assumption
  try simp only [Act.put, List.setIfInBounds_toArray, List.set_cons_zero, List.set_cons_succ]
  apply wpAnyH_take (i := 7)
  · simp only [List.getElem?_toArray]; rfl
  · kernel_rfl
  · kernel_rfl
  · kernel_rfl
  · exact fun _ _ _ h => h
  · exact Or.inl ⟨by rfl, by intro w hSw; have q0 := HSK.out w hSw; go_simp; try with_reducible rfl⟩
  · assumption
  try simp only [Act.put, List.setIfInBounds_toArray, List.set_cons_zero, List.set_cons_succ]
  apply wpAnyH_take (i := 8)
  · simp only [List.getElem?_toArray]; rfl
  · kernel_rfl
  · kernel_rfl
  · kernel_rfl
  · exact fun _ _ _ h => h
  · exact Or.inl ⟨by rfl, by intro w hSw; go_simp; try with_reducible rfl⟩
  · assumption
  try simp only [Act.put, List.setIfInBounds_toArray, List.set_cons_zero, List.set_cons_succ]
  apply wpAnyH_take (i := 9)
  · simp only [List.getElem?_toArray]; rfl
  · kernel_rfl
  · kernel_rfl
  · kernel_rfl
  · exact fun _ _ _ h => h
  · exact Or.inl ⟨by rfl, by intro w hSw; have q0 := HLT.out w hSw; go_simp; try with_reducible rfl⟩
  · assumption
  try simp only [Act.put, List.setIfInBounds_toArray, List.set_cons_zero, List.set_cons_succ]
  apply wpAnyH_take (i := 10)
  · simp only [List.getElem?_toArray]; rfl
  · kernel_rfl
  · kernel_rfl
  · kernel_rfl
  · exact fun _ _ _ h => h
  · exact Or.inl ⟨by rfl, by intro w hSw; have q0 := HSV.out w hSw; go_simp; try with_reducible rfl⟩
  · assumption
  try simp only [Act.put, List.setIfInBounds_toArray, List.set_cons_zero, List.set_cons_succ]
  apply wpAnyH_take (i := 11)
  · simp only [List.getElem?_toArray]; rfl
  · kernel_rfl
  · kernel_rfl
  · kernel_rfl
  · exact fun _ _ _ h => h
  · exact Or.inl ⟨by rfl, by intro w hSw; go_simp; try with_reducible rfl⟩
  · assumption
  try simp only [Act.put, List.setIfInBounds_toArray, List.set_cons_zero, List.set_cons_succ]
  apply wpAnyH_take (i := 12)
  · simp only [List.getElem?_toArray]; rfl
  · kernel_rfl
  · kernel_rfl
  · kernel_rfl
  · exact fun _ _ _ h => h
  · exact Or.inl ⟨by rfl, by intro w hSw; have q0 := HSA.out w hSw; go_simp; try with_reducible rfl⟩
  · assumption
  try simp only [Act.put, List.setIfInBounds_toArray, List.set_cons_zero, List.set_cons_succ]
  apply wpAnyH_take (i := 13)
  · simp only [List.getElem?_toArray]; rfl
  · kernel_rfl
  · kernel_rfl
  · kernel_rfl
  · exact fun _ _ _ h => h
  · exact Or.inl ⟨by rfl, by intro w hSw; have q0 := HNE.out w hSw; go_simp; try with_reducible rfl⟩
  · assumption
  try simp only [Act.put, List.setIfInBounds_toArray, List.set_cons_zero, List.set_cons_succ]
  apply wpAnyH_take (i := 14)
  · simp only [List.getElem?_toArray]; rfl
  · kernel_rfl
  · kernel_rfl
  · kernel_rfl
  · exact fun _ _ _ h => h
  · exact Or.inl ⟨by rfl, by intro w hSw; go_simp; try with_reducible rfl⟩
  · assumption
  try simp only [Act.put, List.setIfInBounds_toArray, List.set_cons_zero, List.set_cons_succ]
  refine wpAnyH_done (by kernel_rfl) ?_ _
  refine NoPanic.normal ?_
  have HB0 := Lib.hid (HKW.out.heap h0 (by simp)); have HB2 := Lib.hid (HKW.out.heap h2 (by simp)); have HB3 := Lib.hid (HKW.out.heap h3 (by simp))
  have hb1 := HKW.out.heap h1 (by simp)
  have c2 : w1.cell? ⟨R + 1, 2, none⟩ = some (.int .u8 (kn : Int)) := cell_lit hb1 2 rfl
  have c4 : w1.cell? ⟨R + 1, 4, none⟩ = some (.int .u16 b) := cell_lit hb1 4 rfl
  have HK1 := Lib.hid (HK0.out.trans HKW.out (FSub.refl _ _))
  clear h0 h1 h2 h3 hb1 HL0 HK0 HKW HHAS HS0 HSK HSA HLT
  have hlt : (kn : Int) < 8 := by omega
  go_wp2_with ((with_reducible refine wpList_putKv (g := R) (k := kn) (v := b) HVL.out HK8.out ?_ ?_ HB0.out ?_); exact rfl; exact rfl)
  intro w3 hb0 hk3
  have hb2 := hk3.heap HB2.out (by simp)
  have hb3 := hk3.heap HB3.out (by simp)
  have hkn := HK1.out.trans hk3 (fun q hq => .inr (by have := HRE.out; simp at hq; omega))
  rw [← HVS.out] at hb0
  clear HB0 HB2 HB3 HK1 c2 c4 hk3
  have HB0 := Lib.hid hb0; have HB2 := Lib.hid hb2; have HB3 := Lib.hid hb3; have HK1 := Lib.hid hkn
  clear hb0 hb2 hb3 hkn
  go_wp2_with (first
    | ((with_reducible refine wpList_loadK (g := R) rfl ?_ HB0.out ?_); exact rfl)
    | ((with_reducible refine wpList_putK (g := R + 2) (h := (kvH m : Int)) (vs := (kvV (m.set kn (some b)))) ?_ ?_ HB2.out ?_); exact rfl; exact rfl))
  intro W2 hW2 hk2
  have HW2 := Lib.hid hW2
  have HA2 := Lib.hid (hk2.heap HB3.out (by simp))
  have HK2 := Lib.hid (HK1.out.trans hk2 (fun q hq => .inr (by have := HRE.out; simp at hq; omega)))
  clear hW2 hk2
  go_wp2_with ((with_reducible refine wpList_putN (g := R + 3) (old := ⟨0, 0⟩) ⟨3, 0⟩ ?_ ?_ HA2.out ?_); exact rfl; exact rfl)
  intro W3 hW3 hk3
  have HW3 := Lib.hid hW3
  have HS3 := Lib.hid (hk3.heap HW2.out (by simp))
  have HK3 := Lib.hid (HK2.out.trans hk3 (fun q hq => .inr (by have := HRE.out; simp at hq; omega)))
  clear hW3 hk3
  go_wp2_with fail
  try simp only [Exit.inBlock, Exit.then]
  exact bodyPost_ret (results_kv2 rfl _ _ (R + 2) (R + 3) ⟨3, 0⟩ rfl HS3.out rfl HW3.out) rfl ⟨(by unfold kvVal; rw [HH2.out]), HK3.out⟩
end Go.Proofs.Ytnmpekbkahkapaa
/-
  The program's key map: Step.
-/
namespace Go.Proofs.Ytnmpekbkahkapaa
open Go.RowKit
/-- An operation that the map does not do. -/
def kvBad (x : Opn) : Prop := 7 < x.k ∨ x.f < 6 ∨ 9 < x.f
theorem kvSt_bad {x : Opn} (h : kvBad x) : kvSt x = .nilFunc := by
  unfold kvSt
  split
  · rfl
  · unfold kvFn
    rw [if_pos]
    unfold kvBad at h
    omega
theorem kvSt_good {x : Opn} (h : ¬ kvBad x) : kvSt x = fnV (kvK x.f) := by
  unfold kvBad at h
  unfold kvSt
  rw [if_neg (by omega)]
  unfold kvFn
  rw [if_neg (by omega)]
theorem kvAct_any (w : World) {m : Kv} (hm : KvIn m) (x : Opn) (hx : x.In) (hg : ¬ kvBad x) :
    Calls Try.prog (kvK x.f) #[.agg (kvA (kvH m) (kvV m)), x.val] w (KsPost w (ksX m x).1 (ksX m x).2.1) := by
  have hb := hg
  unfold kvBad at hg
  obtain ⟨f, o, k, a, b⟩ := x
  obtain ⟨kn, rfl⟩ := Int.eq_ofNat_of_zero_le hx.k0
  simp only at hg
  have hk8 : kn < 8 := by omega
  unfold Opn.val kvK ksX
  rw [if_neg (show ¬ (7 < (kn : Int) ∨ f < 6 ∨ 9 < f) from hg)]
  simp only [Int.toNat_natCast]
  by_cases h7 : f = 7
  · subst h7
    simp only [show ¬ (7 : Int) = 6 by decide, if_false, if_true]
    exact kvPut_all w hm _ _ _ _ hk8
  · rw [if_neg h7]
    simp only [if_neg h7]
    by_cases h6 : f = 6
    · subst h6
      simp only [if_true]
      cases ho : m.getD kn none with
      | none => exact kvGet_none w hm _ _ _ _ hk8 ho
      | some v => exact kvGet_some w hm _ _ _ _ hk8 ho
    · simp only [if_neg h6]
      by_cases h8 : f = 8
      · subst h8
        simp only [if_true]
        cases ho : m.getD kn none with
        | none => exact kvDel_none w hm _ _ _ _ hk8 ho
        | some v => exact kvDel_some w hm _ _ _ _ hk8 ho
      · simp only [if_neg h8]
        cases ho : m.getD kn none with
        | none => exact kvSwap_none w hm _ _ _ _ hk8 ho
        | some v =>
          by_cases hv : v = a
          · subst hv
            simp only [if_true]
            exact kvSwap_eq w hm _ _ _ _ hk8 ho
          · simp only [if_neg hv]
            exact kvSwap_ne w hm _ _ _ _ hk8 ho hv
theorem ksX_bad {m : Kv} {x : Opn} (h : kvBad x) : ksX m x = (m, ⟨0, 0⟩, 10) := if_pos h
theorem ksX_good {m : Kv} {x : Opn} (h : ¬ kvBad x) : (ksX m x).2.2 = 0 := by
  unfold ksX
  rw [if_neg (show ¬ (7 < x.k ∨ x.f < 6 ∨ 9 < x.f) from h)]
  split
  · rfl
  · split
    · split <;> rfl
    · split
      · rfl
      · split
        · rfl
        · split <;> rfl
theorem eqIn_nil_nil (w : World) {ps : _} {rs : _} {v : _} (d : Nat) (t : TypeId) (h : Try.prog.underlying t = some (.func ps rs v)) : (Op.equalIn (d + 1) t .nilFunc .nilFunc).run Try.prog w = .ok true w := by
  simp [Op.equalIn, run_underlying h]
theorem eqIn_fn_nil (w : World) {ps : _} {rs : _} {v : _} (d : Nat) (t : TypeId) (h : Try.prog.underlying t = some (.func ps rs v)) (f : Fn) (xs ys : Array Value) : (Op.equalIn (d + 1) t (.func f xs ys) .nilFunc).run Try.prog w = .ok false w := by
  simp [Op.equalIn, run_underlying h]
theorem eql_nil_nil (w : World) : (binOp .eql 69 .nilFunc .nilFunc).run Try.prog w = .ok (.bool true) w := by
  simp only [binOp]
  simp [Op.equal, Op.maxDepth, eqIn_nil_nil w 9999 69 Try.underlying69]
theorem eql_fn_nil (w : World) (k : Nat) : (binOp .eql 69 (.func (.func k) #[] #[]) .nilFunc).run Try.prog w = .ok (.bool false) w := by
  simp only [binOp]
  simp [Op.equal, Op.maxDepth, eqIn_fn_nil w 9999 69 Try.underlying69]
section
variable {ops : Array Oper} {rest : List Oper} {a : Act} {w : World} {Q : Exit → Act → World → Prop}
theorem wpList_loadXc11 {dst : Option Tmp} {ty : TypeId} {pos : String} {after : Array Edge} {gd : Option (Nat × Bool)} {x : Operand} {g : Nat} {cs : Array Value} {t : TypeId}
    (hw : Region.wanted { dst := dst, op := .load 27 x, type := ty, pos := pos, after := after, guard := gd } (yielded ops a.tmps) = true) (hx : a.eval x = .pointer (some ⟨g, 0, none⟩))
    (hs : cs.size = 5) (hg : w.heap[g]? = some (.cells cs t (0, 0))) (h : wpList Try.prog ops Q rest (a.put dst (.agg cs)) w) :
    wpList Try.prog ops Q ({ dst := dst, op := .load 27 x, type := ty, pos := pos, after := after, guard := gd } :: rest) a w :=
  wpList_step fun _ hk => by
    rw [if_pos hw]
    exact wp_load_row 27 x rfl g hx t cs (0, 0) _ hg Try.underlying27 rfl (by rw [hs]; kernel_rfl) (hk _ _ h)
end
theorem cells_range {w : World} {b : Nat} {l : List Value} {t : TypeId} (h : w.heap[b]? = some (.cells l.toArray t (0, 0))) : w.rangeAt b 0 l := by
  intro j u hu
  exact cell_lit h (0 + j) (by simpa using hu)
set_option maxHeartbeats 8000000
set_option maxRecDepth 100000
theorem kvStep_any (w : World) {m : Kv} (hm : KvIn m) (x : Opn) (hx : x.In) : Calls Try.prog 12 #[kvVal m, x.val] w fun e w' =>
    e = .returned (.tuple #[kvVal (ksX m x).1, .agg (ansC (ksX m x).2.1).toArray, .int .i64 (ksX m x).2.2]) ∧ Keeps [] w w' := by
  by_cases hb : kvBad x
  · have HST := Lib.hid (kvSt_bad hb)
    have heq := eql_nil_nil
    rw [ksX_bad hb]
    clear hb
    obtain ⟨W, hW⟩ : ∃ W, W = (((w.alloc (.cells (kvA (kvH m) (kvV m)) 25)).alloc (.cells #[.int .u8 x.f, .int .u8 x.o, .int .u8 x.k, .int .u16 x.a, .int .u16 x.b] 27)).alloc (.cells (kvA 0 []) 25)).alloc (.cells (ansC ⟨0, 0⟩).toArray 32) := ⟨_, rfl⟩
    obtain ⟨hk0, h0, h1, h2, h3, hz⟩ := vars_k w _ _ _ W hW
    simp only [show (ansC ⟨0, 0⟩).toArray = #[Value.int .u8 0, .int .u16 0] from rfl, show kvA 0 [] = #[Value.int .u8 0, .int .u16 0, .int .u16 0, .int .u16 0, .int .u16 0, .int .u16 0, .int .u16 0, .int .u16 0, .int .u16 0] from rfl] at hW
    obtain ⟨R, hR⟩ : ∃ R, R = w.heap.size := ⟨_, rfl⟩
    rw [← hR] at h0 h1 h2 h3 hz
    have HWW := Lib.hid hW; have HRE := Lib.hid hR; have HK0 := Lib.hid hk0
    have HZ := Lib.hid hz
    have HOF := Lib.hid (fun w => kvStepOf_any w x hx)
    have HX := Lib.hid hx
    clear hW hR hk0 hz hx
    unfold Opn.val kvVal
    go_enter Try.func12, Try.ntmps12
    go_wp2_with fail
    refine (HOF.out _).mono ?_; rintro e w1 ⟨rfl, hk1⟩
    rw [← HWW.out] at hk1
    rw [← HRE.out, HST.out]
    have HB0 := Lib.hid (hk1.heap h0 (by simp)); have HB1 := Lib.hid (hk1.heap h1 (by simp)); have HB2 := Lib.hid (hk1.heap h2 (by simp)); have HB3 := Lib.hid (hk1.heap h3 (by simp))
    have HK1 := Lib.hid (HK0.out.trans hk1 (FSub.refl _ _))
    have HZ1 := Lib.hid (show R + 4 ≤ w1.heap.size from by have := HZ.out; have := hk1.size; omega)
    clear h0 h1 h2 h3 hk1 HK0 HOF HZ
    go_wp2_with (first
      | ((with_reducible refine wpList_loadK (g := R) rfl ?_ HB0.out ?_); exact rfl)
      | ((with_reducible refine wpList_putK (g := R + 2) (h := kvH m) (vs := kvV m) ?_ ?_ HB2.out ?_); exact rfl; exact rfl))
    intro W2 hW2 hk2
    have HW2 := Lib.hid hW2
    have HA2 := Lib.hid (hk2.heap HB3.out (by simp))
    have HK2 := Lib.hid (HK1.out.trans hk2 (fun q hq => .inr (by have := HRE.out; simp at hq; omega)))
    clear hW2 hk2
    go_wp2_with ((with_reducible refine wpList_putN (g := R + 3) (old := ⟨0, 0⟩) ⟨0, 0⟩ ?_ ?_ HA2.out ?_); exact rfl; exact rfl)
    intro W3 hW3 hk3
    have HW3 := Lib.hid hW3
    have HS3 := Lib.hid (hk3.heap HW2.out (by simp))
    have HK3 := Lib.hid (HK2.out.trans hk3 (fun q hq => .inr (by have := HRE.out; simp at hq; omega)))
    clear hW3 hk3
    go_wp2_with fail
    try simp only [Exit.inBlock, Exit.then]
    exact bodyPost_ret (results_kv3 rfl _ _ (R + 2) (R + 3) ⟨0, 0⟩ rfl HS3.out rfl HW3.out) rfl ⟨rfl, HK3.out⟩
  · have HST := Lib.hid (kvSt_good hb)
    have heq := fun w => eql_fn_nil w (kvK x.f)
    have hact := fun w => kvAct_any w hm x hx hb
    have HFN := Lib.hid (kvK_func x.f)
    rw [ksX_good hb]
    generalize (ksX m x).1 = m2 at hact ⊢
    generalize (ksX m x).2.1 = r at hact ⊢
    have HACT := Lib.hid hact
    clear hact
    clear hb
    obtain ⟨W, hW⟩ : ∃ W, W = (((w.alloc (.cells (kvA (kvH m) (kvV m)) 25)).alloc (.cells #[.int .u8 x.f, .int .u8 x.o, .int .u8 x.k, .int .u16 x.a, .int .u16 x.b] 27)).alloc (.cells (kvA 0 []) 25)).alloc (.cells (ansC ⟨0, 0⟩).toArray 32) := ⟨_, rfl⟩
    obtain ⟨hk0, h0, h1, h2, h3, hz⟩ := vars_k w _ _ _ W hW
    simp only [show (ansC ⟨0, 0⟩).toArray = #[Value.int .u8 0, .int .u16 0] from rfl, show kvA 0 [] = #[Value.int .u8 0, .int .u16 0, .int .u16 0, .int .u16 0, .int .u16 0, .int .u16 0, .int .u16 0, .int .u16 0, .int .u16 0] from rfl] at hW
    obtain ⟨R, hR⟩ : ∃ R, R = w.heap.size := ⟨_, rfl⟩
    rw [← hR] at h0 h1 h2 h3 hz
    have HWW := Lib.hid hW; have HRE := Lib.hid hR; have HK0 := Lib.hid hk0
    have HZ := Lib.hid hz
    have HOF := Lib.hid (fun w => kvStepOf_any w x hx)
    have HX := Lib.hid hx
    clear hW hR hk0 hz hx
    unfold Opn.val kvVal
    go_enter Try.func12, Try.ntmps12
    go_wp2_with fail
    refine (HOF.out _).mono ?_; rintro e w1 ⟨rfl, hk1⟩
    rw [← HWW.out] at hk1
    rw [← HRE.out, HST.out]
    have HB0 := Lib.hid (hk1.heap h0 (by simp)); have HB1 := Lib.hid (hk1.heap h1 (by simp)); have HB2 := Lib.hid (hk1.heap h2 (by simp)); have HB3 := Lib.hid (hk1.heap h3 (by simp))
    have HK1 := Lib.hid (HK0.out.trans hk1 (FSub.refl _ _))
    have HZ1 := Lib.hid (show R + 4 ≤ w1.heap.size from by have := HZ.out; have := hk1.size; omega)
    clear h0 h1 h2 h3 hk1 HK0 HOF HZ
    unfold fnV
    go_wp2_with (first
      | ((with_reducible refine wpList_loadK (g := R) rfl ?_ HB0.out ?_); exact rfl)
      | ((with_reducible refine wpList_loadXc11 (g := R + 1) rfl ?_ ?_ HB1.out ?_); exact rfl; exact rfl)
      | ((with_reducible refine wpList_callV (k := kvK x.f) [.agg (kvA (kvH m) (kvV m)), .agg #[.int .u8 x.f, .int .u8 x.o, .int .u8 x.k, .int .u16 x.a, .int .u16 x.b]] ?_ ?_ HFN.out ?_); exact rfl; exact rfl))
    refine (HACT.out w1).mono ?_; rintro e w2 ⟨rfl, hk2⟩
    refine ⟨_, rfl, ?_⟩
    have hka : Keeps [] w2 ((w2.alloc (.cells #[.int .u8 0, .int .u16 0, .int .u16 0, .int .u16 0, .int .u16 0, .int .u16 0, .int .u16 0, .int .u16 0, .int .u16 0] 25)).alloc (.cells #[.int .u8 0, .int .u16 0] 32)) := ((Keeps.refl _ _).alloc _).alloc _
    have hza : (w2.alloc (.cells #[.int .u8 0, .int .u16 0, .int .u16 0, .int .u16 0, .int .u16 0, .int .u16 0, .int .u16 0, .int .u16 0, .int .u16 0] 25)).heap.size = w2.heap.size + 1 := Array.size_push _
    have h8 : ((w2.alloc (.cells #[.int .u8 0, .int .u16 0, .int .u16 0, .int .u16 0, .int .u16 0, .int .u16 0, .int .u16 0, .int .u16 0, .int .u16 0] 25)).alloc (.cells #[.int .u8 0, .int .u16 0] 32)).heap[w2.heap.size]? = some (.cells (kvA 0 []) 25 (0, 0)) := ((Keeps.refl [] _).alloc _).heap (heap_alloc_new w2 _) (by simp)
    have h9 := heap_alloc_new (w2.alloc (.cells #[.int .u8 0, .int .u16 0, .int .u16 0, .int .u16 0, .int .u16 0, .int .u16 0, .int .u16 0, .int .u16 0, .int .u16 0] 25)) (.cells #[.int .u8 0, .int .u16 0] 32)
    rw [hza] at h9
    have H8 := Lib.hid h8; have H9 := Lib.hid h9; have HKA := Lib.hid hka
    have HZ2 := Lib.hid (show R + 4 ≤ w2.heap.size from Nat.le_trans HZ1.out hk2.size)
    have HB22 := Lib.hid (hka.heap (hk2.heap HB2.out (by simp)) (by simp)); have HB32 := Lib.hid (hka.heap (hk2.heap HB3.out (by simp)) (by simp))
    have HK2 := Lib.hid ((HK1.out.trans hk2 (FSub.refl _ _)).trans hka (FSub.refl _ _))
    obtain ⟨N, hN⟩ : ∃ N, N = w2.heap.size := ⟨_, rfl⟩
    have HN := Lib.hid hN
    clear hka hza h8 h9 hk2 hN HB0 HB1 HB2 HB3 HK1 HZ1 heq
    unfold kvVal
    go_wp2_with ((with_reducible refine wpList_putK (g := w2.heap.size) (h := kvH m2) (vs := kvV m2) ?_ ?_ H8.out ?_); exact rfl; exact rfl)
    intro w4 hW4 hk4
    rw [← HN.out] at hW4 hk4
    rw [← HN.out]
    have H84 := Lib.hid hW4
    have h94 : w4.heap[N + 1]? = some (.cells (ansC ⟨0, 0⟩).toArray 32 (0, 0)) := hk4.heap (by rw [HN.out]; exact H9.out) (by simp)
    have H94 := Lib.hid h94
    have HB24 := Lib.hid (hk4.heap HB22.out (by have := HZ2.out; have := HN.out; simp; omega)); have HB34 := Lib.hid (hk4.heap HB32.out (by have := HZ2.out; have := HN.out; simp; omega))
    have HK4 := Lib.hid (HK2.out.trans hk4 (fun q hq => .inr (by have := HZ2.out; have := HN.out; have := HRE.out; simp at hq; omega)))
    clear hW4 hk4 h94 H8 H9 HB22 HB32 HK2
    go_wp2_with ((with_reducible refine wpList_putN (g := N + 1) (old := ⟨0, 0⟩) r ?_ ?_ H94.out ?_); exact rfl; exact rfl)
    intro w5 hW5 hk5
    have HR5 := Lib.hid (cells_range hW5)
    have h85 := hk5.heap H84.out (by simp)
    have h25 := hk5.heap HB24.out (by have := HZ2.out; have := HN.out; simp; omega)
    have h35 := hk5.heap HB34.out (by have := HZ2.out; have := HN.out; simp; omega)
    have HB25 := Lib.hid h25; have HB35 := Lib.hid h35
    have HK5 := Lib.hid (HK4.out.trans hk5 (fun q hq => .inr (by have := HZ2.out; have := HN.out; have := HRE.out; simp at hq; omega)))
    obtain ⟨S, hS⟩ : ∃ S : World → Prop, S = fun y => Keeps [R + 2, R + 3] w5 y := ⟨_, rfl⟩
    have HSE := Lib.hid hS
    have hSD : S w5.drew := by rw [hS]; exact (Keeps.refl _ _).drew
    have hN1 : N ∉ [R + 2, R + 3] := by have := HZ2.out; have := HN.out; simp; omega
    have hN2 : N + 1 ∉ [R + 2, R + 3] := by have := HZ2.out; have := HN.out; simp; omega
    have HS0 := Lib.hid (fun (w' : World) (hh : S w') => show ∃ t, w'.heap[N]? = some (.cells (kvA (kvH m2) (kvV m2)) t (0, 0)) from by rw [hS] at hh; exact ⟨_, hh.heap h85 hN1⟩)
    have HS1 := Lib.hid (fun (w' : World) (hh : S w') => show w'.rangeAt (N + 1) 0 (ansC r) from by
      rw [hS] at hh
      intro j u hu
      exact hh.cell (HR5.out j u hu) hN2)
    clear hS hW5 hk5 h85 h25 h35 hN1 hN2 H84 H94 HB24 HB34 HK4
    go_wp2_with fail
    refine wp_region_noPanic ?_
    refine wp_region_held_drew (S := S) (by kernel_rfl) hSD (fun hHeld => ?_)
    apply wpAnyH_take (i := 0)
    · simp only [List.getElem?_toArray]; rfl
    · kernel_rfl
    · kernel_rfl
    · kernel_rfl
    · exact fun _ _ _ h => h
    · exact yields_loadK (by rfl) _ rfl N rfl _ _ HS0.out
    · assumption
    try simp only [Act.put, List.setIfInBounds_toArray, List.set_cons_zero, List.set_cons_succ]
    apply wpAnyH_take (i := 1)
    · simp only [List.getElem?_toArray]; rfl
    · kernel_rfl
    · kernel_rfl
    · kernel_rfl
    · exact fun _ _ _ h => h
    · exact yields_ans r (by rfl) _ rfl (N + 1) 0 rfl HS1.out
    · assumption
    try simp only [Act.put, List.setIfInBounds_toArray, List.set_cons_zero, List.set_cons_succ]
    apply wpAnyH_ready (rs := [2])
    · kernel_rfl
    · simp
    apply AllReadyH.cons (hs := AllReadyH.nil)
    · simp only [List.getElem?_toArray]; rfl
    intro K hK
    rw [if_pos (by rfl)]
    refine wp_putK rfl (g := R + 2) (h := kvH m2) (vs := kvV m2) rfl rfl (HB25.out) (fun W6 hW6 hk6 => ?_)
    have HW6 := Lib.hid hW6
    have HA6 := Lib.hid (hk6.heap HB35.out (by simp))
    have HK6 := Lib.hid (show Keeps [R + 2, R + 3] w5 W6 from (((Keeps.refl [R + 2, R + 3] w5).drew).step hk6 (by simp)))
    clear hW6 hk6
    refine hK.out _ _ ?_ (fun hHeld => ?_)
    · exact (by rw [HSE.out]; exact HK6.out)
    clear hK K
    try simp only [Act.put, List.setIfInBounds_toArray, List.set_cons_zero, List.set_cons_succ]
    apply wpAnyH_ready (rs := [3])
    · kernel_rfl
    · simp
    apply AllReadyH.cons (hs := AllReadyH.nil)
    · simp only [List.getElem?_toArray]; rfl
    intro K hK
    rw [if_pos (by rfl)]
    refine wp_putN rfl (g := R + 3) (old := ⟨0, 0⟩) r rfl rfl HA6.out (fun W7 hW7 hk7 => ?_)
    have HW7 := Lib.hid hW7
    have HS7 := Lib.hid (hk7.heap HW6.out (by simp))
    have HK7 := Lib.hid (HK6.out.step hk7 (by simp))
    clear hW7 hk7
    refine hK.out _ _ ?_ (fun hHeld => ?_)
    · exact (by rw [HSE.out]; exact HK7.out)
    clear hK K
    try simp only [Act.put, List.setIfInBounds_toArray, List.set_cons_zero, List.set_cons_succ]
    apply wpAnyH_take (i := 4)
    · simp only [List.getElem?_toArray]; rfl
    · kernel_rfl
    · kernel_rfl
    · kernel_rfl
    · exact fun _ _ _ h => h
    · exact Or.inl ⟨by rfl, by intro w hSw; go_simp; try with_reducible rfl⟩
    · assumption
    try simp only [Act.put, List.setIfInBounds_toArray, List.set_cons_zero, List.set_cons_succ]
    refine wpAnyH_done (by kernel_rfl) ?_ _
    refine NoPanic.normal ?_
    go_wp2_with fail
    try simp only [Exit.inBlock, Exit.then]
    exact bodyPost_ret (results_kv3 rfl _ _ (R + 2) (R + 3) r rfl HS7.out rfl HW7.out) rfl ⟨rfl, HK5.out.trans HK7.out (fun q hq => .inr (by have := HRE.out; simp at hq; omega))⟩
end Go.Proofs.Ytnmpekbkahkapaa
/-
  The program's key map: Run.
-/
namespace Go.Proofs.Ytnmpekbkahkapaa
open Go.RowKit
theorem results_runK {fn : Func} {p u x : Tmp} (h : fn.results = #[.cell p 25, .tmp u, .tmp x]) (tmps : Array Value) (w : World) (b : Nat) {z : Int} {vs : List Int} {t : TypeId}
    (hp : tmps.getD p undef = .pointer (some ⟨b, 0, none⟩)) (hb : w.heap[b]? = some (.cells (kvA z vs) t (0, 0))) :
    (results fn tmps).run Try.prog w = .ok (.tuple #[.agg (kvA z vs), tmps.getD u undef, tmps.getD x undef]) w := by
  have h1 : (loadVar 25 ⟨b, 0, none⟩).run Try.prog w = .ok (.agg (kvA z vs)) w := run_loadVar_row w b t 25 _ _ _ hb Try.underlying25 rfl (by kernel_rfl)
  have hp' : tmps[p]?.getD undef = .pointer (some ⟨b, 0, none⟩) := by simpa using hp
  simp only [results, h]
  simp [Sem.run_bind, Result.andThen, hp', asAddr, h1]
section
variable {ops : Array Oper} {rest : List Oper} {a : Act} {w : World} {Q : Exit → Act → World → Prop}
theorem wpList_loadXr {dst : Option Tmp} {ty : TypeId} {pos : String} {after : Array Edge} {gd : Option (Nat × Bool)} {x : Operand} {g off : Nat} (y : Opn)
    (hw : Region.wanted { dst := dst, op := .load 27 x, type := ty, pos := pos, after := after, guard := gd } (yielded ops a.tmps) = true)
    (hx : a.eval x = .pointer (some ⟨g, off, none⟩)) (hr : w.rangeAt g off (opC y)) (h : wpList Try.prog ops Q rest (a.put dst (.agg #[.int .u8 y.f, .int .u8 y.o, .int .u8 y.k, .int .u16 y.a, .int .u16 y.b])) w) :
    wpList Try.prog ops Q ({ dst := dst, op := .load 27 x, type := ty, pos := pos, after := after, guard := gd } :: rest) a w :=
  wpList_loadO hw hx hr h
end
set_option maxHeartbeats 8000000
set_option maxRecDepth 100000
theorem kvRun_any (w : World) {m : Kv} (hm : KvIn m) {v : Value} {l : List Opn} (hl : ∀ x ∈ l, x.In) (hI : rkO.In w.heap.size w v l) (hn : l.length ≤ 1000) :
    Calls Try.prog 17 #[kvVal m, v] w fun e w' => ∃ v', e = .returned (.tuple #[kvVal (stS ksX m l), v', .int .i64 (stE ksX m l)]) ∧ rkA.In w'.heap.size w' v' (stL ksX m l) ∧ Keeps [] w w' := by
  obtain ⟨a, cp, rfl, hc, hmx, -⟩ := id hI
  have hk0 : Keeps [] w ((w.alloc (.cells (kvA (kvH m) (kvV m)) 25)).alloc (.cells (kvA 0 []) 25)) := ((Keeps.refl _ _).alloc _).alloc _
  have h0 : ((w.alloc (.cells (kvA (kvH m) (kvV m)) 25)).alloc (.cells (kvA 0 []) 25)).heap[w.heap.size]? = some (.cells (kvA (kvH m) (kvV m)) 25 (0, 0)) := ((Keeps.refl [] _).alloc _).heap (heap_alloc_new w _) (by simp)
  have h1 := heap_alloc_new (w.alloc (.cells (kvA (kvH m) (kvV m)) 25)) (.cells (kvA 0 []) 25)
  have hz : ((w.alloc (.cells (kvA (kvH m) (kvV m)) 25)).alloc (.cells (kvA 0 []) 25)).heap.size = (w.alloc (.cells (kvA (kvH m) (kvV m)) 25)).heap.size + 1 := Array.size_push _
  have hz1 : (w.alloc (.cells (kvA (kvH m) (kvV m)) 25)).heap.size = w.heap.size + 1 := Array.size_push _
  rw [hz1] at h1 hz
  obtain ⟨R, hR⟩ : ∃ R, R = w.heap.size := ⟨_, rfl⟩
  rw [← hR] at h0 h1 hz
  have HK0 := Lib.hid hk0; have H0 := Lib.hid h0; have H1 := Lib.hid h1
  have HZ0 := Lib.hid (show R + 2 ≤ ((w.alloc (.cells (kvA (kvH m) (kvV m)) 25)).alloc (.cells (kvA 0 []) 25)).heap.size from by omega)
  have HRL := Lib.hid hR
  have HIN := Lib.hid hI; have HLI := Lib.hid hl
  have HMI := Lib.hid (fun k => ksS_in m (l.take k) hm (fun x hx => hl x (List.mem_of_mem_take hx)))
  clear hI hl hk0 h0 h1 hz hz1 hR hm
  generalize hn2 : l.length = n at *
  have HN2 := Lib.hid hn2
  clear hn2
  unfold kvVal
  go_enter Try.func17, Try.ntmps17
  go_wp2_with fail
  rw [← HRL.out]
  go_loopw [7, 15] (fun z i wr => ∃ (k : Nat), i = .int .i64 k ∧ k ≤ n ∧ stE ksX m (l.take k) = 0 ∧ wr.heap[R]? = some (.cells (kvA (kvH (stS ksX m (l.take k))) (kvV (stS ksX m (l.take k)))) 25 (0, 0)) ∧ wr.heap[R + 1]? = some (.cells (kvA 0 []) 25 (0, 0)) ∧ rkA.Own (R + 2) wr z (stL ksX m (l.take k)) ∧ Keeps [] w wr ∧ R + 2 ≤ wr.heap.size) (fun _ i _ => n - (intOf i).toNat)
  case atStart => exact ⟨0, rfl, by omega, rfl, H0.out, H1.out, RK.Own.nil rkA _ _, HK0.out, HZ0.out⟩
  case round =>
    obtain ⟨k, rfl, hk, he0, hb0, hb1, hz, hkw, hsz⟩ := hrel
    by_cases hlt : k < n
    · have hkl : k < l.length := by have := HN2.out; omega
      obtain ⟨g, o, rfl, hg, hr⟩ := In_at (HIN.out.new hkw (Nat.le_refl _)) hkl
      have HRW := Lib.hid hr
      have HNX := Lib.hid (st_next ksX hkl he0)
      have HST := Lib.hid (st_stop ksX hkl he0)
      have HXI := Lib.hid (HLI.out l[k] (List.getElem_mem hkl))
      have HMK := Lib.hid (HMI.out k)
      have HB0 := Lib.hid hb0; have HB1 := Lib.hid hb1; have HZ := Lib.hid hz; have HKW := Lib.hid hkw; have HSZ := Lib.hid hsz
      have HFL := Lib.hid (show (stL ksX m (l.take k)).length ≤ 10000 from Nat.le_trans (stL_few ksX k) (by have := HN2.out; omega))
      obtain ⟨az, cz, rfl, hcz, hmz⟩ := hz.shape
      clear hz hkw he0 hr hb0 hb1 hsz
      generalize l[k] = x at *
      generalize stS ksX m (l.take k) = s at *
      have hka : Keeps [] wr (wr.alloc (.cells #[.int .u8 x.f, .int .u8 x.o, .int .u8 x.k, .int .u16 x.a, .int .u16 x.b] 27)) := (Keeps.refl [] wr).alloc _
      have HPF := Lib.hid (fun w => kvStep_any w HMK.out x HXI.out)
      have HKA := Lib.hid hka
      have HA0 := Lib.hid (hka.heap HB0.out (by simp))
      clear hka
      go_wp2_with (first
        | ((with_reducible refine wpList_loadXr (g := g) (off := o + k * 5) x rfl ?_ HRW.out ?_); exact rfl)
        | ((with_reducible refine wpList_loadK (g := R) rfl ?_ HA0.out ?_); exact rfl))
      refine (HPF.out _).mono ?_
      rintro e w3 ⟨rfl, hk3⟩
      have HK3 := Lib.hid (HKW.out.trans (HKA.out.trans hk3 (FSub.refl _ _)) (FSub.refl _ _))
      have hk13 : Keeps [] wr w3 := HKA.out.trans hk3 (FSub.refl _ _)
      have HB03 := Lib.hid (hk13.heap HB0.out (by simp))
      have HB13 := Lib.hid (hk13.heap HB1.out (by simp))
      have HZ3 := Lib.hid (HZ.out.keeps hk13 (by simp))
      have HSZ3 := Lib.hid (show R + 2 ≤ w3.heap.size from Nat.le_trans HSZ.out hk13.size)
      have hzw := fun q hq => (row_base HZ.out q hq).2
      have HZW := Lib.hid (show ∀ q ∈ own (.slice az (stL ksX m (l.take k)).length cz), R + 2 ≤ q ∧ q < w3.heap.size from fun q hq => row_base HZ3.out q hq)
      clear hk3 hk13 HKA HKW HPF HB0 HB1 HZ HSZ HRW HA0 hzw
      generalize ksX s x = X at *
      obtain ⟨m1, r, e1⟩ := X
      have hka : Keeps [] w3 ((w3.alloc (.cells #[.int .u8 0, .int .u16 0, .int .u16 0, .int .u16 0, .int .u16 0, .int .u16 0, .int .u16 0, .int .u16 0, .int .u16 0] 25)).alloc (.cells #[.int .u8 0, .int .u16 0] 32)) := ((Keeps.refl _ _).alloc _).alloc _
      have hza : (w3.alloc (.cells #[.int .u8 0, .int .u16 0, .int .u16 0, .int .u16 0, .int .u16 0, .int .u16 0, .int .u16 0, .int .u16 0, .int .u16 0] 25)).heap.size = w3.heap.size + 1 := Array.size_push _
      have h8 : ((w3.alloc (.cells #[.int .u8 0, .int .u16 0, .int .u16 0, .int .u16 0, .int .u16 0, .int .u16 0, .int .u16 0, .int .u16 0, .int .u16 0] 25)).alloc (.cells #[.int .u8 0, .int .u16 0] 32)).heap[w3.heap.size]? = some (.cells (kvA 0 []) 25 (0, 0)) := ((Keeps.refl [] _).alloc _).heap (heap_alloc_new w3 _) (by simp)
      have h9 := heap_alloc_new (w3.alloc (.cells #[.int .u8 0, .int .u16 0, .int .u16 0, .int .u16 0, .int .u16 0, .int .u16 0, .int .u16 0, .int .u16 0, .int .u16 0] 25)) (.cells #[.int .u8 0, .int .u16 0] 32)
      rw [hza] at h9
      have H8 := Lib.hid h8; have H9 := Lib.hid h9; have HKA := Lib.hid hka
      obtain ⟨N, hN⟩ : ∃ N, N = w3.heap.size := ⟨_, rfl⟩
      have HN := Lib.hid hN
      clear hka hza h8 h9 hN
      unfold kvVal
      go_wp2_with ((with_reducible refine wpList_putK (g := w3.heap.size) (h := kvH m1) (vs := kvV m1) ?_ ?_ H8.out ?_); exact rfl; exact rfl)
      intro w4 hW4 hk4
      rw [← HN.out] at hW4 hk4
      rw [← HN.out]
      have H84 := Lib.hid hW4
      have h94 : w4.heap[N + 1]? = some (.cells (ansC ⟨0, 0⟩).toArray 32 (0, 0)) := hk4.heap (by rw [HN.out]; exact H9.out) (by simp)
      have H94 := Lib.hid h94
      have HK34 := Lib.hid (show Keeps [N, N + 1] w3 w4 from (HKA.out.more (by simp)).step hk4 (by simp))
      clear hW4 hk4 h94 H8 H9 HKA
      go_wp2_with ((with_reducible refine wpList_putN (g := N + 1) (old := ⟨0, 0⟩) r ?_ ?_ H94.out ?_); exact rfl; exact rfl)
      intro w5 hW5 hk5
      have HR5 := Lib.hid (cells_range hW5)
      have HS5 := Lib.hid (hk5.heap H84.out (by simp))
      have HK35 := Lib.hid (HK34.out.step hk5 (by simp))
      clear hW5 hk5 H84 H94 HK34
      have hne : ∀ q, q < R + 2 → q ∉ [N, N + 1] := fun q hq => by have := HSZ3.out; have := HN.out; simp; omega
      have HB05 := Lib.hid (HK35.out.heap HB03.out (hne _ (by omega))); have HB15 := Lib.hid (HK35.out.heap HB13.out (hne _ (by omega)))
      have HZ5 := Lib.hid (HZ3.out.keeps HK35.out (fun q hq => by have := (HZW.out q hq).2; have := HN.out; simp; omega))
      have HK5 := Lib.hid (HK3.out.trans HK35.out (fun q hq => .inr (by have := HSZ3.out; have := HN.out; have := HRL.out; simp at hq; omega)))
      have HSZ5 := Lib.hid (Nat.le_trans HSZ3.out HK35.out.size)
      clear hne HB03 HB13 HZ3 HK3
      by_cases hx : e1 = 0
      · subst hx
        have hn1 := HNX.out
        simp only [if_true] at hn1
        have HN1 := Lib.hid hn1
        obtain ⟨v6, w6, hrun, hrow6, hk6, hf6⟩ := rkA.append1 w5.drew (R + 2) HSZ5.out _ _ (HZ5.out.keeps ((Keeps.refl [] w5).drew) (by simp)) r (by have := HFL.out; omega)
        have hk56 : Keeps (own (.slice az (stL ksX m (l.take k)).length cz)) w5 w6 := (((Keeps.refl [] w5).drew).more (by simp)).trans hk6 (FSub.refl _ _)
        obtain ⟨S, hS⟩ : ∃ S : World → Prop, S = fun y => Keeps (R :: own (.slice az (stL ksX m (l.take k)).length cz)) w5 y := ⟨_, rfl⟩
        have HSE := Lib.hid hS
        have hSD : S w5.drew := by rw [hS]; exact (Keeps.refl _ _).drew
        have hN1 : N ∉ R :: own (.slice az (stL ksX m (l.take k)).length cz) := fun hq => by
          have h1 := HN.out; have h2 := HSZ3.out
          rcases List.mem_cons.1 hq with h | h
          · omega
          · have := (HZW.out _ h).2; omega
        have hN2 : N + 1 ∉ R :: own (.slice az (stL ksX m (l.take k)).length cz) := fun hq => by
          have h1 := HN.out; have h2 := HSZ3.out
          rcases List.mem_cons.1 hq with h | h
          · omega
          · have := (HZW.out _ h).2; omega
        have HS0 := Lib.hid (fun (w' : World) (hh : S w') => show ∃ t, w'.heap[N]? = some (.cells (kvA (kvH m1) (kvV m1)) t (0, 0)) from by rw [hS] at hh; exact ⟨_, hh.heap HS5.out hN1⟩)
        have HS1 := Lib.hid (fun (w' : World) (hh : S w') => show w'.rangeAt (N + 1) 0 (ansC r) from by
          rw [hS] at hh
          intro j u hu
          exact hh.cell (HR5.out j u hu) hN2)
        have HRUN := Lib.hid (show (Builtin.append_ #[43, 43] 43 #[.slice az (stL ksX m (l.take k)).length cz, .slice (some ⟨w5.drew.heap.size, 0, none⟩) 1 1]).run Try.prog (w5.drew.alloc (.cells (ansC r).toArray 32)) = .ok v6 w6 from hrun)
        have HROW := Lib.hid hrow6
        have HB06 := Lib.hid (hk56.heap HB05.out (fun hq => by have := (HZW.out _ hq).1; omega))
        have HB16 := Lib.hid (hk56.heap HB15.out (fun hq => by have := (HZW.out _ hq).1; omega))
        have HKS := Lib.hid (show Keeps (R :: own (.slice az (stL ksX m (l.take k)).length cz)) w5 w6 from hk56.more (fun q hq => List.mem_cons_of_mem _ hq))
        have HSZ6 := Lib.hid (show R + 2 ≤ w6.heap.size from Nat.le_trans HSZ5.out hk56.size)
        obtain ⟨a9, c9, rfl, -, -⟩ := hrow6.shape
        clear hn1 HNX HST hrun hrow6 hk6 hf6 hk56 hS HFL hN1 hN2 HZ5 HB05 HB15
        go_wp2_with fail
        refine wp_region_noPanic ?_
        refine wp_region_held_drew (S := S) (by kernel_rfl) hSD (fun hHeld => ?_)
        apply wpAnyH_take (i := 0)
        · simp only [List.getElem?_toArray]; rfl
        · kernel_rfl
        · kernel_rfl
        · kernel_rfl
        · exact fun _ _ _ h => h
        · exact yields_loadK (by rfl) _ rfl N rfl _ _ HS0.out
        · assumption
        try simp only [Act.put, List.setIfInBounds_toArray, List.set_cons_zero, List.set_cons_succ]
        apply wpAnyH_take (i := 1)
        · simp only [List.getElem?_toArray]; rfl
        · kernel_rfl
        · kernel_rfl
        · kernel_rfl
        · exact fun _ _ _ h => h
        · exact Or.inl ⟨by rfl, by intro w hSw; go_simp; try with_reducible rfl⟩
        · assumption
        try simp only [Act.put, List.setIfInBounds_toArray, List.set_cons_zero, List.set_cons_succ]
        apply wpAnyH_take (i := 2)
        · simp only [List.getElem?_toArray]; rfl
        · kernel_rfl
        · kernel_rfl
        · kernel_rfl
        · exact fun _ _ _ h => h
        · exact yields_ans r (by rfl) _ rfl (N + 1) 0 rfl HS1.out
        · assumption
        try simp only [Act.put, List.setIfInBounds_toArray, List.set_cons_zero, List.set_cons_succ]
        apply wpAnyH_ready (rs := [3])
        · kernel_rfl
        · simp
        apply AllReadyH.cons (hs := AllReadyH.nil)
        · simp only [List.getElem?_toArray]; rfl
        intro K hK
        rw [if_pos (by rfl)]
        refine rkA.wp_build1 _ rfl (y := r) rfl (by decide) ?_
        refine hK.out _ _ ?_ (fun hHeld => ?_)
        · exact (by rw [HSE.out]; exact ((Keeps.refl _ _).drew).alloc _)
        clear hK K
        try simp only [Act.put, List.setIfInBounds_toArray, List.set_cons_zero, List.set_cons_succ]
        apply wpAnyH_ready (rs := [4])
        · kernel_rfl
        · simp
        apply AllReadyH.cons (hs := AllReadyH.nil)
        · simp only [List.getElem?_toArray]; rfl
        intro K hK
        rw [if_pos (by rfl)]
        refine wp_append_run _ _ 43 rfl _ _ _ w6 rfl rfl HRUN.out ?_
        refine hK.out _ _ ?_ (fun hHeld => ?_)
        · exact (by rw [HSE.out]; exact HKS.out)
        clear hK K
        try simp only [Act.put, List.setIfInBounds_toArray, List.set_cons_zero, List.set_cons_succ]
        apply wpAnyH_ready (rs := [5])
        · kernel_rfl
        · simp
        apply AllReadyH.cons (hs := AllReadyH.nil)
        · simp only [List.getElem?_toArray]; rfl
        intro K hK
        rw [if_pos (by rfl)]
        refine wp_putK rfl (g := R) (h := kvH m1) (vs := kvV m1) rfl rfl HB06.out (fun W7 hW7 hk7 => ?_)
        have HW7 := Lib.hid hW7; have HK7 := Lib.hid hk7
        clear hW7 hk7
        refine hK.out _ _ ?_ (fun hHeld => ?_)
        · exact (by rw [HSE.out]; exact HKS.out.step HK7.out (by simp))
        clear hK K
        try simp only [Act.put, List.setIfInBounds_toArray, List.set_cons_zero, List.set_cons_succ]
        apply wpAnyH_take (i := 6)
        · simp only [List.getElem?_toArray]; rfl
        · kernel_rfl
        · kernel_rfl
        · kernel_rfl
        · exact fun _ _ _ h => h
        · exact Or.inl ⟨by rfl, by intro w hSw; go_simp; try with_reducible rfl⟩
        · assumption
        try simp only [Act.put, List.setIfInBounds_toArray, List.set_cons_zero, List.set_cons_succ]
        refine wpAnyH_done (by kernel_rfl) ?_ _
        refine NoPanic.normal ?_
        go_wp2_with fail
        have HZ7 := Lib.hid (HROW.out.keeps HK7.out (fun q hq => by have := (row_base HROW.out q hq).1; simp; omega))
        have HB17 := Lib.hid (HK7.out.heap HB16.out (by simp))
        have HKE := Lib.hid (show Keeps [] w W7 from HK5.out.trans (HKS.out.step HK7.out (by simp)) (fun q hq => .inr (by
          rcases List.mem_cons.1 hq with h | h
          · have := HRL.out; omega
          · have := (HZW.out q h).1; have := HRL.out; omega)))
        go_roundw
        case rel => exact ⟨k + 1, by go_num, by omega, HN1.out.1, by rw [HN1.out.2.1]; exact HW7.out, HB17.out, by rw [HN1.out.2.2]; have h := HZ7.out; rw [List.length_append] at h; exact h, HKE.out, Nat.le_trans HSZ6.out HK7.out.size⟩
        case measure => simp [intOf]; omega
      · have te : (e1 != 0) = true := by simpa using hx
        have HE := Lib.hid (HST.out hx)
        clear HST HNX hx HFL
        go_wp2_with (first
          | ((with_reducible refine wpList_loadK (g := R) rfl ?_ HB05.out ?_); exact rfl)
          | ((with_reducible refine wpList_putK (g := R + 1) (h := kvH s) (vs := kvV s) ?_ ?_ HB15.out ?_); exact rfl; exact rfl))
        intro w6 hB6 hk6
        have HB6 := Lib.hid hB6; have HK6 := Lib.hid hk6
        clear hB6 hk6
        go_wp2_with fail
        try simp only [Exit.inBlock, Exit.then]
        have hz6 : ∀ q ∈ own (.slice az (stL ksX m (l.take k)).length cz), q ∉ [R + 1] := fun q hq => by have := (HZW.out q hq).1; simp; omega
        refine bodyPost_ret (results_runK rfl _ _ (R + 1) rfl HB6.out) rfl ⟨_, by rw [HE.out.1, HE.out.2.1]; rfl, by rw [HE.out.2.2]; exact (HZ5.out.keeps HK6.out hz6).in_, HK5.out.trans HK6.out (fun q hq => .inr (by have := HRL.out; simp at hq; omega))⟩
    · obtain rfl : k = n := by omega
      have hall : l.take k = l := by rw [← HN2.out, List.take_length]
      rw [hall] at he0 hz hb0
      obtain ⟨s, hs⟩ : ∃ s, s = stS ksX m l := ⟨_, rfl⟩
      rw [← hs] at hb0
      have HSS := Lib.hid hs
      clear hs
      have HZ := Lib.hid hz; have HKW := Lib.hid hkw; have HE := Lib.hid he0; have HB0 := Lib.hid hb0; have HB1 := Lib.hid hb1
      obtain ⟨az, cz, rfl, hcz, hmz⟩ := hz.shape
      clear hz hkw he0 hall hb0 hb1 hsz
      go_wp2_with (first
        | ((with_reducible refine wpList_loadK (g := R) rfl ?_ HB0.out ?_); exact rfl)
        | ((with_reducible refine wpList_putK (g := R + 1) (h := kvH s) (vs := kvV s) ?_ ?_ HB1.out ?_); exact rfl; exact rfl))
      intro w5 hB5 hk5
      have HB5 := Lib.hid hB5; have HK5 := Lib.hid hk5
      clear hB5 hk5
      go_wp2_with fail
      try simp only [Exit.inBlock, Exit.then]
      have hz5 : ∀ q ∈ own (.slice az (stL ksX m l).length cz), q ∉ [R + 1] := fun q hq => by have := (row_base HZ.out q hq).1; simp; omega
      refine bodyPost_ret (results_runK rfl _ _ (R + 1) rfl HB5.out) rfl ⟨_, by rw [HE.out, ← HSS.out]; rfl, (HZ.out.keeps HK5.out hz5).in_, HKW.out.trans HK5.out (fun q hq => .inr (by have := HRL.out; simp at hq; omega))⟩
end Go.Proofs.Ytnmpekbkahkapaa
/-
  The program's key map: a state's numbers as an array; Check.
-/
namespace Go.Proofs.Ytnmpekbkahkapaa
open Go.RowKit
def kvTl (vs : List Int) : List Value := [.int .u16 (vs.getD 0 0), .int .u16 (vs.getD 1 0), .int .u16 (vs.getD 2 0), .int .u16 (vs.getD 3 0), .int .u16 (vs.getD 4 0), .int .u16 (vs.getD 5 0), .int .u16 (vs.getD 6 0), .int .u16 (vs.getD 7 0)]
theorem kv_range {w : World} {b : Nat} {h : Int} {vs : List Int} {t : TypeId} (hg : w.heap[b]? = some (.cells (kvA h vs) t (0, 0))) : w.rangeAt b 1 (kvTl vs) := by
  intro j u hu
  have hj : j < 8 := by
    have := (List.getElem?_eq_some_iff.1 hu).1
    simpa [kvTl] using this
  rw [kv_cell hg hj]
  match j, hj with
  | 0, _ | 1, _ | 2, _ | 3, _ | 4, _ | 5, _ | 6, _ | 7, _ => simpa [kvTl] using hu
section
variable {ops : Array Oper} {rest : List Oper} {o : Oper} {a : Act} {w : World} {K : Act → World → Prop} {Q : Exit → Act → World → Prop}
theorem wpList_loadKt {dst : Option Tmp} {ty : TypeId} {pos : String} {after : Array Edge} {x : Operand} {g : Nat} {h : Int} {vs : List Int} {t : TypeId}
    (hx : a.eval x = .pointer (some ⟨g, 1, none⟩)) (hg : w.heap[g]? = some (.cells (kvA h vs) t (0, 0))) (hK : wpList Try.prog ops Q rest (a.put dst (.agg (kvT vs))) w) :
    wpList Try.prog ops Q ({ dst := dst, op := .load 23 x, type := ty, pos := pos, after := after, guard := none } :: rest) a w :=
  wpList_plain rfl fun _ hk => wp_load_mid 23 x rfl g 1 hx (kvTl vs) _ (kv_range hg) Try.underlying23 rfl (by kernel_rfl) (hk _ _ hK)
end
set_option maxRecDepth 100000 in
theorem index_kvT (vs : List Int) {k : Nat} (hk : k < 8) (w : World) : (Instr.index 23 (.agg (kvT vs)) (.int .i64 k)).run Try.prog w = .ok (.int .u16 (vs.getD k 0)) w := by
  rcases (by omega : k = 0 ∨ k = 1 ∨ k = 2 ∨ k = 3 ∨ k = 4 ∨ k = 5 ∨ k = 6 ∨ k = 7) with rfl | rfl | rfl | rfl | rfl | rfl | rfl | rfl <;> simp [Instr.index, kvT, run_underlying Try.underlying23, asIntOf, go_sem]
/-- What Check asks. -/
theorem kv_whole {h : Nat} {vs : List Int} (hl : vs.length = 8) : kvV (kvOf h vs) = vs ↔ ∀ j, j < 8 → vs.getD j 0 = 0 ∨ h / 2 ^ j % 2 = 1 := by
  constructor
  · intro e j hj
    have := kvOf_val (h := h) hl hj
    rw [e] at this
    split at this
    · right; assumption
    · left; exact this
  · intro hh
    apply List.ext_getElem (by rw [kvV_len, kvOf_len])
    intro i h1 h2
    have := kvOf_val (h := h) hl (show i < 8 by omega)
    rw [List.getD_eq_getElem?_getD, List.getElem?_eq_getElem h1, Option.getD_some] at this
    rw [this]
    have hi := hh i (by omega)
    rw [List.getD_eq_getElem?_getD, List.getElem?_eq_getElem h2, Option.getD_some] at hi ⊢
    split
    · rfl
    · rcases hi with hi | hi
      · exact hi.symm
      · contradiction
set_option maxHeartbeats 8000000
set_option maxRecDepth 100000
theorem kvCheck_any (w : World) {h : Nat} {vs : List Int} (hr : RawIn h vs) : Calls Try.prog 10 #[.agg (kvA h vs)] w fun e w' => e = .returned (.int .i64 (if kvV (kvOf h vs) = vs then 0 else 4)) ∧ Keeps [] w w' := by
  have hk0 : Keeps [] w (w.alloc (.cells (kvA h vs) 25)) := (Keeps.refl _ _).alloc _
  have h0 := heap_alloc_new w (.cells (kvA h vs) 25)
  have HL0 := Lib.hid h0
  obtain ⟨R, hR⟩ : ∃ R, R = w.heap.size := ⟨_, rfl⟩
  rw [← hR] at h0
  have H0 := Lib.hid h0; have HK0 := Lib.hid hk0; have HRE := Lib.hid hR; have HR := Lib.hid hr
  have HW := Lib.hid (kv_whole (h := h) hr.len)
  clear h0 hk0 hR hr
  generalize hE : (if kvV (kvOf h vs) = vs then (0 : Int) else 4) = E
  have HE := Lib.hid hE
  clear hE
  go_enter Try.func10, Try.ntmps10
  go_wp2_with ((with_reducible refine wpList_loadKt (g := w.heap.size) (h := h) (vs := vs) ?_ HL0.out ?_); exact rfl)
  rw [← HRE.out]
  go_loopw [7] (fun i wr => ∃ k : Nat, i = .int .i64 k ∧ k ≤ 8 ∧ wr.heap[R]? = some (.cells (kvA h vs) 25 (0, 0)) ∧ Keeps [] w wr ∧ ∀ j, j < k → vs.getD j 0 = 0 ∨ h / 2 ^ j % 2 = 1) (fun i _ => 8 - (intOf i).toNat)
  case atStart => exact ⟨0, rfl, by omega, H0.out, HK0.out, fun j hj => by omega⟩
  case round =>
    obtain ⟨k, rfl, hk, hb0, hkw, hall⟩ := hrel
    by_cases hlt : k < 8
    · have hix := index_kvT vs hlt
      have HB0 := Lib.hid hb0; have HKW := Lib.hid hkw; have HALL := Lib.hid hall
      by_cases hv : vs.getD k 0 = 0
      · have HV := Lib.hid hv
        rw [hv] at hix
        clear hb0 hkw hall hv
        go_wp2_with fail
        go_roundw
        case rel => exact ⟨k + 1, by go_num, by omega, HB0.out, HKW.out, fun j hj => by
          rcases (by omega : j < k ∨ j = k) with h | rfl
          · exact HALL.out j h
          · exact .inl HV.out⟩
        case measure => simp [intOf]; omega
      · have HV := Lib.hid hv
        have HHAS := Lib.hid (fun w => kvHas_any w HR.out.h1 vs (key := (k : Int)) (by omega))
        have e8 : (k : Int) % 256 = k := by omega
        obtain ⟨v, hvv⟩ : ∃ v, v = vs.getD k 0 := ⟨_, rfl⟩
        rw [← hvv] at hix hv
        have hz : (v != 0) = true := by simpa using hv
        clear hb0 hkw hall hv hvv
        go_wp2_with ((with_reducible refine wpList_loadK (g := R) ?_ ?_ HB0.out ?_); exact rfl; exact rfl)
        refine (HHAS.out wr).mono ?_; rintro e w1 ⟨rfl, hk1⟩
        rw [Int.toNat_natCast]
        have HB01 := Lib.hid (hk1.heap HB0.out (by simp))
        have HKW1 := Lib.hid (HKW.out.trans hk1 (FSub.refl _ _))
        clear hk1
        by_cases hbit : h / 2 ^ k % 2 = 1
        · rw [decide_eq_true hbit]
          have HBIT := Lib.hid hbit
          clear hbit
          go_wp2_with fail
          go_roundw
          case rel => exact ⟨k + 1, by go_num, by omega, HB01.out, HKW1.out, fun j hj => by
            rcases (by omega : j < k ∨ j = k) with h | rfl
            · exact HALL.out j h
            · exact .inr HBIT.out⟩
          case measure => simp [intOf]; omega
        · rw [decide_eq_false hbit]
          have HNO := Lib.hid (show ¬ kvV (kvOf h vs) = vs from fun e => by
            rcases HW.out.1 e k hlt with h1 | h1
            · exact HV.out h1
            · exact hbit h1)
          clear hbit
          go_wp2_with fail
          go_ret
          exact ⟨by rw [← HE.out, if_neg HNO.out]; rfl, HKW1.out⟩
    · obtain rfl : k = 8 := by omega
      have HKW := Lib.hid hkw; have HYES := Lib.hid (HW.out.2 hall)
      clear hb0 hkw hall
      go_wp2_with fail
      go_ret
      exact ⟨by rw [← HE.out, if_pos HYES.out]; rfl, HKW.out⟩
end Go.Proofs.Ytnmpekbkahkapaa
/-
  The program's key map: Encode.
-/
namespace Go.Proofs.Ytnmpekbkahkapaa
open Go.RowKit
set_option maxHeartbeats 8000000
set_option maxRecDepth 100000
theorem kvEncode_any (w : World) {m : Kv} (hm : KvIn m) : Calls Try.prog 21 #[kvVal m] w fun e w' => e = .returned (.string (strOfNums (kvBn m))) ∧ Keeps [] w w' := by
  have hk0 : Keeps [] w ((w.alloc (.cells (kvA (kvH m) (kvV m)) 25)).alloc (.cells #[.slice none 0 0, .int .i64 0, .pointer none] 91)) := ((Keeps.refl _ _).alloc _).alloc _
  have h0 : ((w.alloc (.cells (kvA (kvH m) (kvV m)) 25)).alloc (.cells #[.slice none 0 0, .int .i64 0, .pointer none] 91)).heap[w.heap.size]? = some (.cells (kvA (kvH m) (kvV m)) 25 (0, 0)) := ((Keeps.refl [] _).alloc _).heap (heap_alloc_new w _) (by simp)
  have hw0 := wat_new (w.alloc (.cells (kvA (kvH m) (kvV m)) 25))
  have hz1 : (w.alloc (.cells (kvA (kvH m) (kvV m)) 25)).heap.size = w.heap.size + 1 := Array.size_push _
  rw [hz1] at hw0
  have hs := hm.small
  have HU8 := Lib.hid (U8_any _ _ _ _ hw0 (kvH m : Int) (by omega) (by omega) (fun xs e => by obtain rfl := Option.some.inj e; simp))
  have HL0 := Lib.hid h0; have HK0 := Lib.hid hk0
  obtain ⟨R, hR⟩ : ∃ R, R = w.heap.size := ⟨_, rfl⟩
  have HRE := Lib.hid hR; have HM := Lib.hid hm
  clear hk0 h0 hw0 hz1 hs hR hm
  unfold kvVal
  go_enter Try.func21, Try.ntmps21
  go_wp2_with ((with_reducible refine wpList_loadKh (g := w.heap.size) (h := kvH m) (vs := kvV m) ?_ HL0.out ?_); exact rfl)
  refine HU8.out.mono ?_; rintro e w1 ⟨rfl, F1, hw1, hk1, hs1⟩
  have HB0 := Lib.hid (hk1.heap HL0.out (by simp))
  have HW1 := Lib.hid hw1
  have HK1 := Lib.hid (HK0.out.trans hk1 (fun q hq => .inr (by simp at hq; omega)))
  have HF1 := Lib.hid (show ∀ q ∈ F1, R + 1 ≤ q from fun q hq => by
    have h1 := HRE.out
    rcases hs1 q hq with h | h
    · simp at h; omega
    · have := HK0.out.size
      have e2 : ((w.alloc (.cells (kvA (kvH m) (kvV m)) 25)).alloc (.cells #[.slice none 0 0, .int .i64 0, .pointer none] 91)).heap.size = (w.alloc (.cells (kvA (kvH m) (kvV m)) 25)).heap.size + 1 := Array.size_push _
      have e1 : (w.alloc (.cells (kvA (kvH m) (kvV m)) 25)).heap.size = w.heap.size + 1 := Array.size_push _
      omega)
  clear hw1 hk1 hs1 HL0 HK0 HU8
  rw [← HRE.out] at HB0 HW1 ⊢
  go_wp2_with ((with_reducible refine wpList_loadKt (g := R) (h := kvH m) (vs := kvV m) ?_ HB0.out ?_); exact rfl)
  go_loopw [16] (fun i wr => ∃ (k : Nat) (F : List Nat), i = .int .i64 k ∧ k ≤ 8 ∧ WAt wr (R + 1) F (some ((kvH m : Int) :: kvR (m.take k))) ∧ wr.heap[R]? = some (.cells (kvA (kvH m) (kvV m)) 25 (0, 0)) ∧ Keeps [] w wr ∧ ∀ q ∈ F, R + 1 ≤ q) (fun i _ => 8 - (intOf i).toNat)
  case atStart => exact ⟨0, F1, rfl, by omega, HW1.out, HB0.out, HK1.out, HF1.out⟩
  case round =>
    obtain ⟨k, F, rfl, hk, hw2, hb0, hkw, hF⟩ := hrel
    by_cases hlt : k < 8
    · have hkm : k < m.length := by rw [HM.out.len]; exact hlt
      have hix := index_kvT (kvV m) hlt
      have HN := Lib.hid (kvR_next hkm)
      obtain ⟨u, hu⟩ : ∃ u, u = (kvV m).getD k 0 := ⟨_, rfl⟩
      rw [← hu] at hix
      have HVK := Lib.hid (hu.trans (kvV_getD hkm))
      have HHAS := Lib.hid (fun w => kvHas_kv w HM.out (key := (k : Int)) (by omega))
      have HL := Lib.hid (show (kvR (m.take k)).length ≤ 16 from Nat.le_trans (kvR_len _) (by rw [List.length_take]; omega))
      have e8 : (k : Int) % 256 = k := by omega
      have HB := Lib.hid hb0; have HW2 := Lib.hid hw2; have HKW := Lib.hid hkw; have HF := Lib.hid hF
      clear hb0 hw2 hkw hF hkm hu
      go_wp2_with ((with_reducible refine wpList_loadK (g := R) (h := kvH m) (vs := kvV m) rfl ?_ HB.out ?_); exact rfl)
      refine (HHAS.out wr).mono ?_; rintro e w2 ⟨rfl, hk2⟩
      rw [Int.toNat_natCast]
      have HB2 := Lib.hid (hk2.heap HB.out (by simp))
      have hw3 := HW2.out.keeps hk2 (fun q hq => by simp)
      have HK2 := Lib.hid (HKW.out.trans hk2 (FSub.refl _ _))
      have HSZ := Lib.hid hk2.size
      clear hk2
      cases ho : m.getD k none with
      | none =>
        have hn := HN.out
        rw [ho] at hn
        simp only [List.append_nil] at hn
        have HN2 := Lib.hid hn; have HW3 := Lib.hid hw3
        clear hn hw3 ho HN HVK
        simp only [Option.isSome_none]
        go_wp2_with fail
        go_roundw
        case rel => exact ⟨k + 1, F, by go_num, by omega, by rw [HN2.out]; exact HW3.out, HB2.out, HK2.out, HF.out⟩
        case measure => simp [intOf]; omega
      | some v =>
        have hn := HN.out
        have hvk := HVK.out
        rw [ho] at hn hvk
        simp only [Option.getD_some] at hvk
        have hvr := HM.out.get ho
        have HU16 := Lib.hid (U16_any w2 _ _ _ hw3 v hvr.1 hvr.2 (fun xs e => by obtain rfl := Option.some.inj e; have := HL.out; simp only [List.length_cons]; omega))
        have HN2 := Lib.hid hn
        subst hvk
        clear hn hw3 ho HN HVK hvr
        simp only [Option.isSome_some]
        go_wp2_with fail
        refine HU16.out.mono ?_; rintro e w3 ⟨rfl, F3, hw3, hk3, hs3⟩
        have HW3 := Lib.hid hw3
        have HB3 := Lib.hid (hk3.heap HB2.out (fun hq => by have := HF.out _ hq; omega))
        have HK3 := Lib.hid (HK2.out.trans hk3 (fun q hq => .inr (by have := HF.out _ hq; have := HRE.out; omega)))
        have HF3 := Lib.hid (show ∀ q ∈ F3, R + 1 ≤ q from fun q hq => by
          rcases hs3 q hq with h | h
          · exact HF.out q h
          · have h1 := lt_of_block HB2.out; omega)
        clear hw3 hk3 hs3
        go_wp2_with fail
        go_roundw
        case rel => exact ⟨k + 1, F3, by go_num, by omega, by rw [HN2.out]; exact HW3.out, HB3.out, HK3.out, HF3.out⟩
        case measure => simp [intOf]; omega
    · obtain rfl : k = 8 := by omega
      have hall : m.take 8 = m := by rw [← HM.out.len, List.take_length]
      rw [hall] at hw2
      have HBY := Lib.hid (Bytes_any wr _ _ _ hw2)
      have HKW := Lib.hid hkw
      clear hw2 hb0 hkw hF hall
      go_wp2_with fail
      refine HBY.out.mono ?_; rintro e w3 ⟨rfl, rfl⟩
      simp only [Option.getD_some, Option.isSome_some, if_true]
      go_wp2_with fail
      go_ret
      exact ⟨rfl, HKW.out.drew⟩
end Go.Proofs.Ytnmpekbkahkapaa
/-
  The program's key map: Only.
-/
namespace Go.Proofs.Ytnmpekbkahkapaa
open Go.RowKit
theorem kv0_getO (k : Nat) : kv0.getD k none = none := by
  unfold kv0
  rw [List.getD_eq_getElem?_getD, List.getElem?_replicate]
  split <;> rfl
theorem kv0_H : kvH kv0 = 0 := rfl
theorem kvOnly_none {m : Kv} (hm : KvIn m) {key : Int} (h0 : 0 ≤ key) (h : m.getD key.toNat none = none) : kvOnly m key = kv0 := by
  unfold kvOnly
  split
  · rw [h]
    apply List.ext_getElem (by simp)
    intro i h1 h2
    rw [List.getElem_set]
    split
    · have := kv0_getO i
      rw [List.getD_eq_getElem?_getD, List.getElem?_eq_getElem h2] at this
      exact this.symm
    · rfl
  · rfl
theorem kvOnly_some {m : Kv} {kn : Nat} (hk : kn < 8) {v : Int} (h : m.getD kn none = some v) : kvOnly m (kn : Int) = kv0.set kn (some v) := by
  unfold kvOnly
  rw [if_pos (by omega), Int.toNat_natCast, h]
theorem only_H {kn : Nat} (hk : kn < 8) (v : Int) : kvH (kv0.set kn (some v)) = 2 ^ kn := by
  have := kvH_set kv0 kn hk (some v)
  rw [kv0_getO, kv0_H] at this
  simpa using this
section
variable {ops : Array Oper} {S : World → Prop} {o : Oper} {a : Act}
theorem yields_shl8 (hw : Region.wanted o (yielded ops a.tmps) = true) (x y : Operand) (T : TypeId) (ho : o.op = .binOp .shl 5 x y T) {k v : Int} (hx : a.eval x = .int .u8 1) (hy : a.eval y = .int .u8 k)
    (hr : ∀ w, (Op.shift BinOp.shl IntKind.u8 1 IntKind.u8 k).run Try.prog w = .ok (.int .u8 v) w) : YieldsIf Try.prog ops S o (.int .u8 v) a :=
  Or.inl ⟨hw, by
    intro w _
    have e := hr w
    unfold execOp
    simp only [ho, hx, hy, Sem.run_bind]
    simp [go_sem, e, Result.andThen]⟩
end
set_option maxHeartbeats 8000000
set_option maxRecDepth 100000
theorem kvOnly_no (w : World) {m : Kv} (hm : KvIn m) {key : Int} (h0 : 0 ≤ key) (ho : m.getD key.toNat none = none) : Calls Try.prog 23 #[kvVal m, .int .u8 key] w fun e w' => e = .returned (kvVal kv0) ∧ Keeps [] w w' := by
  have HHAS := Lib.hid (fun w => kvHas_kv w hm h0)
  have HO := Lib.hid ho
  clear ho h0
  have hk0 : Keeps [] w ((w.alloc (.cells (kvA (kvH m) (kvV m)) 25)).alloc (.cells (kvA 0 []) 25)) := ((Keeps.refl _ _).alloc _).alloc _
  have h0 : ((w.alloc (.cells (kvA (kvH m) (kvV m)) 25)).alloc (.cells (kvA 0 []) 25)).heap[w.heap.size]? = some (.cells (kvA (kvH m) (kvV m)) 25 (0, 0)) := ((Keeps.refl [] _).alloc _).heap (heap_alloc_new w _) (by simp)
  have h1 := heap_alloc_new (w.alloc (.cells (kvA (kvH m) (kvV m)) 25)) (.cells (kvA 0 []) 25)
  have hz : ((w.alloc (.cells (kvA (kvH m) (kvV m)) 25)).alloc (.cells (kvA 0 []) 25)).heap.size = (w.alloc (.cells (kvA (kvH m) (kvV m)) 25)).heap.size + 1 := Array.size_push _
  have hz1 : (w.alloc (.cells (kvA (kvH m) (kvV m)) 25)).heap.size = w.heap.size + 1 := Array.size_push _
  rw [hz1] at h1 hz
  have hs := heap_alloc_new
  obtain ⟨R, hR⟩ : ∃ R, R = w.heap.size := ⟨_, rfl⟩
  rw [← hR] at h0 h1 hz
  have HK0 := Lib.hid hk0; have H0 := Lib.hid h0; have H1 := Lib.hid h1; have HRE := Lib.hid hR
  have HZ := Lib.hid (show R + 2 = ((w.alloc (.cells (kvA (kvH m) (kvV m)) 25)).alloc (.cells (kvA 0 []) 25)).heap.size from by omega)
  clear hk0 h0 h1 hz hz1 hs hR
  unfold kvVal
  go_enter Try.func23, Try.ntmps23
  go_wp2_with fail
  refine (kvNew_any _).mono ?_; rintro e w1 ⟨rfl, hk1⟩
  have HB0 := Lib.hid (hk1.heap H0.out (by simp)); have HB1 := Lib.hid (hk1.heap H1.out (by simp))
  have HK1 := Lib.hid (HK0.out.trans hk1 (FSub.refl _ _))
  have HZ1 := Lib.hid (show R + 2 ≤ w1.heap.size from Nat.le_trans (Nat.le_of_eq HZ.out) hk1.size)
  have hka : Keeps [] w1 (w1.alloc (.cells #[.int .u8 0, .int .u16 0, .int .u16 0, .int .u16 0, .int .u16 0, .int .u16 0, .int .u16 0, .int .u16 0, .int .u16 0] 25)) := (Keeps.refl _ _).alloc _
  have HA0 := Lib.hid (hka.heap HB0.out (by simp)); have HA1 := Lib.hid (hka.heap HB1.out (by simp)); have HA2 := Lib.hid (show (w1.alloc (.cells #[.int .u8 0, .int .u16 0, .int .u16 0, .int .u16 0, .int .u16 0, .int .u16 0, .int .u16 0, .int .u16 0, .int .u16 0] 25)).heap[w1.heap.size]? = some (.cells (kvA 0 []) 25 (0, 0)) from heap_alloc_new w1 _)
  have HKA := Lib.hid (HK1.out.trans hka (FSub.refl _ _))
  obtain ⟨N, hN⟩ : ∃ N, N = w1.heap.size := ⟨_, rfl⟩
  have HN := Lib.hid hN
  clear hk1 H0 H1 HK0 HZ HB0 HB1 HK1 hka hN
  unfold kvVal
  rw [← HRE.out]
  go_wp2_with ((with_reducible refine wpList_putK (g := w1.heap.size) (h := kvH kv0) (vs := kvV kv0) ?_ ?_ HA2.out ?_); exact rfl; exact rfl)
  intro w2 hb2 hk2
  rw [← HN.out] at hb2 hk2 ⊢
  have HB0 := Lib.hid (hk2.heap HA0.out (by have := HZ1.out; have := HN.out; simp; omega)); have HB1 := Lib.hid (hk2.heap HA1.out (by have := HZ1.out; have := HN.out; simp; omega))
  have HB2 := Lib.hid hb2
  have HK2 := Lib.hid (HKA.out.trans hk2 (fun q hq => .inr (by have := HZ1.out; have := HN.out; have := HRE.out; simp at hq; omega)))
  have HNR := Lib.hid (show R + 2 ≤ N from by have := HZ1.out; have := HN.out; omega)
  clear hb2 hk2 HA0 HA1 HA2 HKA HZ1 HN
  go_wp2_with ((with_reducible refine wpList_loadK (g := R) (h := kvH m) (vs := kvV m) rfl ?_ HB0.out ?_); exact rfl)
  refine (HHAS.out w2).mono ?_; rintro e w3 ⟨rfl, hk3⟩
  have HB03 := Lib.hid (hk3.heap HB0.out (by simp)); have HB13 := Lib.hid (hk3.heap HB1.out (by simp)); have HB23 := Lib.hid (hk3.heap HB2.out (by simp))
  have HK3 := Lib.hid (HK2.out.trans hk3 (FSub.refl _ _))
  clear hk3 HB0 HB1 HB2 HK2
  rw [HO.out]
  simp only [Option.isSome_none]
  go_wp2_with (first
    | ((with_reducible refine wpList_loadK (g := N) (h := kvH kv0) (vs := kvV kv0) rfl ?_ HB23.out ?_); exact rfl)
    | ((with_reducible refine wpList_putK (g := R + 1) (h := kvH kv0) (vs := kvV kv0) ?_ ?_ HB13.out ?_); exact rfl; exact rfl))
  intro w4 hb4 hk4
  have HB4 := Lib.hid hb4
  have HK4 := Lib.hid (HK3.out.trans hk4 (fun q hq => .inr (by have := HRE.out; simp at hq; omega)))
  clear hb4 hk4
  go_wp2_with fail
  try simp only [Exit.inBlock, Exit.then]
  exact bodyPost_ret (results_kv rfl _ _ (R + 1) rfl HB4.out) rfl ⟨rfl, HK4.out⟩
theorem kvOnly_yes (w : World) {m : Kv} (hm : KvIn m) {kn : Nat} (hk8 : kn < 8) {v : Int} (ho : m.getD kn none = some v) : Calls Try.prog 23 #[kvVal m, .int .u8 kn] w fun e w' => e = .returned (kvVal (kv0.set kn (some v))) ∧ Keeps [] w w' := by
  have HHAS := Lib.hid (fun w => kvHas_kv w hm (key := (kn : Int)) (by omega))
  have HO := Lib.hid ho
  have HV := Lib.hid (show (kvV m).getD kn 0 = v by rw [kvV_getD (by rw [hm.len]; exact hk8), ho]; rfl)
  have HSH := Lib.hid (shl8 hk8)
  have HH := Lib.hid (only_H hk8 v)
  have HVS := Lib.hid (show kvV (kv0.set kn (some v)) = (kvV kv0).set kn v from kvV_set kv0 kn (some v))
  clear ho
  have hk0 : Keeps [] w ((w.alloc (.cells (kvA (kvH m) (kvV m)) 25)).alloc (.cells (kvA 0 []) 25)) := ((Keeps.refl _ _).alloc _).alloc _
  have h0 : ((w.alloc (.cells (kvA (kvH m) (kvV m)) 25)).alloc (.cells (kvA 0 []) 25)).heap[w.heap.size]? = some (.cells (kvA (kvH m) (kvV m)) 25 (0, 0)) := ((Keeps.refl [] _).alloc _).heap (heap_alloc_new w _) (by simp)
  have h1 := heap_alloc_new (w.alloc (.cells (kvA (kvH m) (kvV m)) 25)) (.cells (kvA 0 []) 25)
  have hz : ((w.alloc (.cells (kvA (kvH m) (kvV m)) 25)).alloc (.cells (kvA 0 []) 25)).heap.size = (w.alloc (.cells (kvA (kvH m) (kvV m)) 25)).heap.size + 1 := Array.size_push _
  have hz1 : (w.alloc (.cells (kvA (kvH m) (kvV m)) 25)).heap.size = w.heap.size + 1 := Array.size_push _
  rw [hz1] at h1 hz
  have hs := heap_alloc_new
  obtain ⟨R, hR⟩ : ∃ R, R = w.heap.size := ⟨_, rfl⟩
  rw [← hR] at h0 h1 hz
  have HK0 := Lib.hid hk0; have H0 := Lib.hid h0; have H1 := Lib.hid h1; have HRE := Lib.hid hR
  have HZ := Lib.hid (show R + 2 = ((w.alloc (.cells (kvA (kvH m) (kvV m)) 25)).alloc (.cells (kvA 0 []) 25)).heap.size from by omega)
  clear hk0 h0 h1 hz hz1 hs hR
  unfold kvVal
  go_enter Try.func23, Try.ntmps23
  go_wp2_with fail
  refine (kvNew_any _).mono ?_; rintro e w1 ⟨rfl, hk1⟩
  have HB0 := Lib.hid (hk1.heap H0.out (by simp)); have HB1 := Lib.hid (hk1.heap H1.out (by simp))
  have HK1 := Lib.hid (HK0.out.trans hk1 (FSub.refl _ _))
  have HZ1 := Lib.hid (show R + 2 ≤ w1.heap.size from Nat.le_trans (Nat.le_of_eq HZ.out) hk1.size)
  have hka : Keeps [] w1 (w1.alloc (.cells #[.int .u8 0, .int .u16 0, .int .u16 0, .int .u16 0, .int .u16 0, .int .u16 0, .int .u16 0, .int .u16 0, .int .u16 0] 25)) := (Keeps.refl _ _).alloc _
  have HA0 := Lib.hid (hka.heap HB0.out (by simp)); have HA1 := Lib.hid (hka.heap HB1.out (by simp)); have HA2 := Lib.hid (show (w1.alloc (.cells #[.int .u8 0, .int .u16 0, .int .u16 0, .int .u16 0, .int .u16 0, .int .u16 0, .int .u16 0, .int .u16 0, .int .u16 0] 25)).heap[w1.heap.size]? = some (.cells (kvA 0 []) 25 (0, 0)) from heap_alloc_new w1 _)
  have HKA := Lib.hid (HK1.out.trans hka (FSub.refl _ _))
  obtain ⟨N, hN⟩ : ∃ N, N = w1.heap.size := ⟨_, rfl⟩
  have HN := Lib.hid hN
  clear hk1 H0 H1 HK0 HZ HB0 HB1 HK1 hka hN
  unfold kvVal
  rw [← HRE.out]
  go_wp2_with ((with_reducible refine wpList_putK (g := w1.heap.size) (h := kvH kv0) (vs := kvV kv0) ?_ ?_ HA2.out ?_); exact rfl; exact rfl)
  intro w2 hb2 hk2
  rw [← HN.out] at hb2 hk2 ⊢
  have HB0 := Lib.hid (hk2.heap HA0.out (by have := HZ1.out; have := HN.out; simp; omega)); have HB1 := Lib.hid (hk2.heap HA1.out (by have := HZ1.out; have := HN.out; simp; omega))
  have HB2 := Lib.hid hb2
  have HK2 := Lib.hid (HKA.out.trans hk2 (fun q hq => .inr (by have := HZ1.out; have := HN.out; have := HRE.out; simp at hq; omega)))
  have HNR := Lib.hid (show R + 2 ≤ N from by have := HZ1.out; have := HN.out; omega)
  clear hb2 hk2 HA0 HA1 HA2 HKA HZ1 HN
  go_wp2_with ((with_reducible refine wpList_loadK (g := R) (h := kvH m) (vs := kvV m) rfl ?_ HB0.out ?_); exact rfl)
  refine (HHAS.out w2).mono ?_; rintro e w3 ⟨rfl, hk3⟩
  have HB03 := Lib.hid (hk3.heap HB0.out (by simp)); have HB13 := Lib.hid (hk3.heap HB1.out (by simp)); have HB23 := Lib.hid (hk3.heap HB2.out (by simp))
  have HK3 := Lib.hid (HK2.out.trans hk3 (FSub.refl _ _))
  clear hk3 HB0 HB1 HB2 HK2
  rw [Int.toNat_natCast, HO.out]
  simp only [Option.isSome_some]
  have c0 := kv_cell HB03.out hk8
  rw [HV.out] at c0
  obtain ⟨S, hS⟩ : ∃ S : World → Prop, S = fun y => Keeps [N] w3 y := ⟨_, rfl⟩
  have HSE := Lib.hid hS
  have hSD : S w3.drew := by rw [hS]; exact (Keeps.refl _ _).drew
  have HSV := Lib.hid (fun (w' : World) (hh : S w') => show w'.cell? ⟨R, 1 + kn, none⟩ = some (.int .u16 v) from by rw [hS] at hh; exact hh.cell c0 (by have := HNR.out; simp; omega))
  have HLT := Lib.hid (fun (w' : World) (_ : S w') => show (kn : Int) < 8 from by omega)
  clear hS c0
  go_wp2_with fail
  refine wp_region_noPanic ?_
  refine wp_region_held_drew (S := S) (by kernel_rfl) hSD (fun hHeld => ?_)
  apply wpAnyH_take (i := 0)
  · simp only [List.getElem?_toArray]; rfl
  · kernel_rfl
  · kernel_rfl
  · kernel_rfl
  · exact fun _ _ _ h => h
  · exact Or.inl ⟨by rfl, by intro w hSw; go_simp; try with_reducible rfl⟩
  · assumption
  try simp only [Act.put, List.setIfInBounds_toArray, List.set_cons_zero, List.set_cons_succ]
  apply wpAnyH_take (i := 1)
  · simp only [List.getElem?_toArray]; rfl
  · kernel_rfl
  · kernel_rfl
  · kernel_rfl
  · exact fun _ _ _ h => h
  · exact Or.inl ⟨by rfl, by intro w hSw; go_simp; try with_reducible rfl⟩
  · assumption
  try simp only [Act.put, List.setIfInBounds_toArray, List.set_cons_zero, List.set_cons_succ]
  apply wpAnyH_take (i := 2)
  · simp only [List.getElem?_toArray]; rfl
  · kernel_rfl
  · kernel_rfl
  · kernel_rfl
  · exact fun _ _ _ h => h
  · exact yields_shl8 (by rfl) _ _ _ rfl rfl rfl HSH.out
  · assumption
  try simp only [Act.put, List.setIfInBounds_toArray, List.set_cons_zero, List.set_cons_succ]
  apply wpAnyH_take (i := 3)
  · simp only [List.getElem?_toArray]; rfl
  · kernel_rfl
  · kernel_rfl
  · kernel_rfl
  · exact fun _ _ _ h => h
  · exact Or.inl ⟨by rfl, by intro w hSw; go_simp; try with_reducible rfl⟩
  · assumption
  try simp only [Act.put, List.setIfInBounds_toArray, List.set_cons_zero, List.set_cons_succ]
  apply wpAnyH_take (i := 4)
  · simp only [List.getElem?_toArray]; rfl
  · kernel_rfl
  · kernel_rfl
  · kernel_rfl
  · exact fun _ _ _ h => h
  · exact Or.inl ⟨by rfl, by intro w hSw; go_simp; try with_reducible rfl⟩
  · assumption
  try simp only [Act.put, List.setIfInBounds_toArray, List.set_cons_zero, List.set_cons_succ]
  apply wpAnyH_take (i := 5)
  · simp only [List.getElem?_toArray]; rfl
  · kernel_rfl
  · kernel_rfl
  · kernel_rfl
  · exact fun _ _ _ h => h
  · exact Or.inl ⟨by rfl, by intro w hSw; have q0 := HLT.out w hSw; go_simp; try with_reducible rfl⟩
  · assumption
  try simp only [Act.put, List.setIfInBounds_toArray, List.set_cons_zero, List.set_cons_succ]
  apply wpAnyH_take (i := 6)
  · simp only [List.getElem?_toArray]; rfl
  · kernel_rfl
  · kernel_rfl
  · kernel_rfl
  · exact fun _ _ _ h => h
  · exact Or.inl ⟨by rfl, by intro w hSw; have q0 := HSV.out w hSw; go_simp; try with_reducible rfl⟩
  · assumption
  try simp only [Act.put, List.setIfInBounds_toArray, List.set_cons_zero, List.set_cons_succ]
  apply wpAnyH_take (i := 7)
  · simp only [List.getElem?_toArray]; rfl
  · kernel_rfl
  · kernel_rfl
  · kernel_rfl
  · exact fun _ _ _ h => h
  · exact Or.inl ⟨by rfl, by intro w hSw; go_simp; try with_reducible rfl⟩
  · assumption
  try simp only [Act.put, List.setIfInBounds_toArray, List.set_cons_zero, List.set_cons_succ]
  apply wpAnyH_take (i := 9)
  · simp only [List.getElem?_toArray]; rfl
  · kernel_rfl
  · kernel_rfl
  · kernel_rfl
  · exact fun _ _ _ h => h
  · exact Or.inl ⟨by rfl, by intro w hSw; go_simp; try with_reducible rfl⟩
  · assumption
  try simp only [Act.put, List.setIfInBounds_toArray, List.set_cons_zero, List.set_cons_succ]
  apply wpAnyH_ready (rs := [8])
  · kernel_rfl
  · simp
  apply AllReadyH.cons (hs := AllReadyH.nil)
  · simp only [List.getElem?_toArray]; rfl
  intro K hK
  rw [if_pos (by rfl)]
  refine wp_putKh rfl (g := N) (h2 := ((2 ^ kn : Nat) : Int)) rfl rfl HB23.out (fun W4 hW4 hk4 => ?_)
  have HW4 := Lib.hid hW4
  have HK4 := Lib.hid (show Keeps [N] w3 W4 from (((Keeps.refl [N] w3).drew).step hk4 (by simp)))
  clear hW4 hk4
  refine hK.out _ _ ?_ (fun hHeld => ?_)
  · exact (by rw [HSE.out]; exact HK4.out)
  clear hK K
  try simp only [Act.put, List.setIfInBounds_toArray, List.set_cons_zero, List.set_cons_succ]
  apply wpAnyH_take (i := 10)
  · simp only [List.getElem?_toArray]; rfl
  · kernel_rfl
  · kernel_rfl
  · kernel_rfl
  · exact fun _ _ _ h => h
  · exact Or.inl ⟨by rfl, by intro w hSw; have q0 := HLT.out w hSw; go_simp; try with_reducible rfl⟩
  · assumption
  try simp only [Act.put, List.setIfInBounds_toArray, List.set_cons_zero, List.set_cons_succ]
  apply wpAnyH_ready (rs := [11])
  · kernel_rfl
  · simp
  apply AllReadyH.cons (hs := AllReadyH.nil)
  · simp only [List.getElem?_toArray]; rfl
  intro K hK
  rw [if_pos (by rfl)]
  refine wp_putKv rfl (g := N) (k := kn) (v := v) rfl hk8 rfl rfl HW4.out (fun W5 hW5 hk5 => ?_)
  rw [← HVS.out, ← HH.out] at hW5
  have HW5 := Lib.hid hW5
  have HK5 := Lib.hid (HK4.out.step hk5 (by simp))
  have HR5 := Lib.hid (HK5.out.heap HB13.out (by have := HNR.out; simp; omega))
  clear hW5 hk5
  refine hK.out _ _ ?_ (fun hHeld => ?_)
  · exact (by rw [HSE.out]; exact HK5.out)
  clear hK K
  try simp only [Act.put, List.setIfInBounds_toArray, List.set_cons_zero, List.set_cons_succ]
  refine wpAnyH_done (by kernel_rfl) ?_ _
  refine NoPanic.normal ?_
  go_wp2_with (first
    | ((with_reducible refine wpList_loadK (g := N) rfl ?_ HW5.out ?_); exact rfl)
    | ((with_reducible refine wpList_putK (g := R + 1) (h := kvH (kv0.set kn (some v))) (vs := kvV (kv0.set kn (some v))) ?_ ?_ HR5.out ?_); exact rfl; exact rfl))
  intro w6 hb6 hk6
  have HB6 := Lib.hid hb6
  have HK6 := Lib.hid ((HK3.out.trans HK5.out (fun q hq => .inr (by have := HNR.out; have := HRE.out; simp at hq; omega))).trans hk6 (fun q hq => .inr (by have := HRE.out; simp at hq; omega)))
  clear hb6 hk6
  go_wp2_with fail
  try simp only [Exit.inBlock, Exit.then]
  exact bodyPost_ret (results_kv rfl _ _ (R + 1) rfl HB6.out) rfl ⟨rfl, HK6.out⟩
theorem kvOnly_any (w : World) {m : Kv} (hm : KvIn m) {key : Int} (h0 : 0 ≤ key) : Calls Try.prog 23 #[kvVal m, .int .u8 key] w fun e w' => e = .returned (kvVal (kvOnly m key)) ∧ Keeps [] w w' := by
  cases ho : m.getD key.toNat none with
  | none =>
    rw [kvOnly_none hm h0 ho]
    exact kvOnly_no w hm h0 ho
  | some v =>
    obtain ⟨kn, rfl⟩ := Int.eq_ofNat_of_zero_le h0
    rw [Int.toNat_natCast] at ho
    have hk8 : kn < 8 := by
      by_cases h : kn < m.length
      · rw [hm.len] at h; exact h
      · rw [List.getD_eq_getElem?_getD, List.getElem?_eq_none (by omega)] at ho; cases ho
    rw [kvOnly_some hk8 ho]
    exact kvOnly_yes w hm hk8 ho
end Go.Proofs.Ytnmpekbkahkapaa
/-
  The program's key map: Decode.
-/
namespace Go.Proofs.Ytnmpekbkahkapaa
open Go.RowKit
theorem dk_H (xs : List Int) : ∀ k, kvH (dkS xs k).2.2 = (rdVal 1 xs 0 0).toNat % 2 ^ k
  | 0 => by simp [dkS, kvH, Nat.mod_one]
  | k + 1 => by
    have ih := dk_H xs k
    have hb := bits_more (rdVal 1 xs 0 0).toNat k
    unfold dkS
    split
    · rename_i h
      simp only [kvH_app, dkS_len]
      rw [ih, hb, h]
      rfl
    · rename_i h
      have h0 : (rdVal 1 xs 0 0).toNat / 2 ^ k % 2 = 0 := by omega
      simp only [kvH_app, dkS_len]
      rw [ih, hb, h0]
      rfl
/-- The numbers that are there so far. -/
def vsOf (m : Kv) : List Int := kvV m ++ List.replicate (8 - m.length) 0
theorem vsOf_len {m : Kv} (h : m.length ≤ 8) : (vsOf m).length = 8 := by simp [vsOf, kvV_len]; omega
theorem vsOf_whole {m : Kv} (h : m.length = 8) : vsOf m = kvV m := by simp [vsOf, h]
theorem vsOf_none {m : Kv} (h : m.length < 8) : vsOf (m ++ [none]) = vsOf m := by
  unfold vsOf
  rw [List.length_append, List.length_singleton, show 8 - m.length = (8 - (m.length + 1)) + 1 by omega, List.replicate_succ]
  simp [kvV]
theorem vsOf_some {m : Kv} (h : m.length < 8) (v : Int) : vsOf (m ++ [some v]) = (vsOf m).set m.length v := by
  unfold vsOf
  rw [List.length_append, List.length_singleton, show 8 - m.length = (8 - (m.length + 1)) + 1 by omega, List.replicate_succ, List.set_append_right _ _ (by rw [kvV_len]; omega), kvV_len, Nat.sub_self, List.set_cons_zero]
  simp [kvV]
theorem results_kvE {fn : Func} {p x : Tmp} (h : fn.results = #[.cell p 25, .tmp x]) (tmps : Array Value) (w : World) (b : Nat) {z : Int} {vs : List Int} {t : TypeId}
    (hp : tmps.getD p undef = .pointer (some ⟨b, 0, none⟩)) (hb : w.heap[b]? = some (.cells (kvA z vs) t (0, 0))) : (results fn tmps).run Try.prog w = .ok (.tuple #[.agg (kvA z vs), tmps.getD x undef]) w := by
  have h1 : (loadVar 25 ⟨b, 0, none⟩).run Try.prog w = .ok (.agg (kvA z vs)) w := run_loadVar_row w b t 25 _ _ _ hb Try.underlying25 rfl (by kernel_rfl)
  have hp' : tmps[p]?.getD undef = .pointer (some ⟨b, 0, none⟩) := by simpa using hp
  simp only [results, h]
  simp [Sem.run_bind, Result.andThen, hp', asAddr, h1]
set_option maxHeartbeats 8000000
set_option maxRecDepth 100000
theorem kvDecode_any (w : World) (l : List UInt8) (hl : l.length ≤ 1000) : Calls Try.prog 19 #[.string (bs l)] w fun e w' => e = .returned (.tuple #[kvVal (kvD (nb l)).1, .int .i64 (kvD (nb l)).2]) ∧ Keeps [] w w' := by
  have hx := nb_u8 l
  have hlen : (nb l).length ≤ 1000 := by rw [nb_length]; exact hl
  have hov := fun w => Over_any w (bs l)
  rw [show nums (bs l) = nb l by rw [nb_nums, bs_list]] at hov
  generalize nb l = xs at *
  generalize bs l = B0 at *
  have HX := Lib.hid hx; have HL := Lib.hid hlen; have HOV := Lib.hid hov
  have hk0 : Keeps [] w (w.alloc (.cells (kvA 0 []) 25)) := (Keeps.refl _ _).alloc _
  have h0 := heap_alloc_new w (.cells (kvA 0 []) 25)
  have hz : (w.alloc (.cells (kvA 0 []) 25)).heap.size = w.heap.size + 1 := Array.size_push _
  obtain ⟨R, hR⟩ : ∃ R, R = w.heap.size := ⟨_, rfl⟩
  rw [← hR] at h0 hz
  have HK0 := Lib.hid hk0; have H0 := Lib.hid h0; have HRE := Lib.hid hR; have HZ := Lib.hid hz
  clear hx hlen hl hov hk0 h0 hz hR
  go_enter Try.func19, Try.ntmps19
  go_wp2_with fail
  refine (HOV.out _).mono ?_; rintro e w1 ⟨rfl, ⟨cap, hr1⟩, hk1⟩
  have hzl : (w.alloc (.cells #[.int .u8 0, .int .u16 0, .int .u16 0, .int .u16 0, .int .u16 0, .int .u16 0, .int .u16 0, .int .u16 0, .int .u16 0] 25)).heap.size = R + 1 := HZ.out
  rw [hzl] at hr1 ⊢
  have HU8 := Lib.hid (RU8_any w1 _ _ _ _ xs 0 hr1 HX.out (by have := HL.out; omega))
  have HB0 := Lib.hid (hk1.heap H0.out (by simp))
  have HK1 := Lib.hid (HK0.out.trans hk1 (FSub.refl _ _))
  rw [← HRE.out]
  clear hr1 hk1 hzl HK0 H0 HZ HOV
  go_wp2_with fail
  refine HU8.out.mono ?_; rintro e w2 ⟨rfl, hr2, hk2⟩
  have HR2 := Lib.hid hr2
  have HB02 := Lib.hid (hk2.heap HB0.out (by simp; omega))
  have HK2 := Lib.hid (HK1.out.trans hk2 (fun q hq => .inr (by have := HRE.out; simp at hq; omega)))
  have hbr := rdVal1_in HX.out 0 0
  obtain ⟨B, hB⟩ : ∃ B : Nat, rdVal 1 xs 0 0 = B := ⟨(rdVal 1 xs 0 0).toNat, by omega⟩
  have HBN := Lib.hid (show (rdVal 1 xs 0 0).toNat = B from by omega)
  rw [hB] at hbr ⊢
  have HBR := Lib.hid (show B < 256 from by omega)
  have HSZ := Lib.hid (show R + 3 ≤ w2.heap.size from by have := lt_of_block hr2.blk; omega)
  have hka : Keeps [] w2 (w2.alloc (.cells #[.int .u8 0, .int .u16 0, .int .u16 0, .int .u16 0, .int .u16 0, .int .u16 0, .int .u16 0, .int .u16 0, .int .u16 0] 25)) := (Keeps.refl _ _).alloc _
  have HA0 := Lib.hid (hka.heap HB02.out (by simp)); have HAN := Lib.hid (show (w2.alloc (.cells #[.int .u8 0, .int .u16 0, .int .u16 0, .int .u16 0, .int .u16 0, .int .u16 0, .int .u16 0, .int .u16 0, .int .u16 0] 25)).heap[w2.heap.size]? = some (.cells (kvA 0 []) 25 (0, 0)) from heap_alloc_new w2 _)
  have HAR := Lib.hid (hr2.keeps hka (by simp) (by simp))
  have HKA := Lib.hid (HK2.out.trans hka (FSub.refl _ _))
  obtain ⟨N, hN⟩ : ∃ N, N = w2.heap.size := ⟨_, rfl⟩
  have HN := Lib.hid hN
  clear hr2 hk2 hbr hB hka hN HU8 HB0 HK1 HR2 HB02 HK2
  go_wp2_with ((with_reducible refine wpList_putK (g := w2.heap.size) (h := B) (vs := []) ?_ ?_ HAN.out ?_); exact rfl; exact rfl)
  intro w3 hb3 hk3
  rw [← HN.out] at hb3 hk3 ⊢
  have HNR := Lib.hid (show R + 3 ≤ N from by have := HSZ.out; have := HN.out; omega)
  have HB3 := Lib.hid (show w3.heap[N]? = some (.cells (kvA B (vsOf (dkS xs 0).2.2)) 25 (0, 0)) from hb3)
  have HB03 := Lib.hid (hk3.heap HA0.out (by have := HNR.out; simp; omega))
  have HR3 := Lib.hid (show RAt w3 (R + 1 + 1) (R + 1) cap xs (dkS xs 0).1 (dkS xs 0).2.1 from HAR.out.keeps hk3 (by have := HNR.out; simp; omega) (by have := HNR.out; simp; omega))
  have HK3 := Lib.hid (HKA.out.trans hk3 (fun q hq => .inr (by have := HNR.out; have := HRE.out; simp at hq; omega)))
  clear hb3 hk3 HA0 HAN HAR HKA HSZ HN
  go_wp2_with fail
  go_loopw [12] (fun i wr => ∃ k : Nat, i = .int .i64 k ∧ k ≤ 8 ∧ RAt wr (R + 1 + 1) (R + 1) cap xs (dkS xs k).1 (dkS xs k).2.1 ∧ wr.heap[N]? = some (.cells (kvA B (vsOf (dkS xs k).2.2)) 25 (0, 0)) ∧ wr.heap[R]? = some (.cells (kvA 0 []) 25 (0, 0)) ∧ Keeps [] w wr) (fun i _ => 8 - (intOf i).toNat)
  case atStart => exact ⟨0, rfl, by omega, HR3.out, HB3.out, HB03.out, HK3.out⟩
  case round =>
    obtain ⟨k, rfl, hk, hr, hbn, hb0, hkw⟩ := hrel
    by_cases hlt : k < 8
    · have e8 : (k : Int) % 256 = k := by omega
      have HHAS := Lib.hid (fun w vs => kvHas_any w HBR.out vs (key := (k : Int)) (by omega))
      have HR := Lib.hid hr; have HBNN := Lib.hid hbn; have HB0 := Lib.hid hb0; have HKW := Lib.hid hkw
      have HDL := Lib.hid (dkS_len xs k)
      have HD1 := Lib.hid (show B / 2 ^ k % 2 = 1 → dkS xs (k + 1) = (rdErr 2 xs (dkS xs k).1 (dkS xs k).2.1, rdPos 2 xs (dkS xs k).1 (dkS xs k).2.1, (dkS xs k).2.2 ++ [some (rdVal 2 xs (dkS xs k).1 (dkS xs k).2.1)]) from fun h => by rw [dkS, HBN.out, if_pos h])
      have HD0 := Lib.hid (show ¬ B / 2 ^ k % 2 = 1 → dkS xs (k + 1) = ((dkS xs k).1, (dkS xs k).2.1, (dkS xs k).2.2 ++ [none]) from fun h => by rw [dkS, HBN.out, if_neg h])
      generalize dkS xs k = D at *
      obtain ⟨e1, p1, m1⟩ := D
      simp only at *
      clear hr hbn hb0 hkw
      go_wp2_with ((with_reducible refine wpList_loadK (g := N) (h := B) rfl ?_ HBNN.out ?_); exact rfl)
      refine (HHAS.out wr _).mono ?_; rintro e w4 ⟨rfl, hk4⟩
      rw [Int.toNat_natCast]
      have HBN4 := Lib.hid (hk4.heap HBNN.out (by simp)); have HB04 := Lib.hid (hk4.heap HB0.out (by simp))
      have hr4 := HR.out.keeps hk4 (by simp) (by simp)
      have HK4 := Lib.hid (HKW.out.trans hk4 (FSub.refl _ _))
      clear hk4
      by_cases hbit : B / 2 ^ k % 2 = 1
      · rw [decide_eq_true hbit]
        have HD := Lib.hid (HD1.out hbit)
        have HU := Lib.hid (RU16_any w4 _ _ _ _ xs e1 hr4 HX.out (by have := HL.out; omega))
        clear hbit HD1 HD0 hr4
        generalize hV : rdVal 2 xs e1 p1 = V at *
        clear hV
        go_wp2_with fail
        refine HU.out.mono ?_; rintro e w5 ⟨rfl, hr5, hk5⟩
        have HBN5 := Lib.hid (hk5.heap HBN4.out (by have := HNR.out; simp; omega)); have HB05 := Lib.hid (hk5.heap HB04.out (by simp; omega))
        have HR5 := Lib.hid hr5
        have HK5 := Lib.hid (HK4.out.trans hk5 (fun q hq => .inr (by have := HRE.out; simp at hq; omega)))
        have hlk : (k : Int) < 8 := by omega
        clear hr5 hk5
        have HVL := Lib.hid (vsOf_len (m := m1) (by rw [HDL.out]; exact hk))
        have HVS := Lib.hid (vsOf_some (m := m1) (by rw [HDL.out]; exact hlt) V)
        go_wp2_with ((with_reducible refine wpList_putKv (g := N) (k := k) (h := B) (v := V) HVL.out hlt ?_ ?_ HBN5.out ?_); exact rfl; exact rfl)
        intro w6 hb6 hk6
        have hvs := HVS.out
        rw [HDL.out] at hvs
        rw [← hvs] at hb6
        have HB6 := Lib.hid hb6
        have HB06 := Lib.hid (hk6.heap HB05.out (by have := HNR.out; simp; omega))
        have HR6 := Lib.hid (HR5.out.keeps hk6 (by have := HNR.out; simp; omega) (by have := HNR.out; simp; omega))
        have HK6 := Lib.hid (HK5.out.trans hk6 (fun q hq => .inr (by have := HNR.out; have := HRE.out; simp at hq; omega)))
        clear hb6 hk6 hvs
        go_wp2_with fail
        go_roundw
        case rel => exact ⟨k + 1, by go_num, by omega, by rw [HD.out]; exact HR6.out, by rw [HD.out]; exact HB6.out, HB06.out, HK6.out⟩
        case measure => simp [intOf]; omega
      · rw [decide_eq_false hbit]
        have HD := Lib.hid (HD0.out hbit)
        have HR4 := Lib.hid hr4
        have HVS := Lib.hid (vsOf_none (m := m1) (by rw [HDL.out]; exact hlt))
        clear hbit HD1 HD0 hr4
        go_wp2_with fail
        go_roundw
        case rel => exact ⟨k + 1, by go_num, by omega, by rw [HD.out]; exact HR4.out, by rw [HD.out]; show _ = some (Obj.cells (kvA B (vsOf (m1 ++ [none]))) _ _); rw [HVS.out]; exact HBN4.out, HB04.out, HK4.out⟩
        case measure => simp [intOf]; omega
    · obtain rfl : k = 8 := by omega
      have HB0 := Lib.hid hb0; have HKW := Lib.hid hkw
      have hm8 := dkS_len xs 8
      rw [vsOf_whole hm8] at hbn
      have HBNN := Lib.hid hbn
      have hH : kvH (dkS xs 8).2.2 = B := by
        rw [dk_H, HBN.out]
        exact Nat.mod_eq_of_lt HBR.out
      have HCL := Lib.hid (Close_any wr _ _ _ _ _ _ hr (by have := HL.out; omega))
      have HDC := Lib.hid (show kvD xs = if closeOf (dkS xs 8).1 (dkS xs 8).2.1 xs.length = 0 then ((dkS xs 8).2.2, 0) else (kv0, 4) from rfl)
      have HH := Lib.hid hH
      clear hb0 hkw hbn hr hm8 hH
      generalize dkS xs 8 = D at *
      obtain ⟨e1, p1, m1⟩ := D
      simp only at *
      generalize closeOf e1 p1 xs.length = C at *
      go_wp2_with fail
      refine HCL.out.mono ?_; rintro e w4 ⟨rfl, n, rfl⟩
      have HBN4 := Lib.hid (show (wr.drewN n).heap[N]? = some (.cells (kvA B (kvV m1)) 25 (0, 0)) from HBNN.out)
      have HB04 := Lib.hid (show (wr.drewN n).heap[R]? = some (.cells (kvA 0 []) 25 (0, 0)) from HB0.out)
      have HK4 := Lib.hid (HKW.out.drewN n)
      generalize wr.drewN n = w4 at *
      by_cases hC : C = 0
      · have HD := Lib.hid (HDC.out.trans (if_pos hC))
        subst hC
        clear HDC
        go_wp2_with (first
          | ((with_reducible refine wpList_loadK (g := N) rfl ?_ HBN4.out ?_); exact rfl)
          | ((with_reducible refine wpList_putK (g := R) (h := B) (vs := kvV m1) ?_ ?_ HB04.out ?_); exact rfl; exact rfl))
        intro w5 hb5 hk5
        have HB5 := Lib.hid hb5
        have HK5 := Lib.hid (HK4.out.trans hk5 (fun q hq => .inr (by have := HRE.out; simp at hq; omega)))
        clear hb5 hk5
        go_wp2_with fail
        try simp only [Exit.inBlock, Exit.then]
        exact bodyPost_ret (results_kvE rfl _ _ R rfl HB5.out) rfl ⟨by rw [HD.out]; unfold kvVal; rw [HH.out]; rfl, HK5.out⟩
      · have te : (C != 0) = true := by simpa using hC
        have HD := Lib.hid (HDC.out.trans (if_neg hC))
        clear HDC hC
        go_wp2_with ((with_reducible refine wpList_putK (g := R) (h := 0) (vs := []) ?_ ?_ HB04.out ?_); exact rfl; exact rfl)
        intro w5 hb5 hk5
        have HB5 := Lib.hid hb5
        have HK5 := Lib.hid (HK4.out.trans hk5 (fun q hq => .inr (by have := HRE.out; simp at hq; omega)))
        clear hb5 hk5
        go_wp2_with fail
        try simp only [Exit.inBlock, Exit.then]
        exact bodyPost_ret (results_kvE rfl _ _ R rfl HB5.out) rfl ⟨by rw [HD.out]; rfl, HK5.out⟩
end Go.Proofs.Ytnmpekbkahkapaa
/-
  The program's key map, as one value.
-/
namespace Go.Proofs.Ytnmpekbkahkapaa
open Go.RowKit
theorem kvP : KvProg (fun _ => True) where
  keep := fun _ _ => trivial
  new := fun w _ => kvNew_any w
  check := fun w _ _ _ hr => kvCheck_any w hr
  step := fun w _ x _ hm hx => kvStep_any w hm x hx
  run := fun w _ _ _ _ hm hl hI hn => kvRun_any w hm hl hI hn
  enc := fun w _ _ hm => kvEncode_any w hm
  dec := fun w l _ hl => kvDecode_any w l hl
  only := fun w _ _ _ hm h0 => kvOnly_any w hm h0.1
  idle := fun w f _ _ => kvIdle_any w f
end Go.Proofs.Ytnmpekbkahkapaa
