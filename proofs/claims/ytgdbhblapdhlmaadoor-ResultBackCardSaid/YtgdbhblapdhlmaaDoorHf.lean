/-
  The program's Parse.
-/
import Derived.Test.YtgdbhblapdhlmaaDoorHe
namespace Go.Proofs.YtgdbhblapdhlmaaDoor
open Go.RowKit
theorem toL_of (s : ByteArray) : s.toList = s.data.toList := ByteArray.toList_eq s
set_option maxHeartbeats 1000000 in
theorem parse_yes (w : World) (hG : Glob w) (s SX : ByteArray) (K V : Int) (k0 : 0 ≤ K) (k1 : K ≤ 4) (v0 : 0 ≤ V) (v1 : V ≤ 65535)
    (hg : ∀ w, Glob w → Calls Tryd.prog 35 #[.string s] w fun e w' => e = .returned (.agg #[.int .u8 K, .int .u16 V]) ∧ Keeps [] w w')
    (ht : ∀ w, Glob w → Calls Tryd.prog 10 #[.agg #[.int .u8 K, .int .u16 V]] w fun e w' => e = .returned (.tuple #[.string SX, .int .i64 0]) ∧ Keeps [] w w')
    (t1 : (SX.toList == s.toList) = true) (t2 : (SX.toList != s.toList) = false) :
    Calls Tryd.prog 14 #[.string s] w fun e w' => e = .returned (.tuple #[.agg #[.int .u8 K, .int .u16 V], .int .i64 0]) ∧ Keeps [] w w' := by
  go_enter Tryd.func14, Tryd.ntmps14
  go_wp2_with fail
  refine (hg _ (hG.new ((Keeps.refl _ _).alloc _))).mono ?_; rintro e w1 ⟨rfl, hk1⟩
  have hb := boxed2 hk1
  replace hk1 := ((Keeps.refl [] w).alloc _).trans hk1 (FSub.refl _ _)
  have hlt := lt_of_block hb
  have hk1' := hk1.alloc (.cells #[.int .u8 K, .int .u16 V] 24)
  go_wp2_with fail
  refine (ht _ (hG.new hk1')).mono ?_; rintro e w2 ⟨rfl, hk2⟩
  have hb2 := hk2.heap (heap_alloc_lt hb) (by simp)
  have hd2 := boxed2 hk2
  replace hk2 := hk1'.trans hk2 (FSub.refl _ _)
  obtain ⟨c0, c1, hlt2⟩ := cell2 hb2
  obtain ⟨d0, d1, hlt3⟩ := cell2 hd2
  have f0 : w2.frozen? ⟨w.heap.size, 0, none⟩ = false := by simp [World.frozen?, hb2]
  have f1 : w2.frozen? ⟨w.heap.size, 1, none⟩ = false := by simp [World.frozen?, hb2]
  have hr := put2 hb2 (.int .u8 K) (.int .u16 V)
  clear hb hk1 hk1' hb2 hd2
  go_wp2_with fail
  try simp only [Exit.inBlock, Exit.then]
  exact bodyPost_ret (results_row2 rfl _ _ _ rfl hr) rfl ⟨rfl, ((hk2.setCell _ _ (.inr (Nat.le_refl _))).setCell _ _ (.inr (Nat.le_refl _)))⟩
set_option maxHeartbeats 1000000 in
theorem parse_other (w : World) (hG : Glob w) (s SX : ByteArray) (K V : Int) (k0 : 0 ≤ K) (k1 : K ≤ 4) (v0 : 0 ≤ V) (v1 : V ≤ 65535)
    (hg : ∀ w, Glob w → Calls Tryd.prog 35 #[.string s] w fun e w' => e = .returned (.agg #[.int .u8 K, .int .u16 V]) ∧ Keeps [] w w')
    (ht : ∀ w, Glob w → Calls Tryd.prog 10 #[.agg #[.int .u8 K, .int .u16 V]] w fun e w' => e = .returned (.tuple #[.string SX, .int .i64 0]) ∧ Keeps [] w w')
    (t1 : (SX.toList == s.toList) = false) (t2 : (SX.toList != s.toList) = true) :
    Calls Tryd.prog 14 #[.string s] w fun e w' => e = .returned (.tuple #[.agg #[.int .u8 0, .int .u16 0], .int .i64 4]) ∧ Keeps [] w w' := by
  go_enter Tryd.func14, Tryd.ntmps14
  go_wp2_with fail
  refine (hg _ (hG.new ((Keeps.refl _ _).alloc _))).mono ?_; rintro e w1 ⟨rfl, hk1⟩
  have hb := boxed2 hk1
  replace hk1 := ((Keeps.refl [] w).alloc _).trans hk1 (FSub.refl _ _)
  have hlt := lt_of_block hb
  have hk1' := hk1.alloc (.cells #[.int .u8 K, .int .u16 V] 24)
  go_wp2_with fail
  refine (ht _ (hG.new hk1')).mono ?_; rintro e w2 ⟨rfl, hk2⟩
  have hb2 := hk2.heap (heap_alloc_lt hb) (by simp)
  have hd2 := boxed2 hk2
  replace hk2 := hk1'.trans hk2 (FSub.refl _ _)
  obtain ⟨c0, c1, hlt2⟩ := cell2 hb2
  obtain ⟨d0, d1, hlt3⟩ := cell2 hd2
  have f0 : w2.frozen? ⟨w.heap.size, 0, none⟩ = false := by simp [World.frozen?, hb2]
  have f1 : w2.frozen? ⟨w.heap.size, 1, none⟩ = false := by simp [World.frozen?, hb2]
  have hr := put2 hb2 (.int .u8 0) (.int .u16 0)
  clear hb hk1 hk1' hb2 hd2
  go_wp2_with fail
  try simp only [Exit.inBlock, Exit.then]
  exact bodyPost_ret (results_row2 rfl _ _ _ rfl hr) rfl ⟨rfl, ((hk2.setCell _ _ (.inr (Nat.le_refl _))).setCell _ _ (.inr (Nat.le_refl _)))⟩
set_option maxHeartbeats 1000000 in
theorem parse_bad (w : World) (hG : Glob w) (s SX : ByteArray) (K V : Int) (k0 : 0 ≤ K) (k1 : K ≤ 4) (v0 : 0 ≤ V) (v1 : V ≤ 65535)
    (hg : ∀ w, Glob w → Calls Tryd.prog 35 #[.string s] w fun e w' => e = .returned (.agg #[.int .u8 K, .int .u16 V]) ∧ Keeps [] w w')
    (ht : ∀ w, Glob w → Calls Tryd.prog 10 #[.agg #[.int .u8 K, .int .u16 V]] w fun e w' => e = .returned (.tuple #[.string SX, .int .i64 4]) ∧ Keeps [] w w') :
    Calls Tryd.prog 14 #[.string s] w fun e w' => e = .returned (.tuple #[.agg #[.int .u8 0, .int .u16 0], .int .i64 4]) ∧ Keeps [] w w' := by
  go_enter Tryd.func14, Tryd.ntmps14
  go_wp2_with fail
  refine (hg _ (hG.new ((Keeps.refl _ _).alloc _))).mono ?_; rintro e w1 ⟨rfl, hk1⟩
  have hb := boxed2 hk1
  replace hk1 := ((Keeps.refl [] w).alloc _).trans hk1 (FSub.refl _ _)
  have hlt := lt_of_block hb
  have hk1' := hk1.alloc (.cells #[.int .u8 K, .int .u16 V] 24)
  go_wp2_with fail
  refine (ht _ (hG.new hk1')).mono ?_; rintro e w2 ⟨rfl, hk2⟩
  have hb2 := hk2.heap (heap_alloc_lt hb) (by simp)
  have hd2 := boxed2 hk2
  replace hk2 := hk1'.trans hk2 (FSub.refl _ _)
  obtain ⟨c0, c1, hlt2⟩ := cell2 hb2
  obtain ⟨d0, d1, hlt3⟩ := cell2 hd2
  have f0 : w2.frozen? ⟨w.heap.size, 0, none⟩ = false := by simp [World.frozen?, hb2]
  have f1 : w2.frozen? ⟨w.heap.size, 1, none⟩ = false := by simp [World.frozen?, hb2]
  have hr := put2 hb2 (.int .u8 0) (.int .u16 0)
  clear hb hk1 hk1' hb2 hd2
  go_wp2_with fail
  try simp only [Exit.inBlock, Exit.then]
  exact bodyPost_ret (results_row2 rfl _ _ _ rfl hr) rfl ⟨rfl, ((hk2.setCell _ _ (.inr (Nat.le_refl _))).setCell _ _ (.inr (Nat.le_refl _)))⟩
theorem Parse_any (w : World) (hG : Glob w) (s : ByteArray) (hs : s.size ≤ 300) :
    Calls Tryd.prog 14 #[.string s] w fun e w' => e = .returned (.tuple #[.agg #[.int .u8 (psK s.data.toList), .int .u16 (psV s.data.toList)], .int .i64 (psE s.data.toList)]) ∧ Keeps [] w w' := by
  have hg := fun w hG => guess_any w hG s hs
  have k0 := gsK_bounds s.data.toList
  have v0 := gsV_bounds s.data.toList
  obtain ⟨k0, k1⟩ := k0
  obtain ⟨v0, v1⟩ := v0
  have ht := fun w hG => Text_any w hG (gsK s.data.toList) (gsV s.data.toList) k0 (by omega) v0 (by omega)
  by_cases hgood : rsGood (gsK s.data.toList) (gsV s.data.toList) = true
  · rw [if_pos hgood, rsErr_good hgood] at ht
    by_cases hx : rsTxt (gsK s.data.toList) (gsV s.data.toList) = s.data.toList
    · have ok : psOk s.data.toList = true := by simp [psOk, hgood, hx]
      have e1 : psK s.data.toList = gsK s.data.toList := by simp [psK, ok]
      have e2 : psV s.data.toList = gsV s.data.toList := by simp [psV, ok]
      have e3 : psE s.data.toList = 0 := by simp [psE, ok]
      rw [e1, e2, e3]
      exact parse_yes w hG s _ _ _ k0 k1 v0 v1 hg ht (by rw [toL_bs, toL_of, hx]; simp) (by rw [toL_bs, toL_of, hx]; simp)
    · have ok : psOk s.data.toList = false := by simp [psOk, hx]
      have e1 : psK s.data.toList = 0 := by simp [psK, ok]
      have e2 : psV s.data.toList = 0 := by simp [psV, ok]
      have e3 : psE s.data.toList = 4 := by simp [psE, ok]
      rw [e1, e2, e3]
      exact parse_other w hG s _ _ _ k0 k1 v0 v1 hg ht (by rw [toL_bs, toL_of]; exact beq_eq_false_iff_ne.2 hx) (by rw [toL_bs, toL_of]; simp [hx])
  · have hb : rsGood (gsK s.data.toList) (gsV s.data.toList) = false := by simpa using hgood
    rw [rsErr_bad hb] at ht
    have ok : psOk s.data.toList = false := by simp [psOk, hb]
    have e1 : psK s.data.toList = 0 := by simp [psK, ok]
    have e2 : psV s.data.toList = 0 := by simp [psV, ok]
    have e3 : psE s.data.toList = 4 := by simp [psE, ok]
    rw [e1, e2, e3]
    exact parse_bad w hG s _ _ _ k0 k1 v0 v1 hg ht
end Go.Proofs.YtgdbhblapdhlmaaDoor
