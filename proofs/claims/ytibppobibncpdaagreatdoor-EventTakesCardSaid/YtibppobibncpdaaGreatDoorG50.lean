/-
  The document's Take; EventTakes, whatever the text. (Printed by draft/gentakes5.py.)
-/
import Derived.ProofKit
import Derived.Test.YtibppobibncpdaaGreatDoorG49
import Derived.Test.YtibppobibncpdaaGreatDoorG33
set_option linter.unusedSimpArgs false
set_option linter.unusedVariables false
namespace Go.Proofs.YtibppobibncpdaaGreatDoor
open Go.RowKit
set_option maxHeartbeats 8000000 in
set_option maxRecDepth 100000 in
theorem RTake5_nil (w : World) : Calls Tryz.prog 14 #[.string (bs [])] w (TkPost [] w) := by
  have hR := heap_alloc_new w (.cells (evC evZero (.slice none 0 0) (.slice none 0 0)) 32)
  have hk0 := (Keeps.refl [] w).alloc (.cells (evC evZero (.slice none 0 0) (.slice none 0 0)) 32)
  have hsz : (bs []).size = 0 := rfl
  have hE : evTkE [] = 5 := rfl
  have HE := Lib.hid hE
  clear hE
  generalize bs [] = S at *
  go_enter Tryz.func14, Tryz.ntmps14
  go_wp2_with ((with_reducible apply wpList_put_ev); exact rfl; exact rfl; (first | assumption | (refine heap_alloc_lt ?_; assumption) | (refine heap_alloc_lt (heap_alloc_lt ?_); assumption) | exact heap_alloc_at (by simp)); exact ⟨rfl, rfl⟩; exact rfl)
  intro W9 hb9 hk9
  have HK9 := Lib.hid (hk0.trans hk9 (fun g hg => .inr (by simp at hg; omega)))
  clear hk9 hk0 hR
  go_wp2_with fail
  try simp only [Exit.inBlock, Exit.then]
  exact bodyPost_ret (results_ev2 (x := evZero) rfl _ _ _ rfl hb9) rfl (tk_bad HE.out (by decide) HK9.out rfl)
theorem RTake5_any (w : World) (L : List UInt8) (hL : L.length ≤ 2500) : Calls Tryz.prog 14 #[.string (bs L)] w (TkPost L w) := by
  cases L with
  | nil => exact RTake5_nil w
  | cons c l =>
    by_cases h1 : (c.toNat : Int) = 1
    · exact RTake5_one w c l hL h1
    · by_cases h2 : 2 ≤ (c.toNat : Int) ∧ (c.toNat : Int) ≤ 7
      · exact RTake5_more w c l hL h2.1 h2.2
      · exact RTake5_kindless w c l hL (by omega)
set_option maxHeartbeats 8000000 in
set_option maxRecDepth 100000 in
theorem EventTakes_any (w : World) (hG : Glob4 w) (L : List UInt8) (hL : (L.length : Int) ≤ 9223372036854775807) :
    Calls Tryz.prog 4 #[.string (bs L)] w fun e w' => e = .returned (.bool true) ∧ Keeps [] w w' := by
  have hsz : (bs L).size = L.length := bs_size L
  by_cases hl : L.length ≤ 2000
  · have hT := fun w hG => Take5_any w hG L (by omega)
    have hU := fun w => RTake5_any w L (by omega)
    unfold TkPost at hT hU
    generalize evTkX L = X at *
    generalize evTkE L = E at *
    have HT := Lib.hid hT; have HU := Lib.hid hU; have HG := Lib.hid hG
    have z1 : ¬ 2000 < ((bs L).size : Int) := by omega
    clear hT hU hG
    generalize bs L = S at *
    go_enter Tryz.func4, Tryz.ntmps4
    go_wp2_with fail
    refine (HT.out _ HG.out).mono ?_; rintro z w1 ⟨tx, rd, rfl, hx1, hk1⟩
    have h1 := hx1.t.one; have h2 := hx1.r.one
    have HX1 := Lib.hid hx1; have HK1 := Lib.hid hk1
    have HKA := Lib.hid ((Keeps.refl [] w1).alloc (.cells #[.int .u8 0, .int .u8 0, .int .u16 0, .int .u8 0, .int .u8 0, .int .u8 0, .int .u16 0, .int .u16 0, .int .u8 0, .int .u16 0, .slice none 0 0, .slice none 0 0, .int .u8 0, .int .i64 0, .int .i64 0, .int .i64 0, .bool false, .bool false, .bool false] 32))
    clear hx1 hk1 HT
    go_wp2_with ((with_reducible apply wpList_put_ev); exact rfl; exact rfl; (first | assumption | (refine heap_alloc_lt ?_; assumption) | (refine heap_alloc_lt (heap_alloc_lt ?_); assumption) | exact heap_alloc_at (by simp)); exact ⟨rfl, rfl⟩; (refine evC_one _ ?_ ?_ <;> first | rfl | assumption))
    intro W2 hb2 hk2
    have hq2 : Keeps [] w1 W2 := HKA.out.trans hk2 (fun q hq => .inr (by simp at hq; omega))
    have HK2 := Lib.hid (HK1.out.trans hq2 (FSub.refl _ _))
    have HX2 := Lib.hid (HX1.out.new hq2 (Nat.le_refl _))
    have hz2 : w1.heap.size ≤ W2.heap.size := hq2.size
    clear hk2 hq2 HK1 HX1 HKA
    generalize w1.heap.size = b at *
    go_wp2_with fail
    refine (HU.out _).mono ?_; rintro z w3 ⟨ty, ry, rfl, hy3, hk3⟩
    have h3 := hy3.t.one; have h4 := hy3.r.one
    have hb3 := hk3.heap hb2 (by simp)
    have HX3 := Lib.hid (HX2.out.new hk3 hz2)
    have HY3 := Lib.hid hy3
    have HK3 := Lib.hid (HK2.out.trans hk3 (FSub.refl _ _))
    have hz3 := Nat.le_trans hz2 hk3.size
    have hbz := lt_of_block hb3
    have HKB := Lib.hid ((Keeps.refl [] w3).alloc (.cells #[.int .u8 0, .int .u8 0, .int .u16 0, .int .u8 0, .int .u8 0, .int .u8 0, .int .u16 0, .int .u16 0, .int .u8 0, .int .u16 0, .slice none 0 0, .slice none 0 0, .int .u8 0, .int .i64 0, .int .i64 0, .int .i64 0, .bool false, .bool false, .bool false] 32))
    have hb3a := heap_alloc_lt (o := .cells #[.int .u8 0, .int .u8 0, .int .u16 0, .int .u8 0, .int .u8 0, .int .u8 0, .int .u16 0, .int .u16 0, .int .u8 0, .int .u16 0, .slice none 0 0, .slice none 0 0, .int .u8 0, .int .i64 0, .int .i64 0, .int .i64 0, .bool false, .bool false, .bool false] 32) hb3
    clear hy3 hk3 HU HK2 HX2 hb2 hz2
    go_wp2_with ((with_reducible apply wpList_put_ev); exact rfl; exact rfl; (first | assumption | (refine heap_alloc_lt ?_; assumption) | (refine heap_alloc_lt (heap_alloc_lt ?_); assumption) | exact heap_alloc_at (by simp)); exact ⟨rfl, rfl⟩; (refine evC_one _ ?_ ?_ <;> first | rfl | assumption))
    intro W4 hb4 hk4
    have hq4 : Keeps [] w3 W4 := HKB.out.trans hk4 (fun q hq => .inr (by simp at hq; omega))
    have hbx := hq4.heap hb3 (by simp)
    have HK4 := Lib.hid (HK3.out.trans hq4 (FSub.refl _ _))
    have HX4 := Lib.hid (HX3.out.new hq4 hz3)
    have HY4 := Lib.hid (HY3.out.new hq4 (Nat.le_refl _))
    have hz4 : w3.heap.size ≤ W4.heap.size := hq4.size
    have hz5 := Nat.le_trans hz3 hz4
    have HS := Lib.hid (refSame5_any W4 X X tx rd ty ry HX4.out HY4.out hz5 hz4)
    have HG4 := Lib.hid (HG.out.new HK4.out)
    clear hk4 hq4 HK3 HX3 HY3 HKB hb3 hb3a
    have t1 : (E == E) = true := by simp
    go_wp2_with ((with_reducible apply wpList_load_ev); exact rfl; (first | assumption | (refine heap_alloc_lt ?_; assumption) | (refine heap_alloc_lt (heap_alloc_lt ?_); assumption) | exact heap_alloc_at (by simp)); exact rfl)
    refine HS.out.mono ?_; rintro z w5 ⟨rfl, hk5⟩
    rw [evSame_self]
    have HK5 := Lib.hid (HK4.out.trans hk5 (FSub.refl _ _))
    have HG5 := Lib.hid (HG4.out.new hk5)
    clear hk5 HS HK4
    go_wp2_with fail
    refine (awake5_any w5 (HG5.out)).mono ?_; rintro z wa ⟨rfl, hka⟩
    have HKZ := Lib.hid (HK5.out.trans hka (FSub.refl _ _))
    clear hka
    go_wp2_with fail
    go_ret
    exact ⟨rfl, HKZ.out⟩
  · have z1 : 2000 < ((bs L).size : Int) := by omega
    have HG := Lib.hid hG
    clear hG
    generalize bs L = S at *
    go_enter Tryz.func4, Tryz.ntmps4
    go_wp2_with fail
    refine (awake5_any w HG.out).mono ?_; rintro z wa ⟨rfl, hka⟩
    have HKZ := Lib.hid hka
    clear hka
    go_wp2_with fail
    go_ret
    exact ⟨rfl, HKZ.out⟩
theorem eventTakes_true (w : World) (hG : Glob4 w) (s : ByteArray) (hs : s.size ≤ maxLen) :
    Calls Tryz.prog 4 #[.string s] w fun e w' => e = .returned (.bool true) ∧ Keeps [] w w' := by
  unfold maxLen at hs
  have h := EventTakes_any w hG s.data.toList (by simp; omega)
  rw [bs_of] at h
  exact h
end Go.Proofs.YtibppobibncpdaaGreatDoor
