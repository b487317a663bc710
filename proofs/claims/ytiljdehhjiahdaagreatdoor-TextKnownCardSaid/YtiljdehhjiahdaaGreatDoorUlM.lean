/-
  TextKnown's walk. (Printed by draft/genknown6.py.)
-/
import Derived.Test.YtiljdehhjiahdaaGreatDoorG50
set_option linter.unusedSimpArgs false
set_option linter.unusedVariables false
namespace Go.Proofs.YtiljdehhjiahdaaGreatDoor
open Go.RowKit
theorem read_lit (w : World) (hG : Glob6 w) (s : List UInt8) (R : List Ev × Int × Int) (h : rdS [] 0 (lnsOf s) = R) (h1 : s.length ≤ 100000000) (h2 : ∀ x ∈ lnsOf s, x.length ≤ 1000000) :
    Calls Tryz.prog 15 #[.string (bs s)] w fun e W => ∃ a c, e = .returned (.tuple #[.slice a R.1.length c, .int .i64 R.2.1, .int .i64 R.2.2]) ∧ Keeps [] w W := by
  refine (txRead_any w hG s h1 h2).mono ?_
  rintro e W ⟨v, he, hv, hk⟩
  rw [h] at he hv
  obtain ⟨a, c, rfl, _⟩ := hv
  exact ⟨a, c, he, hk⟩
theorem write_lit (w : World) (hG : Glob6 w) (l : List Ev) (S : List UInt8) (E : Int) (T : ByteArray) (hT : bs S = T) (h : wrX l = S ∧ wrE l = E) (hl : ∀ x ∈ l, x.In) (hn : l.length ≤ 1000) (v : Value) {N : Nat} (hv : Evs N w v l) (hN : N ≤ w.heap.size) :
    Calls Tryz.prog 14 #[v] w fun e W => e = .returned (.tuple #[.string T, .int .i64 E]) ∧ Keeps [] w W := by
  refine (txWrite_any w hG l hl hn v hv hN).mono ?_
  rintro e W ⟨he, hk⟩
  rw [h.1, h.2, hT] at he
  exact ⟨he, hk⟩
theorem badC_cell (w : World) (B : Nat) (h : w.heap[B]? = some (.cells #[.string ⟨#[105, 110, 102, 111, 32, 49, 54, 32, 49]⟩, .string ⟨#[105, 110, 102, 111, 32, 51]⟩, .string ⟨#[73, 110, 102, 111, 32, 51, 32, 49]⟩, .string ⟨#[105, 110, 102, 111, 32, 51, 32, 49, 32]⟩, .string ⟨#[105, 110, 102, 111, 32, 32, 51, 32, 49]⟩, .string ⟨#[99, 111, 110, 102, 105, 103, 32, 109, 97, 112, 32, 48, 32, 49, 32, 49]⟩, .string ⟨#[99, 111, 110, 102, 105, 103, 32, 109, 97, 112, 32, 56, 32, 49, 32, 49, 32, 109, 101, 109, 111, 32, 99, 117, 116]⟩, .string ⟨#[99, 111, 110, 102, 105, 103, 32, 116, 114, 101, 101, 32, 56, 32, 49, 32, 49]⟩, .string ⟨#[99, 111, 110, 102, 105, 103, 32, 109, 97, 112, 32, 56, 32, 49]⟩, .string ⟨#[99, 111, 110, 102, 105, 103, 32, 109, 97, 112, 32, 56, 32, 49, 32, 49, 32, 109, 101, 109, 111, 32, 109, 101, 109, 111]⟩, .string ⟨#[99, 111, 109, 109, 105, 116, 32, 49, 32, 57, 32, 52, 44]⟩, .string ⟨#[99, 111, 109, 109, 105, 116, 32, 49, 32, 57, 32, 44, 52]⟩, .string ⟨#[99, 111, 109, 109, 105, 116, 32, 49, 32, 57, 32, 48, 52]⟩, .string ⟨#[98, 101, 103, 105, 110, 32, 49, 32, 57]⟩, .string ⟨#[98, 101, 103, 105, 110, 32, 49, 32, 57, 32, 114, 101, 97, 100]⟩, .string ⟨#[98, 101, 103, 105, 110, 32, 49, 32, 57, 32, 114, 101, 97, 100, 32, 56]⟩, .string ⟨#[98, 101, 103, 105, 110, 32, 49, 32, 57, 32, 97, 112, 112, 101, 110, 100, 32, 49]⟩, .string ⟨#[98, 101, 103, 105, 110, 32, 49, 32, 57, 32, 119, 114, 105, 116, 101, 32, 49, 32, 50]⟩, .string ⟨#[114, 101, 116, 117, 114, 110, 32, 49, 32, 57]⟩, .string ⟨#[114, 101, 116, 117, 114, 110, 32, 49, 32, 57, 32, 118, 97, 108, 117, 101]⟩, .string ⟨#[114, 101, 116, 117, 114, 110, 32, 49, 32, 57, 32, 89, 101, 115]⟩, .string ⟨#[105, 110, 118, 111, 107, 101, 32, 49, 32, 57, 32, 114, 101, 97, 100]⟩, .string ⟨#[105, 110, 118, 111, 107, 101, 32, 49, 32, 57, 32, 48, 32, 114, 101, 97, 100, 115]⟩, .string ⟨#[97, 98, 111, 114, 116, 32, 48, 32, 54, 53, 53, 51, 54]⟩, .string ⟨#[97, 98, 111, 114, 116, 32, 48, 32, 45, 49]⟩, .string ⟨#[105, 110, 102, 111, 32, 43, 51, 32, 49]⟩, .string ⟨#[120, 32, 49, 32, 50]⟩, .string ⟨#[99, 111, 110, 102, 105, 103]⟩] 9 (0, 0))) (k : Nat) (hk : k < 28) : w.cell? ⟨B, k, none⟩ = some (.string (bs (badL.getD k []))) := by
  have e : (#[.string ⟨#[105, 110, 102, 111, 32, 49, 54, 32, 49]⟩, .string ⟨#[105, 110, 102, 111, 32, 51]⟩, .string ⟨#[73, 110, 102, 111, 32, 51, 32, 49]⟩, .string ⟨#[105, 110, 102, 111, 32, 51, 32, 49, 32]⟩, .string ⟨#[105, 110, 102, 111, 32, 32, 51, 32, 49]⟩, .string ⟨#[99, 111, 110, 102, 105, 103, 32, 109, 97, 112, 32, 48, 32, 49, 32, 49]⟩, .string ⟨#[99, 111, 110, 102, 105, 103, 32, 109, 97, 112, 32, 56, 32, 49, 32, 49, 32, 109, 101, 109, 111, 32, 99, 117, 116]⟩, .string ⟨#[99, 111, 110, 102, 105, 103, 32, 116, 114, 101, 101, 32, 56, 32, 49, 32, 49]⟩, .string ⟨#[99, 111, 110, 102, 105, 103, 32, 109, 97, 112, 32, 56, 32, 49]⟩, .string ⟨#[99, 111, 110, 102, 105, 103, 32, 109, 97, 112, 32, 56, 32, 49, 32, 49, 32, 109, 101, 109, 111, 32, 109, 101, 109, 111]⟩, .string ⟨#[99, 111, 109, 109, 105, 116, 32, 49, 32, 57, 32, 52, 44]⟩, .string ⟨#[99, 111, 109, 109, 105, 116, 32, 49, 32, 57, 32, 44, 52]⟩, .string ⟨#[99, 111, 109, 109, 105, 116, 32, 49, 32, 57, 32, 48, 52]⟩, .string ⟨#[98, 101, 103, 105, 110, 32, 49, 32, 57]⟩, .string ⟨#[98, 101, 103, 105, 110, 32, 49, 32, 57, 32, 114, 101, 97, 100]⟩, .string ⟨#[98, 101, 103, 105, 110, 32, 49, 32, 57, 32, 114, 101, 97, 100, 32, 56]⟩, .string ⟨#[98, 101, 103, 105, 110, 32, 49, 32, 57, 32, 97, 112, 112, 101, 110, 100, 32, 49]⟩, .string ⟨#[98, 101, 103, 105, 110, 32, 49, 32, 57, 32, 119, 114, 105, 116, 101, 32, 49, 32, 50]⟩, .string ⟨#[114, 101, 116, 117, 114, 110, 32, 49, 32, 57]⟩, .string ⟨#[114, 101, 116, 117, 114, 110, 32, 49, 32, 57, 32, 118, 97, 108, 117, 101]⟩, .string ⟨#[114, 101, 116, 117, 114, 110, 32, 49, 32, 57, 32, 89, 101, 115]⟩, .string ⟨#[105, 110, 118, 111, 107, 101, 32, 49, 32, 57, 32, 114, 101, 97, 100]⟩, .string ⟨#[105, 110, 118, 111, 107, 101, 32, 49, 32, 57, 32, 48, 32, 114, 101, 97, 100, 115]⟩, .string ⟨#[97, 98, 111, 114, 116, 32, 48, 32, 54, 53, 53, 51, 54]⟩, .string ⟨#[97, 98, 111, 114, 116, 32, 48, 32, 45, 49]⟩, .string ⟨#[105, 110, 102, 111, 32, 43, 51, 32, 49]⟩, .string ⟨#[120, 32, 49, 32, 50]⟩, .string ⟨#[99, 111, 110, 102, 105, 103]⟩] : Array Value)[k]? = some (.string (bs (badL.getD k []))) := by
    rcases (by omega : k = 0 ∨ k = 1 ∨ k = 2 ∨ k = 3 ∨ k = 4 ∨ k = 5 ∨ k = 6 ∨ k = 7 ∨ k = 8 ∨ k = 9 ∨ k = 10 ∨ k = 11 ∨ k = 12 ∨ k = 13 ∨ k = 14 ∨ k = 15 ∨ k = 16 ∨ k = 17 ∨ k = 18 ∨ k = 19 ∨ k = 20 ∨ k = 21 ∨ k = 22 ∨ k = 23 ∨ k = 24 ∨ k = 25 ∨ k = 26 ∨ k = 27) with rfl | rfl | rfl | rfl | rfl | rfl | rfl | rfl | rfl | rfl | rfl | rfl | rfl | rfl | rfl | rfl | rfl | rfl | rfl | rfl | rfl | rfl | rfl | rfl | rfl | rfl | rfl | rfl <;> rfl
  simp only [World.cell?, h]
  exact e
set_option maxHeartbeats 16000000 in
set_option maxRecDepth 100000 in
theorem TextKnown_any (w : World) (hG : Glob6 w) : Calls Tryz.prog 5 #[] w fun e w' => e = .returned (.bool true) ∧ Keeps [] w w' := by
  have HG0 := Lib.hid hG
  have HK0 := Lib.hid (Keeps.refl [] w)
  clear hG
  go_enter Tryz.func5, Tryz.ntmps5
  go_wp2_with fail
  refine (works6_any w HG0.out).mono ?_; rintro z w1 ⟨rfl, hk⟩
  have hk := hk
  have HG1 := Lib.hid (HG0.out.new hk)
  have HK1 := Lib.hid (HK0.out.trans hk (FSub.refl _ _))
  clear HG0 HK0 hk
  go_wp2_with fail
  refine (is6_any w1 HG1.out kc1 kc1_in _ _ (⟨Mics.nil 0 _, Lists.nil _ _⟩ : EvAt 0 w1 _ _ kc1) (Nat.zero_le _) kc1_good _ kc1_line).mono ?_; rintro z w2 ⟨rfl, hk⟩
  have hk := hk
  have HG2 := Lib.hid (HG1.out.new hk)
  have HK2 := Lib.hid (HK1.out.trans hk (FSub.refl _ _))
  clear HG1 HK1 hk
  go_wp2_with fail
  refine (is6_any w2 HG2.out kr1 kr1_in _ _ (⟨Mics.nil 0 _, Lists.nil _ _⟩ : EvAt 0 w2 _ _ kr1) (Nat.zero_le _) kr1_good _ kr1_line).mono ?_; rintro z w3 ⟨rfl, hk⟩
  have hk := hk
  have HG3 := Lib.hid (HG2.out.new hk)
  have HK3 := Lib.hid (HK2.out.trans hk (FSub.refl _ _))
  clear HG2 HK2 hk
  go_wp2_with fail
  refine (is6_any w3 HG3.out ki1 ki1_in _ _ (⟨Mics.nil 0 _, Lists.nil _ _⟩ : EvAt 0 w3 _ _ ki1) (Nat.zero_le _) ki1_good _ ki1_line).mono ?_; rintro z w4 ⟨rfl, hk⟩
  have hk := hk
  have HG4 := Lib.hid (HG3.out.new hk)
  have HK4 := Lib.hid (HK3.out.trans hk (FSub.refl _ _))
  clear HG3 HK3 hk
  go_wp2_with fail
  refine (is6_any w4 HG4.out ka1 ka1_in _ _ (⟨Mics.nil 0 _, Lists.nil _ _⟩ : EvAt 0 w4 _ _ ka1) (Nat.zero_le _) ka1_good _ ka1_line).mono ?_; rintro z w5 ⟨rfl, hk⟩
  have hk := hk
  have HG5 := Lib.hid (HG4.out.new hk)
  have HK5 := Lib.hid (HK4.out.trans hk (FSub.refl _ _))
  clear HG4 HK4 hk
  go_wp2_with fail
  refine (is6_any _ (HG5.out.new ((Keeps.refl [] w5).alloc _)) kb1 kb1_in _ (.slice none 0 0) (⟨kb_mics w5, Lists.nil _ _⟩ : EvAt _ _ _ _ kb1) (Nat.le_refl _) kb1_good _ kb1_line).mono ?_; rintro z w6 ⟨rfl, hk⟩
  have hk := ((Keeps.refl [] w5).alloc _).trans hk (FSub.refl _ _)
  have HG6 := Lib.hid (HG5.out.new hk)
  have HK6 := Lib.hid (HK5.out.trans hk (FSub.refl _ _))
  clear HG5 HK5 hk
  go_wp2_with fail
  refine (is6_any w6 HG6.out km1 km1_in _ _ (⟨Mics.nil 0 _, Lists.nil _ _⟩ : EvAt 0 w6 _ _ km1) (Nat.zero_le _) km1_good _ km1_line).mono ?_; rintro z w7 ⟨rfl, hk⟩
  have hk := hk
  have HG7 := Lib.hid (HG6.out.new hk)
  have HK7 := Lib.hid (HK6.out.trans hk (FSub.refl _ _))
  clear HG6 HK6 hk
  go_wp2_with fail
  refine (is6_any w7 HG7.out kn1 kn1_in _ _ (⟨Mics.nil 0 _, Lists.nil _ _⟩ : EvAt 0 w7 _ _ kn1) (Nat.zero_le _) kn1_good _ kn1_line).mono ?_; rintro z w8 ⟨rfl, hk⟩
  have hk := hk
  have HG8 := Lib.hid (HG7.out.new hk)
  have HK8 := Lib.hid (HK7.out.trans hk (FSub.refl _ _))
  clear HG7 HK7 hk
  go_wp2_with fail
  refine (is6_any w8 HG8.out kc2 kc2_in _ _ (⟨Mics.nil 0 _, Lists.nil _ _⟩ : EvAt 0 w8 _ _ kc2) (Nat.zero_le _) kc2_good _ kc2_line).mono ?_; rintro z w9 ⟨rfl, hk⟩
  have hk := hk
  have HG9 := Lib.hid (HG8.out.new hk)
  have HK9 := Lib.hid (HK8.out.trans hk (FSub.refl _ _))
  clear HG8 HK8 hk
  go_wp2_with fail
  have hb := heap_alloc_new w9 (.cells #[.string ⟨#[105, 110, 102, 111, 32, 49, 54, 32, 49]⟩, .string ⟨#[105, 110, 102, 111, 32, 51]⟩, .string ⟨#[73, 110, 102, 111, 32, 51, 32, 49]⟩, .string ⟨#[105, 110, 102, 111, 32, 51, 32, 49, 32]⟩, .string ⟨#[105, 110, 102, 111, 32, 32, 51, 32, 49]⟩, .string ⟨#[99, 111, 110, 102, 105, 103, 32, 109, 97, 112, 32, 48, 32, 49, 32, 49]⟩, .string ⟨#[99, 111, 110, 102, 105, 103, 32, 109, 97, 112, 32, 56, 32, 49, 32, 49, 32, 109, 101, 109, 111, 32, 99, 117, 116]⟩, .string ⟨#[99, 111, 110, 102, 105, 103, 32, 116, 114, 101, 101, 32, 56, 32, 49, 32, 49]⟩, .string ⟨#[99, 111, 110, 102, 105, 103, 32, 109, 97, 112, 32, 56, 32, 49]⟩, .string ⟨#[99, 111, 110, 102, 105, 103, 32, 109, 97, 112, 32, 56, 32, 49, 32, 49, 32, 109, 101, 109, 111, 32, 109, 101, 109, 111]⟩, .string ⟨#[99, 111, 109, 109, 105, 116, 32, 49, 32, 57, 32, 52, 44]⟩, .string ⟨#[99, 111, 109, 109, 105, 116, 32, 49, 32, 57, 32, 44, 52]⟩, .string ⟨#[99, 111, 109, 109, 105, 116, 32, 49, 32, 57, 32, 48, 52]⟩, .string ⟨#[98, 101, 103, 105, 110, 32, 49, 32, 57]⟩, .string ⟨#[98, 101, 103, 105, 110, 32, 49, 32, 57, 32, 114, 101, 97, 100]⟩, .string ⟨#[98, 101, 103, 105, 110, 32, 49, 32, 57, 32, 114, 101, 97, 100, 32, 56]⟩, .string ⟨#[98, 101, 103, 105, 110, 32, 49, 32, 57, 32, 97, 112, 112, 101, 110, 100, 32, 49]⟩, .string ⟨#[98, 101, 103, 105, 110, 32, 49, 32, 57, 32, 119, 114, 105, 116, 101, 32, 49, 32, 50]⟩, .string ⟨#[114, 101, 116, 117, 114, 110, 32, 49, 32, 57]⟩, .string ⟨#[114, 101, 116, 117, 114, 110, 32, 49, 32, 57, 32, 118, 97, 108, 117, 101]⟩, .string ⟨#[114, 101, 116, 117, 114, 110, 32, 49, 32, 57, 32, 89, 101, 115]⟩, .string ⟨#[105, 110, 118, 111, 107, 101, 32, 49, 32, 57, 32, 114, 101, 97, 100]⟩, .string ⟨#[105, 110, 118, 111, 107, 101, 32, 49, 32, 57, 32, 48, 32, 114, 101, 97, 100, 115]⟩, .string ⟨#[97, 98, 111, 114, 116, 32, 48, 32, 54, 53, 53, 51, 54]⟩, .string ⟨#[97, 98, 111, 114, 116, 32, 48, 32, 45, 49]⟩, .string ⟨#[105, 110, 102, 111, 32, 43, 51, 32, 49]⟩, .string ⟨#[120, 32, 49, 32, 50]⟩, .string ⟨#[99, 111, 110, 102, 105, 103]⟩] 9)
  have hbc := fun (k : Nat) (hk : k < 28) (W : World) (h : W.heap[w9.heap.size]? = some (.cells #[.string ⟨#[105, 110, 102, 111, 32, 49, 54, 32, 49]⟩, .string ⟨#[105, 110, 102, 111, 32, 51]⟩, .string ⟨#[73, 110, 102, 111, 32, 51, 32, 49]⟩, .string ⟨#[105, 110, 102, 111, 32, 51, 32, 49, 32]⟩, .string ⟨#[105, 110, 102, 111, 32, 32, 51, 32, 49]⟩, .string ⟨#[99, 111, 110, 102, 105, 103, 32, 109, 97, 112, 32, 48, 32, 49, 32, 49]⟩, .string ⟨#[99, 111, 110, 102, 105, 103, 32, 109, 97, 112, 32, 56, 32, 49, 32, 49, 32, 109, 101, 109, 111, 32, 99, 117, 116]⟩, .string ⟨#[99, 111, 110, 102, 105, 103, 32, 116, 114, 101, 101, 32, 56, 32, 49, 32, 49]⟩, .string ⟨#[99, 111, 110, 102, 105, 103, 32, 109, 97, 112, 32, 56, 32, 49]⟩, .string ⟨#[99, 111, 110, 102, 105, 103, 32, 109, 97, 112, 32, 56, 32, 49, 32, 49, 32, 109, 101, 109, 111, 32, 109, 101, 109, 111]⟩, .string ⟨#[99, 111, 109, 109, 105, 116, 32, 49, 32, 57, 32, 52, 44]⟩, .string ⟨#[99, 111, 109, 109, 105, 116, 32, 49, 32, 57, 32, 44, 52]⟩, .string ⟨#[99, 111, 109, 109, 105, 116, 32, 49, 32, 57, 32, 48, 52]⟩, .string ⟨#[98, 101, 103, 105, 110, 32, 49, 32, 57]⟩, .string ⟨#[98, 101, 103, 105, 110, 32, 49, 32, 57, 32, 114, 101, 97, 100]⟩, .string ⟨#[98, 101, 103, 105, 110, 32, 49, 32, 57, 32, 114, 101, 97, 100, 32, 56]⟩, .string ⟨#[98, 101, 103, 105, 110, 32, 49, 32, 57, 32, 97, 112, 112, 101, 110, 100, 32, 49]⟩, .string ⟨#[98, 101, 103, 105, 110, 32, 49, 32, 57, 32, 119, 114, 105, 116, 101, 32, 49, 32, 50]⟩, .string ⟨#[114, 101, 116, 117, 114, 110, 32, 49, 32, 57]⟩, .string ⟨#[114, 101, 116, 117, 114, 110, 32, 49, 32, 57, 32, 118, 97, 108, 117, 101]⟩, .string ⟨#[114, 101, 116, 117, 114, 110, 32, 49, 32, 57, 32, 89, 101, 115]⟩, .string ⟨#[105, 110, 118, 111, 107, 101, 32, 49, 32, 57, 32, 114, 101, 97, 100]⟩, .string ⟨#[105, 110, 118, 111, 107, 101, 32, 49, 32, 57, 32, 48, 32, 114, 101, 97, 100, 115]⟩, .string ⟨#[97, 98, 111, 114, 116, 32, 48, 32, 54, 53, 53, 51, 54]⟩, .string ⟨#[97, 98, 111, 114, 116, 32, 48, 32, 45, 49]⟩, .string ⟨#[105, 110, 102, 111, 32, 43, 51, 32, 49]⟩, .string ⟨#[120, 32, 49, 32, 50]⟩, .string ⟨#[99, 111, 110, 102, 105, 103]⟩] 9 (0, 0))) => badC_cell W w9.heap.size h k hk
  have hk := (Keeps.refl [] w9).alloc (.cells #[.string ⟨#[105, 110, 102, 111, 32, 49, 54, 32, 49]⟩, .string ⟨#[105, 110, 102, 111, 32, 51]⟩, .string ⟨#[73, 110, 102, 111, 32, 51, 32, 49]⟩, .string ⟨#[105, 110, 102, 111, 32, 51, 32, 49, 32]⟩, .string ⟨#[105, 110, 102, 111, 32, 32, 51, 32, 49]⟩, .string ⟨#[99, 111, 110, 102, 105, 103, 32, 109, 97, 112, 32, 48, 32, 49, 32, 49]⟩, .string ⟨#[99, 111, 110, 102, 105, 103, 32, 109, 97, 112, 32, 56, 32, 49, 32, 49, 32, 109, 101, 109, 111, 32, 99, 117, 116]⟩, .string ⟨#[99, 111, 110, 102, 105, 103, 32, 116, 114, 101, 101, 32, 56, 32, 49, 32, 49]⟩, .string ⟨#[99, 111, 110, 102, 105, 103, 32, 109, 97, 112, 32, 56, 32, 49]⟩, .string ⟨#[99, 111, 110, 102, 105, 103, 32, 109, 97, 112, 32, 56, 32, 49, 32, 49, 32, 109, 101, 109, 111, 32, 109, 101, 109, 111]⟩, .string ⟨#[99, 111, 109, 109, 105, 116, 32, 49, 32, 57, 32, 52, 44]⟩, .string ⟨#[99, 111, 109, 109, 105, 116, 32, 49, 32, 57, 32, 44, 52]⟩, .string ⟨#[99, 111, 109, 109, 105, 116, 32, 49, 32, 57, 32, 48, 52]⟩, .string ⟨#[98, 101, 103, 105, 110, 32, 49, 32, 57]⟩, .string ⟨#[98, 101, 103, 105, 110, 32, 49, 32, 57, 32, 114, 101, 97, 100]⟩, .string ⟨#[98, 101, 103, 105, 110, 32, 49, 32, 57, 32, 114, 101, 97, 100, 32, 56]⟩, .string ⟨#[98, 101, 103, 105, 110, 32, 49, 32, 57, 32, 97, 112, 112, 101, 110, 100, 32, 49]⟩, .string ⟨#[98, 101, 103, 105, 110, 32, 49, 32, 57, 32, 119, 114, 105, 116, 101, 32, 49, 32, 50]⟩, .string ⟨#[114, 101, 116, 117, 114, 110, 32, 49, 32, 57]⟩, .string ⟨#[114, 101, 116, 117, 114, 110, 32, 49, 32, 57, 32, 118, 97, 108, 117, 101]⟩, .string ⟨#[114, 101, 116, 117, 114, 110, 32, 49, 32, 57, 32, 89, 101, 115]⟩, .string ⟨#[105, 110, 118, 111, 107, 101, 32, 49, 32, 57, 32, 114, 101, 97, 100]⟩, .string ⟨#[105, 110, 118, 111, 107, 101, 32, 49, 32, 57, 32, 48, 32, 114, 101, 97, 100, 115]⟩, .string ⟨#[97, 98, 111, 114, 116, 32, 48, 32, 54, 53, 53, 51, 54]⟩, .string ⟨#[97, 98, 111, 114, 116, 32, 48, 32, 45, 49]⟩, .string ⟨#[105, 110, 102, 111, 32, 43, 51, 32, 49]⟩, .string ⟨#[120, 32, 49, 32, 50]⟩, .string ⟨#[99, 111, 110, 102, 105, 103]⟩] 9)
  have HG := Lib.hid (HG9.out.new hk)
  have HK := Lib.hid (HK9.out.trans hk (FSub.refl _ _))
  clear HG9 HK9 hk
  generalize w9.alloc (.cells #[.string ⟨#[105, 110, 102, 111, 32, 49, 54, 32, 49]⟩, .string ⟨#[105, 110, 102, 111, 32, 51]⟩, .string ⟨#[73, 110, 102, 111, 32, 51, 32, 49]⟩, .string ⟨#[105, 110, 102, 111, 32, 51, 32, 49, 32]⟩, .string ⟨#[105, 110, 102, 111, 32, 32, 51, 32, 49]⟩, .string ⟨#[99, 111, 110, 102, 105, 103, 32, 109, 97, 112, 32, 48, 32, 49, 32, 49]⟩, .string ⟨#[99, 111, 110, 102, 105, 103, 32, 109, 97, 112, 32, 56, 32, 49, 32, 49, 32, 109, 101, 109, 111, 32, 99, 117, 116]⟩, .string ⟨#[99, 111, 110, 102, 105, 103, 32, 116, 114, 101, 101, 32, 56, 32, 49, 32, 49]⟩, .string ⟨#[99, 111, 110, 102, 105, 103, 32, 109, 97, 112, 32, 56, 32, 49]⟩, .string ⟨#[99, 111, 110, 102, 105, 103, 32, 109, 97, 112, 32, 56, 32, 49, 32, 49, 32, 109, 101, 109, 111, 32, 109, 101, 109, 111]⟩, .string ⟨#[99, 111, 109, 109, 105, 116, 32, 49, 32, 57, 32, 52, 44]⟩, .string ⟨#[99, 111, 109, 109, 105, 116, 32, 49, 32, 57, 32, 44, 52]⟩, .string ⟨#[99, 111, 109, 109, 105, 116, 32, 49, 32, 57, 32, 48, 52]⟩, .string ⟨#[98, 101, 103, 105, 110, 32, 49, 32, 57]⟩, .string ⟨#[98, 101, 103, 105, 110, 32, 49, 32, 57, 32, 114, 101, 97, 100]⟩, .string ⟨#[98, 101, 103, 105, 110, 32, 49, 32, 57, 32, 114, 101, 97, 100, 32, 56]⟩, .string ⟨#[98, 101, 103, 105, 110, 32, 49, 32, 57, 32, 97, 112, 112, 101, 110, 100, 32, 49]⟩, .string ⟨#[98, 101, 103, 105, 110, 32, 49, 32, 57, 32, 119, 114, 105, 116, 101, 32, 49, 32, 50]⟩, .string ⟨#[114, 101, 116, 117, 114, 110, 32, 49, 32, 57]⟩, .string ⟨#[114, 101, 116, 117, 114, 110, 32, 49, 32, 57, 32, 118, 97, 108, 117, 101]⟩, .string ⟨#[114, 101, 116, 117, 114, 110, 32, 49, 32, 57, 32, 89, 101, 115]⟩, .string ⟨#[105, 110, 118, 111, 107, 101, 32, 49, 32, 57, 32, 114, 101, 97, 100]⟩, .string ⟨#[105, 110, 118, 111, 107, 101, 32, 49, 32, 57, 32, 48, 32, 114, 101, 97, 100, 115]⟩, .string ⟨#[97, 98, 111, 114, 116, 32, 48, 32, 54, 53, 53, 51, 54]⟩, .string ⟨#[97, 98, 111, 114, 116, 32, 48, 32, 45, 49]⟩, .string ⟨#[105, 110, 102, 111, 32, 43, 51, 32, 49]⟩, .string ⟨#[120, 32, 49, 32, 50]⟩, .string ⟨#[99, 111, 110, 102, 105, 103]⟩] 9) = WB at *
  generalize w9.heap.size = B at *
  generalize (#[.string ⟨#[105, 110, 102, 111, 32, 49, 54, 32, 49]⟩, .string ⟨#[105, 110, 102, 111, 32, 51]⟩, .string ⟨#[73, 110, 102, 111, 32, 51, 32, 49]⟩, .string ⟨#[105, 110, 102, 111, 32, 51, 32, 49, 32]⟩, .string ⟨#[105, 110, 102, 111, 32, 32, 51, 32, 49]⟩, .string ⟨#[99, 111, 110, 102, 105, 103, 32, 109, 97, 112, 32, 48, 32, 49, 32, 49]⟩, .string ⟨#[99, 111, 110, 102, 105, 103, 32, 109, 97, 112, 32, 56, 32, 49, 32, 49, 32, 109, 101, 109, 111, 32, 99, 117, 116]⟩, .string ⟨#[99, 111, 110, 102, 105, 103, 32, 116, 114, 101, 101, 32, 56, 32, 49, 32, 49]⟩, .string ⟨#[99, 111, 110, 102, 105, 103, 32, 109, 97, 112, 32, 56, 32, 49]⟩, .string ⟨#[99, 111, 110, 102, 105, 103, 32, 109, 97, 112, 32, 56, 32, 49, 32, 49, 32, 109, 101, 109, 111, 32, 109, 101, 109, 111]⟩, .string ⟨#[99, 111, 109, 109, 105, 116, 32, 49, 32, 57, 32, 52, 44]⟩, .string ⟨#[99, 111, 109, 109, 105, 116, 32, 49, 32, 57, 32, 44, 52]⟩, .string ⟨#[99, 111, 109, 109, 105, 116, 32, 49, 32, 57, 32, 48, 52]⟩, .string ⟨#[98, 101, 103, 105, 110, 32, 49, 32, 57]⟩, .string ⟨#[98, 101, 103, 105, 110, 32, 49, 32, 57, 32, 114, 101, 97, 100]⟩, .string ⟨#[98, 101, 103, 105, 110, 32, 49, 32, 57, 32, 114, 101, 97, 100, 32, 56]⟩, .string ⟨#[98, 101, 103, 105, 110, 32, 49, 32, 57, 32, 97, 112, 112, 101, 110, 100, 32, 49]⟩, .string ⟨#[98, 101, 103, 105, 110, 32, 49, 32, 57, 32, 119, 114, 105, 116, 101, 32, 49, 32, 50]⟩, .string ⟨#[114, 101, 116, 117, 114, 110, 32, 49, 32, 57]⟩, .string ⟨#[114, 101, 116, 117, 114, 110, 32, 49, 32, 57, 32, 118, 97, 108, 117, 101]⟩, .string ⟨#[114, 101, 116, 117, 114, 110, 32, 49, 32, 57, 32, 89, 101, 115]⟩, .string ⟨#[105, 110, 118, 111, 107, 101, 32, 49, 32, 57, 32, 114, 101, 97, 100]⟩, .string ⟨#[105, 110, 118, 111, 107, 101, 32, 49, 32, 57, 32, 48, 32, 114, 101, 97, 100, 115]⟩, .string ⟨#[97, 98, 111, 114, 116, 32, 48, 32, 54, 53, 53, 51, 54]⟩, .string ⟨#[97, 98, 111, 114, 116, 32, 48, 32, 45, 49]⟩, .string ⟨#[105, 110, 102, 111, 32, 43, 51, 32, 49]⟩, .string ⟨#[120, 32, 49, 32, 50]⟩, .string ⟨#[99, 111, 110, 102, 105, 103]⟩] : Array Value) = CS at *
  have HBC := Lib.hid hbc
  have HBK := Lib.hid hb
  clear hbc hb
  go_loopw [2] (fun i wr => ∃ k : Nat, k ≤ 28 ∧ i = .int .i64 k ∧ Keeps [] w wr ∧ wr.heap[B]? = some (.cells CS 9 (0, 0)) ∧ Glob6 wr) (fun i _ => 28 - (intOf i).toNat)
  case atStart => exact ⟨0, by omega, rfl, HK.out, HBK.out, HG.out⟩
  case round =>
    clear HK HBK HG
    obtain ⟨k, hk, rfl, hkp, hbk, hgl⟩ := hrel
    by_cases hlt : k < 28
    · have d0 := HBC.out k hlt wr hbk
      obtain ⟨hb1, hb2⟩ := badL_ok k hlt
      have HU := Lib.hid (unparsed6_any wr hgl (badL.getD k []) hb2 hb1)
      have HKP := Lib.hid hkp; have HGL := Lib.hid hgl
      have HBW := Lib.hid hbk
      clear hkp hgl hb1 hb2 hbk
      generalize bs (badL.getD k []) = S at *
      go_wp2_with fail
      refine HU.out.mono ?_; rintro z w2 ⟨rfl, hk2⟩
      have HK2 := Lib.hid (HKP.out.trans hk2 (FSub.refl _ _))
      have HG2 := Lib.hid (HGL.out.new hk2)
      have HB2 := Lib.hid (hk2.heap HBW.out (by simp))
      clear HKP HGL hk2 HU HBW d0
      go_wp2_with fail
      go_roundw
      case rel => exact ⟨k + 1, by omega, by go_num, HK2.out, HB2.out, HG2.out⟩
      case measure => simp [intOf]; omega
    · have HG0 := Lib.hid hgl; have HK0 := Lib.hid hkp
      clear hkp hgl hbk HBC
      obtain rfl : k = 28 := by omega
      go_wp2_with fail
      refine (read_lit wr HG0.out [105, 110, 102, 111, 32, 48, 32, 49, 10, 10, 120] _ rd_1 (by decide) (by decide)).mono ?_; rintro z v1 ⟨a0, c0, rfl, hk⟩
      have hk := hk
      have HG1 := Lib.hid (HG0.out.new hk)
      have HK1 := Lib.hid (HK0.out.trans hk (FSub.refl _ _))
      clear HG0 HK0 hk
      go_wp2_with fail
      refine (read_lit v1 HG1.out [105, 110, 102, 111, 32, 48, 32, 49] _ rd_2 (by decide) (by decide)).mono ?_; rintro z v2 ⟨a1, c1, rfl, hk⟩
      have hk := hk
      have HG2 := Lib.hid (HG1.out.new hk)
      have HK2 := Lib.hid (HK1.out.trans hk (FSub.refl _ _))
      clear HG1 HK1 hk
      go_wp2_with fail
      refine (read_lit v2 HG2.out [] _ rd_3 (by decide) (by decide)).mono ?_; rintro z v3 ⟨a2, c2, rfl, hk⟩
      have hk := hk
      have HG3 := Lib.hid (HG2.out.new hk)
      have HK3 := Lib.hid (HK2.out.trans hk (FSub.refl _ _))
      clear HG2 HK2 hk
      go_wp2_with fail
      refine (read_lit v3 HG3.out [10] _ rd_4 (by decide) (by decide)).mono ?_; rintro z v4 ⟨a3, c3, rfl, hk⟩
      have hk := hk
      have HG4 := Lib.hid (HG3.out.new hk)
      have HK4 := Lib.hid (HK3.out.trans hk (FSub.refl _ _))
      clear HG3 HK3 hk
      go_wp2_with fail
      refine (line_no v4 HG4.out kx16 kx16_in _ _ (⟨Mics.nil 0 _, Lists.nil _ _⟩ : EvAt 0 v4 _ _ kx16) (Nat.zero_le _) kx16_bad).mono ?_; rintro z v5 ⟨rfl, hk⟩
      have hk := hk
      have HG5 := Lib.hid (HG4.out.new hk)
      have HK5 := Lib.hid (HK4.out.trans hk (FSub.refl _ _))
      clear HG4 HK4 hk
      go_wp2_with ((with_reducible apply (wpList_build_evs2 ki0 kx9 (.slice none 0 0) (.slice none 0 0) (.slice none 0 0) (.slice none 0 0))); exact rfl; exact rfl)
      refine (write_lit _ (HG5.out.new ((Keeps.refl [] v5).alloc _)) [ki0, kx9] _ _ ⟨#[]⟩ rfl wr_1 (by intro z hz; simp at hz; rcases hz with rfl | rfl; exact ki0_in; exact kx9_in) (by simp) _ (evs_two v5 ki0 kx9 ⟨rfl, rfl⟩ ⟨rfl, rfl⟩) (Nat.le_refl _)).mono ?_; rintro z v6 ⟨rfl, hk⟩
      have hk := ((Keeps.refl [] v5).alloc _).trans hk (FSub.refl _ _)
      have HG6 := Lib.hid (HG5.out.new hk)
      have HK6 := Lib.hid (HK5.out.trans hk (FSub.refl _ _))
      clear HG5 HK5 hk
      go_wp2_with ((with_reducible apply (wpList_build_evs2 ki0 ka2 (.slice none 0 0) (.slice none 0 0) (.slice none 0 0) (.slice none 0 0))); exact rfl; exact rfl)
      refine (write_lit _ (HG6.out.new ((Keeps.refl [] v6).alloc _)) [ki0, ka2] _ _ ⟨#[105, 110, 102, 111, 32, 48, 32, 48, 10, 97, 98, 111, 114, 116, 32, 48, 32, 50, 10]⟩ rfl wr_2 (by intro z hz; simp at hz; rcases hz with rfl | rfl; exact ki0_in; exact ka2_in) (by simp) _ (evs_two v6 ki0 ka2 ⟨rfl, rfl⟩ ⟨rfl, rfl⟩) (Nat.le_refl _)).mono ?_; rintro z v7 ⟨rfl, hk⟩
      have hk := ((Keeps.refl [] v6).alloc _).trans hk (FSub.refl _ _)
      have HG7 := Lib.hid (HG6.out.new hk)
      have HK7 := Lib.hid (HK6.out.trans hk (FSub.refl _ _))
      clear HG6 HK6 hk
      go_wp2_with fail
      refine (works6_any v7 HG7.out).mono ?_; rintro z v8 ⟨rfl, hk⟩
      have hk := hk
      have HG8 := Lib.hid (HG7.out.new hk)
      have HK8 := Lib.hid (HK7.out.trans hk (FSub.refl _ _))
      clear HG7 HK7 hk
      go_wp2_with fail
      go_ret
      exact ⟨rfl, HK8.out⟩
end Go.Proofs.YtiljdehhjiahdaaGreatDoor
