/-
  The program's Check; the document's Check and Put; a number's two bytes.
-/
import Derived.Test.YtiljdehhjiahdaaGreatDoorG11
import Derived.Test.YtiljdehhjiahdaaGreatDoorG03
set_option linter.unusedSimpArgs false
set_option linter.unusedVariables false
namespace Go.Proofs.YtiljdehhjiahdaaGreatDoor
open Go.RowKit
def opChk (m : Int) (x : Opn) : Int := if opGood x && opM x.f == m then 0 else 10
end Go.Proofs.YtiljdehhjiahdaaGreatDoor
/-
  The program's reads of numbers.
-/
namespace Go.Proofs.YtiljdehhjiahdaaGreatDoor
open Go.RowKit
def v8 (l : List UInt8) : Int := ((l.getD 0 0).toNat : Int)
def v16 (l : List UInt8) : Int := if l.length < 2 then 0 else 256 * ((l.getD 0 0).toNat : Int) + ((l.getD 1 0).toNat : Int)
def r16 (l : List UInt8) : List UInt8 := if l.length < 2 then l else l.drop 2
theorem v8_b (l : List UInt8) : 0 ≤ v8 l ∧ v8 l < 256 := by unfold v8; have := (l.getD 0 0).toNat_lt; omega
theorem v16_b (l : List UInt8) : 0 ≤ v16 l ∧ v16 l < 65536 := by
  unfold v16
  have := (l.getD 0 0).toNat_lt
  have := (l.getD 1 0).toNat_lt
  split <;> omega
theorem len16_8 (w : World) : Calls Tryz.prog 167 #[.int .u16 255] w fun e w' => e = .returned (.int .i64 8) ∧ w' = w :=
  (Tryz.bits_Len16 255 w (by omega) (by omega)).mono fun e w' ⟨he, hw⟩ => ⟨by rw [he]; congr 2, hw⟩
theorem len16_16 (w : World) : Calls Tryz.prog 167 #[.int .u16 65535] w fun e w' => e = .returned (.int .i64 16) ∧ w' = w :=
  (Tryz.bits_Len16 65535 w (by omega) (by omega)).mono fun e w' ⟨he, hw⟩ => ⟨by rw [he]; congr 2, hw⟩
theorem set2_1 {w : World} {b : Nat} {x y : Value} {t : TypeId} (h : w.heap[b]? = some (.cells #[x, y] t (0, 0))) (y' : Value) : (w.setCell ⟨b, 1, none⟩ y').heap[b]? = some (.cells #[x, y'] t (0, 0)) := by
  rw [heap_setCell_same _ b 1 _ t y' h]; rfl
theorem set2_0 {w : World} {b : Nat} {x y : Value} {t : TypeId} (h : w.heap[b]? = some (.cells #[x, y] t (0, 0))) (x' : Value) : (w.setCell ⟨b, 0, none⟩ x').heap[b]? = some (.cells #[x', y] t (0, 0)) := by
  rw [heap_setCell_same _ b 0 _ t x' h]; rfl
theorem u16_wraps (n : Int) (h0 : 0 ≤ n) (h1 : n < 2 ^ 16) : IntKind.u16.wrap n = n := by
  simp [IntKind.wrap, IntKind.signed, IntKind.bits]; omega
theorem or_zero16 (c : Int) (h2 : 0 ≤ c) (h3 : c < 256) : bits .or .u16 0 c = c := by
  have := bits_join .u16 16 (by decide) u16_wraps 8 0 c (by omega) (by omega) (by omega) h2 (by omega) (by omega)
  simpa using this
theorem or_join16 (x c : Int) (h0 : 0 ≤ x) (h1 : x < 256) (h2 : 0 ≤ c) (h3 : c < 256) : bits .or .u16 (x * 256) c = x * 256 + c :=
  bits_join .u16 16 (by decide) u16_wraps 8 (x * 256) c (by omega) (by omega) (by omega) h2 (by omega) (by omega)
set_option maxHeartbeats 1000000 in
set_option maxRecDepth 100000 in
theorem opNext8_any (w : World) (b : Nat) (l : List UInt8) (t : Bool) (hl : l.length ≤ 3000) (hb : w.heap[b]? = some (.cells #[.string (bs l), .bool t] 175 (0, 0))) :
    Calls Tryz.prog 146 #[.pointer (some ⟨b, 0, none⟩)] w fun e w' => e = .returned (.int .u8 (v8 l)) ∧ w'.heap[b]? = some (.cells #[.string (bs (l.drop 1)), .bool (t || l.isEmpty)] 175 (0, 0)) ∧ Keeps [b] w w' := by
  obtain ⟨c0, c1, cl⟩ := cell2 hb
  have hsz : (bs l).size = l.length := bs_size l
  cases l with
  | nil =>
    have f1 : w.frozen? ⟨b, 1, none⟩ = false := by simp [World.frozen?, hb]
    have hz : ((bs []).size : Int) < 1 := by decide
    have hr := set2_1 hb (.bool true)
    have e1 : (t || ([] : List UInt8).isEmpty) = true := by simp
    have e2 : v8 [] = 0 := rfl
    have e3 : bs (([] : List UInt8).drop 1) = bs [] := rfl
    rw [e1, e2, e3]
    have HR := Lib.hid hr; clear hr e1 e2 e3 hb
    generalize bs [] = S at *
    go_enter Tryz.func146, Tryz.ntmps146
    go_wp2_with fail
    refine (len16_8 _).mono ?_; rintro e w1 ⟨rfl, rfl⟩
    go_wp2_with fail
    go_ret
    exact ⟨rfl, HR.out, (Keeps.refl _ _).setCell _ _ (.inl (by simp))⟩
  | cons c r =>
    have f0 : w.frozen? ⟨b, 0, none⟩ = false := by simp [World.frozen?, hb]
    have hz : ¬ ((bs (c :: r)).size : Int) < 1 := by rw [hsz, List.length_cons]; omega
    have hi : 0 < (bs (c :: r)).size := by rw [hsz, List.length_cons]; omega
    have hb0 : ((((bs (c :: r))[0]'hi).toNat : Nat) : Int) = (c.toNat : Int) := rfl
    have hrest : (bs (c :: r)).extract 1 (bs (c :: r)).size = bs r := by rw [bs_piece, hsz]; congr 1; simp
    have hle : 1 ≤ (bs (c :: r)).size := by omega
    have hr := set2_0 hb (.string (bs r))
    have e1 : (t || (c :: r).isEmpty) = t := by simp
    have e2 : v8 (c :: r) = (c.toNat : Int) := rfl
    have e3 : (c :: r).drop 1 = r := rfl
    rw [e1, e2, e3]
    have hc0 := c.toNat_lt
    have o0 := or_zero16 (c.toNat : Int) (by omega) (by omega)
    have HR := Lib.hid hr; clear hr e1 e2 e3 hb hsz
    generalize bs r = R at *
    generalize hCS : bs (c :: r) = S at *
    clear hCS
    go_enter Tryz.func146, Tryz.ntmps146
    go_wp2_with fail
    refine (len16_8 _).mono ?_; rintro e w1 ⟨rfl, rfl⟩
    go_wp2_with fail
    refine wp_loop_rounds 2 ?_
    rw [rounds_succ]
    go_wp2_with fail
    rw [rounds_succ]
    go_wp2_with fail
    go_ret
    exact ⟨rfl, HR.out, (Keeps.refl _ _).setCell _ _ (.inl (by simp))⟩
set_option maxHeartbeats 1000000 in
set_option maxRecDepth 100000 in
theorem next16_two (w : World) (b : Nat) (S R : ByteArray) (t : Bool) (x y : Int) (x0 : 0 ≤ x) (x1 : x < 256) (y0 : 0 ≤ y) (y1 : y < 256) (hi : 0 < S.size) (hi1 : 1 < S.size) (hb0 : ((S[0]'hi).toNat : Int) = x) (hb1 : ((S[1]'hi1).toNat : Int) = y)
    (hz : ¬ (S.size : Int) < 2) (_hle : 2 ≤ S.size) (hmax : (S.size : Int) ≤ 3000) (hrest : S.extract 2 S.size = R) (hb : w.heap[b]? = some (.cells #[.string S, .bool t] 175 (0, 0))) :
    Calls Tryz.prog 147 #[.pointer (some ⟨b, 0, none⟩)] w fun e w' => e = .returned (.int .u16 (x * 256 + y)) ∧ w'.heap[b]? = some (.cells #[.string R, .bool t] 175 (0, 0)) ∧ Keeps [b] w w' := by
  obtain ⟨c0, c1, cl⟩ := cell2 hb
  have f0 : w.frozen? ⟨b, 0, none⟩ = false := by simp [World.frozen?, hb]
  have o0 := or_zero16 x x0 x1
  have o1 := or_join16 x y x0 x1 y0 y1
  have hr := set2_0 hb (.string R)
  have HR := Lib.hid hr; clear hr hb
  have z1 : 0 ≤ x * 256 := by omega
  have z2 : x * 256 < 65536 := by omega
  have z3 : 0 ≤ x * 256 + y := by omega
  have z4 : x * 256 + y < 65536 := by omega
  go_enter Tryz.func147, Tryz.ntmps147
  go_wp2_with fail
  refine (len16_16 _).mono ?_; rintro e w1 ⟨rfl, rfl⟩
  go_wp2_with fail
  refine wp_loop_rounds 3 ?_
  rw [rounds_succ]
  go_wp2_with fail
  rw [rounds_succ]
  go_wp2_with fail
  rw [rounds_succ]
  go_wp2_with fail
  go_ret
  exact ⟨rfl, HR.out, (Keeps.refl _ _).setCell _ _ (.inl (by simp))⟩
set_option maxHeartbeats 1000000 in
set_option maxRecDepth 100000 in
theorem opNext16_any (w : World) (b : Nat) (l : List UInt8) (t : Bool) (hl : l.length ≤ 3000) (hb : w.heap[b]? = some (.cells #[.string (bs l), .bool t] 175 (0, 0))) :
    Calls Tryz.prog 147 #[.pointer (some ⟨b, 0, none⟩)] w fun e w' => e = .returned (.int .u16 (v16 l)) ∧ w'.heap[b]? = some (.cells #[.string (bs (r16 l)), .bool (t || decide (l.length < 2))] 175 (0, 0)) ∧ Keeps [b] w w' := by
  obtain ⟨c0, c1, cl⟩ := cell2 hb
  have hsz : (bs l).size = l.length := bs_size l
  by_cases h2 : l.length < 2
  · have f1 : w.frozen? ⟨b, 1, none⟩ = false := by simp [World.frozen?, hb]
    have hz : ((bs l).size : Int) < 2 := by omega
    have hr := set2_1 hb (.bool true)
    have e1 : (t || decide (l.length < 2)) = true := by simp [h2]
    have e2 : v16 l = 0 := by unfold v16; rw [if_pos h2]
    have e3 : r16 l = l := by unfold r16; rw [if_pos h2]
    rw [e1, e2, e3]
    have HR := Lib.hid hr; clear hr e1 e2 e3 hb
    generalize bs l = S at *
    go_enter Tryz.func147, Tryz.ntmps147
    go_wp2_with fail
    refine (len16_16 _).mono ?_; rintro e w1 ⟨rfl, rfl⟩
    go_wp2_with fail
    go_ret
    exact ⟨rfl, HR.out, (Keeps.refl _ _).setCell _ _ (.inl (by simp))⟩
  · obtain ⟨c, d, r, rfl⟩ : ∃ c d r, l = c :: d :: r := by
      match l, h2 with
      | [], h => exact absurd (by simp) h
      | [_], h => exact absurd (by simp) h
      | c :: d :: r, _ => exact ⟨c, d, r, rfl⟩
    have hlen : (bs (c :: d :: r)).size = r.length + 2 := by rw [hsz]; rfl
    have hl2 : r.length + 2 ≤ 3000 := by simpa using hl
    have hc0 := c.toNat_lt
    have hd0 := d.toNat_lt
    have hrest : (bs (c :: d :: r)).extract 2 (bs (c :: d :: r)).size = bs r := by rw [bs_piece, hsz]; congr 1; simp
    have e1 : (t || decide ((c :: d :: r).length < 2)) = t := by simp only [h2, decide_false, Bool.or_false]
    have e2 : v16 (c :: d :: r) = (c.toNat : Int) * 256 + (d.toNat : Int) := by unfold v16; rw [if_neg h2]; simp; omega
    have e3 : r16 (c :: d :: r) = r := by unfold r16; rw [if_neg h2]; rfl
    rw [e1, e2, e3]
    exact next16_two w b (bs (c :: d :: r)) (bs r) t _ _ (by omega) (by omega) (by omega) (by omega) (by omega) (by omega) rfl rfl (by omega) (by omega) (by omega) hrest hb
end Go.Proofs.YtiljdehhjiahdaaGreatDoor
