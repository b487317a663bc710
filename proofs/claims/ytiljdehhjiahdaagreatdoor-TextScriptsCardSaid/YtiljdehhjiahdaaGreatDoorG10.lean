/-
  What the package-level variables hold; whether an answer is valid.
-/
import Derived.Test.YtiljdehhjiahdaaGreatDoorG02
import Derived.Test.YtiljdehhjiahdaaGreatDoorG03
import Derived.Test.YtiljdehhjiahdaaGreatDoorG04
import Derived.Test.YtiljdehhjiahdaaGreatDoorG08
set_option linter.unusedSimpArgs false
set_option linter.unusedVariables false
namespace Go.Proofs.YtiljdehhjiahdaaGreatDoor
open Go.RowKit
theorem glob_pow10 : Tryz.prog.globalNamed "internal/strconv.uint64pow10" = some 6 := by kernel_rfl
theorem glob_syn : Tryz.prog.globalNamed "strconv.ErrSyntax" = some 7 := by kernel_rfl
theorem glob_ran : Tryz.prog.globalNamed "strconv.ErrRange" = some 8 := by kernel_rfl
def wordCells : Array Value := #[.string ⟨#[100, 111, 110, 101]⟩, .string ⟨#[118, 97, 108, 117, 101]⟩, .string ⟨#[110, 111, 110, 101]⟩, .string ⟨#[121, 101, 115]⟩, .string ⟨#[110, 111]⟩]
/-- The package-level variables hold what start-up lays. -/
structure Glob (w : World) : Prop where
  words : ∃ t fr, w.heap[3]? = some (.cells wordCells t fr)
  tab : Lib.TabIs Tryz.prog w "internal/strconv.uint64pow10" .u64 Lib.pow10Tab
  syn : ∃ tp p, w.var? Tryz.prog "strconv.ErrSyntax" = some #[.iface tp p]
  ran : ∃ tp p, w.var? Tryz.prog "strconv.ErrRange" = some #[.iface tp p]
  ml : ∃ m, w.cell? ⟨1, 0, none⟩ = some (.int .i64 m)
theorem Glob.keeps {w w' : World} {F : List Nat} (h : Glob w) (hk : Keeps F w w') (hF : ∀ g ∈ F, 100 ≤ g) : Glob w' := by
  have no : ∀ g : Nat, g < 100 → g ∉ F := fun g h1 h2 => by have := hF g h2; omega
  obtain ⟨⟨t, fr, hw⟩, ht, ⟨t1, p1, h1⟩, ⟨t2, p2, h2⟩, ⟨m, hm⟩⟩ := h
  exact ⟨⟨t, fr, hk.heap hw (no _ (by decide))⟩, var_keeps glob_pow10 ht hk (no _ (by decide)), ⟨t1, p1, var_keeps glob_syn h1 hk (no _ (by decide))⟩, ⟨t2, p2, var_keeps glob_ran h2 hk (no _ (by decide))⟩, ⟨m, hk.cell hm (no _ (by decide))⟩⟩
theorem Glob.new {w w' : World} (h : Glob w) (hk : Keeps [] w w') : Glob w' := h.keeps hk (by simp)
theorem Glob.word {w : World} (h : Glob w) (i : Nat) (v : Value) (hv : wordCells[i]? = some v) : w.cell? ⟨3, i, none⟩ = some v := by
  obtain ⟨t, fr, hw⟩ := h.words
  simp [World.cell?, hw, hv]

/-- An answer as a value. -/
def rsVal (k v : Int) : Value := .agg #[.int .u8 k, .int .u16 v]

set_option maxHeartbeats 400000 in
theorem isKind_any (w : World) (k : Int) (h0 : 0 ≤ k) (h1 : k < 256) : Calls Tryz.prog 137 #[.int .u8 k] w fun e w' => e = .returned (.bool (decide (k < 5))) ∧ w = w' := by
  go_enter Tryz.func137, Tryz.ntmps137
  go_wp2
  go_ret
  exact ⟨by rfl, rfl⟩
set_option maxHeartbeats 400000 in
theorem Check_any (w : World) (k v : Int) (h0 : 0 ≤ k) (h1 : k < 256) : Calls Tryz.prog 107 #[.agg #[.int .u8 k, .int .u16 v]] w fun e w' => e = .returned (.int .i64 (rsErr k v)) ∧ Keeps [] w w' := by
  by_cases hk5 : k < 5
  · by_cases hv : v = 0
    · have e1 : rsErr k v = 0 := rsErr_good (by simp [rsGood, hv]; omega)
      rw [e1]
      subst hv
      go_enter Tryz.func107, Tryz.ntmps107
      go_wp2_with (go_at_call 137; refine (isKind_any _ k h0 h1).mono ?_; rintro e w' ⟨rfl, rfl⟩)
      go_ret
      exact ⟨rfl, (Keeps.refl _ _).alloc _⟩
    · have hv2 : (v != 0) = true := by simpa using hv
      by_cases hk1 : k = 1
      · subst hk1
        have e1 : rsErr 1 v = 0 := rsErr_good (by simp [rsGood])
        rw [e1]
        go_enter Tryz.func107, Tryz.ntmps107
        go_wp2_with (go_at_call 137; refine (isKind_any _ 1 (by omega) (by omega)).mono ?_; rintro e w' ⟨rfl, rfl⟩)
        go_ret
        exact ⟨rfl, (Keeps.refl _ _).alloc _⟩
      · have hk2 : (k != 1) = true := by simpa using hk1
        have e1 : rsErr k v = 4 := rsErr_bad (by simp [rsGood, hk1, hv])
        rw [e1]
        go_enter Tryz.func107, Tryz.ntmps107
        go_wp2_with (go_at_call 137; refine (isKind_any _ k h0 h1).mono ?_; rintro e w' ⟨rfl, rfl⟩)
        go_ret
        exact ⟨rfl, (Keeps.refl _ _).alloc _⟩
  · have e1 : rsErr k v = 4 := rsErr_bad (by simp [rsGood]; omega)
    rw [e1]
    go_enter Tryz.func107, Tryz.ntmps107
    go_wp2_with (go_at_call 137; refine (isKind_any _ k h0 h1).mono ?_; rintro e w' ⟨rfl, rfl⟩)
    go_ret
    exact ⟨rfl, (Keeps.refl _ _).alloc _⟩
set_option maxHeartbeats 1000000 in
theorem rsPut_bad (w : World) (k v : Int) (h0 : 0 ≤ k) (h1 : k < 256) (hg : rsGood k v = false) :
    Calls Tryz.prog 125 #[.agg #[.int .u8 k, .int .u16 v]] w fun e w' => e = .returned (.tuple #[.string ⟨#[]⟩, .int .i64 4]) ∧ Keeps [] w w' := by
  have hc := fun w => Check_any w k v h0 h1
  rw [rsErr_bad hg] at hc
  go_enter Tryz.func125, Tryz.ntmps125
  go_wp2_with (go_at_call 107; refine (hc _).mono ?_; rintro e w1 ⟨rfl, hk1⟩)
  go_ret2
  exact ⟨rfl, ((Keeps.refl _ _).alloc _).trans hk1 (FSub.refl _ _)⟩
set_option maxHeartbeats 1000000 in
theorem rsPut_one (w : World) (v : Int) (v0 : 0 ≤ v) (v1 : v < 65536) :
    Calls Tryz.prog 125 #[.agg #[.int .u8 1, .int .u16 v]] w fun e w' => e = .returned (.tuple #[.string (strOfNums [1, v / 256, v % 256]), .int .i64 0]) ∧ Keeps [] w w' := by
  have hc := fun w => Check_any w 1 v (by omega) (by omega)
  rw [rsErr_good (show rsGood 1 v = true by simp [rsGood])] at hc
  go_enter Tryz.func125, Tryz.ntmps125
  go_wp2_with fail
  refine (hc _).mono ?_; rintro e w1 ⟨rfl, hk1⟩
  have hb := boxed2 hk1
  replace hk1 := ((Keeps.refl [] w).alloc _).trans hk1 (FSub.refl _ _)
  have hw := wat_new w1
  have K2 : Keeps [] w1 (w1.alloc (.cells #[.slice none 0 0, .int .i64 0, .pointer none] 180)) := (Keeps.refl _ _).alloc _
  obtain ⟨c0, c1, hlt⟩ := cell2 hb
  have hb2 := K2.heap hb (by simp)
  replace K2 := hk1.trans K2 (FSub.refl _ _)
  have hf2 : FSub [w1.heap.size] [] w.heap.size := (fresh1 w1).mono hk1.size
  clear hb
  go_wp2_with fail
  refine (U8_any _ _ _ _ hw 1 (by omega) (by omega) (fun xs e => by cases e; simp)).mono ?_; rintro e w3 ⟨rfl, F3, hw3, hk3, hs3⟩
  obtain ⟨hk4, hf3⟩ := loneK K2 hf2 hk3 hs3
  have hb3 := hk3.heap hb2 (by simp; omega)
  have hne3 : w.heap.size ∉ F3 := fun h => by rcases hs3 _ h with h | h <;> simp at h <;> omega
  clear hb2 c0 c1 hk3 hs3 hw K2 hf2
  obtain ⟨c0, c1, hlt3⟩ := cell2 hb3
  go_wp2_with fail
  refine (U16_any _ _ _ _ hw3 v v0 v1 (fun xs e => by cases e; simp [be1])).mono ?_; rintro e w4 ⟨rfl, F4, hw4, hk5, hs5⟩
  obtain ⟨hk6, hf4⟩ := loneK hk4 hf3 hk5 hs5
  go_wp2_with fail
  refine (Bytes_any _ _ _ _ hw4).mono ?_; rintro e w5 ⟨rfl, rfl⟩
  go_wp2_with fail
  go_ret2
  exact ⟨rfl, hk6.drew⟩
set_option maxHeartbeats 1000000 in
theorem rsPut_word (w : World) (k : Int) (h0 : 0 ≤ k) (h4 : k ≤ 4) (h1 : k ≠ 1) :
    Calls Tryz.prog 125 #[.agg #[.int .u8 k, .int .u16 0]] w fun e w' => e = .returned (.tuple #[.string (strOfNums [k]), .int .i64 0]) ∧ Keeps [] w w' := by
  have hc := fun w => Check_any w k 0 h0 (by omega)
  rw [rsErr_good (show rsGood k 0 = true by simp [rsGood, h4])] at hc
  have hk1 : (k == 1) = false := by simpa using h1
  go_enter Tryz.func125, Tryz.ntmps125
  go_wp2_with fail
  refine (hc _).mono ?_; rintro e w1 ⟨rfl, hk1⟩
  have hb := boxed2 hk1
  replace hk1 := ((Keeps.refl [] w).alloc _).trans hk1 (FSub.refl _ _)
  have hw := wat_new w1
  have K2 : Keeps [] w1 (w1.alloc (.cells #[.slice none 0 0, .int .i64 0, .pointer none] 180)) := (Keeps.refl _ _).alloc _
  obtain ⟨c0, c1, hlt⟩ := cell2 hb
  have hb2 := K2.heap hb (by simp)
  replace K2 := hk1.trans K2 (FSub.refl _ _)
  have hf2 : FSub [w1.heap.size] [] w.heap.size := (fresh1 w1).mono hk1.size
  clear hb
  go_wp2_with fail
  refine (U8_any _ _ _ _ hw k h0 (by omega) (fun xs e => by cases e; simp)).mono ?_; rintro e w3 ⟨rfl, F3, hw3, hk3, hs3⟩
  obtain ⟨hk4, hf3⟩ := loneK K2 hf2 hk3 hs3
  have hb3 := hk3.heap hb2 (by simp; omega)
  clear hb2 c0 c1 hk3 hs3 hw K2 hf2
  obtain ⟨c0, c1, hlt3⟩ := cell2 hb3
  go_wp2_with fail
  refine (Bytes_any _ _ _ _ hw3).mono ?_; rintro e w5 ⟨rfl, rfl⟩
  go_wp2_with fail
  go_ret2
  exact ⟨rfl, hk4.drew⟩
theorem rsPut_any (w : World) (k v : Int) (h0 : 0 ≤ k) (h1 : k < 256) (v0 : 0 ≤ v) (v1 : v < 65536) :
    Calls Tryz.prog 125 #[.agg #[.int .u8 k, .int .u16 v]] w fun e w' => e = .returned (.tuple #[.string (if rsGood k v then strOfNums (rsPut k v) else ⟨#[]⟩), .int .i64 (rsErr k v)]) ∧ Keeps [] w w' := by
  by_cases hg : rsGood k v = true
  · rw [rsErr_good hg, if_pos hg]
    rcases good_cases h0 hg with rfl | ⟨rfl, h⟩
    · exact rsPut_one w v v0 v1
    · have e : rsPut k 0 = [k] := by unfold rsPut; rw [if_neg (by omega)]
      rw [e]
      exact rsPut_word w k h0 (by omega) (by omega)
  · rw [rsErr_bad (by simpa using hg), if_neg hg]
    exact rsPut_bad w k v h0 h1 (by simpa using hg)
end Go.Proofs.YtiljdehhjiahdaaGreatDoor
/-
  The document's Put, digits and Text.
-/
namespace Go.Proofs.YtiljdehhjiahdaaGreatDoor
open Go.RowKit

theorem one_digit (c : Nat) : strOfNums [48 + (c : Int) % 10] = bs [UInt8.ofNat (48 + c % 10)] := by
  have : (48 + (c : Int) % 10).toNat = 48 + c % 10 := by omega
  simp [strOfNums, bs, this]
end Go.Proofs.YtiljdehhjiahdaaGreatDoor
