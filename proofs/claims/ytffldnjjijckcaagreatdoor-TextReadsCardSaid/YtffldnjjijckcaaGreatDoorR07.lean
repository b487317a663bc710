/-
  What the package-level variables hold; whether an answer is valid.
-/
import Derived.Test.YtffldnjjijckcaaGreatDoorR02
import Derived.Test.YtffldnjjijckcaaGreatDoorR03
import Derived.Test.YtffldnjjijckcaaGreatDoorR04
import Derived.Test.YtffldnjjijckcaaGreatDoorR01
set_option linter.unusedSimpArgs false
set_option linter.unusedVariables false
namespace Go.Proofs.YtffldnjjijckcaaGreatDoor
open Go.RowKit
theorem glob_pow10 : Tryz.prog.globalNamed "internal/strconv.uint64pow10" = some 6 := by kernel_rfl
theorem glob_syn : Tryz.prog.globalNamed "strconv.ErrSyntax" = some 7 := by kernel_rfl
theorem glob_ran : Tryz.prog.globalNamed "strconv.ErrRange" = some 8 := by kernel_rfl
def wordCells : Array Value := #[.string ⟨#[100, 111, 110, 101]⟩, .string ⟨#[118, 97, 108, 117, 101]⟩, .string ⟨#[110, 111, 110, 101]⟩, .string ⟨#[121, 101, 115]⟩, .string ⟨#[110, 111]⟩]
/-- The package-level variables hold what start-up lays. -/
structure Glob (w : World) : Prop where
  words : ∃ t fr, w.heap[2]? = some (.cells wordCells t fr)
  tab : Lib.TabIs Tryz.prog w "internal/strconv.uint64pow10" .u64 Lib.pow10Tab
  syn : ∃ tp p, w.var? Tryz.prog "strconv.ErrSyntax" = some #[.iface tp p]
  ran : ∃ tp p, w.var? Tryz.prog "strconv.ErrRange" = some #[.iface tp p]
  ml : ∃ m, w.cell? ⟨3, 0, none⟩ = some (.int .i64 m)
theorem Glob.keeps {w w' : World} {F : List Nat} (h : Glob w) (hk : Keeps F w w') (hF : ∀ g ∈ F, 100 ≤ g) : Glob w' := by
  have no : ∀ g : Nat, g < 100 → g ∉ F := fun g h1 h2 => by have := hF g h2; omega
  obtain ⟨⟨t, fr, hw⟩, ht, ⟨t1, p1, h1⟩, ⟨t2, p2, h2⟩, ⟨m, hm⟩⟩ := h
  exact ⟨⟨t, fr, hk.heap hw (no _ (by decide))⟩, var_keeps glob_pow10 ht hk (no _ (by decide)), ⟨t1, p1, var_keeps glob_syn h1 hk (no _ (by decide))⟩, ⟨t2, p2, var_keeps glob_ran h2 hk (no _ (by decide))⟩, ⟨m, hk.cell hm (no _ (by decide))⟩⟩
theorem Glob.new {w w' : World} (h : Glob w) (hk : Keeps [] w w') : Glob w' := h.keeps hk (by simp)
theorem Glob.word {w : World} (h : Glob w) (i : Nat) (v : Value) (hv : wordCells[i]? = some v) : w.cell? ⟨2, i, none⟩ = some v := by
  obtain ⟨t, fr, hw⟩ := h.words
  simp [World.cell?, hw, hv]
set_option maxHeartbeats 400000 in
theorem isKind_any (w : World) (k : Int) (h0 : 0 ≤ k) (h1 : k < 256) : Calls Tryz.prog 156 #[.int .u8 k] w fun e w' => e = .returned (.bool (decide (k < 5))) ∧ w = w' := by
  go_enter Tryz.func156, Tryz.ntmps156
  go_wp2
  go_ret
  exact ⟨by rfl, rfl⟩
set_option maxHeartbeats 400000 in
theorem Check_any (w : World) (k v : Int) (h0 : 0 ≤ k) (h1 : k < 256) : Calls Tryz.prog 121 #[.agg #[.int .u8 k, .int .u16 v]] w fun e w' => e = .returned (.int .i64 (rsErr k v)) ∧ Keeps [] w w' := by
  by_cases hk5 : k < 5
  · by_cases hv : v = 0
    · have e1 : rsErr k v = 0 := rsErr_good (by simp [rsGood, hv]; omega)
      rw [e1]
      subst hv
      go_enter Tryz.func121, Tryz.ntmps121
      go_wp2_with (go_at_call 156; refine (isKind_any _ k h0 h1).mono ?_; rintro e w' ⟨rfl, rfl⟩)
      go_ret
      exact ⟨rfl, (Keeps.refl _ _).alloc _⟩
    · have hv2 : (v != 0) = true := by simpa using hv
      by_cases hk1 : k = 1
      · subst hk1
        have e1 : rsErr 1 v = 0 := rsErr_good (by simp [rsGood])
        rw [e1]
        go_enter Tryz.func121, Tryz.ntmps121
        go_wp2_with (go_at_call 156; refine (isKind_any _ 1 (by omega) (by omega)).mono ?_; rintro e w' ⟨rfl, rfl⟩)
        go_ret
        exact ⟨rfl, (Keeps.refl _ _).alloc _⟩
      · have hk2 : (k != 1) = true := by simpa using hk1
        have e1 : rsErr k v = 4 := rsErr_bad (by simp [rsGood, hk1, hv])
        rw [e1]
        go_enter Tryz.func121, Tryz.ntmps121
        go_wp2_with (go_at_call 156; refine (isKind_any _ k h0 h1).mono ?_; rintro e w' ⟨rfl, rfl⟩)
        go_ret
        exact ⟨rfl, (Keeps.refl _ _).alloc _⟩
  · have e1 : rsErr k v = 4 := rsErr_bad (by simp [rsGood]; omega)
    rw [e1]
    go_enter Tryz.func121, Tryz.ntmps121
    go_wp2_with (go_at_call 156; refine (isKind_any _ k h0 h1).mono ?_; rintro e w' ⟨rfl, rfl⟩)
    go_ret
    exact ⟨rfl, (Keeps.refl _ _).alloc _⟩
set_option maxHeartbeats 400000 in
theorem Good_any (w : World) (k v : Int) (h0 : 0 ≤ k) (h1 : k < 256) : Calls Tryz.prog 61 #[.agg #[.int .u8 k, .int .u16 v]] w fun e w' => e = .returned (.bool (rsGood k v)) ∧ Keeps [] w w' := by
  by_cases hk1 : k = 1
  · subst hk1
    have e1 : rsGood 1 v = true := by simp [rsGood]
    rw [e1]
    go_enter Tryz.func61, Tryz.ntmps61
    go_wp2
    go_ret
    exact ⟨rfl, (Keeps.refl _ _).alloc _⟩
  · have hk2 : (k == 1) = false := by simpa using hk1
    by_cases hk4 : k ≤ 4
    · by_cases hv : v = 0
      · subst hv
        have e1 : rsGood k 0 = true := by simp [rsGood, hk4]
        rw [e1]
        go_enter Tryz.func61, Tryz.ntmps61
        go_wp2
        go_ret
        exact ⟨rfl, (Keeps.refl _ _).alloc _⟩
      · have hv2 : (v == 0) = false := by simpa using hv
        have e1 : rsGood k v = false := by simp [rsGood, hk1, hv]
        rw [e1]
        go_enter Tryz.func61, Tryz.ntmps61
        go_wp2
        go_ret
        exact ⟨rfl, (Keeps.refl _ _).alloc _⟩
    · have e1 : rsGood k v = false := by simp [rsGood, hk1]; omega
      rw [e1]
      go_enter Tryz.func61, Tryz.ntmps61
      go_wp2
      go_ret
      exact ⟨rfl, (Keeps.refl _ _).alloc _⟩
end Go.Proofs.YtffldnjjijckcaaGreatDoor
/-
  The document's Put, digits and Text.
-/
namespace Go.Proofs.YtffldnjjijckcaaGreatDoor
open Go.RowKit
theorem one_digit (c : Nat) : strOfNums [48 + (c : Int) % 10] = bs [UInt8.ofNat (48 + c % 10)] := by
  have : (48 + (c : Int) % 10).toNat = 48 + c % 10 := by omega
  simp [strOfNums, bs, this]
set_option maxHeartbeats 1000000 in
theorem digits_any (w : World) (m : Nat) (hm : m < 4294967296) : Calls Tryz.prog 64 #[.int .u32 m] w fun e w' => e = .returned (.string (bs (Lib.decDigits m))) ∧ Keeps [] w w' := by
  have hlen := dec_length_le 9 m (by omega)
  go_enter Tryz.func64, Tryz.ntmps64
  go_wp2_with fail
  go_loopw [0, 3] (fun n s wr => ∃ (c : Nat) (t : List UInt8), n = .int .u32 c ∧ s = .string (bs t) ∧ Lib.decDigits c ++ t = Lib.decDigits m ∧ c ≤ m ∧ Keeps [] w wr) (fun n _ _ => (intOf n).toNat)
  case atStart => exact ⟨m, [], rfl, rfl, by simp, Nat.le_refl _, Keeps.refl _ _⟩
  case round =>
    obtain ⟨c, t, rfl, rfl, ht, hcm, hk⟩ := hrel
    have htl : t.length ≤ 10 := by have := congrArg List.length ht; rw [List.length_append] at this; omega
    have hs1 : (bs t).size ≤ 10 := by rw [bs_size]; exact htl
    have hcv := one_string wr (48 + (c : Int) % 10)
    have hs2 : (strOfNums [48 + (c : Int) % 10]).size ≤ 1 := by rw [strOfNums_size]; simp
    have e2 : strOfNums [48 + (c : Int) % 10] ++ bs t = bs (UInt8.ofNat (48 + c % 10) :: t) := by rw [one_digit, bs_app]; rfl
    have E2 := Lib.hid e2; clear e2
    generalize hT : strOfNums [48 + (c : Int) % 10] = T at *
    generalize hS : bs t = S at *
    clear hT hS
    by_cases hlt : c < 10
    · have e3 : UInt8.ofNat (48 + c % 10) :: t = Lib.decDigits m := by rw [← ht, dec_small hlt]; rfl
      rw [e3] at E2
      have hq : (c : Int) / 10 = 0 := by omega
      clear e3
      go_wp2_with fail
      go_ret
      exact ⟨by rw [← E2.out]; rfl, hk.alloc _⟩
    · have e3 : Lib.decDigits (c / 10) ++ (UInt8.ofNat (48 + c % 10) :: t) = Lib.decDigits m := by rw [← ht, dec_big hlt]; simp
      have hq : ((c : Int) / 10 == 0) = false := by simp; omega
      go_wp2_with fail
      go_roundw
      case rel => exact ⟨c / 10, _, by congr 1, by rw [← E2.out], e3, by omega, hk.alloc _⟩
      case measure => simp [intOf]; omega
end Go.Proofs.YtffldnjjijckcaaGreatDoor
