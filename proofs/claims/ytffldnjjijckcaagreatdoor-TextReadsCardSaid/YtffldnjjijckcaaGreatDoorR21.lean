/-
  The document's number and small.
-/
import Derived.Test.YtffldnjjijckcaaGreatDoorR12
import Derived.Test.YtffldnjjijckcaaGreatDoorR05
set_option linter.unusedSimpArgs false
set_option linter.unusedVariables false
namespace Go.Proofs.YtffldnjjijckcaaGreatDoor
open Go.RowKit
theorem num7_no7 {l : List UInt8} (h : num7Ok l ≠ true) : num7 l = -1 := by unfold num7; rw [if_neg h]
theorem NumAt.lt7 {l : List UInt8} {k n : Nat} (h : NumAt l k n) (hl : l.length ≤ 7) : n < 10000000 := by
  have := spells_lt5 _ 0 1 h.digs (by omega)
  rw [← h.num] at this
  have h2 : (l.take k).length ≤ 7 := by simp; omega
  have h3 : (10 : Nat) ^ (l.take k).length ≤ 10 ^ 7 := Nat.pow_le_pow_right (by omega) h2
  omega
theorem num7_all {l : List UInt8} {n : Nat} (h : NumAt l l.length n) (h1 : 1 ≤ l.length) (h5 : l.length ≤ 7) (hz : l.getD 0 0 ≠ 48 ∨ l.length = 1) : num7 l = (n : Int) := by
  have e := h.num
  have d := h.digs
  rw [List.take_length] at e d
  subst e
  unfold num7
  rw [if_pos ((num7Ok_iff l).2 ⟨h1, h5, hz, d⟩)]
set_option maxHeartbeats 8000000 in
set_option maxRecDepth 100000 in
theorem r6number_any (w : World) (l : List UInt8) (hl : (bs l).size ≤ 9223372036854775807) :
    Calls Tryz.prog 67 #[.string (bs l)] w fun e w' => e = .returned (.int .i64 (num7 l)) ∧ w' = w := by
  have hsz : (bs l).size = l.length := bs_size l
  have hby : ∀ (k : Nat) (h : k < (bs l).size), (((bs l)[k]'h).toNat : Int) = ((l.getD k 0).toNat : Int) := fun k h => by
    have e : (bs l)[k]'h = l.getD k 0 := by rw [byte_getD]; rfl
    rw [e]
  generalize bs l = S at *
  generalize hwn : num7 l = WN at *
  have HW := Lib.hid hwn; clear hwn
  have hno : ∀ ok : num7Ok l = true, _ := fun ok => (num7Ok_iff l).1 ok
  by_cases h1 : l.length < 1
  · obtain rfl := HW.out.symm.trans (num7_no7 fun ok => by have := (hno ok).1; omega)
    have z1 : (S.size : Int) < 1 := by omega
    clear hby HW hno
    go_enter Tryz.func67, Tryz.ntmps67
    go_wp2_with fail
    go_ret
    exact ⟨rfl, rfl⟩
  by_cases h5 : 7 < l.length
  · obtain rfl := HW.out.symm.trans (num7_no7 fun ok => by have := (hno ok).2.1; omega)
    have z1 : ¬ (S.size : Int) < 1 := by omega
    have z2 : 7 < (S.size : Int) := by omega
    clear hby HW hno
    go_enter Tryz.func67, Tryz.ntmps67
    go_wp2_with fail
    go_ret
    exact ⟨rfl, rfl⟩
  have z1 : ¬ (S.size : Int) < 1 := by omega
  have z2 : ¬ 7 < (S.size : Int) := by omega
  have k0 : 0 < S.size := by omega
  have hb0 := hby 0 k0
  have HB := Lib.hid hby; clear hby
  by_cases hz : l.getD 0 0 = 48 ∧ 1 < l.length
  · obtain rfl := HW.out.symm.trans (num7_no7 fun ok => by rcases (hno ok).2.2.1 with h | h; exact h hz.1; omega)
    have z3 : 1 < (S.size : Int) := by omega
    rw [hz.1] at hb0
    have z4 : ((S[0]'k0).toNat : Int) = 48 := hb0
    clear HB HW hb0 hno
    go_enter Tryz.func67, Tryz.ntmps67
    go_wp2_with fail
    go_ret
    exact ⟨rfl, rfl⟩
  have hz2 : l.getD 0 0 ≠ 48 ∨ l.length = 1 := by
    by_cases h : l.getD 0 0 = 48
    · exact .inr (by have : ¬ 1 < l.length := fun h' => hz ⟨h, h'⟩; omega)
    · exact .inl h
  have HZ := Lib.hid hz2
  have HNO := Lib.hid hno
  have hway : (¬ ((l.getD 0 0).toNat : Int) = 48) ∨ (((l.getD 0 0).toNat : Int) = 48 ∧ ¬ 1 < (S.size : Int)) := by
    by_cases h : ((l.getD 0 0).toNat : Int) = 48
    · exact .inr ⟨h, fun h' => hz ⟨UInt8.toNat_inj.1 (show (l.getD 0 0).toNat = (48 : UInt8).toNat from Int.ofNat.inj h), by omega⟩⟩
    · exact .inl h
  clear hz hz2 hno
  generalize (l.getD 0 0).toNat = C0 at hb0 hway
  rcases hway with z4 | ⟨z4, z5⟩
  all_goals
    go_enter Tryz.func67, Tryz.ntmps67
    go_wp2_with fail
    go_loopw [2, 3, 4] (fun r n i wr => ∃ (c k : Nat), r = .int .i64 0 ∧ n = .int .i64 c ∧ i = .int .i64 k ∧ NumAt l k c ∧ wr = w) (fun _ _ i _ => l.length - (intOf i).toNat)
    case atStart => exact ⟨0, 0, rfl, rfl, rfl, ⟨by omega, by simp, by simp [spells]⟩, rfl⟩
    case round =>
      obtain ⟨c, k, rfl, rfl, rfl, hd, rfl⟩ := hrel
      have hn := hd.lt7 (by omega)
      clear hb0 z4
      by_cases hkl : k < l.length
      · have hks : k < S.size := by omega
        have hbyte := HB.out k hks
        clear HB
        by_cases hdig : isDig (l.getD k 0)
        · have hst := hd.step hkl hdig
          unfold isDig at hdig
          generalize hC : (l.getD k 0).toNat = C at *
          clear hC
          have y1 : ¬ (C : Int) < 48 := by omega
          have y2 : ¬ 57 < (C : Int) := by omega
          go_wp2_with fail
          go_roundw
          case rel => exact ⟨10 * c + (C - 48), k + 1, by congr 1, by congr 1; omega, by go_num, hst, by trivial⟩
          case measure => simp [intOf]; omega
        · obtain rfl := HW.out.symm.trans (num7_no7 fun ok => hdig ((HNO.out ok).2.2.2 _ (by rw [List.getD_eq_getElem?_getD, List.getElem?_eq_getElem hkl]; exact List.getElem_mem hkl)))
          unfold isDig at hdig
          generalize hC : (l.getD k 0).toNat = C at *
          clear hC HW HNO
          by_cases y1 : (C : Int) < 48
          · go_wp2_with fail
            go_ret
            exact ⟨rfl, rfl⟩
          · have y2 : 57 < (C : Int) := by omega
            go_wp2_with fail
            go_ret
            exact ⟨rfl, rfl⟩
      · obtain rfl : k = l.length := by have := hd.high; omega
        have y0 : ¬ (l.length : Int) < (S.size : Int) := by omega
        have e := num7_all hd (by omega) (by omega) HZ.out
        obtain rfl := HW.out.symm.trans e
        clear e HW HB HNO
        go_wp2_with fail
        go_ret
        exact ⟨rfl, rfl⟩
/-- A number up to 65535, or -1. -/
def sm (l : List UInt8) : Int := if 65535 < num7 l then -1 else num7 l
theorem sm_bounds (l : List UInt8) : -1 ≤ sm l ∧ sm l ≤ 65535 := by
  have := num7_bounds l
  unfold sm
  split <;> omega
theorem r6small_any (w : World) (l : List UInt8) (hl : (bs l).size ≤ 9223372036854775807) :
    Calls Tryz.prog 35 #[.string (bs l)] w fun e w' => e = .returned (.int .i64 (sm l)) ∧ w' = w := by
  have hn := r6number_any w l hl
  unfold sm
  generalize num7 l = n at *
  generalize bs l = S at *
  by_cases hb : 65535 < n
  · rw [if_pos hb]
    go_enter Tryz.func35, Tryz.ntmps35
    go_wp2_with fail
    refine hn.mono ?_; rintro e w' ⟨rfl, rfl⟩
    go_wp2_with fail
    go_ret
    exact ⟨rfl, rfl⟩
  · rw [if_neg hb]
    go_enter Tryz.func35, Tryz.ntmps35
    go_wp2_with fail
    refine hn.mono ?_; rintro e w' ⟨rfl, rfl⟩
    go_wp2_with fail
    go_ret
    exact ⟨rfl, rfl⟩
end Go.Proofs.YtffldnjjijckcaaGreatDoor
