/-
  The document's Kinds and May.
-/
import Derived.LoopTactic
import Derived.Test.YtlaccndjlfpjbaaGreatDoorB17
set_option linter.unusedSimpArgs false
set_option linter.unusedVariables false
namespace Go.Proofs.YtlaccndjlfpjbaaGreatDoor
open Go.RowKit
/-- A list's numbers stand where the slice's address says. -/
def Src8 (w : World) (a : Option Addr) (ls : List Int) : Prop := ls = [] ∨ ∃ b, a = some ⟨b, 0, none⟩ ∧ ∀ j, j < ls.length → w.cell? ⟨b, j, none⟩ = some (.int .u8 (ls.getD j 0))
theorem Src8.keeps {w w' : World} {a : Option Addr} {ls : List Int} (h : Src8 w a ls) (hk : Keeps [] w w') : Src8 w' a ls := by
  rcases h with h | ⟨b, h1, h2⟩
  · exact .inl h
  · exact .inr ⟨b, h1, fun j hj => hk.cell (h2 j hj) (by simp)⟩
theorem src_one (w : World) (x : Int) (t : TypeId) : Src8 (w.alloc (.cells #[.int .u8 x] t)) (some ⟨w.heap.size, 0, none⟩) [x] := by
  refine .inr ⟨_, rfl, fun j hj => ?_⟩
  match j, hj with
  | 0, _ => simp
  | j + 1, hj => simp at hj
theorem src_two (w : World) (x y : Int) (t : TypeId) : Src8 (w.alloc (.cells #[.int .u8 x, .int .u8 y] t)) (some ⟨w.heap.size, 0, none⟩) [x, y] := by
  refine .inr ⟨_, rfl, fun j hj => ?_⟩
  match j, hj with
  | 0, _ => simp
  | 1, _ => simp
  | j + 2, hj => simp at hj; omega
def KindsPost (f : Int) (w : World) (e : Ending) (w' : World) : Prop := ∃ a c, e = .returned (.slice a (kindsL f).length c) ∧ Src8 w' a (kindsL f) ∧ Keeps [] w w'
set_option maxHeartbeats 1000000 in
theorem r3Kinds_any (w : World) (f : Int) : Calls Tryz.prog 71 #[.int .u8 f] w fun e w' => KindsPost f w e w' := by
  rcases f_cases f with rfl | rfl | rfl | rfl | rfl | rfl | rfl | rfl | rfl | rfl | rfl | h
  · go_enter Tryz.func71, Tryz.ntmps71
    go_wp2
    go_ret
    exact ⟨_, _, rfl, src_one _ _ _, (Keeps.refl _ _).alloc _⟩
  · go_enter Tryz.func71, Tryz.ntmps71
    go_wp2
    go_ret
    exact ⟨_, _, rfl, src_one _ _ _, (Keeps.refl _ _).alloc _⟩
  · go_enter Tryz.func71, Tryz.ntmps71
    go_wp2
    go_ret
    exact ⟨_, _, rfl, src_two _ _ _ _, (Keeps.refl _ _).alloc _⟩
  · go_enter Tryz.func71, Tryz.ntmps71
    go_wp2
    go_ret
    exact ⟨_, _, rfl, src_one _ _ _, (Keeps.refl _ _).alloc _⟩
  · go_enter Tryz.func71, Tryz.ntmps71
    go_wp2
    go_ret
    exact ⟨_, _, rfl, src_two _ _ _ _, (Keeps.refl _ _).alloc _⟩
  · go_enter Tryz.func71, Tryz.ntmps71
    go_wp2
    go_ret
    exact ⟨_, _, rfl, src_two _ _ _ _, (Keeps.refl _ _).alloc _⟩
  · go_enter Tryz.func71, Tryz.ntmps71
    go_wp2
    go_ret
    exact ⟨_, _, rfl, src_one _ _ _, (Keeps.refl _ _).alloc _⟩
  · go_enter Tryz.func71, Tryz.ntmps71
    go_wp2
    go_ret
    exact ⟨_, _, rfl, src_two _ _ _ _, (Keeps.refl _ _).alloc _⟩
  · go_enter Tryz.func71, Tryz.ntmps71
    go_wp2
    go_ret
    exact ⟨_, _, rfl, src_two _ _ _ _, (Keeps.refl _ _).alloc _⟩
  · go_enter Tryz.func71, Tryz.ntmps71
    go_wp2
    go_ret
    exact ⟨_, _, rfl, src_two _ _ _ _, (Keeps.refl _ _).alloc _⟩
  · go_enter Tryz.func71, Tryz.ntmps71
    go_wp2
    go_ret
    exact ⟨_, _, rfl, src_two _ _ _ _, (Keeps.refl _ _).alloc _⟩
  · unfold KindsPost
    rw [kindsL_none h]
    obtain ⟨h1, h2, h3, h4, h5, h6, h7, h8, h9, h10, h11⟩ := h
    have g1 : (f == 1) = false := by simpa using h1
    have g2 : (f == 2) = false := by simpa using h2
    have g3 : (f == 3) = false := by simpa using h3
    have g4 : (f == 4) = false := by simpa using h4
    have g5 : (f == 5) = false := by simpa using h5
    have g6 : (f == 6) = false := by simpa using h6
    have g7 : (f == 7) = false := by simpa using h7
    have g8 : (f == 8) = false := by simpa using h8
    have g9 : (f == 9) = false := by simpa using h9
    have g10 : (f == 10) = false := by simpa using h10
    have g11 : (f == 11) = false := by simpa using h11
    go_enter Tryz.func71, Tryz.ntmps71
    go_wp2
    go_ret
    exact ⟨none, 0, rfl, .inl rfl, Keeps.refl _ _⟩
set_option maxHeartbeats 2000000 in
theorem r3May_any (w : World) (f k v : Int) (h0 : 0 ≤ k) (h1 : k < 256) :
    Calls Tryz.prog 60 #[.int .u8 f, .agg #[.int .u8 k, .int .u16 v]] w fun e w' => e = .returned (.int .i64 (mayOf f k v)) ∧ Keeps [] w w' := by
  have hc := fun w => Good_any w k v h0 h1
  unfold mayOf
  by_cases hg : rsGood k v = true
  · rw [if_pos hg]
    rw [hg] at hc
    generalize hR : (if k ∈ kindsL f then (0 : Int) else 10) = R at *
    have HR := Lib.hid hR; clear hR
    have hk := fun w => r3Kinds_any w f
    unfold KindsPost at hk
    have hlen := kindsL_len f
    generalize kindsL f = ls at *
    go_enter Tryz.func60, Tryz.ntmps60
    go_wp2_with fail
    refine (hc _).mono ?_; rintro e w1 ⟨rfl, hk1⟩
    have hb := boxed2 hk1
    replace hk1 := ((Keeps.refl [] w).alloc _).trans hk1 (FSub.refl _ _)
    go_wp2_with fail
    refine (hk _).mono ?_; rintro e w2 ⟨a, c, rfl, hs, hk2⟩
    have hb2 := hk2.heap hb (by simp)
    replace hk2 := hk1.trans hk2 (FSub.refl _ _)
    obtain ⟨c0, c1, hlt⟩ := cell2 hb2
    clear hb hb2 hk1
    go_wp2_with fail
    go_loopw [6] (fun i wr => ∃ j n : Nat, j ≤ ls.length ∧ i = .int .i64 j ∧ (∀ y ∈ ls.take j, y ≠ k) ∧ wr = w2.drewN n) (fun i _ => ls.length - (intOf i).toNat)
    case atStart => exact ⟨0, 0, Nat.zero_le _, rfl, by simp, rfl⟩
    case round =>
      obtain ⟨j, n, hj, rfl, hne, rfl⟩ := hrel
      have HN := Lib.hid hne; clear hne
      by_cases hlt2 : j < ls.length
      · rcases hs with rfl | ⟨b, rfl, hs⟩
        · simp at hlt2
        · have hcell : w2.cell? ⟨b, j, none⟩ = some (.int .u8 (ls.getD j 0)) := hs j hlt2
          clear hs
          have e1 : ls.take (j + 1) = ls.take j ++ [ls.getD j 0] := by
            rw [List.take_succ_eq_append_getElem hlt2]; simp [List.getD, hlt2]
          have hmem : ls.getD j 0 ∈ ls := by simp [List.getD, hlt2]
          have E1 := Lib.hid e1; clear e1
          by_cases hx : ls.getD j 0 = k
          · obtain rfl : R = 0 := HR.out.symm.trans (if_pos (hx ▸ hmem))
            rw [hx] at hcell
            clear hx HR hmem E1 HN
            go_wp2_with fail
            go_region
            go_wp2
            go_ret
            exact ⟨rfl, (hk2.drewN _).drew⟩
          · have hx2 : (ls.getD j 0 == k) = false := by simpa using hx
            generalize ls.getD j 0 = y at *
            go_wp2_with fail
            go_region
            go_wp2
            go_round
            case rel => exact ⟨j + 1, n + 1, by omega, by go_num, fun z hz => by
              rw [E1.out] at hz
              rcases List.mem_append.1 hz with h | h
              · exact HN.out z h
              · simp at h; rw [h]; exact hx, rfl⟩
            case measure => simp [intOf]; omega
      · obtain rfl : j = ls.length := by omega
        have hno : ¬ k ∈ ls := fun h => HN.out k (by rw [List.take_length]; exact h) rfl
        obtain rfl : R = 10 := HR.out.symm.trans (if_neg hno)
        clear HR
        go_wp2_with fail
        go_ret
        exact ⟨rfl, hk2.drewN _⟩
  · have hb : rsGood k v = false := by simpa using hg
    rw [if_neg hg]
    rw [hb] at hc
    go_enter Tryz.func60, Tryz.ntmps60
    go_wp2_with fail
    refine (hc _).mono ?_; rintro e w1 ⟨rfl, hk1⟩
    go_wp2_with fail
    go_ret
    exact ⟨rfl, ((Keeps.refl _ _).alloc _).trans hk1 (FSub.refl _ _)⟩
end Go.Proofs.YtlaccndjlfpjbaaGreatDoor
