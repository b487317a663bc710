/-
  same, few: lists of words compared, and gone through.
-/
import Derived.Test.YtllloahimfkmfaaDoorOr
import Derived.BigQuiet
namespace Go.Proofs.YtllloahimfkmfaaDoor
open Go.RowKit
set_option maxHeartbeats 4000000 in
set_option maxRecDepth 100000 in
theorem same4_any (w : World) {N N' : Nat} (v1 v2 : Value) (l : List (List UInt8)) (h1 : Strs N w v1 l) (h2 : Strs N' w v2 l) :
    Calls Tryd.prog 13 #[v1, v2] w fun e w' => e = .returned (.bool true) ∧ Keeps [] w w' := by
  obtain ⟨a1, c1, rfl, hc1, hm1, h1⟩ := h1
  obtain ⟨a2, c2, rfl, hc2, hm2, h2⟩ := h2
  by_cases hn : l = []
  · subst hn
    go_enter Tryd.func13, Tryd.ntmps13
    go_wp2_with fail
    refine wp_loop_rounds 1 ?_
    rw [rounds_succ]
    go_wp2_with fail
    go_ret
    exact ⟨rfl, Keeps.refl _ _⟩
  · obtain ⟨b1, o1, rfl, _, g1⟩ := h1 hn
    obtain ⟨b2, o2, rfl, _, g2⟩ := h2 hn
    have hl63 : (l.length : Int) ≤ 9223372036854775807 := by omega
    have HG1 := Lib.hid g1; have HG2 := Lib.hid g2
    clear g1 g2 h1 h2 hn
    go_enter Tryd.func13, Tryd.ntmps13
    go_wp2_with fail
    go_loopw [5] (fun i wr => ∃ k q : Nat, k ≤ l.length ∧ i = .int .i64 k ∧ wr = w.drewN q) (fun i _ => l.length - (intOf i).toNat)
    case atStart => exact ⟨0, 0, by omega, rfl, rfl⟩
    case round =>
      obtain ⟨k, q, hk, rfl, rfl⟩ := hrel
      by_cases hlt : k < l.length
      · have d1 := HG1.out k hlt
        have d2 := HG2.out k hlt
        have t1 : (!((bs (l.getD k [])).toList == (bs (l.getD k [])).toList)) = false := by simp
        have t2 : ((bs (l.getD k [])).toList == (bs (l.getD k [])).toList) = true := by simp
        generalize bs (l.getD k []) = S at *
        generalize l.length = L at *
        go_wp2_with fail
        go_region
        go_wp2_with fail
        go_roundw
        case rel => exact ⟨k + 1, q + 1, by omega, by go_num, rfl⟩
        case measure => simp [intOf]; omega
      · obtain rfl : k = l.length := by omega
        go_wp2_with fail
        go_ret
        exact ⟨rfl, (Keeps.refl _ _).drewN q⟩
/-- What few asks. -/
def fewOf (l : List (List UInt8)) : Bool := decide (l.length ≤ 10) && l.all (fun s => decide (s.length ≤ 100))
theorem few_all {l : List (List UInt8)} (h : fewOf l = true) : l.length ≤ 10 ∧ ∀ j, (l.getD j []).length ≤ 1000 := by
  simp only [fewOf, Bool.and_eq_true, decide_eq_true_eq, List.all_eq_true] at h
  refine ⟨h.1, fun j => ?_⟩
  by_cases hj : j < l.length
  · rw [List.getD_eq_getElem?_getD, List.getElem?_eq_getElem hj]
    have := h.2 _ (List.getElem_mem hj)
    simp only [Option.getD_some]; omega
  · rw [List.getD_eq_getElem?_getD, List.getElem?_eq_none (by omega)]; simp
/-- few: whatever it tells, true is told of few words alone. -/
theorem few_yes {l : List (List UInt8)} (h1 : l.length ≤ 10) (h2 : ∀ j, j < l.length → (l.getD j []).length ≤ 100) : fewOf l = true := by
  simp only [fewOf, Bool.and_eq_true, decide_eq_true_eq, List.all_eq_true]
  refine ⟨h1, fun s hs => ?_⟩
  obtain ⟨j, hj, rfl⟩ := List.getElem_of_mem hs
  have := h2 j hj
  rwa [List.getD_eq_getElem?_getD, List.getElem?_eq_getElem hj] at this
theorem few_no1 {l : List (List UInt8)} {j : Nat} (hj : j < l.length) (h : ¬ (l.getD j []).length ≤ 100) : fewOf l = false := by
  rcases bool_two (fewOf l) with hf | hf
  · simp only [fewOf, Bool.and_eq_true, decide_eq_true_eq, List.all_eq_true] at hf
    refine absurd (hf.2 _ (List.getElem_mem hj)) ?_
    rwa [List.getD_eq_getElem?_getD, List.getElem?_eq_getElem hj] at h
  · exact hf
theorem few_no2 {l : List (List UInt8)} (h : ¬ l.length ≤ 10) : fewOf l = false := by simp [fewOf, h]
set_option maxHeartbeats 4000000 in
set_option maxRecDepth 100000 in
theorem few4_any (w : World) {N : Nat} (v : Value) (l : List (List UInt8)) (h : Strs N w v l) (hmax : ∀ j, j < l.length → (bs (l.getD j [])).size ≤ 9223372036854775807) :
    Calls Tryd.prog 7 #[v] w fun e w' => e = .returned (.bool (fewOf l)) ∧ Keeps [] w w' := by
  generalize hFF : fewOf l = FF at *
  have HFF := Lib.hid hFF; clear hFF
  obtain ⟨a1, c1, rfl, hc1, hm1, h1⟩ := h
  have hl63 : (l.length : Int) ≤ 9223372036854775807 := by omega
  have HG1 := Lib.hid h1
  have HMX := Lib.hid hmax
  clear h1 hmax
  go_enter Tryd.func7, Tryd.ntmps7
  go_wp2_with fail
  go_loopw [3] (fun i wr => ∃ k : Nat, k ≤ l.length ∧ k ≤ 20 ∧ i = .int .i64 k ∧ (∀ j, j < k → (l.getD j []).length ≤ 100) ∧ wr = w) (fun i _ => 20 - (intOf i).toNat)
  case atStart => exact ⟨0, by omega, by omega, rfl, fun j hj => by omega, rfl⟩
  case round =>
    obtain ⟨k, hk, hk20, rfl, hall, rfl⟩ := hrel
    have HALL := Lib.hid hall; clear hall
    by_cases hlt : k < l.length
    · by_cases h20 : k < 20
      · obtain ⟨b1, o1, rfl, _, g1⟩ := HG1.out (fun e => by rw [e] at hlt; simp at hlt)
        have d1 := g1 k hlt
        have hsz := HMX.out k hlt
        have hbs : (bs (l.getD k [])).size = (l.getD k []).length := bs_size _
        clear g1
        by_cases h100 : (l.getD k []).length ≤ 100
        · have z1 : ¬ 100 < ((bs (l.getD k [])).size : Int) := by omega
          have H100 := Lib.hid h100
          clear hbs h100
          generalize bs (l.getD k []) = S at *
          go_wp2_with fail
          go_roundw
          case rel => exact ⟨k + 1, by omega, by omega, by go_num, fun j hj => by rcases (by omega : j < k ∨ j = k) with h | rfl; exact HALL.out j h; exact H100.out, trivial⟩
          case measure => simp [intOf]; omega
        · have z1 : 100 < ((bs (l.getD k [])).size : Int) := by omega
          obtain rfl := HFF.out.symm.trans (few_no1 hlt h100)
          clear hbs h100
          generalize bs (l.getD k []) = S at *
          go_wp2_with fail
          go_ret
          exact ⟨rfl, Keeps.refl _ _⟩
      · have z10 : ¬ (l.length : Int) ≤ 10 := by omega
        obtain rfl := HFF.out.symm.trans (few_no2 (by omega))
        go_wp2_with fail
        go_ret
        exact ⟨rfl, Keeps.refl _ _⟩
    · obtain rfl : k = l.length := by omega
      by_cases h10 : l.length ≤ 10
      · have hf := few_yes h10 (fun j hj => HALL.out j hj)
        have z10 : (l.length : Int) ≤ 10 := by omega
        obtain rfl := HFF.out.symm.trans hf
        clear hf
        go_wp2_with fail
        go_ret
        exact ⟨rfl, Keeps.refl _ _⟩
      · have z10 : ¬ (l.length : Int) ≤ 10 := by omega
        obtain rfl := HFF.out.symm.trans (few_no2 h10)
        go_wp2_with fail
        go_ret
        exact ⟨rfl, Keeps.refl _ _⟩
end Go.Proofs.YtllloahimfkmfaaDoor
