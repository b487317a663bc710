/-
  When two slices are the same: numbers, micros, slices of numbers.
-/
import Derived.Test.YtiljdehhjiahdaaGreatDoorG16
set_option linter.unusedSimpArgs false
set_option linter.unusedVariables false
namespace Go.Proofs.YtiljdehhjiahdaaGreatDoor
open Go.RowKit
theorem ext_getD {l m : List Int} (hl : l.length = m.length) (h : ∀ j, j < l.length → l.getD j 0 = m.getD j 0) : l = m := by
  apply List.ext_getElem hl
  intro i h1 h2
  have := h i h1
  simpa [List.getD, List.getElem?_eq_getElem h1, List.getElem?_eq_getElem h2] using this
theorem prefix_next {α : Type} {l m : List α} {d : α} {k : Nat} (h : ∀ j, j < k → l.getD j d = m.getD j d) (hk : l.getD k d = m.getD k d) : ∀ j, j < k + 1 → l.getD j d = m.getD j d := by
  intro j hj
  rcases (by omega : j < k ∨ j = k) with h1 | rfl
  · exact h j h1
  · exact hk
set_option maxHeartbeats 4000000 in
set_option maxRecDepth 100000 in
theorem u16Equal_any (w : World) {N N' : Nat} (v1 v2 : Value) (l1 l2 : List Int) (h1 : Nums N w v1 l1) (h2 : Nums N' w v2 l2) :
    Calls Tryz.prog 28 #[v1, v2] w fun e w' => e = .returned (.bool (eqB l1 l2)) ∧ Keeps [] w w' := by
  obtain ⟨a1, c1, rfl, hc1, hm1, h1⟩ := h1
  obtain ⟨a2, c2, rfl, hc2, hm2, h2⟩ := h2
  have hl63 : (l1.length : Int) ≤ 9223372036854775807 := by omega
  by_cases hlen : l1.length = l2.length
  · rw [← hlen]
    generalize hR : eqB l1 l2 = R at *
    have HR := Lib.hid hR; clear hR
    have HG1 := Lib.hid h1; have HG2 := Lib.hid h2; have HLE := Lib.hid hlen
    rw [← hlen] at hc2
    clear h1 h2 hlen
    go_enter Tryz.func28, Tryz.ntmps28
    go_wp2_with fail
    go_loopw [5, 13] (fun _ i wr => ∃ k q : Nat, k ≤ l1.length ∧ i = .int .i64 k ∧ (∀ j, j < k → l1.getD j 0 = l2.getD j 0) ∧ wr = w.drewN q) (fun _ i _ => l1.length - (intOf i).toNat)
    case atStart => exact ⟨0, 0, by omega, rfl, fun j hj => by omega, rfl⟩
    case round =>
      obtain ⟨k, q, hk, rfl, hp, rfl⟩ := hrel
      have HP := Lib.hid hp; clear hp
      by_cases hlt : k < l1.length
      · obtain ⟨b1, o1, rfl, _, g1⟩ := HG1.out (fun e => by rw [e] at hlt; simp at hlt)
        obtain ⟨b2, o2, rfl, _, g2⟩ := HG2.out (fun e => by have := HLE.out; rw [e] at this; simp at this; rw [this] at hlt; simp at hlt)
        have d1 := g1 k hlt
        have d2 := g2 k (by have := HLE.out; omega)
        clear g1 g2
        by_cases he : l1.getD k 0 = l2.getD k 0
        · rw [← he] at d2
          have HN := Lib.hid (prefix_next HP.out he); clear he HR HG1 HG2 HLE HP
          obtain ⟨X, hX⟩ : ∃ X, X = l1.getD k 0 := ⟨_, rfl⟩
          rw [← hX] at d1 d2
          clear hX
          have t1 : (X == X) = true := by simp
          have t2 : (X != X) = false := by simp
          generalize l1.length = L at *
          go_wp2_with fail
          go_region
          go_wp2_with fail
          go_roundw
          case rel => exact ⟨k + 1, q + 1, by omega, by go_num, HN.out, rfl⟩
          case measure => simp [intOf]; omega
        · obtain rfl := HR.out.symm.trans (eqB_no (fun e => he (by rw [e])))
          clear HR HG1 HG2 HLE HP
          generalize l1.getD k 0 = X at *
          generalize l2.getD k 0 = Y at *
          have t1 : (X == Y) = false := by simpa using he
          have t2 : (X != Y) = true := by simpa using he
          clear he
          generalize l1.length = L at *
          go_wp2_with fail
          go_region
          go_wp2_with fail
          go_ret
          exact ⟨rfl, (Keeps.refl _ _).drewN _⟩
      · obtain rfl : k = l1.length := by omega
        obtain rfl := HR.out.symm.trans ((eqB_iff l1 l2).2 (ext_getD HLE.out HP.out))
        clear HR HG1 HG2 HLE HP
        go_wp2_with fail
        go_ret
        exact ⟨rfl, (Keeps.refl _ _).drewN q⟩
  · have e : eqB l1 l2 = false := eqB_no (fun e => hlen (by rw [e]))
    rw [e]
    have z : ¬ (l1.length : Int) = (l2.length : Int) := by omega
    have z2 : ((l1.length : Int) != (l2.length : Int)) = true := by simpa using z
    clear h1 h2
    go_enter Tryz.func28, Tryz.ntmps28
    go_wp2_with fail
    go_ret
    exact ⟨rfl, Keeps.refl _ _⟩
def micZero : Mic := ⟨false, 0, 0⟩
theorem ext_mics {l m : List Mic} (hl : l.length = m.length) (h : ∀ j, j < l.length → l.getD j micZero = m.getD j micZero) : l = m := by
  apply List.ext_getElem hl
  intro i h1 h2
  have := h i h1
  simpa [List.getD, List.getElem?_eq_getElem h1, List.getElem?_eq_getElem h2] using this
theorem getD_some {α : Type} {l : List α} {k : Nat} (d : α) (h : k < l.length) : l[k]? = some (l.getD k d) := by
  simp [List.getD, List.getElem?_eq_getElem h]
set_option maxHeartbeats 4000000 in
set_option maxRecDepth 100000 in
theorem micsEqual_any (w : World) {N N' : Nat} (v1 v2 : Value) (l1 l2 : List Mic) (h1 : Mics N w v1 l1) (h2 : Mics N' w v2 l2) :
    Calls Tryz.prog 26 #[v1, v2] w fun e w' => e = .returned (.bool (eqB l1 l2)) ∧ Keeps [] w w' := by
  obtain ⟨a1, c1, rfl, hc1, hm1, h1⟩ := h1
  obtain ⟨a2, c2, rfl, hc2, hm2, h2⟩ := h2
  have hl63 : (l1.length : Int) ≤ 9223372036854775807 := by omega
  by_cases hlen : l1.length = l2.length
  · rw [← hlen]
    generalize hR : eqB l1 l2 = R at *
    have HR := Lib.hid hR; clear hR
    have HG1 := Lib.hid h1; have HG2 := Lib.hid h2; have HLE := Lib.hid hlen
    rw [← hlen] at hc2
    clear h1 h2 hlen
    go_enter Tryz.func26, Tryz.ntmps26
    go_wp2_with fail
    go_loopw [5, 13] (fun _ i wr => ∃ k q : Nat, k ≤ l1.length ∧ i = .int .i64 k ∧ (∀ j, j < k → l1.getD j micZero = l2.getD j micZero) ∧ wr = w.drewN q) (fun _ i _ => l1.length - (intOf i).toNat)
    case atStart => exact ⟨0, 0, by omega, rfl, fun j hj => by omega, rfl⟩
    case round =>
      obtain ⟨k, q, hk, rfl, hp, rfl⟩ := hrel
      have HP := Lib.hid hp; clear hp
      by_cases hlt : k < l1.length
      · obtain ⟨b1, o1, rfl, _, g1⟩ := HG1.out (fun e => by rw [e] at hlt; simp at hlt)
        obtain ⟨b2, o2, rfl, _, g2⟩ := HG2.out (fun e => by have := HLE.out; rw [e] at this; simp at this; rw [this] at hlt; simp at hlt)
        obtain ⟨d1, d2, d3⟩ := g1 k _ (getD_some micZero hlt)
        obtain ⟨d4, d5, d6⟩ := g2 k _ (getD_some micZero (by have := HLE.out; omega))
        clear g1 g2
        by_cases he : l1.getD k micZero = l2.getD k micZero
        · rw [← he] at d4 d5 d6
          have HN := Lib.hid (prefix_next HP.out he); clear he HR HG1 HG2 HLE HP
          obtain ⟨X, hX⟩ : ∃ X, X = l1.getD k micZero := ⟨_, rfl⟩
          rw [← hX] at d1 d2 d3 d4 d5 d6
          clear hX
          obtain ⟨x1, x2, x3⟩ := X
          simp only at d1 d2 d3 d4 d5 d6
          generalize l1.length = L at *
          go_wp2_with fail
          go_region
          go_wp2_with fail
          go_roundw
          case rel => exact ⟨k + 1, q + 1, by omega, by go_num, HN.out, rfl⟩
          case measure => simp [intOf]; omega
        · obtain rfl := HR.out.symm.trans (eqB_no (fun e => he (by rw [e])))
          clear HR HG1 HG2 HLE HP
          generalize l1.getD k micZero = X at *
          generalize l2.getD k micZero = Y at *
          obtain ⟨x1, x2, x3⟩ := X
          obtain ⟨y1, y2, y3⟩ := Y
          simp only at d1 d2 d3 d4 d5 d6
          have ways : (x1 = true ∧ y1 = false) ∨ (x1 = false ∧ y1 = true) ∨ (x1 = y1 ∧ (x2 == y2) = false) ∨ (x1 = y1 ∧ x2 = y2 ∧ (x3 == y3) = false) := by
            cases x1 <;> cases y1 <;> simp at he ⊢ <;> omega
          clear he
          generalize l1.length = L at *
          rcases ways with ⟨rfl, rfl⟩ | ⟨rfl, rfl⟩ | ⟨rfl, t1⟩ | ⟨rfl, rfl, t1⟩
          all_goals
            go_wp2_with fail
            go_region
            go_wp2_with fail
            go_ret
            exact ⟨rfl, (Keeps.refl _ _).drewN _⟩
      · obtain rfl : k = l1.length := by omega
        obtain rfl := HR.out.symm.trans ((eqB_iff l1 l2).2 (ext_mics HLE.out HP.out))
        clear HR HG1 HG2 HLE HP
        go_wp2_with fail
        go_ret
        exact ⟨rfl, (Keeps.refl _ _).drewN q⟩
  · have e : eqB l1 l2 = false := eqB_no (fun e => hlen (by rw [e]))
    rw [e]
    have z : ¬ (l1.length : Int) = (l2.length : Int) := by omega
    have z2 : ((l1.length : Int) != (l2.length : Int)) = true := by simpa using z
    clear h1 h2
    go_enter Tryz.func26, Tryz.ntmps26
    go_wp2_with fail
    go_ret
    exact ⟨rfl, Keeps.refl _ _⟩
theorem ext_lists {l m : List (List Int)} (hl : l.length = m.length) (h : ∀ j, j < l.length → l.getD j [] = m.getD j []) : l = m := by
  apply List.ext_getElem hl
  intro i h1 h2
  have := h i h1
  simpa [List.getD, List.getElem?_eq_getElem h1, List.getElem?_eq_getElem h2] using this
set_option maxHeartbeats 4000000 in
set_option maxRecDepth 100000 in
theorem listsEqual_any (w : World) {N N' : Nat} (v1 v2 : Value) (l1 l2 : List (List Int)) (h1 : Lists N w v1 l1) (h2 : Lists N' w v2 l2) (hN : N ≤ w.heap.size) (hN' : N' ≤ w.heap.size) :
    Calls Tryz.prog 27 #[v1, v2, .func (.func 28) #[] #[]] w fun e w' => e = .returned (.bool (eqB l1 l2)) ∧ Keeps [] w w' := by
  obtain ⟨a1, c1, rfl, hc1, hm1, h1⟩ := h1
  obtain ⟨a2, c2, rfl, hc2, hm2, h2⟩ := h2
  have hl63 : (l1.length : Int) ≤ 9223372036854775807 := by omega
  by_cases hlen : l1.length = l2.length
  · rw [← hlen]
    generalize hR : eqB l1 l2 = R at *
    have HR := Lib.hid hR; clear hR
    have HG1 := Lib.hid h1; have HG2 := Lib.hid h2; have HLE := Lib.hid hlen
    rw [← hlen] at hc2
    clear h1 h2 hlen
    go_enter Tryz.func27, Tryz.ntmps27
    go_wp2_with fail
    go_loopw [7, 8, 9, 17] (fun _ _ _ i wr => ∃ k : Nat, k ≤ l1.length ∧ i = .int .i64 k ∧ (∀ j, j < k → l1.getD j [] = l2.getD j []) ∧ Keeps [] w wr) (fun _ _ _ i _ => l1.length - (intOf i).toNat)
    case atStart => exact ⟨0, by omega, rfl, fun j hj => by omega, Keeps.refl _ _⟩
    case round =>
      obtain ⟨k, hk, rfl, hp, hkp⟩ := hrel
      have HP := Lib.hid hp; clear hp
      by_cases hlt : k < l1.length
      · obtain ⟨b1, o1, rfl, _, g1⟩ := HG1.out (fun e => by rw [e] at hlt; simp at hlt)
        obtain ⟨b2, o2, rfl, _, g2⟩ := HG2.out (fun e => by have := HLE.out; rw [e] at this; simp at this; rw [this] at hlt; simp at hlt)
        obtain ⟨u1, d1, n1⟩ := g1 k hlt
        obtain ⟨u2, d2, n2⟩ := g2 k (by have := HLE.out; omega)
        replace d1 := hkp.cell d1 (by simp)
        replace d2 := hkp.cell d2 (by simp)
        have hc := u16Equal_any wr u1 u2 _ _ (n1.same (hkp.same hN (by simp))) (n2.same (hkp.same hN' (by simp)))
        clear g1 g2 n1 n2
        by_cases he : l1.getD k [] = l2.getD k []
        · have HN := Lib.hid (prefix_next HP.out he)
          rw [(eqB_iff _ _).2 he] at hc
          clear he HR HG1 HG2 HLE HP
          generalize l1.length = L at *
          go_wp2_with fail
          refine hc.mono ?_; rintro e w1 ⟨rfl, hk1⟩
          go_wp2_with fail
          go_roundw
          case rel => exact ⟨k + 1, by omega, by go_num, HN.out, hkp.trans hk1 (FSub.refl _ _)⟩
          case measure => simp [intOf]; omega
        · obtain rfl := HR.out.symm.trans (eqB_no (fun e => he (by rw [e])))
          rw [eqB_no he] at hc
          clear he HR HG1 HG2 HLE HP
          generalize l1.length = L at *
          go_wp2_with fail
          refine hc.mono ?_; rintro e w1 ⟨rfl, hk1⟩
          go_wp2_with fail
          go_ret
          exact ⟨rfl, hkp.trans hk1 (FSub.refl _ _)⟩
      · obtain rfl : k = l1.length := by omega
        obtain rfl := HR.out.symm.trans ((eqB_iff l1 l2).2 (ext_lists HLE.out HP.out))
        clear HR HG1 HG2 HLE HP
        go_wp2_with fail
        go_ret
        exact ⟨rfl, hkp⟩
  · have e : eqB l1 l2 = false := eqB_no (fun e => hlen (by rw [e]))
    rw [e]
    have z : ¬ (l1.length : Int) = (l2.length : Int) := by omega
    have z2 : ((l1.length : Int) != (l2.length : Int)) = true := by simpa using z
    clear h1 h2
    go_enter Tryz.func27, Tryz.ntmps27
    go_wp2_with fail
    go_ret
    exact ⟨rfl, Keeps.refl _ _⟩
end Go.Proofs.YtiljdehhjiahdaaGreatDoor
