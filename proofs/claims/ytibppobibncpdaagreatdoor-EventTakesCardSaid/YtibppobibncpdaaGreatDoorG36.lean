/-
  The document's Same of two lists.
-/
import Derived.Deep.QuietTactic
import Derived.BigQuiet
import Derived.Test.YtibppobibncpdaaGreatDoorG25
import Derived.Test.YtibppobibncpdaaGreatDoorG04
set_option linter.unusedSimpArgs false
set_option linter.unusedVariables false
namespace Go.Proofs.YtibppobibncpdaaGreatDoor
open Go.RowKit
set_option maxHeartbeats 4000000 in
set_option maxRecDepth 100000 in
theorem refSame_nums (w : World) {N N' : Nat} (v1 v2 : Value) (l1 l2 : List Int) (h1 : Nums N w v1 l1) (h2 : Nums N' w v2 l2) :
    Calls Tryz.prog 31 #[v1, v2] w fun e w' => e = .returned (.bool (eqB l1 l2)) ∧ ∃ q, w' = w.drewN q := by
  obtain ⟨a1, c1, rfl, hc1, hm1, h1⟩ := h1
  obtain ⟨a2, c2, rfl, hc2, hm2, h2⟩ := h2
  have hl63 : (l1.length : Int) ≤ 9223372036854775807 := by omega
  by_cases hlen : l1.length = l2.length
  · rw [← hlen]
    generalize hR : eqB l1 l2 = R at *
    have HR := Lib.hid hR; clear hR
    have HG1 := Lib.hid h1; have HG2 := Lib.hid h2; have HLE := Lib.hid hlen
    rw [← hlen] at hc2
    clear h1 h2 hlen
    go_enter Tryz.func31, Tryz.ntmps31
    go_wp2_with fail
    go_loopw [4, 5] (fun _ i wr => ∃ k q : Nat, k ≤ l1.length ∧ i = .int .i64 k ∧ (∀ j, j < k → l1.getD j 0 = l2.getD j 0) ∧ wr = w.drewN q) (fun _ i _ => l1.length - (intOf i).toNat)
    case atStart => exact ⟨0, 0, by omega, rfl, fun j hj => by omega, rfl⟩
    case round =>
      obtain ⟨k, q, hk, rfl, hp, rfl⟩ := hrel
      have HP := Lib.hid hp; clear hp
      by_cases hlt : k < l1.length
      · obtain ⟨b1, o1, rfl, _, g1⟩ := HG1.out (fun e => by rw [e] at hlt; simp at hlt)
        obtain ⟨b2, o2, rfl, _, g2⟩ := HG2.out (fun e => by have := HLE.out; rw [e] at this; simp at this; rw [this] at hlt; simp at hlt)
        have d1 := g1 k hlt
        have d2 := g2 k (by have := HLE.out; omega)
        clear g1 g2
        by_cases he : l1.getD k 0 = l2.getD k 0
        · rw [← he] at d2
          have HN := Lib.hid (prefix_next HP.out he); clear he HR HG1 HG2 HLE HP
          obtain ⟨X, hX⟩ : ∃ X, X = l1.getD k 0 := ⟨_, rfl⟩
          rw [← hX] at d1 d2
          clear hX
          have t1 : (X == X) = true := by simp
          have t2 : (X != X) = false := by simp
          have g1 : (k : Int) < (l1.length : Int) := by omega
          generalize l1.length = L at *
          go_wp2_with fail
          go_region
          go_wp2_with fail
          go_roundw
          case rel => exact ⟨k + 1, q + 1, by omega, by go_num, HN.out, rfl⟩
          case measure => simp [intOf]; omega
        · obtain rfl := HR.out.symm.trans (eqB_no (fun e => he (by rw [e])))
          clear HR HG1 HG2 HLE HP
          generalize l1.getD k 0 = X at *
          generalize l2.getD k 0 = Y at *
          have t1 : (X == Y) = false := by simpa using he
          have t2 : (X != Y) = true := by simpa using he
          clear he
          have g1 : (k : Int) < (l1.length : Int) := by omega
          generalize l1.length = L at *
          go_wp2_with fail
          go_region
          go_wp2_with fail
          go_ret
          exact ⟨rfl, _, rfl⟩
      · obtain rfl : k = l1.length := by omega
        obtain rfl := HR.out.symm.trans ((eqB_iff l1 l2).2 (ext_getD HLE.out HP.out))
        clear HR HG1 HG2 HLE HP
        go_wp2_with fail
        go_ret
        exact ⟨rfl, _, rfl⟩
  · have e : eqB l1 l2 = false := eqB_no (fun e => hlen (by rw [e]))
    rw [e]
    have z : ¬ (l1.length : Int) = (l2.length : Int) := by omega
    have z2 : ((l1.length : Int) != (l2.length : Int)) = true := by simpa using z
    clear h1 h2
    go_enter Tryz.func31, Tryz.ntmps31
    go_wp2_with fail
    go_ret
    exact ⟨rfl, 0, rfl⟩
/-- The document's small helpers: a number's bytes, a bit's worth. -/
theorem refn_any (w : World) (m : Int) (W : Nat) (hW : W ≤ 4) : Calls Tryz.prog 21 #[.int .i64 m, .int .i64 W] w fun e w' => e = .returned (.string (strOfNums (lastBytes W (IntKind.u32.wrap m)))) ∧ Keeps [] w w' := by
  have h0 : 0 ≤ IntKind.u32.wrap m := by simp [IntKind.wrap, IntKind.bits, IntKind.signed]; omega
  have h1 : IntKind.u32.wrap m < 4294967296 := by simp [IntKind.wrap, IntKind.bits, IntKind.signed]; omega
  have hc := fun w => refNumber_any w (IntKind.u32.wrap m) h0 h1 W hW
  have HC := Lib.hid hc
  clear hc h0 h1
  generalize strOfNums (lastBytes W (IntKind.u32.wrap m)) = S at *
  go_enter Tryz.func21, Tryz.ntmps21
  go_wp2_with fail
  refine (HC.out _).mono ?_; rintro e w1 ⟨rfl, hk⟩
  go_wp2_with fail
  go_ret
  exact ⟨rfl, hk⟩
theorem refbit_any (w : World) (b : Bool) (m : Int) : Calls Tryz.prog 22 #[.bool b, .int .i64 m] w fun e w' => e = .returned (.int .i64 (if b then m else 0)) ∧ w = w' := by
  cases b
  all_goals
    go_enter Tryz.func22, Tryz.ntmps22
    go_wp2_with fail
    go_ret
    exact ⟨rfl, rfl⟩
end Go.Proofs.YtibppobibncpdaaGreatDoor
