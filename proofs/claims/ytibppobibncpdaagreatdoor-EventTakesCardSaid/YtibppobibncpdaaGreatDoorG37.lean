/-
  The document's Same of two events that differ in their lists alone.
-/
import Derived.Test.YtibppobibncpdaaGreatDoorG36
import Derived.Test.YtibppobibncpdaaGreatDoorG26
set_option linter.unusedSimpArgs false
set_option linter.unusedVariables false
namespace Go.Proofs.YtibppobibncpdaaGreatDoor
open Go.RowKit
theorem eqB_two {α β : Type} {a b : α} {c d : β} (R : Bool) (h : (eqB a b && eqB c d) = R) : (a ≠ b → R = false) ∧ (c ≠ d → R = false) ∧ (a = b → c = d → R = true) := by
  subst h
  refine ⟨fun h => by rw [eqB_no h]; rfl, fun h => by rw [eqB_no h]; simp, fun h k => by rw [(eqB_iff _ _).2 h, (eqB_iff _ _).2 k]; rfl⟩
set_option maxHeartbeats 8000000 in
set_option maxRecDepth 100000 in
theorem refSame5_lists (w : World) (a : Ev) (t' : List Mic) (r' : List (List Int)) {N N' : Nat} (tx rd tx' rd' : Value) (ha : EvAt N w tx rd a) (hbt : Mics N' w tx' t') (hbr : Lists N' w rd' r') (hN : N ≤ w.heap.size) (hN' : N' ≤ w.heap.size) (ht : a.t.length = t'.length) (hr : a.r.length = r'.length) :
    Calls Tryz.prog 12 #[.agg (evC a tx rd), .agg (evC a tx' rd')] w fun e w' => e = .returned (.bool (eqB a.t t' && eqB a.r r')) ∧ Keeps [] w w' := by
  have hk0 : Keeps [] w ((w.alloc (.cells (evC a tx rd) 32)).alloc (.cells (evC a tx' rd') 32)) := ((Keeps.refl [] w).alloc _).alloc _
  have ha2 := ha.new hk0 hN
  have hb2 := hbt.same (hk0.same hN' (by simp))
  have hb3 := hbr.same (hk0.same hN' (by simp))
  have HK0 := Lib.hid hk0
  generalize hR : (eqB a.t t' && eqB a.r r') = R at *
  obtain ⟨hr1, hr2, hr3⟩ := eqB_two R hR
  have HR1 := Lib.hid hr1; have HR2 := Lib.hid hr2; have HR3 := Lib.hid hr3
  clear ha hbt hbr hk0 hR hr1 hr2 hr3
  have E0 := evC_0 a tx rd; have F0 := evC_0 a tx' rd'
  have E1 := evC_1 a tx rd; have F1 := evC_1 a tx' rd'
  have E2 := evC_2 a tx rd; have F2 := evC_2 a tx' rd'
  have E3 := evC_3 a tx rd; have F3 := evC_3 a tx' rd'
  have E4 := evC_4 a tx rd; have F4 := evC_4 a tx' rd'
  have E5 := evC_5 a tx rd; have F5 := evC_5 a tx' rd'
  have E6 := evC_6 a tx rd; have F6 := evC_6 a tx' rd'
  have E7 := evC_7 a tx rd; have F7 := evC_7 a tx' rd'
  have E8 := evC_8 a tx rd; have F8 := evC_8 a tx' rd'
  have E9 := evC_9 a tx rd; have F9 := evC_9 a tx' rd'
  have E10 := evC_10 a tx rd; have F10 := evC_10 a tx' rd'
  have E11 := evC_11 a tx rd; have F11 := evC_11 a tx' rd'
  have E12 := evC_12 a tx rd; have F12 := evC_12 a tx' rd'
  have E13 := evC_13 a tx rd; have F13 := evC_13 a tx' rd'
  have E14 := evC_14 a tx rd; have F14 := evC_14 a tx' rd'
  have E15 := evC_15 a tx rd; have F15 := evC_15 a tx' rd'
  have E16 := evC_16 a tx rd; have F16 := evC_16 a tx' rd'
  have E17 := evC_17 a tx rd; have F17 := evC_17 a tx' rd'
  have E18 := evC_18 a tx rd; have F18 := evC_18 a tx' rd'
  obtain ⟨a1, c1, e1, hc1, hm1, hma⟩ := ha2.t
  obtain ⟨a2, c2, e2, hc2, hm2, hla⟩ := ha2.r
  obtain ⟨a3, c3, e3, hc3, hm3, hmb⟩ := hb2
  obtain ⟨a4, c4, e4, hc4, hm4, hlb⟩ := hb3
  replace E10 := E10.trans (congrArg some e1); replace E11 := E11.trans (congrArg some e2); replace F10 := F10.trans (congrArg some e3); replace F11 := F11.trans (congrArg some e4)
  clear e1 e2 e3 e4
  have HM := Lib.hid hma; have HL := Lib.hid hla; have HMB := Lib.hid hmb; have HLB := Lib.hid hlb
  clear ha2 hma hla hmb hlb
  have HTL := Lib.hid ht; have HRL := Lib.hid hr
  rw [← ht] at F10 hc3
  rw [← hr] at F11 hc4
  clear ht hr
  have hl1 : (a.t.length : Int) ≤ 9223372036854775807 := by omega
  have hl2 : (a.r.length : Int) ≤ 9223372036854775807 := by omega
  have t1 : ((a.t.length : Int) != (a.t.length : Int)) = false := by simp
  have t2 : ((a.r.length : Int) != (a.r.length : Int)) = false := by simp
  go_enter Tryz.func12, Tryz.ntmps12
  have hX : ((w.alloc (.cells (evC a tx rd) 32)).alloc (.cells (evC a tx' rd') 32)).heap[w.heap.size]? = some (.cells (evC a tx rd) 32) := heap_alloc_lt (heap_alloc_new w _)
  have hY : ((w.alloc (.cells (evC a tx rd) 32)).alloc (.cells (evC a tx' rd') 32)).heap[w.heap.size + 1]? = some (.cells (evC a tx' rd') 32) := heap_alloc_at (by simp)
  go_wp2_with fail
  have c10 := ev_cell hX 10 E10; have d10 := ev_cell hY 10 F10; have c11 := ev_cell hX 11 E11; have d11 := ev_cell hY 11 F11
  clear hX hY E0 E1 E2 E3 E4 E5 E6 E7 E8 E9 E10 E11 E12 E13 E14 E15 E16 E17 E18 F0 F1 F2 F3 F4 F5 F6 F7 F8 F9 F10 F11 F12 F13 F14 F15 F16 F17 F18
  have hw0 := HK0.out.size
  replace hN := Nat.le_trans hN hw0
  replace hN' := Nat.le_trans hN' hw0
  clear hw0
  generalize (w.alloc (.cells (evC a tx rd) 32)).alloc (.cells (evC a tx' rd') 32) = W0 at *
  generalize evC a tx rd = CA at *
  generalize evC a tx' rd' = CB at *
  generalize w.heap.size = B at *
  go_loopw [4, 5] (fun _ i wr => ∃ k q : Nat, k ≤ a.t.length ∧ i = .int .i64 k ∧ (∀ j, j < k → a.t.getD j micZero = t'.getD j micZero) ∧ wr = W0.drewN q) (fun _ i _ => a.t.length - (intOf i).toNat)
  case atStart => exact ⟨0, 0, by omega, rfl, fun j hj => by omega, rfl⟩
  case round =>
    obtain ⟨k, q, hk, rfl, hp, rfl⟩ := hrel
    have HP := Lib.hid hp; clear hp
    by_cases hlt : k < a.t.length
    · obtain ⟨b1, o1, rfl, _, g1⟩ := HM.out (fun e => by rw [e] at hlt; simp at hlt)
      obtain ⟨b2, o2, rfl, _, g2⟩ := HMB.out (fun e => by have := HTL.out; rw [e] at this; simp at this; rw [this] at hlt; simp at hlt)
      obtain ⟨d1, d2, d3⟩ := g1 k _ (getD_some micZero hlt)
      obtain ⟨d4, d5, d6⟩ := g2 k _ (getD_some micZero (by have := HTL.out; omega))
      have y1 : (k : Int) < (a.t.length : Int) := by omega
      clear g1 g2
      by_cases he : a.t.getD k micZero = t'.getD k micZero
      · rw [← he] at d4 d5 d6
        have HN := Lib.hid (prefix_next HP.out he); clear he HR1 HR2 HR3 HM HMB HL HLB HTL HRL HP
        obtain ⟨X, hX⟩ : ∃ X, X = a.t.getD k micZero := ⟨_, rfl⟩
        rw [← hX] at d1 d2 d3 d4 d5 d6
        clear hX
        obtain ⟨x1, x2, x3⟩ := X
        simp only at d1 d2 d3 d4 d5 d6
        generalize a.t.length = L at *
        go_wp2_with fail
        go_region
        go_wp2_with fail
        go_roundw
        case rel => exact ⟨k + 1, q + 1, by omega, by go_num, HN.out, rfl⟩
        case measure => simp [intOf]; omega
      · obtain rfl := HR1.out (fun e => he (by rw [e]))
        clear HR1 HR2 HR3 HM HMB HL HLB HTL HRL HP
        generalize a.t.getD k micZero = X at *
        generalize t'.getD k micZero = Y at *
        obtain ⟨x1, x2, x3⟩ := X
        obtain ⟨y1, y2, y3⟩ := Y
        simp only at d1 d2 d3 d4 d5 d6
        have ways : (x1 = true ∧ y1 = false) ∨ (x1 = false ∧ y1 = true) ∨ (x1 = y1 ∧ (x2 == y2) = false) ∨ (x1 = y1 ∧ x2 = y2 ∧ (x3 == y3) = false) := by
          cases x1 <;> cases y1 <;> simp at he ⊢ <;> omega
        clear he
        generalize a.t.length = L at *
        rcases ways with ⟨rfl, rfl⟩ | ⟨rfl, rfl⟩ | ⟨rfl, t1⟩ | ⟨rfl, rfl, t1⟩
        all_goals
          go_wp2_with fail
          go_region
          go_wp2_with fail
          go_ret
          exact ⟨rfl, HK0.out.drewN _⟩
    · obtain rfl : k = a.t.length := by omega
      have hte := ext_mics HTL.out HP.out
      replace HR3 := Lib.hid (HR3.out hte)
      clear hte HR1 HP HTL HM HMB
      go_wp2_with fail
      have HKQ := Lib.hid ((Keeps.refl [] W0).drewN q)
      generalize W0.drewN q = W1 at *
      go_loopw [4, 6] (fun _ i wr => ∃ k : Nat, k ≤ a.r.length ∧ i = .int .i64 k ∧ (∀ j, j < k → a.r.getD j [] = r'.getD j []) ∧ Keeps [] W0 wr) (fun _ i _ => a.r.length - (intOf i).toNat)
      case atStart => exact ⟨0, by omega, rfl, fun j hj => by omega, HKQ.out⟩
      case round =>
        obtain ⟨k, hk, rfl, hp, hkw⟩ := hrel
        have HP := Lib.hid hp; clear hp
        replace c11 := hkw.cell c11 (by simp)
        replace d11 := hkw.cell d11 (by simp)
        by_cases hlt : k < a.r.length
        · obtain ⟨b1, o1, rfl, _, g1⟩ := HL.out (fun e => by rw [e] at hlt; simp at hlt)
          obtain ⟨b2, o2, rfl, _, g2⟩ := HLB.out (fun e => by have := HRL.out; rw [e] at this; simp at this; rw [this] at hlt; simp at hlt)
          obtain ⟨u1, d1, n1⟩ := g1 k hlt
          obtain ⟨u2, d2, n2⟩ := g2 k (by have := HRL.out; omega)
          have HKN : ∀ n, Keeps [] W0 (wr.drewN n) := fun n => hkw.drewN n
          replace d1 := hkw.cell d1 (by simp)
          replace d2 := hkw.cell d2 (by simp)
          have hc := fun n => refSame_nums (wr.drewN n) u1 u2 _ _ (n1.same ((HKN n).same hN (by simp))) (n2.same ((HKN n).same hN' (by simp)))
          have y1 : (k : Int) < (a.r.length : Int) := by omega
          clear g1 g2 n1 n2 c10 d10
          by_cases he : a.r.getD k [] = r'.getD k []
          · have HN := Lib.hid (prefix_next HP.out he)
            rw [(eqB_iff _ _).2 he] at hc
            have HC := Lib.hid hc
            clear he HR2 HR3 HL HLB HRL HP hc HKN
            generalize a.r.length = L at *
            go_wp2_with fail
            go_quiet ((go_at_call 31; exact Calls.quiet_of (HC.out _)))
            go_wp2_with fail
            go_roundw
            case rel => exact ⟨k + 1, by omega, by go_num, HN.out, hkw.drewN _⟩
            case measure => simp [intOf]; omega
          · obtain rfl := HR2.out (fun e => he (by rw [e]))
            rw [eqB_no he] at hc
            have HC := Lib.hid hc
            clear he HR2 HR3 HL HLB HRL HP hc HKN
            generalize a.r.length = L at *
            go_wp2_with fail
            go_quiet ((go_at_call 31; exact Calls.quiet_of (HC.out _)))
            go_wp2_with fail
            go_ret
            exact ⟨rfl, (HK0.out.trans hkw (FSub.refl _ _)).drewN _⟩
        · obtain rfl : k = a.r.length := by omega
          obtain rfl := HR3.out (ext_lists HRL.out HP.out)
          clear HR2 HR3 HRL HP HL HLB
          go_wp2_with fail
          go_ret
          exact ⟨rfl, HK0.out.trans hkw (FSub.refl _ _)⟩
end Go.Proofs.YtibppobibncpdaaGreatDoor
