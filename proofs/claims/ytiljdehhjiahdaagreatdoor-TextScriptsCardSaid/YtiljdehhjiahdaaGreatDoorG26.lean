/-
  What fits an event's kind: a config, micros, lists.
-/
import Derived.BigQuiet
import Derived.Test.YtiljdehhjiahdaaGreatDoorG24
set_option linter.unusedSimpArgs false
set_option linter.unusedVariables false
namespace Go.Proofs.YtiljdehhjiahdaaGreatDoor
open Go.RowKit
set_option maxHeartbeats 8000000 in
set_option maxRecDepth 100000 in
theorem fitsConfigure_any (w : World) (x : Ev) (tx rd : Value) : Calls Tryz.prog 74 #[.agg (evC x tx rd)] w fun e w' => e = .returned (.bool (cfgGood x.g)) ∧ Keeps [] w w' := by
  have E12 := evC_12 x tx rd
  have E13 := evC_13 x tx rd
  have E14 := evC_14 x tx rd
  have E15 := evC_15 x tx rd
  have E16 := evC_16 x tx rd
  have E17 := evC_17 x tx rd
  have E18 := evC_18 x tx rd
  have w1 := fun w => within_any w x.g.mo 32
  have w2 := fun w => within_any w x.g.ms 4096
  have w3 := fun w => within_any w x.g.mt 1048576
  generalize hR : cfgGood x.g = R at *
  unfold cfgGood at hR
  have HR := Lib.hid hR; clear hR
  have hk0 : Keeps [] w ((w.alloc (.cells (evC x tx rd) 32)).alloc (.cells #[.int .u8 x.g.m, .int .i64 x.g.mo, .int .i64 x.g.ms, .int .i64 x.g.mt, .bool x.g.p, .bool x.g.cu, .bool x.g.me] 30)) := ((Keeps.refl [] w).alloc _).alloc _
  have HK := Lib.hid hk0; clear hk0
  by_cases h0 : x.g.m ≤ 4
  · rcases bool_two (decide (1 ≤ x.g.mo ∧ x.g.mo ≤ 32)) with h1 | h1 <;> rw [h1] at w1
    · rcases bool_two (decide (1 ≤ x.g.ms ∧ x.g.ms ≤ 4096)) with h2 | h2 <;> rw [h2] at w2
      · rcases bool_two (decide (1 ≤ x.g.mt ∧ x.g.mt ≤ 1048576)) with h3 | h3 <;> rw [h3] at w3
        all_goals
          have hr := HR.out
          rw [h1, h2, h3, decide_eq_true h0] at hr
          simp at hr
          subst hr
          clear HR h1 h2 h3
          go_enter Tryz.func74, Tryz.ntmps74
          go_wp2_with fail
          refine (w1 _).mono ?_; rintro e u ⟨rfl, rfl⟩
          go_wp2_with fail
          refine (w2 _).mono ?_; rintro e u ⟨rfl, rfl⟩
          go_wp2_with fail
          refine (w3 _).mono ?_; rintro e u ⟨rfl, rfl⟩
          go_wp2_with fail
          go_ret
          exact ⟨rfl, HK.out⟩
      · have hr := HR.out
        rw [h1, h2, decide_eq_true h0] at hr
        simp at hr
        subst hr
        clear HR h1 h2 w3
        go_enter Tryz.func74, Tryz.ntmps74
        go_wp2_with fail
        refine (w1 _).mono ?_; rintro e u ⟨rfl, rfl⟩
        go_wp2_with fail
        refine (w2 _).mono ?_; rintro e u ⟨rfl, rfl⟩
        go_wp2_with fail
        go_ret
        exact ⟨rfl, HK.out⟩
    · have hr := HR.out
      rw [h1, decide_eq_true h0] at hr
      simp at hr
      subst hr
      clear HR h1 w2 w3
      go_enter Tryz.func74, Tryz.ntmps74
      go_wp2_with fail
      refine (w1 _).mono ?_; rintro e u ⟨rfl, rfl⟩
      go_wp2_with fail
      go_ret
      exact ⟨rfl, HK.out⟩
  · have hr := HR.out
    rw [decide_eq_false h0] at hr
    simp at hr
    subst hr
    clear HR w1 w2 w3
    go_enter Tryz.func74, Tryz.ntmps74
    go_wp2_with fail
    go_ret
    exact ⟨rfl, HK.out⟩
theorem all_take {α : Type} {l : List α} {p : α → Bool} (d : α) (h : ∀ j, j < l.length → p (l.getD j d) = true) : l.all p = true := by
  rw [List.all_eq_true]
  intro x hx
  obtain ⟨i, hi, rfl⟩ := List.getElem_of_mem hx
  have := h i hi
  simpa [List.getD, List.getElem?_eq_getElem hi] using this
theorem all_not {α : Type} {l : List α} {p : α → Bool} (d : α) {j : Nat} (hj : j < l.length) (h : p (l.getD j d) = false) : l.all p = false := by
  cases hq : l.all p with
  | false => rfl
  | true =>
    rw [List.all_eq_true] at hq
    have := hq (l.getD j d) (by simp [List.getD, List.getElem?_eq_getElem hj])
    rw [h] at this; cases this
theorem prefix_all {α : Type} {l : List α} {p : α → Bool} {d : α} {k : Nat} (h : ∀ j, j < k → p (l.getD j d) = true) (hk : p (l.getD k d) = true) : ∀ j, j < k + 1 → p (l.getD j d) = true := by
  intro j hj
  rcases (by omega : j < k ∨ j = k) with h1 | rfl
  · exact h j h1
  · exact hk
theorem getD_get {α : Type} {l : List α} {k : Nat} (d : α) (h : k < l.length) : l[k]? = some (l.getD k d) := by
  simp [List.getD, List.getElem?_eq_getElem h]
theorem getD_in {α : Type} {l : List α} {k : Nat} (d : α) (h : k < l.length) : l.getD k d ∈ l := by
  simp [List.getD, List.getElem?_eq_getElem h]
def micNone : Mic := ⟨false, 0, 0⟩
set_option maxHeartbeats 8000000 in
set_option maxRecDepth 100000 in
theorem fitsBegin_any (w : World) (x : Ev) (hin : ∀ m ∈ x.t, m.In) {N : Nat} (tx rd : Value) (ht : Mics N w tx x.t) (hN : N ≤ w.heap.size) : Calls Tryz.prog 90 #[.agg (evC x tx rd)] w fun e w' => e = .returned (.bool (micsGood x.t)) ∧ Keeps [] w w' := by
  have E10 := evC_10 x tx rd
  have hk0 := (Keeps.refl [] w).alloc (.cells (evC x tx rd) 32)
  have wi := fun w => within_any w (x.t.length : Int) 8
  obtain ⟨a, c, rfl, hc, hm, h⟩ := ht
  generalize hR : micsGood x.t = R at *
  unfold micsGood at hR
  have HR := Lib.hid hR; have HH := Lib.hid h; have HK := Lib.hid hk0; have HIN := Lib.hid hin
  clear hR h hk0 hin
  by_cases hl : 1 ≤ x.t.length ∧ x.t.length ≤ 8
  · have e1 : decide (1 ≤ (x.t.length : Int) ∧ (x.t.length : Int) ≤ 8) = true := by simp; omega
    rw [e1] at wi
    obtain ⟨bk, o, rfl, hbN, hcells⟩ := HH.out (fun e => by rw [e] at hl; simp at hl)
    have HC := Lib.hid hcells
    clear e1 hcells HH
    go_enter Tryz.func90, Tryz.ntmps90
    go_wp2_with fail
    refine (wi _).mono ?_; rintro e u ⟨rfl, rfl⟩
    clear wi
    go_wp2_with fail
    go_loopw [2, 4, 13] (fun r _ i wr => ∃ k : Nat, r = .bool false ∧ i = .int .i64 k ∧ k ≤ x.t.length ∧ (∀ j, j < k → micGood (x.t.getD j micNone) = true) ∧ Keeps [] w wr) (fun _ _ i _ => x.t.length - (intOf i).toNat)
    case atStart => exact ⟨0, rfl, rfl, by omega, fun j hj => by omega, HK.out⟩
    case round =>
      obtain ⟨k, rfl, rfl, hk, hp, hkp⟩ := hrel
      have HP := Lib.hid hp; clear hp
      by_cases hlt : k < x.t.length
      · obtain ⟨d1, d2, d3⟩ := HC.out k _ (getD_get micNone hlt)
        replace d1 := hkp.cell d1 (by simp)
        replace d2 := hkp.cell d2 (by simp)
        replace d3 := hkp.cell d3 (by simp)
        have hmi := HIN.out _ (getD_in micNone hlt)
        have b1 := hmi.k0; have b2 := hmi.k1; have b3 := hmi.v0; have b4 := hmi.v1
        have hz : bk < wr.heap.size := by have := hkp.size; omega
        clear hmi
        have HKP := Lib.hid hkp; clear hkp
        rcases bool_two (micGood (x.t.getD k micNone)) with hg | hg
        · have HN := Lib.hid (prefix_all HP.out hg)
          clear HR HP HC HIN
          generalize x.t.getD k micNone = M at *
          obtain ⟨m1, m2, m3⟩ := M
          simp only [micGood] at hg d1 d2 d3 b1 b2 b3 b4
          have q1 : m2 < 8 := by simp at hg; exact hg.1
          have q2 : ¬ 8 ≤ m2 := by omega
          cases m1 with
          | false =>
            clear hg
            go_wp2_with fail
            go_roundw
            case rel => exact ⟨k + 1, rfl, by go_num, by omega, HN.out, HKP.out.alloc _⟩
            case measure => simp [intOf]; omega
          | true =>
            have q3 : m3 = 0 := by simp at hg; exact hg.2
            subst q3
            clear hg
            go_wp2_with fail
            go_roundw
            case rel => exact ⟨k + 1, rfl, by go_num, by omega, HN.out, HKP.out.alloc _⟩
            case measure => simp [intOf]; omega
        · have hr := HR.out
          rw [all_not micNone hlt hg] at hr
          simp at hr
          subst hr
          clear HR HP HC HIN
          generalize x.t.getD k micNone = M at *
          obtain ⟨m1, m2, m3⟩ := M
          simp only [micGood] at hg d1 d2 d3 b1 b2 b3 b4
          by_cases q1 : 8 ≤ m2
          · clear hg
            go_wp2_with fail
            go_ret
            exact ⟨rfl, HKP.out.alloc _⟩
          · have q2 : m1 = true ∧ (m3 != 0) = true := by
              simp at hg ⊢
              exact hg (by omega)
            obtain ⟨rfl, q3⟩ := q2
            clear hg
            go_wp2_with fail
            go_ret
            exact ⟨rfl, HKP.out.alloc _⟩
      · obtain rfl : k = x.t.length := by omega
        have hr := HR.out
        rw [all_take micNone HP.out, decide_eq_true hl] at hr
        simp at hr
        subst hr
        clear HR HP HC HIN
        go_wp2_with fail
        go_ret
        exact ⟨rfl, hkp⟩
  · have e1 : decide (1 ≤ (x.t.length : Int) ∧ (x.t.length : Int) ≤ 8) = false := by simp; omega
    rw [e1] at wi
    have hr := HR.out
    rw [decide_eq_false hl] at hr
    simp at hr
    subst hr
    clear HR HIN HH e1
    go_enter Tryz.func90, Tryz.ntmps90
    go_wp2_with fail
    refine (wi _).mono ?_; rintro e u ⟨rfl, rfl⟩
    go_wp2_with fail
    go_ret
    exact ⟨rfl, HK.out⟩
set_option maxHeartbeats 8000000 in
set_option maxRecDepth 100000 in
theorem fitsCommit_any (w : World) (x : Ev) {N : Nat} (tx rd : Value) (ht : Lists N w rd x.r) (_hN : N ≤ w.heap.size) : Calls Tryz.prog 94 #[.agg (evC x tx rd)] w fun e w' => e = .returned (.bool (listsGood x.r)) ∧ Keeps [] w w' := by
  have E11 := evC_11 x tx rd
  have hk0 := (Keeps.refl [] w).alloc (.cells (evC x tx rd) 32)
  obtain ⟨a, c, rfl, hc, hm, h⟩ := ht
  generalize hR : listsGood x.r = R at *
  unfold listsGood at hR
  have HR := Lib.hid hR; have HH := Lib.hid h; have HK := Lib.hid hk0
  clear hR h hk0
  by_cases hl : x.r.length ≤ 8
  · have z1 : ¬ 8 < (x.r.length : Int) := by omega
    go_enter Tryz.func94, Tryz.ntmps94
    go_wp2_with fail
    go_loopw [2, 4, 12] (fun r _ i wr => ∃ k : Nat, r = .bool false ∧ i = .int .i64 k ∧ k ≤ x.r.length ∧ (∀ j, j < k → decide ((x.r.getD j []).length ≤ 32) = true) ∧ Keeps [] w wr) (fun _ _ i _ => x.r.length - (intOf i).toNat)
    case atStart => exact ⟨0, rfl, rfl, by omega, fun j hj => by omega, HK.out⟩
    case round =>
      obtain ⟨k, rfl, rfl, hk, hp, hkp⟩ := hrel
      have HP := Lib.hid hp; clear hp
      by_cases hlt : k < x.r.length
      · obtain ⟨bk, o, rfl, hbN, hcells⟩ := HH.out (fun e => by rw [e] at hlt; simp at hlt)
        obtain ⟨u, d1, n1⟩ := hcells k hlt
        replace d1 := hkp.cell d1 (by simp)
        obtain ⟨a1, c1, rfl, hc1, hm1, _⟩ := n1
        clear hcells
        have HKP := Lib.hid hkp; clear hkp
        rcases bool_two (decide ((x.r.getD k []).length ≤ 32)) with hg | hg
        · have HN := Lib.hid (prefix_all (p := fun (l : List Int) => decide (l.length ≤ 32)) HP.out hg)
          have q1 : ¬ 32 < ((x.r.getD k []).length : Int) := by have := of_decide_eq_true hg; omega
          clear hg HR HP
          generalize x.r.getD k [] = LK at *
          go_wp2_with fail
          go_roundw
          case rel => exact ⟨k + 1, rfl, by go_num, by omega, HN.out, HKP.out⟩
          case measure => simp [intOf]; omega
        · have hr := HR.out
          rw [all_not (p := fun (l : List Int) => decide (l.length ≤ 32)) [] hlt hg] at hr
          simp at hr
          subst hr
          have q1 : 32 < ((x.r.getD k []).length : Int) := by have := of_decide_eq_false hg; omega
          clear hg HR HP
          generalize x.r.getD k [] = LK at *
          go_wp2_with fail
          go_ret
          exact ⟨rfl, HKP.out⟩
      · obtain rfl : k = x.r.length := by omega
        have hr := HR.out
        rw [all_take (p := fun (l : List Int) => decide (l.length ≤ 32)) [] HP.out, decide_eq_true hl] at hr
        simp at hr
        subst hr
        clear HR HP
        go_wp2_with fail
        go_ret
        exact ⟨rfl, hkp⟩
  · have z1 : 8 < (x.r.length : Int) := by omega
    have hr := HR.out
    rw [decide_eq_false hl] at hr
    simp at hr
    subst hr
    clear HR HH
    go_enter Tryz.func94, Tryz.ntmps94
    go_wp2_with fail
    go_ret
    exact ⟨rfl, HK.out⟩
end Go.Proofs.YtiljdehhjiahdaaGreatDoor
