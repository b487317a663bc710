/-
  The laws' functions: is, unparsed, works, few. (Printed by draft/genis6.py.)
-/
import Derived.Test.YtffldnjjijckcaaGreatDoorL41
import Derived.Test.YtffldnjjijckcaaGreatDoorL37
import Derived.Test.YtffldnjjijckcaaGreatDoorL29
set_option linter.unusedSimpArgs false
set_option linter.unusedVariables false
namespace Go.Proofs.YtffldnjjijckcaaGreatDoor
open Go.RowKit
theorem wpList_load_evG6 {ops : Array Oper} {rest : List Oper} {a : Act} {w : World} {Q : Exit → Act → World → Prop} {dst : Option Tmp} {ty : TypeId} {pos : String} {after : Array Edge} {gd : Option (Nat × Bool)} {x : Operand} {g : Nat} {cells : Array Value} {t : TypeId} {fr : Nat × Nat}
    (hw : Region.wanted { dst := dst, op := .load 32 x, type := ty, pos := pos, after := after, guard := gd } (yielded ops a.tmps) = true)
    (hx : a.eval x = .pointer (some ⟨g, 0, none⟩)) (hg : w.heap[g]? = some (.cells cells t fr)) (hs : cells.size = 19) (h : wpList Tryz.prog ops Q rest (a.put dst (.agg cells)) w) :
    wpList Tryz.prog ops Q ({ dst := dst, op := .load 32 x, type := ty, pos := pos, after := after, guard := gd } :: rest) a w :=
  wpList_step fun _ hK => by
    rw [if_pos hw]
    exact wp_load_row 32 x rfl g hx t cells fr _ hg Tryz.underlying32 rfl (by rw [hs]; kernel_rfl) (hK _ _ h)
theorem in6_by {x : Ev} (h : decide (0 ≤ x.k ∧ x.k < 256 ∧ 0 ≤ x.c ∧ x.c < 256 ∧ 0 ≤ x.id ∧ x.id < 65536 ∧ 0 ≤ x.o.f ∧ x.o.f < 256 ∧ 0 ≤ x.o.o ∧ x.o.o < 256 ∧ 0 ≤ x.o.k ∧ x.o.k < 256 ∧ 0 ≤ x.o.a ∧ x.o.a < 65536 ∧ 0 ≤ x.o.b ∧ x.o.b < 65536 ∧ 0 ≤ x.rk ∧ x.rk < 256 ∧ 0 ≤ x.rv ∧ x.rv < 65536) = true)
    (h2 : decide (0 ≤ x.g.m ∧ x.g.m < 256 ∧ -9223372036854775808 ≤ x.g.mo ∧ x.g.mo ≤ 9223372036854775807 ∧ -9223372036854775808 ≤ x.g.ms ∧ x.g.ms ≤ 9223372036854775807 ∧ -9223372036854775808 ≤ x.g.mt ∧ x.g.mt ≤ 9223372036854775807) = true)
    (ht : (x.t.all fun m => decide (0 ≤ m.key ∧ m.key < 256 ∧ 0 ≤ m.v ∧ m.v < 65536)) = true) (hr : (x.r.all fun l => l.all fun n => decide (0 ≤ n ∧ n < 65536)) = true) : x.In := by
  have h := of_decide_eq_true h
  have h2 := of_decide_eq_true h2
  obtain ⟨a1, a2, a3, a4, a5, a6, b1, b2, b3, b4, b5, b6, b7, b8, b9, b10, a7, a8, a9, a10⟩ := h
  obtain ⟨c1, c2, c3, c4, c5, c6, c7, c8⟩ := h2
  refine ⟨a1, a2, a3, a4, a5, a6, ⟨b1, b2, b3, b4, b5, b6, b7, b8, b9, b10⟩, a7, a8, a9, a10, fun m hm => ?_, fun l hl => ?_, c1, c2, c3, c4, c5, c6, c7, c8⟩
  · have := of_decide_eq_true (List.all_eq_true.1 ht m hm)
    exact ⟨this.1, this.2.1, this.2.2.1, this.2.2.2⟩
  · intro j
    have h3 := List.all_eq_true.1 hr l hl
    by_cases hj : j < l.length
    · have := of_decide_eq_true (List.all_eq_true.1 h3 l[j] (List.getElem_mem hj))
      simpa [List.getD, hj] using this
    · rw [List.getD, List.getElem?_eq_none (by omega)]
      simp
theorem good6_by {x : Ev} (h : (evKind x.k && decide (x.c < 16) && evFits x) = true) (e : x = evNeed x) : evGood x = true := by
  unfold evGood; rw [h, ← e, evSame_self]; rfl
/-- A good event's line is short. -/
theorem line_short {x : Ev} (hx : x.In) (hg : evGood x = true) : (evLine x).length ≤ 1000000 := by
  obtain ⟨h1, h2⟩ := tail_short hx hg
  have := join_le (l := kdNm x.k :: evTail x) (N := 1000) h1 32
  simp only [List.length_cons] at this
  unfold evLine
  have h3 : ((evTail x).length + 1) * (1000 + 1) ≤ 101 * 1001 := Nat.mul_le_mul (by omega) (Nat.le_refl _)
  omega
theorem line_yes (w : World) (hG : Glob6 w) (x : Ev) (hx : x.In) (tx rd : Value) {N : Nat} (ht : EvAt N w tx rd x) (hN : N ≤ w.heap.size) (hg : evGood x = true) :
    Calls Tryz.prog 8 #[.agg (evC x tx rd)] w fun e w' => e = .returned (.tuple #[.string (bs (evLine x)), .int .i64 0]) ∧ Keeps [] w w' := by
  refine (txLine_any w hG x hx tx rd ht hN).mono ?_
  rintro e w' ⟨he, hk⟩
  have h4 : evErr x = 0 := by simp [evErr, hg]
  rw [hg, if_pos rfl, h4] at he
  exact ⟨he, hk⟩
theorem parse6_yes (w : World) (hG : Glob6 w) (x : Ev) (hx : x.In) (hg : evGood x = true) :
    Calls Tryz.prog 10 #[.string (bs (evLine x))] w fun e W => ∃ tx rd, e = .returned (.tuple #[.agg (evC x tx rd), .int .i64 0]) ∧ EvAt W.heap.size W tx rd x ∧ Keeps [] w W := by
  have h := txParse_any w hG (evLine x) (line_short hx hg)
  obtain ⟨e1, e2⟩ := ln_yes hx hg rfl
  rw [e1, e2] at h
  exact h
theorem parse6_no (w : World) (hG : Glob6 w) (s : List UInt8) (hs : s.length ≤ 1000000) (h0 : lnE s ≠ 0) :
    Calls Tryz.prog 10 #[.string (bs s)] w fun e W => ∃ tx rd, e = .returned (.tuple #[.agg (evC evZero tx rd), .int .i64 4]) ∧ EvAt W.heap.size W tx rd evZero ∧ Keeps [] w W := by
  have h := txParse_any w hG s hs
  obtain ⟨e1, e2⟩ := ln_bad h0
  rw [e1, e2] at h
  exact h
set_option maxHeartbeats 8000000 in
set_option maxRecDepth 100000 in
theorem is6_any (w : World) (hG : Glob6 w) (x : Ev) (hx : x.In) {N : Nat} (tx rd : Value) (ht : EvAt N w tx rd x) (hN : N ≤ w.heap.size) (hg : evGood x = true) (L : List UInt8) (hL : evLine x = L) :
    Calls Tryz.prog 17 #[.agg (evC x tx rd), .string (bs L)] w fun e w' => e = .returned (.bool true) ∧ Keeps [] w w' := by
  subst hL
  have hk0 := (Keeps.refl [] w).alloc (.cells (evC x tx rd) 32)
  have hb0 := heap_alloc_new w (.cells (evC x tx rd) 32)
  have hx1 := ht.t.one
  have hx2 := ht.r.one
  have HK0 := Lib.hid hk0; have HT0 := Lib.hid (ht.new hk0 hN)
  have hn1 : N ≤ (w.alloc (.cells (evC x tx rd) 32)).heap.size := Nat.le_trans hN hk0.size
  have HG0 := Lib.hid (hG.new hk0)
  have hT := fun w hG (ht : EvAt N w tx rd x) hN => line_yes w hG x hx tx rd ht hN hg
  have hP := fun w hG => parse6_yes w hG x hx hg
  have HT := Lib.hid hT; have HP := Lib.hid hP
  clear hk0 ht hN hG hT hP hg hx
  generalize bs (evLine x) = S at *
  go_enter Tryz.func17, Tryz.ntmps17
  go_wp2_with ((with_reducible apply wpList_load_ev); exact rfl; (first | assumption | (refine heap_alloc_lt ?_; assumption) | (refine heap_alloc_lt (heap_alloc_lt ?_); assumption) | exact heap_alloc_at (by simp)); exact rfl)
  generalize w.alloc (.cells (evC x tx rd) 32) = W0 at *
  generalize w.heap.size = b at *
  refine (HT.out W0 HG0.out HT0.out hn1).mono ?_; rintro z w1 ⟨rfl, hk1⟩
  have hb1 := hk1.heap hb0 (by simp)
  have HK1 := Lib.hid (HK0.out.trans hk1 (FSub.refl _ _))
  have HT1 := Lib.hid (HT0.out.new hk1 hn1)
  have HG1 := Lib.hid (HG0.out.new hk1)
  have hn2 := Nat.le_trans hn1 hk1.size
  clear hk1 hb0 HT0 HG0 HK0 hn1 HT
  go_wp2_with fail
  refine (HP.out _ HG1.out).mono ?_; rintro z w5 ⟨tx', rd', rfl, hx', hk5⟩
  have HK5 := Lib.hid (HK1.out.trans hk5 (FSub.refl _ _))
  have HT5 := Lib.hid (HT1.out.new hk5 hn2)
  have hb5 := hk5.heap hb1 (by simp)
  have hn5 := Nat.le_trans hn2 hk5.size
  have hx1' := hx'.t.one
  have hx2' := hx'.r.one
  have HX := Lib.hid hx'
  have HKA := Lib.hid ((Keeps.refl [] w5).alloc (.cells #[.int .u8 0, .int .u8 0, .int .u16 0, .int .u8 0, .int .u8 0, .int .u8 0, .int .u16 0, .int .u16 0, .int .u8 0, .int .u16 0, .slice none 0 0, .slice none 0 0, .int .u8 0, .int .i64 0, .int .i64 0, .int .i64 0, .bool false, .bool false, .bool false] 32))
  clear hk5 HP HG1 HK1 hx' hb1 hn2 HT1
  go_wp2_with ((with_reducible apply wpList_put_ev); exact rfl; exact rfl; (first | assumption | (refine heap_alloc_lt ?_; assumption) | (refine heap_alloc_lt (heap_alloc_lt ?_); assumption) | exact heap_alloc_at (by simp)); exact ⟨rfl, rfl⟩; (refine evC_one _ ?_ ?_ <;> first | rfl | assumption))
  intro W6 hb6 hk6
  have hq6 : Keeps [] w5 W6 := HKA.out.trans hk6 (fun q hq => .inr (by simp at hq; omega))
  have hb6x := hq6.heap hb5 (by simp)
  have HK6 := Lib.hid (HK5.out.trans hq6 (FSub.refl _ _))
  have HX6 := Lib.hid (HX.out.new hq6 (Nat.le_refl _))
  have HT6 := Lib.hid (HT5.out.new hq6 hn5)
  have hs6 : w5.heap.size ≤ W6.heap.size := hq6.size
  have hn6 := Nat.le_trans hn5 hs6
  clear hk6 hq6 HK5 HX HKA HT5 hb5 hn5
  generalize w5.heap.size = c at *
  go_wp2_with ((with_reducible apply wpList_load_evG6); exact rfl; exact rfl; assumption; exact rfl)
  refine (Same5_any W6 x x _ _ _ _ HT6.out HX6.out hn6 hs6).mono ?_; rintro z w7 ⟨rfl, hk7⟩
  rw [evSame_self]
  have HK7 := Lib.hid (HK6.out.trans hk7 (FSub.refl _ _))
  clear HK6 HT6 HX6 hk7
  go_wp2_with fail
  go_ret
  exact ⟨rfl, HK7.out⟩
set_option maxHeartbeats 8000000 in
set_option maxRecDepth 100000 in
theorem unparsed6_any (w : World) (hG : Glob6 w) (s : List UInt8) (hs : s.length ≤ 1000000) (h0 : lnE s ≠ 0) :
    Calls Tryz.prog 18 #[.string (bs s)] w fun e w' => e = .returned (.bool true) ∧ Keeps [] w w' := by
  have HP := Lib.hid (parse6_no w hG s hs h0)
  clear hs h0 hG
  generalize bs s = S at *
  go_enter Tryz.func18, Tryz.ntmps18
  go_wp2_with fail
  refine HP.out.mono ?_; rintro z w5 ⟨tx', rd', rfl, hx', hk5⟩
  have HK5 := Lib.hid hk5
  have hx1' := hx'.t.one
  have hx2' := hx'.r.one
  have HX := Lib.hid hx'
  have HKA := Lib.hid ((Keeps.refl [] w5).alloc (.cells #[.int .u8 0, .int .u8 0, .int .u16 0, .int .u8 0, .int .u8 0, .int .u8 0, .int .u16 0, .int .u16 0, .int .u8 0, .int .u16 0, .slice none 0 0, .slice none 0 0, .int .u8 0, .int .i64 0, .int .i64 0, .int .i64 0, .bool false, .bool false, .bool false] 32))
  clear hk5 HP hx'
  go_wp2_with ((with_reducible apply wpList_put_ev); exact rfl; exact rfl; (first | assumption | (refine heap_alloc_lt ?_; assumption) | (refine heap_alloc_lt (heap_alloc_lt ?_); assumption) | exact heap_alloc_at (by simp)); exact ⟨rfl, rfl⟩; (refine evC_one _ ?_ ?_ <;> first | rfl | assumption))
  intro W6 hb6 hk6
  have hq6 : Keeps [] w5 W6 := HKA.out.trans hk6 (fun q hq => .inr (by simp at hq; omega))
  have HK6 := Lib.hid (HK5.out.trans hq6 (FSub.refl _ _))
  have HX6 := Lib.hid (HX.out.new hq6 (Nat.le_refl _))
  have hs6 : w5.heap.size ≤ W6.heap.size := hq6.size
  clear hk6 hq6 HK5 HX HKA
  generalize w5.heap.size = c at *
  go_wp2_with ((with_reducible apply wpList_load_ev); exact rfl; (first | assumption | (refine heap_alloc_lt ?_; assumption) | (refine heap_alloc_lt (heap_alloc_lt ?_); assumption) | exact heap_alloc_at (by simp)); exact rfl)
  rw [zero_cells6]
  refine (Same5_any W6 evZero evZero _ _ _ _ HX6.out (⟨Mics.nil c _, Lists.nil _ _⟩ : EvAt c W6 _ _ evZero) hs6 hs6).mono ?_; rintro z w7 ⟨rfl, hk7⟩
  rw [evSame_self]
  have HK7 := Lib.hid (HK6.out.trans hk7 (FSub.refl _ _))
  clear HK6 HX6 hk7
  go_wp2_with fail
  go_ret
  exact ⟨rfl, HK7.out⟩
def FewPost6 (w : World) (e : Ending) (w' : World) : Prop := ∃ b, e = .returned (.bool b) ∧ Keeps [] w w'
set_option maxHeartbeats 8000000 in
set_option maxRecDepth 100000 in
theorem few6_any (w : World) (x : Ev) {N : Nat} (tx rd : Value) (ht : EvAt N w tx rd x) (hN : N ≤ w.heap.size) : Calls Tryz.prog 6 #[.agg (evC x tx rd)] w (FewPost6 w) := by
  have hk0 := (Keeps.refl [] w).alloc (.cells (evC x tx rd) 32)
  have hX := heap_alloc_new w (.cells (evC x tx rd) 32)
  have h0 := ht.new hk0 hN
  have E10 := ev_cell hX 10 (evC_10 x tx rd)
  have E11 := ev_cell hX 11 (evC_11 x tx rd)
  obtain ⟨a1, c1, rfl, hc1, hm1, -⟩ := h0.t
  obtain ⟨a2, c2, rfl, hc2, hm2, hcells⟩ := h0.r
  have HC := Lib.hid hcells; have HK0 := Lib.hid hk0
  clear hcells hk0 hX h0 ht hN
  have hl1 : (x.t.length : Int) ≤ 9223372036854775807 := by omega
  have hl2 : (x.r.length : Int) ≤ 9223372036854775807 := by omega
  generalize hB : w.heap.size = b at *
  go_enter Tryz.func6, Tryz.ntmps6
  go_wp2_with fail
  clear hB
  generalize w.alloc (.cells (evC x (.slice a1 x.t.length c1) (.slice a2 x.r.length c2)) 32) = W0 at *
  generalize hR : evC x (.slice a1 x.t.length c1) (.slice a2 x.r.length c2) = R at *
  generalize x.t.length = nt at *
  generalize hrl : x.r.length = nr at *
  go_loopw [3] (fun i wr => ∃ k : Nat, k ≤ nr ∧ k ≤ 30 ∧ i = .int .i64 k ∧ wr = W0) (fun i _ => 30 - (intOf i).toNat)
  case atStart => exact ⟨0, by omega, by omega, rfl, rfl⟩
  case round =>
    obtain ⟨k, hk, hk30, rfl, rfl⟩ := hrel
    by_cases hlt : k < nr
    · by_cases h30 : k < 30
      · obtain ⟨bk, o, rfl, hbk, hcell⟩ := HC.out (fun e => by rw [e] at hrl; simp at hrl; omega)
        obtain ⟨u, hu, hnu⟩ := hcell k (by omega)
        obtain ⟨a3, c3, rfl, hc3, hm3, -⟩ := hnu
        clear hcell
        generalize (x.r.getD k []).length = nu at *
        by_cases h60 : nu ≤ 60
        · have z1 : ¬ 60 < (nu : Int) := by omega
          go_wp2_with fail
          go_roundw
          case rel => exact ⟨k + 1, by omega, by omega, by go_num, trivial⟩
          case measure => simp [intOf]; omega
        · have z1 : 60 < (nu : Int) := by omega
          go_wp2_with fail
          go_ret
          exact ⟨_, rfl, HK0.out⟩
      · by_cases h1 : nt ≤ 20
        · go_wp2_with fail
          go_ret
          exact ⟨_, rfl, HK0.out⟩
        · go_wp2_with fail
          go_ret
          exact ⟨_, rfl, HK0.out⟩
    · by_cases h1 : nt ≤ 20
      · go_wp2_with fail
        go_ret
        exact ⟨_, rfl, HK0.out⟩
      · go_wp2_with fail
        go_ret
        exact ⟨_, rfl, HK0.out⟩
end Go.Proofs.YtffldnjjijckcaaGreatDoor
/-
  works: some of the chapter's answers.
-/
namespace Go.Proofs.YtffldnjjijckcaaGreatDoor
open Go.RowKit
def kwW : Ev := { evZero with k := 2, c := 3, id := 258, o := ⟨2, 1, 0, 5, 0⟩ }
def kwC : Ev := { evZero with k := 6, c := 1, id := 9, r := [[4, 5], []] }
theorem kwW_in : kwW.In := in6_by (by decide) (by decide) (by decide) (by decide)
theorem kwC_in : kwC.In := in6_by (by decide) (by decide) (by decide) (by decide)
theorem kwW_good : evGood kwW = true := good6_by (by decide) rfl
theorem kwC_good : evGood kwC = true := good6_by (by decide) rfl
theorem dec_3 : dec 3 = [51] := by simp [dec, Lib.decDigits]
theorem dec_258 : dec 258 = [50, 53, 56] := by simp [dec, Lib.decDigits]
theorem dec_1 : dec 1 = [49] := by simp [dec, Lib.decDigits]
theorem dec_5 : dec 5 = [53] := by simp [dec, Lib.decDigits]
theorem dec_9 : dec 9 = [57] := by simp [dec, Lib.decDigits]
theorem dec_4 : dec 4 = [52] := by simp [dec, Lib.decDigits]
theorem kwW_line : evLine kwW = [105, 110, 118, 111, 107, 101, 32, 51, 32, 50, 53, 56, 32, 49, 32, 119, 114, 105, 116, 101, 32, 53] := by
  have e : evLine kwW = Lib.join (invokeL :: [dec 3, dec 258, dec 1, opNm 2, dec 5]) [32] := rfl
  rw [e, dec_3, dec_258, dec_1, dec_5]; decide
theorem kwC_line : evLine kwC = [99, 111, 109, 109, 105, 116, 32, 49, 32, 57, 32, 52, 44, 53, 32, 45] := by
  have e : evLine kwC = Lib.join (commitL :: [dec 1, dec 9, Lib.join [dec 4, dec 5] [44], [45]]) [32] := rfl
  rw [e, dec_1, dec_9, dec_4, dec_5]; decide
theorem ln_e1 : lnE [105, 110, 102, 111, 32, 51, 32, 48, 50, 53, 56] ≠ 0 := by
  have : rdEv (cutAt 32 [105, 110, 102, 111, 32, 51, 32, 48, 50, 53, 56]) = none := by decide
  unfold lnE lnGet
  rw [this]; decide
theorem ln_e2 : lnE [] ≠ 0 := by
  have : rdEv (cutAt 32 []) = none := by decide
  unfold lnE lnGet
  rw [this]; decide
theorem kw_lists (w : World) : Lists ((w.alloc (.cells #[.int .u16 4, .int .u16 5] 22)).alloc (.cells #[.slice (some ⟨w.heap.size, 0, none⟩) 2 2, .slice none 0 0] 54)).heap.size
    ((w.alloc (.cells #[.int .u16 4, .int .u16 5] 22)).alloc (.cells #[.slice (some ⟨w.heap.size, 0, none⟩) 2 2, .slice none 0 0] 54)) (.slice (some ⟨w.heap.size + 1, 0, none⟩) 2 2) kwC.r := by
  have h1 := heap_alloc_new w (.cells #[.int .u16 4, .int .u16 5] 22)
  have hk := (Keeps.refl [] (w.alloc (.cells #[.int .u16 4, .int .u16 5] 22))).alloc (.cells #[.slice (some ⟨w.heap.size, 0, none⟩) 2 2, .slice none 0 0] 54)
  have h2 := hk.heap h1 (by simp)
  have h3 := heap_alloc_new (w.alloc (.cells #[.int .u16 4, .int .u16 5] 22)) (.cells #[.slice (some ⟨w.heap.size, 0, none⟩) 2 2, .slice none 0 0] 54)
  have hz : (w.alloc (.cells #[.int .u16 4, .int .u16 5] 22)).heap.size = w.heap.size + 1 := by simp
  rw [hz] at h3
  have hz2 : ((w.alloc (.cells #[.int .u16 4, .int .u16 5] 22)).alloc (.cells #[.slice (some ⟨w.heap.size, 0, none⟩) 2 2, .slice none 0 0] 54)).heap.size = w.heap.size + 2 := by simp
  generalize ((w.alloc (.cells #[.int .u16 4, .int .u16 5] 22)).alloc (.cells #[.slice (some ⟨w.heap.size, 0, none⟩) 2 2, .slice none 0 0] 54)) = W at *
  refine ⟨_, 2, rfl, by decide, by decide, fun _ => ⟨_, _, rfl, by omega, fun j hj => ?_⟩⟩
  rcases (by change j < 2 at hj; omega : j = 0 ∨ j = 1) with rfl | rfl
  · refine ⟨.slice (some ⟨w.heap.size, 0, none⟩) 2 2, by simp [World.cell?, h3], ⟨_, 2, rfl, by decide, by decide, fun _ => ⟨_, _, rfl, by omega, fun i hi => ?_⟩⟩⟩
    rcases (by change i < 2 at hi; omega : i = 0 ∨ i = 1) with rfl | rfl
    · simp [World.cell?, h2, kwC]
    · simp [World.cell?, h2, kwC]
  · exact ⟨.slice none 0 0, by simp [World.cell?, h3], ⟨_, 0, rfl, by decide, by decide, fun h => absurd rfl h⟩⟩
set_option maxHeartbeats 8000000 in
set_option maxRecDepth 100000 in
theorem works6_any (w : World) (hG : Glob6 w) : Calls Tryz.prog 7 #[] w fun e w' => e = .returned (.bool true) ∧ Keeps [] w w' := by
  have HG := Lib.hid hG
  clear hG
  go_enter Tryz.func7, Tryz.ntmps7
  go_wp2_with fail
  refine (is6_any w HG.out kwW kwW_in _ _ (⟨Mics.nil 0 _, Lists.nil _ _⟩ : EvAt 0 w _ _ kwW) (Nat.zero_le _) kwW_good _ kwW_line).mono ?_; rintro z w1 ⟨rfl, hk1⟩
  have HG1 := Lib.hid (HG.out.new hk1)
  have HK1 := Lib.hid hk1
  clear HG hk1
  go_wp2_with fail
  refine (is6_any _ (HG1.out.new (((Keeps.refl [] w1).alloc _).alloc _)) kwC kwC_in (.slice none 0 0) _ (⟨Mics.nil _ _, kw_lists w1⟩ : EvAt _ _ _ _ kwC) (Nat.le_refl _) kwC_good _ kwC_line).mono ?_; rintro z w2 ⟨rfl, hk2⟩
  have hq2 := (((Keeps.refl [] w1).alloc _).alloc _).trans hk2 (FSub.refl _ _)
  have HG2 := Lib.hid (HG1.out.new hq2)
  have HK2 := Lib.hid (HK1.out.trans hq2 (FSub.refl _ _))
  clear HG1 HK1 hk2 hq2
  go_wp2_with fail
  refine (unparsed6_any w2 HG2.out [105, 110, 102, 111, 32, 51, 32, 48, 50, 53, 56] (by decide) ln_e1).mono ?_; rintro z w3 ⟨rfl, hk3⟩
  have HG3 := Lib.hid (HG2.out.new hk3)
  have HK3 := Lib.hid (HK2.out.trans hk3 (FSub.refl _ _))
  clear HG2 HK2 hk3
  go_wp2_with fail
  refine (unparsed6_any w3 HG3.out [] (by decide) ln_e2).mono ?_; rintro z w4 ⟨rfl, hk4⟩
  have HK4 := Lib.hid (HK3.out.trans hk4 (FSub.refl _ _))
  clear HG3 HK3 hk4
  go_wp2_with fail
  go_ret
  exact ⟨rfl, HK4.out⟩
end Go.Proofs.YtffldnjjijckcaaGreatDoor
/-
  TextLines' walk.
-/
namespace Go.Proofs.YtffldnjjijckcaaGreatDoor
open Go.RowKit
set_option maxHeartbeats 16000000 in
set_option maxRecDepth 100000 in
theorem TextLines_any (w : World) (hG : Glob6 w) (x : Ev) (hx : x.In) {N : Nat} (tx rd : Value) (ht : EvAt N w tx rd x) (hN : N ≤ w.heap.size) (L : List UInt8) (hL : (L.length : Int) ≤ 9223372036854775807) :
    Calls Tryz.prog 3 #[.agg (evC x tx rd), .string (bs L)] w fun e w' => e = .returned (.bool true) ∧ Keeps [] w w' := by
  have hk0 := (Keeps.refl [] w).alloc (.cells (evC x tx rd) 32)
  have hb0 := heap_alloc_new w (.cells (evC x tx rd) 32)
  have hx1 := ht.t.one
  have hx2 := ht.r.one
  have HK0 := Lib.hid hk0; have HT0 := Lib.hid (ht.new hk0 hN)
  have hn0 := Nat.le_trans hN hk0.size
  have HG0 := Lib.hid (hG.new hk0)
  have HR := Lib.hid (fun (hl : L.length ≤ 1000000) w hG => txParse_any w hG L hl)
  have HD := Lib.hid (fun (hl : L.length ≤ 90000) w => r6Parse_any w L hl)
  have hsz : (bs L).size = L.length := bs_size L
  clear hk0 ht hN hG
  generalize hS : bs L = S at *
  go_enter Tryz.func3, Tryz.ntmps3
  go_wp2_with ((with_reducible apply wpList_load_ev); exact rfl; (first | assumption | (refine heap_alloc_lt ?_; assumption) | (refine heap_alloc_lt (heap_alloc_lt ?_); assumption) | exact heap_alloc_at (by simp)); exact rfl)
  generalize w.alloc (.cells (evC x tx rd) 32) = W0 at *
  generalize w.heap.size = b at *
  refine (few6_any W0 x tx rd HT0.out hn0).mono ?_; rintro z w1 ⟨fb, rfl, hk1⟩
  have hb1 := hk1.heap hb0 (by simp)
  have HK1 := Lib.hid (HK0.out.trans hk1 (FSub.refl _ _))
  have HT1 := Lib.hid (HT0.out.new hk1 hn0)
  have HG1 := Lib.hid (HG0.out.new hk1)
  have hn1 := Nat.le_trans hn0 hk1.size
  clear hk1 hb0 HT0 HG0 HK0 hn0
  cases fb with
  | false =>
    go_wp2_with fail
    refine (works6_any w1 (HG1.out)).mono ?_; rintro z wa ⟨rfl, hka⟩
    have HKZ := Lib.hid (HK1.out.trans hka (FSub.refl _ _))
    clear hka
    go_wp2_with fail
    go_ret
    exact ⟨rfl, HKZ.out⟩
  | true =>
    by_cases hl : L.length ≤ 2000
    · have z1 : ¬ 2000 < (S.size : Int) := by omega
      have hr := HR.out (by omega)
      have hd := HD.out (by omega)
      unfold R6ParsePost at hd
      clear HR HD
      have HR := Lib.hid hr; have HD := Lib.hid hd
      clear hr hd hsz hL hl
      have hl1 := txLine_any w1 HG1.out x hx tx rd HT1.out hn1
      unfold LinePost at hl1
      have hl2 := fun w (ht : EvAt N w tx rd x) hN => r6Line_any w x hx tx rd ht hN
      unfold R6LinePost lineX at hl2
      generalize bs (if evGood x then evLine x else []) = LX at *
      generalize evErr x = EE at *
      have HL1 := Lib.hid hl1; have HL2 := Lib.hid hl2
      have hself := evSame_self (lnX L)
      have HSF := Lib.hid hself
      clear hl1 hl2 hself
      generalize lnX L = y at *
      generalize lnE L = LE at *
      have t1 : (LX.toList == LX.toList) = true := by simp
      go_wp2_with ((with_reducible apply wpList_load_ev); exact rfl; (first | assumption | (refine heap_alloc_lt ?_; assumption) | (refine heap_alloc_lt (heap_alloc_lt ?_); assumption) | exact heap_alloc_at (by simp)); exact rfl)
      refine HL1.out.mono ?_; rintro z w2 ⟨rfl, hk2⟩
      have hb2 := hk2.heap hb1 (by simp)
      have HK2 := Lib.hid (HK1.out.trans hk2 (FSub.refl _ _))
      have HT2 := Lib.hid (HT1.out.new hk2 hn1)
      have HG2 := Lib.hid (HG1.out.new hk2)
      have hn2 := Nat.le_trans hn1 hk2.size
      clear hk2 hb1 HT1 HG1 HK1 hn1 HL1
      go_wp2_with ((with_reducible apply wpList_load_ev); exact rfl; (first | assumption | (refine heap_alloc_lt ?_; assumption) | (refine heap_alloc_lt (heap_alloc_lt ?_); assumption) | exact heap_alloc_at (by simp)); exact rfl)
      refine (HL2.out _ HT2.out hn2).mono ?_; rintro z w3 ⟨rfl, hk3⟩
      have HK3 := Lib.hid (HK2.out.trans hk3 (FSub.refl _ _))
      have HG3 := Lib.hid (HG2.out.new hk3)
      clear hk3 hb2 HT2 HG2 HK2 hn2 HL2
      go_wp2_with fail
      refine (HR.out _ HG3.out).mono ?_; rintro z w4 ⟨ty, ry, rfl, hy, hk4⟩
      have hy1 := hy.t.one
      have hy2 := hy.r.one
      have HY4 := Lib.hid hy
      have HK4 := Lib.hid (HK3.out.trans hk4 (FSub.refl _ _))
      have HG4 := Lib.hid (HG3.out.new hk4)
      have HKA := Lib.hid ((Keeps.refl [] w4).alloc (.cells #[.int .u8 0, .int .u8 0, .int .u16 0, .int .u8 0, .int .u8 0, .int .u8 0, .int .u16 0, .int .u16 0, .int .u8 0, .int .u16 0, .slice none 0 0, .slice none 0 0, .int .u8 0, .int .i64 0, .int .i64 0, .int .i64 0, .bool false, .bool false, .bool false] 32))
      clear hk4 hy HG3 HK3 HR
      go_wp2_with ((with_reducible apply wpList_put_ev); exact rfl; exact rfl; (first | assumption | (refine heap_alloc_lt ?_; assumption) | (refine heap_alloc_lt (heap_alloc_lt ?_); assumption) | exact heap_alloc_at (by simp)); exact ⟨rfl, rfl⟩; (refine evC_one _ ?_ ?_ <;> first | rfl | assumption))
      intro W5 hb5 hk5
      have hq5 : Keeps [] w4 W5 := HKA.out.trans hk5 (fun q hq => .inr (by simp at hq; omega))
      have HB5 := Lib.hid hb5
      have HY5 := Lib.hid (HY4.out.new hq5 (Nat.le_refl _))
      have hy5 := hq5.size
      have HK5 := Lib.hid (HK4.out.trans hq5 (FSub.refl _ _))
      have HG5 := Lib.hid (HG4.out.new hq5)
      clear hb5 hk5 hq5 HKA HG4 HK4 HY4
      generalize w4.heap.size = b4 at *
      go_wp2_with fail
      refine (HD.out _).mono ?_; rintro z w6 ⟨tz, rz, rfl, hz, hk6⟩
      have hz1 := hz.t.one
      have hz2 := hz.r.one
      have HZ6 := Lib.hid hz
      have HB6 := Lib.hid (hk6.heap HB5.out (by simp))
      have HY6 := Lib.hid (HY5.out.new hk6 hy5)
      have hy6 := Nat.le_trans hy5 hk6.size
      have HK6 := Lib.hid (HK5.out.trans hk6 (FSub.refl _ _))
      have HG6 := Lib.hid (HG5.out.new hk6)
      have HKA := Lib.hid ((Keeps.refl [] w6).alloc (.cells #[.int .u8 0, .int .u8 0, .int .u16 0, .int .u8 0, .int .u8 0, .int .u8 0, .int .u16 0, .int .u16 0, .int .u8 0, .int .u16 0, .slice none 0 0, .slice none 0 0, .int .u8 0, .int .i64 0, .int .i64 0, .int .i64 0, .bool false, .bool false, .bool false] 32))
      clear hk6 hz HG5 HK5 HD HB5 HY5 hy5
      go_wp2_with ((with_reducible apply wpList_put_ev); exact rfl; exact rfl; (first | assumption | (refine heap_alloc_lt ?_; assumption) | (refine heap_alloc_lt (heap_alloc_lt ?_); assumption) | exact heap_alloc_at (by simp)); exact ⟨rfl, rfl⟩; (refine evC_one _ ?_ ?_ <;> first | rfl | assumption))
      intro W7 hb7 hk7
      have hq7 : Keeps [] w6 W7 := HKA.out.trans hk7 (fun q hq => .inr (by simp at hq; omega))
      have hc7 := hq7.heap HB6.out (by simp)
      have HZ7 := Lib.hid (HZ6.out.new hq7 (Nat.le_refl _))
      have HY7 := Lib.hid (HY6.out.new hq7 hy6)
      have hz7 := hq7.size
      have hy7 := Nat.le_trans hy6 hq7.size
      have HK7 := Lib.hid (HK6.out.trans hq7 (FSub.refl _ _))
      have HG7 := Lib.hid (HG6.out.new hq7)
      clear hk7 hq7 HKA HG6 HK6 HZ6 HY6 HB6 hy6
      generalize w6.heap.size = b6 at *
      go_wp2_with (first | ((with_reducible apply wpList_load_ev); exact rfl; (first | assumption | (refine heap_alloc_lt ?_; assumption) | (refine heap_alloc_lt (heap_alloc_lt ?_); assumption) | exact heap_alloc_at (by simp)); exact rfl) | ((with_reducible apply wpList_load_evG6); exact rfl; exact rfl; assumption; exact rfl))
      refine (refSame5_any _ y y ty ry tz rz HY7.out HZ7.out hy7 hz7).mono ?_; rintro z w8 ⟨rfl, hk8⟩
      rw [HSF.out]
      have HK8 := Lib.hid (HK7.out.trans hk8 (FSub.refl _ _))
      have HG8 := Lib.hid (HG7.out.new hk8)
      clear hk8 hb7 hc7 HK7 HG7 HZ7 HY7 hz7 hy7
      go_wp2_with fail
      refine (works6_any w8 (HG8.out)).mono ?_; rintro z wa ⟨rfl, hka⟩
      have HKZ := Lib.hid (HK8.out.trans hka (FSub.refl _ _))
      clear hka
      go_wp2_with fail
      go_ret
      exact ⟨rfl, HKZ.out⟩
    · have z1 : 2000 < (S.size : Int) := by omega
      clear HR HD
      go_wp2_with fail
      refine (works6_any w1 (HG1.out)).mono ?_; rintro z wa ⟨rfl, hka⟩
      have HKZ := Lib.hid (HK1.out.trans hka (FSub.refl _ _))
      clear hka
      go_wp2_with fail
      go_ret
      exact ⟨rfl, HKZ.out⟩
end Go.Proofs.YtffldnjjijckcaaGreatDoor
