/-
  EventKnown's walk. (Printed by draft/genknown5.py.)
-/
import Derived.Test.YtnehnbhdkhgakaaDoorYiM
import Derived.Test.YtnehnbhdkhgakaaDoorWkM
set_option linter.unusedSimpArgs false
set_option linter.unusedVariables false
namespace Go.Proofs.YtnehnbhdkhgakaaDoor
open Go.RowKit
theorem tmps_91 {A B : Array Value} {x0 x1 x2 x3 x4 y0 y1 y2 y3 y4 : Value} (hs : B.size = A.size) (hout : ∀ j, (∀ k, k < 5 → j ≠ 91 + k ∧ j ≠ 4 + k) → B[j]? = A[j]?)
    (h91 : B[91]? = some x0) (h92 : B[92]? = some x1) (h93 : B[93]? = some x2) (h94 : B[94]? = some x3) (h95 : B[95]? = some x4) (h4 : B[4]? = some y0) (h5 : B[5]? = some y1) (h6 : B[6]? = some y2) (h7 : B[7]? = some y3) (h8 : B[8]? = some y4) : B = ((((((((((A.setIfInBounds 91 x0).setIfInBounds 92 x1).setIfInBounds 93 x2).setIfInBounds 94 x3).setIfInBounds 95 x4).setIfInBounds 4 y0).setIfInBounds 5 y1).setIfInBounds 6 y2).setIfInBounds 7 y3).setIfInBounds 8 y4) := by
  have hz : 95 < A.size := by rw [← hs]; exact (Array.getElem?_eq_some_iff.1 h95).1
  apply Array.ext_getElem?
  intro j
  by_cases e91 : j = 91
  · subst e91
    rw [tset_ne (by decide), tset_ne (by decide), tset_ne (by decide), tset_ne (by decide), tset_ne (by decide), tset_ne (by decide), tset_ne (by decide), tset_ne (by decide), tset_ne (by decide)]
    rw [tset_eq (by first | omega | (simp only [Array.size_setIfInBounds]; omega))]; exact h91
  by_cases e92 : j = 92
  · subst e92
    rw [tset_ne (by decide), tset_ne (by decide), tset_ne (by decide), tset_ne (by decide), tset_ne (by decide), tset_ne (by decide), tset_ne (by decide), tset_ne (by decide)]
    rw [tset_eq (by first | omega | (simp only [Array.size_setIfInBounds]; omega))]; exact h92
  by_cases e93 : j = 93
  · subst e93
    rw [tset_ne (by decide), tset_ne (by decide), tset_ne (by decide), tset_ne (by decide), tset_ne (by decide), tset_ne (by decide), tset_ne (by decide)]
    rw [tset_eq (by first | omega | (simp only [Array.size_setIfInBounds]; omega))]; exact h93
  by_cases e94 : j = 94
  · subst e94
    rw [tset_ne (by decide), tset_ne (by decide), tset_ne (by decide), tset_ne (by decide), tset_ne (by decide), tset_ne (by decide)]
    rw [tset_eq (by first | omega | (simp only [Array.size_setIfInBounds]; omega))]; exact h94
  by_cases e95 : j = 95
  · subst e95
    rw [tset_ne (by decide), tset_ne (by decide), tset_ne (by decide), tset_ne (by decide), tset_ne (by decide)]
    rw [tset_eq (by first | omega | (simp only [Array.size_setIfInBounds]; omega))]; exact h95
  by_cases e4 : j = 4
  · subst e4
    rw [tset_ne (by decide), tset_ne (by decide), tset_ne (by decide), tset_ne (by decide)]
    rw [tset_eq (by first | omega | (simp only [Array.size_setIfInBounds]; omega))]; exact h4
  by_cases e5 : j = 5
  · subst e5
    rw [tset_ne (by decide), tset_ne (by decide), tset_ne (by decide)]
    rw [tset_eq (by first | omega | (simp only [Array.size_setIfInBounds]; omega))]; exact h5
  by_cases e6 : j = 6
  · subst e6
    rw [tset_ne (by decide), tset_ne (by decide)]
    rw [tset_eq (by first | omega | (simp only [Array.size_setIfInBounds]; omega))]; exact h6
  by_cases e7 : j = 7
  · subst e7
    rw [tset_ne (by decide)]
    rw [tset_eq (by first | omega | (simp only [Array.size_setIfInBounds]; omega))]; exact h7
  by_cases e8 : j = 8
  · subst e8
    rw [tset_eq (by first | omega | (simp only [Array.size_setIfInBounds]; omega))]; exact h8
  rw [tset_ne (fun e => e8 e.symm), tset_ne (fun e => e7 e.symm), tset_ne (fun e => e6 e.symm), tset_ne (fun e => e5 e.symm), tset_ne (fun e => e4 e.symm), tset_ne (fun e => e95 e.symm), tset_ne (fun e => e94 e.symm), tset_ne (fun e => e93 e.symm), tset_ne (fun e => e92 e.symm), tset_ne (fun e => e91 e.symm)]
  exact hout j (fun k hk => ⟨by omega, by omega⟩)
theorem tmps_106 {A B : Array Value} {x0 x1 y0 y1 : Value} (hs : B.size = A.size) (hout : ∀ j, (∀ k, k < 2 → j ≠ 106 + k ∧ j ≠ 9 + k) → B[j]? = A[j]?)
    (h106 : B[106]? = some x0) (h107 : B[107]? = some x1) (h9 : B[9]? = some y0) (h10 : B[10]? = some y1) : B = ((((A.setIfInBounds 106 x0).setIfInBounds 107 x1).setIfInBounds 9 y0).setIfInBounds 10 y1) := by
  have hz : 107 < A.size := by rw [← hs]; exact (Array.getElem?_eq_some_iff.1 h107).1
  apply Array.ext_getElem?
  intro j
  by_cases e106 : j = 106
  · subst e106
    rw [tset_ne (by decide), tset_ne (by decide), tset_ne (by decide)]
    rw [tset_eq (by first | omega | (simp only [Array.size_setIfInBounds]; omega))]; exact h106
  by_cases e107 : j = 107
  · subst e107
    rw [tset_ne (by decide), tset_ne (by decide)]
    rw [tset_eq (by first | omega | (simp only [Array.size_setIfInBounds]; omega))]; exact h107
  by_cases e9 : j = 9
  · subst e9
    rw [tset_ne (by decide)]
    rw [tset_eq (by first | omega | (simp only [Array.size_setIfInBounds]; omega))]; exact h9
  by_cases e10 : j = 10
  · subst e10
    rw [tset_eq (by first | omega | (simp only [Array.size_setIfInBounds]; omega))]; exact h10
  rw [tset_ne (fun e => e10 e.symm), tset_ne (fun e => e9 e.symm), tset_ne (fun e => e107 e.symm), tset_ne (fun e => e106 e.symm)]
  exact hout j (fun k hk => ⟨by omega, by omega⟩)
/-- What stands while the events are looked at. -/
structure KnS (b N : Nat) (c2 c3 : Nat) (tx rd : Value) (w W : World) : Prop where
  g : Glob4 W
  h1 : W.heap[b]? = some (.cells (evC knW (.slice none 0 0) (.slice none 0 0)) 32)
  h2 : W.heap[c2]? = some (.cells (evC knB tx (.slice none 0 0)) 32)
  h3 : W.heap[c3]? = some (.cells (evC knC (.slice none 0 0) rd) 32)
  m : Mics N W tx knB.t
  l : Lists N W rd knC.r
  k : Keeps [] w W
  n : N ≤ W.heap.size
  g0 : Glob4 w
  lt : b < N ∧ c2 < N ∧ c3 < N
theorem KnS.keep {b N c2 c3 : Nat} {tx rd : Value} {w W W' : World} (h : KnS b N c2 c3 tx rd w W) (hk : Keeps [] W W') : KnS b N c2 c3 tx rd w W' :=
  ⟨h.g.new hk, hk.heap h.h1 (by simp), hk.heap h.h2 (by simp), hk.heap h.h3 (by simp), h.m.same (hk.same h.n (by simp)), h.l.same (hk.same h.n (by simp)), h.k.trans hk (FSub.refl _ _), Nat.le_trans h.n hk.size, h.g0, h.lt⟩
/-- A block of later is stored into. -/
theorem KnS.put {b N c2 c3 d : Nat} {tx rd : Value} {w W W' : World} (h : KnS b N c2 c3 tx rd w W) (hd : N ≤ d) (hk : Keeps [d] W W') (hw : w.heap.size ≤ N) : KnS b N c2 c3 tx rd w W' := by
  have hK : Keeps [] w W' := h.k.trans hk (fun g hg => .inr (by simp at hg; omega))
  obtain ⟨l1, l2, l3⟩ := h.lt
  exact ⟨h.g0.new hK, hk.heap h.h1 (by simp; omega), hk.heap h.h2 (by simp; omega), hk.heap h.h3 (by simp; omega), h.m.same (hk.same h.n (by simp; omega)), h.l.same (hk.same h.n (by simp; omega)), hK, Nat.le_trans h.n hk.size, h.g0, h.lt⟩
theorem act_eq {a : Act} {T : Array Value} {D : List Deferred} (h1 : a.tmps = T) (h2 : a.defers = D) : a = ⟨T, D⟩ := by
  cases a; cases h1; cases h2; rfl
/-- What the five events are. -/
def knV (tx rd : Value) (k : Nat) : Array Value := match k with
  | 0 => evC evCfg (.slice none 0 0) (.slice none 0 0)
  | 1 => evC evCfg (.slice none 0 0) (.slice none 0 0)
  | 2 => evC knW (.slice none 0 0) (.slice none 0 0)
  | 3 => evC knB tx (.slice none 0 0)
  | _ => evC knC (.slice none 0 0) rd
/-- What stands while the wrong ones are looked at. -/
structure KnT (M d0 d1 d2 d3 d4 d5 d6 : Nat) (tg rh ri : Value) (w W : World) : Prop where
  g : Glob4 W
  e0 : W.heap[d0]? = some (.cells (evC knD (.slice none 0 0) (.slice none 0 0)) 32)
  e1 : W.heap[d1]? = some (.cells (evC knE (.slice none 0 0) (.slice none 0 0)) 32)
  e2 : W.heap[d2]? = some (.cells (evC knF (.slice none 0 0) (.slice none 0 0)) 32)
  e3 : W.heap[d3]? = some (.cells (evC knG tg (.slice none 0 0)) 32)
  e4 : W.heap[d4]? = some (.cells (evC knH (.slice none 0 0) rh) 32)
  e5 : W.heap[d5]? = some (.cells (evC knI (.slice none 0 0) ri) 32)
  e6 : W.heap[d6]? = some (.cells (evC knK (.slice none 0 0) (.slice none 0 0)) 32)
  mg : Mics M W tg knG.t
  lh : Lists M W rh knH.r
  li : Lists M W ri knI.r
  k : Keeps [] w W
  n : M ≤ W.heap.size
theorem KnT.keep {M d0 d1 d2 d3 d4 d5 d6 : Nat} {tg rh ri : Value} {w W W' : World} (h : KnT M d0 d1 d2 d3 d4 d5 d6 tg rh ri w W) (hk : Keeps [] W W') : KnT M d0 d1 d2 d3 d4 d5 d6 tg rh ri w W' :=
  ⟨h.g.new hk, hk.heap h.e0 (by simp), hk.heap h.e1 (by simp), hk.heap h.e2 (by simp), hk.heap h.e3 (by simp), hk.heap h.e4 (by simp), hk.heap h.e5 (by simp), hk.heap h.e6 (by simp),
    h.mg.same (hk.same h.n (by simp)), h.lh.same (hk.same h.n (by simp)), h.li.same (hk.same h.n (by simp)), h.k.trans hk (FSub.refl _ _), Nat.le_trans h.n hk.size⟩
def knU (rd : Value) (k : Nat) : Array Value := match k with
  | 0 => evC knC (.slice none 0 0) rd
  | _ => evC evCfg (.slice none 0 0) (.slice none 0 0)
theorem knU_ok {rd : Value} (h2 : rd.oneCell' = true) (k : Nat) (_ : k < 2) : (knU rd k).size = 19 ∧ (knU rd k).toList.all (·.oneCell') = true := by
  rcases k with _ | k
  · exact ⟨rfl, evC_one _ rfl h2⟩
  · exact ⟨rfl, evC_one _ rfl rfl⟩
theorem knV_ok {tx rd : Value} (h1 : tx.oneCell' = true) (h2 : rd.oneCell' = true) (k : Nat) (_ : k < 5) : (knV tx rd k).size = 19 ∧ (knV tx rd k).toList.all (·.oneCell') = true := by
  rcases k with _ | _ | _ | _ | k
  · exact ⟨rfl, evC_one _ rfl rfl⟩
  · exact ⟨rfl, evC_one _ rfl rfl⟩
  · exact ⟨rfl, evC_one _ rfl rfl⟩
  · exact ⟨rfl, evC_one _ h1 rfl⟩
  · exact ⟨rfl, evC_one _ rfl h2⟩
theorem kn_w0 : (#[.int .u8 2, .int .u8 3, .int .u16 258, .int .u8 2, .int .u8 1, .int .u8 0, .int .u16 5, .int .u16 0, .int .u8 0, .int .u16 0, .slice none 0 0, .slice none 0 0, .int .u8 0, .int .i64 0, .int .i64 0, .int .i64 0, .bool false, .bool false, .bool false] : Array Value) = evC knW (.slice none 0 0) (.slice none 0 0) := rfl
theorem kn_b0 (tx : Value) : (#[.int .u8 5, .int .u8 1, .int .u16 9, .int .u8 0, .int .u8 0, .int .u8 0, .int .u16 0, .int .u16 0, .int .u8 0, .int .u16 0, tx, .slice none 0 0, .int .u8 0, .int .i64 0, .int .i64 0, .int .i64 0, .bool false, .bool false, .bool false] : Array Value) = evC knB tx (.slice none 0 0) := rfl
theorem kn_c0 (rd : Value) : (#[.int .u8 6, .int .u8 1, .int .u16 9, .int .u8 0, .int .u8 0, .int .u8 0, .int .u16 0, .int .u16 0, .int .u8 0, .int .u16 0, .slice none 0 0, rd, .int .u8 0, .int .i64 0, .int .i64 0, .int .i64 0, .bool false, .bool false, .bool false] : Array Value) = evC knC (.slice none 0 0) rd := rfl
theorem kn_33 (i : Nat) (hi : i < 33) : (madeCells #[.int .u16 0] 33)[i]? = some (.int .u16 ((List.replicate 33 (0 : Int)).getD i 0)) := by
  rcases (by omega : i = 0 ∨ i = 1 ∨ i = 2 ∨ i = 3 ∨ i = 4 ∨ i = 5 ∨ i = 6 ∨ i = 7 ∨ i = 8 ∨ i = 9 ∨ i = 10 ∨ i = 11 ∨ i = 12 ∨ i = 13 ∨ i = 14 ∨ i = 15 ∨ i = 16 ∨ i = 17 ∨ i = 18 ∨ i = 19 ∨ i = 20 ∨ i = 21 ∨ i = 22 ∨ i = 23 ∨ i = 24 ∨ i = 25 ∨ i = 26 ∨ i = 27 ∨ i = 28 ∨ i = 29 ∨ i = 30 ∨ i = 31 ∨ i = 32) with rfl | rfl | rfl | rfl | rfl | rfl | rfl | rfl | rfl | rfl | rfl | rfl | rfl | rfl | rfl | rfl | rfl | rfl | rfl | rfl | rfl | rfl | rfl | rfl | rfl | rfl | rfl | rfl | rfl | rfl | rfl | rfl | rfl
  all_goals simp [madeCells]
theorem kn_z0 : (#[.int .u8 0, .int .u8 0, .int .u16 0, .int .u8 0, .int .u8 0, .int .u8 0, .int .u16 0, .int .u16 0, .int .u8 0, .int .u16 0, .slice none 0 0, .slice none 0 0, .int .u8 0, .int .i64 0, .int .i64 0, .int .i64 0, .bool false, .bool false, .bool false] : Array Value) = evC evZero (.slice none 0 0) (.slice none 0 0) := rfl
theorem kn_80 : (#[.int .u8 8, .int .u8 0, .int .u16 0, .int .u8 0, .int .u8 0, .int .u8 0, .int .u16 0, .int .u16 0, .int .u8 0, .int .u16 0, .slice none 0 0, .slice none 0 0, .int .u8 0, .int .i64 0, .int .i64 0, .int .i64 0, .bool false, .bool false, .bool false] : Array Value) = evC kn8 (.slice none 0 0) (.slice none 0 0) := rfl
theorem kn_j0 : (#[.int .u8 4, .int .u8 16, .int .u16 0, .int .u8 0, .int .u8 0, .int .u8 0, .int .u16 0, .int .u16 0, .int .u8 0, .int .u16 0, .slice none 0 0, .slice none 0 0, .int .u8 0, .int .i64 0, .int .i64 0, .int .i64 0, .bool false, .bool false, .bool false] : Array Value) = evC knJ (.slice none 0 0) (.slice none 0 0) := rfl
theorem kn_o0 : (#[.int .u8 2, .int .u8 0, .int .u16 0, .int .u8 1, .int .u8 0, .int .u8 1, .int .u16 0, .int .u16 0, .int .u8 0, .int .u16 0, .slice none 0 0, .slice none 0 0, .int .u8 0, .int .i64 0, .int .i64 0, .int .i64 0, .bool false, .bool false, .bool false] : Array Value) = evC knO (.slice none 0 0) (.slice none 0 0) := rfl
theorem kn_m0 (tx : Value) : (#[.int .u8 5, .int .u8 0, .int .u16 0, .int .u8 0, .int .u8 0, .int .u8 0, .int .u16 0, .int .u16 0, .int .u8 0, .int .u16 0, tx, .slice none 0 0, .int .u8 0, .int .i64 0, .int .i64 0, .int .i64 0, .bool false, .bool false, .bool false] : Array Value) = evC knM tx (.slice none 0 0) := rfl
theorem kn_mics (u : World) : Mics (u.heap.size + 1) (u.alloc (.cells (madeCells #[.bool false, .int .u8 0, .int .u16 0] 27) 34)) (.slice (some ⟨u.heap.size, 0, none⟩) 9 9) knM.t := by
  have h := heap_alloc_new u (.cells (madeCells #[.bool false, .int .u8 0, .int .u16 0] 27) 34)
  have hlt : u.heap.size < u.heap.size + 1 := by omega
  generalize u.alloc (.cells (madeCells #[.bool false, .int .u8 0, .int .u16 0] 27) 34) = W at h ⊢
  generalize u.heap.size = q at h hlt ⊢
  refine ⟨_, _, rfl, Nat.le_refl _, by decide, fun _ => ⟨_, 0, rfl, hlt, fun j m hj => ?_⟩⟩
  have hj' : j < 9 := (List.getElem?_eq_some_iff.1 hj).1
  rcases (by omega : j = 0 ∨ j = 1 ∨ j = 2 ∨ j = 3 ∨ j = 4 ∨ j = 5 ∨ j = 6 ∨ j = 7 ∨ j = 8) with rfl | rfl | rfl | rfl | rfl | rfl | rfl | rfl | rfl
  all_goals
    obtain rfl : (⟨false, 0, 0⟩ : Mic) = m := Option.some.inj hj
    refine ⟨?_, ?_, ?_⟩ <;> simp [World.cell?, h, madeCells]
set_option maxHeartbeats 8000000 in
set_option maxRecDepth 100000 in
theorem EventKnown_true (w : World) (hG : Glob4 w) : Calls Tryd.prog 3 #[] w fun e w' => e = .returned (.bool true) ∧ Keeps [] w w' := by
  have HG := Lib.hid hG
  clear hG
  have HA0 := Lib.hid ((Keeps.refl [] w).alloc (.cells #[.int .u8 0, .int .u8 0, .int .u16 0, .int .u8 0, .int .u8 0, .int .u8 0, .int .u16 0, .int .u16 0, .int .u8 0, .int .u16 0, .slice none 0 0, .slice none 0 0, .int .u8 0, .int .i64 0, .int .i64 0, .int .i64 0, .bool false, .bool false, .bool false] 32))
  go_enter Tryd.func3, Tryd.ntmps3
  go_wp2_with ((with_reducible apply wpList_put_ev); exact rfl; exact rfl; (first | assumption | (refine heap_alloc_lt ?_; assumption) | (refine heap_alloc_lt (heap_alloc_lt ?_); assumption) | exact heap_alloc_at (by simp)); exact ⟨rfl, rfl⟩; exact rfl)
  intro W1 hb1 hk1
  rw [kn_w0] at hb1
  have HK1 := Lib.hid (HA0.out.trans hk1 (fun g hg => .inr (by simp at hg; omega)))
  have hz1 := lt_of_block hb1
  clear HA0 hk1
  go_wp2_with ((with_reducible apply wpList_put_ev); exact rfl; exact rfl; (first | assumption | (refine heap_alloc_lt ?_; assumption) | (refine heap_alloc_lt (heap_alloc_lt ?_); assumption) | exact heap_alloc_at (by simp)); exact ⟨rfl, rfl⟩; exact rfl)
  intro W2 hb2 hk2
  rw [kn_b0] at hb2
  have hm := hk2.heap (heap_alloc_lt (o := (.cells #[.int .u8 0, .int .u8 0, .int .u16 0, .int .u8 0, .int .u8 0, .int .u8 0, .int .u16 0, .int .u16 0, .int .u8 0, .int .u16 0, .slice none 0 0, .slice none 0 0, .int .u8 0, .int .i64 0, .int .i64 0, .int .i64 0, .bool false, .bool false, .bool false] 32)) (heap_alloc_new W1 (.cells #[.bool true, .int .u8 2, .int .u16 0, .bool false, .int .u8 2, .int .u16 6] 34))) (by simp)
  have hw2 := hk2.heap (heap_alloc_lt (o := (.cells #[.int .u8 0, .int .u8 0, .int .u16 0, .int .u8 0, .int .u8 0, .int .u8 0, .int .u16 0, .int .u16 0, .int .u8 0, .int .u16 0, .slice none 0 0, .slice none 0 0, .int .u8 0, .int .i64 0, .int .i64 0, .int .i64 0, .bool false, .bool false, .bool false] 32)) (heap_alloc_lt (o := (.cells #[.bool true, .int .u8 2, .int .u16 0, .bool false, .int .u8 2, .int .u16 6] 34)) hb1)) (by simp; omega)
  have HK2 := Lib.hid (((HK1.out.alloc (.cells #[.bool true, .int .u8 2, .int .u16 0, .bool false, .int .u8 2, .int .u16 6] 34)).alloc (.cells #[.int .u8 0, .int .u8 0, .int .u16 0, .int .u8 0, .int .u8 0, .int .u8 0, .int .u16 0, .int .u16 0, .int .u8 0, .int .u16 0, .slice none 0 0, .slice none 0 0, .int .u8 0, .int .i64 0, .int .i64 0, .int .i64 0, .bool false, .bool false, .bool false] 32)).trans hk2 (fun g hg => .inr (by have := HK1.out.size; simp at hg; omega)))
  have hz2 := lt_of_block hb2
  clear hk2 hb1 HK1
  go_wp2_with ((with_reducible apply wpList_put_ev); exact rfl; exact rfl; (first | assumption | (refine heap_alloc_lt ?_; assumption) | (refine heap_alloc_lt (heap_alloc_lt ?_); assumption) | exact heap_alloc_at (by simp)); exact ⟨rfl, rfl⟩; exact rfl)
  intro W3 hb3 hk3
  rw [kn_c0] at hb3
  have hu := hk3.heap (heap_alloc_lt (o := (.cells #[.int .u8 0, .int .u8 0, .int .u16 0, .int .u8 0, .int .u8 0, .int .u8 0, .int .u16 0, .int .u16 0, .int .u8 0, .int .u16 0, .slice none 0 0, .slice none 0 0, .int .u8 0, .int .i64 0, .int .i64 0, .int .i64 0, .bool false, .bool false, .bool false] 32)) (heap_alloc_lt (o := (.cells #[.slice (some ⟨W2.heap.size, 0, none⟩) 2 2] 35)) (heap_alloc_new W2 (.cells #[.int .u16 4, .int .u16 5] 22)))) (by simp; omega)
  have hsl := hk3.heap (heap_alloc_lt (o := (.cells #[.int .u8 0, .int .u8 0, .int .u16 0, .int .u8 0, .int .u8 0, .int .u8 0, .int .u16 0, .int .u16 0, .int .u8 0, .int .u16 0, .slice none 0 0, .slice none 0 0, .int .u8 0, .int .i64 0, .int .i64 0, .int .i64 0, .bool false, .bool false, .bool false] 32)) (heap_alloc_at (w := W2.alloc (.cells #[.int .u16 4, .int .u16 5] 22)) (o := (.cells #[.slice (some ⟨W2.heap.size, 0, none⟩) 2 2] 35)) (b := W2.heap.size + 1) (by simp))) (by simp)
  have hw3 := hk3.heap (heap_alloc_lt (o := (.cells #[.int .u8 0, .int .u8 0, .int .u16 0, .int .u8 0, .int .u8 0, .int .u8 0, .int .u16 0, .int .u16 0, .int .u8 0, .int .u16 0, .slice none 0 0, .slice none 0 0, .int .u8 0, .int .i64 0, .int .i64 0, .int .i64 0, .bool false, .bool false, .bool false] 32)) (heap_alloc_lt (o := (.cells #[.slice (some ⟨W2.heap.size, 0, none⟩) 2 2] 35)) (heap_alloc_lt (o := (.cells #[.int .u16 4, .int .u16 5] 22)) hw2))) (by simp; omega)
  have hm3 := hk3.heap (heap_alloc_lt (o := (.cells #[.int .u8 0, .int .u8 0, .int .u16 0, .int .u8 0, .int .u8 0, .int .u8 0, .int .u16 0, .int .u16 0, .int .u8 0, .int .u16 0, .slice none 0 0, .slice none 0 0, .int .u8 0, .int .i64 0, .int .i64 0, .int .i64 0, .bool false, .bool false, .bool false] 32)) (heap_alloc_lt (o := (.cells #[.slice (some ⟨W2.heap.size, 0, none⟩) 2 2] 35)) (heap_alloc_lt (o := (.cells #[.int .u16 4, .int .u16 5] 22)) hm))) (by simp; omega)
  have hB3 := hk3.heap (heap_alloc_lt (o := (.cells #[.int .u8 0, .int .u8 0, .int .u16 0, .int .u8 0, .int .u8 0, .int .u8 0, .int .u16 0, .int .u16 0, .int .u8 0, .int .u16 0, .slice none 0 0, .slice none 0 0, .int .u8 0, .int .i64 0, .int .i64 0, .int .i64 0, .bool false, .bool false, .bool false] 32)) (heap_alloc_lt (o := (.cells #[.slice (some ⟨W2.heap.size, 0, none⟩) 2 2] 35)) (heap_alloc_lt (o := (.cells #[.int .u16 4, .int .u16 5] 22)) hb2))) (by simp; omega)
  have hK3 := (((HK2.out.alloc (.cells #[.int .u16 4, .int .u16 5] 22)).alloc (.cells #[.slice (some ⟨W2.heap.size, 0, none⟩) 2 2] 35)).alloc (.cells #[.int .u8 0, .int .u8 0, .int .u16 0, .int .u8 0, .int .u8 0, .int .u8 0, .int .u16 0, .int .u16 0, .int .u8 0, .int .u16 0, .slice none 0 0, .slice none 0 0, .int .u8 0, .int .i64 0, .int .i64 0, .int .i64 0, .bool false, .bool false, .bool false] 32)).trans hk3 (fun g hg => .inr (by have := HK2.out.size; simp at hg; omega))
  have hz3 := lt_of_block hb3
  clear hk3 hb2 hm hw2 HK2
  have hs0 : KnS w.heap.size W3.heap.size (W1.heap.size + 1) (W2.heap.size + 1 + 1) (Value.slice (some ⟨W1.heap.size, 0, none⟩) 2 2) (Value.slice (some ⟨W2.heap.size + 1, 0, none⟩) 1 1) w W3 := by
    refine ⟨HG.out.new hK3, hw3, hB3, hb3, ⟨_, _, rfl, Nat.le_refl _, by decide, fun _ => ⟨_, 0, rfl, by omega, fun j m hj => ?_⟩⟩, ⟨_, _, rfl, Nat.le_refl _, by decide, fun _ => ⟨_, 0, rfl, by omega, fun j hj => ?_⟩⟩, hK3, Nat.le_refl _, HG.out, ⟨by omega, by omega, by omega⟩⟩
    · have hj' : j < 2 := (List.getElem?_eq_some_iff.1 hj).1
      rcases (by omega : j = 0 ∨ j = 1) with rfl | rfl
      · obtain rfl : (⟨true, 2, 0⟩ : Mic) = m := Option.some.inj hj
        refine ⟨?_, ?_, ?_⟩ <;> simp [World.cell?, hm3]
      · obtain rfl : (⟨false, 2, 6⟩ : Mic) = m := Option.some.inj hj
        refine ⟨?_, ?_, ?_⟩ <;> simp [World.cell?, hm3]
    · have hj' : j < 1 := hj
      obtain rfl : j = 0 := by omega
      refine ⟨.slice (some ⟨W2.heap.size, 0, none⟩) 2 2, by simp [World.cell?, hsl], ⟨_, _, rfl, Nat.le_refl _, by decide, fun _ => ⟨_, 0, rfl, by omega, fun i hi => ?_⟩⟩⟩
      have hi' : i < 2 := hi
      rcases (by omega : i = 0 ∨ i = 1) with rfl | rfl <;> simp [World.cell?, hu, knC]
  have HS0 := Lib.hid hs0
  clear hs0 hm3 hw3 hB3 hK3 hsl hu hb3 HG
  have hd12 : w.heap.size < W1.heap.size + 1 := by omega
  have hd23 : W1.heap.size + 1 < W2.heap.size + 1 + 1 := by omega
  have hdN : w.heap.size ≤ W3.heap.size := HS0.out.k.size
  clear hz1 hz2 hz3
  generalize (Value.slice (some ⟨W1.heap.size, 0, none⟩) 2 2) = tx at *
  generalize (Value.slice (some ⟨W2.heap.size + 1, 0, none⟩) 1 1) = rd at *
  generalize W1.heap.size + 1 = c2 at *
  generalize W2.heap.size + 1 + 1 = c3 at *
  generalize W3.heap.size = N at *
  go_wp2_with ((with_reducible apply wpList_load_evG); exact rfl; exact rfl; (first | exact HS0.out.h1 | exact HS0.out.h2 | exact HS0.out.h3); exact rfl)
  refine (awake5_any _ HS0.out.g).mono ?_; rintro z v1 ⟨rfl, hkv⟩
  have HS1 := Lib.hid (HS0.out.keep hkv)
  clear hkv HS0
  go_wp2_with ((with_reducible apply wpList_load_evG); exact rfl; exact rfl; (first | exact HS1.out.h1 | exact HS1.out.h2 | exact HS1.out.h3); exact rfl)
  refine (puts5_any _ HS1.out.g knW kn_wI _ _ (⟨Mics.nil 0 _, Lists.nil _ _⟩ : EvAt 0 _ _ _ knW) (Nat.zero_le _) kn_wG [2, 3, 1, 2, 2, 1, 0, 5] kn_wB).mono ?_; rintro z v2 ⟨rfl, hkv⟩
  have HS2 := Lib.hid (HS1.out.keep hkv)
  clear hkv HS1
  go_wp2_with ((with_reducible apply wpList_load_evG); exact rfl; exact rfl; (first | exact HS2.out.h1 | exact HS2.out.h2 | exact HS2.out.h3); exact rfl)
  refine (puts5_any _ HS2.out.g knR kn_rI _ _ (⟨Mics.nil 0 _, Lists.nil _ _⟩ : EvAt 0 _ _ _ knR) (Nat.zero_le _) kn_rG [3, 3, 1, 2, 1, 0, 7] kn_rB).mono ?_; rintro z v3 ⟨rfl, hkv⟩
  have HS3 := Lib.hid (HS2.out.keep hkv)
  clear hkv HS2
  go_wp2_with ((with_reducible apply wpList_load_evG); exact rfl; exact rfl; (first | exact HS3.out.h1 | exact HS3.out.h2 | exact HS3.out.h3); exact rfl)
  refine (puts5_any _ HS3.out.g knA kn_aI _ _ (⟨Mics.nil 0 _, Lists.nil _ _⟩ : EvAt 0 _ _ _ knA) (Nat.zero_le _) kn_aG [7, 0, 0, 0] kn_aB).mono ?_; rintro z v4 ⟨rfl, hkv⟩
  have HS4 := Lib.hid (HS3.out.keep hkv)
  clear hkv HS3
  go_wp2_with ((with_reducible apply wpList_load_evG); exact rfl; exact rfl; (first | exact HS4.out.h1 | exact HS4.out.h2 | exact HS4.out.h3); exact rfl)
  refine (puts5_any _ HS4.out.g knB kn_bI tx _ (⟨HS4.out.m, Lists.nil _ _⟩ : EvAt N _ _ _ knB) HS4.out.n kn_bG [5, 1, 0, 9, 2, 130, 2, 0, 6] kn_bB).mono ?_; rintro z v5 ⟨rfl, hkv⟩
  have HS5 := Lib.hid (HS4.out.keep hkv)
  clear hkv HS4
  go_wp2_with ((with_reducible apply wpList_load_evG); exact rfl; exact rfl; (first | exact HS5.out.h1 | exact HS5.out.h2 | exact HS5.out.h3); exact rfl)
  refine (puts5_any _ HS5.out.g knC kn_cI _ rd (⟨Mics.nil _ _, HS5.out.l⟩ : EvAt N _ _ _ knC) HS5.out.n kn_cG [6, 1, 0, 9, 1, 2, 0, 4, 0, 5] kn_cB).mono ?_; rintro z v6 ⟨rfl, hkv⟩
  have HS6 := Lib.hid (HS5.out.keep hkv)
  clear hkv HS5
  go_wp2_with ((with_reducible apply wpList_load_evG); exact rfl; exact rfl; (first | exact HS6.out.h1 | exact HS6.out.h2 | exact HS6.out.h3); exact rfl)
  refine (puts5_any _ HS6.out.g knC0 kn_c0I _ _ (⟨Mics.nil 0 _, Lists.nil _ _⟩ : EvAt 0 _ _ _ knC0) (Nat.zero_le _) kn_c0G [6, 1, 0, 0, 0] kn_c0B).mono ?_; rintro z v7 ⟨rfl, hkv⟩
  have HS7 := Lib.hid (HS6.out.keep hkv)
  clear hkv HS6
  go_wp2_with ((with_reducible apply wpList_load_evG); exact rfl; exact rfl; (first | exact HS7.out.h1 | exact HS7.out.h2 | exact HS7.out.h3); exact rfl)
  refine (fails5_any _ HS7.out.g [4, 3, 1] (by decide) 5 kn_f1 (by decide)).mono ?_; rintro z v8 ⟨rfl, hkv⟩
  have HS8 := Lib.hid (HS7.out.keep hkv)
  clear hkv HS7
  go_wp2_with ((with_reducible apply wpList_load_evG); exact rfl; exact rfl; (first | exact HS8.out.h1 | exact HS8.out.h2 | exact HS8.out.h3); exact rfl)
  refine (fails5_any _ HS8.out.g [4, 3, 1, 2, 0] (by decide) 4 kn_f2 (by decide)).mono ?_; rintro z v9 ⟨rfl, hkv⟩
  have HS9 := Lib.hid (HS8.out.keep hkv)
  clear hkv HS8
  go_wp2_with ((with_reducible apply wpList_load_evG); exact rfl; exact rfl; (first | exact HS9.out.h1 | exact HS9.out.h2 | exact HS9.out.h3); exact rfl)
  refine (fails5_any _ HS9.out.g [4, 16, 0, 0] (by decide) 4 kn_f3 (by decide)).mono ?_; rintro z v10 ⟨rfl, hkv⟩
  have HS10 := Lib.hid (HS9.out.keep hkv)
  clear hkv HS9
  go_wp2_with ((with_reducible apply wpList_load_evG); exact rfl; exact rfl; (first | exact HS10.out.h1 | exact HS10.out.h2 | exact HS10.out.h3); exact rfl)
  refine (fails5_any _ HS10.out.g [0] (by decide) 4 kn_f4 (by decide)).mono ?_; rintro z v11 ⟨rfl, hkv⟩
  have HS11 := Lib.hid (HS10.out.keep hkv)
  clear hkv HS10
  go_wp2_with ((with_reducible apply wpList_load_evG); exact rfl; exact rfl; (first | exact HS11.out.h1 | exact HS11.out.h2 | exact HS11.out.h3); exact rfl)
  refine (fails5_any _ HS11.out.g [5, 1, 0, 9, 0] (by decide) 4 kn_f5 (by decide)).mono ?_; rintro z v12 ⟨rfl, hkv⟩
  have HS12 := Lib.hid (HS11.out.keep hkv)
  clear hkv HS11
  go_wp2_with ((with_reducible apply wpList_load_evG); exact rfl; exact rfl; (first | exact HS12.out.h1 | exact HS12.out.h2 | exact HS12.out.h3); exact rfl)
  refine (fails5_any _ HS12.out.g [5, 1, 0, 9, 1, 136] (by decide) 4 kn_f6 (by decide)).mono ?_; rintro z v13 ⟨rfl, hkv⟩
  have HS13 := Lib.hid (HS12.out.keep hkv)
  clear hkv HS12
  go_wp2_with ((with_reducible apply wpList_load_evG); exact rfl; exact rfl; (first | exact HS13.out.h1 | exact HS13.out.h2 | exact HS13.out.h3); exact rfl)
  refine (fails5_any _ HS13.out.g [1, 2, 13, 8, 0, 100, 0, 0, 3, 232] (by decide) 4 kn_f7 (by decide)).mono ?_; rintro z v14 ⟨rfl, hkv⟩
  have HS14 := Lib.hid (HS13.out.keep hkv)
  clear hkv HS13
  go_wp2_with ((with_reducible apply wpList_load_evG); exact rfl; exact rfl; (first | exact HS14.out.h1 | exact HS14.out.h2 | exact HS14.out.h3); exact rfl)
  refine (fails5_any _ HS14.out.g [1, 5, 0, 8, 0, 100, 0, 0, 3, 232] (by decide) 4 kn_f8 (by decide)).mono ?_; rintro z v15 ⟨rfl, hkv⟩
  have HS15 := Lib.hid (HS14.out.keep hkv)
  clear hkv HS14
  go_wp2_with ((with_reducible apply wpList_load_evG); exact rfl; exact rfl; (first | exact HS15.out.h1 | exact HS15.out.h2 | exact HS15.out.h3); exact rfl)
  refine (fails5_any _ HS15.out.g [3, 3, 1, 2, 5] (by decide) 4 kn_f9 (by decide)).mono ?_; rintro z v16 ⟨rfl, hkv⟩
  have HS16 := Lib.hid (HS15.out.keep hkv)
  clear hkv HS15
  go_wp2_with ((with_reducible apply wpList_load_evG); exact rfl; exact rfl; (first | exact HS16.out.h1 | exact HS16.out.h2 | exact HS16.out.h3); exact rfl)
  refine (fails5_any _ HS16.out.g [6, 1, 0, 9, 1, 2, 0, 4] (by decide) 5 kn_f10 (by decide)).mono ?_; rintro z v17 ⟨rfl, hkv⟩
  have HS17 := Lib.hid (HS16.out.keep hkv)
  clear hkv HS16
  go_wp2_with fail
  refine wp_vars_region (m := 5) (vs := 91) (s0 := 4) (V := knV tx rd) (by kernel_rfl) (by kernel_rfl) rfl (by omega) (Nat.le_of_ble_eq_true (by kernel_rfl)) (Nat.le_of_ble_eq_true (by kernel_rfl)) (knV_ok HS17.out.m.one HS17.out.l.one) ?_ ?_ ?_ ?_
  · intro k hk o ho
    rcases k with _ | _ | _ | _ | _ | k
    · obtain rfl := Option.some.inj ho
      refine ⟨rfl, fun a' w' K hout hkp hK => ?_⟩
      go_simp
      refine (config5_any _).mono ?_; rintro z w2 ⟨rfl, hk2⟩
      exact hK _ hk2
    · obtain rfl := Option.some.inj ho
      refine ⟨rfl, fun a' w' K hout hkp hK => ?_⟩
      go_simp
      refine (config5_any _).mono ?_; rintro z w2 ⟨rfl, hk2⟩
      exact hK _ hk2
    · obtain rfl := Option.some.inj ho
      refine ⟨rfl, fun a' w' K hout hkp hK => ?_⟩
      exact wp_load_row 32 _ rfl _ (eval_tmp ((hout 1 (by omega)).trans rfl)) _ _ _ _ (hkp.heap HS17.out.h1 (by simp)) Tryd.underlying32 rfl (by kernel_rfl) (hK _ (Keeps.refl _ _))
    · obtain rfl := Option.some.inj ho
      refine ⟨rfl, fun a' w' K hout hkp hK => ?_⟩
      exact wp_load_row 32 _ rfl _ (eval_tmp ((hout 2 (by omega)).trans rfl)) _ _ _ _ (hkp.heap HS17.out.h2 (by simp)) Tryd.underlying32 rfl (by kernel_rfl) (hK _ (Keeps.refl _ _))
    · obtain rfl := Option.some.inj ho
      refine ⟨rfl, fun a' w' K hout hkp hK => ?_⟩
      exact wp_load_row 32 _ rfl _ (eval_tmp ((hout 3 (by omega)).trans rfl)) _ _ _ _ (hkp.heap HS17.out.h3 (by simp)) Tryd.underlying32 rfl (by kernel_rfl) (hK _ (Keeps.refl _ _))
    · omega
  · intro k hk o ho
    rcases k with _ | _ | _ | _ | _ | k
    iterate 5 (obtain rfl := Option.some.inj ho; exact ⟨rfl, rfl, rfl⟩)
    omega
  · intro k hk o ho
    rcases k with _ | _ | _ | _ | _ | k
    iterate 5 (obtain rfl := Option.some.inj ho; exact ⟨rfl, rfl, rfl, ⟨_, Array.mem_of_getElem? (i := 0) rfl, rfl, rfl⟩, ⟨_, Array.mem_of_getElem? (i := 1) rfl, rfl, rfl⟩⟩)
    omega
  intro l a' w' hI hl
  have A0 := hI.vl 0 (by decide) (hl 0 (by decide))
  obtain ⟨d0, D0, lo0, hi0, E0⟩ := hI.vr 0 (by decide) (hl 5 (by decide)); rw [if_pos (hl 10 (by decide))] at E0
  have A1 := hI.vl 1 (by decide) (hl 1 (by decide))
  obtain ⟨d1, D1, lo1, hi1, E1⟩ := hI.vr 1 (by decide) (hl 6 (by decide)); rw [if_pos (hl 11 (by decide))] at E1
  have A2 := hI.vl 2 (by decide) (hl 2 (by decide))
  obtain ⟨d2, D2, lo2, hi2, E2⟩ := hI.vr 2 (by decide) (hl 7 (by decide)); rw [if_pos (hl 12 (by decide))] at E2
  have A3 := hI.vl 3 (by decide) (hl 3 (by decide))
  obtain ⟨d3, D3, lo3, hi3, E3⟩ := hI.vr 3 (by decide) (hl 8 (by decide)); rw [if_pos (hl 13 (by decide))] at E3
  have A4 := hI.vl 4 (by decide) (hl 4 (by decide))
  obtain ⟨d4, D4, lo4, hi4, E4⟩ := hI.vr 4 (by decide) (hl 9 (by decide)); rw [if_pos (hl 14 (by decide))] at E4
  have n01 : d0 ≠ d1 := fun e => hI.ap 0 1 (by decide) (by decide) (by decide) (hl 5 (by decide)) (hl 6 (by decide)) (by rw [D0, D1, e])
  have n02 : d0 ≠ d2 := fun e => hI.ap 0 2 (by decide) (by decide) (by decide) (hl 5 (by decide)) (hl 7 (by decide)) (by rw [D0, D2, e])
  have n03 : d0 ≠ d3 := fun e => hI.ap 0 3 (by decide) (by decide) (by decide) (hl 5 (by decide)) (hl 8 (by decide)) (by rw [D0, D3, e])
  have n04 : d0 ≠ d4 := fun e => hI.ap 0 4 (by decide) (by decide) (by decide) (hl 5 (by decide)) (hl 9 (by decide)) (by rw [D0, D4, e])
  have n12 : d1 ≠ d2 := fun e => hI.ap 1 2 (by decide) (by decide) (by decide) (hl 6 (by decide)) (hl 7 (by decide)) (by rw [D1, D2, e])
  have n13 : d1 ≠ d3 := fun e => hI.ap 1 3 (by decide) (by decide) (by decide) (hl 6 (by decide)) (hl 8 (by decide)) (by rw [D1, D3, e])
  have n14 : d1 ≠ d4 := fun e => hI.ap 1 4 (by decide) (by decide) (by decide) (hl 6 (by decide)) (hl 9 (by decide)) (by rw [D1, D4, e])
  have n23 : d2 ≠ d3 := fun e => hI.ap 2 3 (by decide) (by decide) (by decide) (hl 7 (by decide)) (hl 8 (by decide)) (by rw [D2, D3, e])
  have n24 : d2 ≠ d4 := fun e => hI.ap 2 4 (by decide) (by decide) (by decide) (hl 7 (by decide)) (hl 9 (by decide)) (by rw [D2, D4, e])
  have n34 : d3 ≠ d4 := fun e => hI.ap 3 4 (by decide) (by decide) (by decide) (hl 8 (by decide)) (hl 9 (by decide)) (by rw [D3, D4, e])
  have ht := tmps_91 hI.sz hI.out A0 A1 A2 A3 A4 D0 D1 D2 D3 D4
  have HS18 := Lib.hid (HS17.out.keep (Keeps.undrew hI.kp))
  have hN := HS17.out.n
  have HE0 := Lib.hid (show w'.heap[d0]? = some (.cells (evC evCfg (.slice none 0 0) (.slice none 0 0)) 32) from E0)
  have L0 : N ≤ d0 := Nat.le_trans hN lo0
  clear A0 D0 E0 lo0 hi0
  have HE1 := Lib.hid (show w'.heap[d1]? = some (.cells (evC evCfg (.slice none 0 0) (.slice none 0 0)) 32) from E1)
  have L1 : N ≤ d1 := Nat.le_trans hN lo1
  clear A1 D1 E1 lo1 hi1
  have HE2 := Lib.hid (show w'.heap[d2]? = some (.cells (evC knW (.slice none 0 0) (.slice none 0 0)) 32) from E2)
  have L2 : N ≤ d2 := Nat.le_trans hN lo2
  clear A2 D2 E2 lo2 hi2
  have HE3 := Lib.hid (show w'.heap[d3]? = some (.cells (evC knB tx (.slice none 0 0)) 32) from E3)
  have L3 : N ≤ d3 := Nat.le_trans hN lo3
  clear A3 D3 E3 lo3 hi3
  have HE4 := Lib.hid (show w'.heap[d4]? = some (.cells (evC knC (.slice none 0 0) rd) 32) from E4)
  have L4 : N ≤ d4 := Nat.le_trans hN lo4
  clear A4 D4 E4 lo4 hi4
  have ha := act_eq ht hI.df
  clear hI hl ht HS17 hN
  subst ha
  simp only [List.setIfInBounds_toArray, List.set_cons_succ, List.set_cons_zero]
  go_wp2_with ((with_reducible apply wpList_put_cell (T := 5) 1 knD (.slice none 0 0) (.slice none 0 0)); exact rfl; exact rfl; exact HE0.out; kernel_rfl; exact rfl; exact rfl; exact rfl)
  intro X18 hb hk
  have HS19 := Lib.hid (HS18.out.put L0 hk hdN)
  have HF1 := Lib.hid (hk.heap HE1.out (by simpa using n01.symm))
  clear HE1
  have HE1 := HF1
  clear HF1
  have HF2 := Lib.hid (hk.heap HE2.out (by simpa using n02.symm))
  clear HE2
  have HE2 := HF2
  clear HF2
  have HF3 := Lib.hid (hk.heap HE3.out (by simpa using n03.symm))
  clear HE3
  have HE3 := HF3
  clear HF3
  have HF4 := Lib.hid (hk.heap HE4.out (by simpa using n04.symm))
  clear HE4
  have HE4 := HF4
  clear HF4
  clear HE0 HS18
  have HE0 := Lib.hid hb
  clear hb hk
  go_wp2_with ((with_reducible apply wpList_put_cell (T := 3) 13 knE (.slice none 0 0) (.slice none 0 0)); exact rfl; exact rfl; exact HE1.out; kernel_rfl; exact rfl; exact rfl; exact rfl)
  intro X19 hb hk
  have HS20 := Lib.hid (HS19.out.put L1 hk hdN)
  have HF0 := Lib.hid (hk.heap HE0.out (by simpa using n01))
  clear HE0
  have HE0 := HF0
  clear HF0
  have HF2 := Lib.hid (hk.heap HE2.out (by simpa using n12.symm))
  clear HE2
  have HE2 := HF2
  clear HF2
  have HF3 := Lib.hid (hk.heap HE3.out (by simpa using n13.symm))
  clear HE3
  have HE3 := HF3
  clear HF3
  have HF4 := Lib.hid (hk.heap HE4.out (by simpa using n14.symm))
  clear HE4
  have HE4 := HF4
  clear HF4
  clear HE1 HS19
  have HE1 := Lib.hid hb
  clear hb hk
  go_wp2_with ((with_reducible apply wpList_put_cell (T := 5) 8 knF (.slice none 0 0) (.slice none 0 0)); exact rfl; exact rfl; exact HE2.out; kernel_rfl; exact rfl; exact rfl; exact rfl)
  intro X20 hb hk
  have HS21 := Lib.hid (HS20.out.put L2 hk hdN)
  have HF0 := Lib.hid (hk.heap HE0.out (by simpa using n02))
  clear HE0
  have HE0 := HF0
  clear HF0
  have HF1 := Lib.hid (hk.heap HE1.out (by simpa using n12))
  clear HE1
  have HE1 := HF1
  clear HF1
  have HF3 := Lib.hid (hk.heap HE3.out (by simpa using n23.symm))
  clear HE3
  have HE3 := HF3
  clear HF3
  have HF4 := Lib.hid (hk.heap HE4.out (by simpa using n24.symm))
  clear HE4
  have HE4 := HF4
  clear HF4
  clear HE2 HS20
  have HE2 := Lib.hid hb
  clear hb hk
  have q0_0 : d0 < X20.heap.size := lt_of_block HE0.out
  have q0_1 : d1 < X20.heap.size := lt_of_block HE1.out
  have q0_2 : d2 < X20.heap.size := lt_of_block HE2.out
  have q0_3 : d3 < X20.heap.size := lt_of_block HE3.out
  have q0_4 : d4 < X20.heap.size := lt_of_block HE4.out
  go_wp2_with ((with_reducible apply wpList_put_cell (T := 27) 10 knG (.slice (some ⟨X20.heap.size, 0, none⟩) 1 1) (.slice none 0 0)); exact rfl; exact rfl; exact (heap_alloc_lt HE3.out); kernel_rfl; exact rfl; exact rfl; exact rfl)
  intro X21 hb hk
  have hr1 := Lib.hid (hk.heap (heap_alloc_new X20 _) (by have := lt_of_block HE3.out; simp; omega))
  have HS22 := Lib.hid ((HS21.out.keep ((Keeps.refl [] _).alloc _)).put L3 hk hdN)
  have HF0 := Lib.hid (hk.heap (heap_alloc_lt HE0.out) (by simpa using n03))
  clear HE0
  have HE0 := HF0
  clear HF0
  have HF1 := Lib.hid (hk.heap (heap_alloc_lt HE1.out) (by simpa using n13))
  clear HE1
  have HE1 := HF1
  clear HF1
  have HF2 := Lib.hid (hk.heap (heap_alloc_lt HE2.out) (by simpa using n23))
  clear HE2
  have HE2 := HF2
  clear HF2
  have HF4 := Lib.hid (hk.heap (heap_alloc_lt HE4.out) (by simpa using n34.symm))
  clear HE4
  have HE4 := HF4
  clear HF4
  clear HE3 HS21
  have HE3 := Lib.hid hb
  clear hb hk
  have q1_0 : X20.heap.size ≠ d0 := by have := q0_0; omega
  have q1_1 : X20.heap.size ≠ d1 := by have := q0_1; omega
  have q1_2 : X20.heap.size ≠ d2 := by have := q0_2; omega
  have q1_3 : X20.heap.size ≠ d3 := by have := q0_3; omega
  have q1_4 : X20.heap.size ≠ d4 := by have := q0_4; omega
  have HR1 := hr1
  clear hr1
  clear q0_0
  clear q0_1
  clear q0_2
  clear q0_3
  clear q0_4
  generalize X20.heap.size = q1 at *
  have hmk := fun (w : World) => (show (Instr.makeSlice 28 (.int .i64 9) (.int .i64 9)).run Tryd.prog w = .ok (.slice (some ⟨w.heap.size, 0, none⟩) 9 9) (w.alloc (.cells (madeCells #[.slice none 0 0] 9) 35)) by kernel_rfl)
  have q0_0 : d0 < X21.heap.size := lt_of_block HE0.out
  have q0_1 : d1 < X21.heap.size := lt_of_block HE1.out
  have q0_2 : d2 < X21.heap.size := lt_of_block HE2.out
  have q0_3 : d3 < X21.heap.size := lt_of_block HE3.out
  have q0_4 : d4 < X21.heap.size := lt_of_block HE4.out
  go_wp2_with ((with_reducible apply wpList_put_cell (T := 28) 11 knH (.slice none 0 0) (.slice (some ⟨X21.heap.size, 0, none⟩) 9 9)); exact rfl; exact rfl; exact (heap_alloc_lt HE4.out); kernel_rfl; exact rfl; exact rfl; exact rfl)
  intro X22 hb hk
  have hr2 := Lib.hid (hk.heap (heap_alloc_new X21 _) (by have := lt_of_block HE4.out; simp; omega))
  have HS23 := Lib.hid ((HS22.out.keep ((Keeps.refl [] _).alloc _)).put L4 hk hdN)
  have HF0 := Lib.hid (hk.heap (heap_alloc_lt HE0.out) (by simpa using n04))
  clear HE0
  have HE0 := HF0
  clear HF0
  have HF1 := Lib.hid (hk.heap (heap_alloc_lt HE1.out) (by simpa using n14))
  clear HE1
  have HE1 := HF1
  clear HF1
  have HF2 := Lib.hid (hk.heap (heap_alloc_lt HE2.out) (by simpa using n24))
  clear HE2
  have HE2 := HF2
  clear HF2
  have HF3 := Lib.hid (hk.heap (heap_alloc_lt HE3.out) (by simpa using n34))
  clear HE3
  have HE3 := HF3
  clear HF3
  have HF1 := Lib.hid (hk.heap (heap_alloc_lt HR1.out) (by have := q1_4; simp; omega))
  clear HR1
  have HR1 := HF1
  clear HF1
  clear HE4 HS22
  have HE4 := Lib.hid hb
  clear hb hk
  have q2_0 : X21.heap.size ≠ d0 := by have := q0_0; omega
  have q2_1 : X21.heap.size ≠ d1 := by have := q0_1; omega
  have q2_2 : X21.heap.size ≠ d2 := by have := q0_2; omega
  have q2_3 : X21.heap.size ≠ d3 := by have := q0_3; omega
  have q2_4 : X21.heap.size ≠ d4 := by have := q0_4; omega
  have HR2 := hr2
  clear hr2
  clear q0_0
  clear q0_1
  clear q0_2
  clear q0_3
  clear q0_4
  generalize X21.heap.size = q2 at *
  clear hmk
  go_wp2_with fail
  refine wp_vars_region (m := 2) (vs := 106) (s0 := 9) (V := knU rd) (by kernel_rfl) (by kernel_rfl) rfl (by omega) (Nat.le_of_ble_eq_true (by kernel_rfl)) (Nat.le_of_ble_eq_true (by kernel_rfl)) (knU_ok HS23.out.l.one) ?_ ?_ ?_ ?_
  · intro k hk o ho
    rcases k with _ | _ | k
    · obtain rfl := Option.some.inj ho
      refine ⟨rfl, fun a' w' K hout hkp hK => ?_⟩
      exact wp_load_row 32 _ rfl _ (eval_tmp ((hout 3 (by omega)).trans rfl)) _ _ _ _ (hkp.heap HS23.out.h3 (by simp)) Tryd.underlying32 rfl (by kernel_rfl) (hK _ (Keeps.refl _ _))
    · obtain rfl := Option.some.inj ho
      refine ⟨rfl, fun a' w' K hout hkp hK => ?_⟩
      go_simp
      refine (config5_any _).mono ?_; rintro z w2 ⟨rfl, hk2⟩
      exact hK _ hk2
    · omega
  · intro k hk o ho
    rcases k with _ | _ | k
    iterate 2 (obtain rfl := Option.some.inj ho; exact ⟨rfl, rfl, rfl⟩)
    omega
  · intro k hk o ho
    rcases k with _ | _ | k
    iterate 2 (obtain rfl := Option.some.inj ho; exact ⟨rfl, rfl, rfl, ⟨_, Array.mem_of_getElem? (i := 0) rfl, rfl, rfl⟩, ⟨_, Array.mem_of_getElem? (i := 1) rfl, rfl, rfl⟩⟩)
    omega
  intro l a' X23 hI hl
  have A0 := hI.vl 0 (by decide) (hl 0 (by decide))
  obtain ⟨d5, D0, lo0, hi0, E0⟩ := hI.vr 0 (by decide) (hl 2 (by decide)); rw [if_pos (hl 4 (by decide))] at E0
  have A1 := hI.vl 1 (by decide) (hl 1 (by decide))
  obtain ⟨d6, D1, lo1, hi1, E1⟩ := hI.vr 1 (by decide) (hl 3 (by decide)); rw [if_pos (hl 5 (by decide))] at E1
  have n56 : d5 ≠ d6 := fun e => hI.ap 0 1 (by decide) (by decide) (by decide) (hl 2 (by decide)) (hl 3 (by decide)) (by rw [D0, D1, e])
  have lo0' : X22.heap.size ≤ d5 := lo0
  have lo1' : X22.heap.size ≤ d6 := lo1
  have n05 : d0 ≠ d5 := by have := lt_of_block HE0.out; omega
  have n06 : d0 ≠ d6 := by have := lt_of_block HE0.out; omega
  have n15 : d1 ≠ d5 := by have := lt_of_block HE1.out; omega
  have n16 : d1 ≠ d6 := by have := lt_of_block HE1.out; omega
  have n25 : d2 ≠ d5 := by have := lt_of_block HE2.out; omega
  have n26 : d2 ≠ d6 := by have := lt_of_block HE2.out; omega
  have n35 : d3 ≠ d5 := by have := lt_of_block HE3.out; omega
  have n36 : d3 ≠ d6 := by have := lt_of_block HE3.out; omega
  have n45 : d4 ≠ d5 := by have := lt_of_block HE4.out; omega
  have n46 : d4 ≠ d6 := by have := lt_of_block HE4.out; omega
  have q1_5 : q1 ≠ d5 := by have := lt_of_block HR1.out; omega
  have q1_6 : q1 ≠ d6 := by have := lt_of_block HR1.out; omega
  have q2_5 : q2 ≠ d5 := by have := lt_of_block HR2.out; omega
  have q2_6 : q2 ≠ d6 := by have := lt_of_block HR2.out; omega
  have ht := tmps_106 hI.sz hI.out A0 A1 D0 D1
  have hq := Keeps.undrew hI.kp
  have HS24 := Lib.hid (HS23.out.keep hq)
  have hN := HS23.out.n
  have L5 : N ≤ d5 := Nat.le_trans hN lo0'
  have L6 : N ≤ d6 := Nat.le_trans hN lo1'
  have HE5 := Lib.hid (show X23.heap[d5]? = some (.cells (evC knC (.slice none 0 0) rd) 32) from E0)
  have HE6 := Lib.hid (show X23.heap[d6]? = some (.cells (evC evCfg (.slice none 0 0) (.slice none 0 0)) 32) from E1)
  have HFE0 := Lib.hid (hq.heap HE0.out (by simp))
  clear HE0
  have HE0 := HFE0
  clear HFE0
  have HFE1 := Lib.hid (hq.heap HE1.out (by simp))
  clear HE1
  have HE1 := HFE1
  clear HFE1
  have HFE2 := Lib.hid (hq.heap HE2.out (by simp))
  clear HE2
  have HE2 := HFE2
  clear HFE2
  have HFE3 := Lib.hid (hq.heap HE3.out (by simp))
  clear HE3
  have HE3 := HFE3
  clear HFE3
  have HFE4 := Lib.hid (hq.heap HE4.out (by simp))
  clear HE4
  have HE4 := HFE4
  clear HFE4
  have HFR1 := Lib.hid (hq.heap HR1.out (by simp))
  clear HR1
  have HR1 := HFR1
  clear HFR1
  have HFR2 := Lib.hid (hq.heap HR2.out (by simp))
  clear HR2
  have HR2 := HFR2
  clear HFR2
  have ha := act_eq ht hI.df
  clear hI hl ht HS23 hN A0 A1 D0 D1 E0 E1 lo0 lo1 lo0' lo1' hi0 hi1 hq
  subst ha
  simp only [Act.put, List.setIfInBounds_toArray, List.set_cons_succ, List.set_cons_zero]
  have hmk := fun (w : World) => (show (Instr.makeSlice 35 (.int .i64 33) (.int .i64 33)).run Tryd.prog w = .ok (.slice (some ⟨w.heap.size, 0, none⟩) 33 33) (w.alloc (.cells (madeCells #[.int .u16 0] 33) 22)) by kernel_rfl)
  have q0_0 : d0 < X23.heap.size := lt_of_block HE0.out
  have q0_1 : d1 < X23.heap.size := lt_of_block HE1.out
  have q0_2 : d2 < X23.heap.size := lt_of_block HE2.out
  have q0_3 : d3 < X23.heap.size := lt_of_block HE3.out
  have q0_4 : d4 < X23.heap.size := lt_of_block HE4.out
  have q0_5 : d5 < X23.heap.size := lt_of_block HE5.out
  have q0_6 : d6 < X23.heap.size := lt_of_block HE6.out
  go_wp2_with ((with_reducible apply wpList_put_cell (T := 28) 11 knI (.slice none 0 0) (.slice (some ⟨X23.heap.size + 1, 0, none⟩) 1 1)); exact rfl; exact rfl; exact (heap_alloc_lt (heap_alloc_lt HE5.out)); kernel_rfl; exact rfl; exact rfl; exact rfl)
  intro X24 hb hk
  have hr3 := Lib.hid (hk.heap (heap_alloc_lt (heap_alloc_new X23 _)) (by have := lt_of_block HE5.out; simp; omega))
  have hr4 := Lib.hid (hk.heap (heap_alloc_at (w := X23.alloc _) (b := X23.heap.size + 1) (by simp)) (by have := lt_of_block HE5.out; simp; omega))
  have HS25 := Lib.hid (((HS24.out.keep ((Keeps.refl [] _).alloc _)).keep ((Keeps.refl [] _).alloc _)).put L5 hk hdN)
  have HF0 := Lib.hid (hk.heap (heap_alloc_lt (heap_alloc_lt HE0.out)) (by simpa using n05))
  clear HE0
  have HE0 := HF0
  clear HF0
  have HF1 := Lib.hid (hk.heap (heap_alloc_lt (heap_alloc_lt HE1.out)) (by simpa using n15))
  clear HE1
  have HE1 := HF1
  clear HF1
  have HF2 := Lib.hid (hk.heap (heap_alloc_lt (heap_alloc_lt HE2.out)) (by simpa using n25))
  clear HE2
  have HE2 := HF2
  clear HF2
  have HF3 := Lib.hid (hk.heap (heap_alloc_lt (heap_alloc_lt HE3.out)) (by simpa using n35))
  clear HE3
  have HE3 := HF3
  clear HF3
  have HF4 := Lib.hid (hk.heap (heap_alloc_lt (heap_alloc_lt HE4.out)) (by simpa using n45))
  clear HE4
  have HE4 := HF4
  clear HF4
  have HF6 := Lib.hid (hk.heap (heap_alloc_lt (heap_alloc_lt HE6.out)) (by simpa using n56.symm))
  clear HE6
  have HE6 := HF6
  clear HF6
  have HF1 := Lib.hid (hk.heap (heap_alloc_lt (heap_alloc_lt HR1.out)) (by have := q1_5; simp; omega))
  clear HR1
  have HR1 := HF1
  clear HF1
  have HF2 := Lib.hid (hk.heap (heap_alloc_lt (heap_alloc_lt HR2.out)) (by have := q2_5; simp; omega))
  clear HR2
  have HR2 := HF2
  clear HF2
  clear HE5 HS24
  have HE5 := Lib.hid hb
  clear hb hk
  have q3_0 : X23.heap.size ≠ d0 := by have := q0_0; omega
  have q3_1 : X23.heap.size ≠ d1 := by have := q0_1; omega
  have q3_2 : X23.heap.size ≠ d2 := by have := q0_2; omega
  have q3_3 : X23.heap.size ≠ d3 := by have := q0_3; omega
  have q3_4 : X23.heap.size ≠ d4 := by have := q0_4; omega
  have q3_5 : X23.heap.size ≠ d5 := by have := q0_5; omega
  have q3_6 : X23.heap.size ≠ d6 := by have := q0_6; omega
  have HR3 := hr3
  clear hr3
  have q4_0 : X23.heap.size + 1 ≠ d0 := by have := q0_0; omega
  have q4_1 : X23.heap.size + 1 ≠ d1 := by have := q0_1; omega
  have q4_2 : X23.heap.size + 1 ≠ d2 := by have := q0_2; omega
  have q4_3 : X23.heap.size + 1 ≠ d3 := by have := q0_3; omega
  have q4_4 : X23.heap.size + 1 ≠ d4 := by have := q0_4; omega
  have q4_5 : X23.heap.size + 1 ≠ d5 := by have := q0_5; omega
  have q4_6 : X23.heap.size + 1 ≠ d6 := by have := q0_6; omega
  have HR4 := hr4
  clear hr4
  clear q0_0
  clear q0_1
  clear q0_2
  clear q0_3
  clear q0_4
  clear q0_5
  clear q0_6
  generalize X23.heap.size + 1 = q4 at *
  generalize X23.heap.size = q3 at *
  clear hmk
  go_wp2_with ((with_reducible apply wpList_put_cell (T := 3) 15 knK (.slice none 0 0) (.slice none 0 0)); exact rfl; exact rfl; exact HE6.out; kernel_rfl; exact rfl; exact rfl; exact rfl)
  intro X25 hb hk
  have HS26 := Lib.hid (HS25.out.put L6 hk hdN)
  have HF0 := Lib.hid (hk.heap HE0.out (by simpa using n06))
  clear HE0
  have HE0 := HF0
  clear HF0
  have HF1 := Lib.hid (hk.heap HE1.out (by simpa using n16))
  clear HE1
  have HE1 := HF1
  clear HF1
  have HF2 := Lib.hid (hk.heap HE2.out (by simpa using n26))
  clear HE2
  have HE2 := HF2
  clear HF2
  have HF3 := Lib.hid (hk.heap HE3.out (by simpa using n36))
  clear HE3
  have HE3 := HF3
  clear HF3
  have HF4 := Lib.hid (hk.heap HE4.out (by simpa using n46))
  clear HE4
  have HE4 := HF4
  clear HF4
  have HF5 := Lib.hid (hk.heap HE5.out (by simpa using n56))
  clear HE5
  have HE5 := HF5
  clear HF5
  have HF1 := Lib.hid (hk.heap HR1.out (by have := q1_6; simp; omega))
  clear HR1
  have HR1 := HF1
  clear HF1
  have HF2 := Lib.hid (hk.heap HR2.out (by have := q2_6; simp; omega))
  clear HR2
  have HR2 := HF2
  clear HF2
  have HF3 := Lib.hid (hk.heap HR3.out (by have := q3_6; simp; omega))
  clear HR3
  have HR3 := HF3
  clear HF3
  have HF4 := Lib.hid (hk.heap HR4.out (by have := q4_6; simp; omega))
  clear HR4
  have HR4 := HF4
  clear HF4
  clear HE6 HS25
  have HE6 := Lib.hid hb
  clear hb hk
  have ht0 : KnT X25.heap.size d0 d1 d2 d3 d4 d5 d6 (.slice (some ⟨q1, 0, none⟩) 1 1) (.slice (some ⟨q2, 0, none⟩) 9 9) (.slice (some ⟨q4, 0, none⟩) 1 1) w X25 := by
    have y1 := lt_of_block HR1.out
    have y2 := lt_of_block HR2.out
    have y3 := lt_of_block HR3.out
    have y4 := lt_of_block HR4.out
    refine ⟨HS26.out.g, HE0.out, HE1.out, HE2.out, HE3.out, HE4.out, HE5.out, HE6.out, ⟨_, _, rfl, Nat.le_refl _, by decide, fun _ => ⟨_, 0, rfl, y1, fun j m hj => ?_⟩⟩, ⟨_, _, rfl, Nat.le_refl _, by decide, fun _ => ⟨_, 0, rfl, y2, fun j hj => ?_⟩⟩, ⟨_, _, rfl, Nat.le_refl _, by decide, fun _ => ⟨_, 0, rfl, y4, fun j hj => ?_⟩⟩, HS26.out.k, Nat.le_refl _⟩
    · have hj' : j < 1 := (List.getElem?_eq_some_iff.1 hj).1
      obtain rfl : j = 0 := by omega
      obtain rfl : (⟨true, 2, 1⟩ : Mic) = m := Option.some.inj hj
      have h1 := HR1.out
      refine ⟨?_, ?_, ?_⟩ <;> simp [World.cell?, h1]
    · have hj' : j < 9 := hj
      refine ⟨.slice none 0 0, ?_, ?_⟩
      · have h2 := HR2.out
        rcases (by omega : j = 0 ∨ j = 1 ∨ j = 2 ∨ j = 3 ∨ j = 4 ∨ j = 5 ∨ j = 6 ∨ j = 7 ∨ j = 8) with rfl | rfl | rfl | rfl | rfl | rfl | rfl | rfl | rfl <;> simp [World.cell?, h2, madeCells]
      · have e : knH.r.getD j [] = [] := by
          rcases (by omega : j = 0 ∨ j = 1 ∨ j = 2 ∨ j = 3 ∨ j = 4 ∨ j = 5 ∨ j = 6 ∨ j = 7 ∨ j = 8) with rfl | rfl | rfl | rfl | rfl | rfl | rfl | rfl | rfl <;> rfl
        rw [e]
        exact ⟨none, 0, rfl, Nat.le_refl _, by decide, fun h => absurd rfl h⟩
    · have hj' : j < 1 := hj
      obtain rfl : j = 0 := by omega
      have h4 := HR4.out
      refine ⟨.slice (some ⟨q3, 0, none⟩) 33 33, by simp [World.cell?, h4], ⟨_, _, rfl, Nat.le_refl _, by decide, fun _ => ⟨_, 0, rfl, y3, fun i hi => ?_⟩⟩⟩
      have hi' : i < 33 := hi
      have h3 := HR3.out
      change X25.cell? ⟨q3, 0 + i, none⟩ = some (.int .u16 ((List.replicate 33 (0 : Int)).getD i 0))
      rw [← kn_33 i hi']
      simp [World.cell?, h3]
  have HT0 := Lib.hid ht0
  clear ht0 HS26 HE0 HE1 HE2 HE3 HE4 HE5 HE6 HR1 HR2 HR3 HR4
  generalize X25.heap.size = M at *
  clear n01 n02 n03 n04 n12 n13 n14 n23 n24 n34 n05 n06 n15 n16 n25 n26 n35 n36 n45 n46 n56
  have hmk := fun (w : World) => (show (Instr.makeSlice 27 (.int .i64 9) (.int .i64 9)).run Tryd.prog w = .ok (.slice (some ⟨w.heap.size, 0, none⟩) 9 9) (w.alloc (.cells (madeCells #[.bool false, .int .u8 0, .int .u16 0] 27) 34)) by kernel_rfl)
  go_wp2_with ((with_reducible apply wpList_load_evG); exact rfl; exact rfl; (first | exact HT0.out.e0 | exact HT0.out.e1 | exact HT0.out.e2 | exact HT0.out.e3 | exact HT0.out.e4 | exact HT0.out.e5 | exact HT0.out.e6); exact rfl)
  refine (none5_any _ HT0.out.g knD kn_dI _ _ (⟨Mics.nil 0 _, Lists.nil _ _⟩ : EvAt 0 _ _ _ knD) (Nat.zero_le _) kn_dG).mono ?_; rintro z u1 ⟨rfl, hkv⟩
  have HT1 := Lib.hid (HT0.out.keep hkv)
  clear hkv HT0
  go_wp2_with ((with_reducible apply wpList_load_evG); exact rfl; exact rfl; (first | exact HT1.out.e0 | exact HT1.out.e1 | exact HT1.out.e2 | exact HT1.out.e3 | exact HT1.out.e4 | exact HT1.out.e5 | exact HT1.out.e6); exact rfl)
  refine (none5_any _ HT1.out.g knE kn_eI _ _ (⟨Mics.nil 0 _, Lists.nil _ _⟩ : EvAt 0 _ _ _ knE) (Nat.zero_le _) kn_eG).mono ?_; rintro z u2 ⟨rfl, hkv⟩
  have HT2 := Lib.hid (HT1.out.keep hkv)
  clear hkv HT1
  go_wp2_with ((with_reducible apply wpList_load_evG); exact rfl; exact rfl; (first | exact HT2.out.e0 | exact HT2.out.e1 | exact HT2.out.e2 | exact HT2.out.e3 | exact HT2.out.e4 | exact HT2.out.e5 | exact HT2.out.e6); exact rfl)
  refine (none5_any _ HT2.out.g knF kn_fI _ _ (⟨Mics.nil 0 _, Lists.nil _ _⟩ : EvAt 0 _ _ _ knF) (Nat.zero_le _) kn_fG).mono ?_; rintro z u3 ⟨rfl, hkv⟩
  have HT3 := Lib.hid (HT2.out.keep hkv)
  clear hkv HT2
  go_wp2_with ((with_reducible apply wpList_load_evG); exact rfl; exact rfl; (first | exact HT3.out.e0 | exact HT3.out.e1 | exact HT3.out.e2 | exact HT3.out.e3 | exact HT3.out.e4 | exact HT3.out.e5 | exact HT3.out.e6); exact rfl)
  refine (none5_any _ HT3.out.g knG kn_gI _ _ (⟨HT3.out.mg, Lists.nil _ _⟩ : EvAt M _ _ _ knG) HT3.out.n kn_gG).mono ?_; rintro z u4 ⟨rfl, hkv⟩
  have HT4 := Lib.hid (HT3.out.keep hkv)
  clear hkv HT3
  go_wp2_with ((with_reducible apply wpList_load_evG); exact rfl; exact rfl; (first | exact HT4.out.e0 | exact HT4.out.e1 | exact HT4.out.e2 | exact HT4.out.e3 | exact HT4.out.e4 | exact HT4.out.e5 | exact HT4.out.e6); exact rfl)
  refine (none5_any _ HT4.out.g knH kn_hI _ _ (⟨Mics.nil _ _, HT4.out.lh⟩ : EvAt M _ _ _ knH) HT4.out.n kn_hG).mono ?_; rintro z u5 ⟨rfl, hkv⟩
  have HT5 := Lib.hid (HT4.out.keep hkv)
  clear hkv HT4
  go_wp2_with ((with_reducible apply wpList_load_evG); exact rfl; exact rfl; (first | exact HT5.out.e0 | exact HT5.out.e1 | exact HT5.out.e2 | exact HT5.out.e3 | exact HT5.out.e4 | exact HT5.out.e5 | exact HT5.out.e6); exact rfl)
  refine (none5_any _ HT5.out.g knI kn_iI _ _ (⟨Mics.nil _ _, HT5.out.li⟩ : EvAt M _ _ _ knI) HT5.out.n kn_iG).mono ?_; rintro z u6 ⟨rfl, hkv⟩
  have HT6 := Lib.hid (HT5.out.keep hkv)
  clear hkv HT5
  go_wp2_with ((with_reducible apply wpList_load_evG); exact rfl; exact rfl; (first | exact HT6.out.e0 | exact HT6.out.e1 | exact HT6.out.e2 | exact HT6.out.e3 | exact HT6.out.e4 | exact HT6.out.e5 | exact HT6.out.e6); exact rfl)
  refine (none5_any _ HT6.out.g knK kn_kI _ _ (⟨Mics.nil 0 _, Lists.nil _ _⟩ : EvAt 0 _ _ _ knK) (Nat.zero_le _) kn_kG).mono ?_; rintro z u7 ⟨rfl, hkv⟩
  have HT7 := Lib.hid (HT6.out.keep hkv)
  clear hkv HT6
  go_wp2_with ((with_reducible apply wpList_load_evG); exact rfl; exact rfl; (first | exact HT7.out.e0 | exact HT7.out.e1 | exact HT7.out.e2 | exact HT7.out.e3 | exact HT7.out.e4 | exact HT7.out.e5 | exact HT7.out.e6); exact rfl)
  rw [kn_z0]
  refine (none5_any _ HT7.out.g evZero kn_zI _ _ (⟨Mics.nil 0 _, Lists.nil _ _⟩ : EvAt 0 _ _ _ evZero) (Nat.zero_le _) kn_zG).mono ?_; rintro z u8 ⟨rfl, hkv⟩
  have HT8 := Lib.hid (HT7.out.keep hkv)
  clear hkv HT7
  go_wp2_with ((with_reducible apply wpList_load_evG); exact rfl; exact rfl; (first | exact HT8.out.e0 | exact HT8.out.e1 | exact HT8.out.e2 | exact HT8.out.e3 | exact HT8.out.e4 | exact HT8.out.e5 | exact HT8.out.e6); exact rfl)
  rw [kn_80]
  refine (none5_any _ HT8.out.g kn8 kn_8I _ _ (⟨Mics.nil 0 _, Lists.nil _ _⟩ : EvAt 0 _ _ _ kn8) (Nat.zero_le _) kn_8G).mono ?_; rintro z u9 ⟨rfl, hkv⟩
  have HT9 := Lib.hid (HT8.out.keep hkv)
  clear hkv HT8
  go_wp2_with ((with_reducible apply wpList_load_evG); exact rfl; exact rfl; (first | exact HT9.out.e0 | exact HT9.out.e1 | exact HT9.out.e2 | exact HT9.out.e3 | exact HT9.out.e4 | exact HT9.out.e5 | exact HT9.out.e6); exact rfl)
  rw [kn_j0]
  refine (none5_any _ HT9.out.g knJ kn_jI _ _ (⟨Mics.nil 0 _, Lists.nil _ _⟩ : EvAt 0 _ _ _ knJ) (Nat.zero_le _) kn_jG).mono ?_; rintro z u10 ⟨rfl, hkv⟩
  have HT10 := Lib.hid (HT9.out.keep hkv)
  clear hkv HT9
  go_wp2_with ((with_reducible apply wpList_load_evG); exact rfl; exact rfl; (first | exact HT10.out.e0 | exact HT10.out.e1 | exact HT10.out.e2 | exact HT10.out.e3 | exact HT10.out.e4 | exact HT10.out.e5 | exact HT10.out.e6); exact rfl)
  rw [kn_o0]
  refine (none5_any _ HT10.out.g knO kn_oI _ _ (⟨Mics.nil 0 _, Lists.nil _ _⟩ : EvAt 0 _ _ _ knO) (Nat.zero_le _) kn_oG).mono ?_; rintro z u11 ⟨rfl, hkv⟩
  have HT11 := Lib.hid (HT10.out.keep hkv)
  clear hkv HT10
  go_wp2_with ((with_reducible apply wpList_load_evG); exact rfl; exact rfl; (first | exact HT11.out.e0 | exact HT11.out.e1 | exact HT11.out.e2 | exact HT11.out.e3 | exact HT11.out.e4 | exact HT11.out.e5 | exact HT11.out.e6); exact rfl)
  rw [kn_m0]
  refine (none5_any _ (HT11.out.g.new ((Keeps.refl [] _).alloc _)) knM kn_mI _ _ (⟨kn_mics _, Lists.nil _ _⟩ : EvAt _ _ _ _ knM) (by simp) kn_mG).mono ?_; rintro z u12 ⟨rfl, hkv⟩
  have HT12 := Lib.hid (HT11.out.keep (((Keeps.refl [] _).alloc _).trans hkv (FSub.refl _ _)))
  clear hkv HT11
  go_wp2_with ((with_reducible apply wpList_load_evG); exact rfl; exact rfl; (first | exact HT12.out.e0 | exact HT12.out.e1 | exact HT12.out.e2 | exact HT12.out.e3 | exact HT12.out.e4 | exact HT12.out.e5 | exact HT12.out.e6); exact rfl)
  refine (awake5_any _ HT12.out.g).mono ?_; rintro z u13 ⟨rfl, hkv⟩
  have HT13 := Lib.hid (HT12.out.keep hkv)
  clear hkv HT12
  go_wp2_with fail
  go_ret
  exact ⟨rfl, HT13.out.k⟩
end Go.Proofs.YtnehnbhdkhgakaaDoor
