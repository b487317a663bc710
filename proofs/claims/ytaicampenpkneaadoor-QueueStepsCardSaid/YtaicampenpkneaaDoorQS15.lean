/-
  The program's queue: New, Idle, Same, Values, Of; a slice cut by three indices.
-/
import Derived.Lib.SliceRun
import Derived.Test.YtaicampenpkneaaDoorQS14
set_option linter.unusedSimpArgs false
set_option linter.unusedVariables false
namespace Go.Proofs.YtaicampenpkneaaDoor
open Go.RowKit
set_option maxHeartbeats 4000000
set_option maxRecDepth 100000
theorem quNew_any (w : World) : Calls Tryd.prog 24 #[] w fun e w' => e = .returned (.agg #[.slice none 0 0]) ∧ Keeps [] w w' := by
  have h := heap_alloc_new w (.cells #[.slice none 0 0] 28)
  have HN := Lib.hid h
  clear h
  go_enter Tryd.func24, Tryd.ntmps24
  go_wp2_with fail
  try simp only [Exit.inBlock, Exit.then]
  exact bodyPost_ret (results_cell_row (P := Tryd.prog) rfl _ _ _ _ _ _ _ rfl HN.out Tryd.underlying28 rfl (by kernel_rfl)) rfl ⟨rfl, (Keeps.refl _ _).alloc _⟩
theorem quIdle_any (w : World) (f : Int) : Calls Tryd.prog 16 #[.int .u8 f] w fun e w' => e = .returned (.bool false) ∧ Keeps [] w w' := by
  go_enter Tryd.func16, Tryd.ntmps16
  go_wp2_with fail
  go_ret
  exact ⟨rfl, Keeps.refl _ _⟩
theorem eq16_any (w : World) {N M : Nat} {v1 v2 : Value} {l m : List Int} (h1 : rkU.In N w v1 l) (h2 : rkU.In M w v2 m) :
    Calls Tryd.prog 33 #[v1, v2] w fun e w' => e = .returned (.bool (decide (l = m))) ∧ ∃ q, w' = w.drewN q := by
  obtain ⟨a1, c1, rfl, hc1, hm1, -⟩ := id h1
  obtain ⟨a2, c2, rfl, hc2, hm2, -⟩ := id h2
  by_cases hlen : l.length = m.length
  · rw [← hlen]
    have HI1 := Lib.hid h1; have HI2 := Lib.hid h2; have HLE := Lib.hid hlen
    rw [← hlen] at hc2
    obtain ⟨D, hD⟩ : ∃ D, D = decide (l = m) := ⟨_, rfl⟩
    rw [← hD]
    have HD := Lib.hid hD
    clear h1 h2 hlen hD
    go_enter Tryd.func33, Tryd.ntmps33
    go_wp2_with fail
    go_loopw [5, 13] (fun _ i wr => ∃ k q : Nat, k ≤ l.length ∧ i = .int .i64 k ∧ l.take k = m.take k ∧ wr = w.drewN q) (fun _ i _ => l.length - (intOf i).toNat)
    case atStart => exact ⟨0, 0, by omega, rfl, rfl, rfl⟩
    case round =>
      obtain ⟨k, q, hk, rfl, hp, rfl⟩ := hrel
      have HP := Lib.hid hp; clear hp
      by_cases hlt : k < l.length
      · obtain ⟨b1, o1, rfl, _, d1⟩ := U16.at HI1.out hlt
        obtain ⟨b2, o2, rfl, _, d2⟩ := U16.at (k := k) HI2.out (by have := HLE.out; omega)
        by_cases he : l.getD k 0 = m.getD k 0
        · rw [← he] at d2
          have HN := Lib.hid (take_next (m := m) hlt (by have := HLE.out; omega) HP.out he)
          clear he HP
          generalize l.getD k 0 = X at *
          have t2 : (X != X) = false := by simp
          go_wp2_with fail
          go_quiet (fail)
          go_wp2_with fail
          go_roundw
          case rel => exact ⟨k + 1, q + nq, by omega, by go_num, HN.out, by simp⟩
          case measure => simp [intOf]; omega
        · obtain rfl := HD.out.trans (decide_eq_false (fun e => he (by rw [e])))
          clear HP
          generalize l.getD k 0 = X at *
          generalize m.getD k 0 = Y at *
          have t2 : (X != Y) = true := by simpa using he
          clear he
          go_wp2_with fail
          go_quiet (fail)
          go_wp2_with fail
          go_ret
          exact ⟨rfl, q + nq, by simp⟩
      · obtain rfl : k = l.length := by omega
        obtain rfl := HD.out.trans (decide_eq_true (take_all HLE.out HP.out))
        clear HP
        go_wp2_with fail
        go_ret
        exact ⟨rfl, _, rfl⟩
  · rw [decide_eq_false (fun e => hlen (by rw [e]))]
    have z : ¬ (l.length : Int) = (m.length : Int) := by omega
    clear h1 h2
    go_enter Tryd.func33, Tryd.ntmps33
    go_wp2_with fail
    go_ret
    exact ⟨rfl, 0, rfl⟩
theorem quSame_any (w : World) {N M : Nat} {v1 v2 : Value} {l m : List Int} (h1 : rkU.In N w v1 l) (hN : N ≤ w.heap.size) (h2 : rkU.In M w v2 m) (hM : M ≤ w.heap.size) :
    Calls Tryd.prog 23 #[.agg #[v1], .agg #[v2]] w fun e w' => e = .returned (.bool (decide (l = m))) ∧ Keeps [] w w' := by
  have hk : Keeps [] w ((w.alloc (.cells #[v1] 28)).alloc (.cells #[v2] 28)) := ((Keeps.refl _ _).alloc _).alloc _
  have HE := Lib.hid (eq16_any _ (h1.new hk hN) (h2.new hk hM))
  have HK := Lib.hid hk
  obtain ⟨a1, c1, rfl, hc1, hm1, -⟩ := id h1
  obtain ⟨a2, c2, rfl, hc2, hm2, -⟩ := id h2
  clear hk h1 h2
  go_enter Tryd.func23, Tryd.ntmps23
  go_wp2_with fail
  refine HE.out.mono ?_; rintro e w1 ⟨rfl, q, rfl⟩
  go_wp2_with fail
  go_ret
  exact ⟨rfl, HK.out.drewN _⟩
theorem slice_cut (w : World) (a : Option Addr) {n c : Nat} (h : n ≤ c) :
    (Instr.sliceAt 22 (.slice a n c) none (some (.int .i64 n)) (some (.int .i64 n))).run Tryd.prog w = .ok (.slice a n n) w := by
  have h2 : (n : Int) ≤ c := by omega
  cases a <;> simp [go_sem, run_underlying Tryd.underlying22, h2]
theorem eql_u16 (w : World) (a : Option Addr) (n c : Nat) : (binOp .eql 22 (.slice a n c) (.slice none 0 0)).run Tryd.prog w = .ok (.bool a.isNone) w := Lib.run_eql_slice_nil w _ _ a n c 0 0 Tryd.underlying22
theorem clone16_any (w : World) {v : Value} {l : List Int} (h : QIn w v l) (hn : l.length ≤ 1000000) :
    Calls Tryd.prog 32 #[v] w fun e w' => ∃ v', e = .returned v' ∧ rkU.Own w.heap.size w' v' l ∧ Keeps [] w w' := by
  obtain ⟨a, cap, rfl, hc, hm⟩ := h.shape
  by_cases hL : l = []
  · subst hL
    have e := h.2 rfl
    simp only [Value.slice.injEq, List.length_nil, true_and] at e
    obtain ⟨rfl, rfl⟩ := e
    clear h
    have heq := fun w => eql_u16 w none 0 0
    simp only [List.length_nil]
    go_enter Tryd.func32, Tryd.ntmps32
    go_wp2_with fail
    go_ret
    exact ⟨_, rfl, RK.Own.nil rkU _ _, Keeps.refl _ _⟩
  · obtain ⟨ad, rfl⟩ : ∃ ad, a = some ad := by
      obtain ⟨_, _, e, _, _, hI⟩ := h.1
      obtain ⟨bk, o, e2, _⟩ := hI hL
      simp only [Value.slice.injEq] at e
      obtain ⟨rfl, -, -⟩ := e
      exact ⟨_, e2⟩
    have heq := fun w => eql_u16 w (some ad) l.length cap
    have hka : Keeps [] w (w.alloc (.cells #[] 23)) := (Keeps.refl [] w).alloc (.cells #[] 23)
    have ho : rkU.Own w.heap.size (w.alloc (.cells #[] 23)) (.slice (some ⟨w.heap.size, 0, none⟩) 0 0) [] := ⟨by simp [RK.row], .inr ⟨w.heap.size, 0, #[], rfl, Nat.le_refl _, heap_alloc_new w _, Nat.le_refl _, by decide, by simp, by simp [RK.row]⟩⟩
    obtain ⟨v', w', hrun, hown, hk, -⟩ := rkU.appendIn (w.alloc (.cells #[] 23)) w.heap.size hka.size _ [] ho (h.1.new hka (Nat.le_refl _)) (by simp; omega)
    have HR := Lib.hid (show (Builtin.append_ #[22, 22] 22 #[.slice (some ⟨w.heap.size, 0, none⟩) 0 0, .slice (some ad) l.length cap]).run Tryd.prog (w.alloc (.cells #[] 23)) = .ok v' w' from hrun)
    have HO := Lib.hid hown
    have HK := Lib.hid (show Keeps [] w w' from hka.trans hk (fun q hq => .inr (by simp [own, Value.ownBlock] at hq; omega)))
    clear h hL hka ho hrun hown hk
    go_enter Tryd.func32, Tryd.ntmps32
    go_wp2_with ((with_reducible refine wpList_app (.slice (some ⟨w.heap.size, 0, none⟩) 0 0) (.slice (some ad) l.length cap) ?_ ?_ HR.out ?_); exact rfl; exact rfl)
    go_ret
    exact ⟨_, rfl, HO.out, HK.out⟩
theorem quValues_any (w : World) {v : Value} {l : List Int} (h : QIn w v l) (hn : l.length ≤ 1000000) :
    Calls Tryd.prog 15 #[.agg #[v]] w fun e w' => ∃ v', e = .returned v' ∧ rkU.Own w.heap.size w' v' l ∧ Keeps [] w w' := by
  have hk : Keeps [] w (w.alloc (.cells #[v] 28)) := (Keeps.refl _ _).alloc _
  have HC := Lib.hid (clone16_any _ (h.keeps hk (by simp)) hn)
  have HK := Lib.hid hk
  have hsz : (w.alloc (.cells #[v] 28)).heap.size = w.heap.size + 1 := Array.size_push _
  have HSZ := Lib.hid hsz
  obtain ⟨a, cap, rfl, hc, hm⟩ := h.shape
  clear h hk hsz
  go_enter Tryd.func15, Tryd.ntmps15
  go_wp2_with fail
  refine HC.out.mono ?_; rintro e w1 ⟨v', rfl, ho, hk1⟩
  have HO := Lib.hid (row_up ho (fun q hq => by have := (row_base ho q hq).1; have := HSZ.out; omega : ∀ q ∈ own v', w.heap.size ≤ q))
  have HK1 := Lib.hid (HK.out.trans hk1 (FSub.refl _ _))
  obtain ⟨a1, c1, rfl, -, -⟩ := ho.shape
  clear ho hk1
  go_wp2_with fail
  go_ret
  exact ⟨_, rfl, HO.out, HK1.out⟩
section
variable {ops : Array Oper} {rest : List Oper} {a : Act} {w : World} {Q : Exit → Act → World → Prop}
theorem wpList_putQ {dst : Option Tmp} {ty : TypeId} {pos : String} {after : Array Edge} {x y : Operand} {g : Nat} {old z : Value} {t : TypeId}
    (hx : a.eval x = .pointer (some ⟨g, 0, none⟩)) (hy : a.eval y = .agg #[z]) (hg : w.heap[g]? = some (.cells #[old] t (0, 0))) (h1 : z.oneCell' = true)
    (h : ∀ W, W.heap[g]? = some (.cells #[z] t (0, 0)) → Keeps [g] w W → wpList Tryd.prog ops Q rest (a.put dst undef) W) :
    wpList Tryd.prog ops Q ({ dst := dst, op := .store 28 x y, type := ty, pos := pos, after := after, guard := none } :: rest) a w :=
  wpList_store_row rfl 28 x y rfl g #[z] hx hy t #[old] hg (by kernel_rfl) rfl (by simp [h1]) (h _ (setRow_heap w g #[old] #[z] t (0, 0) hg) ((Keeps.refl [g] w).setRow g _ (.inl (by simp))))
end
theorem slice_one (a : Option Addr) (n c : Nat) : (Value.slice a n c).oneCell' = true := rfl
theorem quOf_any (w : World) {N : Nat} {v : Value} {l : List Int} (h : rkU.In N w v l) (hN : N ≤ w.heap.size) (hn : l.length ≤ 1000000) :
    Calls Tryd.prog 11 #[v] w fun e w' => ∃ v', e = .returned (.agg #[v']) ∧ QIn w' v' l ∧ Keeps [] w w' ∧ ∀ q ∈ own v', w.heap.size ≤ q := by
  obtain ⟨a, cap, rfl, hc, hm, -⟩ := id h
  obtain ⟨v', w', hr, hq, ⟨a2, c2, e2⟩, ⟨hh, hf⟩, hk, ho⟩ : ∃ v' w', (Builtin.append_ #[22, 22] 22 #[.slice none 0 0, .slice a l.length cap]).run Tryd.prog (w.alloc (.cells #[.slice none 0 0] 28)) = .ok v' w' ∧ QIn w' v' l ∧ (∃ a2 c2, v' = .slice a2 l.length c2) ∧ (w'.heap[w.heap.size]? = some (.cells #[.slice none 0 0] 28 (0, 0)) ∧ ∀ q ∈ own v', q ≠ w.heap.size) ∧ Keeps [] w w' ∧ ∀ q ∈ own v', w.heap.size ≤ q := by
    have hka : Keeps [] w (w.alloc (.cells #[.slice none 0 0] 28)) := (Keeps.refl [] w).alloc _
    have hnw := heap_alloc_new w (.cells #[.slice none 0 0] 28)
    have hsz : (w.alloc (.cells #[.slice none 0 0] 28)).heap.size = w.heap.size + 1 := Array.size_push _
    by_cases hL : l = []
    · subst hL
      exact ⟨.slice none 0 0, _, rkU.append0 _ none a 0 0 cap (Nat.le_refl _), ⟨(RK.Own.nil rkU 0 _).in_, fun _ => rfl⟩, ⟨none, 0, rfl⟩, ⟨hnw, fun q hq => by simp [own, Value.ownBlock] at hq⟩, hka, fun q hq => by simp [own, Value.ownBlock] at hq⟩
    · obtain ⟨v', w', hrun, hown, hk, hs⟩ := rkU.appendIn (w.alloc (.cells #[.slice none 0 0] 28)) (w.alloc (.cells #[.slice none 0 0] 28)).heap.size (Nat.le_refl _) (.slice none 0 0) [] (RK.Own.nil rkU _ _) (h.new hka hN) (by simp; omega)
      have hb : ∀ q ∈ own v', w.heap.size + 1 ≤ q := fun q hq => by have := (row_base hown q hq).1; omega
      obtain ⟨a2, c2, e2, -, -⟩ := hown.shape
      exact ⟨v', w', hrun, ⟨hown.in_, fun e => absurd e hL⟩, ⟨a2, c2, by simpa using e2⟩, ⟨hk.heap hnw (by simp [own, Value.ownBlock]), fun q hq => by have := hb q hq; omega⟩, hka.trans hk (fun q hq => by simp [own, Value.ownBlock] at hq), fun q hq => by have := hb q hq; omega⟩
  have HR := Lib.hid hr; have HQ := Lib.hid hq; have HH := Lib.hid hh; have HF := Lib.hid hf; have HK := Lib.hid hk; have HO := Lib.hid ho
  subst e2
  clear h hr hq hh hf hk ho
  go_enter Tryd.func11, Tryd.ntmps11
  go_wp2_with (first
    | ((with_reducible refine wpList_app (.slice none 0 0) (.slice a l.length cap) ?_ ?_ HR.out ?_); exact rfl; exact rfl)
    | ((with_reducible refine wpList_putQ (g := w.heap.size) (old := .slice none 0 0) (z := .slice a2 l.length c2) ?_ ?_ HH.out (slice_one _ _ _) ?_); exact rfl; exact rfl))
  intro W hW hkW
  have HW := Lib.hid hW; have HKW := Lib.hid hkW
  clear hW hkW
  go_wp2_with fail
  try simp only [Exit.inBlock, Exit.then]
  exact bodyPost_ret (results_cell_row (P := Tryd.prog) rfl _ _ _ _ _ _ _ rfl HW.out Tryd.underlying28 rfl (by kernel_rfl)) rfl ⟨_, rfl, HQ.out.keeps HKW.out (fun q hq => by have := HF.out q hq; simpa using this), HK.out.trans HKW.out (fun q hq => .inr (by simp at hq; omega)), HO.out⟩
theorem quCut_any (w : World) {v : Value} {l : List Int} (h : QIn w v l) (base : Nat) :
    Calls Tryd.prog 29 #[.agg #[v]] w fun e w' => ∃ v', e = .returned (.agg #[v']) ∧ QF base w' v' l ∧ Keeps [] w w' ∧ own v' = own v := by
  obtain ⟨a, c, rfl, hc, hm⟩ := h.shape
  have hcut : QF base w (.slice a l.length l.length) l := by
    refine ⟨⟨?_, fun e => ?_⟩, a, l.length, rfl, .inl rfl⟩
    · obtain ⟨a2, c2, e, hc2, hm2, hI⟩ := h.1
      simp only [Value.slice.injEq, true_and] at e
      obtain ⟨rfl, rfl⟩ := e
      exact ⟨a, l.length, rfl, Nat.le_refl _, by omega, hI⟩
    · have e2 := h.2 e
      simp only [Value.slice.injEq] at e2
      obtain ⟨rfl, -, -⟩ := e2
      subst e
      rfl
  have hsl := fun w => slice_cut w a hc
  have hk : Keeps [] w ((w.alloc (.cells #[.slice a l.length c] 28)).alloc (.cells #[.slice a l.length l.length] 28)) := ((Keeps.refl _ _).alloc _).alloc _
  have hn := heap_alloc_new (w.alloc (.cells #[.slice a l.length c] 28)) (.cells #[.slice a l.length l.length] 28)
  have hsz : (w.alloc (.cells #[.slice a l.length c] 28)).heap.size = w.heap.size + 1 := Array.size_push _
  rw [hsz] at hn
  have HN := Lib.hid hn; have HQ := Lib.hid (hcut.keeps hk (by simp)); have HK := Lib.hid hk
  clear h hcut hk hn hsz
  go_enter Tryd.func29, Tryd.ntmps29
  go_wp2_with fail
  try simp only [Exit.inBlock, Exit.then]
  exact bodyPost_ret (results_cell_row (P := Tryd.prog) rfl _ _ _ _ _ _ _ rfl HN.out Tryd.underlying28 rfl (by kernel_rfl)) rfl ⟨_, rfl, HQ.out, HK.out, by cases a <;> rfl⟩
end Go.Proofs.YtaicampenpkneaaDoor
/-
  The program's queue: the steps of Enq and Deq, and the table of both.
-/
namespace Go.Proofs.YtaicampenpkneaaDoor
open Go.RowKit
/-- A function value without variables. -/
def fnV (k : Nat) : Value := .func (.func k) #[] #[]
theorem results_st2 {fn : Func} {p u : Tmp} (h : fn.results = #[.cell p 28, .cell u 31]) (tmps : Array Value) (w : World) (b c : Nat) {z : Value} (y : Ans) {t t2 : TypeId}
    (hp : tmps.getD p undef = .pointer (some ⟨b, 0, none⟩)) (hb : w.heap[b]? = some (.cells #[z] t (0, 0))) (hu : tmps.getD u undef = .pointer (some ⟨c, 0, none⟩)) (hc : w.heap[c]? = some (.cells (ansC y).toArray t2 (0, 0))) :
    (results fn tmps).run Tryd.prog w = .ok (.tuple #[.agg #[z], .agg (ansC y).toArray]) w := by
  have h1 : (loadVar 28 ⟨b, 0, none⟩).run Tryd.prog w = .ok (.agg #[z]) w := run_loadVar_row w b t 28 _ _ _ hb Tryd.underlying28 rfl (by kernel_rfl)
  have h2 : (loadVar 31 ⟨c, 0, none⟩).run Tryd.prog w = .ok (.agg (ansC y).toArray) w := run_loadVar_row w c t2 31 _ _ _ hc Tryd.underlying31 rfl (by kernel_rfl)
  have hp' : tmps[p]?.getD undef = .pointer (some ⟨b, 0, none⟩) := by simpa using hp
  have hu' : tmps[u]?.getD undef = .pointer (some ⟨c, 0, none⟩) := by simpa using hu
  simp only [results, h]
  simp [Sem.run_bind, Result.andThen, hp', hu', asAddr, h1, h2]
theorem results_st3 {fn : Func} {p u x : Tmp} (h : fn.results = #[.cell p 28, .cell u 31, .tmp x]) (tmps : Array Value) (w : World) (b c : Nat) {z : Value} (y : Ans) {t t2 : TypeId}
    (hp : tmps.getD p undef = .pointer (some ⟨b, 0, none⟩)) (hb : w.heap[b]? = some (.cells #[z] t (0, 0))) (hu : tmps.getD u undef = .pointer (some ⟨c, 0, none⟩)) (hc : w.heap[c]? = some (.cells (ansC y).toArray t2 (0, 0))) :
    (results fn tmps).run Tryd.prog w = .ok (.tuple #[.agg #[z], .agg (ansC y).toArray, tmps.getD x undef]) w := by
  have h1 : (loadVar 28 ⟨b, 0, none⟩).run Tryd.prog w = .ok (.agg #[z]) w := run_loadVar_row w b t 28 _ _ _ hb Tryd.underlying28 rfl (by kernel_rfl)
  have h2 : (loadVar 31 ⟨c, 0, none⟩).run Tryd.prog w = .ok (.agg (ansC y).toArray) w := run_loadVar_row w c t2 31 _ _ _ hc Tryd.underlying31 rfl (by kernel_rfl)
  have hp' : tmps[p]?.getD undef = .pointer (some ⟨b, 0, none⟩) := by simpa using hp
  have hu' : tmps[u]?.getD undef = .pointer (some ⟨c, 0, none⟩) := by simpa using hu
  simp only [results, h]
  simp [Sem.run_bind, Result.andThen, hp', hu', asAddr, h1, h2]
/-- The world behind a step's variables. -/
theorem vars_q (w : World) (v : Value) (A : Array Value) (W : World) (u : Value) (y : Ans) (hW : W = (((w.alloc (.cells #[v] 28)).alloc (.cells A 25)).alloc (.cells #[u] 28)).alloc (.cells (ansC y).toArray 31)) :
    Keeps [] w W ∧ W.heap[w.heap.size]? = some (.cells #[v] 28 (0, 0)) ∧ W.heap[w.heap.size + 1]? = some (.cells A 25 (0, 0)) ∧ W.heap[w.heap.size + 2]? = some (.cells #[u] 28 (0, 0)) ∧ W.heap[w.heap.size + 3]? = some (.cells (ansC y).toArray 31 (0, 0)) ∧ W.heap.size = w.heap.size + 4 := by
  have e1 : (w.alloc (.cells #[v] 28)).heap.size = w.heap.size + 1 := Array.size_push _
  have e2 : ((w.alloc (.cells #[v] 28)).alloc (.cells A 25)).heap.size = w.heap.size + 2 := by
    rw [show ((w.alloc (.cells #[v] 28)).alloc (.cells A 25)).heap.size = (w.alloc (.cells #[v] 28)).heap.size + 1 from Array.size_push _, e1]
  have e3 : (((w.alloc (.cells #[v] 28)).alloc (.cells A 25)).alloc (.cells #[u] 28)).heap.size = w.heap.size + 3 := by
    rw [show (((w.alloc (.cells #[v] 28)).alloc (.cells A 25)).alloc (.cells #[u] 28)).heap.size = ((w.alloc (.cells #[v] 28)).alloc (.cells A 25)).heap.size + 1 from Array.size_push _, e2]
  subst hW
  refine ⟨((((Keeps.refl _ _).alloc _).alloc _).alloc _).alloc _, ?_, ?_, ?_, ?_, ?_⟩
  · exact ((((Keeps.refl [] (w.alloc (.cells #[v] 28))).alloc _).alloc _).alloc _).heap (heap_alloc_new w _) (by simp)
  · have h := heap_alloc_new (w.alloc (.cells #[v] 28)) (.cells A 25)
    rw [e1] at h
    exact (((Keeps.refl [] _).alloc _).alloc _).heap h (by simp)
  · have h := heap_alloc_new ((w.alloc (.cells #[v] 28)).alloc (.cells A 25)) (.cells #[u] 28)
    rw [e2] at h
    exact ((Keeps.refl [] _).alloc _).heap h (by simp)
  · have h := heap_alloc_new (((w.alloc (.cells #[v] 28)).alloc (.cells A 25)).alloc (.cells #[u] 28)) (.cells (ansC y).toArray 31)
    rw [e3] at h
    exact h
  · rw [show ((((w.alloc (.cells #[v] 28)).alloc (.cells A 25)).alloc (.cells #[u] 28)).alloc (.cells (ansC y).toArray 31)).heap.size = (((w.alloc (.cells #[v] 28)).alloc (.cells A 25)).alloc (.cells #[u] 28)).heap.size + 1 from Array.size_push _, e3]
def stepsC : Array Value := #[.nilFunc, .nilFunc, .nilFunc, .nilFunc, fnV 39, fnV 40]
section
variable {ops : Array Oper} {rest : List Oper} {a : Act} {w : World} {Q : Exit → Act → World → Prop}
theorem wpList_putF {dst : Option Tmp} {ty : TypeId} {pos : String} {after : Array Edge} {x y : Operand} {g : Nat} {t : TypeId}
    (hx : a.eval x = .pointer (some ⟨g, 0, none⟩)) (hy : a.eval y = .agg stepsC) (hg : w.heap[g]? = some (.cells #[.nilFunc, .nilFunc, .nilFunc, .nilFunc, .nilFunc, .nilFunc] t (0, 0)))
    (h : ∀ W, W.heap[g]? = some (.cells stepsC t (0, 0)) → Keeps [g] w W → wpList Tryd.prog ops Q rest (a.put dst undef) W) :
    wpList Tryd.prog ops Q ({ dst := dst, op := .store 71 x y, type := ty, pos := pos, after := after, guard := none } :: rest) a w :=
  wpList_store_row rfl 71 x y rfl g stepsC hx hy t _ hg (by kernel_rfl) rfl (by kernel_rfl) (h _ (setRow_heap w g _ stepsC t (0, 0) hg) ((Keeps.refl [g] w).setRow g _ (.inl (by simp))))
end
set_option maxHeartbeats 8000000
set_option maxRecDepth 100000
theorem quSteps_any (w : World) : Calls Tryd.prog 35 #[] w fun e w' => e = .returned (.agg stepsC) ∧ Keeps [] w w' := by
  have h := heap_alloc_new w (.cells #[.nilFunc, .nilFunc, .nilFunc, .nilFunc, .nilFunc, .nilFunc] 71)
  have HN := Lib.hid h
  have HK := Lib.hid (show Keeps [] w (w.alloc (.cells #[.nilFunc, .nilFunc, .nilFunc, .nilFunc, .nilFunc, .nilFunc] 71)) from (Keeps.refl _ _).alloc _)
  clear h
  go_enter Tryd.func35, Tryd.ntmps35
  go_wp2_with ((with_reducible refine wpList_putF (g := w.heap.size) ?_ ?_ HN.out ?_); exact rfl; exact rfl)
  intro W hW hk
  have HW := Lib.hid hW; have HKW := Lib.hid hk
  clear hW hk
  go_wp2_with fail
  try simp only [Exit.inBlock, Exit.then]
  exact bodyPost_ret (results_cell_row (P := Tryd.prog) rfl _ _ _ _ _ _ _ rfl HW.out Tryd.underlying71 rfl (by kernel_rfl)) rfl ⟨rfl, HK.out.trans HKW.out (fun q hq => .inr (by simp at hq; omega))⟩
/-- What a step of Enq or Deq tells. -/
def StPost (base : Nat) (w : World) (v : Value) (l' : List Int) (r : Ans) (e : Ending) (w' : World) : Prop :=
  ∃ v', e = .returned (.tuple #[.agg #[v'], .agg (ansC r).toArray]) ∧ QF base w' v' l' ∧ Keeps (frees base v) w w' ∧ FSub (own v') (own v) w.heap.size
theorem quEnq_any (w : World) {base : Nat} (hb : base ≤ w.heap.size) {v : Value} {l : List Int} (h : QF base w v l) (hl : l.length ≤ 1000000) (x : Opn) :
    Calls Tryd.prog 39 #[.agg #[v], x.val] w (StPost base w v (l ++ [x.a]) ⟨0, 0⟩) := by
  obtain ⟨a, c, hv, -⟩ := h.free
  obtain ⟨W, hW⟩ : ∃ W, W = (((w.alloc (.cells #[v] 28)).alloc (.cells #[.int .u8 x.f, .int .u8 x.o, .int .u8 x.k, .int .u16 x.a, .int .u16 x.b] 25)).alloc (.cells #[.slice none 0 0] 28)).alloc (.cells (ansC ⟨0, 0⟩).toArray 31) := ⟨_, rfl⟩
  obtain ⟨hk, -, -, h2, h3, hz⟩ := vars_q w v _ W _ _ hW
  obtain ⟨v', w', hr, hq, hk', hs⟩ := QF.push (w := W.alloc (.cells #[.int .u16 x.a] 23)) (base := base) (by have := hk.size; have := ((Keeps.refl [] W).alloc (.cells #[.int .u16 x.a] 23)).size; omega) ((h.keeps hk (by simp)).keeps ((Keeps.refl [] W).alloc _) (by simp)) x.a W.heap.size (cell_lit (heap_alloc_new W _) 0 rfl) (by omega)
  rw [hz] at hr
  have hk1 := ((Keeps.refl [] W).alloc (.cells #[.int .u16 x.a] 23))
  have hlo : ∀ q ∈ frees base v, q < w.heap.size := fun q hq => h.in_.old q (mem_frees.1 hq).1
  have H2 := Lib.hid (hk'.heap (hk1.heap h2 (by simp)) (fun hq => by have := hlo _ hq; omega))
  have H3 := Lib.hid (hk'.heap (hk1.heap h3 (by simp)) (fun hq => by have := hlo _ hq; omega))
  obtain ⟨a2, c2, hv2, -⟩ := hq.free
  subst hv2
  have HR := Lib.hid hr; have HQ := Lib.hid hq
  have hown : ∀ q ∈ own (.slice a2 (l ++ [x.a]).length c2), q < w.heap.size ∨ w.heap.size + 4 ≤ q := fun q hq => by
    rcases hs q hq with h1 | h1
    · exact .inl (h.in_.old q h1)
    · have := hk1.size; exact .inr (by omega)
  have HOWN := Lib.hid hown
  have HK := Lib.hid (show Keeps (frees base v) w w' from ((hk.trans hk1 (FSub.refl _ _)).more (by simp)).trans hk' (FSub.refl _ _))
  have HS := Lib.hid (show FSub (own (.slice a2 (l ++ [x.a]).length c2)) (own v) w.heap.size from hs.mono (by have := hk.size; have := hk1.size; omega))
  subst hv
  subst hW
  generalize (l ++ [x.a]).length = n2 at *
  clear h hk h2 h3 hz hr hq hk' hs hk1 hlo hown hb
  unfold Opn.val
  go_enter Tryd.func39, Tryd.ntmps39
  go_wp2_with (first
    | ((with_reducible refine wpList_app (.slice a l.length c) _ ?_ ?_ HR.out ?_); exact rfl; exact rfl)
    | ((with_reducible refine wpList_putQ (g := w.heap.size + 2) (old := .slice none 0 0) (z := .slice a2 n2 c2) ?_ ?_ H2.out (slice_one _ _ _) ?_); exact rfl; exact rfl))
  intro W2 hW2 hk2
  have HW2 := Lib.hid hW2
  have HA2 := Lib.hid (hk2.heap H3.out (by simp))
  have HK2 := Lib.hid hk2
  clear hW2 hk2
  go_wp2_with ((with_reducible refine wpList_putN (g := w.heap.size + 3) (old := ⟨0, 0⟩) ⟨0, 0⟩ ?_ ?_ HA2.out ?_); exact rfl; exact rfl)
  intro W3 hW3 hk3
  have HW3 := Lib.hid hW3
  have HS3 := Lib.hid (hk3.heap HW2.out (by simp))
  have HK3 := Lib.hid hk3
  clear hW3 hk3
  go_wp2_with fail
  try simp only [Exit.inBlock, Exit.then]
  refine bodyPost_ret (results_st2 rfl _ _ (w.heap.size + 2) (w.heap.size + 3) ⟨0, 0⟩ rfl HS3.out rfl HW3.out) rfl ⟨_, rfl, (HQ.out.keeps HK2.out (fun q hq => ?_)).keeps HK3.out (fun q hq => ?_), (HK.out.trans HK2.out (fun q hq => .inr (by simp at hq; omega))).trans HK3.out (fun q hq => .inr (by simp at hq; omega)), HS.out⟩
  · have := HOWN.out q hq; simp; omega
  · have := HOWN.out q hq; simp; omega
end Go.Proofs.YtaicampenpkneaaDoor
