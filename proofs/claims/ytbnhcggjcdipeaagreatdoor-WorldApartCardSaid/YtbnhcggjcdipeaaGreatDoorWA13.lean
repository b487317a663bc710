/-
  The program's lock: New, Holder, Idle; the steps of a client before it.
-/
import Derived.Test.YtbnhcggjcdipeaaGreatDoorWA00
import Derived.BigQuiet
import Derived.Deep.RegionHeld3
import Derived.Test.YtbnhcggjcdipeaaGreatDoorWA08
set_option linter.unusedSimpArgs false
set_option linter.unusedVariables false
namespace Go.Proofs.YtbnhcggjcdipeaaGreatDoor
open Go.RowKit
theorem results_tc {fn : Func} {c p : Tmp} (h : fn.results = #[.tmp c, .cell p 25]) (tmps : Array Value) (w : World) (b : Nat) (y : Ans) {t : TypeId}
    (hp : tmps.getD p undef = .pointer (some ⟨b, 0, none⟩)) (hb : w.heap[b]? = some (.cells (ansC y).toArray t (0, 0))) : (results fn tmps).run Tryz.prog w = .ok (.tuple #[tmps.getD c undef, .agg (ansC y).toArray]) w := by
  have h1 : (loadVar 25 ⟨b, 0, none⟩).run Tryz.prog w = .ok (.agg (ansC y).toArray) w := run_loadVar_row w b t 25 _ _ _ hb Tryz.underlying25 rfl (by kernel_rfl)
  have hp' : tmps[p]?.getD undef = .pointer (some ⟨b, 0, none⟩) := by simpa using hp
  simp only [results, h]
  simp [Sem.run_bind, Result.andThen, hp', asAddr, h1]
set_option maxHeartbeats 8000000
set_option maxRecDepth 100000
theorem lkNew_any (w : World) : Calls Tryz.prog 121 #[] w fun e w' => e = .returned (.int .u8 0) ∧ w' = w := by
  go_enter Tryz.func121, Tryz.ntmps121
  go_wp2_with fail
  go_ret
  exact ⟨rfl, rfl⟩
theorem lkIdle_any (w : World) (f : Int) : Calls Tryz.prog 129 #[.int .u8 f] w fun e w' => e = .returned (.bool false) ∧ w' = w := by
  go_enter Tryz.func129, Tryz.ntmps129
  go_wp2_with fail
  go_ret
  exact ⟨rfl, rfl⟩
theorem lkHeldBy_any (w : World) (c : Int) (h0 : 0 ≤ c) (h1 : c ≤ 15) : Calls Tryz.prog 191 #[.int .u8 c] w fun e w' => e = .returned (.int .u8 (c + 1)) ∧ w' = w := by
  have hw : IntKind.u8.wrap (c + 1) = c + 1 := by simp [IntKind.wrap, IntKind.signed, IntKind.bits]; omega
  go_enter Tryz.func191, Tryz.ntmps191
  go_wp2_with fail
  go_ret
  exact ⟨rfl, rfl⟩
theorem lkExists_any (w : World) (s : Int) : Calls Tryz.prog 168 #[.int .u8 s] w fun e w' => e = .returned (.bool (decide (s ≤ 16))) ∧ w' = w := by
  go_enter Tryz.func168, Tryz.ntmps168
  go_wp2_with fail
  refine (lkHeldBy_any w 15 (by omega) (by omega)).mono ?_; rintro e w1 ⟨rfl, rfl⟩
  go_wp2_with fail
  go_ret
  exact ⟨rfl, rfl⟩
def lkWho (s : Int) : Int := if 1 ≤ s ∧ s ≤ 16 then s - 1 else 0
def lkHeld (s : Int) : Bool := decide (1 ≤ s ∧ s ≤ 16)
theorem lkHolder_any (w : World) (s : Int) (h0 : 0 ≤ s) (h1 : s < 256) : Calls Tryz.prog 171 #[.int .u8 s] w fun e w' => e = .returned (.tuple #[.int .u8 (lkWho s), .bool (lkHeld s)]) ∧ w' = w := by
  by_cases hs : s = 0
  · subst hs
    have e1 : lkWho 0 = 0 := rfl
    have e2 : lkHeld 0 = false := rfl
    rw [e1, e2]
    clear e1 e2
    go_enter Tryz.func171, Tryz.ntmps171
    go_wp2_with fail
    refine (lkNew_any w).mono ?_; rintro e w1 ⟨rfl, rfl⟩
    go_wp2_with fail
    go_ret2
    exact ⟨rfl, rfl⟩
  · have hb : (s == 0) = false := by simpa using hs
    by_cases h2 : s ≤ 16
    · have e1 : lkWho s = s - 1 := if_pos (by omega)
      have e2 : lkHeld s = true := decide_eq_true (by omega)
      have e3 : decide (s ≤ 16) = true := decide_eq_true h2
      have hw : IntKind.u8.wrap (s - 1) = s - 1 := by simp [IntKind.wrap, IntKind.signed, IntKind.bits]; omega
      rw [e1, e2]
      clear e1 e2
      have HX := Lib.hid (e3 ▸ lkExists_any w s)
      clear e3
      go_enter Tryz.func171, Tryz.ntmps171
      go_wp2_with fail
      refine (lkNew_any w).mono ?_; rintro e w1 ⟨rfl, rfl⟩
      go_wp2_with fail
      refine HX.out.mono ?_; rintro e w1 ⟨rfl, rfl⟩
      go_wp2_with fail
      go_ret2
      exact ⟨rfl, rfl⟩
    · have e1 : lkWho s = 0 := if_neg (by omega)
      have e2 : lkHeld s = false := decide_eq_false (by omega)
      have e3 : decide (s ≤ 16) = false := decide_eq_false h2
      rw [e1, e2]
      clear e1 e2
      have HX := Lib.hid (e3 ▸ lkExists_any w s)
      clear e3
      go_enter Tryz.func171, Tryz.ntmps171
      go_wp2_with fail
      refine (lkNew_any w).mono ?_; rintro e w1 ⟨rfl, rfl⟩
      go_wp2_with fail
      refine HX.out.mono ?_; rintro e w1 ⟨rfl, rfl⟩
      go_wp2_with fail
      go_ret2
      exact ⟨rfl, rfl⟩
theorem two_vars (w : World) (A : Array Value) (B : Array Value) (t u : TypeId) : (w.alloc (.cells A t)).heap.size = w.heap.size + 1 ∧ ((w.alloc (.cells A t)).alloc (.cells B u)).heap[w.heap.size]? = some (.cells A t (0, 0)) ∧
    ((w.alloc (.cells A t)).alloc (.cells B u)).heap[w.heap.size + 1]? = some (.cells B u (0, 0)) ∧ Keeps [] w ((w.alloc (.cells A t)).alloc (.cells B u)) := by
  have e1 : (w.alloc (.cells A t)).heap.size = w.heap.size + 1 := Array.size_push _
  refine ⟨e1, ((Keeps.refl [] _).alloc _).heap (heap_alloc_new w _) (by simp), ?_, ((Keeps.refl _ _).alloc _).alloc _⟩
  have h := heap_alloc_new (w.alloc (.cells A t)) (.cells B u)
  rwa [e1] at h
/-- What a step of a client before a lock hands back. -/
def TurnPost (w : World) (s : Int) (y : Ans) (e : Ending) (w' : World) : Prop := e = .returned (.tuple #[.int .u8 s, .agg (ansC y).toArray]) ∧ Keeps [] w w'
theorem lkLeave_any (w : World) (c s : Int) : Calls Tryz.prog 193 #[.agg #[.int .u8 c, .int .u8 s]] w (TurnPost w s ⟨4, 0⟩) := by
  obtain ⟨e1, h0, h1, hk⟩ := two_vars w #[.int .u8 c, .int .u8 s] #[.int .u8 4, .int .u16 0] 270 25
  have HN := Lib.hid h1; have HK := Lib.hid hk
  clear e1 h0 h1 hk
  go_enter Tryz.func193, Tryz.ntmps193
  go_wp2_with fail
  try simp only [Exit.inBlock, Exit.then]
  exact bodyPost_ret (results_tc rfl _ _ (w.heap.size + 1) ⟨4, 0⟩ rfl HN.out) rfl ⟨rfl, HK.out⟩
theorem lkFree_any (w : World) (c s : Int) : Calls Tryz.prog 194 #[.agg #[.int .u8 c, .int .u8 s]] w (TurnPost w 0 ⟨3, 0⟩) := by
  obtain ⟨e1, h0, h1, hk⟩ := two_vars w #[.int .u8 c, .int .u8 s] #[.int .u8 3, .int .u16 0] 270 25
  have HN := Lib.hid h1; have HK := Lib.hid hk
  clear e1 h0 h1 hk
  go_enter Tryz.func194, Tryz.ntmps194
  go_wp2_with fail
  refine (lkNew_any _).mono ?_; rintro e w1 ⟨rfl, rfl⟩
  go_wp2_with fail
  try simp only [Exit.inBlock, Exit.then]
  exact bodyPost_ret (results_tc rfl _ _ (w.heap.size + 1) ⟨3, 0⟩ rfl HN.out) rfl ⟨rfl, HK.out⟩
theorem lkTake_any (w : World) (c s : Int) (h0 : 0 ≤ c) (h1 : c ≤ 15) : Calls Tryz.prog 192 #[.agg #[.int .u8 c, .int .u8 s]] w (TurnPost w (c + 1) ⟨3, 0⟩) := by
  obtain ⟨e1, h2, h3, hk⟩ := two_vars w #[.int .u8 c, .int .u8 s] #[.int .u8 3, .int .u16 0] 270 25
  have HN := Lib.hid h3; have HK := Lib.hid hk
  clear e1 h2 h3 hk
  have HB := Lib.hid (fun w => lkHeldBy_any w c h0 h1)
  clear h0 h1
  go_enter Tryz.func192, Tryz.ntmps192
  go_wp2_with fail
  refine (HB.out _).mono ?_; rintro e w1 ⟨rfl, rfl⟩
  go_wp2_with fail
  try simp only [Exit.inBlock, Exit.then]
  exact bodyPost_ret (results_tc rfl _ _ (w.heap.size + 1) ⟨3, 0⟩ rfl HN.out) rfl ⟨rfl, HK.out⟩
/-- Which step an operation is: the function's number. -/
def lkK (s c f : Int) : Nat := if f = 10 then (if s = 0 then 192 else 193) else if s = c + 1 then 194 else 193
/-- A method value that binds a client and a state. -/
def lkF (k : Nat) (s c : Int) : Value := .func (.func k) #[.agg #[.int .u8 c, .int .u8 s]] #[]
theorem lkTurn_any (w : World) (s c f : Int) (h0 : 0 ≤ c) (h1 : c ≤ 15) : Calls Tryz.prog 169 #[.agg #[.int .u8 c, .int .u8 s], .int .u8 f] w fun e w' => e = .returned (lkF (lkK s c f) s c) ∧ Keeps [] w w' := by
  have hk := (Keeps.refl [] w).alloc (.cells #[.int .u8 c, .int .u8 s] 270)
  have HK := Lib.hid hk
  have hw : IntKind.u8.wrap (c + 1) = c + 1 := by simp [IntKind.wrap, IntKind.signed, IntKind.bits]; omega
  have HB := Lib.hid (fun w => lkHeldBy_any w c h0 h1)
  clear hk h0 h1
  by_cases hf : f = 10
  · subst hf
    by_cases hs : s = 0
    · subst hs
      go_enter Tryz.func169, Tryz.ntmps169
      go_wp2_with fail
      go_quiet ((go_at_call 121; exact Calls.quiet_of_same (lkNew_any _)))
      go_wp2_with fail
      go_ret
      exact ⟨rfl, HK.out.drewN _⟩
    · have hb : (s == 0) = false := by simpa using hs
      have e : lkK s c 10 = 193 := by unfold lkK; rw [if_pos rfl, if_neg hs]
      rw [e]
      clear e hs
      go_enter Tryz.func169, Tryz.ntmps169
      go_wp2_with fail
      go_quiet ((go_at_call 121; exact Calls.quiet_of_same (lkNew_any _)))
      go_wp2_with fail
      go_ret
      exact ⟨rfl, HK.out.drewN _⟩
  · have hfb : (f == 10) = false := by simpa using hf
    by_cases hs : s = c + 1
    · have hb : (s != c + 1) = false := by simpa using hs
      have e : lkK s c f = 194 := by unfold lkK; rw [if_neg hf, if_pos hs]
      rw [e]
      clear e hs hf
      go_enter Tryz.func169, Tryz.ntmps169
      go_wp2_with fail
      go_quiet ((go_at_call 191; exact Calls.quiet_of_same (HB.out _)))
      go_wp2_with fail
      go_ret
      exact ⟨rfl, HK.out.drewN _⟩
    · have hb : (s != c + 1) = true := by simpa using hs
      have e : lkK s c f = 193 := by unfold lkK; rw [if_neg hf, if_neg hs]
      rw [e]
      clear e hs hf
      go_enter Tryz.func169, Tryz.ntmps169
      go_wp2_with fail
      go_quiet ((go_at_call 191; exact Calls.quiet_of_same (HB.out _)))
      go_wp2_with fail
      go_ret
      exact ⟨rfl, HK.out.drewN _⟩
end Go.Proofs.YtbnhcggjcdipeaaGreatDoor
/-
  The program's lock: Step.
-/
namespace Go.Proofs.YtbnhcggjcdipeaaGreatDoor
open Go.RowKit
theorem lkK_func (s c f : Int) : ∃ fn, Tryz.prog.funcs[lkK s c f]? = some fn ∧ (fn.name == "runtime.NumGoroutine") = false ∧ fn.body.isNone = false := by
  unfold lkK
  split
  · split
    · exact ⟨_, Tryz.func192, by kernel_rfl, by kernel_rfl⟩
    · exact ⟨_, Tryz.func193, by kernel_rfl, by kernel_rfl⟩
  · split
    · exact ⟨_, Tryz.func194, by kernel_rfl, by kernel_rfl⟩
    · exact ⟨_, Tryz.func193, by kernel_rfl, by kernel_rfl⟩
section
variable {ops : Array Oper} {rest : List Oper} {o : Oper} {a : Act} {w : World} {K : Act → World → Prop} {Q : Exit → Act → World → Prop}
/-- A method value that binds a client and a state is called. -/
theorem wp_callF12 (y : Operand) (args : Array Operand) (tys : Array TypeId) (ho : o.op = .call { callee := .value y, args := args, argTypes := tys }) {k : Nat} {s c : Int} (hy : a.eval y = lkF k s c) (hv : args.toList.map a.eval = [])
    (hf : ∃ fn, Tryz.prog.funcs[k]? = some fn ∧ (fn.name == "runtime.NumGoroutine") = false ∧ fn.body.isNone = false)
    (h : Calls Tryz.prog k #[.agg #[.int .u8 c, .int .u8 s]] w fun e w' => ∃ v, e = .returned v ∧ K (a.put o.dst v) w') : o.wp Tryz.prog a w K Q := by
  have hv2 : args.map a.eval = #[] := by apply Array.ext'; simpa using hv
  obtain ⟨fn, hf, hname, hb⟩ := hf
  unfold Oper.wp execOp
  have h1 : fn.name ≠ "runtime.NumGoroutine" := by simpa using hname
  have h2 : ∃ z, fn.body = some z := by
    cases h : fn.body with
    | none => rw [h] at hb; cases hb
    | some z => exact ⟨z, rfl⟩
  obtain ⟨z, h2⟩ := h2
  simp only [ho, resolve, invoke, Sem.run_bind, Sem.run_pure, Result.andThen_ok, hv2, hy, lkF, Deferred.ofValue, Array.empty_append, Array.append_empty]
  simp [callFunc, hf, h1, h2, Sem.run]
  rw [Oper.upon_enter]
  exact h.mono fun e w' ⟨v, he, hk⟩ => by subst he; exact hk
theorem wpList_callF12 {dst : Option Tmp} {ty : TypeId} {pos : String} {after : Array Edge} {y : Operand} {args : Array Operand} {tys : Array TypeId} {k : Nat} {s c : Int} (hy : a.eval y = lkF k s c) (hv : args.toList.map a.eval = [])
    (hf : ∃ fn, Tryz.prog.funcs[k]? = some fn ∧ (fn.name == "runtime.NumGoroutine") = false ∧ fn.body.isNone = false)
    (h : Calls Tryz.prog k #[.agg #[.int .u8 c, .int .u8 s]] w fun e w' => ∃ v, e = .returned v ∧ wpList Tryz.prog ops Q rest (a.put dst v) w') :
    wpList Tryz.prog ops Q ({ dst := dst, op := .call { callee := .value y, args := args, argTypes := tys }, type := ty, pos := pos, after := after, guard := none } :: rest) a w :=
  wpList_plain rfl fun _ hK => wp_callF12 y args tys rfl hy hv hf (h.mono fun _ _ ⟨v, he, hk⟩ => ⟨v, he, hK _ _ hk⟩)
theorem wpList_putR12 {dst : Option Tmp} {ty : TypeId} {pos : String} {after : Array Edge} {x y : Operand} {g : Nat} {old : Ans} (r : Ans) {t : TypeId}
    (hx : a.eval x = .pointer (some ⟨g, 0, none⟩)) (hy : a.eval y = .agg (ansC r).toArray) (hg : w.heap[g]? = some (.cells (ansC old).toArray t (0, 0)))
    (h : ∀ W, W.heap[g]? = some (.cells (ansC r).toArray t (0, 0)) → Keeps [g] w W → wpList Tryz.prog ops Q rest (a.put dst undef) W) :
    wpList Tryz.prog ops Q ({ dst := dst, op := .store 25 x y, type := ty, pos := pos, after := after, guard := none } :: rest) a w :=
  wpList_store_row rfl 25 x y rfl g (ansC r).toArray hx hy t (ansC old).toArray hg (by kernel_rfl) rfl (by rw [← Array.all_toList, List.all_eq_true]; exact ansC_one r) (h _ (setRow_heap w g (ansC old).toArray (ansC r).toArray t (0, 0) hg) ((Keeps.refl [g] w).setRow g _ (.inl (by simp))))
end
/-- The steps, by their number. -/
theorem lkK_any (w : World) {s c : Int} (x : Opn) (h0 : 0 ≤ c) (h1 : c ≤ 15) (h2 : s ≤ 16) (hx : opChk 3 x = 0) : Calls Tryz.prog (lkK s c x.f) #[.agg #[.int .u8 c, .int .u8 s]] w (TurnPost w (lkX s c x).1 (lkX s c x).2.1) := by
  rcases lkX_ways s c x with h | h | h | h | h | h
  · rw [hx] at h; exact absurd h.1 (by decide)
  · exact absurd h.2.1 (by omega)
  · have e : lkK s c x.f = 192 := by unfold lkK; rw [if_pos h.2.2.2.1, if_pos h.2.2.2.2.1]
    rw [e, h.2.2.2.2.2]
    exact lkTake_any w c s h0 h1
  · have e : lkK s c x.f = 193 := by unfold lkK; rw [if_pos h.2.2.2.1, if_neg h.2.2.2.2.1]
    rw [e, h.2.2.2.2.2]
    exact lkLeave_any w c s
  · have e : lkK s c x.f = 194 := by unfold lkK; rw [if_neg (by omega), if_pos h.2.2.2.2.1]
    rw [e, h.2.2.2.2.2]
    exact lkFree_any w c s
  · have e : lkK s c x.f = 193 := by unfold lkK; rw [if_neg (by omega), if_neg h.2.2.2.2.1]
    rw [e, h.2.2.2.2.2]
    exact lkLeave_any w c s
set_option maxHeartbeats 8000000
set_option maxRecDepth 100000
theorem lkStep_any (w : World) (hG : Glob4 w) {s c : Int} (x : Opn) (hs : 0 ≤ s ∧ s < 256) (hc : 0 ≤ c ∧ c < 256) (hx : x.In) : Calls Tryz.prog 123 #[.int .u8 s, .int .u8 c, x.val] w fun e w' =>
    e = .returned (.tuple #[.int .u8 (lkX s c x).1, .agg (ansC (lkX s c x).2.1).toArray, .int .i64 (lkX s c x).2.2]) ∧ Keeps [] w w' := by
  obtain ⟨e1, h0, h1, hk⟩ := two_vars w #[.int .u8 x.f, .int .u8 x.o, .int .u8 x.k, .int .u16 x.a, .int .u16 x.b] #[.int .u8 0, .int .u16 0] 47 25
  obtain ⟨R, hR⟩ : ∃ R, R = w.heap.size := ⟨_, rfl⟩
  have HC := Lib.hid (fun w hG => Check4_any w hG 3 x.f x.o x.k x.a x.b (by omega) (by omega) hx)
  have HG := Lib.hid (hG.new hk)
  rw [← hR] at h0 h1 e1
  have H0 := Lib.hid h0; have H1 := Lib.hid h1; have HK := Lib.hid hk; have HRR := Lib.hid hR
  have HRL := Lib.hid (show w.heap.size ≤ R from Nat.le_of_eq hR.symm)
  have HX := Lib.hid hx
  clear h0 h1 hk e1 hG hR hx
  unfold Opn.val
  have HA := Lib.hid (show (ansC ⟨0, 0⟩).toArray = #[Value.int .u8 0, .int .u16 0] from rfl)
  rcases opChk_or 3 x with hq | hq
  · have HQ := Lib.hid hq
    rw [hq] at HC
    clear hq
    by_cases hbad : 15 < c ∨ 16 < s
    · have e : lkX s c x = (s, ⟨0, 0⟩, 2) := by unfold lkX; rw [if_pos HQ.out, if_pos hbad]
      rw [e]
      clear e
      by_cases hc15 : 15 < c
      · have z : decide (16 ≤ c) = true := decide_eq_true (by omega)
        clear hbad
        go_enter Tryz.func123, Tryz.ntmps123
        go_wp2_with fail
        rw [← HRR.out]
        refine (HC.out _ HG.out).mono ?_; rintro e w1 ⟨rfl, hk1⟩
        have HB1 := Lib.hid (show w1.heap[R + 1]? = some (.cells (ansC ⟨0, 0⟩).toArray 25 (0, 0)) from hk1.heap H1.out (by simp))
        have HB0 := Lib.hid (hk1.heap H0.out (by simp))
        have HK1 := Lib.hid (HK.out.trans hk1 (FSub.refl _ _))
        clear hk1
        go_wp2_with ((with_reducible refine wpList_putR12 (g := R + 1) (old := ⟨0, 0⟩) ⟨0, 0⟩ ?_ ?_ HB1.out ?_); exact rfl; exact rfl)
        intro W hW hkW
        have HW := Lib.hid hW; have HKW := Lib.hid hkW
        clear hW hkW
        go_wp2_with fail
        try simp only [Exit.inBlock, Exit.then]
        exact bodyPost_ret (results_ans rfl _ _ (R + 1) ⟨0, 0⟩ rfl HW.out) rfl ⟨rfl, HK1.out.trans HKW.out (fun q hq => .inr (by have := HRL.out; simp at hq; omega))⟩
      · have z : decide (16 ≤ c) = false := decide_eq_false (by omega)
        have e3 : decide (s ≤ 16) = false := decide_eq_false (by omega)
        have HE := Lib.hid (fun w => e3 ▸ lkExists_any w s)
        clear hbad e3
        go_enter Tryz.func123, Tryz.ntmps123
        go_wp2_with fail
        rw [← HRR.out]
        refine (HC.out _ HG.out).mono ?_; rintro e w1 ⟨rfl, hk1⟩
        have HB1 := Lib.hid (show w1.heap[R + 1]? = some (.cells (ansC ⟨0, 0⟩).toArray 25 (0, 0)) from hk1.heap H1.out (by simp))
        have HB0 := Lib.hid (hk1.heap H0.out (by simp))
        have HK1 := Lib.hid (HK.out.trans hk1 (FSub.refl _ _))
        clear hk1
        go_wp2_with fail
        refine (HE.out w1).mono ?_; rintro e w2 ⟨rfl, rfl⟩
        go_wp2_with ((with_reducible refine wpList_putR12 (g := R + 1) (old := ⟨0, 0⟩) ⟨0, 0⟩ ?_ ?_ HB1.out ?_); exact rfl; exact rfl)
        intro W hW hkW
        have HW := Lib.hid hW; have HKW := Lib.hid hkW
        clear hW hkW
        go_wp2_with fail
        try simp only [Exit.inBlock, Exit.then]
        exact bodyPost_ret (results_ans rfl _ _ (R + 1) ⟨0, 0⟩ rfl HW.out) rfl ⟨rfl, HK1.out.trans HKW.out (fun q hq => .inr (by have := HRL.out; simp at hq; omega))⟩
    · have z : decide (16 ≤ c) = false := decide_eq_false (by omega)
      have e3 : decide (s ≤ 16) = true := decide_eq_true (by omega)
      have HE := Lib.hid (fun w => e3 ▸ lkExists_any w s)
      have hs16 : s ≤ 16 := by omega
      have hc15 : c ≤ 15 := by omega
      have HT := Lib.hid (fun w => lkTurn_any w s c x.f hc.1 hc15)
      have HKA := Lib.hid (fun w => lkK_any w x hc.1 hc15 hs16 HQ.out)
      have e0 : (lkX s c x).2.2 = 0 := by
        rcases lkX_ways s c x with h | h | h | h | h | h
        · have := HQ.out; omega
        · exact absurd h.2.1 hbad
        · rw [h.2.2.2.2.2]
        · rw [h.2.2.2.2.2]
        · rw [h.2.2.2.2.2]
        · rw [h.2.2.2.2.2]
      rw [e0]
      have HF := Lib.hid (lkK_func s c x.f)
      clear hbad e3 e0 hs16 hc15
      generalize (lkX s c x).1 = s1 at *
      generalize (lkX s c x).2.1 = r1 at *
      generalize lkK s c x.f = kf at *
      go_enter Tryz.func123, Tryz.ntmps123
      go_wp2_with fail
      rw [← HRR.out]
      refine (HC.out _ HG.out).mono ?_; rintro e w1 ⟨rfl, hk1⟩
      have HB1 := Lib.hid (show w1.heap[R + 1]? = some (.cells (ansC ⟨0, 0⟩).toArray 25 (0, 0)) from hk1.heap H1.out (by simp))
      have HB0 := Lib.hid (hk1.heap H0.out (by simp))
      have HK1 := Lib.hid (HK.out.trans hk1 (FSub.refl _ _))
      clear hk1
      go_wp2_with fail
      refine (HE.out w1).mono ?_; rintro e w2 ⟨rfl, rfl⟩
      have c0 : w2.cell? ⟨R, 0, none⟩ = some (.int .u8 x.f) := cell_lit HB0.out 0 rfl
      go_wp2_with fail
      refine (HT.out w2).mono ?_; rintro e w3 ⟨rfl, hk3⟩
      have HK3 := Lib.hid (HK1.out.trans hk3 (FSub.refl _ _))
      have HB3 := Lib.hid (hk3.heap HB1.out (by simp))
      clear c0 hk3
      go_wp2_with ((with_reducible refine wpList_callF12 (k := kf) (s := s) (c := c) ?_ ?_ HF.out ?_); exact rfl; exact rfl)
      refine (HKA.out w3).mono ?_; rintro e w4 ⟨rfl, hk4⟩
      refine ⟨_, rfl, ?_⟩
      have HK4 := Lib.hid (HK3.out.trans hk4 (FSub.refl _ _))
      have HB4 := Lib.hid (hk4.heap HB3.out (by simp))
      have HC4 := Lib.hid (show (w4.alloc (.cells #[.int .u8 0, .int .u16 0] 25)).heap[w4.heap.size]? = some (.cells (ansC ⟨0, 0⟩).toArray 25 (0, 0)) from heap_alloc_new w4 _)
      have HKA4 := Lib.hid (show Keeps [] w4 (w4.alloc (.cells #[.int .u8 0, .int .u16 0] 25)) from (Keeps.refl _ _).alloc _)
      have HLT := Lib.hid (lt_of_block HB4.out)
      clear hk4
      go_wp2_with ((with_reducible refine wpList_putR12 (g := w4.heap.size) (old := ⟨0, 0⟩) r1 ?_ ?_ HC4.out ?_); exact rfl; exact rfl)
      intro W5 hW5 hk5
      have HC5 := Lib.hid hW5
      have HB5 := Lib.hid (hk5.heap (HKA4.out.heap HB4.out (by simp)) (by have := HLT.out; simp; omega))
      have HK5 := Lib.hid ((HK4.out.trans HKA4.out (FSub.refl _ _)).trans hk5 (fun q hq => .inr (by have := HK4.out.size; simp at hq; omega)))
      clear hW5 hk5
      generalize w4.heap.size = g at *
      have HGR := Lib.hid (show g ≠ R + 1 from by have := HLT.out; omega)
      go_wp2_with fail
      obtain ⟨S, hS⟩ : ∃ S : World → Prop, S = fun y => Keeps [R + 1] W5 y := ⟨_, rfl⟩
      have HSE := Lib.hid hS
      have hSD : S W5.drew := by rw [hS]; exact (Keeps.refl _ _).drew
      have HSC := Lib.hid (fun (w' : World) (hh : S w') => show w'.rangeAt g 0 (ansC r1) from by
        rw [hS] at hh
        intro j v hv
        rw [Nat.zero_add]
        exact hh.cell (cell_lit HC5.out j (by simpa [ansC] using hv)) (by have := HGR.out; simpa using this))
      clear hS
      refine wp_region_noPanic ?_
      refine wp_region_held_drew (S := S) (by kernel_rfl) hSD (fun hHeld => ?_)
      refine tw 0 (h := ?_)
      refine tk 1 (y := by exact yields_ansC (by rfl) _ rfl g 0 rfl r1 HSC.out) (h := ?_)
      refine tw 2 (h := ?_)
      refine rp 3 (h := fun K hK => ?_)
      refine wp_putN rfl (g := R + 1) (old := ⟨0, 0⟩) r1 rfl rfl (((Keeps.refl [] W5).drew).heap HB5.out (by simp)) (fun W6 hW6 hk6 => ?_)
      have HW6 := Lib.hid hW6
      have HK6 := Lib.hid ((((Keeps.refl [] W5).drew).more (G := [R + 1]) (by simp)).trans hk6 (FSub.refl _ _))
      clear hW6 hk6
      refine hK.out _ _ (by rw [HSE.out]; exact HK6.out) (fun hHeld => ?_); clear hK K; try simp only [Act.put, lsA, lsZ, lsS]
      refine tw 4 (h := ?_)
      refine wpAnyH_done (by kernel_rfl) ?_ _
      refine NoPanic.normal ?_
      go_wp2_with fail
      try simp only [Exit.inBlock, Exit.then]
      exact bodyPost_ret (results_ans rfl _ _ (R + 1) r1 rfl HW6.out) rfl ⟨rfl, HK5.out.trans HK6.out (fun q hq => .inr (by have := HRL.out; simp at hq; omega))⟩
  · have e : lkX s c x = (s, ⟨0, 0⟩, 10) := by unfold lkX; rw [if_neg (by omega)]
    rw [e]
    rw [hq] at HC
    clear e hq
    go_enter Tryz.func123, Tryz.ntmps123
    go_wp2_with fail
    rw [← HRR.out]
    refine (HC.out _ HG.out).mono ?_; rintro e w1 ⟨rfl, hk1⟩
    have HB1 := Lib.hid (show w1.heap[R + 1]? = some (.cells (ansC ⟨0, 0⟩).toArray 25 (0, 0)) from hk1.heap H1.out (by simp))
    have HB0 := Lib.hid (hk1.heap H0.out (by simp))
    have HK1 := Lib.hid (HK.out.trans hk1 (FSub.refl _ _))
    clear hk1
    go_wp2_with ((with_reducible refine wpList_putR12 (g := R + 1) (old := ⟨0, 0⟩) ⟨0, 0⟩ ?_ ?_ HB1.out ?_); exact rfl; exact rfl)
    intro W hW hkW
    have HW := Lib.hid hW; have HKW := Lib.hid hkW
    clear hW hkW
    go_wp2_with fail
    try simp only [Exit.inBlock, Exit.then]
    exact bodyPost_ret (results_ans rfl _ _ (R + 1) ⟨0, 0⟩ rfl HW.out) rfl ⟨rfl, HK1.out.trans HKW.out (fun q hq => .inr (by have := HRL.out; simp at hq; omega))⟩
end Go.Proofs.YtbnhcggjcdipeaaGreatDoor
/-
  A key map's state in memory; the law's whole.
-/
namespace Go.Proofs.YtbnhcggjcdipeaaGreatDoor
open Go.RowKit
theorem kv_cell {w : World} {b : Nat} {h : Int} {vs : List Int} {t : TypeId} (hg : w.heap[b]? = some (.cells (kvA h vs) t (0, 0))) {k : Nat} (hk : k < 8) : w.cell? ⟨b, 1 + k, none⟩ = some (.int .u16 (vs.getD k 0)) := by
  have := kvA_get h vs hk
  simp only [World.cell?, hg]
  exact this
theorem kv_byte {w : World} {b : Nat} {h : Int} {vs : List Int} {t : TypeId} (hg : w.heap[b]? = some (.cells (kvA h vs) t (0, 0))) : w.cell? ⟨b, 0, none⟩ = some (.int .u8 h) := cell_lit hg 0 rfl
theorem kv_thaw {w : World} {b : Nat} {h : Int} {vs : List Int} {t : TypeId} (hg : w.heap[b]? = some (.cells (kvA h vs) t (0, 0))) (i : Nat) : w.frozen? ⟨b, i, none⟩ = false := by simp [World.frozen?, hg]
theorem kv_put {w : World} {b : Nat} {h : Int} {vs : List Int} {t : TypeId} (hg : w.heap[b]? = some (.cells (kvA h vs) t (0, 0))) (hl : vs.length = 8) {k : Nat} (hk : k < 8) (v : Int) :
    (w.setCell ⟨b, 1 + k, none⟩ (.int .u16 v)).heap[b]? = some (.cells (kvA h (vs.set k v)) t (0, 0)) := by
  rw [heap_setCell_same w b (1 + k) _ t _ hg, kvA_set h hl hk]
theorem kv_puth {w : World} {b : Nat} {h h2 : Int} {vs : List Int} {t : TypeId} (hg : w.heap[b]? = some (.cells (kvA h vs) t (0, 0))) :
    (w.setCell ⟨b, 0, none⟩ (.int .u8 h2)).heap[b]? = some (.cells (kvA h2 vs) t (0, 0)) := by
  rw [heap_setCell_same w b 0 _ t _ hg, kvA_h]
section
variable {ops : Array Oper} {rest : List Oper} {o : Oper} {a : Act} {w : World} {K : Act → World → Prop} {Q : Exit → Act → World → Prop}
theorem wp_loadK {x : Operand} (ho : o.op = .load 197 x) {g : Nat} {h : Int} {vs : List Int} {t : TypeId} (hx : a.eval x = .pointer (some ⟨g, 0, none⟩)) (hg : w.heap[g]? = some (.cells (kvA h vs) t (0, 0)))
    (hK : K (a.put o.dst (.agg (kvA h vs))) w) : o.wp Tryz.prog a w K Q := wp_load_row 197 x ho g hx t (kvA h vs) (0, 0) _ hg Tryz.underlying197 rfl (by kernel_rfl) hK
theorem wpList_loadK {dst : Option Tmp} {ty : TypeId} {pos : String} {after : Array Edge} {gd : Option (Nat × Bool)} {x : Operand} {g : Nat} {h : Int} {vs : List Int} {t : TypeId}
    (hw : Region.wanted { dst := dst, op := .load 197 x, type := ty, pos := pos, after := after, guard := gd } (yielded ops a.tmps) = true)
    (hx : a.eval x = .pointer (some ⟨g, 0, none⟩)) (hg : w.heap[g]? = some (.cells (kvA h vs) t (0, 0))) (hK : wpList Tryz.prog ops Q rest (a.put dst (.agg (kvA h vs))) w) :
    wpList Tryz.prog ops Q ({ dst := dst, op := .load 197 x, type := ty, pos := pos, after := after, guard := gd } :: rest) a w :=
  wpList_step fun _ hk => by
    rw [if_pos hw]
    exact wp_loadK rfl hx hg (hk _ _ hK)
theorem wp_putK {x y : Operand} (ho : o.op = .store 197 x y) {g : Nat} {h h2 : Int} {vs vs2 : List Int} {t : TypeId}
    (hx : a.eval x = .pointer (some ⟨g, 0, none⟩)) (hy : a.eval y = .agg (kvA h vs)) (hg : w.heap[g]? = some (.cells (kvA h2 vs2) t (0, 0)))
    (hK : ∀ W, W.heap[g]? = some (.cells (kvA h vs) t (0, 0)) → Keeps [g] w W → K (a.put o.dst undef) W) : o.wp Tryz.prog a w K Q :=
  wp_store_row 197 x y ho g (kvA h vs) hx hy t (kvA h2 vs2) hg (by kernel_rfl) rfl (kvA_one h vs) (hK _ (setRow_heap w g _ _ t (0, 0) hg) ((Keeps.refl [g] w).setRow g _ (.inl (by simp))))
theorem wpList_putK {dst : Option Tmp} {ty : TypeId} {pos : String} {after : Array Edge} {x y : Operand} {g : Nat} {h h2 : Int} {vs vs2 : List Int} {t : TypeId}
    (hx : a.eval x = .pointer (some ⟨g, 0, none⟩)) (hy : a.eval y = .agg (kvA h vs)) (hg : w.heap[g]? = some (.cells (kvA h2 vs2) t (0, 0)))
    (hK : ∀ W, W.heap[g]? = some (.cells (kvA h vs) t (0, 0)) → Keeps [g] w W → wpList Tryz.prog ops Q rest (a.put dst undef) W) :
    wpList Tryz.prog ops Q ({ dst := dst, op := .store 197 x y, type := ty, pos := pos, after := after, guard := none } :: rest) a w :=
  wpList_plain rfl fun _ hk => wp_putK rfl hx hy hg fun W h3 h4 => hk _ _ (hK W h3 h4)
end
theorem results_kv {fn : Func} {p : Tmp} (h : fn.results = #[.cell p 197]) (tmps : Array Value) (w : World) (b : Nat) {x : Int} {vs : List Int} {t : TypeId}
    (hp : tmps.getD p undef = .pointer (some ⟨b, 0, none⟩)) (hb : w.heap[b]? = some (.cells (kvA x vs) t (0, 0))) : (results fn tmps).run Tryz.prog w = .ok (.agg (kvA x vs)) w :=
  results_cell_row h tmps w b t (kvA x vs) (0, 0) _ hp hb Tryz.underlying197 rfl (by kernel_rfl)
set_option maxHeartbeats 8000000
set_option maxRecDepth 100000
end Go.Proofs.YtbnhcggjcdipeaaGreatDoor
