/-
  A region that makes events and lists in whatever order: what it keeps.
-/
import Derived.Test.YtlaccndjlfpjbaaGreatDoorD20
import Derived.Test.YtlaccndjlfpjbaaGreatDoorD23
import Derived.Test.YtlaccndjlfpjbaaGreatDoorD24
import Derived.Test.YtlaccndjlfpjbaaGreatDoorD09
set_option linter.unusedSimpArgs false
set_option linter.unusedVariables false
namespace Go.Proofs.YtlaccndjlfpjbaaGreatDoor
open Go.RowKit Go.Maps
theorem eval_at {a : Act} {t : Nat} {v : Value} (h : a.tmps[t]? = some v) : a.eval (.tmp t) = v := by
  show a.tmps.getD t undef = v
  simp [Array.getD_eq_getD_getElem?, h]
theorem wanted_free {o : Oper} {y : Nat → Option Bool} (h : o.guard = none) : Region.wanted o y = true := by unfold Region.wanted; rw [h]
set_option maxRecDepth 100000
section
variable {o : Oper} {a : Act} {w : World} {K : Act → World → Prop} {Q : Exit → Act → World → Prop}
theorem wp_call7 {fn : Func} (f : FuncId) (args : Array Operand) (tys : Array TypeId) (ho : o.op = .call { callee := .value (.func f), args := args, argTypes := tys }) (vs : List Value) (hv : args.toList.map a.eval = vs)
    (hf : Tryz.prog.funcs[f]? = some fn) (hname : (fn.name == "runtime.NumGoroutine") = false) (hb : fn.body.isNone = false)
    (h : Calls Tryz.prog f vs.toArray w fun e w' => ∃ v, e = .returned v ∧ K (a.put o.dst v) w') : o.wp Tryz.prog a w K Q := by
  have hv2 : args.map a.eval = vs.toArray := by rw [← hv]; apply Array.ext'; simp
  unfold Oper.wp execOp
  have h1 : fn.name ≠ "runtime.NumGoroutine" := by simpa using hname
  have h2 : ∃ z, fn.body = some z := by
    cases h : fn.body with
    | none => rw [h] at hb; cases hb
    | some z => exact ⟨z, rfl⟩
  obtain ⟨z, h2⟩ := h2
  simp only [ho, resolve, invoke, Sem.run_bind, Sem.run_pure, Result.andThen_ok, hv2, Act.eval, Deferred.ofValue, Array.empty_append, Array.append_empty]
  simp [callFunc, hf, h1, h2, Sem.run]
  rw [Oper.upon_enter]
  exact h.mono fun e w' ⟨v, he, hk⟩ => by subst he; exact hk
theorem wp_not7 (ty : TypeId) (x : Operand) (b : Bool) (ho : o.op = .unOp .not ty x) (hx : a.eval x = .bool b) (h : K (a.put o.dst (.bool !b)) w) : o.wp Tryz.prog a w K Q := by
  unfold Oper.wp execOp
  simp only [ho, hx]
  simp [go_sem]
  exact h
theorem wp_build_evl (n : Nat) (parts : Array (Nat × Operand)) (ho : o.op = .buildSlice 22 n parts) (L : EvL) (hn : L.length = n) (h0 : 0 < n) (h1 : n ≤ 1000)
    (hp : (parts.toList.map fun (i, x) => (i, a.eval x)) = ((L.map fun p => Value.agg (evC p.1 p.2.1 p.2.2)).zipIdx 0).map fun x => (x.2, x.1))
    (h : K (a.put o.dst (.slice (some ⟨w.heap.size, 0, none⟩) n n)) (w.alloc (.cells (evsC L).toArray 42))) : o.wp Tryz.prog a w K Q := by
  obtain ⟨i0, hi, hz0, hz1, hz2⟩ := info_parts Tryz.infoE
  refine wp_buildSlice 22 42 n parts ho (evsC L).toArray i0 _ Tryz.underlying22 hi hz0 (by rw [hz1]; omega) (by rw [hz1]; omega) ?_ h
  rw [hz1, Array.toList_map, hp]
  have := Great.fill_whole (s := 19) (by decide) (L.map fun p => Value.agg (evC p.1 p.2.1 p.2.2)) ((Array.range (n * 19)).map ((Value.agg (evC evZero (.slice none 0 0) (.slice none 0 0))).cells[· % (Value.agg (evC evZero (.slice none 0 0) (.slice none 0 0))).cells.size]!))
    (by intro v hv; obtain ⟨p, _, rfl⟩ := List.mem_map.1 hv; rfl) (by simp [hn])
  rw [this]
  congr 2
  clear this hp h hn
  induction L with
  | nil => rfl
  | cons p r ih => simp only [List.map_cons, List.flatMap_cons, ih]; rfl
theorem wp_build_mics (n : Nat) (parts : Array (Nat × Operand)) (ho : o.op = .buildSlice 37 n parts) (l : List Mic) (hn : l.length = n) (h0 : 0 < n) (h1 : n ≤ 1000)
    (hp : (parts.toList.map fun (i, x) => (i, a.eval x)) = ((l.map fun m => Value.agg (micC m)).zipIdx 0).map fun x => (x.2, x.1))
    (h : K (a.put o.dst (.slice (some ⟨w.heap.size, 0, none⟩) n n)) (w.alloc (.cells (micsC l).toArray 52))) : o.wp Tryz.prog a w K Q := by
  obtain ⟨i0, hi, hz0, hz1, hz2⟩ := info_parts Tryz.infoM
  refine wp_buildSlice 37 52 n parts ho (micsC l).toArray i0 _ Tryz.underlying37 hi hz0 (by rw [hz1]; omega) (by rw [hz1]; omega) ?_ h
  rw [hz1, Array.toList_map, hp]
  have := Great.fill_whole (s := 3) (by decide) (l.map fun m => Value.agg (micC m)) ((Array.range (n * 3)).map ((Value.agg #[.bool false, .int .u8 0, .int .u16 0]).cells[· % (Value.agg #[.bool false, .int .u8 0, .int .u16 0]).cells.size]!))
    (by intro v hv; obtain ⟨p, _, rfl⟩ := List.mem_map.1 hv; rfl) (by simp [hn])
  rw [this]
  congr 2
  clear this hp h hn
  induction l with
  | nil => rfl
  | cons p r ih => simp only [List.map_cons, List.flatMap_cons, ih]; rfl
theorem wp_build_errs (n : Nat) (parts : Array (Nat × Operand)) (ho : o.op = .buildSlice 54 n parts) (zs : List Int) (hn : zs.length = n) (h0 : 0 < n) (h1 : n ≤ 1000)
    (hp : parts.toList = (zs.zipIdx 0).map fun x => (x.2, Operand.const (Value.int .i64 x.1)))
    (h : K (a.put o.dst (.slice (some ⟨w.heap.size, 0, none⟩) n n)) (w.alloc (.cells (zs.map (Value.int .i64)).toArray 30))) : o.wp Tryz.prog a w K Q := by
  have hsz : (Tryz.prog.info? 30).map (·.size) = some 1 := by kernel_rfl
  have hz : ((Tryz.prog.info? 30).bind (·.zero)).isSome = true := by kernel_rfl
  cases hie : Tryz.prog.info? 30 with
  | none => simp [hie] at hsz
  | some ie =>
    simp only [hie, Option.map_some, Option.some.injEq, Option.bind_some] at hsz hz
    obtain ⟨z, hzz⟩ := Option.isSome_iff_exists.1 hz
    refine wp_buildSlice 54 30 n parts ho _ ie z Tryz.underlying54 hie hzz (by rw [hsz]; omega) (by rw [hsz]; omega) ?_ h
    rw [parts_eval a parts .i64 zs hp, hsz]
    exact Great.fill_flat _ _ (fun v hv => by obtain ⟨n, _, rfl⟩ := List.mem_map.1 hv; rfl) (by simp [hn])
end
theorem mics_lit {N b : Nat} {w : World} {l : List Mic} {t : TypeId} {fr : Nat × Nat} (hb : w.heap[b]? = some (.cells (micsC l).toArray t fr)) (hN : b < N) (hn : l.length ≤ 1000) : Mics N w (.slice (some ⟨b, 0, none⟩) l.length l.length) l := by
  refine ⟨_, l.length, rfl, Nat.le_refl _, by omega, fun _ => ⟨b, 0, rfl, hN, fun j m hj => ?_⟩⟩
  obtain ⟨h1, h2, h3⟩ := micsC_get l j m hj
  simp only [World.cell?, hb, Nat.zero_add]
  exact ⟨by simpa using h1, by simpa using h2, by simpa using h3⟩
theorem list29 {vs : List Value} (h : vs.length = 29) : ∃ y0 y1 y2 y3 y4 y5 y6 y7 y8 y9 y10 y11 y12 y13 y14 y15 y16 y17 y18 y19 y20 y21 y22 y23 y24 y25 y26 y27 y28, vs = [y0, y1, y2, y3, y4, y5, y6, y7, y8, y9, y10, y11, y12, y13, y14, y15, y16, y17, y18, y19, y20, y21, y22, y23, y24, y25, y26, y27, y28] := by
  match vs, h with
  | [y0, y1, y2, y3, y4, y5, y6, y7, y8, y9, y10, y11, y12, y13, y14, y15, y16, y17, y18, y19, y20, y21, y22, y23, y24, y25, y26, y27, y28], _ => exact ⟨y0, y1, y2, y3, y4, y5, y6, y7, y8, y9, y10, y11, y12, y13, y14, y15, y16, y17, y18, y19, y20, y21, y22, y23, y24, y25, y26, y27, y28, rfl⟩
def EvIs (w : World) (x : Ev) (v : Value) : Prop := ∃ tx rd, v = .agg (evC x tx rd) ∧ EvAt w.heap.size w tx rd x
theorem EvIs.new {w w' : World} {x : Ev} {v : Value} (h : EvIs w x v) (hk : Keeps [] w w') : EvIs w' x v := by
  obtain ⟨tx, rd, h1, h2⟩ := h
  exact ⟨tx, rd, h1, (h2.new hk (Nat.le_refl _)).up7 hk.size⟩
theorem Mics.up7 {N M : Nat} {w : World} {v : Value} {l : List Mic} (h : Mics N w v l) (hM : N ≤ M) : Mics M w v l := by
  obtain ⟨a, c, rfl, h1, h2, h3⟩ := h
  refine ⟨a, c, rfl, h1, h2, fun hn => ?_⟩
  obtain ⟨bk, o, rfl, hb, h4⟩ := h3 hn
  exact ⟨bk, o, rfl, by omega, h4⟩
theorem Evs.up7 {N M : Nat} {w : World} {v : Value} {l : List Ev} (h : Evs N w v l) (hM : N ≤ M) : Evs M w v l := by
  obtain ⟨a, c, rfl, h1, h2, h3⟩ := h
  refine ⟨a, c, rfl, h1, h2, fun hn => ?_⟩
  obtain ⟨bk, o, rfl, hb, h4⟩ := h3 hn
  refine ⟨bk, o, rfl, by omega, fun j hj => ?_⟩
  obtain ⟨tx, rd, h5, h6⟩ := h4 j hj
  exact ⟨tx, rd, h5.up7 hM, h6⟩
theorem Errs.new7 {N : Nat} {w w' : World} {v : Value} {l : List Int} (h : Errs N w v l) (hk : Keeps [] w w') (hN : N ≤ w.heap.size) {M : Nat} (hM : N ≤ M) : Errs M w' v l := by
  obtain ⟨a, c, rfl, h1, h2, h3⟩ := h
  refine ⟨a, c, rfl, h1, h2, fun hn => ?_⟩
  obtain ⟨bk, o, rfl, hb, h4⟩ := h3 hn
  exact ⟨bk, o, rfl, by omega, fun j hj => hk.cell (h4 j hj) (by simp)⟩
def Good16 (w : World) : Nat → Value → Prop
  | 0 => EvIs w (cfgE 4)
  | 1 => fun v => v = .agg (micC kPut)
  | 2 => fun v => v = .agg (micC kGet)
  | 3 => fun v => Mics w.heap.size w v [kPut, kGet]
  | 4 => EvIs w (begE 0 1 [kPut, kGet])
  | 5 => fun v => v = .agg (micC kPut)
  | 6 => fun v => v = .agg (micC kPut)
  | 7 => fun v => Mics w.heap.size w v [kPut, kPut]
  | 8 => EvIs w (begE 0 1 [kPut, kPut])
  | 9 => fun v => v = .agg (micC kGet)
  | 10 => fun v => v = .agg (micC kPut)
  | 11 => fun v => Mics w.heap.size w v [kGet, kPut]
  | 12 => EvIs w (begE 0 1 [kGet, kPut])
  | 13 => fun v => v = .agg (micC kPut)
  | 14 => fun v => Mics w.heap.size w v [kPut]
  | 15 => EvIs w (begE 1 2 [kPut])
  | 16 => EvIs w kCommit
  | 17 => EvIs w kFull
  | 18 => fun v => v = .agg (micC kGet)
  | 19 => fun v => v = .agg (micC kGet)
  | 20 => fun v => Mics w.heap.size w v [kGet, kGet]
  | 21 => EvIs w (begE 1 2 [kGet, kGet])
  | 22 => EvIs w (plainE 7 1 2)
  | 23 => EvIs w (plainE 7 1 2)
  | 24 => EvIs w (invE 0 9 1 0)
  | 25 => fun v => Evs w.heap.size w v kTx
  | 26 => fun v => Errs w.heap.size w v kTxW
  | 27 => fun v => v = .bool true
  | 28 => fun v => v = .bool false
  | _ => fun _ => True
theorem Good16.new {w w' : World} (hk : Keeps [] w w') : ∀ (j : Nat) (v : Value), Good16 w j v → Good16 w' j v := by
  have hE : ∀ x v, EvIs w x v → EvIs w' x v := fun x v h => h.new hk
  have hM : ∀ v l, Mics w.heap.size w v l → Mics w'.heap.size w' v l := fun v l h => (h.new hk (Nat.le_refl _)).up7 hk.size
  intro j v h
  match j with
  | 0 | 4 | 8 | 12 | 15 | 16 | 17 | 21 | 22 | 23 | 24 => exact hE _ _ h
  | 1 | 2 | 5 | 6 | 9 | 10 | 13 | 18 | 19 | 27 | 28 => exact h
  | 3 | 7 | 11 | 14 | 20 => exact hM _ _ h
  | 25 => exact (Evs.new h hk (Nat.le_refl _)).up7 hk.size
  | 26 => exact Errs.new7 h hk (Nat.le_refl _) hk.size
  | n + 29 => trivial
/-- What the region keeps. -/
structure I16 (W : World) (a0 : Act) (l : Array Bool) (a : Act) (w : World) : Prop where
  ls : l.size = 29
  ts : a.tmps.size = a0.tmps.size
  out : ∀ j, (j < 101 ∨ 129 < j) → a.tmps[j]? = a0.tmps[j]?
  df : a.defers = a0.defers
  kp : Keeps [] W w
  vl : ∀ j, j < 29 → l.getD j false = true → ∃ v, a.tmps[101 + j]? = some v ∧ Good16 w j v
theorem I16.step {W : World} {a0 : Act} {l : Array Bool} {a : Act} {w w' : World} (h : I16 W a0 l a w) (hb : 130 ≤ a0.tmps.size) (i : Nat) (hi : i < 29) (hk : Keeps [] w w') {v : Value} (hv : Good16 w' i v) {d : Option Tmp} (hd : d = some (101 + i)) :
    I16 W a0 (l.setIfInBounds i true) (a.put d v) w' := by
  subst hd
  refine ⟨by simp [h.ls], by simp [Act.put, h.ts], fun j hj => ?_, h.df, h.kp.trans hk (FSub.refl _ _), fun j hj hl => ?_⟩
  · show (a.tmps.setIfInBounds (101 + i) v)[j]? = _
    rw [Array.getElem?_setIfInBounds_ne (by omega)]
    exact h.out j hj
  · by_cases e : i = j
    · subst e
      refine ⟨v, ?_, hv⟩
      show (a.tmps.setIfInBounds (101 + i) v)[101 + i]? = _
      rw [Array.getElem?_setIfInBounds_self_of_lt (by rw [h.ts]; omega)]
    · have hl2 : l.getD j false = true := by
        have h1 : j < l.size := by rw [h.ls]; exact hj
        simpa [Array.getD, h1, Array.getElem_setIfInBounds, e] using hl
      obtain ⟨u, h1, h2⟩ := h.vl j hj hl2
      refine ⟨u, ?_, Good16.new hk j u h2⟩
      show (a.tmps.setIfInBounds (101 + i) v)[101 + j]? = _
      rw [Array.getElem?_setIfInBounds_ne (by omega)]
      exact h1
/-- Behind the region: the slots that it wrote, as a list. -/
theorem I16.slots {W : World} {a0 : Act} {l : Array Bool} {a : Act} {w : World} (h : I16 W a0 l a w) (hb : 130 ≤ a0.tmps.size) (hall : ∀ i, i < 29 → l.getD i true = true) :
    ∃ vs : List Value, vs.length = 29 ∧ vs[28]? = some (.bool false) ∧ a = ⟨(a0.tmps.toList.take 101 ++ vs ++ a0.tmps.toList.drop 130).toArray, a0.defers⟩ := by
  obtain ⟨A, D⟩ := a
  obtain ⟨A0, D0⟩ := a0
  obtain ⟨L⟩ := A
  obtain ⟨L0⟩ := A0
  have hs : L.length = L0.length := by simpa using h.ts
  have hb' : 130 ≤ L0.length := by simpa using hb
  have hd : D = D0 := h.df
  subst hd
  refine ⟨(L.drop 101).take 29, by simp; omega, ?_, ?_⟩
  · have h28 : l.getD 28 false = true := by
      have h1 : 28 < l.size := by rw [h.ls]; decide
      have := hall 28 (by decide)
      simpa [Array.getD, h1] using this
    obtain ⟨v, h1, h2⟩ := h.vl 28 (by decide) h28
    have h2' : v = .bool false := h2
    subst h2'
    simpa [List.getElem?_take, List.getElem?_drop] using h1
  · have e : L = L0.take 101 ++ (L.drop 101).take 29 ++ L0.drop 130 := by
      apply List.ext_getElem?
      intro j
      by_cases h1 : j < 101
      · rw [List.append_assoc, List.getElem?_append_left (by simp; omega), List.getElem?_take, if_pos h1]
        have := h.out j (.inl h1)
        simpa using this
      · by_cases h2 : j < 130
        · rw [List.append_assoc, List.getElem?_append_right (by simp; omega), List.getElem?_append_left (by simp; omega)]
          simp only [List.length_take]
          rw [List.getElem?_take, List.getElem?_drop, Nat.min_eq_left (by omega), if_pos (by omega)]
          congr 1
          omega
        · rw [List.getElem?_append_right (by simp; omega), List.getElem?_drop]
          have := h.out j (.inr (by omega))
          have e2 : 130 + (j - (L0.take 101 ++ (L.drop 101).take 29).length) = j := by simp; omega
          rw [e2]
          simpa using this
    show (⟨L.toArray, D⟩ : Act) = ⟨_, D⟩
    rw [← e]
end Go.Proofs.YtlaccndjlfpjbaaGreatDoor
/-
  HistoryKnown: its walk.
-/
namespace Go.Proofs.YtlaccndjlfpjbaaGreatDoor
open Go.RowKit Go.Maps
theorem wpList_build_micsG {ops : Array Oper} {rest : List Oper} {o : Oper} {a : Act} {w : World} {Q : Exit → Act → World → Prop} (hw : Region.wanted o (yielded ops a.tmps) = true) (n : Nat) (parts : Array (Nat × Operand)) (ho : o.op = .buildSlice 37 n parts) (l : List Mic) (hn : l.length = n) (h0 : 0 < n) (h1 : n ≤ 1000)
    (hp : (parts.toList.map fun (i, x) => (i, a.eval x)) = ((l.map fun m => Value.agg (micC m)).zipIdx 0).map fun x => (x.2, x.1))
    (h : wpList Tryz.prog ops Q rest (a.put o.dst (.slice (some ⟨w.heap.size, 0, none⟩) n n)) (w.alloc (.cells (micsC l).toArray 52))) : wpList Tryz.prog ops Q (o :: rest) a w :=
  wpList_step fun _ hK => by
    rw [if_pos hw]
    exact wp_build_mics n parts ho l hn h0 h1 hp (hK _ _ h)
theorem wpList_put_mic {ops : Array Oper} {rest : List Oper} {o : Oper} {a : Act} {w : World} {Q : Exit → Act → World → Prop} {x y : Operand} {b : Nat} {old : Array Value} {t : TypeId} (m : Mic) (hgd : o.guard = none)
    (ho : o.op = .store 52 x y) (hx : a.eval x = .pointer (some ⟨b, 0, none⟩)) (hy : a.eval y = .agg (micC m)) (hg : w.heap[b]? = some (.cells old t (0, 0))) (hs : old.size = 3)
    (h : ∀ W, W.heap[b]? = some (.cells (micC m) t (0, 0)) → Keeps [b] w W → wpList Tryz.prog ops Q rest (a.put o.dst undef) W) : wpList Tryz.prog ops Q (o :: rest) a w :=
  wpList_store_row hgd 52 x y ho b (micC m) hx hy t old hg (by kernel_rfl) (by rw [hs]; rfl) (by simp [micC, Value.oneCell']) (h _ (setRow_heap w b old (micC m) t (0, 0) hg) ((Keeps.refl [b] w).setRow b _ (.inl (by simp))))
theorem KA.call {w0 wr : World} {A p mb n : Nat} {O : List Nat} {L : List Ev} (h : Autos w0 wr [⟨A, p, mb, n, O, L⟩]) (hG : Glob4 w0) (hok : HistOk L) (hn : n ≤ 900000) (x : Ev) (hx : x.In) (tx rd : Value) (ht : EvAt wr.heap.size wr tx rd x) {E : Int} {L' : List Ev} (hE : hErr opChk mayOf L x = E) (hL : hNext opChk mayOf L x = L') :
    Calls Tryz.prog 11 #[.pointer (some ⟨A, 0, none⟩), .agg (evC x tx rd)] wr fun e w' => e = .returned (.int .i64 E) ∧ ∃ n' O', n' ≤ n + 8 ∧ Autos w0 w' [⟨A, p, mb, n', O', L'⟩] ∧ Keeps [p, mb] wr w' :=
  (hStep_any wr (hG.new h.kp) (h.is 0 (by simp)) hok hn x hx tx rd ht (Nat.le_refl _)).mono fun e w' hs => by
    have hk : Keeps [p, mb] wr w' := by obtain ⟨_, _, _, _, h3, _⟩ := hs; exact h3
    obtain ⟨he, n', O', h1, h2⟩ := h.step 0 (by simp) hs
    subst hE hL
    exact ⟨he, n', O', h1, h2, hk⟩
theorem nil_at {N : Nat} {w : World} {x : Ev} (ht : x.t = []) (hr : x.r = []) : EvAt N w (.slice none 0 0) (.slice none 0 0) x := ⟨by rw [ht]; exact Mics.nil _ _, by rw [hr]; exact Lists.nil _ _⟩
theorem hLastH_any {w : World} {a p mb n : Nat} {L : List Ev} {O : List Nat} (hA : HAuto w a p mb n L O) : Calls Tryz.prog 15 #[.pointer (some ⟨a, 0, none⟩)] w fun e w' => e = .returned (.int .i64 (hMax L.tail)) ∧ w' = w := by
  obtain ⟨g, on, op, la, ap, hA, hS⟩ := hA
  rw [← hS.la]
  exact hLast_any hA
theorem kOk1 : HistOk [cfgE 0] := by have := HistOk.nil.next (cfgE_in 0 (by decide)); rwa [k_n2] at this
theorem kOk2 : HistOk kL2 := by have := hAll_ok kOk1 kLoop kLoop_in; rwa [kLoop_all] at this
set_option maxHeartbeats 8000000
set_option maxRecDepth 100000
theorem HistoryKnown_any (w : World) (hG : Glob4 w) : Calls Tryz.prog 5 #[] w fun e w' => e = .returned (.bool true) ∧ Keeps [] w w' := by
  have HG := Lib.hid hG
  clear hG
  have hI := fun w c i f v => invoke7_any w c i f v
  have hC := fun w m => config7_any w m
  have hR := fun w c i k v => ret7_any w c i k v
  have hP := fun w k c i => plain7_any w k c i
  have HI := Lib.hid hI; have HC := Lib.hid hC; have HR := Lib.hid hR; have HP := Lib.hid hP
  clear hI hC hR hP
  go_enter Tryz.func5, Tryz.ntmps5
  go_wp2_with fail
  refine (hNew_any w).mono ?_; rintro e w1 ⟨A, p, m, rfl, hA1, hk1, b1, b2, b3⟩
  have HA := Lib.hid (show Autos w w1 [⟨A, p, m, 0, [], []⟩] from by
    have h0 : Autos w w [] := ⟨fun i hi => by simp at hi, fun i hi => by simp at hi, fun i j hi => by simp at hi, Keeps.refl _ _⟩
    exact h0.more (z := ⟨A, p, m, 0, [], []⟩) hk1 hA1 b1 b2 b3 (by simp))
  clear hA1 hk1 b1 b2 b3
  go_wp2_with fail
  refine (awake7_any w1 (HG.out.new HA.out.kp)).mono ?_; rintro e w2 ⟨rfl, hk⟩
  replace HA := Lib.hid (HA.out.new hk)
  clear hk
  go_wp2_with fail
  refine (hLastH_any (HA.out.is 0 (by simp))).mono ?_; rintro e w3 ⟨rfl, hw⟩
  rw [hw, show hMax (([⟨A, p, m, 0, [], []⟩] : List Aid)[0]).L.tail = -1 from rfl]
  clear hw
  go_wp2_with fail
  refine (HI.out _ _ _ _ _).mono ?_; rintro e w4 ⟨rfl, hk⟩
  replace HA := Lib.hid (HA.out.new hk)
  clear hk
  go_wp2_with fail
  refine (KA.call HA.out HG.out HistOk.nil (by decide) (invE 0 5 1 0) (invE_in _ _ _ _ (by decide) (by decide) (by decide) (by decide)) _ _ (nil_at rfl rfl) k_e1 k_n1).mono ?_; rintro e w5 ⟨rfl, n1, O1, hn1, ha⟩
  replace HA := Lib.hid ha.1
  clear ha
  go_wp2_with fail
  refine (HC.out _ _).mono ?_; rintro e w6 ⟨rfl, hk⟩
  replace HA := Lib.hid (HA.out.new hk)
  clear hk
  go_wp2_with fail
  refine (KA.call HA.out HG.out HistOk.nil (by omega) (cfgE 0) (cfgE_in 0 (by decide)) _ _ (nil_at rfl rfl) k_e2 k_n2).mono ?_; rintro e w7 ⟨rfl, n2, O2, hn2, ha⟩
  replace HA := Lib.hid ha.1
  clear ha
  go_wp2_with (refine wpList_build_micsG (by rfl) 1 _ rfl [kGet] rfl (by decide) (by decide) rfl ?_)
  have hkA := (Keeps.refl [] w7).alloc (.cells (micsC [kGet]).toArray 52)
  have hnw := heap_alloc_new w7 (.cells (micsC [kGet]).toArray 52)
  replace HA := Lib.hid (HA.out.new hkA)
  have HM := Lib.hid (mics_lit (N := w7.heap.size + 1) (l := [kGet]) hnw (by omega) (by decide))
  have HLT := Lib.hid (lt_of_block hnw)
  clear hkA hnw
  generalize w7.alloc _ = W7 at *
  refine (begin7_any _ 0 1 (some ⟨w7.heap.size, 0, none⟩) 1 1 [kGet]).mono ?_; rintro e w8 ⟨rfl, hk⟩
  have hat : EvAt w8.heap.size w8 (.slice (some ⟨w7.heap.size, 0, none⟩) 1 1) (.slice none 0 0) (begE 0 1 [kGet]) := by
    have h1 : w7.heap.size + 1 ≤ W7.heap.size := HLT.out
    have hlt : w7.heap.size + 1 ≤ w8.heap.size := Nat.le_trans h1 hk.size
    exact ⟨((Mics.new HM.out hk h1).up7 hlt), Lists.nil _ _⟩
  replace HA := Lib.hid (HA.out.new hk)
  clear hk HM
  go_wp2_with fail
  refine (KA.call HA.out HG.out kOk1 (by omega) (begE 0 1 [kGet]) (begE_in _ _ _ (by decide) (by decide) (fun z hz => by simp at hz; subst hz; exact kMic_in.2)) _ _ hat k_e3 k_n3).mono ?_; rintro e w9 ⟨rfl, n3, O3, hn3, ha⟩
  replace HA := Lib.hid ha.1
  clear ha hat HLT
  go_wp2_with fail
  refine (HI.out _ _ _ _ _).mono ?_; rintro e v1 ⟨rfl, k1⟩
  go_wp2_with fail
  refine (HI.out _ _ _ _ _).mono ?_; rintro e v2 ⟨rfl, k2⟩
  go_wp2_with fail
  refine (HI.out _ _ _ _ _).mono ?_; rintro e v3 ⟨rfl, k3⟩
  go_wp2_with fail
  refine (HI.out _ _ _ _ _).mono ?_; rintro e v4 ⟨rfl, k4⟩
  go_wp2_with fail
  refine (HI.out _ _ _ _ _).mono ?_; rintro e v5 ⟨rfl, k5⟩
  go_wp2_with fail
  refine (HR.out _ _ _ _ _).mono ?_; rintro e v6 ⟨rfl, k6⟩
  go_wp2_with fail
  refine (HR.out _ _ _ _ _).mono ?_; rintro e v7 ⟨rfl, k7⟩
  go_wp2_with fail
  refine (HR.out _ _ _ _ _).mono ?_; rintro e v8 ⟨rfl, k8⟩
  go_wp2_with fail
  refine (HP.out _ _ _ _).mono ?_; rintro e v9 ⟨rfl, k9⟩
  have hk19 : Keeps [] w9 v9 := (((((((k1.trans k2 (FSub.refl _ _)).trans k3 (FSub.refl _ _)).trans k4 (FSub.refl _ _)).trans k5 (FSub.refl _ _)).trans k6 (FSub.refl _ _)).trans k7 (FSub.refl _ _)).trans k8 (FSub.refl _ _)).trans k9 (FSub.refl _ _)
  replace HA := Lib.hid (HA.out.new hk19)
  have hpB := Aid.lt (HA.out.is 0 (by simp)) p (by simp [Aid.foot]); have hmB := Aid.lt (HA.out.is 0 (by simp)) m (by simp [Aid.foot])
  clear k1 k2 k3 k4 k5 k6 k7 k8 k9 hk19
  go_wp2_with (first
    | (refine wpList_build_evl rfl 9 _ rfl (kLoop.map nil3) rfl (by decide) (by decide) rfl ?_)
    | (refine wpList_buildFlat rfl 54 30 9 _ rfl .i64 kLoopW Tryz.underlying54 (by kernel_rfl) (by kernel_rfl) rfl (by decide) (by decide) rfl ?_))
  have hk : Keeps [] v9 ((v9.alloc (.cells (evsC (kLoop.map nil3)).toArray 42)).alloc (.cells (kLoopW.map (Value.int .i64)).toArray 30)) := ((Keeps.refl [] v9).alloc _).alloc _
  have h1 := heap_alloc_lt (o := .cells (kLoopW.map (Value.int .i64)).toArray 30) (heap_alloc_new v9 (.cells (evsC (kLoop.map nil3)).toArray 42))
  have h2 := heap_alloc_new (v9.alloc (.cells (evsC (kLoop.map nil3)).toArray 42)) (.cells (kLoopW.map (Value.int .i64)).toArray 30)
  have hs : (v9.alloc (.cells (evsC (kLoop.map nil3)).toArray 42)).heap.size = v9.heap.size + 1 := by simp
  rw [hs] at h2
  replace HA := Lib.hid (HA.out.new hk)
  have HB1 := Lib.hid h1; have HB2 := Lib.hid h2
  clear hk h1 h2 hs
  generalize (v9.alloc (.cells (evsC (kLoop.map nil3)).toArray 42)).alloc (.cells (kLoopW.map (Value.int .i64)).toArray 30) = V at *
  generalize v9.heap.size = B at *
  have hok0 : ∀ k, HistOk (hAll opChk mayOf [cfgE 0] (kLoop.take k)) := fun k => hAll_ok kOk1 _ (fun x hx => kLoop_in x (List.mem_of_mem_take hx))
  have HOK0 := Lib.hid hok0
  have HA0 := Lib.hid (show Autos w V [⟨A, p, m, n3, O3, hAll opChk mayOf [cfgE 0] (kLoop.take 0)⟩] from HA.out)
  clear hok0 HA
  go_wp2_with fail
  go_loopw [0, 4] (fun q i wr => ∃ (k n : Nat) (O : List Nat), q = .bool false ∧ i = .int .i64 k ∧ k ≤ 9 ∧ n ≤ n3 + 8 * k ∧ Autos w wr [⟨A, p, m, n, O, hAll opChk mayOf [cfgE 0] (kLoop.take k)⟩] ∧ Keeps [p, m] V wr) (fun _ i _ => 9 - (intOf i).toNat)
  case atStart => exact ⟨0, n3, O3, rfl, rfl, by omega, by omega, HA0.out, Keeps.refl _ _⟩
  case round =>
    clear HA0
    obtain ⟨k, n, O, rfl, rfl, hk, hn, ha, hkv⟩ := hrel
    have HA := Lib.hid ha; have HKV := Lib.hid hkv
    clear ha hkv
    by_cases hlt : k < 9
    · have hk9 : k < kLoop.length := hlt
      have hzi := kLoop_in _ (getD_in evZero hk9)
      have htk := take_nextD evZero hk9
      have hE : hErr opChk mayOf (hAll opChk mayOf [cfgE 0] (kLoop.take k)) (kLoop.getD k evZero) = kLoopW.getD k 0 := by rw [← kLoop_ans]; exact (hAns_get kLoop [cfgE 0] k hk9).symm
      have hL : hNext opChk mayOf (hAll opChk mayOf [cfgE 0] (kLoop.take k)) (kLoop.getD k evZero) = hAll opChk mayOf [cfgE 0] (kLoop.take (k + 1)) := by rw [htk, hAll_snoc]
      have hnt : (kLoop.getD k evZero).t = [] ∧ (kLoop.getD k evZero).r = [] := by
        have h9 : ∀ x ∈ kLoop, x.t = [] ∧ x.r = [] := by
          intro x hx
          simp only [kLoop, List.mem_cons, List.not_mem_nil, or_false] at hx
          rcases hx with rfl | rfl | rfl | rfl | rfl | rfl | rfl | rfl | rfl <;> exact ⟨rfl, rfl⟩
        exact h9 _ (getD_in evZero hk9)
      have hrg : V.rangeAt B (k * 19) (evC (kLoop.getD k evZero) (.slice none 0 0) (.slice none 0 0)).toList := by
        intro j u hj
        have hget : (kLoop.map nil3)[k]? = some (nil3 (kLoop.getD k evZero)) := by rw [List.getElem?_map, getD_get evZero hk9]; rfl
        have := evsC_get (kLoop.map nil3) k _ hget j u hj
        have hb := HB1.out
        simp only [World.cell?, hb]
        simpa using this
      have hce : V.cell? ⟨B + 1, k, none⟩ = some (.int .i64 (kLoopW.getD k 0)) := by
        have hb := HB2.out
        have hkw : k < kLoopW.length := hlt
        simp [World.cell?, hb, List.getD, hkw]
      have HST := Lib.hid (fun (W : World) (h : Keeps [] wr W) => KA.call (HA.out.new h) HG.out (HOK0.out k) (by omega) (kLoop.getD k evZero) hzi _ _ (nil_at hnt.1 hnt.2) hE hL)
      obtain ⟨S, hS⟩ : ∃ S : World → Prop, S = fun y => Keeps [p, m] V y := ⟨_, rfl⟩
      have HSE := Lib.hid hS
      have hs1 : ∀ w', S w' → w'.cell? ⟨B + 1, k, none⟩ = some (.int .i64 (kLoopW.getD k 0)) := fun w' h => by rw [hS] at h; exact h.cell hce (by simp; omega)
      have HS2 := Lib.hid (fun (w' : World) (h : S w') => show w'.rangeAt B (k * 19) (evC (kLoop.getD k evZero) (.slice none 0 0) (.slice none 0 0)).toList from by rw [hS] at h; exact fun i u hi => h.cell (hrg i u hi) (by simp; omega))
      have hSD : S wr.drew := by rw [hS]; exact HKV.out.drew
      have hki : (k : Int) < 9 := by omega
      clear hS hrg hce hE hL htk hzi hnt hk9
      generalize kLoop.getD k evZero = x at *
      generalize kLoopW.getD k 0 = E at *
      go_wp2_with fail
      refine wp_region_noPanic ?_
      refine wp_region_held_drew (S := S) (by kernel_rfl) hSD (fun hHeld => ?_)
      apply wpAnyH_take (i := 0)
      · simp only [List.getElem?_toArray]; rfl
      · kernel_rfl
      · kernel_rfl
      · kernel_rfl
      · exact fun _ _ _ h => h
      · exact Or.inl ⟨by rfl, by intro w hSw; go_simp; try with_reducible rfl⟩
      · assumption
      try simp only [Act.put, List.setIfInBounds_toArray, List.set_cons_zero, List.set_cons_succ]
      apply wpAnyH_take (i := 1)
      · simp only [List.getElem?_toArray]; rfl
      · kernel_rfl
      · kernel_rfl
      · kernel_rfl
      · exact fun _ _ _ h => h
      · exact Or.inl ⟨by rfl, by intro w hSw; go_simp; try with_reducible rfl⟩
      · assumption
      try simp only [Act.put, List.setIfInBounds_toArray, List.set_cons_zero, List.set_cons_succ]
      apply wpAnyH_take (i := 2)
      · simp only [List.getElem?_toArray]; rfl
      · kernel_rfl
      · kernel_rfl
      · kernel_rfl
      · exact fun _ _ _ h => h
      · exact Or.inl ⟨by rfl, by intro w hSw; go_simp; try with_reducible rfl⟩
      · assumption
      try simp only [Act.put, List.setIfInBounds_toArray, List.set_cons_zero, List.set_cons_succ]
      apply wpAnyH_take (i := 3)
      · simp only [List.getElem?_toArray]; rfl
      · kernel_rfl
      · kernel_rfl
      · kernel_rfl
      · exact fun _ _ _ h => h
      · exact Or.inl ⟨by rfl, by intro w hSw; go_simp; try with_reducible rfl⟩
      · assumption
      try simp only [Act.put, List.setIfInBounds_toArray, List.set_cons_zero, List.set_cons_succ]
      apply wpAnyH_take (i := 4)
      · simp only [List.getElem?_toArray]; rfl
      · kernel_rfl
      · kernel_rfl
      · kernel_rfl
      · exact fun _ _ _ h => h
      · exact yields_ev_mid (by rfl) _ rfl B (k * 19) rfl HS2.out
      · assumption
      try simp only [Act.put, List.setIfInBounds_toArray, List.set_cons_zero, List.set_cons_succ]
      apply wpAnyH_take (i := 6)
      · simp only [List.getElem?_toArray]; rfl
      · kernel_rfl
      · kernel_rfl
      · kernel_rfl
      · exact fun _ _ _ h => h
      · exact Or.inl ⟨by rfl, by intro w hSw; go_simp; try with_reducible rfl⟩
      · assumption
      try simp only [Act.put, List.setIfInBounds_toArray, List.set_cons_zero, List.set_cons_succ]
      apply wpAnyH_take (i := 7)
      · simp only [List.getElem?_toArray]; rfl
      · kernel_rfl
      · kernel_rfl
      · kernel_rfl
      · exact fun _ _ _ h => h
      · exact Or.inl ⟨by rfl, by intro w hSw; go_simp; try with_reducible rfl⟩
      · assumption
      try simp only [Act.put, List.setIfInBounds_toArray, List.set_cons_zero, List.set_cons_succ]
      apply wpAnyH_take (i := 8)
      · simp only [List.getElem?_toArray]; rfl
      · kernel_rfl
      · kernel_rfl
      · kernel_rfl
      · exact fun _ _ _ h => h
      · exact Or.inl ⟨by rfl, by intro w hSw; go_simp; try with_reducible rfl⟩
      · assumption
      try simp only [Act.put, List.setIfInBounds_toArray, List.set_cons_zero, List.set_cons_succ]
      apply wpAnyH_take (i := 9)
      · simp only [List.getElem?_toArray]; rfl
      · kernel_rfl
      · kernel_rfl
      · kernel_rfl
      · exact fun _ _ _ h => h
      · exact Or.inl ⟨by rfl, by intro w hSw; have q0 := hs1 w hSw; go_simp; try with_reducible rfl⟩
      · assumption
      try simp only [Act.put, List.setIfInBounds_toArray, List.set_cons_zero, List.set_cons_succ]
      apply wpAnyH_ready (rs := [5])
      · kernel_rfl
      · simp
      apply AllReadyH.cons (hs := AllReadyH.nil)
      · simp only [List.getElem?_toArray]; rfl
      intro K hK
      rw [if_pos (by rfl)]
      go_simp
      refine (HST.out wr.drew (Keeps.refl _ _).drew).mono ?_; rintro e w3' ⟨rfl, n', O', hn', ha', hk'⟩
      have HA' := Lib.hid ha'
      have HK' := Lib.hid (HKV.out.drew.step hk' (fun q hq => hq))
      have t1 : (E != E) = false := by simp
      go_wp2_with fail
      refine hK.out _ _ ?_ (fun hHeld => ?_)
      · exact (by rw [HSE.out]; exact HK'.out)
      clear hK K
      try simp only [Act.put, List.setIfInBounds_toArray, List.set_cons_zero, List.set_cons_succ]
      apply wpAnyH_take (i := 10)
      · simp only [List.getElem?_toArray]; rfl
      · kernel_rfl
      · kernel_rfl
      · kernel_rfl
      · exact fun _ _ _ h => h
      · exact Or.inl ⟨by rfl, by intro w hSw; go_simp; try with_reducible rfl⟩
      · assumption
      try simp only [Act.put, List.setIfInBounds_toArray, List.set_cons_zero, List.set_cons_succ]
      clear hs1 HS2 hSD ha' hk'
      refine wpAnyH_done (by kernel_rfl) ?_ _
      refine NoPanic.normal ?_
      go_wp2_with fail
      go_roundw
      case rel => exact ⟨k + 1, n', O', rfl, by go_num, by omega, by omega, HA'.out, HK'.out⟩
      case measure => simp [intOf]; omega
    · obtain rfl : k = 9 := by omega
      have hall : hAll opChk mayOf [cfgE 0] (kLoop.take 9) = kL2 := by rw [show kLoop.take 9 = kLoop from rfl]; exact kLoop_all
      rw [hall] at HA
      clear hall HOK0 HB1 HB2 HKV hlt hpB hmB
      go_wp2_with fail
      refine (hOpenH_any (HA.out.is 0 (by simp))).mono ?_; rintro e x1 ⟨rfl, hw⟩
      rw [hw, show hOpenN (([⟨A, p, m, n, O, kL2⟩] : List Aid)[0]).L = 0 from k_open2]
      clear hw
      go_wp2_with fail
      refine (hLastH_any (HA.out.is 0 (by simp))).mono ?_; rintro e x2 ⟨rfl, hw⟩
      rw [hw, show hMax (([⟨A, p, m, n, O, kL2⟩] : List Aid)[0]).L.tail = 6 from k_last2]
      clear hw
      go_wp2_with fail
      refine (HI.out _ _ _ _ _).mono ?_; rintro e x3 ⟨rfl, hk3⟩
      replace HA := Lib.hid (HA.out.new hk3)
      clear hk3
      go_wp2_with fail
      refine (KA.call HA.out HG.out kOk2 (by omega) (invE 1 7 1 0) (invE_in _ _ _ _ (by decide) (by decide) (by decide) (by decide)) _ _ (nil_at rfl rfl) k_e4 k_n4).mono ?_; rintro e x4 ⟨rfl, n9, O9, hn9, ha⟩
      replace HA := Lib.hid ha.1
      clear ha
      go_wp2_with fail
      refine (hOpenH_any (HA.out.is 0 (by simp))).mono ?_; rintro e x5 ⟨rfl, hw⟩
      rw [hw, show hOpenN (([⟨A, p, m, n9, O9, kL2 ++ [invE 1 7 1 0]⟩] : List Aid)[0]).L = 1 from k_open3]
      clear hw
      have HKX := Lib.hid HA.out.kp
      clear HA
      have hz1 := heap_alloc_lt (o := .cells #[.bool false, .int .u8 0, .int .u16 0] 52) (heap_alloc_new x4 (.cells #[.bool false, .int .u8 0, .int .u16 0] 52))
      have hz2 := heap_alloc_new (x4.alloc (.cells #[.bool false, .int .u8 0, .int .u16 0] 52)) (.cells #[.bool false, .int .u8 0, .int .u16 0] 52)
      have hzs : (x4.alloc (.cells #[.bool false, .int .u8 0, .int .u16 0] 52)).heap.size = x4.heap.size + 1 := by simp
      rw [hzs] at hz2
      have HZ1 := Lib.hid hz1; have HZ2 := Lib.hid hz2
      have HKZ := Lib.hid (((Keeps.refl [] x4).alloc (.cells #[.bool false, .int .u8 0, .int .u16 0] 52)).alloc (.cells #[.bool false, .int .u8 0, .int .u16 0] 52))
      clear hz1 hz2 hzs
      go_wp2_with (refine wpList_put_mic kPut rfl rfl rfl rfl HZ1.out rfl ?_)
      intro W5 h5 k5
      have HK5 := Lib.hid (HKZ.out.trans k5 (fun q hq => .inr (by simp at hq; omega)))
      have HZ3 := Lib.hid (k5.heap HZ2.out (by simp))
      have H5 := Lib.hid h5
      clear h5 k5 HZ1 HZ2 HKZ
      generalize hP5 : x4.heap.size = P5 at *
      have HSZ := Lib.hid (Nat.le_of_eq hP5)
      clear hP5
      go_wp2_with (refine wpList_put_mic kGet rfl rfl rfl rfl HZ3.out rfl ?_)
      intro W6 h6 k6
      have HK6 := Lib.hid (HK5.out.trans k6 (fun q hq => .inr (by simp at hq; rw [hq]; have := HSZ.out; omega)))
      have H56 := Lib.hid (k6.heap H5.out (by simp))
      have H6 := Lib.hid h6
      clear h6 k6 HZ3 H5 HK5
      have HKA := Lib.hid ((Keeps.refl [] W6).alloc (.cells zeroEv 42))
      go_wp2_with (first | ((with_reducible apply wpList_put_ev); exact rfl; exact rfl; (first | assumption | (refine heap_alloc_lt ?_; assumption) | (refine heap_alloc_lt (heap_alloc_lt ?_); assumption) | exact heap_alloc_at (by simp)); exact ⟨rfl, rfl⟩; exact rfl))
      intro W7 h7 k7
      have hq7 : Keeps [] W6 W7 := HKA.out.trans k7 (fun q hq => .inr (by simp at hq; omega))
      have HK7 := Lib.hid (HK6.out.trans hq7 (FSub.refl _ _))
      have H57 := Lib.hid (hq7.heap H56.out (by simp)); have H67 := Lib.hid (hq7.heap H6.out (by simp))
      have H7 := Lib.hid (show W7.heap[W6.heap.size]? = some (.cells (evC kCommit (.slice none 0 0) (.slice none 0 0)) 42 (0, 0)) from h7)
      have HL7 := Lib.hid (lt_of_block h7)
      clear h7 k7 hq7 HKA H56 H6
      generalize W6.heap.size = P7 at *
      have hka := (Keeps.refl [] W7).alloc (.cells #[.slice none 0 0] 66)
      have hnw := heap_alloc_new W7 (.cells #[.slice none 0 0] 66)
      have HKL := Lib.hid hka; have HNW := Lib.hid hnw
      have HKA := Lib.hid (hka.alloc (.cells zeroEv 42))
      clear hka hnw
      go_wp2_with (first | ((with_reducible apply wpList_put_ev); exact rfl; exact rfl; (first | assumption | (refine heap_alloc_lt ?_; assumption) | (refine heap_alloc_lt (heap_alloc_lt ?_); assumption) | exact heap_alloc_at (by simp)); exact ⟨rfl, rfl⟩; exact rfl))
      intro W8 h8 k8
      have hq8 : Keeps [] W7 W8 := HKA.out.trans k8 (fun q hq => .inr (by simp at hq; omega))
      have hk7w : Keeps [] w W7 := HKX.out.trans HK7.out (FSub.refl _ _)
      have HK8 := Lib.hid (hk7w.trans hq8 (FSub.refl _ _))
      have H58 := Lib.hid (hq8.heap H57.out (by simp)); have H68 := Lib.hid (hq8.heap H67.out (by simp)); have H78 := Lib.hid (hq8.heap H7.out (by simp))
      have hnw8 : W8.heap[W7.heap.size]? = some (.cells #[.slice none 0 0] 66 (0, 0)) := k8.heap (heap_alloc_lt HNW.out) (by simp)
      have HFA := Lib.hid (show EvAt W8.heap.size W8 (.slice none 0 0) (.slice (some ⟨W7.heap.size, 0, none⟩) 1 1) kFull from
        ⟨Mics.nil _ _, ⟨some ⟨W7.heap.size, 0, none⟩, 1, rfl, by decide, by decide, fun _ => ⟨W7.heap.size, 0, rfl, lt_of_block hnw8, fun j hj => by
          have hj0 : j = 0 := by have : j < 1 := hj; omega
          subst hj0
          exact ⟨.slice none 0 0, cell_lit hnw8 0 rfl, ⟨none, 0, rfl, Nat.le_refl _, by decide, fun h => absurd rfl h⟩⟩⟩⟩⟩)
      have H88 := Lib.hid (show W8.heap[W7.heap.size + 1]? = some (.cells (evC kFull (.slice none 0 0) (.slice (some ⟨W7.heap.size, 0, none⟩) 1 1)) 42 (0, 0)) from h8)
      clear h8 k8 hq8 hk7w hnw8 HKA HKL HNW H57 H67 H7 HL7 HKX HK7 HK6
      generalize hRV : Value.slice (some ⟨W7.heap.size, 0, none⟩) 1 1 = RV at *
      generalize W7.heap.size + 1 = P8 at *
      clear hRV
      go_wp2_with fail
      generalize ha0 : ({ tmps := _, defers := _ } : Act) = a0
      have hb : 130 ≤ a0.tmps.size := by rw [← ha0]; show 130 ≤ 199; decide
      have q5 : a0.tmps[5]? = some (.pointer (some ⟨P5, 0, none⟩)) := by rw [← ha0]; rfl
      have q6 : a0.tmps[6]? = some (.pointer (some ⟨P5 + 1, 0, none⟩)) := by rw [← ha0]; rfl
      have q7 : a0.tmps[7]? = some (.pointer (some ⟨P7, 0, none⟩)) := by rw [← ha0]; rfl
      have q8 : a0.tmps[8]? = some (.pointer (some ⟨P8, 0, none⟩)) := by rw [← ha0]; rfl
      refine wp_region_inv (fun l a w' => I16 W8 a0 l a w') (by kernel_rfl) (by kernel_rfl) ?_ ?_ ?_
      · exact ⟨rfl, rfl, fun _ _ => rfl, rfl, (Keeps.refl [] W8).drew, fun j hj hl => by exfalso; simp [Array.getD] at hl⟩
      · clear ha0
        intro l a wz hsz hI i o ho h0 hall
        have hi : i < 29 := (Array.getElem?_eq_some_iff.1 ho).1
        unfold wpOp
        simp only [ho]
        obtain rfl | rfl | rfl | rfl | rfl | rfl | rfl | rfl | rfl | rfl | rfl | rfl | rfl | rfl | rfl | rfl | rfl | rfl | rfl | rfl | rfl | rfl | rfl | rfl | rfl | rfl | rfl | rfl | rfl : i = 0 ∨ i = 1 ∨ i = 2 ∨ i = 3 ∨ i = 4 ∨ i = 5 ∨ i = 6 ∨ i = 7 ∨ i = 8 ∨ i = 9 ∨ i = 10 ∨ i = 11 ∨ i = 12 ∨ i = 13 ∨ i = 14 ∨ i = 15 ∨ i = 16 ∨ i = 17 ∨ i = 18 ∨ i = 19 ∨ i = 20 ∨ i = 21 ∨ i = 22 ∨ i = 23 ∨ i = 24 ∨ i = 25 ∨ i = 26 ∨ i = 27 ∨ i = 28 := by omega
        · obtain rfl := Option.some.inj ho
          rw [if_pos (wanted_free rfl)]
          refine .inl ?_
          refine wp_call7 17 _ _ rfl [.int .u8 4] rfl Tryz.func17 (by kernel_rfl) (by kernel_rfl) ((config7_any wz 4).mono ?_)
          rintro e w' ⟨rfl, hk⟩
          exact ⟨_, rfl, hI.step hb 0 (by decide) hk (show EvIs w' (cfgE 4) _ from ⟨_, _, rfl, nil_at rfl rfl⟩) rfl⟩
        · obtain rfl := Option.some.inj ho
          rw [if_pos (wanted_free rfl)]
          refine .inl ?_
          refine wp_load_mid 52 _ rfl P5 0 (eval_at ((hI.out 5 (.inl (by decide))).trans q5)) (micC kPut).toList _ (fun i u hi => ?_) Tryz.underlying52 rfl (by kernel_rfl) ?_
          · have hb2 := hI.kp.heap H58.out (by simp)
            simp only [World.cell?, hb2, Nat.zero_add]
            simpa using hi
          · exact hI.step hb 1 (by decide) (Keeps.refl _ _) (show Good16 wz 1 (.agg (micC kPut)) from rfl) rfl
        · obtain rfl := Option.some.inj ho
          rw [if_pos (wanted_free rfl)]
          refine .inl ?_
          refine wp_load_mid 52 _ rfl (P5 + 1) 0 (eval_at ((hI.out 6 (.inl (by decide))).trans q6)) (micC kGet).toList _ (fun i u hi => ?_) Tryz.underlying52 rfl (by kernel_rfl) ?_
          · have hb2 := hI.kp.heap H68.out (by simp)
            simp only [World.cell?, hb2, Nat.zero_add]
            simpa using hi
          · exact hI.step hb 2 (by decide) (Keeps.refl _ _) (show Good16 wz 2 (.agg (micC kGet)) from rfl) rfl
        · obtain rfl := Option.some.inj ho
          rw [if_pos (wanted_free rfl)]
          refine .inl ?_
          obtain ⟨v1, h1, g1⟩ := hI.vl 1 (by decide) (hall { on := 1, ground := Ground.data } (by simp) rfl)
          have e1 := eval_at h1
          obtain ⟨v2, h2, g2⟩ := hI.vl 2 (by decide) (hall { on := 2, ground := Ground.data } (by simp) rfl)
          have e2 := eval_at h2
          have z1 : v1 = .agg (micC kPut) := g1
          rw [z1] at e1
          have z2 : v2 = .agg (micC kGet) := g2
          rw [z2] at e2
          refine wp_build_mics 2 _ rfl [kPut, kGet] rfl (by decide) (by decide) (by show [(0, a.eval (.tmp 102)), (1, a.eval (.tmp 103))] = _; rw [e1, e2]; rfl) ?_
          exact hI.step hb 3 (by decide) ((Keeps.refl [] wz).alloc _) (mics_lit (heap_alloc_new wz _) (by simp) (by decide)) rfl
        · obtain rfl := Option.some.inj ho
          rw [if_pos (wanted_free rfl)]
          refine .inl ?_
          obtain ⟨v3, h3, g3⟩ := hI.vl 3 (by decide) (hall { on := 3, ground := Ground.data } (by simp) rfl)
          have e3 := eval_at h3
          obtain ⟨ad, cp, hvs, hc1, hc2, hrow⟩ := (show Mics wz.heap.size wz v3 [kPut, kGet] from g3)
          have hm0 : Mics wz.heap.size wz v3 [kPut, kGet] := g3
          rw [hvs] at e3 hm0
          refine wp_call7 18 _ _ rfl [.int .u8 0, .int .u16 1, .slice ad [kPut, kGet].length cp] (by show [a.eval (.const _), a.eval (.const _), a.eval (.tmp 104)] = _; rw [e3]; rfl) Tryz.func18 (by kernel_rfl) (by kernel_rfl) ((begin7_any wz 0 1 ad [kPut, kGet].length cp [kPut, kGet]).mono ?_)
          rintro e w' ⟨rfl, hk⟩
          exact ⟨_, rfl, hI.step hb 4 (by decide) hk (show EvIs w' (begE 0 1 [kPut, kGet]) _ from ⟨_, _, rfl, ((hm0.new hk (Nat.le_refl _)).up7 hk.size), Lists.nil _ _⟩) rfl⟩
        · obtain rfl := Option.some.inj ho
          rw [if_pos (wanted_free rfl)]
          refine .inl ?_
          refine wp_load_mid 52 _ rfl P5 0 (eval_at ((hI.out 5 (.inl (by decide))).trans q5)) (micC kPut).toList _ (fun i u hi => ?_) Tryz.underlying52 rfl (by kernel_rfl) ?_
          · have hb2 := hI.kp.heap H58.out (by simp)
            simp only [World.cell?, hb2, Nat.zero_add]
            simpa using hi
          · exact hI.step hb 5 (by decide) (Keeps.refl _ _) (show Good16 wz 5 (.agg (micC kPut)) from rfl) rfl
        · obtain rfl := Option.some.inj ho
          rw [if_pos (wanted_free rfl)]
          refine .inl ?_
          refine wp_load_mid 52 _ rfl P5 0 (eval_at ((hI.out 5 (.inl (by decide))).trans q5)) (micC kPut).toList _ (fun i u hi => ?_) Tryz.underlying52 rfl (by kernel_rfl) ?_
          · have hb2 := hI.kp.heap H58.out (by simp)
            simp only [World.cell?, hb2, Nat.zero_add]
            simpa using hi
          · exact hI.step hb 6 (by decide) (Keeps.refl _ _) (show Good16 wz 6 (.agg (micC kPut)) from rfl) rfl
        · obtain rfl := Option.some.inj ho
          rw [if_pos (wanted_free rfl)]
          refine .inl ?_
          obtain ⟨v5, h5, g5⟩ := hI.vl 5 (by decide) (hall { on := 5, ground := Ground.data } (by simp) rfl)
          have e5 := eval_at h5
          obtain ⟨v6, h6, g6⟩ := hI.vl 6 (by decide) (hall { on := 6, ground := Ground.data } (by simp) rfl)
          have e6 := eval_at h6
          have z5 : v5 = .agg (micC kPut) := g5
          rw [z5] at e5
          have z6 : v6 = .agg (micC kPut) := g6
          rw [z6] at e6
          refine wp_build_mics 2 _ rfl [kPut, kPut] rfl (by decide) (by decide) (by show [(0, a.eval (.tmp 106)), (1, a.eval (.tmp 107))] = _; rw [e5, e6]; rfl) ?_
          exact hI.step hb 7 (by decide) ((Keeps.refl [] wz).alloc _) (mics_lit (heap_alloc_new wz _) (by simp) (by decide)) rfl
        · obtain rfl := Option.some.inj ho
          rw [if_pos (wanted_free rfl)]
          refine .inl ?_
          obtain ⟨v7, h7, g7⟩ := hI.vl 7 (by decide) (hall { on := 7, ground := Ground.data } (by simp) rfl)
          have e7 := eval_at h7
          obtain ⟨ad, cp, hvs, hc1, hc2, hrow⟩ := (show Mics wz.heap.size wz v7 [kPut, kPut] from g7)
          have hm0 : Mics wz.heap.size wz v7 [kPut, kPut] := g7
          rw [hvs] at e7 hm0
          refine wp_call7 18 _ _ rfl [.int .u8 0, .int .u16 1, .slice ad [kPut, kPut].length cp] (by show [a.eval (.const _), a.eval (.const _), a.eval (.tmp 108)] = _; rw [e7]; rfl) Tryz.func18 (by kernel_rfl) (by kernel_rfl) ((begin7_any wz 0 1 ad [kPut, kPut].length cp [kPut, kPut]).mono ?_)
          rintro e w' ⟨rfl, hk⟩
          exact ⟨_, rfl, hI.step hb 8 (by decide) hk (show EvIs w' (begE 0 1 [kPut, kPut]) _ from ⟨_, _, rfl, ((hm0.new hk (Nat.le_refl _)).up7 hk.size), Lists.nil _ _⟩) rfl⟩
        · obtain rfl := Option.some.inj ho
          rw [if_pos (wanted_free rfl)]
          refine .inl ?_
          refine wp_load_mid 52 _ rfl (P5 + 1) 0 (eval_at ((hI.out 6 (.inl (by decide))).trans q6)) (micC kGet).toList _ (fun i u hi => ?_) Tryz.underlying52 rfl (by kernel_rfl) ?_
          · have hb2 := hI.kp.heap H68.out (by simp)
            simp only [World.cell?, hb2, Nat.zero_add]
            simpa using hi
          · exact hI.step hb 9 (by decide) (Keeps.refl _ _) (show Good16 wz 9 (.agg (micC kGet)) from rfl) rfl
        · obtain rfl := Option.some.inj ho
          rw [if_pos (wanted_free rfl)]
          refine .inl ?_
          refine wp_load_mid 52 _ rfl P5 0 (eval_at ((hI.out 5 (.inl (by decide))).trans q5)) (micC kPut).toList _ (fun i u hi => ?_) Tryz.underlying52 rfl (by kernel_rfl) ?_
          · have hb2 := hI.kp.heap H58.out (by simp)
            simp only [World.cell?, hb2, Nat.zero_add]
            simpa using hi
          · exact hI.step hb 10 (by decide) (Keeps.refl _ _) (show Good16 wz 10 (.agg (micC kPut)) from rfl) rfl
        · obtain rfl := Option.some.inj ho
          rw [if_pos (wanted_free rfl)]
          refine .inl ?_
          obtain ⟨v9, h9, g9⟩ := hI.vl 9 (by decide) (hall { on := 9, ground := Ground.data } (by simp) rfl)
          have e9 := eval_at h9
          obtain ⟨v10, h10, g10⟩ := hI.vl 10 (by decide) (hall { on := 10, ground := Ground.data } (by simp) rfl)
          have e10 := eval_at h10
          have z9 : v9 = .agg (micC kGet) := g9
          rw [z9] at e9
          have z10 : v10 = .agg (micC kPut) := g10
          rw [z10] at e10
          refine wp_build_mics 2 _ rfl [kGet, kPut] rfl (by decide) (by decide) (by show [(0, a.eval (.tmp 110)), (1, a.eval (.tmp 111))] = _; rw [e9, e10]; rfl) ?_
          exact hI.step hb 11 (by decide) ((Keeps.refl [] wz).alloc _) (mics_lit (heap_alloc_new wz _) (by simp) (by decide)) rfl
        · obtain rfl := Option.some.inj ho
          rw [if_pos (wanted_free rfl)]
          refine .inl ?_
          obtain ⟨v11, h11, g11⟩ := hI.vl 11 (by decide) (hall { on := 11, ground := Ground.data } (by simp) rfl)
          have e11 := eval_at h11
          obtain ⟨ad, cp, hvs, hc1, hc2, hrow⟩ := (show Mics wz.heap.size wz v11 [kGet, kPut] from g11)
          have hm0 : Mics wz.heap.size wz v11 [kGet, kPut] := g11
          rw [hvs] at e11 hm0
          refine wp_call7 18 _ _ rfl [.int .u8 0, .int .u16 1, .slice ad [kGet, kPut].length cp] (by show [a.eval (.const _), a.eval (.const _), a.eval (.tmp 112)] = _; rw [e11]; rfl) Tryz.func18 (by kernel_rfl) (by kernel_rfl) ((begin7_any wz 0 1 ad [kGet, kPut].length cp [kGet, kPut]).mono ?_)
          rintro e w' ⟨rfl, hk⟩
          exact ⟨_, rfl, hI.step hb 12 (by decide) hk (show EvIs w' (begE 0 1 [kGet, kPut]) _ from ⟨_, _, rfl, ((hm0.new hk (Nat.le_refl _)).up7 hk.size), Lists.nil _ _⟩) rfl⟩
        · obtain rfl := Option.some.inj ho
          rw [if_pos (wanted_free rfl)]
          refine .inl ?_
          refine wp_load_mid 52 _ rfl P5 0 (eval_at ((hI.out 5 (.inl (by decide))).trans q5)) (micC kPut).toList _ (fun i u hi => ?_) Tryz.underlying52 rfl (by kernel_rfl) ?_
          · have hb2 := hI.kp.heap H58.out (by simp)
            simp only [World.cell?, hb2, Nat.zero_add]
            simpa using hi
          · exact hI.step hb 13 (by decide) (Keeps.refl _ _) (show Good16 wz 13 (.agg (micC kPut)) from rfl) rfl
        · obtain rfl := Option.some.inj ho
          rw [if_pos (wanted_free rfl)]
          refine .inl ?_
          obtain ⟨v13, h13, g13⟩ := hI.vl 13 (by decide) (hall { on := 13, ground := Ground.data } (by simp) rfl)
          have e13 := eval_at h13
          have z13 : v13 = .agg (micC kPut) := g13
          rw [z13] at e13
          refine wp_build_mics 1 _ rfl [kPut] rfl (by decide) (by decide) (by show [(0, a.eval (.tmp 114))] = _; rw [e13]; rfl) ?_
          exact hI.step hb 14 (by decide) ((Keeps.refl [] wz).alloc _) (mics_lit (heap_alloc_new wz _) (by simp) (by decide)) rfl
        · obtain rfl := Option.some.inj ho
          rw [if_pos (wanted_free rfl)]
          refine .inl ?_
          obtain ⟨v14, h14, g14⟩ := hI.vl 14 (by decide) (hall { on := 14, ground := Ground.data } (by simp) rfl)
          have e14 := eval_at h14
          obtain ⟨ad, cp, hvs, hc1, hc2, hrow⟩ := (show Mics wz.heap.size wz v14 [kPut] from g14)
          have hm0 : Mics wz.heap.size wz v14 [kPut] := g14
          rw [hvs] at e14 hm0
          refine wp_call7 18 _ _ rfl [.int .u8 1, .int .u16 2, .slice ad [kPut].length cp] (by show [a.eval (.const _), a.eval (.const _), a.eval (.tmp 115)] = _; rw [e14]; rfl) Tryz.func18 (by kernel_rfl) (by kernel_rfl) ((begin7_any wz 1 2 ad [kPut].length cp [kPut]).mono ?_)
          rintro e w' ⟨rfl, hk⟩
          exact ⟨_, rfl, hI.step hb 15 (by decide) hk (show EvIs w' (begE 1 2 [kPut]) _ from ⟨_, _, rfl, ((hm0.new hk (Nat.le_refl _)).up7 hk.size), Lists.nil _ _⟩) rfl⟩
        · obtain rfl := Option.some.inj ho
          rw [if_pos (wanted_free rfl)]
          refine .inl ?_
          refine wp_load_row 42 _ rfl P7 (eval_at ((hI.out 7 (.inl (by decide))).trans q7)) 42 (evC kCommit (.slice none 0 0) (.slice none 0 0)) (0, 0) _ (hI.kp.heap H78.out (by simp)) Tryz.underlying42 rfl (by kernel_rfl) ?_
          exact hI.step hb 16 (by decide) (Keeps.refl _ _) (show EvIs wz kCommit _ from ⟨_, _, rfl, nil_at rfl rfl⟩) rfl
        · obtain rfl := Option.some.inj ho
          rw [if_pos (wanted_free rfl)]
          refine .inl ?_
          refine wp_load_row 42 _ rfl P8 (eval_at ((hI.out 8 (.inl (by decide))).trans q8)) 42 (evC kFull (.slice none 0 0) RV) (0, 0) _ (hI.kp.heap H88.out (by simp)) Tryz.underlying42 rfl (by kernel_rfl) ?_
          exact hI.step hb 17 (by decide) (Keeps.refl _ _) (show EvIs wz kFull _ from ⟨_, _, rfl, (HFA.out.new hI.kp (Nat.le_refl _)).up7 hI.kp.size⟩) rfl
        · obtain rfl := Option.some.inj ho
          rw [if_pos (wanted_free rfl)]
          refine .inl ?_
          refine wp_load_mid 52 _ rfl (P5 + 1) 0 (eval_at ((hI.out 6 (.inl (by decide))).trans q6)) (micC kGet).toList _ (fun i u hi => ?_) Tryz.underlying52 rfl (by kernel_rfl) ?_
          · have hb2 := hI.kp.heap H68.out (by simp)
            simp only [World.cell?, hb2, Nat.zero_add]
            simpa using hi
          · exact hI.step hb 18 (by decide) (Keeps.refl _ _) (show Good16 wz 18 (.agg (micC kGet)) from rfl) rfl
        · obtain rfl := Option.some.inj ho
          rw [if_pos (wanted_free rfl)]
          refine .inl ?_
          refine wp_load_mid 52 _ rfl (P5 + 1) 0 (eval_at ((hI.out 6 (.inl (by decide))).trans q6)) (micC kGet).toList _ (fun i u hi => ?_) Tryz.underlying52 rfl (by kernel_rfl) ?_
          · have hb2 := hI.kp.heap H68.out (by simp)
            simp only [World.cell?, hb2, Nat.zero_add]
            simpa using hi
          · exact hI.step hb 19 (by decide) (Keeps.refl _ _) (show Good16 wz 19 (.agg (micC kGet)) from rfl) rfl
        · obtain rfl := Option.some.inj ho
          rw [if_pos (wanted_free rfl)]
          refine .inl ?_
          obtain ⟨v18, h18, g18⟩ := hI.vl 18 (by decide) (hall { on := 18, ground := Ground.data } (by simp) rfl)
          have e18 := eval_at h18
          obtain ⟨v19, h19, g19⟩ := hI.vl 19 (by decide) (hall { on := 19, ground := Ground.data } (by simp) rfl)
          have e19 := eval_at h19
          have z18 : v18 = .agg (micC kGet) := g18
          rw [z18] at e18
          have z19 : v19 = .agg (micC kGet) := g19
          rw [z19] at e19
          refine wp_build_mics 2 _ rfl [kGet, kGet] rfl (by decide) (by decide) (by show [(0, a.eval (.tmp 119)), (1, a.eval (.tmp 120))] = _; rw [e18, e19]; rfl) ?_
          exact hI.step hb 20 (by decide) ((Keeps.refl [] wz).alloc _) (mics_lit (heap_alloc_new wz _) (by simp) (by decide)) rfl
        · obtain rfl := Option.some.inj ho
          rw [if_pos (wanted_free rfl)]
          refine .inl ?_
          obtain ⟨v20, h20, g20⟩ := hI.vl 20 (by decide) (hall { on := 20, ground := Ground.data } (by simp) rfl)
          have e20 := eval_at h20
          obtain ⟨ad, cp, hvs, hc1, hc2, hrow⟩ := (show Mics wz.heap.size wz v20 [kGet, kGet] from g20)
          have hm0 : Mics wz.heap.size wz v20 [kGet, kGet] := g20
          rw [hvs] at e20 hm0
          refine wp_call7 18 _ _ rfl [.int .u8 1, .int .u16 2, .slice ad [kGet, kGet].length cp] (by show [a.eval (.const _), a.eval (.const _), a.eval (.tmp 121)] = _; rw [e20]; rfl) Tryz.func18 (by kernel_rfl) (by kernel_rfl) ((begin7_any wz 1 2 ad [kGet, kGet].length cp [kGet, kGet]).mono ?_)
          rintro e w' ⟨rfl, hk⟩
          exact ⟨_, rfl, hI.step hb 21 (by decide) hk (show EvIs w' (begE 1 2 [kGet, kGet]) _ from ⟨_, _, rfl, ((hm0.new hk (Nat.le_refl _)).up7 hk.size), Lists.nil _ _⟩) rfl⟩
        · obtain rfl := Option.some.inj ho
          rw [if_pos (wanted_free rfl)]
          refine .inl ?_
          refine wp_call7 20 _ _ rfl [.int .u8 7, .int .u8 1, .int .u16 2] rfl Tryz.func20 (by kernel_rfl) (by kernel_rfl) ((plain7_any wz 7 1 2).mono ?_)
          rintro e w' ⟨rfl, hk⟩
          exact ⟨_, rfl, hI.step hb 22 (by decide) hk (show EvIs w' (plainE 7 1 2) _ from ⟨_, _, rfl, nil_at rfl rfl⟩) rfl⟩
        · obtain rfl := Option.some.inj ho
          rw [if_pos (wanted_free rfl)]
          refine .inl ?_
          refine wp_call7 20 _ _ rfl [.int .u8 7, .int .u8 1, .int .u16 2] rfl Tryz.func20 (by kernel_rfl) (by kernel_rfl) ((plain7_any wz 7 1 2).mono ?_)
          rintro e w' ⟨rfl, hk⟩
          exact ⟨_, rfl, hI.step hb 23 (by decide) hk (show EvIs w' (plainE 7 1 2) _ from ⟨_, _, rfl, nil_at rfl rfl⟩) rfl⟩
        · obtain rfl := Option.some.inj ho
          rw [if_pos (wanted_free rfl)]
          refine .inl ?_
          refine wp_call7 16 _ _ rfl [.int .u8 0, .int .u16 9, .int .u8 1, .int .u16 0] rfl Tryz.func16 (by kernel_rfl) (by kernel_rfl) ((invoke7_any wz 0 9 1 0).mono ?_)
          rintro e w' ⟨rfl, hk⟩
          exact ⟨_, rfl, hI.step hb 24 (by decide) hk (show EvIs w' (invE 0 9 1 0) _ from ⟨_, _, rfl, nil_at rfl rfl⟩) rfl⟩
        · obtain rfl := Option.some.inj ho
          rw [if_pos (wanted_free rfl)]
          refine .inl ?_
          obtain ⟨v0, h0, g0⟩ := hI.vl 0 (by decide) (hall { on := 0, ground := Ground.data } (by simp) rfl)
          have e0 := eval_at h0
          obtain ⟨tx0, rd0, z0, at0⟩ := (show EvIs wz (cfgE 4) v0 from g0)
          rw [z0] at e0
          obtain ⟨v4, h4, g4⟩ := hI.vl 4 (by decide) (hall { on := 4, ground := Ground.data } (by simp) rfl)
          have e4 := eval_at h4
          obtain ⟨tx4, rd4, z4, at4⟩ := (show EvIs wz (begE 0 1 [kPut, kGet]) v4 from g4)
          rw [z4] at e4
          obtain ⟨v8, h8, g8⟩ := hI.vl 8 (by decide) (hall { on := 8, ground := Ground.data } (by simp) rfl)
          have e8 := eval_at h8
          obtain ⟨tx8, rd8, z8, at8⟩ := (show EvIs wz (begE 0 1 [kPut, kPut]) v8 from g8)
          rw [z8] at e8
          obtain ⟨v12, h12, g12⟩ := hI.vl 12 (by decide) (hall { on := 12, ground := Ground.data } (by simp) rfl)
          have e12 := eval_at h12
          obtain ⟨tx12, rd12, z12, at12⟩ := (show EvIs wz (begE 0 1 [kGet, kPut]) v12 from g12)
          rw [z12] at e12
          obtain ⟨v15, h15, g15⟩ := hI.vl 15 (by decide) (hall { on := 15, ground := Ground.data } (by simp) rfl)
          have e15 := eval_at h15
          obtain ⟨tx15, rd15, z15, at15⟩ := (show EvIs wz (begE 1 2 [kPut]) v15 from g15)
          rw [z15] at e15
          obtain ⟨v16, h16, g16⟩ := hI.vl 16 (by decide) (hall { on := 16, ground := Ground.data } (by simp) rfl)
          have e16 := eval_at h16
          obtain ⟨tx16, rd16, z16, at16⟩ := (show EvIs wz (kCommit) v16 from g16)
          rw [z16] at e16
          obtain ⟨v17, h17, g17⟩ := hI.vl 17 (by decide) (hall { on := 17, ground := Ground.data } (by simp) rfl)
          have e17 := eval_at h17
          obtain ⟨tx17, rd17, z17, at17⟩ := (show EvIs wz (kFull) v17 from g17)
          rw [z17] at e17
          obtain ⟨v21, h21, g21⟩ := hI.vl 21 (by decide) (hall { on := 21, ground := Ground.data } (by simp) rfl)
          have e21 := eval_at h21
          obtain ⟨tx21, rd21, z21, at21⟩ := (show EvIs wz (begE 1 2 [kGet, kGet]) v21 from g21)
          rw [z21] at e21
          obtain ⟨v22, h22, g22⟩ := hI.vl 22 (by decide) (hall { on := 22, ground := Ground.data } (by simp) rfl)
          have e22 := eval_at h22
          obtain ⟨tx22, rd22, z22, at22⟩ := (show EvIs wz (plainE 7 1 2) v22 from g22)
          rw [z22] at e22
          obtain ⟨v23, h23, g23⟩ := hI.vl 23 (by decide) (hall { on := 23, ground := Ground.data } (by simp) rfl)
          have e23 := eval_at h23
          obtain ⟨tx23, rd23, z23, at23⟩ := (show EvIs wz (plainE 7 1 2) v23 from g23)
          rw [z23] at e23
          obtain ⟨v24, h24, g24⟩ := hI.vl 24 (by decide) (hall { on := 24, ground := Ground.data } (by simp) rfl)
          have e24 := eval_at h24
          obtain ⟨tx24, rd24, z24, at24⟩ := (show EvIs wz (invE 0 9 1 0) v24 from g24)
          rw [z24] at e24
          refine wp_build_evl 11 _ rfl [(cfgE 4, tx0, rd0), (begE 0 1 [kPut, kGet], tx4, rd4), (begE 0 1 [kPut, kPut], tx8, rd8), (begE 0 1 [kGet, kPut], tx12, rd12), (begE 1 2 [kPut], tx15, rd15), (kCommit, tx16, rd16), (kFull, tx17, rd17), (begE 1 2 [kGet, kGet], tx21, rd21), (plainE 7 1 2, tx22, rd22), (plainE 7 1 2, tx23, rd23), (invE 0 9 1 0, tx24, rd24)] rfl (by decide) (by decide) (by show [(0, a.eval (.tmp 101)), (1, a.eval (.tmp 105)), (2, a.eval (.tmp 109)), (3, a.eval (.tmp 113)), (4, a.eval (.tmp 116)), (5, a.eval (.tmp 117)), (6, a.eval (.tmp 118)), (7, a.eval (.tmp 122)), (8, a.eval (.tmp 123)), (9, a.eval (.tmp 124)), (10, a.eval (.tmp 125))] = _; rw [e0, e4, e8, e12, e15, e16, e17, e21, e22, e23, e24]; rfl) ?_
          have hka := (Keeps.refl [] wz).alloc (.cells (evsC [(cfgE 4, tx0, rd0), (begE 0 1 [kPut, kGet], tx4, rd4), (begE 0 1 [kPut, kPut], tx8, rd8), (begE 0 1 [kGet, kPut], tx12, rd12), (begE 1 2 [kPut], tx15, rd15), (kCommit, tx16, rd16), (kFull, tx17, rd17), (begE 1 2 [kGet, kGet], tx21, rd21), (plainE 7 1 2, tx22, rd22), (plainE 7 1 2, tx23, rd23), (invE 0 9 1 0, tx24, rd24)]).toArray 42)
          refine hI.step hb 25 (by decide) hka (show Evs _ _ _ kTx from evs_lit (L := [(cfgE 4, tx0, rd0), (begE 0 1 [kPut, kGet], tx4, rd4), (begE 0 1 [kPut, kPut], tx8, rd8), (begE 0 1 [kGet, kPut], tx12, rd12), (begE 1 2 [kPut], tx15, rd15), (kCommit, tx16, rd16), (kFull, tx17, rd17), (begE 1 2 [kGet, kGet], tx21, rd21), (plainE 7 1 2, tx22, rd22), (plainE 7 1 2, tx23, rd23), (invE 0 9 1 0, tx24, rd24)]) (heap_alloc_new wz _) (by simp) (fun q hq => ?_) (by simp)) rfl
          simp only [List.mem_cons, List.not_mem_nil, or_false] at hq
          rcases hq with rfl | rfl | rfl | rfl | rfl | rfl | rfl | rfl | rfl | rfl | rfl
          · exact (at0.new hka (Nat.le_refl _)).up7 hka.size
          · exact (at4.new hka (Nat.le_refl _)).up7 hka.size
          · exact (at8.new hka (Nat.le_refl _)).up7 hka.size
          · exact (at12.new hka (Nat.le_refl _)).up7 hka.size
          · exact (at15.new hka (Nat.le_refl _)).up7 hka.size
          · exact (at16.new hka (Nat.le_refl _)).up7 hka.size
          · exact (at17.new hka (Nat.le_refl _)).up7 hka.size
          · exact (at21.new hka (Nat.le_refl _)).up7 hka.size
          · exact (at22.new hka (Nat.le_refl _)).up7 hka.size
          · exact (at23.new hka (Nat.le_refl _)).up7 hka.size
          · exact (at24.new hka (Nat.le_refl _)).up7 hka.size
        · obtain rfl := Option.some.inj ho
          rw [if_pos (wanted_free rfl)]
          refine .inl ?_
          refine wp_build_errs 11 _ rfl kTxW rfl (by decide) (by decide) rfl ?_
          exact hI.step hb 26 (by decide) ((Keeps.refl [] wz).alloc _) (show Errs _ _ _ kTxW from errs_lit (heap_alloc_new wz _) (by simp) (by decide)) rfl
        · obtain rfl := Option.some.inj ho
          rw [if_pos (wanted_free rfl)]
          refine .inl ?_
          obtain ⟨v25, h25, g25⟩ := hI.vl 25 (by decide) (hall { on := 25, ground := Ground.data } (by simp) rfl)
          have e25 := eval_at h25
          obtain ⟨v26, h26, g26⟩ := hI.vl 26 (by decide) (hall { on := 26, ground := Ground.data } (by simp) rfl)
          have e26 := eval_at h26
          have hev : Evs wz.heap.size wz v25 kTx := g25
          have her : Errs wz.heap.size wz v26 kTxW := g26
          refine wp_call7 22 _ _ rfl [v25, v26] (by show [a.eval (.tmp 126), a.eval (.tmp 127)] = _; rw [e25, e26]) Tryz.func22 (by kernel_rfl) (by kernel_rfl) ((steps7_any wz (HG.out.new (HK8.out.trans hI.kp (FSub.refl _ _))) kTx kTx_in (by decide) v25 v26 hev kTxW her (Nat.le_refl _) kTx_ans rfl).mono ?_)
          rintro e w' ⟨rfl, hk⟩
          exact ⟨_, rfl, hI.step hb 27 (by decide) hk (show Good16 w' 27 (.bool true) from rfl) rfl⟩
        · obtain rfl := Option.some.inj ho
          rw [if_pos (wanted_free rfl)]
          refine .inl ?_
          obtain ⟨v27, h27, g27⟩ := hI.vl 27 (by decide) (hall { on := 27, ground := Ground.data } (by simp) rfl)
          have e27 := eval_at h27
          have z27 : v27 = .bool true := g27
          rw [z27] at e27
          refine wp_not7 _ _ true rfl e27 ?_
          exact hI.step hb 28 (by decide) (Keeps.refl _ _) (show Good16 wz 28 (.bool false) from rfl) rfl
      · intro l a wz hsz hI hall
        obtain ⟨vs, hl, h28, ha⟩ := hI.slots hb (fun i hi => hall i hi)
        have HKZ := Lib.hid (HK8.out.trans hI.kp (FSub.refl _ _))
        clear hI hall hsz hb q5 q6 q7 q8 H58 H68 H78 H88 HFA
        subst ha
        subst ha0
        obtain ⟨y0, y1, y2, y3, y4, y5, y6, y7, y8, y9, y10, y11, y12, y13, y14, y15, y16, y17, y18, y19, y20, y21, y22, y23, y24, y25, y26, y27, y28, rfl⟩ := list29 hl
        obtain rfl : y28 = .bool false := by simpa using h28
        clear hl h28
        simp only [List.toList_toArray, List.take_succ_cons, List.take_zero, List.drop_succ_cons, List.drop_zero, List.cons_append, List.nil_append]
        generalize wz = Z at *
        go_wp2_with fail
        refine (HC.out _ _).mono ?_; rintro e z1 ⟨rfl, k1⟩
        go_wp2_with fail
        refine (HI.out _ _ _ _ _).mono ?_; rintro e z2 ⟨rfl, k2⟩
        go_wp2_with fail
        refine (HI.out _ _ _ _ _).mono ?_; rintro e z3 ⟨rfl, k3⟩
        have HK3 := Lib.hid (HKZ.out.trans ((k1.trans k2 (FSub.refl _ _)).trans k3 (FSub.refl _ _)) (FSub.refl _ _))
        clear k1 k2 k3 HKZ HI HR HP
        go_wp2_with (refine wpList_build_evl rfl 3 _ rfl (kLk.map nil3) rfl (by decide) (by decide) rfl ?_)
        have hka := (Keeps.refl [] z3).alloc (.cells (evsC (kLk.map nil3)).toArray 42)
        have hev : Evs (z3.alloc (.cells (evsC (kLk.map nil3)).toArray 42)).heap.size (z3.alloc (.cells (evsC (kLk.map nil3)).toArray 42)) (.slice (some ⟨z3.heap.size, 0, none⟩) (kLk.map nil3).length (kLk.map nil3).length) ((kLk.map nil3).map (·.1)) := evs_lit (heap_alloc_new z3 _) (by simp) (fun q hq => by
          obtain ⟨x, hx, rfl⟩ := List.mem_map.1 hq
          have hx2 : x.t = [] ∧ x.r = [] := by
            simp only [kLk, List.mem_cons, List.not_mem_nil, or_false] at hx
            rcases hx with rfl | rfl | rfl <;> exact ⟨rfl, rfl⟩
          exact nil3_at _ _ x hx2.1 hx2.2) (by decide)
        have hall := hAll_any _ (HG.out.new (HK3.out.trans hka (FSub.refl _ _))) kLk kLk_in (by decide) _ hev (Nat.le_refl _)
        rw [k_lk] at hall
        have HKA := Lib.hid (HK3.out.trans hka (FSub.refl _ _))
        clear hka hev
        generalize z3.alloc (.cells (evsC (kLk.map nil3)).toArray 42) = Z3 at *
        refine hall.mono ?_; rintro e z5 ⟨rfl, k5⟩
        have HK5 := Lib.hid (HKA.out.trans k5 (FSub.refl _ _))
        clear hall k5 HKA HK3
        have HZB := Lib.hid (heap_alloc_new z5 (.cells #[.pointer none] 58))
        have HKB := Lib.hid (HK5.out.trans ((Keeps.refl [] z5).alloc (.cells #[.pointer none] 58)) (FSub.refl _ _))
        go_wp2_with fail
        generalize z5.alloc (.cells #[.pointer none] 58) = Z5 at *
        generalize z5.heap.size = zb at *
        clear HK5
        refine (hConfig_none Z5).mono ?_; rintro e z6 ⟨rfl, k6⟩
        have HK6 := Lib.hid (HKB.out.trans k6 (FSub.refl _ _))
        have HZ6 := Lib.hid (k6.heap HZB.out (by simp))
        have HKC := Lib.hid ((Keeps.refl [] z6).alloc (.cells #[.int .u8 0, .int .i64 0, .int .i64 0, .int .i64 0, .bool false, .bool false, .bool false] 40))
        have HNW := Lib.hid (heap_alloc_new z6 (.cells #[.int .u8 0, .int .i64 0, .int .i64 0, .int .i64 0, .bool false, .bool false, .bool false] 40))
        clear k6 HKB HZB
        go_wp2_with (refine wpList_put_cfg1 cfgZero rfl rfl rfl rfl HNW.out rfl ?_)
        intro W9 h9 k9
        have hq9 : Keeps [] z6 W9 := HKC.out.trans k9 (fun q hq => .inr (by simp at hq; omega))
        have HK9 := Lib.hid (HK6.out.trans hq9 (FSub.refl _ _))
        have HZ9 := Lib.hid (hq9.heap HZ6.out (by simp))
        clear h9 k9 hq9 HKC HNW HK6 HZ6
        generalize z6.heap.size = C9 at *
        go_wp2_with fail
        refine (hPending_zero W9 zb (cell_lit HZ9.out 0 rfl) 0).mono ?_; rintro e z7 ⟨rfl, k7⟩
        have HK7 := Lib.hid (HK9.out.trans k7 (FSub.refl _ _))
        have HZ7 := Lib.hid (k7.heap HZ9.out (by simp))
        have HKE := Lib.hid ((Keeps.refl [] z7).alloc (.cells zeroEv 42))
        have x1' : (Value.slice none 0 0).oneCell' = true := rfl
        clear k7 HK9 HZ9
        go_wp2_with (first | ((with_reducible apply wpList_put_ev); exact rfl; exact rfl; (first | assumption | (refine heap_alloc_lt ?_; assumption) | (refine heap_alloc_lt (heap_alloc_lt ?_); assumption) | exact heap_alloc_at (by simp)); exact ⟨rfl, rfl⟩; (refine evC_one _ ?_ ?_ <;> first | rfl | assumption)))
        intro WA hA kA
        have hqA : Keeps [] z7 WA := HKE.out.trans kA (fun q hq => .inr (by simp at hq; omega))
        have HKA := Lib.hid (HK7.out.trans hqA (FSub.refl _ _))
        have HZA := Lib.hid (hqA.heap HZ7.out (by simp))
        clear hA kA hqA HKE HK7 HZ7 x1'
        generalize z7.heap.size = CA at *
        go_wp2_with fail
        refine (HC.out _ _).mono ?_; rintro e u1 ⟨rfl, k1⟩
        go_wp2_with fail
        refine (hStep_nil u1 _ _ _).mono ?_; rintro e u2 ⟨rfl, k2⟩
        have hk12 := k1.trans k2 (FSub.refl _ _)
        have HK2 := Lib.hid (HKA.out.trans hk12 (FSub.refl _ _))
        have HZ2 := Lib.hid (hk12.heap HZA.out (by simp))
        clear k1 k2 hk12 HKA HZA
        go_wp2_with fail
        refine (HC.out _ _).mono ?_; rintro e u3 ⟨rfl, k3⟩
        have hz3 := k3.heap HZ2.out (by simp)
        go_wp2_with fail
        refine (hStep_zero u3 zb (cell_lit hz3 0 rfl) _ _ _).mono ?_; rintro e u4 ⟨rfl, k4⟩
        have HK4 := Lib.hid (HK2.out.trans (k3.trans k4 (FSub.refl _ _)) (FSub.refl _ _))
        have HZ4 := Lib.hid (k4.heap hz3 (by simp))
        clear k3 k4 hz3 HK2 HZ2
        go_wp2_with fail
        refine (hOpen_none u4).mono ?_; rintro e u5 ⟨rfl, hw⟩
        rw [hw]
        clear hw
        go_wp2_with fail
        refine (hLast_zero u4 zb (cell_lit HZ4.out 0 rfl)).mono ?_; rintro e u5 ⟨rfl, hw⟩
        rw [hw]
        clear hw
        go_wp2_with fail
        refine (hCopy_none u4).mono ?_; rintro e u5 ⟨rfl, hw⟩
        rw [hw]
        clear hw
        go_wp2_with fail
        refine (hCopy_zero u4 zb (cell_lit HZ4.out 0 rfl)).mono ?_; rintro e u5 ⟨rfl, hw⟩
        rw [hw]
        clear hw
        go_wp2_with fail
        refine (awake7_any u4 (HG.out.new HK4.out)).mono ?_; rintro e u6 ⟨rfl, k6⟩
        have HK6 := Lib.hid (HK4.out.trans k6 (FSub.refl _ _))
        clear k6
        go_wp2_with fail
        go_ret
        exact ⟨rfl, HK6.out⟩
end Go.Proofs.YtlaccndjlfpjbaaGreatDoor
