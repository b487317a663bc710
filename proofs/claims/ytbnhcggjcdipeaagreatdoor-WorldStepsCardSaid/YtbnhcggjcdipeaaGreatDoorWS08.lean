/-
  Slices of 16 bits; appends of any slice; the document's queue: Same, Step.
-/
import Derived.Test.YtbnhcggjcdipeaaGreatDoorWS04
import Derived.Test.YtbnhcggjcdipeaaGreatDoorWS07
set_option linter.unusedSimpArgs false
set_option linter.unusedVariables false
namespace Go.Proofs.YtbnhcggjcdipeaaGreatDoor
open Go.RowKit
theorem Tryz.infoU16R : (Tryz.prog.info? 23).map (fun i => (i.zero, i.size, i.bytes)) = some (some (.int .u16 0), 1, 2) := by kernel_rfl
def u16C (x : Int) : List Value := [.int .u16 x]
/-- Numbers of 16 bits, side by side. -/
noncomputable def rkU : RK Int :=
  { T := 23, Sl := 78, s := 1, b := 2, cs := u16C, i := (info_parts Tryz.infoU16R).choose, z := .int .u16 0,
    len := fun _ => rfl, one := by intro x v hv; simp only [u16C, List.mem_cons, List.not_mem_nil, or_false] at hv; subst hv; rfl, s0 := by decide, b1 := by decide, und := Tryz.underlying78,
    hi := (info_parts Tryz.infoU16R).choose_spec.1, hz := (info_parts Tryz.infoU16R).choose_spec.2.1, hs := (info_parts Tryz.infoU16R).choose_spec.2.2.1, hb := (info_parts Tryz.infoU16R).choose_spec.2.2.2, hzs := rfl }
section
variable {α : Type}
theorem RK.In.more {R : RK α} {N M : Nat} {w : World} {v : Value} {L : List α} (h : R.In N w v L) (hM : N ≤ M) : R.In M w v L := by
  obtain ⟨a, c, rfl, hc, hm, h⟩ := h
  refine ⟨a, c, rfl, hc, hm, fun hn => ?_⟩
  obtain ⟨bk, o, rfl, hb, h'⟩ := h hn
  exact ⟨bk, o, rfl, by omega, h'⟩
theorem RK.In.keeps {R : RK α} {N : Nat} {w w' : World} {v : Value} {L : List α} {F : List Nat} (h : R.In N w v L) (hk : Keeps F w w') (hF : L ≠ [] → ∀ q ∈ own v, q ∉ F) : R.In N w' v L := by
  obtain ⟨a, c, rfl, hc, hm, h⟩ := h
  refine ⟨a, c, rfl, hc, hm, fun hn => ?_⟩
  obtain ⟨bk, o, rfl, hb, h'⟩ := h hn
  exact ⟨bk, o, rfl, hb, fun j hj i u hi => hk.cell (h' j hj i u hi) (hF hn bk (by simp [own, Value.ownBlock]))⟩
theorem RK.In.old {R : RK α} {N : Nat} {w : World} {v : Value} {L : List α} (h : R.In N w v L) (hn : L ≠ []) : ∀ q ∈ own v, q < N := by
  obtain ⟨a, c, rfl, hc, hm, h⟩ := h
  obtain ⟨bk, o, rfl, hb, h'⟩ := h hn
  intro q hq
  simp [own, Value.ownBlock] at hq
  omega
/-- Nothing is appended. -/
theorem RK.append0 (R : RK α) (w : World) (a b : Option Addr) (n c d : Nat) (hc : n ≤ c) : (Builtin.append_ #[R.Sl, R.Sl] R.Sl #[.slice a n c, .slice b 0 d]).run Tryz.prog w = .ok (.slice a n c) w := by
  have hsz := run_sizeOf (P := Tryz.prog) (w := w) R.hi
  have hlc : ∀ a : Addr, (loadCells a 0).run Tryz.prog w = .ok #[] w := fun a => by simp [loadCells, loadCellsFrom]
  have hsc : ∀ a : Addr, (storeCells a []).run Tryz.prog w = .ok () w := fun a => by simp [storeCells]
  cases a <;> cases b <;> simp [Builtin.append_, run_underlying R.und, hsz, Builtin.lenOf, Builtin.firstCells, hlc, hsc, hc, Result.andThen, Sem.run_bind]
theorem RK.row_cells (R : RK α) {w : World} {bk : Nat} : ∀ (M : List α) (o : Nat), (∀ j (h : j < M.length), w.rangeAt bk (o + j * R.s) (R.cs M[j])) → ∀ j u, (R.row M)[j]? = some u → w.cell? ⟨bk, o + j, none⟩ = some u
  | [], o, _, j, u, h => by simp [RK.row] at h
  | x :: r, o, H, j, u, h => by
    rw [show R.row (x :: r) = R.cs x ++ R.row r from rfl] at h
    by_cases hj : j < R.s
    · rw [List.getElem?_append_left (by rw [R.len]; exact hj)] at h
      have := H 0 (by simp) j u h
      simpa using this
    · rw [List.getElem?_append_right (by rw [R.len]; omega), R.len] at h
      have := R.row_cells r (o + R.s) (fun i hi => by
        have h2 := H (i + 1) (by simp; omega)
        rw [Nat.add_mul, Nat.one_mul] at h2
        rw [show o + R.s + i * R.s = o + (i * R.s + R.s) by omega]
        exact h2) (j - R.s) u h
      rw [show o + R.s + (j - R.s) = o + j by omega] at this
      exact this
/-- Any slice is appended. -/
theorem RK.appendIn (R : RK α) (w : World) (base : Nat) (hbase : base ≤ w.heap.size) (v : Value) (L : List α) (hrow : R.Own base w v L) {N : Nat} {u : Value} {M : List α} (hu : R.In N w u M) (hn : L.length + M.length ≤ 100000000) :
    ∃ v' w', (Builtin.append_ #[R.Sl, R.Sl] R.Sl #[v, u]).run Tryz.prog w = .ok v' w' ∧ R.Own base w' v' (L ++ M) ∧ Keeps (own v) w w' ∧ FSub (own v') (own v) w.heap.size := by
  obtain ⟨a, c, rfl, hc, hm, h⟩ := hu
  by_cases h0 : M = []
  · subst h0
    obtain ⟨a2, c2, rfl, hc2, hm2⟩ := hrow.shape
    exact ⟨_, w, R.append0 w a2 a L.length c2 c hc2, by simpa using hrow, Keeps.refl _ _, FSub.refl _ _⟩
  · obtain ⟨bk, o, rfl, hb, hj⟩ := h h0
    refine R.append w base hbase v L hrow M hn ⟨bk, o, none⟩ c (fun j u hu => ?_)
    rw [Addr.add_mid]
    exact R.row_cells M o hj j u hu
end
section
variable {ops : Array Oper} {rest : List Oper} {a : Act} {w : World} {Q : Exit → Act → World → Prop}
/-- An append whose run is known. -/
theorem wpList_app {dst : Option Tmp} {t : TypeId} {pos : String} {after : Array Edge} {s x : Operand} (v u : Value) {v' : Value} {w' : World} (hs : a.eval s = v) (hx : a.eval x = u)
    (hr : (Builtin.append_ #[t, t] t #[v, u]).run Tryz.prog w = .ok v' w') (h : wpList Tryz.prog ops Q rest (a.put dst v') w') :
    wpList Tryz.prog ops Q ({ dst := dst, op := .call { callee := .builtin .append, args := #[s, x], argTypes := #[t, t] }, type := t, pos := pos, after := after, guard := none } :: rest) a w :=
  wpList_append_run rfl s x t rfl _ _ _ w' hs hx hr h
end
theorem U16.at {N : Nat} {w : World} {a : Option Addr} {n c : Nat} {l : List Int} (h : rkU.In N w (.slice a n c) l) {k : Nat} (hk : k < l.length) : ∃ bk o, a = some ⟨bk, o, none⟩ ∧ bk < N ∧ w.cell? ⟨bk, o + k, none⟩ = some (.int .u16 (l.getD k 0)) := by
  obtain ⟨_, _, e, _, _, h⟩ := h
  simp at e
  obtain ⟨rfl, -, -⟩ := e
  obtain ⟨bk, o, e, hb, hr⟩ := h (fun e => by rw [e] at hk; simp at hk)
  refine ⟨bk, o, e, hb, ?_⟩
  have h2 := hr k hk 0 (.int .u16 l[k]) rfl
  rw [show o + k * rkU.s + 0 = o + k from by show o + k * 1 + 0 = _; omega] at h2
  rw [List.getD_eq_getElem?_getD, List.getElem?_eq_getElem hk]
  exact h2
set_option maxHeartbeats 4000000
set_option maxRecDepth 100000
end Go.Proofs.YtbnhcggjcdipeaaGreatDoor
/-
  A lock as data: a step of a client's operation; calls; no program.
-/
namespace Go.Proofs.YtbnhcggjcdipeaaGreatDoor
open Go.RowKit
/-- A step: the state behind it, the answer, the error. -/
def lkX (s c : Int) (x : Opn) : Int × Ans × Int :=
  if opChk 3 x = 0 then
    (if 15 < c ∨ 16 < s then (s, ⟨0, 0⟩, 2)
     else if x.f = 10 then (if s = 0 then (c + 1, ⟨3, 0⟩, 0) else (s, ⟨4, 0⟩, 0))
     else if s = c + 1 then (0, ⟨3, 0⟩, 0) else (s, ⟨4, 0⟩, 0))
  else (s, ⟨0, 0⟩, 10)
/-- A call: a client, an operation. -/
structure Cl where
  c : Int
  x : Opn
structure Cl.In (y : Cl) : Prop where
  c0 : 0 ≤ y.c
  c1 : y.c < 256
  x : y.x.In
def clC (y : Cl) : List Value := [.int .u8 y.c, .int .u8 y.x.f, .int .u8 y.x.o, .int .u8 y.x.k, .int .u16 y.x.a, .int .u16 y.x.b]
theorem opChk3 {x : Opn} (h : opChk 3 x = 0) : x.f = 10 ∨ x.f = 11 := by
  unfold opChk at h
  split at h
  · rename_i h2
    have h3 : opM x.f = 3 := by
      have := h2
      simp only [Bool.and_eq_true, beq_iff_eq] at this
      exact this.2
    unfold opM at h3
    split at h3
    · cases h3
    · split at h3
      · cases h3
      · split at h3
        · assumption
        · cases h3
  · cases h
/-- Each step goes one of six ways. -/
theorem lkX_ways (s c : Int) (x : Opn) :
    (opChk 3 x = 10 ∧ lkX s c x = (s, ⟨0, 0⟩, 10)) ∨
    (opChk 3 x = 0 ∧ (15 < c ∨ 16 < s) ∧ lkX s c x = (s, ⟨0, 0⟩, 2)) ∨
    (opChk 3 x = 0 ∧ c ≤ 15 ∧ s ≤ 16 ∧ x.f = 10 ∧ s = 0 ∧ lkX s c x = (c + 1, ⟨3, 0⟩, 0)) ∨
    (opChk 3 x = 0 ∧ c ≤ 15 ∧ s ≤ 16 ∧ x.f = 10 ∧ s ≠ 0 ∧ lkX s c x = (s, ⟨4, 0⟩, 0)) ∨
    (opChk 3 x = 0 ∧ c ≤ 15 ∧ s ≤ 16 ∧ x.f = 11 ∧ s = c + 1 ∧ lkX s c x = (0, ⟨3, 0⟩, 0)) ∨
    (opChk 3 x = 0 ∧ c ≤ 15 ∧ s ≤ 16 ∧ x.f = 11 ∧ s ≠ c + 1 ∧ lkX s c x = (s, ⟨4, 0⟩, 0)) := by
  unfold lkX
  rcases opChk_or 3 x with h | h
  · refine .inr ?_
    rw [if_pos h]
    by_cases h2 : 15 < c ∨ 16 < s
    · exact .inl ⟨h, h2, by rw [if_pos h2]⟩
    · refine .inr ?_
      rw [if_neg h2]
      rcases opChk3 h with hf | hf
      · by_cases h3 : s = 0
        · exact .inl ⟨h, by omega, by omega, hf, h3, by rw [if_pos hf, if_pos h3]⟩
        · exact .inr (.inl ⟨h, by omega, by omega, hf, h3, by rw [if_pos hf, if_neg h3]⟩)
      · by_cases h3 : s = c + 1
        · exact .inr (.inr (.inl ⟨h, by omega, by omega, hf, h3, by rw [if_neg (by omega), if_pos h3]⟩))
        · exact .inr (.inr (.inr ⟨h, by omega, by omega, hf, h3, by rw [if_neg (by omega), if_neg h3]⟩))
  · exact .inl ⟨h, by rw [if_neg (by omega)]⟩
theorem clC_len (y : Cl) : (clC y).length = 6 := rfl
theorem clC_one (y : Cl) : ∀ v ∈ clC y, v.oneCell' = true := by
  intro v hv
  simp only [clC, List.mem_cons, List.not_mem_nil, or_false] at hv
  rcases hv with rfl | rfl | rfl | rfl | rfl | rfl <;> rfl
def clZero : Cl := ⟨0, ⟨0, 0, 0, 0, 0⟩⟩
end Go.Proofs.YtbnhcggjcdipeaaGreatDoor
/-
  A function value without variables, and a call of one; an answer stored whole.
-/
namespace Go.Proofs.YtbnhcggjcdipeaaGreatDoor
open Go.RowKit
/-- A function value without variables. -/
def fnV (k : Nat) : Value := .func (.func k) #[] #[]
section
variable {o : Oper} {a : Act} {w : World} {K : Act → World → Prop} {Q : Exit → Act → World → Prop}
theorem wp_callV (y : Operand) (args : Array Operand) (tys : Array TypeId) (ho : o.op = .call { callee := .value y, args := args, argTypes := tys }) {k : Nat} (hy : a.eval y = fnV k) (vs : List Value) (hv : args.toList.map a.eval = vs)
    (hf : ∃ fn, Tryz.prog.funcs[k]? = some fn ∧ (fn.name == "runtime.NumGoroutine") = false ∧ fn.body.isNone = false)
    (h : Calls Tryz.prog k vs.toArray w fun e w' => ∃ v, e = .returned v ∧ K (a.put o.dst v) w') : o.wp Tryz.prog a w K Q := by
  have hv2 : args.map a.eval = vs.toArray := by rw [← hv]; apply Array.ext'; simp
  obtain ⟨fn, hf, hname, hb⟩ := hf
  unfold Oper.wp execOp
  have h1 : fn.name ≠ "runtime.NumGoroutine" := by simpa using hname
  have h2 : ∃ z, fn.body = some z := by
    cases h : fn.body with
    | none => rw [h] at hb; cases hb
    | some z => exact ⟨z, rfl⟩
  obtain ⟨z, h2⟩ := h2
  simp only [ho, resolve, invoke, Sem.run_bind, Sem.run_pure, Result.andThen_ok, hv2, hy, fnV, Deferred.ofValue, Array.empty_append, Array.append_empty]
  simp [callFunc, hf, h1, h2, Sem.run]
  rw [Oper.upon_enter]
  exact h.mono fun e w' ⟨v, he, hk⟩ => by subst he; exact hk
theorem wpList_callV {ops : Array Oper} {rest : List Oper} {dst : Option Tmp} {ty : TypeId} {pos : String} {after : Array Edge} {y : Operand} {args : Array Operand} {tys : Array TypeId} {k : Nat} (vs : List Value) (hy : a.eval y = fnV k) (hv : args.toList.map a.eval = vs)
    (hf : ∃ fn, Tryz.prog.funcs[k]? = some fn ∧ (fn.name == "runtime.NumGoroutine") = false ∧ fn.body.isNone = false)
    (h : Calls Tryz.prog k vs.toArray w fun e w' => ∃ v, e = .returned v ∧ wpList Tryz.prog ops Q rest (a.put dst v) w') :
    wpList Tryz.prog ops Q ({ dst := dst, op := .call { callee := .value y, args := args, argTypes := tys }, type := ty, pos := pos, after := after, guard := none } :: rest) a w :=
  wpList_plain rfl fun _ hK => wp_callV y args tys rfl hy vs hv hf (h.mono fun _ _ ⟨v, he, hk⟩ => ⟨v, he, hK _ _ hk⟩)
theorem wp_putN {x y : Operand} (ho : o.op = .store 25 x y) {g : Nat} {old : Ans} (r : Ans) {t : TypeId}
    (hx : a.eval x = .pointer (some ⟨g, 0, none⟩)) (hy : a.eval y = .agg (ansC r).toArray) (hg : w.heap[g]? = some (.cells (ansC old).toArray t (0, 0)))
    (h : ∀ W, W.heap[g]? = some (.cells (ansC r).toArray t (0, 0)) → Keeps [g] w W → K (a.put o.dst undef) W) : o.wp Tryz.prog a w K Q :=
  wp_store_row 25 x y ho g (ansC r).toArray hx hy t (ansC old).toArray hg (by kernel_rfl) rfl (by rw [← Array.all_toList, List.all_eq_true]; exact ansC_one r) (h _ (setRow_heap w g (ansC old).toArray (ansC r).toArray t (0, 0) hg) ((Keeps.refl [g] w).setRow g _ (.inl (by simp))))
end
end Go.Proofs.YtbnhcggjcdipeaaGreatDoor
/-
  A map of a few keys, as data: items, as the document keeps them; no program.
-/
namespace Go.Proofs.YtbnhcggjcdipeaaGreatDoor
open Go.RowKit
/-- An item: a key and its number. -/
structure It where
  k : Int
  v : Int
deriving DecidableEq
/-- Where a key stands. -/
def itIdx (key : Int) : List It → Option Nat
  | [] => none
  | a :: r => if a.k = key then some 0 else (itIdx key r).map (· + 1)
def idxI : Option Nat → Int
  | none => -1
  | some i => i
theorem itIdx_app (key : Int) (l m : List It) : itIdx key (l ++ m) = match itIdx key l with | some i => some i | none => (itIdx key m).map (· + l.length) := by
  induction l with
  | nil => cases h : itIdx key m <;> simp [itIdx, h]
  | cons a r ih =>
    show (if a.k = key then some 0 else (itIdx key (r ++ m)).map (· + 1)) = match (if a.k = key then some 0 else (itIdx key r).map (· + 1)) with | some i => some i | none => _
    by_cases h : a.k = key
    · rw [if_pos h, if_pos h]
    · rw [if_neg h, if_neg h, ih]
      cases itIdx key r with
      | some i => rfl
      | none =>
        cases itIdx key m with
        | none => rfl
        | some j => simp [Nat.add_assoc]
theorem itIdx_next {key : Int} {l : List It} {k : Nat} (hk : k < l.length) (h : itIdx key (l.take k) = none) : (l[k].k = key → itIdx key l = some k) ∧ (l[k].k ≠ key → itIdx key (l.take (k + 1)) = none) := by
  have h1 : itIdx key (l.take (k + 1)) = (itIdx key [l[k]]).map (· + k) := by
    rw [List.take_add_one, List.getElem?_eq_getElem hk, Option.toList_some, itIdx_app, h, List.length_take, Nat.min_eq_left (by omega)]
  refine ⟨fun he => ?_, fun he => ?_⟩
  · have h2 : itIdx key (l.take (k + 1)) = some k := by rw [h1]; simp [itIdx, he]
    rw [← List.take_append_drop (k + 1) l, itIdx_app, h2]
  · rw [h1]; simp [itIdx, he]
theorem itIdx_some {key : Int} : ∀ {l : List It} {i : Nat}, itIdx key l = some i → ∃ h : i < l.length, l[i].k = key
  | [], i, h => by cases h
  | a :: r, i, h => by
    unfold itIdx at h
    by_cases he : a.k = key
    · rw [if_pos he] at h
      obtain rfl := Option.some.inj h
      exact ⟨by simp, he⟩
    · rw [if_neg he] at h
      cases hr : itIdx key r with
      | none => rw [hr] at h; cases h
      | some j =>
        rw [hr] at h
        obtain rfl := Option.some.inj h
        obtain ⟨hj, hk⟩ := itIdx_some hr
        exact ⟨by simp; omega, by simpa using hk⟩
/-- The items but the one at a place. -/
def wo (i : Int) : Nat → List It → List It
  | _, [] => []
  | n, a :: r => if (n : Int) = i then wo i (n + 1) r else a :: wo i (n + 1) r
theorem wo_app (i : Int) : ∀ (n : Nat) (l m : List It), wo i n (l ++ m) = wo i n l ++ wo i (n + l.length) m
  | n, [], m => by simp [wo]
  | n, a :: r, m => by
    rw [List.cons_append, wo, wo, wo_app i (n + 1) r m, List.length_cons, show n + 1 + r.length = n + (r.length + 1) by omega]
    split <;> simp
theorem wo_next (i : Int) {l : List It} {k : Nat} (hk : k < l.length) : wo i 0 (l.take (k + 1)) = wo i 0 (l.take k) ++ (if (k : Int) = i then [] else [l[k]]) := by
  rw [List.take_add_one, List.getElem?_eq_getElem hk, Option.toList_some, wo_app, List.length_take, Nat.min_eq_left (by omega), Nat.zero_add]
  congr 1
theorem wo_len (i : Int) : ∀ (n : Nat) (l : List It), (wo i n l).length ≤ l.length
  | _, [] => Nat.le_refl _
  | n, a :: r => by
    have := wo_len i (n + 1) r
    unfold wo
    split
    · rw [List.length_cons]; omega
    · rw [List.length_cons, List.length_cons]; omega
/-- A step, as the document has it. -/
def kvX (l : List It) (x : Opn) : List It × Ans × Int :=
  if 7 < x.k ∨ x.f < 6 ∨ 9 < x.f then (l, ⟨0, 0⟩, 10)
  else if x.f = 7 then (wo (idxI (itIdx x.k l)) 0 l ++ [⟨x.k, x.a⟩], ⟨0, 0⟩, 0)
  else match itIdx x.k l with
    | none => if x.f = 6 then (l, ⟨2, 0⟩, 0) else (l, ⟨4, 0⟩, 0)
    | some i =>
      if x.f = 6 then (l, ⟨1, (l.getD i ⟨0, 0⟩).v⟩, 0)
      else if x.f = 8 then (wo i 0 l, ⟨3, 0⟩, 0)
      else if (l.getD i ⟨0, 0⟩).v = x.a then (wo i 0 l ++ [⟨x.k, x.b⟩], ⟨3, 0⟩, 0) else (l, ⟨4, 0⟩, 0)
def itC (x : It) : List Go.Value := [.int .u8 x.k, .int .u16 x.v]
theorem itC_one (x : It) : ∀ v ∈ itC x, v.oneCell' = true := by
  intro v hv
  simp only [itC, List.mem_cons, List.not_mem_nil, or_false] at hv
  rcases hv with rfl | rfl <;> rfl
theorem Tryz.infoItR : (Tryz.prog.info? 158).map (fun i => (i.zero, i.size, i.bytes)) = some (some (.agg (itC ⟨0, 0⟩).toArray), 2, 4) := by kernel_rfl
/-- Items, side by side. -/
noncomputable def rkI : RK It :=
  { T := 158, Sl := 79, s := 2, b := 4, cs := itC, i := (info_parts Tryz.infoItR).choose, z := .agg (itC ⟨0, 0⟩).toArray,
    len := fun _ => rfl, one := itC_one, s0 := by decide, b1 := by decide, und := Tryz.underlying79,
    hi := (info_parts Tryz.infoItR).choose_spec.1, hz := (info_parts Tryz.infoItR).choose_spec.2.1, hs := (info_parts Tryz.infoItR).choose_spec.2.2.1, hb := (info_parts Tryz.infoItR).choose_spec.2.2.2, hzs := rfl }
theorem It.at {N : Nat} {w : World} {a : Option Addr} {n c : Nat} {l : List It} (h : rkI.In N w (.slice a n c) l) {k : Nat} (hk : k < l.length) : ∃ bk o, a = some ⟨bk, o, none⟩ ∧ bk < N ∧ w.rangeAt bk (o + k * 2) (itC l[k]) := by
  obtain ⟨_, _, e, _, _, h⟩ := h
  simp at e
  obtain ⟨rfl, -, -⟩ := e
  obtain ⟨bk, o, e, hb, hr⟩ := h (fun e => by rw [e] at hk; simp at hk)
  exact ⟨bk, o, e, hb, hr k hk⟩
end Go.Proofs.YtbnhcggjcdipeaaGreatDoor
/-
  A key map as data: for each key nothing, or a number; no program.
-/
namespace Go.Proofs.YtbnhcggjcdipeaaGreatDoor
open Go.RowKit
abbrev Kv := List (Option Int)
/-- The byte that tells which keys there are. -/
def kvH : Kv → Nat
  | [] => 0
  | none :: r => 2 * kvH r
  | some _ :: r => 1 + 2 * kvH r
def kvV (m : Kv) : List Int := m.map (·.getD 0)
/-- A state's cells. -/
def kvA (h : Int) (vs : List Int) : Array Value :=
  #[.int .u8 h, .int .u16 (vs.getD 0 0), .int .u16 (vs.getD 1 0), .int .u16 (vs.getD 2 0), .int .u16 (vs.getD 3 0), .int .u16 (vs.getD 4 0), .int .u16 (vs.getD 5 0), .int .u16 (vs.getD 6 0), .int .u16 (vs.getD 7 0)]
def kvVal (m : Kv) : Value := .agg (kvA (kvH m) (kvV m))
structure KvIn (m : Kv) : Prop where
  len : m.length = 8
  rng : ∀ (k : Nat) v, m[k]? = some (some v) → 0 ≤ v ∧ v < 65536
def kv0 : Kv := List.replicate 8 none
theorem kvV_len (m : Kv) : (kvV m).length = m.length := by simp [kvV]
theorem kvA_get (h : Int) (vs : List Int) {k : Nat} (hk : k < 8) : (kvA h vs)[1 + k]? = some (.int .u16 (vs.getD k 0)) := by
  match k, hk with
  | 0, _ | 1, _ | 2, _ | 3, _ | 4, _ | 5, _ | 6, _ | 7, _ => rfl
theorem kvA_set (h : Int) {vs : List Int} (hl : vs.length = 8) {k : Nat} (hk : k < 8) (v : Int) : (kvA h vs).setIfInBounds (1 + k) (.int .u16 v) = kvA h (vs.set k v) := by
  match vs, hl, k, hk with
  | [a, b, c, d, e, f, g, i], _, 0, _ | [a, b, c, d, e, f, g, i], _, 1, _ | [a, b, c, d, e, f, g, i], _, 2, _ | [a, b, c, d, e, f, g, i], _, 3, _
  | [a, b, c, d, e, f, g, i], _, 4, _ | [a, b, c, d, e, f, g, i], _, 5, _ | [a, b, c, d, e, f, g, i], _, 6, _ | [a, b, c, d, e, f, g, i], _, 7, _ => rfl
theorem kvA_h (h h2 : Int) (vs : List Int) : (kvA h vs).setIfInBounds 0 (.int .u8 h2) = kvA h2 vs := rfl
theorem kvA_one (h : Int) (vs : List Int) : (kvA h vs).all (·.oneCell') = true := by rw [← Array.all_toList]; rfl
theorem kvH_lt : ∀ m : Kv, kvH m < 2 ^ m.length
  | [] => by simp [kvH]
  | none :: r => by have := kvH_lt r; simp only [kvH, List.length_cons, Nat.pow_succ]; omega
  | some _ :: r => by have := kvH_lt r; simp only [kvH, List.length_cons, Nat.pow_succ]; omega
theorem kvH_bit : ∀ (m : Kv) (k : Nat), kvH m / 2 ^ k % 2 = if (m.getD k none).isSome then 1 else 0
  | [], k => by simp [kvH]
  | none :: r, 0 => by simp [kvH]
  | some _ :: r, 0 => by simp [kvH]
  | none :: r, k + 1 => by
    have h := kvH_bit r k
    rw [Nat.pow_succ, Nat.mul_comm, ← Nat.div_div_eq_div_mul, kvH, show 2 * kvH r / 2 = kvH r by omega, h]
    simp
  | some _ :: r, k + 1 => by
    have h := kvH_bit r k
    rw [Nat.pow_succ, Nat.mul_comm, ← Nat.div_div_eq_div_mul, kvH, show (1 + 2 * kvH r) / 2 = kvH r by omega, h]
    simp
theorem kvH_set : ∀ (m : Kv) (k : Nat), k < m.length → ∀ o, kvH (m.set k o) + (if (m.getD k none).isSome then 2 ^ k else 0) = kvH m + (if o.isSome then 2 ^ k else 0)
  | [], k, h, _ => by simp at h
  | a :: r, 0, _, o => by cases a <;> cases o <;> simp [kvH] <;> omega
  | a :: r, k + 1, h, o => by
    have ih := kvH_set r k (by simpa using h) o
    have e : ((a :: r).getD (k + 1) none) = r.getD k none := by simp
    rw [e]
    cases a with
    | none => simp only [List.set_cons_succ, kvH, Nat.pow_succ]; split at ih <;> split at ih <;> simp_all <;> omega
    | some x => simp only [List.set_cons_succ, kvH, Nat.pow_succ]; split at ih <;> split at ih <;> simp_all <;> omega
theorem kvV_set (m : Kv) (k : Nat) (o : Option Int) : kvV (m.set k o) = (kvV m).set k (o.getD 0) := by
  unfold kvV
  rw [List.map_set]
theorem kvV_getD {m : Kv} {k : Nat} (hk : k < m.length) : (kvV m).getD k 0 = (m.getD k none).getD 0 := by
  unfold kvV
  rw [List.getD_eq_getElem?_getD, List.getElem?_map, List.getElem?_eq_getElem hk, List.getD_eq_getElem?_getD, List.getElem?_eq_getElem hk]
  rfl
theorem KvIn.set {m : Kv} (h : KvIn m) (k : Nat) {o : Option Int} (ho : ∀ v, o = some v → 0 ≤ v ∧ v < 65536) : KvIn (m.set k o) := by
  refine ⟨by rw [List.length_set]; exact h.len, fun j v hj => ?_⟩
  rw [List.getElem?_set] at hj
  split at hj
  · split at hj
    · exact ho v (by simpa using hj)
    · cases hj
  · exact h.rng j v hj
theorem KvIn.get {m : Kv} (h : KvIn m) {k : Nat} {v : Int} (hv : m.getD k none = some v) : 0 ≤ v ∧ v < 65536 := by
  refine h.rng k v ?_
  rw [List.getD_eq_getElem?_getD] at hv
  cases hk : m[k]? with
  | none => rw [hk] at hv; cases hv
  | some o => rw [hk] at hv; simp at hv; rw [hv]
theorem kv0_in : KvIn kv0 := ⟨rfl, fun k v h => by
  simp only [kv0, List.getElem?_replicate] at h
  split at h <;> simp at h⟩
theorem KvIn.small {m : Kv} (h : KvIn m) : kvH m < 256 := by
  have := kvH_lt m
  rw [h.len] at this
  exact this
/-- What a state's keys are told as. -/
def itOf : Nat → Kv → List It
  | _, [] => []
  | n, none :: r => itOf (n + 1) r
  | n, some v :: r => ⟨n, v⟩ :: itOf (n + 1) r
theorem itOf_app : ∀ (n : Nat) (l m : Kv), itOf n (l ++ m) = itOf n l ++ itOf (n + l.length) m
  | n, [], m => by simp [itOf]
  | n, none :: r, m => by rw [List.cons_append, itOf, itOf, itOf_app, List.length_cons, show n + 1 + r.length = n + (r.length + 1) by omega]
  | n, some v :: r, m => by rw [List.cons_append, itOf, itOf, itOf_app, List.length_cons, show n + 1 + r.length = n + (r.length + 1) by omega]; rfl
theorem itOf_len : ∀ (n : Nat) (l : Kv), (itOf n l).length ≤ l.length
  | _, [] => Nat.le_refl _
  | n, none :: r => by have := itOf_len (n + 1) r; simp only [itOf, List.length_cons]; omega
  | n, some v :: r => by have := itOf_len (n + 1) r; simp only [itOf, List.length_cons]; omega
theorem itOf_next {m : Kv} {k : Nat} (hk : k < m.length) : itOf 0 (m.take (k + 1)) = itOf 0 (m.take k) ++ (match m.getD k none with | some v => [⟨k, v⟩] | none => []) := by
  rw [List.take_add_one, List.getElem?_eq_getElem hk, Option.toList_some, itOf_app, List.length_take, Nat.min_eq_left (by omega), Nat.zero_add]
  congr 1
  rw [List.getD_eq_getElem?_getD, List.getElem?_eq_getElem hk, Option.getD_some]
  cases m[k] <;> rfl
/-- What stands under a key. -/
def itLook (key : Int) : List It → Option Int
  | [] => none
  | a :: r => if a.k = key then some a.v else itLook key r
theorem itLook_idx (key : Int) : ∀ l : List It, itLook key l = (itIdx key l).map fun i => (l.getD i ⟨0, 0⟩).v
  | [] => rfl
  | a :: r => by
    unfold itLook itIdx
    split
    · rfl
    · rw [itLook_idx key r]
      cases itIdx key r with
      | none => rfl
      | some i => simp
theorem itLook_app (key : Int) : ∀ l m : List It, itLook key (l ++ m) = (itLook key l).or (itLook key m)
  | [], m => by simp [itLook]
  | a :: r, m => by
    rw [List.cons_append, itLook, itLook]
    split
    · rfl
    · exact itLook_app key r m
theorem itLook_none {key : Int} : ∀ {l : List It}, (∀ x ∈ l, x.k ≠ key) → itLook key l = none
  | [], _ => rfl
  | a :: r, h => by
    rw [itLook, if_neg (h a (by simp)), itLook_none (fun x hx => h x (by simp [hx]))]
/-- The document's state is this one. -/
structure Rel (m : Kv) (t : List It) : Prop where
  in_ : KvIn m
  look : ∀ k : Nat, k < 8 → itLook k t = m.getD k none
  keys : ∀ x ∈ t, 0 ≤ x.k ∧ x.k < 8
  nodup : (t.map (·.k)).Nodup
theorem itOf_keys : ∀ (n : Nat) (m : Kv), ∀ x ∈ itOf n m, (n : Int) ≤ x.k ∧ x.k < n + m.length
  | n, [], x, h => by cases h
  | n, none :: r, x, h => by
    have := itOf_keys (n + 1) r x h
    simp only [List.length_cons]; omega
  | n, some v :: r, x, h => by
    rcases List.mem_cons.1 h with rfl | h
    · simp only [List.length_cons]; omega
    · have := itOf_keys (n + 1) r x h
      simp only [List.length_cons]; omega
theorem itOf_nodup : ∀ (n : Nat) (m : Kv), ((itOf n m).map (·.k)).Nodup
  | n, [] => List.Pairwise.nil
  | n, none :: r => itOf_nodup (n + 1) r
  | n, some v :: r => by
    show (((⟨n, v⟩ : It) :: itOf (n + 1) r).map (·.k)).Nodup
    rw [List.map_cons, List.nodup_cons]
    refine ⟨fun h => ?_, itOf_nodup (n + 1) r⟩
    obtain ⟨x, hx, e⟩ := List.mem_map.1 h
    have := itOf_keys (n + 1) r x hx
    simp only at e
    omega
theorem itOf_look : ∀ (n : Nat) (m : Kv) (k : Nat), itLook ((n + k : Nat) : Int) (itOf n m) = m.getD k none
  | n, [], k => by simp [itOf, itLook]
  | n, none :: r, 0 => by
    rw [itOf, itLook_none (fun x hx => by have := itOf_keys (n + 1) r x hx; omega)]
    rfl
  | n, some v :: r, 0 => by rw [itOf, itLook, if_pos (by simp)]; rfl
  | n, none :: r, k + 1 => by
    rw [itOf, show n + (k + 1) = n + 1 + k by omega, itOf_look (n + 1) r k, List.getD_cons_succ]
  | n, some v :: r, k + 1 => by
    rw [itOf, itLook, if_neg (by simp; omega), show n + (k + 1) = n + 1 + k by omega, itOf_look (n + 1) r k, List.getD_cons_succ]
theorem rel_items {m : Kv} (h : KvIn m) : Rel m (itOf 0 m) := by
  refine ⟨h, fun k _ => ?_, fun x hx => ?_, itOf_nodup 0 m⟩
  · have := itOf_look 0 m k
    rwa [Nat.zero_add] at this
  · have := itOf_keys 0 m x hx
    rw [h.len] at this
    omega
end Go.Proofs.YtbnhcggjcdipeaaGreatDoor
/-
  A key map's steps: on what stands under each key; the document's are the same.
-/
namespace Go.Proofs.YtbnhcggjcdipeaaGreatDoor
open Go.RowKit
/-- A step. -/
def ksX (m : Kv) (x : Opn) : Kv × Ans × Int :=
  if 7 < x.k ∨ x.f < 6 ∨ 9 < x.f then (m, ⟨0, 0⟩, 10)
  else if x.f = 7 then (m.set x.k.toNat (some x.a), ⟨0, 0⟩, 0)
  else match m.getD x.k.toNat none with
    | none => if x.f = 6 then (m, ⟨2, 0⟩, 0) else (m, ⟨4, 0⟩, 0)
    | some v =>
      if x.f = 6 then (m, ⟨1, v⟩, 0)
      else if x.f = 8 then (m.set x.k.toNat none, ⟨3, 0⟩, 0)
      else if v = x.a then (m.set x.k.toNat (some x.b), ⟨3, 0⟩, 0) else (m, ⟨4, 0⟩, 0)
theorem ksX_in {m : Kv} {x : Opn} (h : KvIn m) (hx : x.In) : KvIn (ksX m x).1 := by
  unfold ksX
  split
  · exact h
  · split
    · exact h.set _ (fun v e => by obtain rfl := Option.some.inj e; exact ⟨hx.a0, hx.a1⟩)
    · split
      · split <;> exact h
      · split
        · exact h
        · split
          · exact h.set _ (fun v e => by cases e)
          · split
            · exact h.set _ (fun v e => by obtain rfl := Option.some.inj e; exact ⟨hx.b0, hx.b1⟩)
            · exact h
theorem wo_none : ∀ (n : Nat) (l : List It), wo (-1) n l = l
  | _, [] => rfl
  | n, a :: r => by
    rw [wo, if_neg (by omega), wo_none (n + 1) r]
theorem wo_at : ∀ (n : Nat) (l : List It) (i : Nat), wo ((n + i : Nat) : Int) n l = l.eraseIdx i
  | _, [], i => by simp [wo]
  | n, a :: r, 0 => by
    rw [wo, if_pos (by simp)]
    have : ∀ (k : Nat) (q : List It), n < k → wo ((n + 0 : Nat) : Int) k q = q := by
      intro k q
      induction q generalizing k with
      | nil => intro _; rfl
      | cons b s ih => intro hk; rw [wo, if_neg (by omega), ih (k + 1) (by omega)]
    rw [this (n + 1) r (by omega)]
    rfl
  | n, a :: r, i + 1 => by
    rw [wo, if_neg (by omega), show n + (i + 1) = n + 1 + i by omega, wo_at (n + 1) r i]
    rfl
theorem wo_idx {key : Int} {l : List It} : wo (idxI (itIdx key l)) 0 l = match itIdx key l with | some i => l.eraseIdx i | none => l := by
  cases h : itIdx key l with
  | none => exact wo_none 0 l
  | some i =>
    have := wo_at 0 l i
    rw [Nat.zero_add] at this
    exact this
theorem mem_erase {l : List It} {i : Nat} {x : It} (h : x ∈ l.eraseIdx i) : x ∈ l := (List.eraseIdx_sublist l i).subset h
theorem nodup_erase {l : List It} (i : Nat) (h : (l.map (·.k)).Nodup) : ((l.eraseIdx i).map (·.k)).Nodup := h.sublist ((List.eraseIdx_sublist l i).map _)
theorem look_erase_self {key : Int} : ∀ {l : List It} {i : Nat}, itIdx key l = some i → (l.map (·.k)).Nodup → ∀ x ∈ l.eraseIdx i, x.k ≠ key
  | [], i, h, _ => by cases h
  | a :: r, i, h, hn => by
    rw [List.map_cons, List.nodup_cons] at hn
    unfold itIdx at h
    split at h
    · rename_i e
      obtain rfl := Option.some.inj h
      intro x hx he
      exact hn.1 (List.mem_map.2 ⟨x, hx, he.trans e.symm⟩)
    · rename_i e
      cases hr : itIdx key r with
      | none => rw [hr] at h; cases h
      | some j =>
        rw [hr] at h
        obtain rfl := Option.some.inj h
        intro x hx
        rw [List.eraseIdx_cons_succ] at hx
        rcases List.mem_cons.1 hx with rfl | hx
        · exact e
        · exact look_erase_self hr hn.2 x hx
theorem look_erase_other {key k2 : Int} (hk : k2 ≠ key) : ∀ {l : List It} {i : Nat}, itIdx key l = some i → itLook k2 (l.eraseIdx i) = itLook k2 l
  | [], i, h => by cases h
  | a :: r, i, h => by
    unfold itIdx at h
    split at h
    · rename_i e
      obtain rfl := Option.some.inj h
      rw [List.eraseIdx_cons_zero, itLook, if_neg (by rw [e]; exact fun e => hk e.symm)]
    · cases hr : itIdx key r with
      | none => rw [hr] at h; cases h
      | some j =>
        rw [hr] at h
        obtain rfl := Option.some.inj h
        show itLook k2 ((a :: r).eraseIdx (j + 1)) = _
        rw [List.eraseIdx_cons_succ, itLook, itLook, look_erase_other hk hr]
theorem idx_none {key : Int} : ∀ {l : List It}, itIdx key l = none → ∀ x ∈ l, x.k ≠ key
  | [], _, x, hx => by cases hx
  | a :: r, h, x, hx => by
    unfold itIdx at h
    split at h
    · cases h
    · rename_i e
      rcases List.mem_cons.1 hx with rfl | hx
      · exact e
      · cases hr : itIdx key r with
        | none => exact idx_none hr x hx
        | some j => rw [hr] at h; cases h
/-- The items without a key. -/
theorem wo_key {key : Int} {t : List It} (hn : (t.map (·.k)).Nodup) :
    (∀ x ∈ wo (idxI (itIdx key t)) 0 t, x ∈ t ∧ x.k ≠ key) ∧ ((wo (idxI (itIdx key t)) 0 t).map (·.k)).Nodup ∧ ∀ k2, k2 ≠ key → itLook k2 (wo (idxI (itIdx key t)) 0 t) = itLook k2 t := by
  rw [wo_idx]
  cases h : itIdx key t with
  | none => exact ⟨fun x hx => ⟨hx, idx_none h x hx⟩, hn, fun _ _ => rfl⟩
  | some i => exact ⟨fun x hx => ⟨mem_erase hx, look_erase_self h hn x hx⟩, nodup_erase i hn, fun k2 hk => look_erase_other hk h⟩
theorem Rel.put {m : Kv} {t : List It} (h : Rel m t) {k : Nat} (hk : k < 8) {v : Int} (hv : 0 ≤ v ∧ v < 65536) : Rel (m.set k (some v)) (wo (idxI (itIdx k t)) 0 t ++ [⟨k, v⟩]) := by
  obtain ⟨h1, h2, h3⟩ := wo_key (key := k) h.nodup
  refine ⟨h.in_.set k (fun u e => by obtain rfl := Option.some.inj e; exact hv), fun j hj => ?_, fun x hx => ?_, ?_⟩
  · rw [itLook_app]
    by_cases e : j = k
    · subst e
      rw [itLook_none (fun x hx => (h1 x hx).2), List.getD_eq_getElem?_getD, List.getElem?_set_self (by rw [h.in_.len]; exact hj)]
      simp [itLook]
    · rw [h3 j (by omega), h.look j hj, show itLook (j : Int) [(⟨k, v⟩ : It)] = none from itLook_none (fun x hx => by simp at hx; subst hx; simp; omega), Option.or_none]
      rw [List.getD_eq_getElem?_getD, List.getD_eq_getElem?_getD, List.getElem?_set_ne (by omega)]
  · rcases List.mem_append.1 hx with hx | hx
    · exact h.keys x (h1 x hx).1
    · simp at hx; subst hx; simp; omega
  · rw [List.map_append, List.nodup_append]
    refine ⟨h2, by simp, fun a ha b hb => ?_⟩
    obtain ⟨x, hx, rfl⟩ := List.mem_map.1 ha
    simp at hb
    subst hb
    exact (h1 x hx).2
theorem Rel.del {m : Kv} {t : List It} (h : Rel m t) {k : Nat} (hk : k < 8) : Rel (m.set k none) (wo (idxI (itIdx k t)) 0 t) := by
  obtain ⟨h1, h2, h3⟩ := wo_key (key := k) h.nodup
  refine ⟨h.in_.set k (fun u e => by cases e), fun j hj => ?_, fun x hx => h.keys x (h1 x hx).1, h2⟩
  by_cases e : j = k
  · subst e
    rw [itLook_none (fun x hx => (h1 x hx).2), List.getD_eq_getElem?_getD, List.getElem?_set_self (by rw [h.in_.len]; exact hj)]
    rfl
  · rw [h3 j (by omega), h.look j hj, List.getD_eq_getElem?_getD, List.getD_eq_getElem?_getD, List.getElem?_set_ne (by omega)]
/-- One step of both. -/
theorem Rel.step {m : Kv} {t : List It} (h : Rel m t) {x : Opn} (hx : x.In) : Rel (ksX m x).1 (kvX t x).1 ∧ (ksX m x).2 = (kvX t x).2 := by
  by_cases hb : 7 < x.k ∨ x.f < 6 ∨ 9 < x.f
  · rw [ksX, if_pos hb, kvX, if_pos hb]
    exact ⟨h, rfl⟩
  · have hk0 := hx.k0
    have hk : x.k.toNat < 8 := by omega
    have ek : ((x.k.toNat : Nat) : Int) = x.k := by omega
    have hl := h.look x.k.toNat hk
    rw [ek] at hl
    have hput := fun v hv => h.put hk (v := v) hv
    have hdel := h.del hk
    rw [ek] at hput hdel
    rw [ksX, if_neg hb, kvX, if_neg hb]
    by_cases h7 : x.f = 7
    · rw [if_pos h7, if_pos h7]
      exact ⟨hput x.a ⟨hx.a0, hx.a1⟩, rfl⟩
    · rw [if_neg h7, if_neg h7]
      rw [itLook_idx] at hl
      cases hi : itIdx x.k t with
      | none =>
        rw [hi] at hl
        rw [← hl]
        show Rel (if x.f = 6 then _ else _ : Kv × Ans × Int).1 (if x.f = 6 then _ else _ : List It × Ans × Int).1 ∧ _
        split <;> exact ⟨h, rfl⟩
      | some i =>
        rw [hi] at hl
        rw [← hl]
        rw [hi] at hput hdel
        show Rel (if x.f = 6 then _ else _ : Kv × Ans × Int).1 (if x.f = 6 then _ else _ : List It × Ans × Int).1 ∧ (if x.f = 6 then _ else _ : Kv × Ans × Int).2 = (if x.f = 6 then _ else _ : List It × Ans × Int).2
        split
        · exact ⟨h, rfl⟩
        · split
          · exact ⟨hdel, rfl⟩
          · split
            · exact ⟨hput x.b ⟨hx.b0, hx.b1⟩, rfl⟩
            · exact ⟨h, rfl⟩
end Go.Proofs.YtbnhcggjcdipeaaGreatDoor
/-
  The document's key map: where a key stands; the items but one.
-/
namespace Go.Proofs.YtbnhcggjcdipeaaGreatDoor
open Go.RowKit
section
variable {ops : Array Oper} {rest : List Oper} {a : Act} {w : World} {Q : Exit → Act → World → Prop}
theorem wpList_loadI {dst : Option Tmp} {ty : TypeId} {pos : String} {after : Array Edge} {gd : Option (Nat × Bool)} {x : Operand} {g off : Nat} {y : It}
    (hw : Region.wanted { dst := dst, op := .load 158 x, type := ty, pos := pos, after := after, guard := gd } (yielded ops a.tmps) = true)
    (hx : a.eval x = .pointer (some ⟨g, off, none⟩)) (hr : w.rangeAt g off (itC y)) (h : wpList Tryz.prog ops Q rest (a.put dst (.agg (itC y).toArray)) w) :
    wpList Tryz.prog ops Q ({ dst := dst, op := .load 158 x, type := ty, pos := pos, after := after, guard := gd } :: rest) a w :=
  rkI.wpList_load Tryz.underlying158 rfl rfl hw hx hr h
set_option maxRecDepth 100000 in
theorem wpList_buildI {dst : Option Tmp} {ty : TypeId} {pos : String} {after : Array Edge} {y : Operand} {x : It} (hy : a.eval y = .agg (itC x).toArray)
    (h : wpList Tryz.prog ops Q rest (a.put dst (.slice (some ⟨w.heap.size, 0, none⟩) 1 1)) (w.alloc (.cells (itC x).toArray 158))) :
    wpList Tryz.prog ops Q ({ dst := dst, op := .buildSlice 79 1 #[(0, y)], type := ty, pos := pos, after := after, guard := none } :: rest) a w :=
  wpList_plain rfl fun _ hK => rkI.wp_build1 y rfl hy (by show (2 : Nat) ≤ 10000; decide) (hK _ _ h)
end
theorem it_cells {w : World} {g o : Nat} {r : It} (h : w.rangeAt g o (itC r)) : w.cell? ⟨g, o, none⟩ = some (.int .u8 r.k) ∧ w.cell? ⟨g, o + 1, none⟩ = some (.int .u16 r.v) :=
  ⟨h 0 _ rfl, h 1 _ rfl⟩
set_option maxHeartbeats 8000000
set_option maxRecDepth 100000
theorem r11at_any (w : World) {N : Nat} {v : Value} {l : List It} (h : rkI.In N w v l) (hl : l.length ≤ 1000000) (key : Int) :
    Calls Tryz.prog 78 #[v, .int .u8 key] w fun e w' => e = .returned (.int .i64 (idxI (itIdx key l))) ∧ w' = w := by
  obtain ⟨a, cp, rfl, hc, hm, -⟩ := id h
  have HT := Lib.hid h
  clear h
  generalize hn2 : l.length = n at *
  have HN2 := Lib.hid hn2
  clear hn2
  go_enter Tryz.func78, Tryz.ntmps78
  go_wp2_with fail
  go_loopw [5] (fun i wr => ∃ k : Nat, i = .int .i64 k ∧ k ≤ n ∧ itIdx key (l.take k) = none ∧ wr = w) (fun i _ => n - (intOf i).toNat)
  case atStart => exact ⟨0, rfl, by omega, rfl, rfl⟩
  case round =>
    obtain ⟨k, rfl, hk, hno, rfl⟩ := hrel
    by_cases hlt : k < n
    · have hkl : k < l.length := by have := HN2.out; omega
      obtain ⟨g, o, rfl, hg, hr⟩ := It.at HT.out hkl
      obtain ⟨m0, -⟩ := it_cells hr
      have HNX := Lib.hid (itIdx_next hkl hno)
      clear hr hno
      generalize l[k] = r at *
      by_cases he : r.k = key
      · have HI := Lib.hid (HNX.out.1 he)
        rw [he] at m0
        clear HNX he
        go_wp2_with fail
        go_ret
        exact ⟨by rw [HI.out]; rfl, rfl⟩
      · have te : (r.k == key) = false := by simpa using he
        have HTK2 := Lib.hid (HNX.out.2 he)
        clear HNX he
        go_wp2_with fail
        go_roundw
        case rel => exact ⟨k + 1, by go_num, by omega, HTK2.out, trivial⟩
        case measure => simp [intOf]; omega
    · obtain rfl : k = n := by omega
      have hall : itIdx key l = none := by rw [← HN2.out, List.take_length] at hno; exact hno
      have HI := Lib.hid hall
      clear hno hall
      go_wp2_with fail
      go_ret
      exact ⟨by rw [HI.out]; rfl, rfl⟩
theorem r11without_any (w : World) {v : Value} {l : List It} (h : rkI.In w.heap.size w v l) (hl : l.length ≤ 1000000) (i : Int) :
    Calls Tryz.prog 79 #[v, .int .i64 i] w fun e w' => ∃ v', e = .returned v' ∧ rkI.Own w.heap.size w' v' (wo i 0 l) ∧ Keeps [] w w' := by
  obtain ⟨a, cp, rfl, hc, hm, -⟩ := id h
  have HT := Lib.hid h
  clear h
  generalize hn2 : l.length = n at *
  have HN2 := Lib.hid hn2
  clear hn2
  obtain ⟨N, hN⟩ : ∃ N, N = w.heap.size := ⟨_, rfl⟩
  have HNE := Lib.hid hN
  rw [← hN]
  clear hN
  go_enter Tryz.func79, Tryz.ntmps79
  go_wp2_with fail
  go_loopw [5, 6] (fun z j wr => ∃ k : Nat, j = .int .i64 k ∧ k ≤ n ∧ rkI.Own N wr z (wo i 0 (l.take k)) ∧ Keeps [] w wr) (fun _ j _ => n - (intOf j).toNat)
  case atStart => exact ⟨0, rfl, by omega, RK.Own.nil rkI _ _, Keeps.refl _ _⟩
  case round =>
    obtain ⟨k, rfl, hk, hz, hkw⟩ := hrel
    by_cases hlt : k < n
    · have hkl : k < l.length := by have := HN2.out; omega
      obtain ⟨g, o, rfl, hg, hr⟩ := It.at (HT.out.new hkw (Nat.le_refl _)) hkl
      have HRW := Lib.hid hr
      have HTK := Lib.hid (wo_next i hkl)
      have HZ := Lib.hid hz; have HKW := Lib.hid hkw
      have HFL := Lib.hid (show (wo i 0 (l.take k)).length ≤ 1000000 from Nat.le_trans (wo_len i 0 _) (by rw [List.length_take]; omega))
      obtain ⟨az, cz, rfl, hcz, hmz⟩ := hz.shape
      clear hr hz hkw
      generalize l[k] = r at *
      by_cases he : (k : Int) = i
      · have te : ((k : Int) != i) = false := by simpa using he
        have htk := HTK.out
        rw [if_pos he, List.append_nil] at htk
        have HTK2 := Lib.hid htk
        clear he htk HTK
        go_wp2_with fail
        go_roundw
        case rel => exact ⟨k + 1, by go_num, by omega, by rw [HTK2.out]; exact HZ.out, HKW.out⟩
        case measure => simp [intOf]; omega
      · have te : ((k : Int) != i) = true := by simpa using he
        have htk := HTK.out
        rw [if_neg he] at htk
        have HTK2 := Lib.hid htk
        obtain ⟨v', w3, hrun, hrow3, hk3, hf3⟩ := rkI.append1 wr N (by rw [HNE.out]; exact HKW.out.size) _ _ HZ.out r (by have := HFL.out; omega)
        have HRUN := Lib.hid (show (Builtin.append_ #[79, 79] 79 #[.slice az (wo i 0 (l.take k)).length cz, .slice (some ⟨wr.heap.size, 0, none⟩) 1 1]).run Tryz.prog (wr.alloc (.cells (itC r).toArray 158)) = .ok v' w3 from hrun)
        have HROW := Lib.hid hrow3
        have HK3 := Lib.hid (HKW.out.trans hk3 (fun q hq => .inr (by have := (row_base HZ.out q hq).1; have := HNE.out; omega)))
        obtain ⟨a9, c9, rfl, -, -⟩ := hrow3.shape
        clear he htk HTK hrun hrow3 hk3 hf3
        go_wp2_with (first
          | ((with_reducible refine wpList_loadI (g := g) (off := o + k * 2) (y := r) rfl ?_ HRW.out ?_); exact rfl)
          | ((with_reducible refine wpList_buildI (x := r) ?_ ?_); exact rfl)
          | ((with_reducible refine wpList_app _ _ ?_ ?_ HRUN.out ?_); exact rfl; exact rfl))
        clear HRUN HRW HZ HKW
        go_wp2_with fail
        go_roundw
        case rel => exact ⟨k + 1, by go_num, by omega, by rw [HTK2.out]; have h := HROW.out; rw [List.length_append] at h; exact h, HK3.out⟩
        case measure => simp [intOf]; omega
    · obtain rfl : k = n := by omega
      have HZ := Lib.hid (show rkI.Own N wr u5 (wo i 0 l) from by rw [← HN2.out, List.take_length] at hz; exact hz)
      have HKW := Lib.hid hkw
      obtain ⟨az, cz, rfl, hcz, hmz⟩ := hz.shape
      clear hz hkw
      go_wp2_with fail
      go_ret
      exact ⟨_, rfl, HZ.out, HKW.out⟩
end Go.Proofs.YtbnhcggjcdipeaaGreatDoor
