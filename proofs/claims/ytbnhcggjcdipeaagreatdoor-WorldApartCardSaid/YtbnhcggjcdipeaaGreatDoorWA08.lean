/-
  Slices of 16 bits; appends of any slice; the document's queue: Same, Step.
-/
import Derived.Test.YtbnhcggjcdipeaaGreatDoorWA04
import Derived.Test.YtbnhcggjcdipeaaGreatDoorWA07
set_option linter.unusedSimpArgs false
set_option linter.unusedVariables false
namespace Go.Proofs.YtbnhcggjcdipeaaGreatDoor
open Go.RowKit
theorem Tryz.infoU16R : (Tryz.prog.info? 23).map (fun i => (i.zero, i.size, i.bytes)) = some (some (.int .u16 0), 1, 2) := by kernel_rfl
def u16C (x : Int) : List Value := [.int .u16 x]
/-- Numbers of 16 bits, side by side. -/
noncomputable def rkU : RK Int :=
  { T := 23, Sl := 78, s := 1, b := 2, cs := u16C, i := (info_parts Tryz.infoU16R).choose, z := .int .u16 0,
    len := fun _ => rfl, one := by intro x v hv; simp only [u16C, List.mem_cons, List.not_mem_nil, or_false] at hv; subst hv; rfl, s0 := by decide, b1 := by decide, und := Tryz.underlying78,
    hi := (info_parts Tryz.infoU16R).choose_spec.1, hz := (info_parts Tryz.infoU16R).choose_spec.2.1, hs := (info_parts Tryz.infoU16R).choose_spec.2.2.1, hb := (info_parts Tryz.infoU16R).choose_spec.2.2.2, hzs := rfl }
section
variable {α : Type}
theorem RK.In.more {R : RK α} {N M : Nat} {w : World} {v : Value} {L : List α} (h : R.In N w v L) (hM : N ≤ M) : R.In M w v L := by
  obtain ⟨a, c, rfl, hc, hm, h⟩ := h
  refine ⟨a, c, rfl, hc, hm, fun hn => ?_⟩
  obtain ⟨bk, o, rfl, hb, h'⟩ := h hn
  exact ⟨bk, o, rfl, by omega, h'⟩
theorem RK.In.keeps {R : RK α} {N : Nat} {w w' : World} {v : Value} {L : List α} {F : List Nat} (h : R.In N w v L) (hk : Keeps F w w') (hF : L ≠ [] → ∀ q ∈ own v, q ∉ F) : R.In N w' v L := by
  obtain ⟨a, c, rfl, hc, hm, h⟩ := h
  refine ⟨a, c, rfl, hc, hm, fun hn => ?_⟩
  obtain ⟨bk, o, rfl, hb, h'⟩ := h hn
  exact ⟨bk, o, rfl, hb, fun j hj i u hi => hk.cell (h' j hj i u hi) (hF hn bk (by simp [own, Value.ownBlock]))⟩
theorem RK.In.old {R : RK α} {N : Nat} {w : World} {v : Value} {L : List α} (h : R.In N w v L) (hn : L ≠ []) : ∀ q ∈ own v, q < N := by
  obtain ⟨a, c, rfl, hc, hm, h⟩ := h
  obtain ⟨bk, o, rfl, hb, h'⟩ := h hn
  intro q hq
  simp [own, Value.ownBlock] at hq
  omega
/-- Nothing is appended. -/
theorem RK.append0 (R : RK α) (w : World) (a b : Option Addr) (n c d : Nat) (hc : n ≤ c) : (Builtin.append_ #[R.Sl, R.Sl] R.Sl #[.slice a n c, .slice b 0 d]).run Tryz.prog w = .ok (.slice a n c) w := by
  have hsz := run_sizeOf (P := Tryz.prog) (w := w) R.hi
  have hlc : ∀ a : Addr, (loadCells a 0).run Tryz.prog w = .ok #[] w := fun a => by simp [loadCells, loadCellsFrom]
  have hsc : ∀ a : Addr, (storeCells a []).run Tryz.prog w = .ok () w := fun a => by simp [storeCells]
  cases a <;> cases b <;> simp [Builtin.append_, run_underlying R.und, hsz, Builtin.lenOf, Builtin.firstCells, hlc, hsc, hc, Result.andThen, Sem.run_bind]
theorem RK.row_cells (R : RK α) {w : World} {bk : Nat} : ∀ (M : List α) (o : Nat), (∀ j (h : j < M.length), w.rangeAt bk (o + j * R.s) (R.cs M[j])) → ∀ j u, (R.row M)[j]? = some u → w.cell? ⟨bk, o + j, none⟩ = some u
  | [], o, _, j, u, h => by simp [RK.row] at h
  | x :: r, o, H, j, u, h => by
    rw [show R.row (x :: r) = R.cs x ++ R.row r from rfl] at h
    by_cases hj : j < R.s
    · rw [List.getElem?_append_left (by rw [R.len]; exact hj)] at h
      have := H 0 (by simp) j u h
      simpa using this
    · rw [List.getElem?_append_right (by rw [R.len]; omega), R.len] at h
      have := R.row_cells r (o + R.s) (fun i hi => by
        have h2 := H (i + 1) (by simp; omega)
        rw [Nat.add_mul, Nat.one_mul] at h2
        rw [show o + R.s + i * R.s = o + (i * R.s + R.s) by omega]
        exact h2) (j - R.s) u h
      rw [show o + R.s + (j - R.s) = o + j by omega] at this
      exact this
/-- Any slice is appended. -/
theorem RK.appendIn (R : RK α) (w : World) (base : Nat) (hbase : base ≤ w.heap.size) (v : Value) (L : List α) (hrow : R.Own base w v L) {N : Nat} {u : Value} {M : List α} (hu : R.In N w u M) (hn : L.length + M.length ≤ 100000000) :
    ∃ v' w', (Builtin.append_ #[R.Sl, R.Sl] R.Sl #[v, u]).run Tryz.prog w = .ok v' w' ∧ R.Own base w' v' (L ++ M) ∧ Keeps (own v) w w' ∧ FSub (own v') (own v) w.heap.size := by
  obtain ⟨a, c, rfl, hc, hm, h⟩ := hu
  by_cases h0 : M = []
  · subst h0
    obtain ⟨a2, c2, rfl, hc2, hm2⟩ := hrow.shape
    exact ⟨_, w, R.append0 w a2 a L.length c2 c hc2, by simpa using hrow, Keeps.refl _ _, FSub.refl _ _⟩
  · obtain ⟨bk, o, rfl, hb, hj⟩ := h h0
    refine R.append w base hbase v L hrow M hn ⟨bk, o, none⟩ c (fun j u hu => ?_)
    rw [Addr.add_mid]
    exact R.row_cells M o hj j u hu
end
section
variable {ops : Array Oper} {rest : List Oper} {a : Act} {w : World} {Q : Exit → Act → World → Prop}
/-- An append whose run is known. -/
theorem wpList_app {dst : Option Tmp} {t : TypeId} {pos : String} {after : Array Edge} {s x : Operand} (v u : Value) {v' : Value} {w' : World} (hs : a.eval s = v) (hx : a.eval x = u)
    (hr : (Builtin.append_ #[t, t] t #[v, u]).run Tryz.prog w = .ok v' w') (h : wpList Tryz.prog ops Q rest (a.put dst v') w') :
    wpList Tryz.prog ops Q ({ dst := dst, op := .call { callee := .builtin .append, args := #[s, x], argTypes := #[t, t] }, type := t, pos := pos, after := after, guard := none } :: rest) a w :=
  wpList_append_run rfl s x t rfl _ _ _ w' hs hx hr h
end
theorem U16.at {N : Nat} {w : World} {a : Option Addr} {n c : Nat} {l : List Int} (h : rkU.In N w (.slice a n c) l) {k : Nat} (hk : k < l.length) : ∃ bk o, a = some ⟨bk, o, none⟩ ∧ bk < N ∧ w.cell? ⟨bk, o + k, none⟩ = some (.int .u16 (l.getD k 0)) := by
  obtain ⟨_, _, e, _, _, h⟩ := h
  simp at e
  obtain ⟨rfl, -, -⟩ := e
  obtain ⟨bk, o, e, hb, hr⟩ := h (fun e => by rw [e] at hk; simp at hk)
  refine ⟨bk, o, e, hb, ?_⟩
  have h2 := hr k hk 0 (.int .u16 l[k]) rfl
  rw [show o + k * rkU.s + 0 = o + k from by show o + k * 1 + 0 = _; omega] at h2
  rw [List.getD_eq_getElem?_getD, List.getElem?_eq_getElem hk]
  exact h2
set_option maxHeartbeats 4000000
set_option maxRecDepth 100000
end Go.Proofs.YtbnhcggjcdipeaaGreatDoor
/-
  A lock as data: a step of a client's operation; calls; no program.
-/
namespace Go.Proofs.YtbnhcggjcdipeaaGreatDoor
open Go.RowKit
/-- A step: the state behind it, the answer, the error. -/
def lkX (s c : Int) (x : Opn) : Int × Ans × Int :=
  if opChk 3 x = 0 then
    (if 15 < c ∨ 16 < s then (s, ⟨0, 0⟩, 2)
     else if x.f = 10 then (if s = 0 then (c + 1, ⟨3, 0⟩, 0) else (s, ⟨4, 0⟩, 0))
     else if s = c + 1 then (0, ⟨3, 0⟩, 0) else (s, ⟨4, 0⟩, 0))
  else (s, ⟨0, 0⟩, 10)
/-- A call: a client, an operation. -/
structure Cl where
  c : Int
  x : Opn
structure Cl.In (y : Cl) : Prop where
  c0 : 0 ≤ y.c
  c1 : y.c < 256
  x : y.x.In
def clC (y : Cl) : List Value := [.int .u8 y.c, .int .u8 y.x.f, .int .u8 y.x.o, .int .u8 y.x.k, .int .u16 y.x.a, .int .u16 y.x.b]
theorem opChk3 {x : Opn} (h : opChk 3 x = 0) : x.f = 10 ∨ x.f = 11 := by
  unfold opChk at h
  split at h
  · rename_i h2
    have h3 : opM x.f = 3 := by
      have := h2
      simp only [Bool.and_eq_true, beq_iff_eq] at this
      exact this.2
    unfold opM at h3
    split at h3
    · cases h3
    · split at h3
      · cases h3
      · split at h3
        · assumption
        · cases h3
  · cases h
/-- Each step goes one of six ways. -/
theorem lkX_ways (s c : Int) (x : Opn) :
    (opChk 3 x = 10 ∧ lkX s c x = (s, ⟨0, 0⟩, 10)) ∨
    (opChk 3 x = 0 ∧ (15 < c ∨ 16 < s) ∧ lkX s c x = (s, ⟨0, 0⟩, 2)) ∨
    (opChk 3 x = 0 ∧ c ≤ 15 ∧ s ≤ 16 ∧ x.f = 10 ∧ s = 0 ∧ lkX s c x = (c + 1, ⟨3, 0⟩, 0)) ∨
    (opChk 3 x = 0 ∧ c ≤ 15 ∧ s ≤ 16 ∧ x.f = 10 ∧ s ≠ 0 ∧ lkX s c x = (s, ⟨4, 0⟩, 0)) ∨
    (opChk 3 x = 0 ∧ c ≤ 15 ∧ s ≤ 16 ∧ x.f = 11 ∧ s = c + 1 ∧ lkX s c x = (0, ⟨3, 0⟩, 0)) ∨
    (opChk 3 x = 0 ∧ c ≤ 15 ∧ s ≤ 16 ∧ x.f = 11 ∧ s ≠ c + 1 ∧ lkX s c x = (s, ⟨4, 0⟩, 0)) := by
  unfold lkX
  rcases opChk_or 3 x with h | h
  · refine .inr ?_
    rw [if_pos h]
    by_cases h2 : 15 < c ∨ 16 < s
    · exact .inl ⟨h, h2, by rw [if_pos h2]⟩
    · refine .inr ?_
      rw [if_neg h2]
      rcases opChk3 h with hf | hf
      · by_cases h3 : s = 0
        · exact .inl ⟨h, by omega, by omega, hf, h3, by rw [if_pos hf, if_pos h3]⟩
        · exact .inr (.inl ⟨h, by omega, by omega, hf, h3, by rw [if_pos hf, if_neg h3]⟩)
      · by_cases h3 : s = c + 1
        · exact .inr (.inr (.inl ⟨h, by omega, by omega, hf, h3, by rw [if_neg (by omega), if_pos h3]⟩))
        · exact .inr (.inr (.inr ⟨h, by omega, by omega, hf, h3, by rw [if_neg (by omega), if_neg h3]⟩))
  · exact .inl ⟨h, by rw [if_neg (by omega)]⟩
theorem clC_len (y : Cl) : (clC y).length = 6 := rfl
theorem clC_one (y : Cl) : ∀ v ∈ clC y, v.oneCell' = true := by
  intro v hv
  simp only [clC, List.mem_cons, List.not_mem_nil, or_false] at hv
  rcases hv with rfl | rfl | rfl | rfl | rfl | rfl <;> rfl
def clZero : Cl := ⟨0, ⟨0, 0, 0, 0, 0⟩⟩
end Go.Proofs.YtbnhcggjcdipeaaGreatDoor
/-
  A function value without variables, and a call of one; an answer stored whole.
-/
namespace Go.Proofs.YtbnhcggjcdipeaaGreatDoor
open Go.RowKit
/-- A function value without variables. -/
def fnV (k : Nat) : Value := .func (.func k) #[] #[]
section
variable {o : Oper} {a : Act} {w : World} {K : Act → World → Prop} {Q : Exit → Act → World → Prop}
theorem wp_callV (y : Operand) (args : Array Operand) (tys : Array TypeId) (ho : o.op = .call { callee := .value y, args := args, argTypes := tys }) {k : Nat} (hy : a.eval y = fnV k) (vs : List Value) (hv : args.toList.map a.eval = vs)
    (hf : ∃ fn, Tryz.prog.funcs[k]? = some fn ∧ (fn.name == "runtime.NumGoroutine") = false ∧ fn.body.isNone = false)
    (h : Calls Tryz.prog k vs.toArray w fun e w' => ∃ v, e = .returned v ∧ K (a.put o.dst v) w') : o.wp Tryz.prog a w K Q := by
  have hv2 : args.map a.eval = vs.toArray := by rw [← hv]; apply Array.ext'; simp
  obtain ⟨fn, hf, hname, hb⟩ := hf
  unfold Oper.wp execOp
  have h1 : fn.name ≠ "runtime.NumGoroutine" := by simpa using hname
  have h2 : ∃ z, fn.body = some z := by
    cases h : fn.body with
    | none => rw [h] at hb; cases hb
    | some z => exact ⟨z, rfl⟩
  obtain ⟨z, h2⟩ := h2
  simp only [ho, resolve, invoke, Sem.run_bind, Sem.run_pure, Result.andThen_ok, hv2, hy, fnV, Deferred.ofValue, Array.empty_append, Array.append_empty]
  simp [callFunc, hf, h1, h2, Sem.run]
  rw [Oper.upon_enter]
  exact h.mono fun e w' ⟨v, he, hk⟩ => by subst he; exact hk
theorem wpList_callV {ops : Array Oper} {rest : List Oper} {dst : Option Tmp} {ty : TypeId} {pos : String} {after : Array Edge} {y : Operand} {args : Array Operand} {tys : Array TypeId} {k : Nat} (vs : List Value) (hy : a.eval y = fnV k) (hv : args.toList.map a.eval = vs)
    (hf : ∃ fn, Tryz.prog.funcs[k]? = some fn ∧ (fn.name == "runtime.NumGoroutine") = false ∧ fn.body.isNone = false)
    (h : Calls Tryz.prog k vs.toArray w fun e w' => ∃ v, e = .returned v ∧ wpList Tryz.prog ops Q rest (a.put dst v) w') :
    wpList Tryz.prog ops Q ({ dst := dst, op := .call { callee := .value y, args := args, argTypes := tys }, type := ty, pos := pos, after := after, guard := none } :: rest) a w :=
  wpList_plain rfl fun _ hK => wp_callV y args tys rfl hy vs hv hf (h.mono fun _ _ ⟨v, he, hk⟩ => ⟨v, he, hK _ _ hk⟩)
theorem wp_putN {x y : Operand} (ho : o.op = .store 25 x y) {g : Nat} {old : Ans} (r : Ans) {t : TypeId}
    (hx : a.eval x = .pointer (some ⟨g, 0, none⟩)) (hy : a.eval y = .agg (ansC r).toArray) (hg : w.heap[g]? = some (.cells (ansC old).toArray t (0, 0)))
    (h : ∀ W, W.heap[g]? = some (.cells (ansC r).toArray t (0, 0)) → Keeps [g] w W → K (a.put o.dst undef) W) : o.wp Tryz.prog a w K Q :=
  wp_store_row 25 x y ho g (ansC r).toArray hx hy t (ansC old).toArray hg (by kernel_rfl) rfl (by rw [← Array.all_toList, List.all_eq_true]; exact ansC_one r) (h _ (setRow_heap w g (ansC old).toArray (ansC r).toArray t (0, 0) hg) ((Keeps.refl [g] w).setRow g _ (.inl (by simp))))
end
end Go.Proofs.YtbnhcggjcdipeaaGreatDoor
/-
  A map of a few keys, as data: items, as the document keeps them; no program.
-/
namespace Go.Proofs.YtbnhcggjcdipeaaGreatDoor
open Go.RowKit
/-- An item: a key and its number. -/
structure It where
  k : Int
  v : Int
deriving DecidableEq
end Go.Proofs.YtbnhcggjcdipeaaGreatDoor
/-
  A key map as data: for each key nothing, or a number; no program.
-/
namespace Go.Proofs.YtbnhcggjcdipeaaGreatDoor
open Go.RowKit
abbrev Kv := List (Option Int)
/-- The byte that tells which keys there are. -/
def kvH : Kv → Nat
  | [] => 0
  | none :: r => 2 * kvH r
  | some _ :: r => 1 + 2 * kvH r
def kvV (m : Kv) : List Int := m.map (·.getD 0)
/-- A state's cells. -/
def kvA (h : Int) (vs : List Int) : Array Value :=
  #[.int .u8 h, .int .u16 (vs.getD 0 0), .int .u16 (vs.getD 1 0), .int .u16 (vs.getD 2 0), .int .u16 (vs.getD 3 0), .int .u16 (vs.getD 4 0), .int .u16 (vs.getD 5 0), .int .u16 (vs.getD 6 0), .int .u16 (vs.getD 7 0)]
def kvVal (m : Kv) : Value := .agg (kvA (kvH m) (kvV m))
structure KvIn (m : Kv) : Prop where
  len : m.length = 8
  rng : ∀ (k : Nat) v, m[k]? = some (some v) → 0 ≤ v ∧ v < 65536
def kv0 : Kv := List.replicate 8 none
theorem kvV_len (m : Kv) : (kvV m).length = m.length := by simp [kvV]
theorem kvA_get (h : Int) (vs : List Int) {k : Nat} (hk : k < 8) : (kvA h vs)[1 + k]? = some (.int .u16 (vs.getD k 0)) := by
  match k, hk with
  | 0, _ | 1, _ | 2, _ | 3, _ | 4, _ | 5, _ | 6, _ | 7, _ => rfl
theorem kvA_set (h : Int) {vs : List Int} (hl : vs.length = 8) {k : Nat} (hk : k < 8) (v : Int) : (kvA h vs).setIfInBounds (1 + k) (.int .u16 v) = kvA h (vs.set k v) := by
  match vs, hl, k, hk with
  | [a, b, c, d, e, f, g, i], _, 0, _ | [a, b, c, d, e, f, g, i], _, 1, _ | [a, b, c, d, e, f, g, i], _, 2, _ | [a, b, c, d, e, f, g, i], _, 3, _
  | [a, b, c, d, e, f, g, i], _, 4, _ | [a, b, c, d, e, f, g, i], _, 5, _ | [a, b, c, d, e, f, g, i], _, 6, _ | [a, b, c, d, e, f, g, i], _, 7, _ => rfl
theorem kvA_h (h h2 : Int) (vs : List Int) : (kvA h vs).setIfInBounds 0 (.int .u8 h2) = kvA h2 vs := rfl
theorem kvA_one (h : Int) (vs : List Int) : (kvA h vs).all (·.oneCell') = true := by rw [← Array.all_toList]; rfl
theorem kvH_lt : ∀ m : Kv, kvH m < 2 ^ m.length
  | [] => by simp [kvH]
  | none :: r => by have := kvH_lt r; simp only [kvH, List.length_cons, Nat.pow_succ]; omega
  | some _ :: r => by have := kvH_lt r; simp only [kvH, List.length_cons, Nat.pow_succ]; omega
theorem kvH_bit : ∀ (m : Kv) (k : Nat), kvH m / 2 ^ k % 2 = if (m.getD k none).isSome then 1 else 0
  | [], k => by simp [kvH]
  | none :: r, 0 => by simp [kvH]
  | some _ :: r, 0 => by simp [kvH]
  | none :: r, k + 1 => by
    have h := kvH_bit r k
    rw [Nat.pow_succ, Nat.mul_comm, ← Nat.div_div_eq_div_mul, kvH, show 2 * kvH r / 2 = kvH r by omega, h]
    simp
  | some _ :: r, k + 1 => by
    have h := kvH_bit r k
    rw [Nat.pow_succ, Nat.mul_comm, ← Nat.div_div_eq_div_mul, kvH, show (1 + 2 * kvH r) / 2 = kvH r by omega, h]
    simp
theorem kvH_set : ∀ (m : Kv) (k : Nat), k < m.length → ∀ o, kvH (m.set k o) + (if (m.getD k none).isSome then 2 ^ k else 0) = kvH m + (if o.isSome then 2 ^ k else 0)
  | [], k, h, _ => by simp at h
  | a :: r, 0, _, o => by cases a <;> cases o <;> simp [kvH] <;> omega
  | a :: r, k + 1, h, o => by
    have ih := kvH_set r k (by simpa using h) o
    have e : ((a :: r).getD (k + 1) none) = r.getD k none := by simp
    rw [e]
    cases a with
    | none => simp only [List.set_cons_succ, kvH, Nat.pow_succ]; split at ih <;> split at ih <;> simp_all <;> omega
    | some x => simp only [List.set_cons_succ, kvH, Nat.pow_succ]; split at ih <;> split at ih <;> simp_all <;> omega
theorem kvV_set (m : Kv) (k : Nat) (o : Option Int) : kvV (m.set k o) = (kvV m).set k (o.getD 0) := by
  unfold kvV
  rw [List.map_set]
theorem kvV_getD {m : Kv} {k : Nat} (hk : k < m.length) : (kvV m).getD k 0 = (m.getD k none).getD 0 := by
  unfold kvV
  rw [List.getD_eq_getElem?_getD, List.getElem?_map, List.getElem?_eq_getElem hk, List.getD_eq_getElem?_getD, List.getElem?_eq_getElem hk]
  rfl
theorem KvIn.set {m : Kv} (h : KvIn m) (k : Nat) {o : Option Int} (ho : ∀ v, o = some v → 0 ≤ v ∧ v < 65536) : KvIn (m.set k o) := by
  refine ⟨by rw [List.length_set]; exact h.len, fun j v hj => ?_⟩
  rw [List.getElem?_set] at hj
  split at hj
  · split at hj
    · exact ho v (by simpa using hj)
    · cases hj
  · exact h.rng j v hj
theorem KvIn.get {m : Kv} (h : KvIn m) {k : Nat} {v : Int} (hv : m.getD k none = some v) : 0 ≤ v ∧ v < 65536 := by
  refine h.rng k v ?_
  rw [List.getD_eq_getElem?_getD] at hv
  cases hk : m[k]? with
  | none => rw [hk] at hv; cases hv
  | some o => rw [hk] at hv; simp at hv; rw [hv]
theorem kv0_in : KvIn kv0 := ⟨rfl, fun k v h => by
  simp only [kv0, List.getElem?_replicate] at h
  split at h <;> simp at h⟩
theorem KvIn.small {m : Kv} (h : KvIn m) : kvH m < 256 := by
  have := kvH_lt m
  rw [h.len] at this
  exact this
/-- What a state's keys are told as. -/
def itOf : Nat → Kv → List It
  | _, [] => []
  | n, none :: r => itOf (n + 1) r
  | n, some v :: r => ⟨n, v⟩ :: itOf (n + 1) r
theorem itOf_app : ∀ (n : Nat) (l m : Kv), itOf n (l ++ m) = itOf n l ++ itOf (n + l.length) m
  | n, [], m => by simp [itOf]
  | n, none :: r, m => by rw [List.cons_append, itOf, itOf, itOf_app, List.length_cons, show n + 1 + r.length = n + (r.length + 1) by omega]
  | n, some v :: r, m => by rw [List.cons_append, itOf, itOf, itOf_app, List.length_cons, show n + 1 + r.length = n + (r.length + 1) by omega]; rfl
theorem itOf_len : ∀ (n : Nat) (l : Kv), (itOf n l).length ≤ l.length
  | _, [] => Nat.le_refl _
  | n, none :: r => by have := itOf_len (n + 1) r; simp only [itOf, List.length_cons]; omega
  | n, some v :: r => by have := itOf_len (n + 1) r; simp only [itOf, List.length_cons]; omega
theorem itOf_next {m : Kv} {k : Nat} (hk : k < m.length) : itOf 0 (m.take (k + 1)) = itOf 0 (m.take k) ++ (match m.getD k none with | some v => [⟨k, v⟩] | none => []) := by
  rw [List.take_add_one, List.getElem?_eq_getElem hk, Option.toList_some, itOf_app, List.length_take, Nat.min_eq_left (by omega), Nat.zero_add]
  congr 1
  rw [List.getD_eq_getElem?_getD, List.getElem?_eq_getElem hk, Option.getD_some]
  cases m[k] <;> rfl
theorem itOf_keys : ∀ (n : Nat) (m : Kv), ∀ x ∈ itOf n m, (n : Int) ≤ x.k ∧ x.k < n + m.length
  | n, [], x, h => by cases h
  | n, none :: r, x, h => by
    have := itOf_keys (n + 1) r x h
    simp only [List.length_cons]; omega
  | n, some v :: r, x, h => by
    rcases List.mem_cons.1 h with rfl | h
    · simp only [List.length_cons]; omega
    · have := itOf_keys (n + 1) r x h
      simp only [List.length_cons]; omega
end Go.Proofs.YtbnhcggjcdipeaaGreatDoor
/-
  A key map's steps: on what stands under each key; the document's are the same.
-/
namespace Go.Proofs.YtbnhcggjcdipeaaGreatDoor
open Go.RowKit
/-- A step. -/
def ksX (m : Kv) (x : Opn) : Kv × Ans × Int :=
  if 7 < x.k ∨ x.f < 6 ∨ 9 < x.f then (m, ⟨0, 0⟩, 10)
  else if x.f = 7 then (m.set x.k.toNat (some x.a), ⟨0, 0⟩, 0)
  else match m.getD x.k.toNat none with
    | none => if x.f = 6 then (m, ⟨2, 0⟩, 0) else (m, ⟨4, 0⟩, 0)
    | some v =>
      if x.f = 6 then (m, ⟨1, v⟩, 0)
      else if x.f = 8 then (m.set x.k.toNat none, ⟨3, 0⟩, 0)
      else if v = x.a then (m.set x.k.toNat (some x.b), ⟨3, 0⟩, 0) else (m, ⟨4, 0⟩, 0)
theorem ksX_in {m : Kv} {x : Opn} (h : KvIn m) (hx : x.In) : KvIn (ksX m x).1 := by
  unfold ksX
  split
  · exact h
  · split
    · exact h.set _ (fun v e => by obtain rfl := Option.some.inj e; exact ⟨hx.a0, hx.a1⟩)
    · split
      · split <;> exact h
      · split
        · exact h
        · split
          · exact h.set _ (fun v e => by cases e)
          · split
            · exact h.set _ (fun v e => by obtain rfl := Option.some.inj e; exact ⟨hx.b0, hx.b1⟩)
            · exact h
end Go.Proofs.YtbnhcggjcdipeaaGreatDoor
