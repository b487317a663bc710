/-
  The program's words in memory.
-/
import Derived.Test.YtbeniihbejakaaaDoorBD04
import Derived.Test.YtbeniihbejakaaaDoorBD13
import Derived.Test.YtbeniihbejakaaaDoorBD09
set_option linter.unusedSimpArgs false
set_option linter.unusedVariables false
namespace Go.Proofs.YtbeniihbejakaaaDoor
open Go.RowKit
set_option maxRecDepth 100000
set_option maxHeartbeats 4000000
theorem Tryd.infoU64W : (Tryd.prog.info? 64).map (fun i => (i.zero, i.size, i.bytes)) = some (some (.int .u64 0), 1, 8) := by kernel_rfl
def wC (x : Nat) : List Value := [.int .u64 (x : Int)]
/-- Words, side by side. -/
noncomputable def rkW64 : RK Nat :=
  { T := 64, Sl := 25, s := 1, b := 8, cs := wC, i := (info_parts Tryd.infoU64W).choose, z := .int .u64 0,
    len := fun _ => rfl, one := by intro x v hv; simp only [wC, List.mem_cons, List.not_mem_nil, or_false] at hv; subst hv; rfl, s0 := by decide, b1 := by decide, und := Tryd.underlying25,
    hi := (info_parts Tryd.infoU64W).choose_spec.1, hz := (info_parts Tryd.infoU64W).choose_spec.2.1, hs := (info_parts Tryd.infoU64W).choose_spec.2.2.1, hb := (info_parts Tryd.infoU64W).choose_spec.2.2.2, hzs := rfl }
theorem InW_at {N : Nat} {w : World} {a : Option Addr} {n c : Nat} {l : List Nat} (h : rkW64.In N w (.slice a n c) l) {k : Nat} (hk : k < l.length) : ∃ bk o, a = some ⟨bk, o, none⟩ ∧ bk < N ∧ w.cell? ⟨bk, o + k, none⟩ = some (.int .u64 (l[k] : Nat)) := by
  obtain ⟨_, _, e, _, _, h⟩ := h
  simp at e
  obtain ⟨rfl, -, -⟩ := e
  obtain ⟨bk, o, e, hb, hr⟩ := h (fun e => by rw [e] at hk; simp at hk)
  refine ⟨bk, o, e, hb, ?_⟩
  have := hr k hk 0 (.int .u64 (l[k] : Nat)) rfl
  rw [show o + k * rkW64.s + 0 = o + k from by show o + k * 1 + 0 = _; omega] at this
  exact this
theorem InW_getD {N : Nat} {w : World} {a : Option Addr} {n c : Nat} {l : List Nat} (h : rkW64.In N w (.slice a n c) l) {k : Nat} (hk : k < l.length) : ∃ bk o, a = some ⟨bk, o, none⟩ ∧ bk < N ∧ w.cell? ⟨bk, o + k, none⟩ = some (.int .u64 (l.getD k 0 : Nat)) := by
  rw [getW_in l 0 hk]; exact InW_at h hk
theorem rowW_rep : ∀ n : Nat, rkW64.row (List.replicate n 0) = List.replicate n (.int .u64 0)
  | 0 => rfl
  | n + 1 => by
    show (List.replicate (n + 1) (0 : Nat)).flatMap wC = _
    rw [List.replicate_succ, List.flatMap_cons]
    have := rowW_rep n
    rw [show (List.replicate n (0 : Nat)).flatMap wC = rkW64.row (List.replicate n 0) from rfl, this]; rfl
theorem run_makeW (w : World) (n : Nat) (hn : n ≤ 10000) : ∃ w', (Instr.makeSlice 25 (.int .i64 (n : Int)) (.int .i64 (n : Int))).run Tryd.prog w = .ok (.slice (some ⟨w.heap.size, 0, none⟩) n n) w' ∧ rkW64.Own w.heap.size w' (.slice (some ⟨w.heap.size, 0, none⟩) n n) (List.replicate n 0) ∧ Keeps [] w w' := by
  obtain ⟨w', h1, h2, h3⟩ := run_makeSlice_full (P := Tryd.prog) w w.heap.size 25 64 rkW64.i _ 1 rkW64.und rkW64.hi rkW64.hz rkW64.hs .i64 .i64 n (by omega) (by rw [rkW64.hb]; show 8 * n ≤ _; omega) (by unfold maxLen; omega) (Nat.le_refl _)
  refine ⟨w', h1, ?_, (Keeps.refl _ w).grown (v := .slice none 0 0) h3 (fun q hq => by simp [own, Value.ownBlock] at hq)⟩
  have e : (madeCells (Value.int .u64 0).cells (n * 1)).toList = rkW64.row (List.replicate n 0) := by
    rw [Nat.mul_one]
    rw [rowW_rep]
    unfold madeCells
    apply List.ext_getElem
    · simp
    · intro i h5 h6
      have e0 : (Value.int .u64 0).cells = #[Value.int .u64 0] := rfl
      simp [e0, Nat.mod_one]
  show w'.ownsRow _ _ _ _ _ _
  rw [List.length_replicate, ← e]
  exact h2
/-- One word of a row is put anew. -/
theorem W64.put {base : Nat} {w : World} {g cap n : Nat} {L : List Nat} (h : rkW64.Own base w (.slice (some ⟨g, 0, none⟩) n cap) L) (j : Nat) (hj : j < L.length) (x : Nat) :
    rkW64.Own base (w.setCell ⟨g, j, none⟩ (.int .u64 (x : Int))) (.slice (some ⟨g, 0, none⟩) n cap) (L.set j x) ∧ w.frozen? ⟨g, j, none⟩ = false ∧ w.cell? ⟨g, j, none⟩ = some (.int .u64 (L.getD j 0 : Nat)) := by
  have h1 := own_cell h j hj 0 (by decide) x (.int .u64 (x : Int)) rfl
  have h2 := own_there h j hj 0 (by decide)
  rw [show j * rkW64.s + 0 = j from by show j * 1 + 0 = j; omega] at h1 h2
  refine ⟨h1, h2.2, ?_⟩
  obtain ⟨b, o, e, _, hc⟩ := InW_getD h.in_ hj
  simp only [Option.some.injEq, Addr.mk.injEq, and_true] at e
  obtain ⟨rfl, rfl⟩ := e
  simpa using hc
section
variable {ops : Array Oper} {rest : List Oper} {S : World → Prop} {o : Oper} {a : Act} {w : World} {K : Act → World → Prop} {Q : Exit → Act → World → Prop}
theorem run_putW {g j : Nat} {z old : Int} (hc : w.cell? ⟨g, j, none⟩ = some (.int .u64 old)) (hf : w.frozen? ⟨g, j, none⟩ = false) :
    (storeVar 64 ⟨g, j, none⟩ (.int .u64 z)).run Tryd.prog w = .ok () (w.setCell ⟨g, j, none⟩ (.int .u64 z)) := by
  have := run_storeCells_cells (P := Tryd.prog) g j [.int .u64 z] 0 w (fun k hk => by
    obtain rfl : k = 0 := by simpa using hk
    show (w.cell? ⟨g, j, none⟩).isSome = true
    rw [hc]; rfl) (fun k hk => by
    obtain rfl : k = 0 := by simpa using hk
    exact hf) (fun u hu => by simp at hu; subst hu; rfl)
  have hi := Tryd.infoU64W
  cases hq : Tryd.prog.info? 64 with
  | none => simp [hq] at hi
  | some i =>
    have hs : i.size = 1 := by simp [hq] at hi; exact hi.2.1
    simp only [Nat.add_zero] at this
    simp [storeVar, sizeOf, typeInfo, hq, Value.cells, hs, this]
    rfl
theorem wp_putW {x y : Operand} (ho : o.op = .store 64 x y) {g j : Nat} {z old : Int} (hx : a.eval x = .pointer (some ⟨g, j, none⟩)) (hy : a.eval y = .int .u64 z) (hc : w.cell? ⟨g, j, none⟩ = some (.int .u64 old)) (hf : w.frozen? ⟨g, j, none⟩ = false)
    (h : K (a.put o.dst undef) (w.setCell ⟨g, j, none⟩ (.int .u64 z))) : o.wp Tryd.prog a w K Q := by
  unfold Oper.wp execOp
  simp only [ho, hx, hy, Instr.storeAt, Instr.sureAddr, Sem.run_bind, Sem.run_pure, Result.andThen_ok, run_putW hc hf]
  exact h
theorem run_loadW (w : World) (g j : Nat) (z : Value) (hc : w.cell? ⟨g, j, none⟩ = some z) : (loadVar 64 ⟨g, j, none⟩).run Tryd.prog w = .ok z w := by
  simp [loadVar, run_underlying Tryd.underlying64, hc]
theorem wp_loadW {x : Operand} (ho : o.op = .load 64 x) {g j : Nat} {z : Value} (hx : a.eval x = .pointer (some ⟨g, j, none⟩)) (hc : w.cell? ⟨g, j, none⟩ = some z) (h : K (a.put o.dst z) w) : o.wp Tryd.prog a w K Q := by
  have hrun := run_loadW w g j z hc
  unfold Oper.wp execOp
  simp only [ho, hx, Instr.loadAt, Instr.sureAddr, Sem.run_bind, Sem.run_pure, Result.andThen_ok, hrun]
  exact h
theorem wp_makeW (x y : Operand) (ho : o.op = .makeSlice 25 x y) {p q v : Value} {w' : World} (hx : a.eval x = p) (hy : a.eval y = q)
    (hrun : (Instr.makeSlice 25 p q).run Tryd.prog w = .ok v w') (h : K (a.put o.dst v) w') : o.wp Tryd.prog a w K Q := by
  unfold Oper.wp
  simp [execOp, ho, hx, hy, hrun, Result.andThen]
  exact h
theorem wpList_makeW {dst : Option Tmp} {ty : TypeId} {pos : String} {after : Array Edge} {x y : Operand} (p q : Value) {v : Value} {w' : World} (hx : a.eval x = p) (hy : a.eval y = q)
    (hrun : (Instr.makeSlice 25 p q).run Tryd.prog w = .ok v w') (h : wpList Tryd.prog ops Q rest (a.put dst v) w') :
    wpList Tryd.prog ops Q ({ dst := dst, op := .makeSlice 25 x y, type := ty, pos := pos, after := after, guard := none } :: rest) a w :=
  wpList_plain rfl fun _ hK => wp_makeW x y rfl hx hy hrun (hK _ _ h)
end
/-- A set of the program's. -/
def BtAt (w : World) (st : Value) (S : List Int) : Prop := ∃ v W, st = .agg #[v] ∧ rkW64.In w.heap.size w v W ∧ (∀ q ∈ own v, q < w.heap.size) ∧ WIn W S ∧ W.getLast? ≠ some 0
def btFoot : Value → List Nat
  | .agg ⟨[v]⟩ => own v
  | _ => []
theorem BtAt.keep {w w' : World} {F : List Nat} {st : Value} {S : List Int} (h : BtAt w st S) (hk : Keeps F w w') (hF : ∀ q ∈ btFoot st, q ∉ F) : BtAt w' st S := by
  obtain ⟨v, W, rfl, h1, h2, h3⟩ := h
  exact ⟨v, W, rfl, (h1.keeps hk (fun _ q hq => hF q hq)).more hk.size, fun q hq => Nat.lt_of_lt_of_le (h2 q hq) hk.size, h3⟩
theorem BtAt.cells {w : World} {st : Value} {S : List Int} (h : BtAt w st S) : ∃ A : List Value, st = .agg A.toArray ∧ skB.Ok A := by
  obtain ⟨v, W, rfl, ⟨a, c, rfl, -⟩, -⟩ := h
  exact ⟨[_], rfl, rfl, fun u hu => by simp only [List.mem_singleton] at hu; subst hu; rfl⟩
theorem BtAt.zero (w : World) : BtAt w (.agg btZ.toArray) [] :=
  ⟨_, [], rfl, ⟨none, 0, rfl, by decide, by decide, fun h => absurd rfl h⟩, fun q hq => by simp [own, Value.ownBlock] at hq, WIn.nil, by simp⟩
end Go.Proofs.YtbeniihbejakaaaDoor
