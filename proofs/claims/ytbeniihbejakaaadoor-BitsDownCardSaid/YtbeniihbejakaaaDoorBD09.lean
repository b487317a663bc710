/-
  The program's queue: Encode.
-/
import Derived.Deep.RegionHeld3
import Derived.Laws.Tables
import Derived.BigQuiet
import Derived.Deep.AppendSrc
import Derived.Lib.SliceRun
import Derived.Laws.MakeOwn
import Derived.Laws.OwnMore
import Derived.Test.YtbeniihbejakaaaDoorBD07
import Derived.Test.YtbeniihbejakaaaDoorBD05
import Derived.Test.YtbeniihbejakaaaDoorBD06
import Derived.Test.YtbeniihbejakaaaDoorBD08
import Derived.Test.YtbeniihbejakaaaDoorBD01
set_option linter.unusedSimpArgs false
set_option linter.unusedVariables false
namespace Go.Proofs.YtbeniihbejakaaaDoor
set_option maxRecDepth 100000
open Go.RowKit
theorem Tryd.infoU8B : (Tryd.prog.info? 5).map (fun i => (i.zero, i.size, i.bytes)) = some (some (.int .u8 0), 1, 1) := by kernel_rfl
def u8C (x : Int) : List Value := [.int .u8 x]
/-- Bytes, side by side. -/
noncomputable def rkB : RK Int :=
  { T := 5, Sl := 67, s := 1, b := 1, cs := u8C, i := (info_parts Tryd.infoU8B).choose, z := .int .u8 0,
    len := fun _ => rfl, one := by intro x v hv; simp only [u8C, List.mem_cons, List.not_mem_nil, or_false] at hv; subst hv; rfl, s0 := by decide, b1 := by decide, und := Tryd.underlying67,
    hi := (info_parts Tryd.infoU8B).choose_spec.1, hz := (info_parts Tryd.infoU8B).choose_spec.2.1, hs := (info_parts Tryd.infoU8B).choose_spec.2.2.1, hb := (info_parts Tryd.infoU8B).choose_spec.2.2.2, hzs := rfl }
section
variable {ops : Array Oper} {rest : List Oper} {o : Oper} {a : Act} {w : World} {K : Act → World → Prop} {Q : Exit → Act → World → Prop}
theorem wp_makeB (x y : Operand) (ho : o.op = .makeSlice 67 x y) {p q v : Value} {w' : World} (hx : a.eval x = p) (hy : a.eval y = q)
    (hr : (Instr.makeSlice 67 p q).run Tryd.prog w = .ok v w') (h : K (a.put o.dst v) w') : o.wp Tryd.prog a w K Q := by
  unfold Oper.wp
  simp [execOp, ho, hx, hy, hr, Result.andThen]
  exact h
theorem wpList_makeB {dst : Option Tmp} {ty : TypeId} {pos : String} {after : Array Edge} {x y : Operand} (p q : Value) {v : Value} {w' : World} (hx : a.eval x = p) (hy : a.eval y = q)
    (hr : (Instr.makeSlice 67 p q).run Tryd.prog w = .ok v w') (h : wpList Tryd.prog ops Q rest (a.put dst v) w') :
    wpList Tryd.prog ops Q ({ dst := dst, op := .makeSlice 67 x y, type := ty, pos := pos, after := after, guard := none } :: rest) a w :=
  wpList_plain rfl fun _ hK => wp_makeB x y rfl hx hy hr (hK _ _ h)
end
theorem conv_own (w : World) {N : Nat} {v : Value} {L : List UInt8} (h : rkB.Own N w v (nb L)) : (convert 67 9 v).run Tryd.prog w = .ok (.string (bs L)) w := by
  by_cases hL : L = []
  · subst hL
    obtain ⟨a, c, rfl, -, -⟩ := h.shape
    rw [show (nb ([] : List UInt8)).length = 0 from rfl]
    cases a with
    | none => exact run_convert_bytes_nil _ _ _ Tryd.underlying67 Tryd.underlying5 0 _ _ Tryd.underlying9
    | some ad =>
      obtain ⟨b, o, sp⟩ := ad
      rcases h.2 with ⟨e, _⟩ | ⟨g, cap, cur, e, _⟩
      · cases e
      · simp only [Value.slice.injEq, Option.some.injEq, Addr.mk.injEq] at e
        obtain ⟨⟨rfl, rfl, rfl⟩, -, rfl⟩ := e
        have := run_convert_bytes_arg w 67 5 Tryd.underlying67 Tryd.underlying5 b 0 0 c [] rfl (fun i hi => absurd hi (Nat.not_lt_zero _)) 9 Tryd.underlying9
        exact this
  · obtain ⟨g, cap, rfl, _, _, _, _, hr⟩ := h.at (fun e => hL (by simpa [nb] using e))
    rw [← str_nb L]
    refine run_convert_bytes_arg w 67 5 Tryd.underlying67 Tryd.underlying5 g 0 _ cap (nb L) rfl (fun i hi => ?_) 9 Tryd.underlying9
    have := hr i hi 0 (.int .u8 (nb L)[i]) rfl
    rw [show i * rkB.s + 0 = 0 + i from by show i * 1 + 0 = _; omega] at this
    rw [List.getD_eq_getElem?_getD, List.getElem?_eq_getElem hi]
    exact this
set_option maxHeartbeats 8000000
set_option maxRecDepth 100000
end Go.Proofs.YtbeniihbejakaaaDoor
/-
  Slices of numbers; the document's sets: Has, Gap, Without, Down, Union.
-/
namespace Go.Proofs.YtbeniihbejakaaaDoor
open Go.RowKit
set_option maxRecDepth 100000
theorem Tryd.infoIntZ : (Tryd.prog.info? 3).map (fun i => (i.zero, i.size, i.bytes)) = some (some (.int .i64 0), 1, 8) := by kernel_rfl
def zC (x : Int) : List Value := [.int .i64 x]
/-- Numbers, side by side. -/
noncomputable def rkZ : RK Int :=
  { T := 3, Sl := 30, s := 1, b := 8, cs := zC, i := (info_parts Tryd.infoIntZ).choose, z := .int .i64 0,
    len := fun _ => rfl, one := by intro x v hv; simp only [zC, List.mem_cons, List.not_mem_nil, or_false] at hv; subst hv; rfl, s0 := by decide, b1 := by decide, und := Tryd.underlying30,
    hi := (info_parts Tryd.infoIntZ).choose_spec.1, hz := (info_parts Tryd.infoIntZ).choose_spec.2.1, hs := (info_parts Tryd.infoIntZ).choose_spec.2.2.1, hb := (info_parts Tryd.infoIntZ).choose_spec.2.2.2, hzs := rfl }
theorem InZ_at {N : Nat} {w : World} {a : Option Addr} {n c : Nat} {l : List Int} (h : rkZ.In N w (.slice a n c) l) {k : Nat} (hk : k < l.length) : ∃ bk o, a = some ⟨bk, o, none⟩ ∧ bk < N ∧ w.cell? ⟨bk, o + k, none⟩ = some (.int .i64 l[k]) := by
  obtain ⟨_, _, e, _, _, h⟩ := h
  simp at e
  obtain ⟨rfl, -, -⟩ := e
  obtain ⟨bk, o, e, hb, hr⟩ := h (fun e => by rw [e] at hk; simp at hk)
  refine ⟨bk, o, e, hb, ?_⟩
  have := hr k hk 0 (.int .i64 l[k]) rfl
  rw [show o + k * rkZ.s + 0 = o + k from by show o + k * 1 + 0 = _; omega] at this
  exact this
section
variable {ops : Array Oper} {rest : List Oper} {o : Oper} {a : Act} {w : World} {K : Act → World → Prop} {Q : Exit → Act → World → Prop}
end
set_option maxHeartbeats 4000000
theorem takeZ {l : List Int} {k : Nat} (hk : k < l.length) : l.take (k + 1) = l.take k ++ [l[k]] := by
  rw [List.take_add_one, List.getElem?_eq_getElem hk, Option.toList_some]
end Go.Proofs.YtbeniihbejakaaaDoor
/-
  The document's sets: FromKey.
-/
namespace Go.Proofs.YtbeniihbejakaaaDoor
open Go.RowKit
set_option maxRecDepth 100000
set_option maxHeartbeats 4000000
theorem bs_getZ (b : List UInt8) (i : Nat) (h : i < (bs b).size) : (bs b)[i] = b.getD i 0 := by
  have h2 : i < b.length := h
  rw [List.getD_eq_getElem?_getD, List.getElem?_eq_getElem h2]
  rfl
end Go.Proofs.YtbeniihbejakaaaDoor
/-
  The document's sets: Key.
-/
namespace Go.Proofs.YtbeniihbejakaaaDoor
open Go.RowKit
set_option maxRecDepth 100000
set_option maxHeartbeats 4000000
theorem rowB_rep : ∀ n : Nat, rkB.row (List.replicate n 0) = List.replicate n (.int .u8 0)
  | 0 => rfl
  | n + 1 => by
    show (List.replicate (n + 1) (0 : Int)).flatMap u8C = _
    rw [List.replicate_succ, List.flatMap_cons]
    have := rowB_rep n
    rw [show (List.replicate n (0 : Int)).flatMap u8C = rkB.row (List.replicate n 0) from rfl, this]; rfl
theorem run_makeZ (w : World) (n : Nat) (hn : n ≤ 10000) : ∃ w', (Instr.makeSlice 67 (.int .i64 (n : Int)) (.int .i64 (n : Int))).run Tryd.prog w = .ok (.slice (some ⟨w.heap.size, 0, none⟩) n n) w' ∧ rkB.Own w.heap.size w' (.slice (some ⟨w.heap.size, 0, none⟩) n n) (List.replicate n 0) ∧ Keeps [] w w' := by
  obtain ⟨w', h1, h2, h3⟩ := run_makeSlice_full (P := Tryd.prog) w w.heap.size 67 5 rkB.i _ 1 rkB.und rkB.hi rkB.hz rkB.hs .i64 .i64 n (by omega) (by rw [rkB.hb]; show 1 * n ≤ _; omega) (by unfold maxLen; omega) (Nat.le_refl _)
  refine ⟨w', h1, ?_, (Keeps.refl _ w).grown (v := .slice none 0 0) h3 (fun q hq => by simp [own, Value.ownBlock] at hq)⟩
  have e : (madeCells (Value.int .u8 0).cells (n * 1)).toList = rkB.row (List.replicate n 0) := by
    rw [Nat.mul_one]
    rw [rowB_rep]
    unfold madeCells
    apply List.ext_getElem
    · simp
    · intro i h5 h6
      have e0 : (Value.int .u8 0).cells = #[Value.int .u8 0] := rfl
      simp [e0, Nat.mod_one]
  show w'.ownsRow _ _ _ _ _ _
  rw [List.length_replicate, ← e]
  exact h2
section
variable {ops : Array Oper} {rest : List Oper} {S : World → Prop} {o : Oper} {a : Act} {w : World} {K : Act → World → Prop} {Q : Exit → Act → World → Prop}
end
/-- One byte of a row is put anew. -/
theorem B8.put {base : Nat} {w : World} {g cap n : Nat} {L : List Int} (h : rkB.Own base w (.slice (some ⟨g, 0, none⟩) n cap) L) (j : Nat) (hj : j < L.length) (x : Int) :
    rkB.Own base (w.setCell ⟨g, j, none⟩ (.int .u8 x)) (.slice (some ⟨g, 0, none⟩) n cap) (L.set j x) ∧ w.frozen? ⟨g, j, none⟩ = false ∧ w.cell? ⟨g, j, none⟩ = some (.int .u8 L[j]) := by
  have h1 := own_cell h j hj 0 (by decide) x (.int .u8 x) rfl
  have h2 := own_there h j hj 0 (by decide)
  rw [show j * rkB.s + 0 = j from by show j * 1 + 0 = j; omega] at h1 h2
  refine ⟨h1, h2.2, ?_⟩
  obtain ⟨_, _, e, _, _, hr⟩ := h.in_
  obtain ⟨bk, o, e2, -, hr2⟩ := hr (fun e => by rw [e] at hj; simp at hj)
  subst e2
  simp only [Value.slice.injEq, Option.some.injEq, Addr.mk.injEq, and_true] at e
  obtain ⟨⟨rfl, rfl⟩, -, -⟩ := e
  have := hr2 j hj 0 (.int .u8 L[j]) rfl
  rw [show 0 + j * rkB.s + 0 = j from by show 0 + j * 1 + 0 = j; omega] at this
  exact this
section
variable {o : Oper} {a : Act} {w : World} {K : Act → World → Prop} {Q : Exit → Act → World → Prop}
end
end Go.Proofs.YtbeniihbejakaaaDoor
