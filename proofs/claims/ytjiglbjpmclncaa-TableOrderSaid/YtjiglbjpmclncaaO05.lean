/-
  Rows of tables in memory: the document's.
-/
import Derived.Test.YtjiglbjpmclncaaO02
import Derived.Test.YtjiglbjpmclncaaO04
set_option linter.unusedSimpArgs false
set_option linter.unusedVariables false
namespace Go.Proofs.Ytjiglbjpmclncaa
open Go.RowKit
/-- A row's twelve cells. -/
def rwC (r : Rw) : List Value := [.int .u8 r.c, .int .u16 r.id, .int .u8 r.o.f, .int .u8 r.o.o, .int .u8 r.o.k, .int .u16 r.o.a, .int .u16 r.o.b, .int .u8 r.rk, .int .u16 r.rv, .int .u8 r.st, .int .i64 r.fr, .int .i64 r.to]
theorem rwC_len (r : Rw) : (rwC r).length = 12 := rfl
theorem rwC_one (r : Rw) : ∀ v ∈ rwC r, v.oneCell' = true := by
  intro v hv
  simp only [rwC, List.mem_cons, List.not_mem_nil, or_false] at hv
  rcases hv with rfl | rfl | rfl | rfl | rfl | rfl | rfl | rfl | rfl | rfl | rfl | rfl <;> rfl
theorem Try.infoRow8 : (Try.prog.info? 45).map (fun i => (i.zero, i.size, i.bytes)) = some (some (.agg (rwC ⟨0, 0, ⟨0, 0, 0, 0, 0⟩, 0, 0, 0, 0, 0⟩).toArray), 12, 40) := by kernel_rfl
noncomputable def rk8 : RK Rw :=
  { T := 45, Sl := 53, s := 12, b := 40, cs := rwC, i := (info_parts Try.infoRow8).choose, z := .agg (rwC ⟨0, 0, ⟨0, 0, 0, 0, 0⟩, 0, 0, 0, 0, 0⟩).toArray,
    len := rwC_len, one := rwC_one, s0 := by decide, b1 := by decide, und := Try.underlying53,
    hi := (info_parts Try.infoRow8).choose_spec.1, hz := (info_parts Try.infoRow8).choose_spec.2.1, hs := (info_parts Try.infoRow8).choose_spec.2.2.1, hb := (info_parts Try.infoRow8).choose_spec.2.2.2, hzs := rfl }
/-- The document's table: its rows, the last moment. -/
structure T8At (b base : Nat) (w : World) (v : Value) (t : Tb) : Prop where
  heap : w.heap[b]? = some (.cells #[v, .int .i64 t.last] 55 (0, 0))
  row : rk8.Own base w v t.L
  bb : b < base
  few : t.L.length ≤ 100000
theorem T8At.keeps {b base : Nat} {w w' : World} {v : Value} {t : Tb} {F : List Nat} (h : T8At b base w v t) (hk : Keeps F w w') (hb : b ∉ F) (hF : ∀ q ∈ own v, q ∉ F) : T8At b base w' v t :=
  ⟨hk.heap h.heap hb, h.row.keeps hk hF, h.bb, h.few⟩
theorem T8At.new {b base : Nat} {w w' : World} {v : Value} {t : Tb} (h : T8At b base w v t) (hk : Keeps [] w w') : T8At b base w' v t := h.keeps hk (by simp) (by simp)
theorem T8At.cells {b base : Nat} {w : World} {v : Value} {t : Tb} (h : T8At b base w v t) : w.cell? ⟨b, 0, none⟩ = some v ∧ w.cell? ⟨b, 1, none⟩ = some (.int .i64 t.last) := by
  constructor <;> simp [World.cell?, h.heap]
end Go.Proofs.Ytjiglbjpmclncaa
/-
  The document's table: its small functions.
-/
namespace Go.Proofs.Ytjiglbjpmclncaa
open Go.RowKit
set_option maxHeartbeats 8000000
set_option maxRecDepth 100000
/-- A row's cells, one by one. -/
theorem rw_cells {w : World} {g o : Nat} {r : Rw} (h : w.rangeAt g o (rwC r)) : w.cell? ⟨g, o, none⟩ = some (.int .u8 r.c) ∧ w.cell? ⟨g, o + 1, none⟩ = some (.int .u16 r.id) ∧ w.cell? ⟨g, o + 9, none⟩ = some (.int .u8 r.st) ∧ w.cell? ⟨g, o + 10, none⟩ = some (.int .i64 r.fr) ∧ w.cell? ⟨g, o + 11, none⟩ = some (.int .i64 r.to) :=
  ⟨h 0 _ rfl, h 1 _ rfl, h 9 _ rfl, h 10 _ rfl, h 11 _ rfl⟩
theorem rw_cell {w : World} {b : Nat} {T : TypeId} {r : Rw} (h : w.heap[b]? = some (.cells (rwC r).toArray T (0, 0))) (i : Nat) {v : Value} (hi : (rwC r)[i]? = some v) : w.cell? ⟨b, i, none⟩ = some v := by
  simp only [World.cell?, h]
  simpa using hi
theorem tbCount_take {l : List Rw} {k : Nat} (hk : k < l.length) (st last : Int) : tbCount ⟨l.take (k + 1), last⟩ st = tbCount ⟨l.take k, last⟩ st + if (l[k]).st = st then 1 else 0 := by
  unfold tbCount
  rw [List.take_add_one, List.getElem?_eq_getElem hk, Option.toList_some, List.filter_append, List.length_append]
  by_cases e : (l[k]).st = st <;> simp [e]
end Go.Proofs.Ytjiglbjpmclncaa
/-
  The document's table: laws for whole rows; Find.
-/
namespace Go.Proofs.Ytjiglbjpmclncaa
open Go.RowKit
section
variable {ops : Array Oper} {rest : List Oper} {a : Act} {w : World} {Q : Exit → Act → World → Prop}
end
def rwZero : Rw := ⟨0, 0, ⟨0, 0, 0, 0, 0⟩, 0, 0, 0, 0, 0⟩
set_option maxHeartbeats 8000000
set_option maxRecDepth 100000
end Go.Proofs.Ytjiglbjpmclncaa
