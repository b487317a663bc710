/-
  Any struct by its cells, references and all: loads, stores; the document's object in memory.
-/
import Derived.Lib.ParseIntBCases
import Derived.Lib.IndexMore
import Derived.Lib.ItoaMem
import Derived.Shelf.Lay
import Derived.Shelf.LaySoft
import Derived.Shelf.Strings.Builder1
import Derived.Test.YtbeniihbejakaaaDoorProg
import Derived.Laws.ResultCell
import Derived.Deep.RegionHeld3
import Derived.BigQuiet
import Derived.DeepKeys
import Derived.Test.YtbeniihbejakaaaDoorRows
import Derived.WalkKit
import Derived.WalkSpells
import Derived.WalkLawsBesides
import Derived.StillTailTactics
import Derived.Laws.Tables
import Derived.Test.YtbeniihbejakaaaDoorBD05
import Derived.Test.YtbeniihbejakaaaDoorBD01
import Derived.Test.YtbeniihbejakaaaDoorBD02
import Derived.Test.YtbeniihbejakaaaDoorBD06
import Derived.Test.YtbeniihbejakaaaDoorBD07
import Derived.Test.YtbeniihbejakaaaDoorBD08
import Derived.Test.YtbeniihbejakaaaDoorBD10
import Derived.Test.YtbeniihbejakaaaDoorBD09
set_option linter.unusedSimpArgs false
set_option linter.unusedVariables false
namespace Go.Proofs.YtbeniihbejakaaaDoor
open Go.RowKit
set_option maxRecDepth 100000
/-- A struct's type, and how many cells it has. -/
structure SK where
  T : TypeId
  s : Nat
  d : TypeDesc
  und : Tryd.prog.underlying T = some d
  row : d.isRow = true
  size : (Tryd.prog.info? T).map (·.size) = some s
/-- Cells of one such struct. -/
def SK.Ok (R : SK) (A : List Value) : Prop := A.length = R.s ∧ ∀ v ∈ A, v.oneCell' = true
theorem SK.Ok.all {R : SK} {A : List Value} (h : R.Ok A) : A.toArray.all (·.oneCell') = true := by rw [← Array.all_toList, List.all_eq_true]; exact h.2
section
variable {ops : Array Oper} {rest : List Oper} {o : Oper} {a : Act} {w : World} {K : Act → World → Prop} {Q : Exit → Act → World → Prop} {S : World → Prop}
theorem SK.wp_load (R : SK) {x : Operand} (ho : o.op = .load R.T x) {g off : Nat} {A : List Value} (hA : R.Ok A) (hx : a.eval x = .pointer (some ⟨g, off, none⟩)) (hr : w.rangeAt g off A) (h : K (a.put o.dst (.agg A.toArray)) w) : o.wp Tryd.prog a w K Q :=
  wp_load_mid R.T x ho g off hx A _ hr R.und R.row (by rw [R.size, hA.1]) h
theorem SK.wpList_load (R : SK) {dst : Option Tmp} {ty : TypeId} {pos : String} {after : Array Edge} {gd : Option (Nat × Bool)} {x : Operand} {g off : Nat} {A : List Value} (hA : R.Ok A)
    (hw : Region.wanted { dst := dst, op := .load R.T x, type := ty, pos := pos, after := after, guard := gd } (yielded ops a.tmps) = true)
    (hx : a.eval x = .pointer (some ⟨g, off, none⟩)) (hr : w.rangeAt g off A) (h : wpList Tryd.prog ops Q rest (a.put dst (.agg A.toArray)) w) :
    wpList Tryd.prog ops Q ({ dst := dst, op := .load R.T x, type := ty, pos := pos, after := after, guard := gd } :: rest) a w :=
  wpList_step fun _ hK => by
    rw [if_pos hw]
    exact R.wp_load rfl hA hx hr (hK _ _ h)
theorem SK.yields (R : SK) {A : List Value} (hA : R.Ok A) (hw : Region.wanted o (yielded ops a.tmps) = true) (x : Operand) (ho : o.op = .load R.T x) (g off : Nat) (hx : a.eval x = .pointer (some ⟨g, off, none⟩)) (hS : ∀ w, S w → w.rangeAt g off A) :
    YieldsIf Tryd.prog ops S o (.agg A.toArray) a :=
  yieldsIf_load_mid (P := Tryd.prog) hw R.T x ho g off hx A _ hS R.und R.row (by rw [R.size, hA.1])
theorem SK.wp_put (R : SK) {x y : Operand} (ho : o.op = .store R.T x y) {g : Nat} {old A : List Value} (hA : R.Ok A) (hO : R.Ok old) {t : TypeId}
    (hx : a.eval x = .pointer (some ⟨g, 0, none⟩)) (hy : a.eval y = .agg A.toArray) (hg : w.heap[g]? = some (.cells old.toArray t (0, 0)))
    (h : ∀ W, W.heap[g]? = some (.cells A.toArray t (0, 0)) → Keeps [g] w W → K (a.put o.dst undef) W) : o.wp Tryd.prog a w K Q :=
  wp_store_row R.T x y ho g A.toArray hx hy t old.toArray hg (by rw [R.size, List.size_toArray, hA.1]) (by rw [List.size_toArray, List.size_toArray, hA.1, hO.1]) hA.all (h _ (setRow_heap w g old.toArray A.toArray t (0, 0) hg) ((Keeps.refl [g] w).setRow g _ (.inl (by simp))))
theorem SK.wpList_put (R : SK) {dst : Option Tmp} {ty : TypeId} {pos : String} {after : Array Edge} {x y : Operand} {g : Nat} {old A : List Value} (hA : R.Ok A) (hO : R.Ok old) {t : TypeId}
    (hx : a.eval x = .pointer (some ⟨g, 0, none⟩)) (hy : a.eval y = .agg A.toArray) (hg : w.heap[g]? = some (.cells old.toArray t (0, 0)))
    (h : ∀ W, W.heap[g]? = some (.cells A.toArray t (0, 0)) → Keeps [g] w W → wpList Tryd.prog ops Q rest (a.put dst undef) W) :
    wpList Tryd.prog ops Q ({ dst := dst, op := .store R.T x y, type := ty, pos := pos, after := after, guard := none } :: rest) a w :=
  wpList_plain rfl fun _ hK => R.wp_put rfl hA hO hx hy hg (fun W h1 h2 => hK _ _ (h W h1 h2))
/-- One cell of a struct is stored. -/
theorem run_put13 {ty : TypeId} (hi : (Tryd.prog.info? ty).map (·.size) = some 1) {g j : Nat} {v : Value} {A : Array Value} {t : TypeId} (hg : w.heap[g]? = some (.cells A t (0, 0))) (hj : j < A.size) (h1 : v.oneCell' = true) :
    (storeVar ty ⟨g, j, none⟩ v).run Tryd.prog w = .ok () (w.setCell ⟨g, j, none⟩ v) := by
  have hcell : w.cell? ⟨g, j, none⟩ = some A[j] := by simp [World.cell?, hg, hj]
  have hfr : w.frozen? ⟨g, j, none⟩ = false := by simp [World.frozen?, hg]
  have := run_storeCells_cells (P := Tryd.prog) g j [v] 0 w (fun k hk => by
    obtain rfl : k = 0 := by simpa using hk
    show (w.cell? ⟨g, j, none⟩).isSome = true
    rw [hcell]; rfl) (fun k hk => by
    obtain rfl : k = 0 := by simpa using hk
    exact hfr) (fun u hu => by simp at hu; subst hu; exact h1)
  have hc : v.cells = #[v] := by cases v <;> first | rfl | cases h1
  cases hq : Tryd.prog.info? ty with
  | none => simp [hq] at hi
  | some i =>
    have hs : i.size = 1 := by simpa [hq] using hi
    simp only [Nat.add_zero] at this
    simp [storeVar, sizeOf, typeInfo, hq, hc, hs, this]
    rfl
end
/-- Cells that stand in a block. -/
theorem block_range {w : World} {g : Nat} {A : List Value} {t : TypeId} (h : w.heap[g]? = some (.cells A.toArray t (0, 0))) : w.rangeAt g 0 A := fun j v hv => by
  rw [Nat.zero_add]
  exact cell_lit h j (by simpa using hv)
theorem results_sk {fn : Func} {p : Tmp} (R : SK) (h : fn.results = #[.cell p R.T]) (tmps : Array Value) (w : World) (b : Nat) {A : List Value} (hA : R.Ok A) {t : TypeId}
    (hp : tmps.getD p undef = .pointer (some ⟨b, 0, none⟩)) (hb : w.heap[b]? = some (.cells A.toArray t (0, 0))) : (results fn tmps).run Tryd.prog w = .ok (.agg A.toArray) w := by
  have h1 : (loadVar R.T ⟨b, 0, none⟩).run Tryd.prog w = .ok (.agg A.toArray) w := run_loadVar_mid w b 0 R.T A _ (block_range hb) R.und R.row (by rw [R.size, hA.1])
  have hp' : tmps[p]?.getD undef = .pointer (some ⟨b, 0, none⟩) := by simpa using hp
  simp only [results, h]
  simp [Sem.run_bind, Result.andThen, hp', asAddr, h1]
/-- A struct and a number are handed back. -/
theorem results_sk1 {fn : Func} {p u : Tmp} (R : SK) (h : fn.results = #[.cell p R.T, .tmp u]) (tmps : Array Value) (w : World) (b : Nat) {A : List Value} (hA : R.Ok A) {t : TypeId}
    (hp : tmps.getD p undef = .pointer (some ⟨b, 0, none⟩)) (hb : w.heap[b]? = some (.cells A.toArray t (0, 0))) : (results fn tmps).run Tryd.prog w = .ok (.tuple #[.agg A.toArray, tmps.getD u undef]) w := by
  have h1 : (loadVar R.T ⟨b, 0, none⟩).run Tryd.prog w = .ok (.agg A.toArray) w := run_loadVar_mid w b 0 R.T A _ (block_range hb) R.und R.row (by rw [R.size, hA.1])
  have hp' : tmps[p]?.getD undef = .pointer (some ⟨b, 0, none⟩) := by simpa using hp
  simp only [results, h]
  simp [Sem.run_bind, Result.andThen, hp', asAddr, h1]
section
variable {ops : Array Oper} {rest : List Oper} {a : Act} {w : World} {Q : Exit → Act → World → Prop}
end
end Go.Proofs.YtbeniihbejakaaaDoor
/-
  The document's object: Same.
-/
namespace Go.Proofs.YtbeniihbejakaaaDoor
open Go.RowKit
set_option maxHeartbeats 8000000
set_option maxRecDepth 100000
theorem two_blocks (w : World) (A B : Array Value) (t u : TypeId) : ((w.alloc (.cells A t)).alloc (.cells B u)).heap.size = w.heap.size + 2 := by
  rw [show ((w.alloc (.cells A t)).alloc (.cells B u)).heap.size = (w.alloc (.cells A t)).heap.size + 1 from Array.size_push _, show (w.alloc (.cells A t)).heap.size = w.heap.size + 1 from Array.size_push _]
end Go.Proofs.YtbeniihbejakaaaDoor
