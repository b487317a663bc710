/-
  The document's table: Invoke.
-/
import Derived.StillTailTactics
import Derived.Deep.RegionHeld3
import Derived.Test.YtjiglbjpmclncaaO05
set_option linter.unusedSimpArgs false
set_option linter.unusedVariables false
namespace Go.Proofs.Ytjiglbjpmclncaa
open Go.RowKit
theorem yields_op8 {ops : Array Oper} {S : World → Prop} {o : Oper} {a : Act} {x : Opn} (hw : Region.wanted o (yielded ops a.tmps) = true) (y : Operand) (ho : o.op = .load 30 y) (b off : Nat) (hx : a.eval y = .pointer (some ⟨b, off, none⟩))
    (hS : ∀ w, S w → w.rangeAt b off [.int .u8 x.f, .int .u8 x.o, .int .u8 x.k, .int .u16 x.a, .int .u16 x.b]) : YieldsIf Try.prog ops S o (.agg #[.int .u8 x.f, .int .u8 x.o, .int .u8 x.k, .int .u16 x.a, .int .u16 x.b]) a :=
  yieldsIf_load_mid (P := Try.prog) hw 30 y ho b off hx [.int .u8 x.f, .int .u8 x.o, .int .u8 x.k, .int .u16 x.a, .int .u16 x.b] _ hS Try.underlying30 rfl (by kernel_rfl)
set_option maxHeartbeats 8000000
set_option maxRecDepth 100000
end Go.Proofs.Ytjiglbjpmclncaa
/-
  The document's table: a row's end (Return, Info).
-/
namespace Go.Proofs.Ytjiglbjpmclncaa
open Go.RowKit
section
variable {ops : Array Oper} {rest : List Oper} {a : Act} {w : World} {Q : Exit → Act → World → Prop}
end
theorem Keeps.setCellsQ {F : List Nat} {w : World} {g : Nat} (hg : g ∈ F) : ∀ (vs : List Value) (o : Nat) {w' : World}, Keeps F w w' → Keeps F w (w'.setCells g o vs)
  | [], _, _, h => h
  | v :: r, o, w', h => Keeps.setCellsQ hg r (o + 1) (h.setCell ⟨g, o, none⟩ v (.inl (by simpa using hg)))
/-- The cells of a row of structs are there, and may be put. -/
theorem RK.Own.hold {α : Type} {R : RK α} {base : Nat} {w : World} {g cap : Nat} {L : List α} (h : R.Own base w (.slice (some ⟨g, 0, none⟩) L.length cap) L) (k : Nat) (hk : k < L.length) : ∀ j, j < R.s → (w.cell? ⟨g, k * R.s + j, none⟩).isSome = true ∧ w.frozen? ⟨g, k * R.s + j, none⟩ = false := by
  intro j hj
  rcases h.2 with ⟨e, _⟩ | ⟨g', cap', cur, e, hb, hh, hc, hm, hcs, htk⟩
  · cases e
  · simp only [Value.slice.injEq, Option.some.injEq, Addr.mk.injEq, and_true, true_and] at e
    obtain ⟨rfl, rfl⟩ := e
    have hlt : k * R.s + j < cur.size := by
      rw [hcs]
      have h1 : (k + 1) * R.s ≤ cap * R.s := Nat.mul_le_mul_right _ (by omega)
      rw [Nat.add_mul] at h1
      omega
    exact ⟨by simp [World.cell?, hh, hlt], by simp [World.frozen?, hh]⟩
set_option maxHeartbeats 8000000
set_option maxRecDepth 100000
end Go.Proofs.Ytjiglbjpmclncaa
/-
  The document's table: the rows that stay, Remove, Settle.
-/
namespace Go.Proofs.Ytjiglbjpmclncaa
open Go.RowKit
theorem filter_takeS {α : Type} (p : α → Bool) {l : List α} {k : Nat} (h : k < l.length) : (l.take (k + 1)).filter p = (l.take k).filter p ++ if p l[k] then [l[k]] else [] := by
  rw [List.take_add_one, List.getElem?_eq_getElem h, Option.toList_some, List.filter_append]
  cases hp : p l[k] <;> simp [hp]
set_option maxHeartbeats 8000000
set_option maxRecDepth 100000
theorem RK.Own.up {α : Type} {R : RK α} {base N : Nat} {w : World} {v : Value} {L : List α} (h : R.Own N w v L) (hb : base ≤ N) : R.Own base w v L := row_up h (fun q hq => Nat.le_trans hb (row_base h q hq).1)
/-- What a table is whose rows are put anew. -/
theorem T8At.put {b base N : Nat} {w w1 w2 : World} {v v' : Value} {t : Tb} {L : List Rw} (hT : T8At b base w v t) (hbase : base ≤ w.heap.size) (hN : w.heap.size ≤ N) (h1 : Keeps [] w w1) (hrow : rk8.Own N w1 v' L) (hl : L.length ≤ t.L.length) (hw2 : w2 = w1.setCell ⟨b, 0, none⟩ v') :
    T8At b base w2 v' ⟨L, t.last⟩ ∧ Keeps (b :: own v) w w2 ∧ FSub (own v') (own v) w.heap.size := by
  subst hw2
  have hb1 := h1.heap hT.heap (by simp)
  have hbw := lt_of_block hT.heap
  have k5 : Keeps [b] w1 (w1.setCell ⟨b, 0, none⟩ v') := (Keeps.refl [b] w1).setCell _ _ (.inl (by simp))
  refine ⟨⟨?_, (hrow.keeps k5 (fun q hq hb => ?_)).up (Nat.le_trans hbase hN), hT.bb, Nat.le_trans hl hT.few⟩, (h1.more (by simp)).step (k5.more (by simp)) (fun q hq => hq), fun q hq => .inr (Nat.le_trans hN (row_base hrow q hq).1)⟩
  · rw [heap_setCell_same w1 b 0 _ _ _ hb1]; rfl
  · have := (row_base hrow q hq).1; simp at hb; omega
end Go.Proofs.Ytjiglbjpmclncaa
