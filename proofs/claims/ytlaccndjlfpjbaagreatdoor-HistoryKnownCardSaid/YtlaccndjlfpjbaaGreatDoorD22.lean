/-
  The document's history: Step.
-/
import Derived.BigQuiet
import Derived.Deep.QuietTactic
import Derived.Test.YtlaccndjlfpjbaaGreatDoorD18
import Derived.Test.YtlaccndjlfpjbaaGreatDoorD21
import Derived.Test.YtlaccndjlfpjbaaGreatDoorD04
import Derived.Test.YtlaccndjlfpjbaaGreatDoorD09
import Derived.Test.YtlaccndjlfpjbaaGreatDoorD01
import Derived.Test.YtlaccndjlfpjbaaGreatDoorD19
set_option linter.unusedSimpArgs false
set_option linter.unusedVariables false
namespace Go.Proofs.YtlaccndjlfpjbaaGreatDoor
open Go.RowKit Go.Maps
/-- What Step tells and leaves. -/
def Step7Post (N b base : Nat) (w : World) (v : Value) (T : EvL) (x : Ev) (e : Ending) (w' : World) : Prop :=
  e = .returned (.int .i64 (hErr opChk mayOf (evsOf T) x)) ∧ ∃ v' T', R7At N b base w' v' T' ∧ evsOf T' = hNext opChk mayOf (evsOf T) x ∧ T'.length ≤ T.length + 1 ∧ Keeps (b :: own v) w w' ∧ FSub (own v') (own v) w.heap.size
set_option maxHeartbeats 8000000
set_option maxRecDepth 100000
end Go.Proofs.YtlaccndjlfpjbaaGreatDoor
/-
  HistoryAll: its walk.
-/
namespace Go.Proofs.YtlaccndjlfpjbaaGreatDoor
open Go.RowKit Go.Maps
/-- The document's history in the law, and what it took. -/
structure DInv (N : Nat) (w0 wr : World) (b : Nat) (v : Value) (T : EvL) (L : List Ev) : Prop where
  at_ : R7At N b (b + 1) wr v T
  ev : evsOf T = L
  kp : Keeps [] w0 wr
  lo : w0.heap.size ≤ b ∧ b + 1 ≤ wr.heap.size
theorem DInv.new {N : Nat} {w0 wr w' : World} {b : Nat} {v : Value} {T : EvL} {L : List Ev} (h : DInv N w0 wr b v T L) (hk : Keeps [] wr w') : DInv N w0 w' b v T L :=
  ⟨h.at_.new hk, h.ev, h.kp.trans hk (FSub.refl _ _), h.lo.1, Nat.le_trans h.lo.2 hk.size⟩
theorem DInv.made {N : Nat} {w0 wr : World} (hN : N ≤ w0.heap.size) (hk : Keeps [] w0 wr) : DInv N w0 (wr.alloc (.cells #[.slice none 0 0] 29)) wr.heap.size (.slice none 0 0) [] [] :=
  ⟨⟨heap_alloc_new wr _, ⟨rfl, .inl ⟨rfl, rfl⟩⟩, by simp, Nat.le_trans hN hk.size, by omega⟩, rfl, hk.alloc _, hk.size, by simp⟩
theorem DInv.step {N : Nat} {w0 wr w' : World} {b : Nat} {v : Value} {T : EvL} {L : List Ev} (h : DInv N w0 wr b v T L) {x : Ev} {e : Ending} (hs : Step7Post N b (b + 1) wr v T x e w') :
    e = .returned (.int .i64 (hErr opChk mayOf L x)) ∧ ∃ v' T', DInv N w0 w' b v' T' (hNext opChk mayOf L x) ∧ T'.length ≤ T.length + 1 ∧ Keeps (b :: own v) wr w' := by
  obtain ⟨he, v', T', h1, h2, h3, h4, _⟩ := hs
  rw [h.ev] at he h2
  refine ⟨he, v', T', ⟨h1, h2, h.kp.trans h4 (fun q hq => .inr ?_), h.lo.1, Nat.le_trans h.lo.2 h4.size⟩, h3, h4⟩
  rcases List.mem_cons.1 hq with rfl | hq
  · exact h.lo.1
  · exact Nat.le_trans (Nat.le_trans h.lo.1 (Nat.le_succ b)) (row_base h.at_.row q hq).1
set_option maxHeartbeats 8000000
set_option maxRecDepth 100000
end Go.Proofs.YtlaccndjlfpjbaaGreatDoor
/-
  The law's told: the program's history tells what the document's does.
-/
namespace Go.Proofs.YtlaccndjlfpjbaaGreatDoor
open Go.RowKit Go.Maps
theorem wpList_put_cfg1 {ops : Array Oper} {rest : List Oper} {o : Oper} {a : Act} {w : World} {Q : Exit → Act → World → Prop} {x y : Operand} {b : Nat} {old : Array Value} {t : TypeId} (g : Cfg) (hgd : o.guard = none)
    (ho : o.op = .store 40 x y) (hx : a.eval x = .pointer (some ⟨b, 0, none⟩)) (hy : a.eval y = .agg (cfgC g).toArray) (hg : w.heap[b]? = some (.cells old t (0, 0))) (hs : old.size = 7)
    (h : ∀ W, W.heap[b]? = some (.cells (cfgC g).toArray t (0, 0)) → Keeps [b] w W → wpList Tryz.prog ops Q rest (a.put o.dst undef) W) : wpList Tryz.prog ops Q (o :: rest) a w :=
  wpList_plain hgd fun _ hK => wp_put_cfg1 g ho hx hy hg hs (fun W h3 h4 => hK _ _ (h W h3 h4))
set_option maxHeartbeats 8000000
set_option maxRecDepth 100000
end Go.Proofs.YtlaccndjlfpjbaaGreatDoor
