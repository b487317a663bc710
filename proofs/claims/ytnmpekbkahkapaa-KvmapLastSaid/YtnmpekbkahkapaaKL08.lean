/-
  A key map's state in memory; the law's whole.
-/
import Derived.Deep.RegionHeld3
import Derived.BigQuiet
import Derived.Test.YtnmpekbkahkapaaKL07
set_option linter.unusedSimpArgs false
set_option linter.unusedVariables false
namespace Go.Proofs.Ytnmpekbkahkapaa
open Go.RowKit
theorem kv_cell {w : World} {b : Nat} {h : Int} {vs : List Int} {t : TypeId} (hg : w.heap[b]? = some (.cells (kvA h vs) t (0, 0))) {k : Nat} (hk : k < 8) : w.cell? ⟨b, 1 + k, none⟩ = some (.int .u16 (vs.getD k 0)) := by
  have := kvA_get h vs hk
  simp only [World.cell?, hg]
  exact this
theorem kv_byte {w : World} {b : Nat} {h : Int} {vs : List Int} {t : TypeId} (hg : w.heap[b]? = some (.cells (kvA h vs) t (0, 0))) : w.cell? ⟨b, 0, none⟩ = some (.int .u8 h) := cell_lit hg 0 rfl
theorem kv_thaw {w : World} {b : Nat} {h : Int} {vs : List Int} {t : TypeId} (hg : w.heap[b]? = some (.cells (kvA h vs) t (0, 0))) (i : Nat) : w.frozen? ⟨b, i, none⟩ = false := by simp [World.frozen?, hg]
theorem kv_put {w : World} {b : Nat} {h : Int} {vs : List Int} {t : TypeId} (hg : w.heap[b]? = some (.cells (kvA h vs) t (0, 0))) (hl : vs.length = 8) {k : Nat} (hk : k < 8) (v : Int) :
    (w.setCell ⟨b, 1 + k, none⟩ (.int .u16 v)).heap[b]? = some (.cells (kvA h (vs.set k v)) t (0, 0)) := by
  rw [heap_setCell_same w b (1 + k) _ t _ hg, kvA_set h hl hk]
theorem kv_puth {w : World} {b : Nat} {h h2 : Int} {vs : List Int} {t : TypeId} (hg : w.heap[b]? = some (.cells (kvA h vs) t (0, 0))) :
    (w.setCell ⟨b, 0, none⟩ (.int .u8 h2)).heap[b]? = some (.cells (kvA h2 vs) t (0, 0)) := by
  rw [heap_setCell_same w b 0 _ t _ hg, kvA_h]
section
variable {ops : Array Oper} {rest : List Oper} {o : Oper} {a : Act} {w : World} {K : Act → World → Prop} {Q : Exit → Act → World → Prop}
theorem wp_loadK {x : Operand} (ho : o.op = .load 25 x) {g : Nat} {h : Int} {vs : List Int} {t : TypeId} (hx : a.eval x = .pointer (some ⟨g, 0, none⟩)) (hg : w.heap[g]? = some (.cells (kvA h vs) t (0, 0)))
    (hK : K (a.put o.dst (.agg (kvA h vs))) w) : o.wp Try.prog a w K Q := wp_load_row 25 x ho g hx t (kvA h vs) (0, 0) _ hg Try.underlying25 rfl (by kernel_rfl) hK
theorem wpList_loadK {dst : Option Tmp} {ty : TypeId} {pos : String} {after : Array Edge} {gd : Option (Nat × Bool)} {x : Operand} {g : Nat} {h : Int} {vs : List Int} {t : TypeId}
    (hw : Region.wanted { dst := dst, op := .load 25 x, type := ty, pos := pos, after := after, guard := gd } (yielded ops a.tmps) = true)
    (hx : a.eval x = .pointer (some ⟨g, 0, none⟩)) (hg : w.heap[g]? = some (.cells (kvA h vs) t (0, 0))) (hK : wpList Try.prog ops Q rest (a.put dst (.agg (kvA h vs))) w) :
    wpList Try.prog ops Q ({ dst := dst, op := .load 25 x, type := ty, pos := pos, after := after, guard := gd } :: rest) a w :=
  wpList_step fun _ hk => by
    rw [if_pos hw]
    exact wp_loadK rfl hx hg (hk _ _ hK)
theorem wp_putK {x y : Operand} (ho : o.op = .store 25 x y) {g : Nat} {h h2 : Int} {vs vs2 : List Int} {t : TypeId}
    (hx : a.eval x = .pointer (some ⟨g, 0, none⟩)) (hy : a.eval y = .agg (kvA h vs)) (hg : w.heap[g]? = some (.cells (kvA h2 vs2) t (0, 0)))
    (hK : ∀ W, W.heap[g]? = some (.cells (kvA h vs) t (0, 0)) → Keeps [g] w W → K (a.put o.dst undef) W) : o.wp Try.prog a w K Q :=
  wp_store_row 25 x y ho g (kvA h vs) hx hy t (kvA h2 vs2) hg (by kernel_rfl) rfl (kvA_one h vs) (hK _ (setRow_heap w g _ _ t (0, 0) hg) ((Keeps.refl [g] w).setRow g _ (.inl (by simp))))
theorem wpList_putK {dst : Option Tmp} {ty : TypeId} {pos : String} {after : Array Edge} {x y : Operand} {g : Nat} {h h2 : Int} {vs vs2 : List Int} {t : TypeId}
    (hx : a.eval x = .pointer (some ⟨g, 0, none⟩)) (hy : a.eval y = .agg (kvA h vs)) (hg : w.heap[g]? = some (.cells (kvA h2 vs2) t (0, 0)))
    (hK : ∀ W, W.heap[g]? = some (.cells (kvA h vs) t (0, 0)) → Keeps [g] w W → wpList Try.prog ops Q rest (a.put dst undef) W) :
    wpList Try.prog ops Q ({ dst := dst, op := .store 25 x y, type := ty, pos := pos, after := after, guard := none } :: rest) a w :=
  wpList_plain rfl fun _ hk => wp_putK rfl hx hy hg fun W h3 h4 => hk _ _ (hK W h3 h4)
end
theorem results_kv {fn : Func} {p : Tmp} (h : fn.results = #[.cell p 25]) (tmps : Array Value) (w : World) (b : Nat) {x : Int} {vs : List Int} {t : TypeId}
    (hp : tmps.getD p undef = .pointer (some ⟨b, 0, none⟩)) (hb : w.heap[b]? = some (.cells (kvA x vs) t (0, 0))) : (results fn tmps).run Try.prog w = .ok (.agg (kvA x vs)) w :=
  results_cell_row h tmps w b t (kvA x vs) (0, 0) _ hp hb Try.underlying25 rfl (by kernel_rfl)
set_option maxHeartbeats 8000000
set_option maxRecDepth 100000
end Go.Proofs.Ytnmpekbkahkapaa
