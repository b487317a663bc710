/-
  Events in memory; the small functions of the program.
-/
import Derived.RangeFuncFrom
import Derived.OwnWalk
import Derived.Deep.MidRow
import Derived.BigQuiet
import Derived.Test.YtlaccndjlfpjbaaGreatDoorD02
import Derived.Test.YtlaccndjlfpjbaaGreatDoorD06
import Derived.Test.YtlaccndjlfpjbaaGreatDoorD04
import Derived.Test.YtlaccndjlfpjbaaGreatDoorD01
import Derived.Test.YtlaccndjlfpjbaaGreatDoorD07
import Derived.Test.YtlaccndjlfpjbaaGreatDoorD08
set_option linter.unusedSimpArgs false
set_option linter.unusedVariables false
namespace Go.Proofs.YtlaccndjlfpjbaaGreatDoor
open Go.RowKit
/-- A slice of micros; its block is below N. -/
def Mics (N : Nat) (w : World) (v : Value) (l : List Mic) : Prop :=
  ∃ a c, v = .slice a l.length c ∧ l.length ≤ c ∧ c ≤ 9223372036854775807 ∧ (l ≠ [] → ∃ bk o, a = some ⟨bk, o, none⟩ ∧ bk < N ∧ ∀ j m, l[j]? = some m →
    w.cell? ⟨bk, o + j * 3, none⟩ = some (.bool m.rd) ∧ w.cell? ⟨bk, o + j * 3 + 1, none⟩ = some (.int .u8 m.key) ∧ w.cell? ⟨bk, o + j * 3 + 2, none⟩ = some (.int .u16 m.v))
/-- A slice of numbers. -/
def Nums (N : Nat) (w : World) (v : Value) (l : List Int) : Prop :=
  ∃ a c, v = .slice a l.length c ∧ l.length ≤ c ∧ c ≤ 9223372036854775807 ∧ (l ≠ [] → ∃ bk o, a = some ⟨bk, o, none⟩ ∧ bk < N ∧ ∀ j, j < l.length → w.cell? ⟨bk, o + j, none⟩ = some (.int .u16 (l.getD j 0)))
/-- A slice of slices of numbers. -/
def Lists (N : Nat) (w : World) (v : Value) (l : List (List Int)) : Prop :=
  ∃ a c, v = .slice a l.length c ∧ l.length ≤ c ∧ c ≤ 9223372036854775807 ∧ (l ≠ [] → ∃ bk o, a = some ⟨bk, o, none⟩ ∧ bk < N ∧ ∀ j, j < l.length → ∃ u, w.cell? ⟨bk, o + j, none⟩ = some u ∧ Nums N w u (l.getD j []))
/-- All blocks below N are as they were. -/
def Same (N : Nat) (w w' : World) : Prop := ∀ b, b < N → w'.heap[b]? = w.heap[b]?
theorem Same.cell {N : Nat} {w w' : World} (h : Same N w w') {b o : Nat} {v : Value} (hb : b < N) (hv : w.cell? ⟨b, o, none⟩ = some v) : w'.cell? ⟨b, o, none⟩ = some v :=
  (World.cell?_of_block (h b hb)).trans hv
theorem Same.refl (N : Nat) (w : World) : Same N w w := fun _ _ => rfl
theorem Same.trans {N : Nat} {a b c : World} (h : Same N a b) (k : Same N b c) : Same N a c := fun i hi => (k i hi).trans (h i hi)
theorem Keeps.same {F : List Nat} {N : Nat} {w w' : World} (hk : Keeps F w w') (hN : N ≤ w.heap.size) (hF : ∀ g ∈ F, N ≤ g) : Same N w w' :=
  fun b hb => hk.block b (by omega) (fun hg => by have := hF b hg; omega)
theorem Mics.same {N : Nat} {w w' : World} {v : Value} {l : List Mic} (h : Mics N w v l) (hk : Same N w w') : Mics N w' v l := by
  obtain ⟨a, c, rfl, hc, hm, h⟩ := h
  refine ⟨a, c, rfl, hc, hm, fun hn => ?_⟩
  obtain ⟨bk, o, rfl, hb, h'⟩ := h hn
  exact ⟨bk, o, rfl, hb, fun j m hj => ⟨hk.cell hb (h' j m hj).1, hk.cell hb (h' j m hj).2.1, hk.cell hb (h' j m hj).2.2⟩⟩
theorem Nums.same {N : Nat} {w w' : World} {v : Value} {l : List Int} (h : Nums N w v l) (hk : Same N w w') : Nums N w' v l := by
  obtain ⟨a, c, rfl, hc, hm, h⟩ := h
  refine ⟨a, c, rfl, hc, hm, fun hn => ?_⟩
  obtain ⟨bk, o, rfl, hb, h'⟩ := h hn
  exact ⟨bk, o, rfl, hb, fun j hj => hk.cell hb (h' j hj)⟩
theorem Lists.same {N : Nat} {w w' : World} {v : Value} {l : List (List Int)} (h : Lists N w v l) (hk : Same N w w') : Lists N w' v l := by
  obtain ⟨a, c, rfl, hc, hm, h⟩ := h
  refine ⟨a, c, rfl, hc, hm, fun hn => ?_⟩
  obtain ⟨bk, o, rfl, hb, h'⟩ := h hn
  refine ⟨bk, o, rfl, hb, fun j hj => ?_⟩
  obtain ⟨u, hu, hl⟩ := h' j hj
  exact ⟨u, hk.cell hb hu, hl.same hk⟩
theorem Nums.more {N M : Nat} {w : World} {v : Value} {l : List Int} (h : Nums N w v l) (hM : N ≤ M) : Nums M w v l := by
  obtain ⟨a, c, rfl, hc, hm, h⟩ := h
  refine ⟨a, c, rfl, hc, hm, fun hn => ?_⟩
  obtain ⟨bk, o, rfl, hb, h'⟩ := h hn
  exact ⟨bk, o, rfl, by omega, h'⟩
theorem Mics.nil (N : Nat) (w : World) : Mics N w (.slice none 0 0) [] := ⟨none, 0, rfl, Nat.le_refl _, by decide, fun h => absurd rfl h⟩
theorem Lists.nil (N : Nat) (w : World) : Lists N w (.slice none 0 0) [] := ⟨none, 0, rfl, Nat.le_refl _, by decide, fun h => absurd rfl h⟩
/-- The lists of an event, as they lie in memory. -/
structure EvAt (N : Nat) (w : World) (tx rd : Value) (x : Ev) : Prop where
  t : Mics N w tx x.t
  r : Lists N w rd x.r
theorem EvAt.same {N : Nat} {w w' : World} {tx rd : Value} {x : Ev} (h : EvAt N w tx rd x) (hk : Same N w w') : EvAt N w' tx rd x := ⟨h.t.same hk, h.r.same hk⟩
theorem EvAt.new {N : Nat} {w w' : World} {tx rd : Value} {x : Ev} (h : EvAt N w tx rd x) (hk : Keeps [] w w') (hN : N ≤ w.heap.size) : EvAt N w' tx rd x := h.same (hk.same hN (by simp))
theorem Mics.one {N : Nat} {w : World} {v : Value} {l : List Mic} (h : Mics N w v l) : v.oneCell' = true := by obtain ⟨a, c, rfl, _⟩ := h; rfl
theorem Lists.one {N : Nat} {w : World} {v : Value} {l : List (List Int)} (h : Lists N w v l) : v.oneCell' = true := by obtain ⟨a, c, rfl, _⟩ := h; rfl
theorem heap_alloc_at {w : World} {o : Obj} {b : Nat} (hb : w.heap.size = b) : (w.alloc o).heap[b]? = some o := by subst hb; exact heap_alloc_new w o
theorem Keeps.setRow {F : List Nat} {a w : World} (h : Keeps F a w) (g : Nat) (cs : Array Value) (hg : g ∈ F ∨ a.heap.size ≤ g) : Keeps F a (w.setRow g cs) := by
  refine ⟨h.os, h.tape, h.output, ?_, fun k hk hF => ?_⟩
  · have := h.size; simp [World.setRow]; exact this
  · have hne : g ≠ k := fun e => by subst e; rcases hg with h1 | h1; exact hF h1; omega
    rw [← h.block k hk hF]
    simp [World.setRow, Array.getElem?_modify, hne]
theorem evC_0 (x : Ev) (tx rd : Value) : (evC x tx rd)[0]? = some (.int .u8 x.k) := rfl
theorem evC_1 (x : Ev) (tx rd : Value) : (evC x tx rd)[1]? = some (.int .u8 x.c) := rfl
theorem evC_2 (x : Ev) (tx rd : Value) : (evC x tx rd)[2]? = some (.int .u16 x.id) := rfl
theorem evC_3 (x : Ev) (tx rd : Value) : (evC x tx rd)[3]? = some (.int .u8 x.o.f) := rfl
theorem evC_4 (x : Ev) (tx rd : Value) : (evC x tx rd)[4]? = some (.int .u8 x.o.o) := rfl
theorem evC_5 (x : Ev) (tx rd : Value) : (evC x tx rd)[5]? = some (.int .u8 x.o.k) := rfl
theorem evC_6 (x : Ev) (tx rd : Value) : (evC x tx rd)[6]? = some (.int .u16 x.o.a) := rfl
theorem evC_7 (x : Ev) (tx rd : Value) : (evC x tx rd)[7]? = some (.int .u16 x.o.b) := rfl
theorem evC_8 (x : Ev) (tx rd : Value) : (evC x tx rd)[8]? = some (.int .u8 x.rk) := rfl
theorem evC_9 (x : Ev) (tx rd : Value) : (evC x tx rd)[9]? = some (.int .u16 x.rv) := rfl
theorem evC_10 (x : Ev) (tx rd : Value) : (evC x tx rd)[10]? = some tx := rfl
theorem evC_11 (x : Ev) (tx rd : Value) : (evC x tx rd)[11]? = some rd := rfl
theorem evC_12 (x : Ev) (tx rd : Value) : (evC x tx rd)[12]? = some (.int .u8 x.g.m) := rfl
theorem evC_13 (x : Ev) (tx rd : Value) : (evC x tx rd)[13]? = some (.int .i64 x.g.mo) := rfl
theorem evC_14 (x : Ev) (tx rd : Value) : (evC x tx rd)[14]? = some (.int .i64 x.g.ms) := rfl
theorem evC_15 (x : Ev) (tx rd : Value) : (evC x tx rd)[15]? = some (.int .i64 x.g.mt) := rfl
theorem evC_16 (x : Ev) (tx rd : Value) : (evC x tx rd)[16]? = some (.bool x.g.p) := rfl
theorem evC_17 (x : Ev) (tx rd : Value) : (evC x tx rd)[17]? = some (.bool x.g.cu) := rfl
theorem evC_18 (x : Ev) (tx rd : Value) : (evC x tx rd)[18]? = some (.bool x.g.me) := rfl
theorem evC_one {tx rd : Value} (x : Ev) (h1 : tx.oneCell' = true) (h2 : rd.oneCell' = true) : (evC x tx rd).toList.all (·.oneCell') = true := by
  unfold Value.oneCell' at h1 h2
  simp [evC, Value.oneCell', h1, h2]
/-- A cell of an event's block. -/
theorem ev_cell {w : World} {b : Nat} {x : Ev} {tx rd : Value} {t : TypeId} {fr : Nat × Nat} (h : w.heap[b]? = some (.cells (evC x tx rd) t fr)) (i : Nat) {v : Value} (hv : (evC x tx rd)[i]? = some v) : w.cell? ⟨b, i, none⟩ = some v := by
  simp [World.cell?, h, hv]
theorem ev_thaw {w : World} {b : Nat} {x : Ev} {tx rd : Value} {t : TypeId} (h : w.heap[b]? = some (.cells (evC x tx rd) t (0, 0))) (i : Nat) : w.frozen? ⟨b, i, none⟩ = false := by
  simp [World.frozen?, h]
theorem ev_set {w : World} {b : Nat} {x y : Ev} {tx rd tx' rd' : Value} {t : TypeId} (h : w.heap[b]? = some (.cells (evC x tx rd) t (0, 0))) (i : Nat) (v : Value) (e : (evC x tx rd).setIfInBounds i v = evC y tx' rd') :
    (w.setCell ⟨b, i, none⟩ v).heap[b]? = some (.cells (evC y tx' rd') t (0, 0)) := by
  rw [heap_setCell_same w b i _ t v h, e]
theorem Keeps.own {a w : World} {b : Nat} (h : Keeps [b] a w) (b' i : Nat) (v : Value) (e : b' = b := by rfl) : Keeps [b] a (w.setCell ⟨b', i, none⟩ v) := h.setCell _ _ (.inl (by simp [e]))
/-- A part of an event's block is stored: an operation, an answer, a cell. -/
theorem ev_set_op {w : World} {b : Nat} {x : Ev} {tx rd : Value} {t : TypeId} (h : w.heap[b]? = some (.cells (evC x tx rd) t (0, 0))) (o : Opn) :
    (((((w.setCell ⟨b, 3, none⟩ (.int .u8 o.f)).setCell ⟨b, 4, none⟩ (.int .u8 o.o)).setCell ⟨b, 5, none⟩ (.int .u8 o.k)).setCell ⟨b, 6, none⟩ (.int .u16 o.a)).setCell ⟨b, 7, none⟩ (.int .u16 o.b)).heap[b]? = some (.cells (evC { x with o := o } tx rd) t (0, 0)) :=
  ev_set (x := { x with o := ⟨o.f, o.o, o.k, o.a, x.o.b⟩ }) (ev_set (x := { x with o := ⟨o.f, o.o, o.k, x.o.a, x.o.b⟩ }) (ev_set (x := { x with o := ⟨o.f, o.o, x.o.k, x.o.a, x.o.b⟩ }) (ev_set (x := { x with o := ⟨o.f, x.o.o, x.o.k, x.o.a, x.o.b⟩ }) (ev_set h 3 _ rfl) 4 _ rfl) 5 _ rfl) 6 _ rfl) 7 _ rfl
theorem ev_set_res {w : World} {b : Nat} {x : Ev} {tx rd : Value} {t : TypeId} (h : w.heap[b]? = some (.cells (evC x tx rd) t (0, 0))) (k v : Int) :
    ((w.setCell ⟨b, 8, none⟩ (.int .u8 k)).setCell ⟨b, 9, none⟩ (.int .u16 v)).heap[b]? = some (.cells (evC { x with rk := k, rv := v } tx rd) t (0, 0)) :=
  ev_set (x := { x with rk := k }) (ev_set h 8 _ rfl) 9 _ rfl
section
variable {ops : Array Oper} {rest : List Oper} {a : Act} {w : World} {Q : Exit → Act → World → Prop}
/-- A whole event is stored, is read. -/
theorem wpList_put_ev {dst : Option Tmp} {ty : TypeId} {pos : String} {after : Array Edge} {x y : Operand} {g : Nat} {old cells : Array Value} {t : TypeId}
    (hx : a.eval x = .pointer (some ⟨g, 0, none⟩)) (hy : a.eval y = .agg cells) (hg : w.heap[g]? = some (.cells old t (0, 0))) (hs : old.size = 19 ∧ cells.size = 19)
    (h1 : cells.toList.all (·.oneCell') = true) (h : ∀ W, W.heap[g]? = some (.cells cells t (0, 0)) → Keeps [g] w W → wpList Tryz.prog ops Q rest (a.put dst undef) W) :
    wpList Tryz.prog ops Q ({ dst := dst, op := .store 42 x y, type := ty, pos := pos, after := after, guard := none } :: rest) a w :=
  wpList_store_row rfl 42 x y rfl g cells hx hy t old hg (by rw [hs.2]; kernel_rfl) (by rw [hs.1, hs.2]) (by rw [← Array.all_toList]; exact h1) (h _ (setRow_heap w g old cells t (0, 0) hg) ((Keeps.refl [g] w).setRow g cells (.inl (by simp))))
theorem wpList_put_op {dst : Option Tmp} {ty : TypeId} {pos : String} {after : Array Edge} {x y : Operand} {b : Nat} {e : Ev} {tx rd : Value} {t : TypeId} {f o k m n : Int}
    (hx : a.eval x = .pointer (some ⟨b, 3, none⟩)) (hy : a.eval y = .agg #[.int .u8 f, .int .u8 o, .int .u8 k, .int .u16 m, .int .u16 n]) (hg : w.heap[b]? = some (.cells (evC e tx rd) t (0, 0)))
    (h : ∀ W, W.heap[b]? = some (.cells (evC { e with o := ⟨f, o, k, m, n⟩ } tx rd) t (0, 0)) → Keeps [b] w W → wpList Tryz.prog ops Q rest (a.put dst undef) W) :
    wpList Tryz.prog ops Q ({ dst := dst, op := .store 34 x y, type := ty, pos := pos, after := after, guard := none } :: rest) a w := by
  refine wpList_store_mid rfl 34 x y rfl b 3 #[.int .u8 f, .int .u8 o, .int .u8 k, .int .u16 m, .int .u16 n] hx hy (fun j hj => ⟨?_, ev_thaw hg _⟩) (by kernel_rfl) (by rw [← Array.all_toList]; rfl)
    (h _ (ev_set_op hg ⟨f, o, k, m, n⟩) ((((((Keeps.refl [b] w).own b 3 _).own b 4 _).own b 5 _).own b 6 _).own b 7 _))
  have hj2 : j < 5 := hj
  rcases (by omega : j = 0 ∨ j = 1 ∨ j = 2 ∨ j = 3 ∨ j = 4) with rfl | rfl | rfl | rfl | rfl
  all_goals rw [ev_cell hg _ rfl]; rfl
theorem wpList_put_res {dst : Option Tmp} {ty : TypeId} {pos : String} {after : Array Edge} {x y : Operand} {b : Nat} {e : Ev} {tx rd : Value} {t : TypeId} {k v : Int}
    (hx : a.eval x = .pointer (some ⟨b, 8, none⟩)) (hy : a.eval y = .agg #[.int .u8 k, .int .u16 v]) (hg : w.heap[b]? = some (.cells (evC e tx rd) t (0, 0)))
    (h : ∀ W, W.heap[b]? = some (.cells (evC { e with rk := k, rv := v } tx rd) t (0, 0)) → Keeps [b] w W → wpList Tryz.prog ops Q rest (a.put dst undef) W) :
    wpList Tryz.prog ops Q ({ dst := dst, op := .store 36 x y, type := ty, pos := pos, after := after, guard := none } :: rest) a w := by
  refine wpList_store_mid rfl 36 x y rfl b 8 #[.int .u8 k, .int .u16 v] hx hy (fun j hj => ⟨?_, ev_thaw hg _⟩) (by kernel_rfl) (by rw [← Array.all_toList]; rfl)
    (h _ (ev_set_res hg k v) (((Keeps.refl [b] w).own b 8 _).own b 9 _))
  have hj2 : j < 2 := hj
  rcases (by omega : j = 0 ∨ j = 1) with rfl | rfl
  all_goals rw [ev_cell hg _ rfl]; rfl
theorem wpList_load_ev {dst : Option Tmp} {ty : TypeId} {pos : String} {after : Array Edge} {x : Operand} {g : Nat} {cells : Array Value} {t : TypeId} {fr : Nat × Nat}
    (hx : a.eval x = .pointer (some ⟨g, 0, none⟩)) (hg : w.heap[g]? = some (.cells cells t fr)) (hs : cells.size = 19) (h : wpList Tryz.prog ops Q rest (a.put dst (.agg cells)) w) :
    wpList Tryz.prog ops Q ({ dst := dst, op := .load 42 x, type := ty, pos := pos, after := after, guard := none } :: rest) a w :=
  wpList_load_row rfl 42 x rfl g hx t cells fr _ hg Tryz.underlying42 rfl (by rw [hs]; kernel_rfl) h
end
/-- A function that hands back an event; an event and an error. -/
theorem results_ev {fn : Func} {p : Tmp} (h : fn.results = #[.cell p 42]) (tmps : Array Value) (w : World) (b : Nat) {x : Ev} {tx rd : Value} {t : TypeId}
    (hp : tmps.getD p undef = .pointer (some ⟨b, 0, none⟩)) (hb : w.heap[b]? = some (.cells (evC x tx rd) t (0, 0))) : (results fn tmps).run Tryz.prog w = .ok (.agg (evC x tx rd)) w :=
  results_cell_row h tmps w b t _ _ _ hp hb Tryz.underlying42 rfl (by kernel_rfl)
theorem results_ev2 {fn : Func} {p u : Tmp} (h : fn.results = #[.cell p 42, .tmp u]) (tmps : Array Value) (w : World) (b : Nat) {x : Ev} {tx rd : Value} {t : TypeId}
    (hp : tmps.getD p undef = .pointer (some ⟨b, 0, none⟩)) (hb : w.heap[b]? = some (.cells (evC x tx rd) t (0, 0))) : (results fn tmps).run Tryz.prog w = .ok (.tuple #[.agg (evC x tx rd), tmps.getD u undef]) w := by
  have h1 : (loadVar 42 ⟨b, 0, none⟩).run Tryz.prog w = .ok (.agg (evC x tx rd)) w := run_loadVar_row w b t 42 _ _ _ hb Tryz.underlying42 rfl (by kernel_rfl)
  rw [results_cell_tmp h, hp]
  simp [asAddr, h1, Result.andThen]
set_option maxHeartbeats 1000000 in
theorem within_any (w : World) (n most : Int) : Calls Tryz.prog 100 #[.int .i64 n, .int .i64 most] w fun e w' => e = .returned (.bool (decide (1 ≤ n ∧ n ≤ most))) ∧ w = w' := by
  by_cases h1 : 1 ≤ n
  · by_cases h2 : n ≤ most
    · have e : decide (1 ≤ n ∧ n ≤ most) = true := by simp [h1, h2]
      rw [e]
      go_enter Tryz.func100, Tryz.ntmps100
      go_wp2_with fail
      go_ret
      exact ⟨rfl, rfl⟩
    · have e : decide (1 ≤ n ∧ n ≤ most) = false := by simp [h2]
      rw [e]
      go_enter Tryz.func100, Tryz.ntmps100
      go_wp2_with fail
      go_ret
      exact ⟨rfl, rfl⟩
  · have e : decide (1 ≤ n ∧ n ≤ most) = false := by simp [h1]
    rw [e]
    go_enter Tryz.func100, Tryz.ntmps100
    go_wp2_with fail
    go_ret
    exact ⟨rfl, rfl⟩
set_option maxHeartbeats 4000000 in
set_option maxRecDepth 100000 in
theorem ofWho_any (w : World) (x : Ev) (tx rd : Value) : Calls Tryz.prog 84 #[.agg (evC x tx rd)] w fun e w' =>
    e = .returned (.agg (evC (evWho x) (.slice none 0 0) (.slice none 0 0))) ∧ Keeps [] w w' := by
  have E0 := evC_0 x tx rd; have E1 := evC_1 x tx rd; have E2 := evC_2 x tx rd
  go_enter Tryz.func84, Tryz.ntmps84
  go_wp2_with ((with_reducible apply wpList_put_ev); exact rfl; exact rfl; (first | assumption | (refine heap_alloc_lt ?_; assumption) | (refine heap_alloc_lt (heap_alloc_lt ?_); assumption) | exact heap_alloc_at (by simp)); exact ⟨rfl, rfl⟩; exact rfl)
  intro W hb hk
  go_wp2_with fail
  exact bodyPost_ret (results_ev (x := evWho x) rfl _ _ _ rfl hb) rfl ⟨rfl, (((Keeps.refl [] w).alloc _).alloc _).trans hk (fun g hg => .inr (by simp at hg; omega))⟩
set_option maxHeartbeats 4000000 in
set_option maxRecDepth 100000 in
theorem ofConfigure_any (w : World) (x : Ev) (tx rd : Value) : Calls Tryz.prog 72 #[.agg (evC x tx rd)] w fun e w' =>
    e = .returned (.agg (evC { evZero with k := x.k, g := x.g } (.slice none 0 0) (.slice none 0 0))) ∧ Keeps [] w w' := by
  have E0 := evC_0 x tx rd
  have E12 := evC_12 x tx rd
  have E13 := evC_13 x tx rd
  have E14 := evC_14 x tx rd
  have E15 := evC_15 x tx rd
  have E16 := evC_16 x tx rd
  have E17 := evC_17 x tx rd
  have E18 := evC_18 x tx rd
  go_enter Tryz.func72, Tryz.ntmps72
  go_wp2_with ((with_reducible apply wpList_put_ev); exact rfl; exact rfl; (first | assumption | (refine heap_alloc_lt ?_; assumption) | (refine heap_alloc_lt (heap_alloc_lt ?_); assumption) | exact heap_alloc_at (by simp)); exact ⟨rfl, rfl⟩; exact rfl)
  intro W hb hk
  go_wp2_with fail
  exact bodyPost_ret (results_ev (x := { evZero with k := x.k, g := x.g }) rfl _ _ _ rfl hb) rfl ⟨rfl, (((Keeps.refl [] w).alloc _).alloc _).trans hk (fun g hg => .inr (by simp at hg; omega))⟩
set_option maxHeartbeats 4000000 in
set_option maxRecDepth 100000 in
theorem ofInvoke_any (w : World) (x : Ev) (tx rd : Value) : Calls Tryz.prog 76 #[.agg (evC x tx rd)] w fun e w' =>
    e = .returned (.agg (evC { evWho x with o := x.o } (.slice none 0 0) (.slice none 0 0))) ∧ Keeps [] w w' := by
  have hX := heap_alloc_new w (.cells (evC x tx rd) 42)
  go_enter Tryz.func76, Tryz.ntmps76
  go_wp2_with ((with_reducible apply wpList_load_ev); exact rfl; (first | assumption | (refine heap_alloc_lt ?_; assumption) | (refine heap_alloc_lt (heap_alloc_lt ?_); assumption) | exact heap_alloc_at (by simp)); exact rfl)
  refine (ofWho_any _ x tx rd).mono ?_; rintro e w1 ⟨rfl, hk1⟩
  have hX1 := hk1.heap (heap_alloc_lt hX) (by simp)
  have hR1 := hk1.heap (heap_alloc2_new w _ _) (by simp)
  have hK1 := (((Keeps.refl [] w).alloc _).alloc _).trans hk1 (FSub.refl _ _)
  have hz1 := lt_of_block hR1
  clear hX hk1
  go_wp2_with ((with_reducible apply wpList_put_ev); exact rfl; exact rfl; (first | assumption | (refine heap_alloc_lt ?_; assumption) | (refine heap_alloc_lt (heap_alloc_lt ?_); assumption) | exact heap_alloc_at (by simp)); exact ⟨rfl, rfl⟩; exact rfl)
  intro W2 hb2 hk2
  have hX2 := hk2.heap (heap_alloc_lt hX1) (by simp; omega)
  have hR2 := hk2.heap (heap_alloc_lt hR1) (by simp; omega)
  have hK2 := (hK1.alloc _).trans hk2 (fun g hg => .inr (by have := hK1.size; simp at hg; omega))
  have c3 := ev_cell hX2 3 (evC_3 x tx rd)
  have c4 := ev_cell hX2 4 (evC_4 x tx rd)
  have c5 := ev_cell hX2 5 (evC_5 x tx rd)
  have c6 := ev_cell hX2 6 (evC_6 x tx rd)
  have c7 := ev_cell hX2 7 (evC_7 x tx rd)
  clear hX1 hR1 hK1 hk2 hX2
  go_wp2_with ((with_reducible apply wpList_put_op); exact rfl; exact rfl; assumption)
  intro W3 hb3 hk3
  have hR3 := hk3.heap hR2 (by simp; omega)
  have hK3 := hK2.trans hk3 (fun g hg => .inr (by simp at hg; omega))
  go_wp2_with (first | ((with_reducible apply wpList_load_ev); exact rfl; (first | assumption | (refine heap_alloc_lt ?_; assumption) | (refine heap_alloc_lt (heap_alloc_lt ?_); assumption) | exact heap_alloc_at (by simp)); exact rfl) | ((with_reducible apply wpList_put_ev); exact rfl; exact rfl; (first | assumption | (refine heap_alloc_lt ?_; assumption) | (refine heap_alloc_lt (heap_alloc_lt ?_); assumption) | exact heap_alloc_at (by simp)); exact ⟨rfl, rfl⟩; (refine evC_one _ ?_ ?_ <;> first | rfl | assumption)))
  intro W4 hb4 hk4
  go_wp2_with fail
  exact bodyPost_ret (results_ev rfl _ _ _ rfl hb4) rfl ⟨rfl, hK3.trans hk4 (fun g hg => .inr (by simp at hg; omega))⟩
set_option maxHeartbeats 4000000 in
set_option maxRecDepth 100000 in
theorem ofReturn_any (w : World) (x : Ev) (tx rd : Value) : Calls Tryz.prog 80 #[.agg (evC x tx rd)] w fun e w' =>
    e = .returned (.agg (evC { evWho x with rk := x.rk, rv := x.rv } (.slice none 0 0) (.slice none 0 0))) ∧ Keeps [] w w' := by
  have hX := heap_alloc_new w (.cells (evC x tx rd) 42)
  go_enter Tryz.func80, Tryz.ntmps80
  go_wp2_with ((with_reducible apply wpList_load_ev); exact rfl; (first | assumption | (refine heap_alloc_lt ?_; assumption) | (refine heap_alloc_lt (heap_alloc_lt ?_); assumption) | exact heap_alloc_at (by simp)); exact rfl)
  refine (ofWho_any _ x tx rd).mono ?_; rintro e w1 ⟨rfl, hk1⟩
  have hX1 := hk1.heap (heap_alloc_lt hX) (by simp)
  have hR1 := hk1.heap (heap_alloc2_new w _ _) (by simp)
  have hK1 := (((Keeps.refl [] w).alloc _).alloc _).trans hk1 (FSub.refl _ _)
  have hz1 := lt_of_block hR1
  clear hX hk1
  go_wp2_with ((with_reducible apply wpList_put_ev); exact rfl; exact rfl; (first | assumption | (refine heap_alloc_lt ?_; assumption) | (refine heap_alloc_lt (heap_alloc_lt ?_); assumption) | exact heap_alloc_at (by simp)); exact ⟨rfl, rfl⟩; exact rfl)
  intro W2 hb2 hk2
  have hX2 := hk2.heap (heap_alloc_lt hX1) (by simp; omega)
  have hR2 := hk2.heap (heap_alloc_lt hR1) (by simp; omega)
  have hK2 := (hK1.alloc _).trans hk2 (fun g hg => .inr (by have := hK1.size; simp at hg; omega))
  have c8 := ev_cell hX2 8 (evC_8 x tx rd)
  have c9 := ev_cell hX2 9 (evC_9 x tx rd)
  clear hX1 hR1 hK1 hk2 hX2
  go_wp2_with ((with_reducible apply wpList_put_res); exact rfl; exact rfl; assumption)
  intro W3 hb3 hk3
  have hR3 := hk3.heap hR2 (by simp; omega)
  have hK3 := hK2.trans hk3 (fun g hg => .inr (by simp at hg; omega))
  go_wp2_with (first | ((with_reducible apply wpList_load_ev); exact rfl; (first | assumption | (refine heap_alloc_lt ?_; assumption) | (refine heap_alloc_lt (heap_alloc_lt ?_); assumption) | exact heap_alloc_at (by simp)); exact rfl) | ((with_reducible apply wpList_put_ev); exact rfl; exact rfl; (first | assumption | (refine heap_alloc_lt ?_; assumption) | (refine heap_alloc_lt (heap_alloc_lt ?_); assumption) | exact heap_alloc_at (by simp)); exact ⟨rfl, rfl⟩; (refine evC_one _ ?_ ?_ <;> first | rfl | assumption)))
  intro W4 hb4 hk4
  go_wp2_with fail
  exact bodyPost_ret (results_ev rfl _ _ _ rfl hb4) rfl ⟨rfl, hK3.trans hk4 (fun g hg => .inr (by simp at hg; omega))⟩
end Go.Proofs.YtlaccndjlfpjbaaGreatDoor
/-
  When two slices are the same: numbers, micros, slices of numbers.
-/
namespace Go.Proofs.YtlaccndjlfpjbaaGreatDoor
open Go.RowKit
theorem ext_getD {l m : List Int} (hl : l.length = m.length) (h : ∀ j, j < l.length → l.getD j 0 = m.getD j 0) : l = m := by
  apply List.ext_getElem hl
  intro i h1 h2
  have := h i h1
  simpa [List.getD, List.getElem?_eq_getElem h1, List.getElem?_eq_getElem h2] using this
theorem prefix_next {α : Type} {l m : List α} {d : α} {k : Nat} (h : ∀ j, j < k → l.getD j d = m.getD j d) (hk : l.getD k d = m.getD k d) : ∀ j, j < k + 1 → l.getD j d = m.getD j d := by
  intro j hj
  rcases (by omega : j < k ∨ j = k) with h1 | rfl
  · exact h j h1
  · exact hk
set_option maxHeartbeats 4000000 in
set_option maxRecDepth 100000 in
theorem u16Equal_any (w : World) {N N' : Nat} (v1 v2 : Value) (l1 l2 : List Int) (h1 : Nums N w v1 l1) (h2 : Nums N' w v2 l2) :
    Calls Tryz.prog 65 #[v1, v2] w fun e w' => e = .returned (.bool (eqB l1 l2)) ∧ Keeps [] w w' := by
  obtain ⟨a1, c1, rfl, hc1, hm1, h1⟩ := h1
  obtain ⟨a2, c2, rfl, hc2, hm2, h2⟩ := h2
  have hl63 : (l1.length : Int) ≤ 9223372036854775807 := by omega
  by_cases hlen : l1.length = l2.length
  · rw [← hlen]
    generalize hR : eqB l1 l2 = R at *
    have HR := Lib.hid hR; clear hR
    have HG1 := Lib.hid h1; have HG2 := Lib.hid h2; have HLE := Lib.hid hlen
    rw [← hlen] at hc2
    clear h1 h2 hlen
    go_enter Tryz.func65, Tryz.ntmps65
    go_wp2_with fail
    go_loopw [5, 13] (fun _ i wr => ∃ k q : Nat, k ≤ l1.length ∧ i = .int .i64 k ∧ (∀ j, j < k → l1.getD j 0 = l2.getD j 0) ∧ wr = w.drewN q) (fun _ i _ => l1.length - (intOf i).toNat)
    case atStart => exact ⟨0, 0, by omega, rfl, fun j hj => by omega, rfl⟩
    case round =>
      obtain ⟨k, q, hk, rfl, hp, rfl⟩ := hrel
      have HP := Lib.hid hp; clear hp
      by_cases hlt : k < l1.length
      · obtain ⟨b1, o1, rfl, _, g1⟩ := HG1.out (fun e => by rw [e] at hlt; simp at hlt)
        obtain ⟨b2, o2, rfl, _, g2⟩ := HG2.out (fun e => by have := HLE.out; rw [e] at this; simp at this; rw [this] at hlt; simp at hlt)
        have d1 := g1 k hlt
        have d2 := g2 k (by have := HLE.out; omega)
        clear g1 g2
        by_cases he : l1.getD k 0 = l2.getD k 0
        · rw [← he] at d2
          have HN := Lib.hid (prefix_next HP.out he); clear he HR HG1 HG2 HLE HP
          obtain ⟨X, hX⟩ : ∃ X, X = l1.getD k 0 := ⟨_, rfl⟩
          rw [← hX] at d1 d2
          clear hX
          have t1 : (X == X) = true := by simp
          have t2 : (X != X) = false := by simp
          generalize l1.length = L at *
          go_wp2_with fail
          go_region
          go_wp2_with fail
          go_roundw
          case rel => exact ⟨k + 1, q + 1, by omega, by go_num, HN.out, rfl⟩
          case measure => simp [intOf]; omega
        · obtain rfl := HR.out.symm.trans (eqB_no (fun e => he (by rw [e])))
          clear HR HG1 HG2 HLE HP
          generalize l1.getD k 0 = X at *
          generalize l2.getD k 0 = Y at *
          have t1 : (X == Y) = false := by simpa using he
          have t2 : (X != Y) = true := by simpa using he
          clear he
          generalize l1.length = L at *
          go_wp2_with fail
          go_region
          go_wp2_with fail
          go_ret
          exact ⟨rfl, (Keeps.refl _ _).drewN _⟩
      · obtain rfl : k = l1.length := by omega
        obtain rfl := HR.out.symm.trans ((eqB_iff l1 l2).2 (ext_getD HLE.out HP.out))
        clear HR HG1 HG2 HLE HP
        go_wp2_with fail
        go_ret
        exact ⟨rfl, (Keeps.refl _ _).drewN q⟩
  · have e : eqB l1 l2 = false := eqB_no (fun e => hlen (by rw [e]))
    rw [e]
    have z : ¬ (l1.length : Int) = (l2.length : Int) := by omega
    have z2 : ((l1.length : Int) != (l2.length : Int)) = true := by simpa using z
    clear h1 h2
    go_enter Tryz.func65, Tryz.ntmps65
    go_wp2_with fail
    go_ret
    exact ⟨rfl, Keeps.refl _ _⟩
def micZero : Mic := ⟨false, 0, 0⟩
theorem ext_mics {l m : List Mic} (hl : l.length = m.length) (h : ∀ j, j < l.length → l.getD j micZero = m.getD j micZero) : l = m := by
  apply List.ext_getElem hl
  intro i h1 h2
  have := h i h1
  simpa [List.getD, List.getElem?_eq_getElem h1, List.getElem?_eq_getElem h2] using this
theorem getD_some {α : Type} {l : List α} {k : Nat} (d : α) (h : k < l.length) : l[k]? = some (l.getD k d) := by
  simp [List.getD, List.getElem?_eq_getElem h]
set_option maxHeartbeats 4000000 in
set_option maxRecDepth 100000 in
theorem micsEqual_any (w : World) {N N' : Nat} (v1 v2 : Value) (l1 l2 : List Mic) (h1 : Mics N w v1 l1) (h2 : Mics N' w v2 l2) :
    Calls Tryz.prog 63 #[v1, v2] w fun e w' => e = .returned (.bool (eqB l1 l2)) ∧ Keeps [] w w' := by
  obtain ⟨a1, c1, rfl, hc1, hm1, h1⟩ := h1
  obtain ⟨a2, c2, rfl, hc2, hm2, h2⟩ := h2
  have hl63 : (l1.length : Int) ≤ 9223372036854775807 := by omega
  by_cases hlen : l1.length = l2.length
  · rw [← hlen]
    generalize hR : eqB l1 l2 = R at *
    have HR := Lib.hid hR; clear hR
    have HG1 := Lib.hid h1; have HG2 := Lib.hid h2; have HLE := Lib.hid hlen
    rw [← hlen] at hc2
    clear h1 h2 hlen
    go_enter Tryz.func63, Tryz.ntmps63
    go_wp2_with fail
    go_loopw [5, 13] (fun _ i wr => ∃ k q : Nat, k ≤ l1.length ∧ i = .int .i64 k ∧ (∀ j, j < k → l1.getD j micZero = l2.getD j micZero) ∧ wr = w.drewN q) (fun _ i _ => l1.length - (intOf i).toNat)
    case atStart => exact ⟨0, 0, by omega, rfl, fun j hj => by omega, rfl⟩
    case round =>
      obtain ⟨k, q, hk, rfl, hp, rfl⟩ := hrel
      have HP := Lib.hid hp; clear hp
      by_cases hlt : k < l1.length
      · obtain ⟨b1, o1, rfl, _, g1⟩ := HG1.out (fun e => by rw [e] at hlt; simp at hlt)
        obtain ⟨b2, o2, rfl, _, g2⟩ := HG2.out (fun e => by have := HLE.out; rw [e] at this; simp at this; rw [this] at hlt; simp at hlt)
        obtain ⟨d1, d2, d3⟩ := g1 k _ (getD_some micZero hlt)
        obtain ⟨d4, d5, d6⟩ := g2 k _ (getD_some micZero (by have := HLE.out; omega))
        clear g1 g2
        by_cases he : l1.getD k micZero = l2.getD k micZero
        · rw [← he] at d4 d5 d6
          have HN := Lib.hid (prefix_next HP.out he); clear he HR HG1 HG2 HLE HP
          obtain ⟨X, hX⟩ : ∃ X, X = l1.getD k micZero := ⟨_, rfl⟩
          rw [← hX] at d1 d2 d3 d4 d5 d6
          clear hX
          obtain ⟨x1, x2, x3⟩ := X
          simp only at d1 d2 d3 d4 d5 d6
          generalize l1.length = L at *
          go_wp2_with fail
          go_region
          go_wp2_with fail
          go_roundw
          case rel => exact ⟨k + 1, q + 1, by omega, by go_num, HN.out, rfl⟩
          case measure => simp [intOf]; omega
        · obtain rfl := HR.out.symm.trans (eqB_no (fun e => he (by rw [e])))
          clear HR HG1 HG2 HLE HP
          generalize l1.getD k micZero = X at *
          generalize l2.getD k micZero = Y at *
          obtain ⟨x1, x2, x3⟩ := X
          obtain ⟨y1, y2, y3⟩ := Y
          simp only at d1 d2 d3 d4 d5 d6
          have ways : (x1 = true ∧ y1 = false) ∨ (x1 = false ∧ y1 = true) ∨ (x1 = y1 ∧ (x2 == y2) = false) ∨ (x1 = y1 ∧ x2 = y2 ∧ (x3 == y3) = false) := by
            cases x1 <;> cases y1 <;> simp at he ⊢ <;> omega
          clear he
          generalize l1.length = L at *
          rcases ways with ⟨rfl, rfl⟩ | ⟨rfl, rfl⟩ | ⟨rfl, t1⟩ | ⟨rfl, rfl, t1⟩
          all_goals
            go_wp2_with fail
            go_region
            go_wp2_with fail
            go_ret
            exact ⟨rfl, (Keeps.refl _ _).drewN _⟩
      · obtain rfl : k = l1.length := by omega
        obtain rfl := HR.out.symm.trans ((eqB_iff l1 l2).2 (ext_mics HLE.out HP.out))
        clear HR HG1 HG2 HLE HP
        go_wp2_with fail
        go_ret
        exact ⟨rfl, (Keeps.refl _ _).drewN q⟩
  · have e : eqB l1 l2 = false := eqB_no (fun e => hlen (by rw [e]))
    rw [e]
    have z : ¬ (l1.length : Int) = (l2.length : Int) := by omega
    have z2 : ((l1.length : Int) != (l2.length : Int)) = true := by simpa using z
    clear h1 h2
    go_enter Tryz.func63, Tryz.ntmps63
    go_wp2_with fail
    go_ret
    exact ⟨rfl, Keeps.refl _ _⟩
theorem ext_lists {l m : List (List Int)} (hl : l.length = m.length) (h : ∀ j, j < l.length → l.getD j [] = m.getD j []) : l = m := by
  apply List.ext_getElem hl
  intro i h1 h2
  have := h i h1
  simpa [List.getD, List.getElem?_eq_getElem h1, List.getElem?_eq_getElem h2] using this
set_option maxHeartbeats 4000000 in
set_option maxRecDepth 100000 in
theorem listsEqual_any (w : World) {N N' : Nat} (v1 v2 : Value) (l1 l2 : List (List Int)) (h1 : Lists N w v1 l1) (h2 : Lists N' w v2 l2) (hN : N ≤ w.heap.size) (hN' : N' ≤ w.heap.size) :
    Calls Tryz.prog 64 #[v1, v2, .func (.func 65) #[] #[]] w fun e w' => e = .returned (.bool (eqB l1 l2)) ∧ Keeps [] w w' := by
  obtain ⟨a1, c1, rfl, hc1, hm1, h1⟩ := h1
  obtain ⟨a2, c2, rfl, hc2, hm2, h2⟩ := h2
  have hl63 : (l1.length : Int) ≤ 9223372036854775807 := by omega
  by_cases hlen : l1.length = l2.length
  · rw [← hlen]
    generalize hR : eqB l1 l2 = R at *
    have HR := Lib.hid hR; clear hR
    have HG1 := Lib.hid h1; have HG2 := Lib.hid h2; have HLE := Lib.hid hlen
    rw [← hlen] at hc2
    clear h1 h2 hlen
    go_enter Tryz.func64, Tryz.ntmps64
    go_wp2_with fail
    go_loopw [7, 8, 9, 17] (fun _ _ _ i wr => ∃ k : Nat, k ≤ l1.length ∧ i = .int .i64 k ∧ (∀ j, j < k → l1.getD j [] = l2.getD j []) ∧ Keeps [] w wr) (fun _ _ _ i _ => l1.length - (intOf i).toNat)
    case atStart => exact ⟨0, by omega, rfl, fun j hj => by omega, Keeps.refl _ _⟩
    case round =>
      obtain ⟨k, hk, rfl, hp, hkp⟩ := hrel
      have HP := Lib.hid hp; clear hp
      by_cases hlt : k < l1.length
      · obtain ⟨b1, o1, rfl, _, g1⟩ := HG1.out (fun e => by rw [e] at hlt; simp at hlt)
        obtain ⟨b2, o2, rfl, _, g2⟩ := HG2.out (fun e => by have := HLE.out; rw [e] at this; simp at this; rw [this] at hlt; simp at hlt)
        obtain ⟨u1, d1, n1⟩ := g1 k hlt
        obtain ⟨u2, d2, n2⟩ := g2 k (by have := HLE.out; omega)
        replace d1 := hkp.cell d1 (by simp)
        replace d2 := hkp.cell d2 (by simp)
        have hc := u16Equal_any wr u1 u2 _ _ (n1.same (hkp.same hN (by simp))) (n2.same (hkp.same hN' (by simp)))
        clear g1 g2 n1 n2
        by_cases he : l1.getD k [] = l2.getD k []
        · have HN := Lib.hid (prefix_next HP.out he)
          rw [(eqB_iff _ _).2 he] at hc
          clear he HR HG1 HG2 HLE HP
          generalize l1.length = L at *
          go_wp2_with fail
          refine hc.mono ?_; rintro e w1 ⟨rfl, hk1⟩
          go_wp2_with fail
          go_roundw
          case rel => exact ⟨k + 1, by omega, by go_num, HN.out, hkp.trans hk1 (FSub.refl _ _)⟩
          case measure => simp [intOf]; omega
        · obtain rfl := HR.out.symm.trans (eqB_no (fun e => he (by rw [e])))
          rw [eqB_no he] at hc
          clear he HR HG1 HG2 HLE HP
          generalize l1.length = L at *
          go_wp2_with fail
          refine hc.mono ?_; rintro e w1 ⟨rfl, hk1⟩
          go_wp2_with fail
          go_ret
          exact ⟨rfl, hkp.trans hk1 (FSub.refl _ _)⟩
      · obtain rfl : k = l1.length := by omega
        obtain rfl := HR.out.symm.trans ((eqB_iff l1 l2).2 (ext_lists HLE.out HP.out))
        clear HR HG1 HG2 HLE HP
        go_wp2_with fail
        go_ret
        exact ⟨rfl, hkp⟩
  · have e : eqB l1 l2 = false := eqB_no (fun e => hlen (by rw [e]))
    rw [e]
    have z : ¬ (l1.length : Int) = (l2.length : Int) := by omega
    have z2 : ((l1.length : Int) != (l2.length : Int)) = true := by simpa using z
    clear h1 h2
    go_enter Tryz.func64, Tryz.ntmps64
    go_wp2_with fail
    go_ret
    exact ⟨rfl, Keeps.refl _ _⟩
end Go.Proofs.YtlaccndjlfpjbaaGreatDoor
/-
  The rest of what an event's kind needs; what fits.
-/
namespace Go.Proofs.YtlaccndjlfpjbaaGreatDoor
open Go.RowKit
theorem run_put1 {P : Program} (w : World) (b i : Nat) (T : TypeId) (v : Value) (hi : (P.info? T).map (·.size) = some 1) (h1 : v.oneCell' = true) (hc : (w.cell? ⟨b, i, none⟩).isSome = true) (hf : w.frozen? ⟨b, i, none⟩ = false) :
    (storeVar T ⟨b, i, none⟩ v).run P w = .ok () (w.setCell ⟨b, i, none⟩ v) := by
  have := run_storeCells_cells (P := P) b i [v] 0 w (fun j hj => by have : j = 0 := by simpa using hj
                                                                    subst this; simpa using hc) (fun j hj => by have : j = 0 := by simpa using hj
                                                                                                                subst this; simpa using hf) (fun u hu => by simp at hu; subst hu; exact h1)
  cases hq : P.info? T with
  | none => simp [hq] at hi
  | some k =>
    have hs : k.size = 1 := by simpa [hq] using hi
    have hv : v.cells = #[v] := by unfold Value.oneCell' at h1; cases v <;> simp_all [Value.cells]
    simp only [Nat.add_zero, World.setCells] at this
    simp [storeVar, sizeOf, typeInfo, hq, hv, hs, this]
section
variable {ops : Array Oper} {rest : List Oper} {a : Act} {w : World} {Q : Exit → Act → World → Prop}
theorem wpList_put_cell {dst : Option Tmp} {T ty : TypeId} {pos : String} {after : Array Edge} {x y : Operand} {b : Nat} {e : Ev} {tx rd : Value} {t : TypeId} {v : Value} (i : Nat) (e' : Ev) (tx' rd' : Value)
    (hx : a.eval x = .pointer (some ⟨b, i, none⟩)) (hy : a.eval y = v) (hg : w.heap[b]? = some (.cells (evC e tx rd) t (0, 0))) (hi : (Tryz.prog.info? T).map (·.size) = some 1) (h1 : v.oneCell' = true)
    (hc : ((evC e tx rd)[i]?).isSome = true) (hs : (evC e tx rd).setIfInBounds i v = evC e' tx' rd')
    (h : ∀ W, W.heap[b]? = some (.cells (evC e' tx' rd') t (0, 0)) → Keeps [b] w W → wpList Tryz.prog ops Q rest (a.put dst undef) W) :
    wpList Tryz.prog ops Q ({ dst := dst, op := .store T x y, type := ty, pos := pos, after := after, guard := none } :: rest) a w := by
  have hcell : (w.cell? ⟨b, i, none⟩).isSome = true := by
    cases hq : (evC e tx rd)[i]? with
    | none => rw [hq] at hc; cases hc
    | some u => rw [ev_cell hg i hq]; rfl
  have hrun := run_put1 (P := Tryz.prog) w b i T v hi h1 hcell (ev_thaw hg i)
  refine wpList_plain rfl fun K hK => ?_
  unfold Oper.wp execOp
  simp only [hx, hy, Instr.storeAt, Instr.sureAddr, Sem.run_bind, Sem.run_pure, Result.andThen_ok, hrun]
  exact hK _ _ (h _ (ev_set hg i v hs) ((Keeps.refl [b] w).own b i v))
end
set_option maxHeartbeats 4000000 in
set_option maxRecDepth 100000 in
theorem ofBegin_any (w : World) (x : Ev) (tx rd : Value) (h1 : tx.oneCell' = true) : Calls Tryz.prog 88 #[.agg (evC x tx rd)] w fun e w' =>
    e = .returned (.agg (evC { evWho x with t := x.t } tx (.slice none 0 0))) ∧ Keeps [] w w' := by
  have hX := heap_alloc_new w (.cells (evC x tx rd) 42)
  go_enter Tryz.func88, Tryz.ntmps88
  go_wp2_with ((with_reducible apply wpList_load_ev); exact rfl; (first | assumption | (refine heap_alloc_lt ?_; assumption) | (refine heap_alloc_lt (heap_alloc_lt ?_); assumption) | exact heap_alloc_at (by simp)); exact rfl)
  refine (ofWho_any _ x tx rd).mono ?_; rintro e w1 ⟨rfl, hk1⟩
  have hX1 := hk1.heap (heap_alloc_lt hX) (by simp)
  have hR1 := hk1.heap (heap_alloc2_new w _ _) (by simp)
  have hK1 := (((Keeps.refl [] w).alloc _).alloc _).trans hk1 (FSub.refl _ _)
  have hz1 := lt_of_block hR1
  clear hX hk1
  go_wp2_with ((with_reducible apply wpList_put_ev); exact rfl; exact rfl; (first | assumption | (refine heap_alloc_lt ?_; assumption) | (refine heap_alloc_lt (heap_alloc_lt ?_); assumption) | exact heap_alloc_at (by simp)); exact ⟨rfl, rfl⟩; exact rfl)
  intro W2 hb2 hk2
  have hX2 := hk2.heap (heap_alloc_lt hX1) (by simp; omega)
  have hR2 := hk2.heap (heap_alloc_lt hR1) (by simp; omega)
  have hK2 := (hK1.alloc _).trans hk2 (fun g hg => .inr (by have := hK1.size; simp at hg; omega))
  have c10 := ev_cell hX2 10 (evC_10 x tx rd)
  clear hX1 hR1 hK1 hk2 hX2
  go_wp2_with ((with_reducible apply wpList_put_cell (T := 37) 10 { evWho x with t := x.t } tx (.slice none 0 0)); exact rfl; exact rfl; assumption; kernel_rfl; assumption; exact rfl; exact rfl)
  intro W3 hb3 hk3
  have hR3 := hk3.heap hR2 (by simp; omega)
  have hK3 := hK2.trans hk3 (fun g hg => .inr (by simp at hg; omega))
  go_wp2_with (first | ((with_reducible apply wpList_load_ev); exact rfl; (first | assumption | (refine heap_alloc_lt ?_; assumption) | (refine heap_alloc_lt (heap_alloc_lt ?_); assumption) | exact heap_alloc_at (by simp)); exact rfl) | ((with_reducible apply wpList_put_ev); exact rfl; exact rfl; (first | assumption | (refine heap_alloc_lt ?_; assumption) | (refine heap_alloc_lt (heap_alloc_lt ?_); assumption) | exact heap_alloc_at (by simp)); exact ⟨rfl, rfl⟩; (refine evC_one _ ?_ ?_ <;> first | rfl | assumption)))
  intro W4 hb4 hk4
  go_wp2_with fail
  exact bodyPost_ret (results_ev rfl _ _ _ rfl hb4) rfl ⟨rfl, hK3.trans hk4 (fun g hg => .inr (by simp at hg; omega))⟩
set_option maxHeartbeats 4000000 in
set_option maxRecDepth 100000 in
theorem ofCommit_any (w : World) (x : Ev) (tx rd : Value) (h1 : rd.oneCell' = true) : Calls Tryz.prog 92 #[.agg (evC x tx rd)] w fun e w' =>
    e = .returned (.agg (evC { evWho x with r := x.r } (.slice none 0 0) rd)) ∧ Keeps [] w w' := by
  have hX := heap_alloc_new w (.cells (evC x tx rd) 42)
  go_enter Tryz.func92, Tryz.ntmps92
  go_wp2_with ((with_reducible apply wpList_load_ev); exact rfl; (first | assumption | (refine heap_alloc_lt ?_; assumption) | (refine heap_alloc_lt (heap_alloc_lt ?_); assumption) | exact heap_alloc_at (by simp)); exact rfl)
  refine (ofWho_any _ x tx rd).mono ?_; rintro e w1 ⟨rfl, hk1⟩
  have hX1 := hk1.heap (heap_alloc_lt hX) (by simp)
  have hR1 := hk1.heap (heap_alloc2_new w _ _) (by simp)
  have hK1 := (((Keeps.refl [] w).alloc _).alloc _).trans hk1 (FSub.refl _ _)
  have hz1 := lt_of_block hR1
  clear hX hk1
  go_wp2_with ((with_reducible apply wpList_put_ev); exact rfl; exact rfl; (first | assumption | (refine heap_alloc_lt ?_; assumption) | (refine heap_alloc_lt (heap_alloc_lt ?_); assumption) | exact heap_alloc_at (by simp)); exact ⟨rfl, rfl⟩; exact rfl)
  intro W2 hb2 hk2
  have hX2 := hk2.heap (heap_alloc_lt hX1) (by simp; omega)
  have hR2 := hk2.heap (heap_alloc_lt hR1) (by simp; omega)
  have hK2 := (hK1.alloc _).trans hk2 (fun g hg => .inr (by have := hK1.size; simp at hg; omega))
  have c11 := ev_cell hX2 11 (evC_11 x tx rd)
  clear hX1 hR1 hK1 hk2 hX2
  go_wp2_with ((with_reducible apply wpList_put_cell (T := 38) 11 { evWho x with r := x.r } (.slice none 0 0) rd); exact rfl; exact rfl; assumption; kernel_rfl; assumption; exact rfl; exact rfl)
  intro W3 hb3 hk3
  have hR3 := hk3.heap hR2 (by simp; omega)
  have hK3 := hK2.trans hk3 (fun g hg => .inr (by simp at hg; omega))
  go_wp2_with (first | ((with_reducible apply wpList_load_ev); exact rfl; (first | assumption | (refine heap_alloc_lt ?_; assumption) | (refine heap_alloc_lt (heap_alloc_lt ?_); assumption) | exact heap_alloc_at (by simp)); exact rfl) | ((with_reducible apply wpList_put_ev); exact rfl; exact rfl; (first | assumption | (refine heap_alloc_lt ?_; assumption) | (refine heap_alloc_lt (heap_alloc_lt ?_); assumption) | exact heap_alloc_at (by simp)); exact ⟨rfl, rfl⟩; (refine evC_one _ ?_ ?_ <;> first | rfl | assumption)))
  intro W4 hb4 hk4
  go_wp2_with fail
  exact bodyPost_ret (results_ev rfl _ _ _ rfl hb4) rfl ⟨rfl, hK3.trans hk4 (fun g hg => .inr (by simp at hg; omega))⟩
set_option maxHeartbeats 1000000 in
theorem fitsWho_any (w : World) (x : Ev) (tx rd : Value) : Calls Tryz.prog 85 #[.agg (evC x tx rd)] w fun e w' => e = .returned (.bool true) ∧ Keeps [] w w' := by
  go_enter Tryz.func85, Tryz.ntmps85
  go_wp2_with fail
  go_ret
  exact ⟨rfl, (Keeps.refl _ _).alloc _⟩
set_option maxHeartbeats 4000000 in
set_option maxRecDepth 100000 in
theorem fitsInvoke_any (w : World) (hG : Glob4 w) (x : Ev) (hx : x.o.In) (tx rd : Value) : Calls Tryz.prog 77 #[.agg (evC x tx rd)] w fun e w' => e = .returned (.bool (opGood x.o)) ∧ Keeps [] w w' := by
  have E3 := evC_3 x tx rd; have E4 := evC_4 x tx rd; have E5 := evC_5 x tx rd; have E6 := evC_6 x tx rd; have E7 := evC_7 x tx rd
  have hk0 := (Keeps.refl [] w).alloc (.cells (evC x tx rd) 42)
  rcases bool_two (opGood x.o) with hg | hg
  all_goals
    have hp := fun w hG => opPut_any w hG x.o.f x.o.o x.o.k x.o.a x.o.b hx
    have hE : opPutE ⟨x.o.f, x.o.o, x.o.k, x.o.a, x.o.b⟩ = opPutE x.o := rfl
    simp only [opPutE, hg, if_true, if_false, Bool.false_eq_true] at hp
    rw [hg]
    generalize strOfNums (opPut x.o) = S at *
    clear hE hg
    go_enter Tryz.func77, Tryz.ntmps77
    go_wp2_with fail
    refine (hp _ (hG.new hk0)).mono ?_; rintro e w1 ⟨rfl, hk1⟩
    go_wp2_with fail
    go_ret
    exact ⟨rfl, hk0.trans hk1 (FSub.refl _ _)⟩
set_option maxHeartbeats 4000000 in
set_option maxRecDepth 100000 in
theorem fitsReturn_any (w : World) (x : Ev) (h0 : 0 ≤ x.rk) (h1 : x.rk < 256) (tx rd : Value) : Calls Tryz.prog 81 #[.agg (evC x tx rd)] w fun e w' => e = .returned (.bool (rsGood x.rk x.rv)) ∧ Keeps [] w w' := by
  have E8 := evC_8 x tx rd; have E9 := evC_9 x tx rd
  have hk0 := (Keeps.refl [] w).alloc (.cells (evC x tx rd) 42)
  rcases bool_two (rsGood x.rk x.rv) with hg | hg
  all_goals
    have hp := fun w => Check_any w x.rk x.rv h0 h1
    simp only [rsErr, hg, if_true, if_false, Bool.false_eq_true] at hp
    rw [hg]
    clear hg
    go_enter Tryz.func81, Tryz.ntmps81
    go_wp2_with fail
    refine (hp _).mono ?_; rintro e w1 ⟨rfl, hk1⟩
    go_wp2_with fail
    go_ret
    exact ⟨rfl, hk0.trans hk1 (FSub.refl _ _)⟩
end Go.Proofs.YtlaccndjlfpjbaaGreatDoor
/-
  The table of the kinds.
-/
namespace Go.Proofs.YtlaccndjlfpjbaaGreatDoor
open Go.RowKit
def fn (k : Nat) : Value := .func (.func k) #[] #[]
/-- What is done with an event of a kind: what it needs, what fits, how it is written and read. -/
def kindOf (k : Int) : Array Value :=
  if k = 1 then #[fn 72, fn 73, fn 74, fn 75] else if k = 2 then #[fn 76, fn 77, fn 78, fn 79] else
  if k = 3 then #[fn 80, fn 81, fn 82, fn 83] else if k = 5 then #[fn 88, fn 89, fn 90, fn 91] else
  if k = 6 then #[fn 92, fn 93, fn 94, fn 95] else if k = 4 ∨ k = 7 then #[fn 84, fn 85, fn 86, fn 87] else #[.nilFunc, .nilFunc, .nilFunc, .nilFunc]
def kindsC : Array Value := #[.nilFunc, .nilFunc, .nilFunc, .nilFunc,
  fn 72, fn 73, fn 74, fn 75, fn 76, fn 77, fn 78, fn 79,
  fn 80, fn 81, fn 82, fn 83, fn 84, fn 85, fn 86, fn 87,
  fn 88, fn 89, fn 90, fn 91, fn 92, fn 93, fn 94, fn 95,
  fn 84, fn 85, fn 86, fn 87]
section
variable {ops : Array Oper} {rest : List Oper} {a : Act} {w : World} {Q : Exit → Act → World → Prop}
theorem wpList_put_row {dst : Option Tmp} {T ty : TypeId} {pos : String} {after : Array Edge} {x y : Operand} {g : Nat} {old cells : Array Value} {t : TypeId} (n : Nat)
    (hx : a.eval x = .pointer (some ⟨g, 0, none⟩)) (hy : a.eval y = .agg cells) (hg : w.heap[g]? = some (.cells old t (0, 0))) (hs : old.size = n ∧ cells.size = n) (hT : (Tryz.prog.info? T).map (·.size) = some n)
    (h1 : cells.toList.all (·.oneCell') = true) (h : ∀ W, W.heap[g]? = some (.cells cells t (0, 0)) → Keeps [g] w W → wpList Tryz.prog ops Q rest (a.put dst undef) W) :
    wpList Tryz.prog ops Q ({ dst := dst, op := .store T x y, type := ty, pos := pos, after := after, guard := none } :: rest) a w :=
  wpList_store_row rfl T x y rfl g cells hx hy t old hg (by rw [hs.2]; exact hT) (by rw [hs.1, hs.2]) (by rw [← Array.all_toList]; exact h1) (h _ (setRow_heap w g old cells t (0, 0) hg) ((Keeps.refl [g] w).setRow g cells (.inl (by simp))))
end
set_option maxHeartbeats 4000000 in
set_option maxRecDepth 100000 in
theorem kinds_any (w : World) : Calls Tryz.prog 62 #[] w fun e w' => e = .returned (.agg kindsC) ∧ Keeps [] w w' := by
  go_enter Tryz.func62, Tryz.ntmps62
  go_wp2_with ((with_reducible apply wpList_put_row (T := 98) 32); exact rfl; exact rfl; exact heap_alloc_at (by simp); exact ⟨rfl, rfl⟩; kernel_rfl; exact rfl)
  intro W hb hk
  go_wp2_with fail
  exact bodyPost_ret (results_cell_row (P := Tryz.prog) rfl _ _ _ _ _ _ _ rfl hb Tryz.underlying98 rfl (by kernel_rfl)) rfl ⟨rfl, ((Keeps.refl [] w).alloc _).trans hk (fun g hg => .inr (by simp at hg; omega))⟩
set_option maxRecDepth 100000 in
theorem index_kinds8 (w : World) (k : Int) (h1 : 1 ≤ k) (h7 : k ≤ 7) : (Instr.index 98 (.agg kindsC) (.int .u8 k)).run Tryz.prog w = .ok (.agg (kindOf k)) w := by
  rcases (by omega : k = 1 ∨ k = 2 ∨ k = 3 ∨ k = 4 ∨ k = 5 ∨ k = 6 ∨ k = 7) with rfl | rfl | rfl | rfl | rfl | rfl | rfl
  all_goals first | rfl | kernel_rfl | (simp [Instr.index, run_underlying Tryz.underlying98, kindsC, kindOf, fn, asIntOf, part, go_sem]; done)
theorem results_kind8 {fn : Func} {p u : Tmp} (h : fn.results = #[.cell p 85, .tmp u]) (tmps : Array Value) (w : World) (b : Nat) {cs : Array Value} {t : TypeId} (hc : cs.size = 4)
    (hp : tmps.getD p undef = .pointer (some ⟨b, 0, none⟩)) (hb : w.heap[b]? = some (.cells cs t (0, 0))) : (results fn tmps).run Tryz.prog w = .ok (.tuple #[.agg cs, tmps.getD u undef]) w := by
  have h1 : (loadVar 85 ⟨b, 0, none⟩).run Tryz.prog w = .ok (.agg cs) w := run_loadVar_row w b t 85 _ _ _ hb Tryz.underlying85 rfl (by rw [hc]; kernel_rfl)
  rw [results_cell_tmp h, hp]
  simp [asAddr, h1, Result.andThen]
theorem kindOf_size (k : Int) : (kindOf k).size = 4 := by
  unfold kindOf
  repeat' split
  all_goals rfl
theorem kindOf_one (k : Int) : (kindOf k).toList.all (·.oneCell') = true := by
  unfold kindOf
  repeat' split
  all_goals rfl
set_option maxHeartbeats 4000000 in
set_option maxRecDepth 100000 in
theorem find5_yes (w : World) (k : Int) (h1 : 1 ≤ k) (h7 : k ≤ 7) : Calls Tryz.prog 49 #[.int .u8 k] w fun e w' => e = .returned (.tuple #[.agg (kindOf k), .bool true]) ∧ Keeps [] w w' := by
  have hx := fun w => index_kinds8 w k h1 h7
  have hz := kindOf_size k; have ho := kindOf_one k
  generalize kindOf k = C at *
  generalize hKC : kindsC = KC at *
  have hkk := fun w => kinds_any w
  rw [hKC] at hkk
  have HZ := Lib.hid hz; have HO := Lib.hid ho
  clear hKC hz ho
  have hb0 := heap_alloc_new w (.cells #[.nilFunc, .nilFunc, .nilFunc, .nilFunc] 85)
  go_enter Tryz.func49, Tryz.ntmps49
  go_wp2_with fail
  refine (hkk _).mono ?_; rintro e w1 ⟨rfl, hk1⟩
  have hb1 := hk1.heap hb0 (by simp)
  have hx1 := hx w1
  clear hb0 hx
  go_wp2_with ((with_reducible apply wpList_put_row (T := 85) 4); exact rfl; exact rfl; assumption; exact ⟨rfl, HZ.out⟩; kernel_rfl; exact HO.out)
  intro W hb hk
  go_wp2_with fail
  try simp only [Exit.inBlock, Exit.then]
  exact bodyPost_ret (results_kind8 rfl _ _ _ HZ.out rfl hb) rfl ⟨rfl, (((Keeps.refl [] w).alloc _).trans hk1 (FSub.refl _ _)).trans hk (fun g hg => .inr (by simp at hg; omega))⟩
set_option maxHeartbeats 4000000 in
set_option maxRecDepth 100000 in
theorem find5_no (w : World) (k : Int) (h : ¬ (1 ≤ k ∧ k ≤ 7)) : Calls Tryz.prog 49 #[.int .u8 k] w fun e w' => e = .returned (.tuple #[.agg #[.nilFunc, .nilFunc, .nilFunc, .nilFunc], .bool false]) ∧ Keeps [] w w' := by
  rcases (by omega : k < 1 ∨ (¬ k < 1 ∧ 7 < k)) with h1 | ⟨h0, h1⟩
  all_goals
    clear h
    go_enter Tryz.func49, Tryz.ntmps49
    go_wp2_with ((with_reducible apply wpList_put_row (T := 85) 4); exact rfl; exact rfl; exact heap_alloc_at (by simp); exact ⟨rfl, rfl⟩; kernel_rfl; exact rfl)
    intro W hb hk
    go_wp2_with fail
    try simp only [Exit.inBlock, Exit.then]
    exact bodyPost_ret (results_kind8 rfl _ _ _ rfl rfl hb) rfl ⟨rfl, ((Keeps.refl [] w).alloc _).trans hk (fun g hg => .inr (by simp at hg; omega))⟩
end Go.Proofs.YtlaccndjlfpjbaaGreatDoor
/-
  When two events are the same.
-/
namespace Go.Proofs.YtlaccndjlfpjbaaGreatDoor
open Go.RowKit
theorem ev_ext {a b : Ev} (h0 : a.k = b.k) (h1 : a.c = b.c) (h2 : a.id = b.id) (h3 : a.o.f = b.o.f) (h4 : a.o.o = b.o.o) (h5 : a.o.k = b.o.k) (h6 : a.o.a = b.o.a) (h7 : a.o.b = b.o.b) (h8 : a.rk = b.rk) (h9 : a.rv = b.rv) (h12 : a.g.m = b.g.m) (h13 : a.g.mo = b.g.mo) (h14 : a.g.ms = b.g.ms) (h15 : a.g.mt = b.g.mt) (h16 : a.g.p = b.g.p) (h17 : a.g.cu = b.g.cu) (h18 : a.g.me = b.g.me) (ht : a.t = b.t) (hr : a.r = b.r) : a = b := by
  obtain ⟨k, c, id, ⟨f, o, kk, m, n⟩, rk, rv, t, r, ⟨g0, g1, g2, g3, g4, g5, g6⟩⟩ := a
  obtain ⟨k', c', id', ⟨f', o', kk', m', n'⟩, rk', rv', t', r', ⟨g0', g1', g2', g3', g4', g5', g6'⟩⟩ := b
  simp only at *
  simp only [*]
set_option maxHeartbeats 8000000 in
set_option maxRecDepth 100000 in
theorem Same5_any (w : World) (a b : Ev) {N N' : Nat} (tx rd tx' rd' : Value) (ha : EvAt N w tx rd a) (hb : EvAt N' w tx' rd' b) (hN : N ≤ w.heap.size) (hN' : N' ≤ w.heap.size) :
    Calls Tryz.prog 50 #[.agg (evC a tx rd), .agg (evC b tx' rd')] w fun e w' => e = .returned (.bool (evSame a b)) ∧ Keeps [] w w' := by
  have hk0 : Keeps [] w ((w.alloc (.cells (evC a tx rd) 42)).alloc (.cells (evC b tx' rd') 42)) := ((Keeps.refl [] w).alloc _).alloc _
  have ha2 := ha.new hk0 hN
  have hb2 := hb.new hk0 hN'
  have hz0 : w.heap.size ≤ ((w.alloc (.cells (evC a tx rd) 42)).alloc (.cells (evC b tx' rd') 42)).heap.size := hk0.size
  have hmc := micsEqual_any _ tx tx' _ _ ha2.t hb2.t
  have HLC := Lib.hid (fun W (hk : Keeps [] w W) => listsEqual_any W rd rd' _ _ (ha.new hk hN).r (hb.new hk hN').r (Nat.le_trans hN hk.size) (Nat.le_trans hN' hk.size))
  have HK0 := Lib.hid hk0
  clear ha hb ha2 hb2 hk0 hz0
  generalize hR : evSame a b = R at *
  have HR := Lib.hid hR; clear hR
  have E0 := evC_0 a tx rd; have F0 := evC_0 b tx' rd'
  have E1 := evC_1 a tx rd; have F1 := evC_1 b tx' rd'
  have E2 := evC_2 a tx rd; have F2 := evC_2 b tx' rd'
  have E3 := evC_3 a tx rd; have F3 := evC_3 b tx' rd'
  have E4 := evC_4 a tx rd; have F4 := evC_4 b tx' rd'
  have E5 := evC_5 a tx rd; have F5 := evC_5 b tx' rd'
  have E6 := evC_6 a tx rd; have F6 := evC_6 b tx' rd'
  have E7 := evC_7 a tx rd; have F7 := evC_7 b tx' rd'
  have E8 := evC_8 a tx rd; have F8 := evC_8 b tx' rd'
  have E9 := evC_9 a tx rd; have F9 := evC_9 b tx' rd'
  have E12 := evC_12 a tx rd; have F12 := evC_12 b tx' rd'
  have E13 := evC_13 a tx rd; have F13 := evC_13 b tx' rd'
  have E14 := evC_14 a tx rd; have F14 := evC_14 b tx' rd'
  have E15 := evC_15 a tx rd; have F15 := evC_15 b tx' rd'
  have E16 := evC_16 a tx rd; have F16 := evC_16 b tx' rd'
  have E17 := evC_17 a tx rd; have F17 := evC_17 b tx' rd'
  have E18 := evC_18 a tx rd; have F18 := evC_18 b tx' rd'
  have E10 := evC_10 a tx rd; have F10 := evC_10 b tx' rd'
  have E11 := evC_11 a tx rd; have F11 := evC_11 b tx' rd'
  by_cases h0 : a.k = b.k
  · rw [← h0] at F0
    have H0 := Lib.hid h0; clear h0
    by_cases h1 : a.c = b.c
    · rw [← h1] at F1
      have H1 := Lib.hid h1; clear h1
      by_cases h2 : a.id = b.id
      · rw [← h2] at F2
        have H2 := Lib.hid h2; clear h2
        by_cases h3 : a.o.f = b.o.f
        · rw [← h3] at F3
          have H3 := Lib.hid h3; clear h3
          by_cases h4 : a.o.o = b.o.o
          · rw [← h4] at F4
            have H4 := Lib.hid h4; clear h4
            by_cases h5 : a.o.k = b.o.k
            · rw [← h5] at F5
              have H5 := Lib.hid h5; clear h5
              by_cases h6 : a.o.a = b.o.a
              · rw [← h6] at F6
                have H6 := Lib.hid h6; clear h6
                by_cases h7 : a.o.b = b.o.b
                · rw [← h7] at F7
                  have H7 := Lib.hid h7; clear h7
                  by_cases h8 : a.rk = b.rk
                  · rw [← h8] at F8
                    have H8 := Lib.hid h8; clear h8
                    by_cases h9 : a.rv = b.rv
                    · rw [← h9] at F9
                      have H9 := Lib.hid h9; clear h9
                      by_cases h12 : a.g.m = b.g.m
                      · rw [← h12] at F12
                        have H12 := Lib.hid h12; clear h12
                        by_cases h13 : a.g.mo = b.g.mo
                        · rw [← h13] at F13
                          have H13 := Lib.hid h13; clear h13
                          by_cases h14 : a.g.ms = b.g.ms
                          · rw [← h14] at F14
                            have H14 := Lib.hid h14; clear h14
                            by_cases h15 : a.g.mt = b.g.mt
                            · rw [← h15] at F15
                              have H15 := Lib.hid h15; clear h15
                              by_cases h16 : a.g.p = b.g.p
                              · rw [← h16] at F16
                                have H16 := Lib.hid h16; clear h16
                                by_cases h17 : a.g.cu = b.g.cu
                                · rw [← h17] at F17
                                  have H17 := Lib.hid h17; clear h17
                                  by_cases h18 : a.g.me = b.g.me
                                  · rw [← h18] at F18
                                    have H18 := Lib.hid h18; clear h18
                                    rcases bool_two (eqB a.t b.t) with ht | ht
                                    · rw [ht] at hmc
                                      rcases bool_two (eqB a.r b.r) with hr | hr
                                      · have hlc := HLC.out
                                        rw [hr] at hlc
                                        obtain rfl := HR.out.symm.trans ((eqB_iff a b).2 (ev_ext H0.out H1.out H2.out H3.out H4.out H5.out H6.out H7.out H8.out H9.out H12.out H13.out H14.out H15.out H16.out H17.out H18.out ((eqB_iff _ _).1 ht) ((eqB_iff _ _).1 hr)))
                                        clear HR HLC ht hr
                                        go_enter Tryz.func50, Tryz.ntmps50
                                        go_wp2_with fail
                                        refine hmc.mono ?_; rintro e w1 ⟨rfl, hk1⟩
                                        have hK1 := HK0.out.trans hk1 (FSub.refl _ _)
                                        have hX := hk1.heap (heap_alloc_lt (heap_alloc_new w _)) (by simp)
                                        have hY := hk1.heap (heap_alloc2_new w _ _) (by simp)
                                        have c11 := ev_cell hX 11 E11; have d11 := ev_cell hY 11 F11
                                        have hlc1 := hlc _ hK1
                                        clear hX hY hk1 hmc hlc HK0
                                        go_wp2_with fail
                                        refine hlc1.mono ?_; rintro e w2 ⟨rfl, hk2⟩
                                        go_wp2_with fail
                                        go_ret
                                        exact ⟨rfl, hK1.trans hk2 (FSub.refl _ _)⟩
                                      · have hlc := HLC.out
                                        rw [hr] at hlc
                                        obtain rfl := HR.out.symm.trans (eqB_no (fun e => by rw [e, (eqB_iff _ _).2 rfl] at hr; cases hr))
                                        clear HR HLC ht hr
                                        go_enter Tryz.func50, Tryz.ntmps50
                                        go_wp2_with fail
                                        refine hmc.mono ?_; rintro e w1 ⟨rfl, hk1⟩
                                        have hK1 := HK0.out.trans hk1 (FSub.refl _ _)
                                        have hX := hk1.heap (heap_alloc_lt (heap_alloc_new w _)) (by simp)
                                        have hY := hk1.heap (heap_alloc2_new w _ _) (by simp)
                                        have c11 := ev_cell hX 11 E11; have d11 := ev_cell hY 11 F11
                                        have hlc1 := hlc _ hK1
                                        clear hX hY hk1 hmc hlc HK0
                                        go_wp2_with fail
                                        refine hlc1.mono ?_; rintro e w2 ⟨rfl, hk2⟩
                                        go_wp2_with fail
                                        go_ret
                                        exact ⟨rfl, hK1.trans hk2 (FSub.refl _ _)⟩
                                    · rw [ht] at hmc
                                      obtain rfl := HR.out.symm.trans (eqB_no (fun e => by rw [e, (eqB_iff _ _).2 rfl] at ht; cases ht))
                                      clear HR HLC ht
                                      go_enter Tryz.func50, Tryz.ntmps50
                                      go_wp2_with fail
                                      refine hmc.mono ?_; rintro e w1 ⟨rfl, hk1⟩
                                      have hK1 := HK0.out.trans hk1 (FSub.refl _ _)
                                      clear hk1 hmc HK0
                                      go_wp2_with fail
                                      go_ret
                                      exact ⟨rfl, hK1⟩
                                  · obtain rfl := HR.out.symm.trans (eqB_no (fun e => h18 (by rw [e])))
                                    have t1 : (a.g.me == b.g.me) = false := by simpa using h18
                                    clear HR HLC hmc h18
                                    go_enter Tryz.func50, Tryz.ntmps50
                                    go_wp2_with fail
                                    go_ret
                                    exact ⟨rfl, HK0.out⟩
                                · obtain rfl := HR.out.symm.trans (eqB_no (fun e => h17 (by rw [e])))
                                  have t1 : (a.g.cu == b.g.cu) = false := by simpa using h17
                                  clear HR HLC hmc h17
                                  go_enter Tryz.func50, Tryz.ntmps50
                                  go_wp2_with fail
                                  go_ret
                                  exact ⟨rfl, HK0.out⟩
                              · obtain rfl := HR.out.symm.trans (eqB_no (fun e => h16 (by rw [e])))
                                have t1 : (a.g.p == b.g.p) = false := by simpa using h16
                                clear HR HLC hmc h16
                                go_enter Tryz.func50, Tryz.ntmps50
                                go_wp2_with fail
                                go_ret
                                exact ⟨rfl, HK0.out⟩
                            · obtain rfl := HR.out.symm.trans (eqB_no (fun e => h15 (by rw [e])))
                              have t1 : (a.g.mt == b.g.mt) = false := by simpa using h15
                              clear HR HLC hmc h15
                              go_enter Tryz.func50, Tryz.ntmps50
                              go_wp2_with fail
                              go_ret
                              exact ⟨rfl, HK0.out⟩
                          · obtain rfl := HR.out.symm.trans (eqB_no (fun e => h14 (by rw [e])))
                            have t1 : (a.g.ms == b.g.ms) = false := by simpa using h14
                            clear HR HLC hmc h14
                            go_enter Tryz.func50, Tryz.ntmps50
                            go_wp2_with fail
                            go_ret
                            exact ⟨rfl, HK0.out⟩
                        · obtain rfl := HR.out.symm.trans (eqB_no (fun e => h13 (by rw [e])))
                          have t1 : (a.g.mo == b.g.mo) = false := by simpa using h13
                          clear HR HLC hmc h13
                          go_enter Tryz.func50, Tryz.ntmps50
                          go_wp2_with fail
                          go_ret
                          exact ⟨rfl, HK0.out⟩
                      · obtain rfl := HR.out.symm.trans (eqB_no (fun e => h12 (by rw [e])))
                        have t1 : (a.g.m == b.g.m) = false := by simpa using h12
                        clear HR HLC hmc h12
                        go_enter Tryz.func50, Tryz.ntmps50
                        go_wp2_with fail
                        go_ret
                        exact ⟨rfl, HK0.out⟩
                    · obtain rfl := HR.out.symm.trans (eqB_no (fun e => h9 (by rw [e])))
                      have t1 : (a.rv == b.rv) = false := by simpa using h9
                      clear HR HLC hmc h9
                      go_enter Tryz.func50, Tryz.ntmps50
                      go_wp2_with fail
                      go_ret
                      exact ⟨rfl, HK0.out⟩
                  · obtain rfl := HR.out.symm.trans (eqB_no (fun e => h8 (by rw [e])))
                    have t1 : (a.rk == b.rk) = false := by simpa using h8
                    clear HR HLC hmc h8
                    go_enter Tryz.func50, Tryz.ntmps50
                    go_wp2_with fail
                    go_ret
                    exact ⟨rfl, HK0.out⟩
                · obtain rfl := HR.out.symm.trans (eqB_no (fun e => h7 (by rw [e])))
                  have t1 : (a.o.b == b.o.b) = false := by simpa using h7
                  clear HR HLC hmc h7
                  go_enter Tryz.func50, Tryz.ntmps50
                  go_wp2_with fail
                  go_ret
                  exact ⟨rfl, HK0.out⟩
              · obtain rfl := HR.out.symm.trans (eqB_no (fun e => h6 (by rw [e])))
                have t1 : (a.o.a == b.o.a) = false := by simpa using h6
                clear HR HLC hmc h6
                go_enter Tryz.func50, Tryz.ntmps50
                go_wp2_with fail
                go_ret
                exact ⟨rfl, HK0.out⟩
            · obtain rfl := HR.out.symm.trans (eqB_no (fun e => h5 (by rw [e])))
              have t1 : (a.o.k == b.o.k) = false := by simpa using h5
              clear HR HLC hmc h5
              go_enter Tryz.func50, Tryz.ntmps50
              go_wp2_with fail
              go_ret
              exact ⟨rfl, HK0.out⟩
          · obtain rfl := HR.out.symm.trans (eqB_no (fun e => h4 (by rw [e])))
            have t1 : (a.o.o == b.o.o) = false := by simpa using h4
            clear HR HLC hmc h4
            go_enter Tryz.func50, Tryz.ntmps50
            go_wp2_with fail
            go_ret
            exact ⟨rfl, HK0.out⟩
        · obtain rfl := HR.out.symm.trans (eqB_no (fun e => h3 (by rw [e])))
          have t1 : (a.o.f == b.o.f) = false := by simpa using h3
          clear HR HLC hmc h3
          go_enter Tryz.func50, Tryz.ntmps50
          go_wp2_with fail
          go_ret
          exact ⟨rfl, HK0.out⟩
      · obtain rfl := HR.out.symm.trans (eqB_no (fun e => h2 (by rw [e])))
        have t1 : (a.id == b.id) = false := by simpa using h2
        clear HR HLC hmc h2
        go_enter Tryz.func50, Tryz.ntmps50
        go_wp2_with fail
        go_ret
        exact ⟨rfl, HK0.out⟩
    · obtain rfl := HR.out.symm.trans (eqB_no (fun e => h1 (by rw [e])))
      have t1 : (a.c == b.c) = false := by simpa using h1
      clear HR HLC hmc h1
      go_enter Tryz.func50, Tryz.ntmps50
      go_wp2_with fail
      go_ret
      exact ⟨rfl, HK0.out⟩
  · obtain rfl := HR.out.symm.trans (eqB_no (fun e => h0 (by rw [e])))
    have t1 : (a.k == b.k) = false := by simpa using h0
    clear HR HLC hmc h0
    go_enter Tryz.func50, Tryz.ntmps50
    go_wp2_with fail
    go_ret
    exact ⟨rfl, HK0.out⟩
end Go.Proofs.YtlaccndjlfpjbaaGreatDoor
/-
  What fits an event's kind: a config, micros, lists.
-/
namespace Go.Proofs.YtlaccndjlfpjbaaGreatDoor
open Go.RowKit
set_option maxHeartbeats 8000000 in
set_option maxRecDepth 100000 in
theorem fitsConfigure_any (w : World) (x : Ev) (tx rd : Value) : Calls Tryz.prog 73 #[.agg (evC x tx rd)] w fun e w' => e = .returned (.bool (cfgGood x.g)) ∧ Keeps [] w w' := by
  have E12 := evC_12 x tx rd
  have E13 := evC_13 x tx rd
  have E14 := evC_14 x tx rd
  have E15 := evC_15 x tx rd
  have E16 := evC_16 x tx rd
  have E17 := evC_17 x tx rd
  have E18 := evC_18 x tx rd
  have w1 := fun w => within_any w x.g.mo 32
  have w2 := fun w => within_any w x.g.ms 4096
  have w3 := fun w => within_any w x.g.mt 1048576
  generalize hR : cfgGood x.g = R at *
  unfold cfgGood at hR
  have HR := Lib.hid hR; clear hR
  have hk0 : Keeps [] w ((w.alloc (.cells (evC x tx rd) 42)).alloc (.cells #[.int .u8 x.g.m, .int .i64 x.g.mo, .int .i64 x.g.ms, .int .i64 x.g.mt, .bool x.g.p, .bool x.g.cu, .bool x.g.me] 40)) := ((Keeps.refl [] w).alloc _).alloc _
  have HK := Lib.hid hk0; clear hk0
  by_cases h0 : x.g.m ≤ 4
  · rcases bool_two (decide (1 ≤ x.g.mo ∧ x.g.mo ≤ 32)) with h1 | h1 <;> rw [h1] at w1
    · rcases bool_two (decide (1 ≤ x.g.ms ∧ x.g.ms ≤ 4096)) with h2 | h2 <;> rw [h2] at w2
      · rcases bool_two (decide (1 ≤ x.g.mt ∧ x.g.mt ≤ 1048576)) with h3 | h3 <;> rw [h3] at w3
        all_goals
          have hr := HR.out
          rw [h1, h2, h3, decide_eq_true h0] at hr
          simp at hr
          subst hr
          clear HR h1 h2 h3
          go_enter Tryz.func73, Tryz.ntmps73
          go_wp2_with fail
          refine (w1 _).mono ?_; rintro e u ⟨rfl, rfl⟩
          go_wp2_with fail
          refine (w2 _).mono ?_; rintro e u ⟨rfl, rfl⟩
          go_wp2_with fail
          refine (w3 _).mono ?_; rintro e u ⟨rfl, rfl⟩
          go_wp2_with fail
          go_ret
          exact ⟨rfl, HK.out⟩
      · have hr := HR.out
        rw [h1, h2, decide_eq_true h0] at hr
        simp at hr
        subst hr
        clear HR h1 h2 w3
        go_enter Tryz.func73, Tryz.ntmps73
        go_wp2_with fail
        refine (w1 _).mono ?_; rintro e u ⟨rfl, rfl⟩
        go_wp2_with fail
        refine (w2 _).mono ?_; rintro e u ⟨rfl, rfl⟩
        go_wp2_with fail
        go_ret
        exact ⟨rfl, HK.out⟩
    · have hr := HR.out
      rw [h1, decide_eq_true h0] at hr
      simp at hr
      subst hr
      clear HR h1 w2 w3
      go_enter Tryz.func73, Tryz.ntmps73
      go_wp2_with fail
      refine (w1 _).mono ?_; rintro e u ⟨rfl, rfl⟩
      go_wp2_with fail
      go_ret
      exact ⟨rfl, HK.out⟩
  · have hr := HR.out
    rw [decide_eq_false h0] at hr
    simp at hr
    subst hr
    clear HR w1 w2 w3
    go_enter Tryz.func73, Tryz.ntmps73
    go_wp2_with fail
    go_ret
    exact ⟨rfl, HK.out⟩
theorem all_take {α : Type} {l : List α} {p : α → Bool} (d : α) (h : ∀ j, j < l.length → p (l.getD j d) = true) : l.all p = true := by
  rw [List.all_eq_true]
  intro x hx
  obtain ⟨i, hi, rfl⟩ := List.getElem_of_mem hx
  have := h i hi
  simpa [List.getD, List.getElem?_eq_getElem hi] using this
theorem all_not {α : Type} {l : List α} {p : α → Bool} (d : α) {j : Nat} (hj : j < l.length) (h : p (l.getD j d) = false) : l.all p = false := by
  cases hq : l.all p with
  | false => rfl
  | true =>
    rw [List.all_eq_true] at hq
    have := hq (l.getD j d) (by simp [List.getD, List.getElem?_eq_getElem hj])
    rw [h] at this; cases this
theorem prefix_all {α : Type} {l : List α} {p : α → Bool} {d : α} {k : Nat} (h : ∀ j, j < k → p (l.getD j d) = true) (hk : p (l.getD k d) = true) : ∀ j, j < k + 1 → p (l.getD j d) = true := by
  intro j hj
  rcases (by omega : j < k ∨ j = k) with h1 | rfl
  · exact h j h1
  · exact hk
theorem getD_get {α : Type} {l : List α} {k : Nat} (d : α) (h : k < l.length) : l[k]? = some (l.getD k d) := by
  simp [List.getD, List.getElem?_eq_getElem h]
theorem getD_in {α : Type} {l : List α} {k : Nat} (d : α) (h : k < l.length) : l.getD k d ∈ l := by
  simp [List.getD, List.getElem?_eq_getElem h]
def micNone : Mic := ⟨false, 0, 0⟩
set_option maxHeartbeats 8000000 in
set_option maxRecDepth 100000 in
theorem fitsBegin_any (w : World) (x : Ev) (hin : ∀ m ∈ x.t, m.In) {N : Nat} (tx rd : Value) (ht : Mics N w tx x.t) (hN : N ≤ w.heap.size) : Calls Tryz.prog 89 #[.agg (evC x tx rd)] w fun e w' => e = .returned (.bool (micsGood x.t)) ∧ Keeps [] w w' := by
  have E10 := evC_10 x tx rd
  have hk0 := (Keeps.refl [] w).alloc (.cells (evC x tx rd) 42)
  have wi := fun w => within_any w (x.t.length : Int) 8
  obtain ⟨a, c, rfl, hc, hm, h⟩ := ht
  generalize hR : micsGood x.t = R at *
  unfold micsGood at hR
  have HR := Lib.hid hR; have HH := Lib.hid h; have HK := Lib.hid hk0; have HIN := Lib.hid hin
  clear hR h hk0 hin
  by_cases hl : 1 ≤ x.t.length ∧ x.t.length ≤ 8
  · have e1 : decide (1 ≤ (x.t.length : Int) ∧ (x.t.length : Int) ≤ 8) = true := by simp; omega
    rw [e1] at wi
    obtain ⟨bk, o, rfl, hbN, hcells⟩ := HH.out (fun e => by rw [e] at hl; simp at hl)
    have HC := Lib.hid hcells
    clear e1 hcells HH
    go_enter Tryz.func89, Tryz.ntmps89
    go_wp2_with fail
    refine (wi _).mono ?_; rintro e u ⟨rfl, rfl⟩
    clear wi
    go_wp2_with fail
    go_loopw [2, 4, 13] (fun r _ i wr => ∃ k : Nat, r = .bool false ∧ i = .int .i64 k ∧ k ≤ x.t.length ∧ (∀ j, j < k → micGood (x.t.getD j micNone) = true) ∧ Keeps [] w wr) (fun _ _ i _ => x.t.length - (intOf i).toNat)
    case atStart => exact ⟨0, rfl, rfl, by omega, fun j hj => by omega, HK.out⟩
    case round =>
      obtain ⟨k, rfl, rfl, hk, hp, hkp⟩ := hrel
      have HP := Lib.hid hp; clear hp
      by_cases hlt : k < x.t.length
      · obtain ⟨d1, d2, d3⟩ := HC.out k _ (getD_get micNone hlt)
        replace d1 := hkp.cell d1 (by simp)
        replace d2 := hkp.cell d2 (by simp)
        replace d3 := hkp.cell d3 (by simp)
        have hmi := HIN.out _ (getD_in micNone hlt)
        have b1 := hmi.k0; have b2 := hmi.k1; have b3 := hmi.v0; have b4 := hmi.v1
        have hz : bk < wr.heap.size := by have := hkp.size; omega
        clear hmi
        have HKP := Lib.hid hkp; clear hkp
        rcases bool_two (micGood (x.t.getD k micNone)) with hg | hg
        · have HN := Lib.hid (prefix_all HP.out hg)
          clear HR HP HC HIN
          generalize x.t.getD k micNone = M at *
          obtain ⟨m1, m2, m3⟩ := M
          simp only [micGood] at hg d1 d2 d3 b1 b2 b3 b4
          have q1 : m2 < 8 := by simp at hg; exact hg.1
          have q2 : ¬ 8 ≤ m2 := by omega
          cases m1 with
          | false =>
            clear hg
            go_wp2_with fail
            go_roundw
            case rel => exact ⟨k + 1, rfl, by go_num, by omega, HN.out, HKP.out.alloc _⟩
            case measure => simp [intOf]; omega
          | true =>
            have q3 : m3 = 0 := by simp at hg; exact hg.2
            subst q3
            clear hg
            go_wp2_with fail
            go_roundw
            case rel => exact ⟨k + 1, rfl, by go_num, by omega, HN.out, HKP.out.alloc _⟩
            case measure => simp [intOf]; omega
        · have hr := HR.out
          rw [all_not micNone hlt hg] at hr
          simp at hr
          subst hr
          clear HR HP HC HIN
          generalize x.t.getD k micNone = M at *
          obtain ⟨m1, m2, m3⟩ := M
          simp only [micGood] at hg d1 d2 d3 b1 b2 b3 b4
          by_cases q1 : 8 ≤ m2
          · clear hg
            go_wp2_with fail
            go_ret
            exact ⟨rfl, HKP.out.alloc _⟩
          · have q2 : m1 = true ∧ (m3 != 0) = true := by
              simp at hg ⊢
              exact hg (by omega)
            obtain ⟨rfl, q3⟩ := q2
            clear hg
            go_wp2_with fail
            go_ret
            exact ⟨rfl, HKP.out.alloc _⟩
      · obtain rfl : k = x.t.length := by omega
        have hr := HR.out
        rw [all_take micNone HP.out, decide_eq_true hl] at hr
        simp at hr
        subst hr
        clear HR HP HC HIN
        go_wp2_with fail
        go_ret
        exact ⟨rfl, hkp⟩
  · have e1 : decide (1 ≤ (x.t.length : Int) ∧ (x.t.length : Int) ≤ 8) = false := by simp; omega
    rw [e1] at wi
    have hr := HR.out
    rw [decide_eq_false hl] at hr
    simp at hr
    subst hr
    clear HR HIN HH e1
    go_enter Tryz.func89, Tryz.ntmps89
    go_wp2_with fail
    refine (wi _).mono ?_; rintro e u ⟨rfl, rfl⟩
    go_wp2_with fail
    go_ret
    exact ⟨rfl, HK.out⟩
set_option maxHeartbeats 8000000 in
set_option maxRecDepth 100000 in
theorem fitsCommit_any (w : World) (x : Ev) {N : Nat} (tx rd : Value) (ht : Lists N w rd x.r) (_hN : N ≤ w.heap.size) : Calls Tryz.prog 93 #[.agg (evC x tx rd)] w fun e w' => e = .returned (.bool (listsGood x.r)) ∧ Keeps [] w w' := by
  have E11 := evC_11 x tx rd
  have hk0 := (Keeps.refl [] w).alloc (.cells (evC x tx rd) 42)
  obtain ⟨a, c, rfl, hc, hm, h⟩ := ht
  generalize hR : listsGood x.r = R at *
  unfold listsGood at hR
  have HR := Lib.hid hR; have HH := Lib.hid h; have HK := Lib.hid hk0
  clear hR h hk0
  by_cases hl : x.r.length ≤ 8
  · have z1 : ¬ 8 < (x.r.length : Int) := by omega
    go_enter Tryz.func93, Tryz.ntmps93
    go_wp2_with fail
    go_loopw [2, 4, 12] (fun r _ i wr => ∃ k : Nat, r = .bool false ∧ i = .int .i64 k ∧ k ≤ x.r.length ∧ (∀ j, j < k → decide ((x.r.getD j []).length ≤ 32) = true) ∧ Keeps [] w wr) (fun _ _ i _ => x.r.length - (intOf i).toNat)
    case atStart => exact ⟨0, rfl, rfl, by omega, fun j hj => by omega, HK.out⟩
    case round =>
      obtain ⟨k, rfl, rfl, hk, hp, hkp⟩ := hrel
      have HP := Lib.hid hp; clear hp
      by_cases hlt : k < x.r.length
      · obtain ⟨bk, o, rfl, hbN, hcells⟩ := HH.out (fun e => by rw [e] at hlt; simp at hlt)
        obtain ⟨u, d1, n1⟩ := hcells k hlt
        replace d1 := hkp.cell d1 (by simp)
        obtain ⟨a1, c1, rfl, hc1, hm1, _⟩ := n1
        clear hcells
        have HKP := Lib.hid hkp; clear hkp
        rcases bool_two (decide ((x.r.getD k []).length ≤ 32)) with hg | hg
        · have HN := Lib.hid (prefix_all (p := fun (l : List Int) => decide (l.length ≤ 32)) HP.out hg)
          have q1 : ¬ 32 < ((x.r.getD k []).length : Int) := by have := of_decide_eq_true hg; omega
          clear hg HR HP
          generalize x.r.getD k [] = LK at *
          go_wp2_with fail
          go_roundw
          case rel => exact ⟨k + 1, rfl, by go_num, by omega, HN.out, HKP.out⟩
          case measure => simp [intOf]; omega
        · have hr := HR.out
          rw [all_not (p := fun (l : List Int) => decide (l.length ≤ 32)) [] hlt hg] at hr
          simp at hr
          subst hr
          have q1 : 32 < ((x.r.getD k []).length : Int) := by have := of_decide_eq_false hg; omega
          clear hg HR HP
          generalize x.r.getD k [] = LK at *
          go_wp2_with fail
          go_ret
          exact ⟨rfl, HKP.out⟩
      · obtain rfl : k = x.r.length := by omega
        have hr := HR.out
        rw [all_take (p := fun (l : List Int) => decide (l.length ≤ 32)) [] HP.out, decide_eq_true hl] at hr
        simp at hr
        subst hr
        clear HR HP
        go_wp2_with fail
        go_ret
        exact ⟨rfl, hkp⟩
  · have z1 : 8 < (x.r.length : Int) := by omega
    have hr := HR.out
    rw [decide_eq_false hl] at hr
    simp at hr
    subst hr
    clear HR HH
    go_enter Tryz.func93, Tryz.ntmps93
    go_wp2_with fail
    go_ret
    exact ⟨rfl, HK.out⟩
end Go.Proofs.YtlaccndjlfpjbaaGreatDoor
