/-
  Events in memory; the small functions of the program.
-/
import Derived.OwnWalk
import Derived.Deep.MidRow
import Derived.Test.YtiljdehhjiahdaaGreatDoorG09
import Derived.Test.YtiljdehhjiahdaaGreatDoorG10
import Derived.Test.YtiljdehhjiahdaaGreatDoorG12
import Derived.Test.YtiljdehhjiahdaaGreatDoorG15
set_option linter.unusedSimpArgs false
set_option linter.unusedVariables false
namespace Go.Proofs.YtiljdehhjiahdaaGreatDoor
open Go.RowKit
/-- A slice of micros; its block is below N. -/
def Mics (N : Nat) (w : World) (v : Value) (l : List Mic) : Prop :=
  ∃ a c, v = .slice a l.length c ∧ l.length ≤ c ∧ c ≤ 9223372036854775807 ∧ (l ≠ [] → ∃ bk o, a = some ⟨bk, o, none⟩ ∧ bk < N ∧ ∀ j m, l[j]? = some m →
    w.cell? ⟨bk, o + j * 3, none⟩ = some (.bool m.rd) ∧ w.cell? ⟨bk, o + j * 3 + 1, none⟩ = some (.int .u8 m.key) ∧ w.cell? ⟨bk, o + j * 3 + 2, none⟩ = some (.int .u16 m.v))
/-- A slice of numbers. -/
def Nums (N : Nat) (w : World) (v : Value) (l : List Int) : Prop :=
  ∃ a c, v = .slice a l.length c ∧ l.length ≤ c ∧ c ≤ 9223372036854775807 ∧ (l ≠ [] → ∃ bk o, a = some ⟨bk, o, none⟩ ∧ bk < N ∧ ∀ j, j < l.length → w.cell? ⟨bk, o + j, none⟩ = some (.int .u16 (l.getD j 0)))
/-- A slice of slices of numbers. -/
def Lists (N : Nat) (w : World) (v : Value) (l : List (List Int)) : Prop :=
  ∃ a c, v = .slice a l.length c ∧ l.length ≤ c ∧ c ≤ 9223372036854775807 ∧ (l ≠ [] → ∃ bk o, a = some ⟨bk, o, none⟩ ∧ bk < N ∧ ∀ j, j < l.length → ∃ u, w.cell? ⟨bk, o + j, none⟩ = some u ∧ Nums N w u (l.getD j []))
/-- All blocks below N are as they were. -/
def Same (N : Nat) (w w' : World) : Prop := ∀ b, b < N → w'.heap[b]? = w.heap[b]?
theorem Same.cell {N : Nat} {w w' : World} (h : Same N w w') {b o : Nat} {v : Value} (hb : b < N) (hv : w.cell? ⟨b, o, none⟩ = some v) : w'.cell? ⟨b, o, none⟩ = some v :=
  (World.cell?_of_block (h b hb)).trans hv
theorem Same.refl (N : Nat) (w : World) : Same N w w := fun _ _ => rfl
theorem Same.trans {N : Nat} {a b c : World} (h : Same N a b) (k : Same N b c) : Same N a c := fun i hi => (k i hi).trans (h i hi)
theorem Keeps.same {F : List Nat} {N : Nat} {w w' : World} (hk : Keeps F w w') (hN : N ≤ w.heap.size) (hF : ∀ g ∈ F, N ≤ g) : Same N w w' :=
  fun b hb => hk.block b (by omega) (fun hg => by have := hF b hg; omega)
theorem Mics.same {N : Nat} {w w' : World} {v : Value} {l : List Mic} (h : Mics N w v l) (hk : Same N w w') : Mics N w' v l := by
  obtain ⟨a, c, rfl, hc, hm, h⟩ := h
  refine ⟨a, c, rfl, hc, hm, fun hn => ?_⟩
  obtain ⟨bk, o, rfl, hb, h'⟩ := h hn
  exact ⟨bk, o, rfl, hb, fun j m hj => ⟨hk.cell hb (h' j m hj).1, hk.cell hb (h' j m hj).2.1, hk.cell hb (h' j m hj).2.2⟩⟩
theorem Nums.same {N : Nat} {w w' : World} {v : Value} {l : List Int} (h : Nums N w v l) (hk : Same N w w') : Nums N w' v l := by
  obtain ⟨a, c, rfl, hc, hm, h⟩ := h
  refine ⟨a, c, rfl, hc, hm, fun hn => ?_⟩
  obtain ⟨bk, o, rfl, hb, h'⟩ := h hn
  exact ⟨bk, o, rfl, hb, fun j hj => hk.cell hb (h' j hj)⟩
theorem Lists.same {N : Nat} {w w' : World} {v : Value} {l : List (List Int)} (h : Lists N w v l) (hk : Same N w w') : Lists N w' v l := by
  obtain ⟨a, c, rfl, hc, hm, h⟩ := h
  refine ⟨a, c, rfl, hc, hm, fun hn => ?_⟩
  obtain ⟨bk, o, rfl, hb, h'⟩ := h hn
  refine ⟨bk, o, rfl, hb, fun j hj => ?_⟩
  obtain ⟨u, hu, hl⟩ := h' j hj
  exact ⟨u, hk.cell hb hu, hl.same hk⟩
theorem Nums.more {N M : Nat} {w : World} {v : Value} {l : List Int} (h : Nums N w v l) (hM : N ≤ M) : Nums M w v l := by
  obtain ⟨a, c, rfl, hc, hm, h⟩ := h
  refine ⟨a, c, rfl, hc, hm, fun hn => ?_⟩
  obtain ⟨bk, o, rfl, hb, h'⟩ := h hn
  exact ⟨bk, o, rfl, by omega, h'⟩
theorem Mics.nil (N : Nat) (w : World) : Mics N w (.slice none 0 0) [] := ⟨none, 0, rfl, Nat.le_refl _, by decide, fun h => absurd rfl h⟩
theorem Lists.nil (N : Nat) (w : World) : Lists N w (.slice none 0 0) [] := ⟨none, 0, rfl, Nat.le_refl _, by decide, fun h => absurd rfl h⟩
/-- The lists of an event, as they lie in memory. -/
structure EvAt (N : Nat) (w : World) (tx rd : Value) (x : Ev) : Prop where
  t : Mics N w tx x.t
  r : Lists N w rd x.r
theorem EvAt.same {N : Nat} {w w' : World} {tx rd : Value} {x : Ev} (h : EvAt N w tx rd x) (hk : Same N w w') : EvAt N w' tx rd x := ⟨h.t.same hk, h.r.same hk⟩
theorem EvAt.new {N : Nat} {w w' : World} {tx rd : Value} {x : Ev} (h : EvAt N w tx rd x) (hk : Keeps [] w w') (hN : N ≤ w.heap.size) : EvAt N w' tx rd x := h.same (hk.same hN (by simp))
theorem Mics.one {N : Nat} {w : World} {v : Value} {l : List Mic} (h : Mics N w v l) : v.oneCell' = true := by obtain ⟨a, c, rfl, _⟩ := h; rfl
theorem Lists.one {N : Nat} {w : World} {v : Value} {l : List (List Int)} (h : Lists N w v l) : v.oneCell' = true := by obtain ⟨a, c, rfl, _⟩ := h; rfl
theorem heap_alloc_at {w : World} {o : Obj} {b : Nat} (hb : w.heap.size = b) : (w.alloc o).heap[b]? = some o := by subst hb; exact heap_alloc_new w o
theorem Keeps.setRow {F : List Nat} {a w : World} (h : Keeps F a w) (g : Nat) (cs : Array Value) (hg : g ∈ F ∨ a.heap.size ≤ g) : Keeps F a (w.setRow g cs) := by
  refine ⟨h.os, h.tape, h.output, ?_, fun k hk hF => ?_⟩
  · have := h.size; simp [World.setRow]; exact this
  · have hne : g ≠ k := fun e => by subst e; rcases hg with h1 | h1; exact hF h1; omega
    rw [← h.block k hk hF]
    simp [World.setRow, Array.getElem?_modify, hne]
theorem setRow_size (w : World) (g : Nat) (cs : Array Value) : (w.setRow g cs).heap.size = w.heap.size := by simp [World.setRow]
theorem setRow_other {w : World} {g k : Nat} (cs : Array Value) (h : g ≠ k) : (w.setRow g cs).heap[k]? = w.heap[k]? := by simp [World.setRow, Array.getElem?_modify, h]
theorem evC_0 (x : Ev) (tx rd : Value) : (evC x tx rd)[0]? = some (.int .u8 x.k) := rfl
theorem evC_1 (x : Ev) (tx rd : Value) : (evC x tx rd)[1]? = some (.int .u8 x.c) := rfl
theorem evC_2 (x : Ev) (tx rd : Value) : (evC x tx rd)[2]? = some (.int .u16 x.id) := rfl
theorem evC_3 (x : Ev) (tx rd : Value) : (evC x tx rd)[3]? = some (.int .u8 x.o.f) := rfl
theorem evC_4 (x : Ev) (tx rd : Value) : (evC x tx rd)[4]? = some (.int .u8 x.o.o) := rfl
theorem evC_5 (x : Ev) (tx rd : Value) : (evC x tx rd)[5]? = some (.int .u8 x.o.k) := rfl
theorem evC_6 (x : Ev) (tx rd : Value) : (evC x tx rd)[6]? = some (.int .u16 x.o.a) := rfl
theorem evC_7 (x : Ev) (tx rd : Value) : (evC x tx rd)[7]? = some (.int .u16 x.o.b) := rfl
theorem evC_8 (x : Ev) (tx rd : Value) : (evC x tx rd)[8]? = some (.int .u8 x.rk) := rfl
theorem evC_9 (x : Ev) (tx rd : Value) : (evC x tx rd)[9]? = some (.int .u16 x.rv) := rfl
theorem evC_10 (x : Ev) (tx rd : Value) : (evC x tx rd)[10]? = some tx := rfl
theorem evC_11 (x : Ev) (tx rd : Value) : (evC x tx rd)[11]? = some rd := rfl
theorem evC_12 (x : Ev) (tx rd : Value) : (evC x tx rd)[12]? = some (.int .u8 x.g.m) := rfl
theorem evC_13 (x : Ev) (tx rd : Value) : (evC x tx rd)[13]? = some (.int .i64 x.g.mo) := rfl
theorem evC_14 (x : Ev) (tx rd : Value) : (evC x tx rd)[14]? = some (.int .i64 x.g.ms) := rfl
theorem evC_15 (x : Ev) (tx rd : Value) : (evC x tx rd)[15]? = some (.int .i64 x.g.mt) := rfl
theorem evC_16 (x : Ev) (tx rd : Value) : (evC x tx rd)[16]? = some (.bool x.g.p) := rfl
theorem evC_17 (x : Ev) (tx rd : Value) : (evC x tx rd)[17]? = some (.bool x.g.cu) := rfl
theorem evC_18 (x : Ev) (tx rd : Value) : (evC x tx rd)[18]? = some (.bool x.g.me) := rfl
theorem evC_one {tx rd : Value} (x : Ev) (h1 : tx.oneCell' = true) (h2 : rd.oneCell' = true) : (evC x tx rd).toList.all (·.oneCell') = true := by
  unfold Value.oneCell' at h1 h2
  simp [evC, Value.oneCell', h1, h2]
/-- A cell of an event's block. -/
theorem ev_cell {w : World} {b : Nat} {x : Ev} {tx rd : Value} {t : TypeId} {fr : Nat × Nat} (h : w.heap[b]? = some (.cells (evC x tx rd) t fr)) (i : Nat) {v : Value} (hv : (evC x tx rd)[i]? = some v) : w.cell? ⟨b, i, none⟩ = some v := by
  simp [World.cell?, h, hv]
theorem ev_thaw {w : World} {b : Nat} {x : Ev} {tx rd : Value} {t : TypeId} (h : w.heap[b]? = some (.cells (evC x tx rd) t (0, 0))) (i : Nat) : w.frozen? ⟨b, i, none⟩ = false := by
  simp [World.frozen?, h]
theorem ev_set {w : World} {b : Nat} {x y : Ev} {tx rd tx' rd' : Value} {t : TypeId} (h : w.heap[b]? = some (.cells (evC x tx rd) t (0, 0))) (i : Nat) (v : Value) (e : (evC x tx rd).setIfInBounds i v = evC y tx' rd') :
    (w.setCell ⟨b, i, none⟩ v).heap[b]? = some (.cells (evC y tx' rd') t (0, 0)) := by
  rw [heap_setCell_same w b i _ t v h, e]
theorem Keeps.own {a w : World} {b : Nat} (h : Keeps [b] a w) (b' i : Nat) (v : Value) (e : b' = b := by rfl) : Keeps [b] a (w.setCell ⟨b', i, none⟩ v) := h.setCell _ _ (.inl (by simp [e]))
/-- A part of an event's block is stored: an operation, an answer, a cell. -/
theorem ev_set_op {w : World} {b : Nat} {x : Ev} {tx rd : Value} {t : TypeId} (h : w.heap[b]? = some (.cells (evC x tx rd) t (0, 0))) (o : Opn) :
    (((((w.setCell ⟨b, 3, none⟩ (.int .u8 o.f)).setCell ⟨b, 4, none⟩ (.int .u8 o.o)).setCell ⟨b, 5, none⟩ (.int .u8 o.k)).setCell ⟨b, 6, none⟩ (.int .u16 o.a)).setCell ⟨b, 7, none⟩ (.int .u16 o.b)).heap[b]? = some (.cells (evC { x with o := o } tx rd) t (0, 0)) :=
  ev_set (x := { x with o := ⟨o.f, o.o, o.k, o.a, x.o.b⟩ }) (ev_set (x := { x with o := ⟨o.f, o.o, o.k, x.o.a, x.o.b⟩ }) (ev_set (x := { x with o := ⟨o.f, o.o, x.o.k, x.o.a, x.o.b⟩ }) (ev_set (x := { x with o := ⟨o.f, x.o.o, x.o.k, x.o.a, x.o.b⟩ }) (ev_set h 3 _ rfl) 4 _ rfl) 5 _ rfl) 6 _ rfl) 7 _ rfl
theorem ev_set_res {w : World} {b : Nat} {x : Ev} {tx rd : Value} {t : TypeId} (h : w.heap[b]? = some (.cells (evC x tx rd) t (0, 0))) (k v : Int) :
    ((w.setCell ⟨b, 8, none⟩ (.int .u8 k)).setCell ⟨b, 9, none⟩ (.int .u16 v)).heap[b]? = some (.cells (evC { x with rk := k, rv := v } tx rd) t (0, 0)) :=
  ev_set (x := { x with rk := k }) (ev_set h 8 _ rfl) 9 _ rfl
section
variable {ops : Array Oper} {rest : List Oper} {a : Act} {w : World} {Q : Exit → Act → World → Prop}
/-- A whole event is stored, is read. -/
theorem wpList_put_ev {dst : Option Tmp} {ty : TypeId} {pos : String} {after : Array Edge} {x y : Operand} {g : Nat} {old cells : Array Value} {t : TypeId}
    (hx : a.eval x = .pointer (some ⟨g, 0, none⟩)) (hy : a.eval y = .agg cells) (hg : w.heap[g]? = some (.cells old t (0, 0))) (hs : old.size = 19 ∧ cells.size = 19)
    (h1 : cells.toList.all (·.oneCell') = true) (h : ∀ W, W.heap[g]? = some (.cells cells t (0, 0)) → Keeps [g] w W → wpList Tryz.prog ops Q rest (a.put dst undef) W) :
    wpList Tryz.prog ops Q ({ dst := dst, op := .store 32 x y, type := ty, pos := pos, after := after, guard := none } :: rest) a w :=
  wpList_store_row rfl 32 x y rfl g cells hx hy t old hg (by rw [hs.2]; kernel_rfl) (by rw [hs.1, hs.2]) (by rw [← Array.all_toList]; exact h1) (h _ (setRow_heap w g old cells t (0, 0) hg) ((Keeps.refl [g] w).setRow g cells (.inl (by simp))))
theorem wpList_put_op {dst : Option Tmp} {ty : TypeId} {pos : String} {after : Array Edge} {x y : Operand} {b : Nat} {e : Ev} {tx rd : Value} {t : TypeId} {f o k m n : Int}
    (hx : a.eval x = .pointer (some ⟨b, 3, none⟩)) (hy : a.eval y = .agg #[.int .u8 f, .int .u8 o, .int .u8 k, .int .u16 m, .int .u16 n]) (hg : w.heap[b]? = some (.cells (evC e tx rd) t (0, 0)))
    (h : ∀ W, W.heap[b]? = some (.cells (evC { e with o := ⟨f, o, k, m, n⟩ } tx rd) t (0, 0)) → Keeps [b] w W → wpList Tryz.prog ops Q rest (a.put dst undef) W) :
    wpList Tryz.prog ops Q ({ dst := dst, op := .store 24 x y, type := ty, pos := pos, after := after, guard := none } :: rest) a w := by
  refine wpList_store_mid rfl 24 x y rfl b 3 #[.int .u8 f, .int .u8 o, .int .u8 k, .int .u16 m, .int .u16 n] hx hy (fun j hj => ⟨?_, ev_thaw hg _⟩) (by kernel_rfl) (by rw [← Array.all_toList]; rfl)
    (h _ (ev_set_op hg ⟨f, o, k, m, n⟩) ((((((Keeps.refl [b] w).own b 3 _).own b 4 _).own b 5 _).own b 6 _).own b 7 _))
  have hj2 : j < 5 := hj
  rcases (by omega : j = 0 ∨ j = 1 ∨ j = 2 ∨ j = 3 ∨ j = 4) with rfl | rfl | rfl | rfl | rfl
  all_goals rw [ev_cell hg _ rfl]; rfl
theorem wpList_put_res {dst : Option Tmp} {ty : TypeId} {pos : String} {after : Array Edge} {x y : Operand} {b : Nat} {e : Ev} {tx rd : Value} {t : TypeId} {k v : Int}
    (hx : a.eval x = .pointer (some ⟨b, 8, none⟩)) (hy : a.eval y = .agg #[.int .u8 k, .int .u16 v]) (hg : w.heap[b]? = some (.cells (evC e tx rd) t (0, 0)))
    (h : ∀ W, W.heap[b]? = some (.cells (evC { e with rk := k, rv := v } tx rd) t (0, 0)) → Keeps [b] w W → wpList Tryz.prog ops Q rest (a.put dst undef) W) :
    wpList Tryz.prog ops Q ({ dst := dst, op := .store 26 x y, type := ty, pos := pos, after := after, guard := none } :: rest) a w := by
  refine wpList_store_mid rfl 26 x y rfl b 8 #[.int .u8 k, .int .u16 v] hx hy (fun j hj => ⟨?_, ev_thaw hg _⟩) (by kernel_rfl) (by rw [← Array.all_toList]; rfl)
    (h _ (ev_set_res hg k v) (((Keeps.refl [b] w).own b 8 _).own b 9 _))
  have hj2 : j < 2 := hj
  rcases (by omega : j = 0 ∨ j = 1) with rfl | rfl
  all_goals rw [ev_cell hg _ rfl]; rfl
theorem wpList_load_ev {dst : Option Tmp} {ty : TypeId} {pos : String} {after : Array Edge} {x : Operand} {g : Nat} {cells : Array Value} {t : TypeId} {fr : Nat × Nat}
    (hx : a.eval x = .pointer (some ⟨g, 0, none⟩)) (hg : w.heap[g]? = some (.cells cells t fr)) (hs : cells.size = 19) (h : wpList Tryz.prog ops Q rest (a.put dst (.agg cells)) w) :
    wpList Tryz.prog ops Q ({ dst := dst, op := .load 32 x, type := ty, pos := pos, after := after, guard := none } :: rest) a w :=
  wpList_load_row rfl 32 x rfl g hx t cells fr _ hg Tryz.underlying32 rfl (by rw [hs]; kernel_rfl) h
end
/-- A function that hands back an event; an event and an error. -/
theorem results_ev {fn : Func} {p : Tmp} (h : fn.results = #[.cell p 32]) (tmps : Array Value) (w : World) (b : Nat) {x : Ev} {tx rd : Value} {t : TypeId}
    (hp : tmps.getD p undef = .pointer (some ⟨b, 0, none⟩)) (hb : w.heap[b]? = some (.cells (evC x tx rd) t (0, 0))) : (results fn tmps).run Tryz.prog w = .ok (.agg (evC x tx rd)) w :=
  results_cell_row h tmps w b t _ _ _ hp hb Tryz.underlying32 rfl (by kernel_rfl)
theorem results_ev2 {fn : Func} {p u : Tmp} (h : fn.results = #[.cell p 32, .tmp u]) (tmps : Array Value) (w : World) (b : Nat) {x : Ev} {tx rd : Value} {t : TypeId}
    (hp : tmps.getD p undef = .pointer (some ⟨b, 0, none⟩)) (hb : w.heap[b]? = some (.cells (evC x tx rd) t (0, 0))) : (results fn tmps).run Tryz.prog w = .ok (.tuple #[.agg (evC x tx rd), tmps.getD u undef]) w := by
  have h1 : (loadVar 32 ⟨b, 0, none⟩).run Tryz.prog w = .ok (.agg (evC x tx rd)) w := run_loadVar_row w b t 32 _ _ _ hb Tryz.underlying32 rfl (by kernel_rfl)
  rw [results_cell_tmp h, hp]
  simp [asAddr, h1, Result.andThen]
set_option maxHeartbeats 1000000 in
theorem within_any (w : World) (n most : Int) : Calls Tryz.prog 111 #[.int .i64 n, .int .i64 most] w fun e w' => e = .returned (.bool (decide (1 ≤ n ∧ n ≤ most))) ∧ w = w' := by
  by_cases h1 : 1 ≤ n
  · by_cases h2 : n ≤ most
    · have e : decide (1 ≤ n ∧ n ≤ most) = true := by simp [h1, h2]
      rw [e]
      go_enter Tryz.func111, Tryz.ntmps111
      go_wp2_with fail
      go_ret
      exact ⟨rfl, rfl⟩
    · have e : decide (1 ≤ n ∧ n ≤ most) = false := by simp [h2]
      rw [e]
      go_enter Tryz.func111, Tryz.ntmps111
      go_wp2_with fail
      go_ret
      exact ⟨rfl, rfl⟩
  · have e : decide (1 ≤ n ∧ n ≤ most) = false := by simp [h1]
    rw [e]
    go_enter Tryz.func111, Tryz.ntmps111
    go_wp2_with fail
    go_ret
    exact ⟨rfl, rfl⟩
set_option maxHeartbeats 4000000 in
set_option maxRecDepth 100000 in
theorem ofWho_any (w : World) (x : Ev) (tx rd : Value) : Calls Tryz.prog 85 #[.agg (evC x tx rd)] w fun e w' =>
    e = .returned (.agg (evC (evWho x) (.slice none 0 0) (.slice none 0 0))) ∧ Keeps [] w w' := by
  have E0 := evC_0 x tx rd; have E1 := evC_1 x tx rd; have E2 := evC_2 x tx rd
  go_enter Tryz.func85, Tryz.ntmps85
  go_wp2_with ((with_reducible apply wpList_put_ev); exact rfl; exact rfl; (first | assumption | (refine heap_alloc_lt ?_; assumption) | (refine heap_alloc_lt (heap_alloc_lt ?_); assumption) | exact heap_alloc_at (by simp)); exact ⟨rfl, rfl⟩; exact rfl)
  intro W hb hk
  go_wp2_with fail
  exact bodyPost_ret (results_ev (x := evWho x) rfl _ _ _ rfl hb) rfl ⟨rfl, (((Keeps.refl [] w).alloc _).alloc _).trans hk (fun g hg => .inr (by simp at hg; omega))⟩
set_option maxHeartbeats 4000000 in
set_option maxRecDepth 100000 in
theorem ofConfigure_any (w : World) (x : Ev) (tx rd : Value) : Calls Tryz.prog 73 #[.agg (evC x tx rd)] w fun e w' =>
    e = .returned (.agg (evC { evZero with k := x.k, g := x.g } (.slice none 0 0) (.slice none 0 0))) ∧ Keeps [] w w' := by
  have E0 := evC_0 x tx rd
  have E12 := evC_12 x tx rd
  have E13 := evC_13 x tx rd
  have E14 := evC_14 x tx rd
  have E15 := evC_15 x tx rd
  have E16 := evC_16 x tx rd
  have E17 := evC_17 x tx rd
  have E18 := evC_18 x tx rd
  go_enter Tryz.func73, Tryz.ntmps73
  go_wp2_with ((with_reducible apply wpList_put_ev); exact rfl; exact rfl; (first | assumption | (refine heap_alloc_lt ?_; assumption) | (refine heap_alloc_lt (heap_alloc_lt ?_); assumption) | exact heap_alloc_at (by simp)); exact ⟨rfl, rfl⟩; exact rfl)
  intro W hb hk
  go_wp2_with fail
  exact bodyPost_ret (results_ev (x := { evZero with k := x.k, g := x.g }) rfl _ _ _ rfl hb) rfl ⟨rfl, (((Keeps.refl [] w).alloc _).alloc _).trans hk (fun g hg => .inr (by simp at hg; omega))⟩
set_option maxHeartbeats 4000000 in
set_option maxRecDepth 100000 in
theorem ofInvoke_any (w : World) (x : Ev) (tx rd : Value) : Calls Tryz.prog 77 #[.agg (evC x tx rd)] w fun e w' =>
    e = .returned (.agg (evC { evWho x with o := x.o } (.slice none 0 0) (.slice none 0 0))) ∧ Keeps [] w w' := by
  have hX := heap_alloc_new w (.cells (evC x tx rd) 32)
  go_enter Tryz.func77, Tryz.ntmps77
  go_wp2_with ((with_reducible apply wpList_load_ev); exact rfl; (first | assumption | (refine heap_alloc_lt ?_; assumption) | (refine heap_alloc_lt (heap_alloc_lt ?_); assumption) | exact heap_alloc_at (by simp)); exact rfl)
  refine (ofWho_any _ x tx rd).mono ?_; rintro e w1 ⟨rfl, hk1⟩
  have hX1 := hk1.heap (heap_alloc_lt hX) (by simp)
  have hR1 := hk1.heap (heap_alloc2_new w _ _) (by simp)
  have hK1 := (((Keeps.refl [] w).alloc _).alloc _).trans hk1 (FSub.refl _ _)
  have hz1 := lt_of_block hR1
  clear hX hk1
  go_wp2_with ((with_reducible apply wpList_put_ev); exact rfl; exact rfl; (first | assumption | (refine heap_alloc_lt ?_; assumption) | (refine heap_alloc_lt (heap_alloc_lt ?_); assumption) | exact heap_alloc_at (by simp)); exact ⟨rfl, rfl⟩; exact rfl)
  intro W2 hb2 hk2
  have hX2 := hk2.heap (heap_alloc_lt hX1) (by simp; omega)
  have hR2 := hk2.heap (heap_alloc_lt hR1) (by simp; omega)
  have hK2 := (hK1.alloc _).trans hk2 (fun g hg => .inr (by have := hK1.size; simp at hg; omega))
  have c3 := ev_cell hX2 3 (evC_3 x tx rd)
  have c4 := ev_cell hX2 4 (evC_4 x tx rd)
  have c5 := ev_cell hX2 5 (evC_5 x tx rd)
  have c6 := ev_cell hX2 6 (evC_6 x tx rd)
  have c7 := ev_cell hX2 7 (evC_7 x tx rd)
  clear hX1 hR1 hK1 hk2 hX2
  go_wp2_with ((with_reducible apply wpList_put_op); exact rfl; exact rfl; assumption)
  intro W3 hb3 hk3
  have hR3 := hk3.heap hR2 (by simp; omega)
  have hK3 := hK2.trans hk3 (fun g hg => .inr (by simp at hg; omega))
  go_wp2_with (first | ((with_reducible apply wpList_load_ev); exact rfl; (first | assumption | (refine heap_alloc_lt ?_; assumption) | (refine heap_alloc_lt (heap_alloc_lt ?_); assumption) | exact heap_alloc_at (by simp)); exact rfl) | ((with_reducible apply wpList_put_ev); exact rfl; exact rfl; (first | assumption | (refine heap_alloc_lt ?_; assumption) | (refine heap_alloc_lt (heap_alloc_lt ?_); assumption) | exact heap_alloc_at (by simp)); exact ⟨rfl, rfl⟩; (refine evC_one _ ?_ ?_ <;> first | rfl | assumption)))
  intro W4 hb4 hk4
  go_wp2_with fail
  exact bodyPost_ret (results_ev rfl _ _ _ rfl hb4) rfl ⟨rfl, hK3.trans hk4 (fun g hg => .inr (by simp at hg; omega))⟩
set_option maxHeartbeats 4000000 in
set_option maxRecDepth 100000 in
theorem ofReturn_any (w : World) (x : Ev) (tx rd : Value) : Calls Tryz.prog 81 #[.agg (evC x tx rd)] w fun e w' =>
    e = .returned (.agg (evC { evWho x with rk := x.rk, rv := x.rv } (.slice none 0 0) (.slice none 0 0))) ∧ Keeps [] w w' := by
  have hX := heap_alloc_new w (.cells (evC x tx rd) 32)
  go_enter Tryz.func81, Tryz.ntmps81
  go_wp2_with ((with_reducible apply wpList_load_ev); exact rfl; (first | assumption | (refine heap_alloc_lt ?_; assumption) | (refine heap_alloc_lt (heap_alloc_lt ?_); assumption) | exact heap_alloc_at (by simp)); exact rfl)
  refine (ofWho_any _ x tx rd).mono ?_; rintro e w1 ⟨rfl, hk1⟩
  have hX1 := hk1.heap (heap_alloc_lt hX) (by simp)
  have hR1 := hk1.heap (heap_alloc2_new w _ _) (by simp)
  have hK1 := (((Keeps.refl [] w).alloc _).alloc _).trans hk1 (FSub.refl _ _)
  have hz1 := lt_of_block hR1
  clear hX hk1
  go_wp2_with ((with_reducible apply wpList_put_ev); exact rfl; exact rfl; (first | assumption | (refine heap_alloc_lt ?_; assumption) | (refine heap_alloc_lt (heap_alloc_lt ?_); assumption) | exact heap_alloc_at (by simp)); exact ⟨rfl, rfl⟩; exact rfl)
  intro W2 hb2 hk2
  have hX2 := hk2.heap (heap_alloc_lt hX1) (by simp; omega)
  have hR2 := hk2.heap (heap_alloc_lt hR1) (by simp; omega)
  have hK2 := (hK1.alloc _).trans hk2 (fun g hg => .inr (by have := hK1.size; simp at hg; omega))
  have c8 := ev_cell hX2 8 (evC_8 x tx rd)
  have c9 := ev_cell hX2 9 (evC_9 x tx rd)
  clear hX1 hR1 hK1 hk2 hX2
  go_wp2_with ((with_reducible apply wpList_put_res); exact rfl; exact rfl; assumption)
  intro W3 hb3 hk3
  have hR3 := hk3.heap hR2 (by simp; omega)
  have hK3 := hK2.trans hk3 (fun g hg => .inr (by simp at hg; omega))
  go_wp2_with (first | ((with_reducible apply wpList_load_ev); exact rfl; (first | assumption | (refine heap_alloc_lt ?_; assumption) | (refine heap_alloc_lt (heap_alloc_lt ?_); assumption) | exact heap_alloc_at (by simp)); exact rfl) | ((with_reducible apply wpList_put_ev); exact rfl; exact rfl; (first | assumption | (refine heap_alloc_lt ?_; assumption) | (refine heap_alloc_lt (heap_alloc_lt ?_); assumption) | exact heap_alloc_at (by simp)); exact ⟨rfl, rfl⟩; (refine evC_one _ ?_ ?_ <;> first | rfl | assumption)))
  intro W4 hb4 hk4
  go_wp2_with fail
  exact bodyPost_ret (results_ev rfl _ _ _ rfl hb4) rfl ⟨rfl, hK3.trans hk4 (fun g hg => .inr (by simp at hg; omega))⟩
end Go.Proofs.YtiljdehhjiahdaaGreatDoor
