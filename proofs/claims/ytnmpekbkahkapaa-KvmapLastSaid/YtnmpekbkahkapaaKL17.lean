/-
  KvmapCodes over any key map.
-/
import Derived.Test.YtnmpekbkahkapaaKL15
import Derived.Test.YtnmpekbkahkapaaKL07
import Derived.Test.YtnmpekbkahkapaaKL06
import Derived.Test.YtnmpekbkahkapaaKL16
set_option linter.unusedSimpArgs false
set_option linter.unusedVariables false
namespace Go.Proofs.Ytnmpekbkahkapaa
open Go.RowKit
variable {G : World → Prop}
theorem look_filter (key k : Int) : ∀ t : List It, itLook k (t.filter fun x => x.k == key) = if k = key then itLook k t else none
  | [] => by simp [itLook]
  | a :: r => by
    have ih := look_filter key k r
    rw [List.filter_cons]
    by_cases ha : a.k = key
    · rw [if_pos (by simpa using ha), itLook, itLook, ih]
      by_cases hk : k = key
      · rw [if_pos hk, if_pos hk]
      · rw [if_neg hk, if_neg hk, if_neg (by rw [ha]; exact fun e => hk e.symm)]
    · rw [if_neg (by simpa using ha), ih]
      by_cases hk : k = key
      · rw [if_pos hk, if_pos hk, itLook, if_neg (by rw [hk]; exact ha)]
      · rw [if_neg hk, if_neg hk]
theorem kv0_get (k : Nat) : kv0.getD k none = none := by
  unfold kv0
  rw [List.getD_eq_getElem?_getD, List.getElem?_replicate]
  split <;> rfl
theorem only_get {m : Kv} {key : Int} (h0 : 0 ≤ key) {k : Nat} (hk : k < 8) : (kvOnly m key).getD k none = if (k : Int) = key then m.getD k none else none := by
  unfold kvOnly
  split
  · rename_i h8
    by_cases e : (k : Int) = key
    · rw [if_pos e, show key.toNat = k by omega, List.getD_eq_getElem?_getD, List.getElem?_set_self (by show k < 8; exact hk)]
      rfl
    · rw [if_neg e, List.getD_eq_getElem?_getD, List.getElem?_set_ne (by omega), ← List.getD_eq_getElem?_getD, kv0_get]
  · rw [if_neg (by omega), kv0_get]
theorem Rel.only {m : Kv} {t : List It} (h : Rel m t) {key : Int} (h0 : 0 ≤ key) : Rel (kvOnly m key) (t.filter fun x => x.k == key) := by
  refine ⟨kvOnly_in h.in_ h0, fun k hk => ?_, fun x hx => h.keys x (List.mem_filter.1 hx).1, h.nodup.sublist (List.Sublist.map _ List.filter_sublist)⟩
  rw [look_filter, only_get h0 hk]
  split
  · exact h.look k hk
  · rfl
set_option maxHeartbeats 8000000
set_option maxRecDepth 100000
end Go.Proofs.Ytnmpekbkahkapaa
/-
  A key map's bytes, read back.
-/
namespace Go.Proofs.Ytnmpekbkahkapaa
open Go.RowKit
theorem bits_more (B k : Nat) : B % 2 ^ (k + 1) = B % 2 ^ k + 2 ^ k * (B / 2 ^ k % 2) := Nat.mod_pow_succ
end Go.Proofs.Ytnmpekbkahkapaa
/-
  Keys are apart: what operations at one key answer, and leave there.
-/
namespace Go.Proofs.Ytnmpekbkahkapaa
open Go.RowKit
/-- Steps that were taken, one by one. -/
theorem st_at {σ : Type} (X : σ → Opn → σ × Ans × Int) : ∀ (s : σ) (l : List Opn) (i : Nat) (hi : i < (stL X s l).length) (hj : i < l.length), (X (stS X s (l.take i)) l[i]).2.2 = 0 ∧ (stL X s l)[i] = (X (stS X s (l.take i)) l[i]).2.1 ∧ stS X s (l.take (i + 1)) = (X (stS X s (l.take i)) l[i]).1
  | s, [], i, hi, hj => by simp at hj
  | s, x :: l, i, hi, hj => by
    have e : stL X s (x :: l) = if (X s x).2.2 = 0 then (X s x).2.1 :: stL X (X s x).1 l else [] := rfl
    have e2 : ∀ m, stS X s (x :: m) = if (X s x).2.2 = 0 then stS X (X s x).1 m else s := fun _ => rfl
    by_cases h0 : (X s x).2.2 = 0
    · rw [if_pos h0] at e
      cases i with
      | zero =>
        refine ⟨h0, by simp only [e]; rfl, ?_⟩
        show stS X s (x :: l.take 0) = _
        rw [e2, if_pos h0]
        rfl
      | succ i =>
        have hi2 : i < (stL X (X s x).1 l).length := by rw [e] at hi; simpa using hi
        obtain ⟨h1, h2, h3⟩ := st_at X (X s x).1 l i hi2 (by simpa using hj)
        have t1 : stS X s ((x :: l).take (i + 1)) = stS X (X s x).1 (l.take i) := by
          show stS X s (x :: l.take i) = _
          rw [e2, if_pos h0]
        have t2 : stS X s ((x :: l).take (i + 1 + 1)) = stS X (X s x).1 (l.take (i + 1)) := by
          show stS X s (x :: l.take (i + 1)) = _
          rw [e2, if_pos h0]
        rw [t1, t2]
        refine ⟨h1, ?_, h3⟩
        simp only [e]
        exact h2
    · rw [if_neg h0] at e
      rw [e] at hi
      simp at hi
theorem get_set {m : Kv} {k j : Nat} (hk : k < m.length) (o : Option Int) : (m.set k o).getD j none = if k = j then o else m.getD j none := by
  rw [List.getD_eq_getElem?_getD, List.getElem?_set]
  split
  · rename_i e
    subst e
    first | rfl | (rw [if_pos hk]; rfl)
  · rw [← List.getD_eq_getElem?_getD]
end Go.Proofs.Ytnmpekbkahkapaa
/-
  KvmapLast: two arrays in memory, what a step does by its ways.
-/
namespace Go.Proofs.Ytnmpekbkahkapaa
open Go.RowKit
def thA (m : Kv) : Array Value := #[.bool (m.getD 0 none).isSome, .bool (m.getD 1 none).isSome, .bool (m.getD 2 none).isSome, .bool (m.getD 3 none).isSome, .bool (m.getD 4 none).isSome, .bool (m.getD 5 none).isSome, .bool (m.getD 6 none).isSome, .bool (m.getD 7 none).isSome]
def laA (vs : List Int) : Array Value := #[.int .u16 (vs.getD 0 0), .int .u16 (vs.getD 1 0), .int .u16 (vs.getD 2 0), .int .u16 (vs.getD 3 0), .int .u16 (vs.getD 4 0), .int .u16 (vs.getD 5 0), .int .u16 (vs.getD 6 0), .int .u16 (vs.getD 7 0)]
theorem thA_get (m : Kv) {k : Nat} (hk : k < 8) : (thA m)[k]? = some (.bool (m.getD k none).isSome) := by
  match k, hk with
  | 0, _ | 1, _ | 2, _ | 3, _ | 4, _ | 5, _ | 6, _ | 7, _ => rfl
theorem laA_get (vs : List Int) {k : Nat} (hk : k < 8) : (laA vs)[k]? = some (.int .u16 (vs.getD k 0)) := by
  match k, hk with
  | 0, _ | 1, _ | 2, _ | 3, _ | 4, _ | 5, _ | 6, _ | 7, _ => rfl
theorem thA_set {m : Kv} (hl : m.length = 8) {k : Nat} (hk : k < 8) (o : Option Int) : (thA m).setIfInBounds k (.bool o.isSome) = thA (m.set k o) := by
  match m, hl, k, hk with
  | [a, b, c, d, e, f, g, i], _, 0, _ | [a, b, c, d, e, f, g, i], _, 1, _ | [a, b, c, d, e, f, g, i], _, 2, _ | [a, b, c, d, e, f, g, i], _, 3, _ | [a, b, c, d, e, f, g, i], _, 4, _ | [a, b, c, d, e, f, g, i], _, 5, _ | [a, b, c, d, e, f, g, i], _, 6, _ | [a, b, c, d, e, f, g, i], _, 7, _ => rfl
theorem laA_set {vs : List Int} (hl : vs.length = 8) {k : Nat} (hk : k < 8) (v : Int) : (laA vs).setIfInBounds k (.int .u16 v) = laA (vs.set k v) := by
  match vs, hl, k, hk with
  | [a, b, c, d, e, f, g, i], _, 0, _ | [a, b, c, d, e, f, g, i], _, 1, _ | [a, b, c, d, e, f, g, i], _, 2, _ | [a, b, c, d, e, f, g, i], _, 3, _ | [a, b, c, d, e, f, g, i], _, 4, _ | [a, b, c, d, e, f, g, i], _, 5, _ | [a, b, c, d, e, f, g, i], _, 6, _ | [a, b, c, d, e, f, g, i], _, 7, _ => rfl
section
variable {w : World} {b : Nat} {m : Kv} {vs : List Int} {t : TypeId}
theorem th_cell (hg : w.heap[b]? = some (.cells (thA m) t (0, 0))) {k : Nat} (hk : k < 8) : w.cell? ⟨b, k, none⟩ = some (.bool (m.getD k none).isSome) := cell_lit hg k (thA_get m hk)
theorem la_cell (hg : w.heap[b]? = some (.cells (laA vs) t (0, 0))) {k : Nat} (hk : k < 8) : w.cell? ⟨b, k, none⟩ = some (.int .u16 (vs.getD k 0)) := cell_lit hg k (laA_get vs hk)
theorem any_thaw {cs : Array Value} (hg : w.heap[b]? = some (.cells cs t (0, 0))) (i : Nat) : w.frozen? ⟨b, i, none⟩ = false := by simp [World.frozen?, hg]
theorem th_put (hg : w.heap[b]? = some (.cells (thA m) t (0, 0))) (hl : m.length = 8) {k : Nat} (hk : k < 8) (o : Option Int) (v : Bool) (hv : v = o.isSome) : (w.setCell ⟨b, k, none⟩ (.bool v)).heap[b]? = some (.cells (thA (m.set k o)) t (0, 0)) := by
  rw [hv, heap_setCell_same w b k _ t _ hg, thA_set hl hk]
theorem la_put (hg : w.heap[b]? = some (.cells (laA vs) t (0, 0))) (hl : vs.length = 8) {k : Nat} (hk : k < 8) (v : Int) : (w.setCell ⟨b, k, none⟩ (.int .u16 v)).heap[b]? = some (.cells (laA (vs.set k v)) t (0, 0)) := by
  rw [heap_setCell_same w b k _ t _ hg, laA_set hl hk]
end
/-- What was put last. -/
structure LaOk (m : Kv) (vs : List Int) : Prop where
  len : vs.length = 8
  mlen : m.length = 8
  last : ∀ j v, m.getD j none = some v → vs.getD j 0 = v
theorem LaOk.first : LaOk kv0 [0, 0, 0, 0, 0, 0, 0, 0] := ⟨rfl, rfl, fun j v h => by
  have e : kv0.getD j none = none := by
    unfold kv0
    rw [List.getD_eq_getElem?_getD, List.getElem?_replicate]
    split <;> rfl
  rw [e] at h; cases h⟩
theorem LaOk.put {m : Kv} {vs : List Int} (h : LaOk m vs) {n : Nat} (hn : n < 8) (v : Int) : LaOk (m.set n (some v)) (vs.set n v) := by
  refine ⟨by simp [h.len], by simp [h.mlen], fun j u hj => ?_⟩
  rw [get_set (by rw [h.mlen]; exact hn)] at hj
  rw [List.getD_eq_getElem?_getD, List.getElem?_set]
  by_cases e : n = j
  · rw [if_pos e] at hj
    obtain rfl := Option.some.inj hj
    rw [if_pos e, if_pos (by rw [h.len]; exact hn)]
    rfl
  · rw [if_neg e] at hj
    rw [if_neg e, ← List.getD_eq_getElem?_getD]
    exact h.last j u hj
theorem LaOk.del {m : Kv} {vs : List Int} (h : LaOk m vs) {n : Nat} (hn : n < 8) : LaOk (m.set n none) vs := by
  refine ⟨h.len, by simp [h.mlen], fun j u hj => ?_⟩
  rw [get_set (by rw [h.mlen]; exact hn)] at hj
  by_cases e : n = j
  · rw [if_pos e] at hj; cases hj
  · rw [if_neg e] at hj
    exact h.last j u hj
theorem set_none {m : Kv} {n : Nat} (h : m.getD n none = none) : m.set n none = m := by
  apply List.ext_getElem?
  intro i
  rw [List.getElem?_set]
  split
  · rename_i e
    subst e
    split
    · rename_i hl
      rw [List.getD_eq_getElem?_getD, List.getElem?_eq_getElem hl] at h
      rw [List.getElem?_eq_getElem hl]
      simp at h
      rw [h]
    · rename_i hl
      rw [List.getElem?_eq_none (by omega)]
  · rfl
/-- A step that is no fault, by its ways. -/
theorem ksX_ok {m : Kv} {x : Opn} (h0 : (ksX m x).2.2 = 0) : x.k ≤ 7 ∧ (x.f = 6 ∨ x.f = 7 ∨ x.f = 8 ∨ x.f = 9) := by
  unfold ksX at h0
  split at h0
  · simp at h0
  · omega
section
variable {m : Kv} {x : Opn} {n : Nat}
theorem ksX_put (hk : x.k = n) (hn : n < 8) (hf : x.f = 7) : ksX m x = (m.set n (some x.a), ⟨0, 0⟩, 0) := by
  unfold ksX; rw [if_neg (by omega), if_pos hf, show x.k.toNat = n by omega]
theorem ksX_get0 (hk : x.k = n) (hn : n < 8) (hf : x.f = 6) (h : m.getD n none = none) : ksX m x = (m, ⟨2, 0⟩, 0) := by
  unfold ksX; rw [if_neg (by omega), if_neg (by omega), show x.k.toNat = n by omega, h]; exact if_pos hf
theorem ksX_get1 (hk : x.k = n) (hn : n < 8) (hf : x.f = 6) {v : Int} (h : m.getD n none = some v) : ksX m x = (m, ⟨1, v⟩, 0) := by
  unfold ksX; rw [if_neg (by omega), if_neg (by omega), show x.k.toNat = n by omega, h]; exact if_pos hf
theorem ksX_del0 (hk : x.k = n) (hn : n < 8) (hf : x.f = 8) (h : m.getD n none = none) : ksX m x = (m, ⟨4, 0⟩, 0) := by
  unfold ksX; rw [if_neg (by omega), if_neg (by omega), show x.k.toNat = n by omega, h]; exact if_neg (by omega)
theorem ksX_del1 (hk : x.k = n) (hn : n < 8) (hf : x.f = 8) {v : Int} (h : m.getD n none = some v) : ksX m x = (m.set n none, ⟨3, 0⟩, 0) := by
  unfold ksX; rw [if_neg (by omega), if_neg (by omega), show x.k.toNat = n by omega, h]; simp only [if_neg (show ¬ x.f = 6 by omega), if_pos hf]
theorem ksX_cas0 (hk : x.k = n) (hn : n < 8) (hf : x.f = 9) (h : m.getD n none = none) : ksX m x = (m, ⟨4, 0⟩, 0) := by
  unfold ksX; rw [if_neg (by omega), if_neg (by omega), show x.k.toNat = n by omega, h]; exact if_neg (by omega)
theorem ksX_cas1 (hk : x.k = n) (hn : n < 8) (hf : x.f = 9) {v : Int} (h : m.getD n none = some v) (hv : v = x.a) : ksX m x = (m.set n (some x.b), ⟨3, 0⟩, 0) := by
  unfold ksX; rw [if_neg (by omega), if_neg (by omega), show x.k.toNat = n by omega, h]; simp only [if_neg (show ¬ x.f = 6 by omega), if_neg (show ¬ x.f = 8 by omega), if_pos hv]
theorem ksX_cas2 (hk : x.k = n) (hn : n < 8) (hf : x.f = 9) {v : Int} (h : m.getD n none = some v) (hv : ¬ v = x.a) : ksX m x = (m, ⟨4, 0⟩, 0) := by
  unfold ksX; rw [if_neg (by omega), if_neg (by omega), show x.k.toNat = n by omega, h]; simp only [if_neg (show ¬ x.f = 6 by omega), if_neg (show ¬ x.f = 8 by omega), if_neg hv]
end
section
variable {ops : Array Oper} {rest : List Oper} {a : Act} {w : World} {Q : Exit → Act → World → Prop}
theorem wpList_putA11 {dst : Option Tmp} {ty : TypeId} {pos : String} {after : Array Edge} {x y : Operand} {g : Nat} {old : Ans} (r : Ans) {t : TypeId}
    (hx : a.eval x = .pointer (some ⟨g, 0, none⟩)) (hy : a.eval y = .agg (ansC r).toArray) (hg : w.heap[g]? = some (.cells (ansC old).toArray t (0, 0)))
    (h : ∀ W, W.heap[g]? = some (.cells (ansC r).toArray t (0, 0)) → Keeps [g] w W → wpList Try.prog ops Q rest (a.put dst undef) W) :
    wpList Try.prog ops Q ({ dst := dst, op := .store 32 x y, type := ty, pos := pos, after := after, guard := none } :: rest) a w :=
  wpList_store_row rfl 32 x y rfl g (ansC r).toArray hx hy t (ansC old).toArray hg (by kernel_rfl) rfl (by rw [← Array.all_toList]; rfl) (h _ (setRow_heap w g (ansC old).toArray (ansC r).toArray t (0, 0) hg) ((Keeps.refl [g] w).setRow g _ (.inl (by simp))))
theorem wpList_putO11 {dst : Option Tmp} {ty : TypeId} {pos : String} {after : Array Edge} {x y : Operand} {g : Nat} {old : Opn} (r : Opn) {t : TypeId}
    (hx : a.eval x = .pointer (some ⟨g, 0, none⟩)) (hy : a.eval y = .agg (opC r).toArray) (hg : w.heap[g]? = some (.cells (opC old).toArray t (0, 0)))
    (h : ∀ W, W.heap[g]? = some (.cells (opC r).toArray t (0, 0)) → Keeps [g] w W → wpList Try.prog ops Q rest (a.put dst undef) W) :
    wpList Try.prog ops Q ({ dst := dst, op := .store 27 x y, type := ty, pos := pos, after := after, guard := none } :: rest) a w :=
  wpList_store_row rfl 27 x y rfl g (opC r).toArray hx hy t (opC old).toArray hg (by kernel_rfl) rfl (by rw [← Array.all_toList]; rfl) (h _ (setRow_heap w g (opC old).toArray (opC r).toArray t (0, 0) hg) ((Keeps.refl [g] w).setRow g _ (.inl (by simp))))
end
end Go.Proofs.Ytnmpekbkahkapaa
/-
  KvmapLast over any key map.
-/
namespace Go.Proofs.Ytnmpekbkahkapaa
open Go.RowKit
section
variable {ops : Array Oper} {rest : List Oper} {a : Act} {w : World} {Q : Exit → Act → World → Prop}
theorem wpList_putB1 {dst : Option Tmp} {ty : TypeId} {pos : String} {after : Array Edge} {x y : Operand} {g i : Nat} (b : Bool) {z0 : Value}
    (hx : a.eval x = .pointer (some ⟨g, i, none⟩)) (hy : a.eval y = .bool b) (hc : w.cell? ⟨g, i, none⟩ = some z0) (hf : w.frozen? ⟨g, i, none⟩ = false)
    (h : ∀ W, W = w.setCell ⟨g, i, none⟩ (.bool b) → wpList Try.prog ops Q rest (a.put dst undef) W) :
    wpList Try.prog ops Q ({ dst := dst, op := .store 4 x y, type := ty, pos := pos, after := after, guard := none } :: rest) a w :=
  wpList_plain rfl fun _ hk => wp_put1 rfl hx hy (by kernel_rfl) rfl (by rw [hc]; rfl) hf (hk _ _ (h _ rfl))
theorem wpList_putU1 {dst : Option Tmp} {ty : TypeId} {pos : String} {after : Array Edge} {x y : Operand} {g i : Nat} (v : Int) {z0 : Value}
    (hx : a.eval x = .pointer (some ⟨g, i, none⟩)) (hy : a.eval y = .int .u16 v) (hc : w.cell? ⟨g, i, none⟩ = some z0) (hf : w.frozen? ⟨g, i, none⟩ = false)
    (h : ∀ W, W = w.setCell ⟨g, i, none⟩ (.int .u16 v) → wpList Try.prog ops Q rest (a.put dst undef) W) :
    wpList Try.prog ops Q ({ dst := dst, op := .store 22 x y, type := ty, pos := pos, after := after, guard := none } :: rest) a w :=
  wpList_plain rfl fun _ hk => wp_put1 rfl hx hy (by kernel_rfl) rfl (by rw [hc]; rfl) hf (hk _ _ (h _ rfl))
end
variable {G : World → Prop}
set_option maxHeartbeats 8000000
set_option maxRecDepth 100000
theorem thA_again {m : Kv} {n : Nat} (hn : n < 8) {v u : Int} (h : m.getD n none = some v) : thA m = thA (m.set n (some u)) := by
  have e : ∀ j, (m.getD j none).isSome = ((m.set n (some u)).getD j none).isSome := fun j => by
    by_cases hl : n < m.length
    · rw [get_set hl]
      by_cases e : n = j
      · rw [if_pos e, ← e, h]; rfl
      · rw [if_neg e]
    · rw [List.set_eq_of_length_le (by omega)]
  unfold thA
  simp only [e]
theorem KvmapLast_any (R : KvProg G) (w : World) (hG : G w) {v : Value} {l : List Opn} (hI : rkO.In w.heap.size w v l) (hl : ∀ x ∈ l, x.In) :
    Calls Try.prog 8 #[v] w fun e w' => e = .returned (.bool true) ∧ Keeps [] w w' := by
  obtain ⟨a, cp, rfl, hc, hm0, -⟩ := id hI
  have HR := Lib.hid R; have HG := Lib.hid hG; have HI := Lib.hid hI; have HLI := Lib.hid hl
  clear R hG hI
  by_cases hn : l.length ≤ 200
  · have HN := Lib.hid hn
    have t2 : ¬ (200 : Int) < l.length := by omega
    clear hn
    go_enter Try.func8, Try.ntmps8
    go_wp2_with fail
    refine (HR.out.new w HG.out).mono ?_
    rintro e w1 ⟨rfl, hk1⟩
    have HK1 := Lib.hid hk1
    have HRU := Lib.hid (HR.out.run w1 kv0 _ l (HR.out.keep HG.out hk1) kv0_in HLI.out ((HI.out.new hk1 (Nat.le_refl _)).more hk1.size) (by have := HN.out; omega))
    clear hk1
    obtain ⟨LA, hLA⟩ : ∃ LA, LA = stL ksX kv0 l := ⟨_, rfl⟩
    obtain ⟨E, hE⟩ : ∃ E, E = stE ksX kv0 l := ⟨_, rfl⟩
    obtain ⟨m2, hm2⟩ : ∃ m2, m2 = stS ksX kv0 l := ⟨_, rfl⟩
    have hlen := (stL_len ksX kv0 l).1
    rw [← hLA, ← hE, ← hm2] at HRU
    rw [← hLA] at hlen
    have HLA := Lib.hid hlen
    have HLE := Lib.hid hLA
    have t3 : ¬ (l.length : Int) < LA.length := by omega
    clear hLA hE hm2 hlen
    go_wp2_with fail
    refine HRU.out.mono ?_
    rintro e w3 ⟨v3, rfl, hin3, hk3⟩
    obtain ⟨a3, c3, rfl, hc3, hm3, -⟩ := id hin3
    have HK3 := Lib.hid (HK1.out.trans hk3 (FSub.refl _ _))
    have HIN3 := Lib.hid hin3
    clear hk3 hin3 HRU HK1
    have HZ := Lib.hid (show (w3.alloc (.cells #[.int .u8 0, .int .u16 0, .int .u16 0, .int .u16 0, .int .u16 0, .int .u16 0, .int .u16 0, .int .u16 0, .int .u16 0] 25)).heap[w3.heap.size]? = some (.cells (kvA 0 []) 25 (0, 0)) from heap_alloc_new w3 (.cells (kvA 0 []) 25))
    have HKA := Lib.hid (show Keeps [] w3 (w3.alloc (.cells #[.int .u8 0, .int .u16 0, .int .u16 0, .int .u16 0, .int .u16 0, .int .u16 0, .int .u16 0, .int .u16 0, .int .u16 0] 25)) from (Keeps.refl _ _).alloc _)
    unfold kvVal
    go_wp2_with ((with_reducible refine wpList_putK (g := w3.heap.size) (h := (kvH m2 : Int)) (vs := kvV m2) ?_ ?_ HZ.out ?_); exact rfl; exact rfl)
    intro W4 hW4 hk4
    obtain ⟨D, hD⟩ : ∃ D, D = w3.heap.size := ⟨_, rfl⟩
    have hk34 : Keeps [] w3 W4 := HKA.out.trans hk4 (fun q hq => .inr (by simp at hq; omega))
    have HIN4 := Lib.hid ((HIN3.out.new hk34 (Nat.le_refl _)).more hk34.size)
    have HK4 := Lib.hid (HK3.out.trans hk34 (FSub.refl _ _))
    rw [← hD]
    clear hW4 hk4 hk34 hD HZ HKA HIN3 HK3
    obtain ⟨A, hA⟩ : ∃ A, A = W4.heap.size := ⟨_, rfl⟩
    have HAE := Lib.hid hA
    have ha1 : (W4.alloc (.cells #[.bool false, .bool false, .bool false, .bool false, .bool false, .bool false, .bool false, .bool false] 64)).heap.size = W4.heap.size + 1 := Array.size_push _
    have HTH := Lib.hid (show ((W4.alloc (.cells #[.bool false, .bool false, .bool false, .bool false, .bool false, .bool false, .bool false, .bool false] 64)).alloc (.cells #[.int .u16 0, .int .u16 0, .int .u16 0, .int .u16 0, .int .u16 0, .int .u16 0, .int .u16 0, .int .u16 0] 23)).heap[A]? = some (.cells (thA kv0) 64 (0, 0)) from by
      rw [hA]; exact ((Keeps.refl [] _).alloc _).heap (heap_alloc_new W4 (.cells #[.bool false, .bool false, .bool false, .bool false, .bool false, .bool false, .bool false, .bool false] 64)) (by simp))
    have HLZ := Lib.hid (show ((W4.alloc (.cells #[.bool false, .bool false, .bool false, .bool false, .bool false, .bool false, .bool false, .bool false] 64)).alloc (.cells #[.int .u16 0, .int .u16 0, .int .u16 0, .int .u16 0, .int .u16 0, .int .u16 0, .int .u16 0, .int .u16 0] 23)).heap[A + 1]? = some (.cells (laA [0, 0, 0, 0, 0, 0, 0, 0]) 23 (0, 0)) from by
      rw [hA, ← ha1]; exact heap_alloc_new (W4.alloc (.cells #[.bool false, .bool false, .bool false, .bool false, .bool false, .bool false, .bool false, .bool false] 64)) (.cells #[.int .u16 0, .int .u16 0, .int .u16 0, .int .u16 0, .int .u16 0, .int .u16 0, .int .u16 0, .int .u16 0] 23))
    have HKZ := Lib.hid (show Keeps [] W4 ((W4.alloc (.cells #[.bool false, .bool false, .bool false, .bool false, .bool false, .bool false, .bool false, .bool false] 64)).alloc (.cells #[.int .u16 0, .int .u16 0, .int .u16 0, .int .u16 0, .int .u16 0, .int .u16 0, .int .u16 0, .int .u16 0] 23)) from ((Keeps.refl _ _).alloc _).alloc _)
    clear hA ha1
    go_wp2_with fail
    rw [← HAE.out]
    generalize (W4.alloc (.cells #[.bool false, .bool false, .bool false, .bool false, .bool false, .bool false, .bool false, .bool false] 64)).alloc (.cells #[.int .u16 0, .int .u16 0, .int .u16 0, .int .u16 0, .int .u16 0, .int .u16 0, .int .u16 0, .int .u16 0] 23) = W5 at *
    go_loopw [8, 9, 10] (fun i _ _ wr => ∃ (k : Nat) (vs : List Int), i = .int .i64 k ∧ k ≤ LA.length ∧ LaOk (stS ksX kv0 (l.take k)) vs ∧ wr.heap[A]? = some (.cells (thA (stS ksX kv0 (l.take k))) 64 (0, 0)) ∧ wr.heap[A + 1]? = some (.cells (laA vs) 23 (0, 0)) ∧ Keeps [] W4 wr) (fun i _ _ _ => LA.length - (intOf i).toNat)
    case atStart => exact ⟨0, _, rfl, Nat.zero_le _, LaOk.first, HTH.out, HLZ.out, HKZ.out⟩
    case round =>
      obtain ⟨k, vs, rfl, hk, hok, hA0, hL0, hkr⟩ := hrel
      clear HTH HLZ HKZ
      by_cases hlt : k < LA.length
      · have hkl : k < l.length := Nat.lt_of_lt_of_le hlt HLA.out
        obtain ⟨g, o, rfl, hg, hrg⟩ := In_at (((HI.out.new HK4.out (Nat.le_refl _)).more HK4.out.size).new hkr (Nat.le_refl _)) hkl
        obtain ⟨g2, o2, rfl, hg2, hrg2⟩ := InA_at HIN4.out hlt
        have hxi := HLI.out _ (List.getElem_mem hkl)
        have hst := st_at ksX kv0 l k (by have h := HLE.out; subst h; exact hlt) hkl
        have hy : LA[k] = (ksX (stS ksX kv0 (l.take k)) l[k]).2.1 := by
          have hLE := HLE.out
          subst hLE
          exact hst.2.1
        have h0 := hst.1
        have hnext := hst.2.2
        clear hst
        have HNX := Lib.hid hnext
        have HY := Lib.hid hy
        have HRG := Lib.hid hrg; have HQ := Lib.hid hrg2
        generalize l[k] = x at *
        generalize LA[k] = y at *
        generalize stS ksX kv0 (l.take k) = m at *
        obtain ⟨hx7, hxf⟩ := ksX_ok h0
        obtain ⟨n, hn⟩ := Int.eq_ofNat_of_zero_le hxi.k0
        have hn8 : n < 8 := by omega
        have hn8i : (n : Int) < 8 := by omega
        have e7 : ¬ (7 : Int) < x.k := by omega
        have HOK := Lib.hid hok; have HKN := Lib.hid hn; have HXF := Lib.hid hxf
        have HKR := Lib.hid hkr; have HA0 := Lib.hid hA0; have HL0 := Lib.hid hL0
        clear h0 hy hnext hrg hrg2 hxi hok hxf hkr hA0 hL0
        obtain ⟨P, hP⟩ : ∃ P, P = wr.heap.size := ⟨_, rfl⟩
        have HZ := Lib.hid (show (wr.alloc (.cells #[.int .u8 0, .int .u8 0, .int .u8 0, .int .u16 0, .int .u16 0] 27)).heap[wr.heap.size]? = some (.cells (opC ⟨0, 0, 0, 0, 0⟩).toArray 27 (0, 0)) from heap_alloc_new wr (.cells #[.int .u8 0, .int .u8 0, .int .u8 0, .int .u16 0, .int .u16 0] 27))
        have HKA := Lib.hid (show Keeps [] wr (wr.alloc (.cells #[.int .u8 0, .int .u8 0, .int .u8 0, .int .u16 0, .int .u16 0] 27)) from (Keeps.refl _ _).alloc _)
        go_wp2_with (first
          | ((with_reducible refine wpList_loadO (g := g) (off := o + k * 5) (y := x) rfl ?_ HRG.out ?_); exact rfl)
          | ((with_reducible refine wpList_putO11 (g := wr.heap.size) x ?_ ?_ HZ.out ?_); exact rfl; exact rfl))
        intro W6 hW6 hk6
        have hkw : Keeps [] wr W6 := HKA.out.trans hk6 (fun q hq => .inr (by simp at hq; omega))
        rw [← hP] at hW6 ⊢
        have HP1 := Lib.hid hW6
        have HA1 := Lib.hid (hkw.heap HA0.out (by simp)); have HL1 := Lib.hid (hkw.heap HL0.out (by simp)); have HK1 := Lib.hid (HKR.out.trans hkw (FSub.refl _ _))
        have HAP := Lib.hid (show A + 1 < P from by rw [hP]; exact lt_of_block HL0.out)
        clear hW6 hk6 hkw hP HZ HKA HA0 HL0 HKR
        have p2 : W6.cell? ⟨P, 2, none⟩ = some (.int .u8 n) := by rw [← hn]; exact cell_lit HP1.out 2 rfl
        go_wp2_with fail
        refine (is11_any W6 0 0).mono ?_; rintro e w7 ⟨rfl, hk⟩
        have HP7 := Lib.hid (hk.heap HP1.out (by simp)); have HA7 := Lib.hid (hk.heap HA1.out (by simp)); have HL7 := Lib.hid (hk.heap HL1.out (by simp))
        have HK7 := Lib.hid (HK1.out.trans hk (FSub.refl _ _))
        clear hk HP1 HA1 HL1 HK1 p2
        obtain ⟨B, hB⟩ : ∃ B, B = w7.heap.size := ⟨_, rfl⟩
        have HPB := Lib.hid (show P < B from by rw [hB]; exact lt_of_block HP7.out)
        have HZ := Lib.hid (show (w7.alloc (.cells #[.int .u8 0, .int .u16 0] 32)).heap[w7.heap.size]? = some (.cells (ansC ⟨0, 0⟩).toArray 32 (0, 0)) from heap_alloc_new w7 (.cells #[.int .u8 0, .int .u16 0] 32))
        have HKA := Lib.hid (show Keeps [] w7 (w7.alloc (.cells #[.int .u8 0, .int .u16 0] 32)) from (Keeps.refl _ _).alloc _)
        go_wp2_with ((with_reducible refine wpList_putA11 (g := w7.heap.size) ⟨0, 0⟩ ?_ ?_ HZ.out ?_); exact rfl; exact rfl)
        intro w8 hW hk
        have hkw : Keeps [] w7 w8 := HKA.out.trans hk (fun q hq => .inr (by simp at hq; omega))
        rw [← hB] at hW ⊢
        have HW8 := Lib.hid hW
        have HP8 := Lib.hid (hkw.heap HP7.out (by simp)); have HA8 := Lib.hid (hkw.heap HA7.out (by simp)); have HL8 := Lib.hid (hkw.heap HL7.out (by simp))
        have HK8 := Lib.hid (HK7.out.trans hkw (FSub.refl _ _))
        clear hW hk hkw hB HZ HKA HP7 HA7 HL7 HK7
        rcases HXF.out with hf | hf | hf | hf
        · -- Get
          have p0 : w8.cell? ⟨P, 0, none⟩ = some (.int .u8 6) := by rw [← hf]; exact cell_lit HP8.out 0 rfl
          go_wp2_with fail
          refine (is11_any w8 2 0).mono ?_; rintro e w9 ⟨rfl, hk⟩
          have HP9 := Lib.hid (hk.heap HP8.out (by simp)); have HA9 := Lib.hid (hk.heap HA8.out (by simp)); have HL9 := Lib.hid (hk.heap HL8.out (by simp)); have HW9 := Lib.hid (hk.heap HW8.out (by simp))
          have HK9 := Lib.hid (HK8.out.trans hk (FSub.refl _ _))
          clear hk HP8 HA8 HL8 HW8 HK8
          go_wp2_with ((with_reducible refine wpList_putA11 (g := B) ⟨2, 0⟩ ?_ ?_ HW9.out ?_); exact rfl; exact rfl)
          intro w10 hW hk
          have HW10 := Lib.hid hW
          have HP10 := Lib.hid (hk.heap HP9.out (by have := HPB.out; simp; omega)); have HA10 := Lib.hid (hk.heap HA9.out (by have := HPB.out; have := HAP.out; simp; omega)); have HL10 := Lib.hid (hk.heap HL9.out (by have := HPB.out; have := HAP.out; simp; omega))
          have HK10 := Lib.hid (HK9.out.trans hk (fun q hq => .inr (by simp at hq; have := HPB.out; have := HAP.out; have := HAE.out; omega)))
          clear hW hk HP9 HA9 HL9 HW9 HK9
          cases ho : m.getD n none with
          | none =>
            have p2 : w10.cell? ⟨P, 2, none⟩ = some (.int .u8 n) := by rw [← hn]; exact cell_lit HP10.out 2 rfl
            have a1 : w10.cell? ⟨A, n, none⟩ = some (.bool false) := by have h := th_cell HA10.out hn8; rw [ho] at h; exact h
            have HNE := Lib.hid (show stS ksX kv0 (l.take (k + 1)) = m from by rw [HNX.out, ksX_get0 HKN.out hn8 hf ho])
            obtain rfl : y = ⟨2, 0⟩ := by rw [HY.out, ksX_get0 HKN.out hn8 hf ho]
            clear HNX HY
            clear ho
            obtain ⟨S, hS⟩ : ∃ S : World → Prop, S = fun y => Keeps [] w10 y := ⟨_, rfl⟩
            have hSD : S w10.drew := by rw [hS]; exact (Keeps.refl _ _).drew
            have HS1 := Lib.hid (fun (w' : World) (h : S w') => show w'.rangeAt g2 (o2 + k * 2) (ansC ⟨2, 0⟩) from by rw [hS] at h; exact fun i u hi => h.cell (HK10.out.cell (HQ.out i u hi) (by simp)) (by simp))
            have HS2 := Lib.hid (fun (w' : World) (h : S w') => show w'.rangeAt B 0 (ansC ⟨2, 0⟩) from by rw [hS] at h; exact fun i u hi => h.cell (by rw [Nat.zero_add]; exact cell_lit HW10.out i (by simpa using hi)) (by simp))
            have HKD := Lib.hid HK10.out.drew
            have HAD := Lib.hid (show w10.drew.heap[A]? = _ from HA10.out); have HLD := Lib.hid (show w10.drew.heap[A + 1]? = _ from HL10.out)
            clear hS
            go_wp2_with fail
            refine wp_region_noPanic ?_
            refine wp_region_held_drew (S := S) (by kernel_rfl) hSD (fun hHeld => ?_)
            apply wpAnyH_take (i := 0)
            · simp only [List.getElem?_toArray]; rfl
            · kernel_rfl
            · kernel_rfl
            · kernel_rfl
            · exact fun _ _ _ h => h
            · exact Or.inl ⟨by rfl, by intro w hSw; go_simp; try with_reducible rfl⟩
            · assumption
            try simp only [Act.put, List.setIfInBounds_toArray, List.set_cons_zero, List.set_cons_succ]
            apply wpAnyH_take (i := 1)
            · simp only [List.getElem?_toArray]; rfl
            · kernel_rfl
            · kernel_rfl
            · kernel_rfl
            · exact fun _ _ _ h => h
            · exact Or.inl ⟨by rfl, by intro w hSw; go_simp; try with_reducible rfl⟩
            · assumption
            try simp only [Act.put, List.setIfInBounds_toArray, List.set_cons_zero, List.set_cons_succ]
            apply wpAnyH_take (i := 2)
            · simp only [List.getElem?_toArray]; rfl
            · kernel_rfl
            · kernel_rfl
            · kernel_rfl
            · exact fun _ _ _ h => h
            · exact Or.inl ⟨by rfl, by intro w hSw; go_simp; try with_reducible rfl⟩
            · assumption
            try simp only [Act.put, List.setIfInBounds_toArray, List.set_cons_zero, List.set_cons_succ]
            apply wpAnyH_take (i := 3)
            · simp only [List.getElem?_toArray]; rfl
            · kernel_rfl
            · kernel_rfl
            · kernel_rfl
            · exact fun _ _ _ h => h
            · exact yields_ans ⟨2, 0⟩ (by rfl) _ rfl g2 (o2 + k * 2) rfl HS1.out
            · assumption
            try simp only [Act.put, List.setIfInBounds_toArray, List.set_cons_zero, List.set_cons_succ]
            apply wpAnyH_take (i := 4)
            · simp only [List.getElem?_toArray]; rfl
            · kernel_rfl
            · kernel_rfl
            · kernel_rfl
            · exact fun _ _ _ h => h
            · exact yields_ans ⟨2, 0⟩ (by rfl) _ rfl B 0 rfl HS2.out
            · assumption
            try simp only [Act.put, List.setIfInBounds_toArray, List.set_cons_zero, List.set_cons_succ]
            apply wpAnyH_take (i := 5)
            · simp only [List.getElem?_toArray]; rfl
            · kernel_rfl
            · kernel_rfl
            · kernel_rfl
            · exact fun _ _ _ h => h
            · exact Or.inl ⟨by rfl, by intro w hSw; go_simp; try with_reducible rfl⟩
            · assumption
            try simp only [Act.put, List.setIfInBounds_toArray, List.set_cons_zero, List.set_cons_succ]
            refine wpAnyH_done (by kernel_rfl) ?_ _
            refine NoPanic.normal ?_
            clear hHeld hSD HS1 HS2
            go_wp2_with fail
            try rw [show decide (l.length < LA.length) = false from decide_eq_false (by omega)]
            go_big_round
            go_roundw
            case rel => exact ⟨k + 1, vs, by go_num, by omega, by rw [HNE.out]; exact HOK.out, by rw [HNE.out]; exact HAD.out, HLD.out, HKD.out⟩
            case measure => simp [intOf]; omega
          | some v =>
            have p2 : w10.cell? ⟨P, 2, none⟩ = some (.int .u8 n) := by rw [← hn]; exact cell_lit HP10.out 2 rfl
            have a1 : w10.cell? ⟨A, n, none⟩ = some (.bool true) := by have h := th_cell HA10.out hn8; rw [ho] at h; exact h
            have l1 : w10.cell? ⟨A + 1, n, none⟩ = some (.int .u16 v) := by have h := la_cell HL10.out hn8; rw [HOK.out.last _ _ ho] at h; exact h
            have HNE := Lib.hid (show stS ksX kv0 (l.take (k + 1)) = m from by rw [HNX.out, ksX_get1 HKN.out hn8 hf ho])
            obtain rfl : y = ⟨1, v⟩ := by rw [HY.out, ksX_get1 HKN.out hn8 hf ho]
            clear HNX HY
            clear ho
            go_wp2_with fail
            refine (is11_any w10 1 v).mono ?_; rintro e w11 ⟨rfl, hk⟩
            have HP11 := Lib.hid (hk.heap HP10.out (by simp)); have HA11 := Lib.hid (hk.heap HA10.out (by simp)); have HL11 := Lib.hid (hk.heap HL10.out (by simp)); have HW11 := Lib.hid (hk.heap HW10.out (by simp))
            have HK11 := Lib.hid (HK10.out.trans hk (FSub.refl _ _))
            clear hk HP10 HA10 HL10 HW10 HK10
            go_wp2_with ((with_reducible refine wpList_putA11 (g := B) ⟨1, v⟩ ?_ ?_ HW11.out ?_); exact rfl; exact rfl)
            intro w12 hW hk
            have HW12 := Lib.hid hW
            have HP12 := Lib.hid (hk.heap HP11.out (by have := HPB.out; simp; omega)); have HA12 := Lib.hid (hk.heap HA11.out (by have := HPB.out; have := HAP.out; simp; omega)); have HL12 := Lib.hid (hk.heap HL11.out (by have := HPB.out; have := HAP.out; simp; omega))
            have HK12 := Lib.hid (HK11.out.trans hk (fun q hq => .inr (by simp at hq; have := HPB.out; have := HAP.out; have := HAE.out; omega)))
            clear hW hk HP11 HA11 HL11 HW11 HK11
            obtain ⟨S, hS⟩ : ∃ S : World → Prop, S = fun y => Keeps [] w12 y := ⟨_, rfl⟩
            have hSD : S w12.drew := by rw [hS]; exact (Keeps.refl _ _).drew
            have HS1 := Lib.hid (fun (w' : World) (h : S w') => show w'.rangeAt g2 (o2 + k * 2) (ansC ⟨1, v⟩) from by rw [hS] at h; exact fun i u hi => h.cell (HK12.out.cell (HQ.out i u hi) (by simp)) (by simp))
            have HS2 := Lib.hid (fun (w' : World) (h : S w') => show w'.rangeAt B 0 (ansC ⟨1, v⟩) from by rw [hS] at h; exact fun i u hi => h.cell (by rw [Nat.zero_add]; exact cell_lit HW12.out i (by simpa using hi)) (by simp))
            have HKD := Lib.hid HK12.out.drew
            have HAD := Lib.hid (show w12.drew.heap[A]? = _ from HA12.out); have HLD := Lib.hid (show w12.drew.heap[A + 1]? = _ from HL12.out)
            clear hS
            go_wp2_with fail
            refine wp_region_noPanic ?_
            refine wp_region_held_drew (S := S) (by kernel_rfl) hSD (fun hHeld => ?_)
            apply wpAnyH_take (i := 0)
            · simp only [List.getElem?_toArray]; rfl
            · kernel_rfl
            · kernel_rfl
            · kernel_rfl
            · exact fun _ _ _ h => h
            · exact Or.inl ⟨by rfl, by intro w hSw; go_simp; try with_reducible rfl⟩
            · assumption
            try simp only [Act.put, List.setIfInBounds_toArray, List.set_cons_zero, List.set_cons_succ]
            apply wpAnyH_take (i := 1)
            · simp only [List.getElem?_toArray]; rfl
            · kernel_rfl
            · kernel_rfl
            · kernel_rfl
            · exact fun _ _ _ h => h
            · exact Or.inl ⟨by rfl, by intro w hSw; go_simp; try with_reducible rfl⟩
            · assumption
            try simp only [Act.put, List.setIfInBounds_toArray, List.set_cons_zero, List.set_cons_succ]
            apply wpAnyH_take (i := 2)
            · simp only [List.getElem?_toArray]; rfl
            · kernel_rfl
            · kernel_rfl
            · kernel_rfl
            · exact fun _ _ _ h => h
            · exact Or.inl ⟨by rfl, by intro w hSw; go_simp; try with_reducible rfl⟩
            · assumption
            try simp only [Act.put, List.setIfInBounds_toArray, List.set_cons_zero, List.set_cons_succ]
            apply wpAnyH_take (i := 3)
            · simp only [List.getElem?_toArray]; rfl
            · kernel_rfl
            · kernel_rfl
            · kernel_rfl
            · exact fun _ _ _ h => h
            · exact yields_ans ⟨1, v⟩ (by rfl) _ rfl g2 (o2 + k * 2) rfl HS1.out
            · assumption
            try simp only [Act.put, List.setIfInBounds_toArray, List.set_cons_zero, List.set_cons_succ]
            apply wpAnyH_take (i := 4)
            · simp only [List.getElem?_toArray]; rfl
            · kernel_rfl
            · kernel_rfl
            · kernel_rfl
            · exact fun _ _ _ h => h
            · exact yields_ans ⟨1, v⟩ (by rfl) _ rfl B 0 rfl HS2.out
            · assumption
            try simp only [Act.put, List.setIfInBounds_toArray, List.set_cons_zero, List.set_cons_succ]
            apply wpAnyH_take (i := 5)
            · simp only [List.getElem?_toArray]; rfl
            · kernel_rfl
            · kernel_rfl
            · kernel_rfl
            · exact fun _ _ _ h => h
            · exact Or.inl ⟨by rfl, by intro w hSw; go_simp; try with_reducible rfl⟩
            · assumption
            try simp only [Act.put, List.setIfInBounds_toArray, List.set_cons_zero, List.set_cons_succ]
            refine wpAnyH_done (by kernel_rfl) ?_ _
            refine NoPanic.normal ?_
            clear hHeld hSD HS1 HS2
            go_wp2_with fail
            try rw [show decide (l.length < LA.length) = false from decide_eq_false (by omega)]
            go_big_round
            go_roundw
            case rel => exact ⟨k + 1, vs, by go_num, by omega, by rw [HNE.out]; exact HOK.out, by rw [HNE.out]; exact HAD.out, HLD.out, HKD.out⟩
            case measure => simp [intOf]; omega
        · -- Put
          have p0 : w8.cell? ⟨P, 0, none⟩ = some (.int .u8 7) := by rw [← hf]; exact cell_lit HP8.out 0 rfl
          have p2 : w8.cell? ⟨P, 2, none⟩ = some (.int .u8 n) := by rw [← hn]; exact cell_lit HP8.out 2 rfl
          have HCA1 := Lib.hid (th_cell HA8.out hn8)
          have HCF := Lib.hid (show w8.frozen? ⟨A, n, none⟩ = false from any_thaw HA8.out n)
          go_wp2_with ((with_reducible refine wpList_putB1 (g := A) (i := n) true ?_ ?_ HCA1.out HCF.out ?_); exact rfl; exact rfl)
          intro w9 hW
          have hk : Keeps [A] w8 w9 := by rw [hW]; exact (Keeps.refl [A] w8).setCell _ _ (.inl (by simp))
          have HA9 := Lib.hid (show w9.heap[A]? = some (.cells (thA (m.set n (some x.a))) 64 (0, 0)) from by rw [hW]; exact th_put HA8.out HOK.out.mlen hn8 (some x.a) true rfl)
          have HL9 := Lib.hid (hk.heap HL8.out (by simp)); have HP9 := Lib.hid (hk.heap HP8.out (by have := HAP.out; simp; omega)); have HW9 := Lib.hid (hk.heap HW8.out (by have := HPB.out; have := HAP.out; simp; omega))
          have HK9 := Lib.hid (HK8.out.trans hk (fun q hq => .inr (by simp at hq; have := HAE.out; omega)))
          clear hW hk HA8 HL8 HP8 HW8 HK8 p0 p2 HCA1 HCF
          have p2 : w9.cell? ⟨P, 2, none⟩ = some (.int .u8 n) := by rw [← hn]; exact cell_lit HP9.out 2 rfl
          have p3 : w9.cell? ⟨P, 3, none⟩ = some (.int .u16 (x.a)) := cell_lit HP9.out 3 rfl
          have HCL1 := Lib.hid (la_cell HL9.out hn8)
          have HCF := Lib.hid (show w9.frozen? ⟨A + 1, n, none⟩ = false from any_thaw HL9.out n)
          go_wp2_with ((with_reducible refine wpList_putU1 (g := A + 1) (i := n) (x.a) ?_ ?_ HCL1.out HCF.out ?_); exact rfl; exact rfl)
          intro w10 hW
          have hk : Keeps [A + 1] w9 w10 := by rw [hW]; exact (Keeps.refl [A + 1] w9).setCell _ _ (.inl (by simp))
          have HL10 := Lib.hid (show w10.heap[A + 1]? = some (.cells (laA (vs.set n (x.a))) 23 (0, 0)) from by rw [hW]; exact la_put HL9.out HOK.out.len hn8 _)
          have HA10 := Lib.hid (hk.heap HA9.out (by simp)); have HP10 := Lib.hid (hk.heap HP9.out (by have := HAP.out; simp; omega)); have HW10 := Lib.hid (hk.heap HW9.out (by have := HPB.out; have := HAP.out; simp; omega))
          have HK10 := Lib.hid (HK9.out.trans hk (fun q hq => .inr (by simp at hq; have := HAE.out; omega)))
          clear hW hk HA9 HL9 HP9 HW9 HK9 p2 p3 HCL1 HCF
          have HNE := Lib.hid (show stS ksX kv0 (l.take (k + 1)) = m.set n (some x.a) from by rw [HNX.out, ksX_put HKN.out hn8 hf])
          obtain rfl : y = ⟨0, 0⟩ := by rw [HY.out, ksX_put HKN.out hn8 hf]
          clear HNX HY
          obtain ⟨S, hS⟩ : ∃ S : World → Prop, S = fun y => Keeps [] w10 y := ⟨_, rfl⟩
          have hSD : S w10.drew := by rw [hS]; exact (Keeps.refl _ _).drew
          have HS1 := Lib.hid (fun (w' : World) (h : S w') => show w'.rangeAt g2 (o2 + k * 2) (ansC ⟨0, 0⟩) from by rw [hS] at h; exact fun i u hi => h.cell (HK10.out.cell (HQ.out i u hi) (by simp)) (by simp))
          have HS2 := Lib.hid (fun (w' : World) (h : S w') => show w'.rangeAt B 0 (ansC ⟨0, 0⟩) from by rw [hS] at h; exact fun i u hi => h.cell (by rw [Nat.zero_add]; exact cell_lit HW10.out i (by simpa using hi)) (by simp))
          have HKD := Lib.hid HK10.out.drew
          have HAD := Lib.hid (show w10.drew.heap[A]? = _ from HA10.out); have HLD := Lib.hid (show w10.drew.heap[A + 1]? = _ from HL10.out)
          clear hS
          go_wp2_with fail
          refine wp_region_noPanic ?_
          refine wp_region_held_drew (S := S) (by kernel_rfl) hSD (fun hHeld => ?_)
          apply wpAnyH_take (i := 0)
          · simp only [List.getElem?_toArray]; rfl
          · kernel_rfl
          · kernel_rfl
          · kernel_rfl
          · exact fun _ _ _ h => h
          · exact Or.inl ⟨by rfl, by intro w hSw; go_simp; try with_reducible rfl⟩
          · assumption
          try simp only [Act.put, List.setIfInBounds_toArray, List.set_cons_zero, List.set_cons_succ]
          apply wpAnyH_take (i := 1)
          · simp only [List.getElem?_toArray]; rfl
          · kernel_rfl
          · kernel_rfl
          · kernel_rfl
          · exact fun _ _ _ h => h
          · exact Or.inl ⟨by rfl, by intro w hSw; go_simp; try with_reducible rfl⟩
          · assumption
          try simp only [Act.put, List.setIfInBounds_toArray, List.set_cons_zero, List.set_cons_succ]
          apply wpAnyH_take (i := 2)
          · simp only [List.getElem?_toArray]; rfl
          · kernel_rfl
          · kernel_rfl
          · kernel_rfl
          · exact fun _ _ _ h => h
          · exact Or.inl ⟨by rfl, by intro w hSw; go_simp; try with_reducible rfl⟩
          · assumption
          try simp only [Act.put, List.setIfInBounds_toArray, List.set_cons_zero, List.set_cons_succ]
          apply wpAnyH_take (i := 3)
          · simp only [List.getElem?_toArray]; rfl
          · kernel_rfl
          · kernel_rfl
          · kernel_rfl
          · exact fun _ _ _ h => h
          · exact yields_ans ⟨0, 0⟩ (by rfl) _ rfl g2 (o2 + k * 2) rfl HS1.out
          · assumption
          try simp only [Act.put, List.setIfInBounds_toArray, List.set_cons_zero, List.set_cons_succ]
          apply wpAnyH_take (i := 4)
          · simp only [List.getElem?_toArray]; rfl
          · kernel_rfl
          · kernel_rfl
          · kernel_rfl
          · exact fun _ _ _ h => h
          · exact yields_ans ⟨0, 0⟩ (by rfl) _ rfl B 0 rfl HS2.out
          · assumption
          try simp only [Act.put, List.setIfInBounds_toArray, List.set_cons_zero, List.set_cons_succ]
          apply wpAnyH_take (i := 5)
          · simp only [List.getElem?_toArray]; rfl
          · kernel_rfl
          · kernel_rfl
          · kernel_rfl
          · exact fun _ _ _ h => h
          · exact Or.inl ⟨by rfl, by intro w hSw; go_simp; try with_reducible rfl⟩
          · assumption
          try simp only [Act.put, List.setIfInBounds_toArray, List.set_cons_zero, List.set_cons_succ]
          refine wpAnyH_done (by kernel_rfl) ?_ _
          refine NoPanic.normal ?_
          clear hHeld hSD HS1 HS2
          go_wp2_with fail
          try rw [show decide (l.length < LA.length) = false from decide_eq_false (by omega)]
          go_big_round
          go_roundw
          case rel => exact ⟨k + 1, vs.set n x.a, by go_num, by omega, by rw [HNE.out]; exact HOK.out.put hn8 x.a, by rw [HNE.out]; exact HAD.out, HLD.out, HKD.out⟩
          case measure => simp [intOf]; omega
        · -- Del
          have p0 : w8.cell? ⟨P, 0, none⟩ = some (.int .u8 8) := by rw [← hf]; exact cell_lit HP8.out 0 rfl
          go_wp2_with fail
          refine (is11_any w8 4 0).mono ?_; rintro e w9 ⟨rfl, hk⟩
          have HP9 := Lib.hid (hk.heap HP8.out (by simp)); have HA9 := Lib.hid (hk.heap HA8.out (by simp)); have HL9 := Lib.hid (hk.heap HL8.out (by simp)); have HW9 := Lib.hid (hk.heap HW8.out (by simp))
          have HK9 := Lib.hid (HK8.out.trans hk (FSub.refl _ _))
          clear hk HP8 HA8 HL8 HW8 HK8
          go_wp2_with ((with_reducible refine wpList_putA11 (g := B) ⟨4, 0⟩ ?_ ?_ HW9.out ?_); exact rfl; exact rfl)
          intro w10 hW hk
          have HW10 := Lib.hid hW
          have HP10 := Lib.hid (hk.heap HP9.out (by have := HPB.out; simp; omega)); have HA10 := Lib.hid (hk.heap HA9.out (by have := HPB.out; have := HAP.out; simp; omega)); have HL10 := Lib.hid (hk.heap HL9.out (by have := HPB.out; have := HAP.out; simp; omega))
          have HK10 := Lib.hid (HK9.out.trans hk (fun q hq => .inr (by simp at hq; have := HPB.out; have := HAP.out; have := HAE.out; omega)))
          clear hW hk HP9 HA9 HL9 HW9 HK9
          cases ho : m.getD n none with
          | none =>
            have p2 : w10.cell? ⟨P, 2, none⟩ = some (.int .u8 n) := by rw [← hn]; exact cell_lit HP10.out 2 rfl
            have a1 : w10.cell? ⟨A, n, none⟩ = some (.bool false) := by have h := th_cell HA10.out hn8; rw [ho] at h; exact h
            have HCA1 := Lib.hid (th_cell HA10.out hn8)
            have HCF := Lib.hid (show w10.frozen? ⟨A, n, none⟩ = false from any_thaw HA10.out n)
            go_wp2_with ((with_reducible refine wpList_putB1 (g := A) (i := n) false ?_ ?_ HCA1.out HCF.out ?_); exact rfl; exact rfl)
            intro w11 hW
            have hk : Keeps [A] w10 w11 := by rw [hW]; exact (Keeps.refl [A] w10).setCell _ _ (.inl (by simp))
            have HA11 := Lib.hid (show w11.heap[A]? = some (.cells (thA (m.set n none)) 64 (0, 0)) from by rw [hW]; exact th_put HA10.out HOK.out.mlen hn8 none false rfl)
            have HL11 := Lib.hid (hk.heap HL10.out (by simp)); have HP11 := Lib.hid (hk.heap HP10.out (by have := HAP.out; simp; omega)); have HW11 := Lib.hid (hk.heap HW10.out (by have := HPB.out; have := HAP.out; simp; omega))
            have HK11 := Lib.hid (HK10.out.trans hk (fun q hq => .inr (by simp at hq; have := HAE.out; omega)))
            clear hW hk HA10 HL10 HP10 HW10 HK10 p2 a1 HCA1 HCF
            rw [set_none ho] at HA11
            have HNE := Lib.hid (show stS ksX kv0 (l.take (k + 1)) = m from by rw [HNX.out, ksX_del0 HKN.out hn8 hf ho])
            obtain rfl : y = ⟨4, 0⟩ := by rw [HY.out, ksX_del0 HKN.out hn8 hf ho]
            clear HNX HY
            clear ho
            obtain ⟨S, hS⟩ : ∃ S : World → Prop, S = fun y => Keeps [] w11 y := ⟨_, rfl⟩
            have hSD : S w11.drew := by rw [hS]; exact (Keeps.refl _ _).drew
            have HS1 := Lib.hid (fun (w' : World) (h : S w') => show w'.rangeAt g2 (o2 + k * 2) (ansC ⟨4, 0⟩) from by rw [hS] at h; exact fun i u hi => h.cell (HK11.out.cell (HQ.out i u hi) (by simp)) (by simp))
            have HS2 := Lib.hid (fun (w' : World) (h : S w') => show w'.rangeAt B 0 (ansC ⟨4, 0⟩) from by rw [hS] at h; exact fun i u hi => h.cell (by rw [Nat.zero_add]; exact cell_lit HW11.out i (by simpa using hi)) (by simp))
            have HKD := Lib.hid HK11.out.drew
            have HAD := Lib.hid (show w11.drew.heap[A]? = _ from HA11.out); have HLD := Lib.hid (show w11.drew.heap[A + 1]? = _ from HL11.out)
            clear hS
            go_wp2_with fail
            refine wp_region_noPanic ?_
            refine wp_region_held_drew (S := S) (by kernel_rfl) hSD (fun hHeld => ?_)
            apply wpAnyH_take (i := 0)
            · simp only [List.getElem?_toArray]; rfl
            · kernel_rfl
            · kernel_rfl
            · kernel_rfl
            · exact fun _ _ _ h => h
            · exact Or.inl ⟨by rfl, by intro w hSw; go_simp; try with_reducible rfl⟩
            · assumption
            try simp only [Act.put, List.setIfInBounds_toArray, List.set_cons_zero, List.set_cons_succ]
            apply wpAnyH_take (i := 1)
            · simp only [List.getElem?_toArray]; rfl
            · kernel_rfl
            · kernel_rfl
            · kernel_rfl
            · exact fun _ _ _ h => h
            · exact Or.inl ⟨by rfl, by intro w hSw; go_simp; try with_reducible rfl⟩
            · assumption
            try simp only [Act.put, List.setIfInBounds_toArray, List.set_cons_zero, List.set_cons_succ]
            apply wpAnyH_take (i := 2)
            · simp only [List.getElem?_toArray]; rfl
            · kernel_rfl
            · kernel_rfl
            · kernel_rfl
            · exact fun _ _ _ h => h
            · exact Or.inl ⟨by rfl, by intro w hSw; go_simp; try with_reducible rfl⟩
            · assumption
            try simp only [Act.put, List.setIfInBounds_toArray, List.set_cons_zero, List.set_cons_succ]
            apply wpAnyH_take (i := 3)
            · simp only [List.getElem?_toArray]; rfl
            · kernel_rfl
            · kernel_rfl
            · kernel_rfl
            · exact fun _ _ _ h => h
            · exact yields_ans ⟨4, 0⟩ (by rfl) _ rfl g2 (o2 + k * 2) rfl HS1.out
            · assumption
            try simp only [Act.put, List.setIfInBounds_toArray, List.set_cons_zero, List.set_cons_succ]
            apply wpAnyH_take (i := 4)
            · simp only [List.getElem?_toArray]; rfl
            · kernel_rfl
            · kernel_rfl
            · kernel_rfl
            · exact fun _ _ _ h => h
            · exact yields_ans ⟨4, 0⟩ (by rfl) _ rfl B 0 rfl HS2.out
            · assumption
            try simp only [Act.put, List.setIfInBounds_toArray, List.set_cons_zero, List.set_cons_succ]
            apply wpAnyH_take (i := 5)
            · simp only [List.getElem?_toArray]; rfl
            · kernel_rfl
            · kernel_rfl
            · kernel_rfl
            · exact fun _ _ _ h => h
            · exact Or.inl ⟨by rfl, by intro w hSw; go_simp; try with_reducible rfl⟩
            · assumption
            try simp only [Act.put, List.setIfInBounds_toArray, List.set_cons_zero, List.set_cons_succ]
            refine wpAnyH_done (by kernel_rfl) ?_ _
            refine NoPanic.normal ?_
            clear hHeld hSD HS1 HS2
            go_wp2_with fail
            try rw [show decide (l.length < LA.length) = false from decide_eq_false (by omega)]
            go_big_round
            go_roundw
            case rel => exact ⟨k + 1, vs, by go_num, by omega, by rw [HNE.out]; exact HOK.out, by rw [HNE.out]; exact HAD.out, HLD.out, HKD.out⟩
            case measure => simp [intOf]; omega
          | some v =>
            have p2 : w10.cell? ⟨P, 2, none⟩ = some (.int .u8 n) := by rw [← hn]; exact cell_lit HP10.out 2 rfl
            have a1 : w10.cell? ⟨A, n, none⟩ = some (.bool true) := by have h := th_cell HA10.out hn8; rw [ho] at h; exact h
            go_wp2_with fail
            refine (is11_any w10 3 0).mono ?_; rintro e w12 ⟨rfl, hk⟩
            have HP12 := Lib.hid (hk.heap HP10.out (by simp)); have HA12 := Lib.hid (hk.heap HA10.out (by simp)); have HL12 := Lib.hid (hk.heap HL10.out (by simp)); have HW12 := Lib.hid (hk.heap HW10.out (by simp))
            have HK12 := Lib.hid (HK10.out.trans hk (FSub.refl _ _))
            clear hk HP10 HA10 HL10 HW10 HK10
            go_wp2_with ((with_reducible refine wpList_putA11 (g := B) ⟨3, 0⟩ ?_ ?_ HW12.out ?_); exact rfl; exact rfl)
            intro w13 hW hk
            have HW13 := Lib.hid hW
            have HP13 := Lib.hid (hk.heap HP12.out (by have := HPB.out; simp; omega)); have HA13 := Lib.hid (hk.heap HA12.out (by have := HPB.out; have := HAP.out; simp; omega)); have HL13 := Lib.hid (hk.heap HL12.out (by have := HPB.out; have := HAP.out; simp; omega))
            have HK13 := Lib.hid (HK12.out.trans hk (fun q hq => .inr (by simp at hq; have := HPB.out; have := HAP.out; have := HAE.out; omega)))
            clear hW hk HP12 HA12 HL12 HW12 HK12
            clear p2 a1
            have p2 : w13.cell? ⟨P, 2, none⟩ = some (.int .u8 n) := by rw [← hn]; exact cell_lit HP13.out 2 rfl
            have a1 : w13.cell? ⟨A, n, none⟩ = some (.bool true) := by have h := th_cell HA13.out hn8; rw [ho] at h; exact h
            have HCA1 := Lib.hid (th_cell HA13.out hn8)
            have HCF := Lib.hid (show w13.frozen? ⟨A, n, none⟩ = false from any_thaw HA13.out n)
            go_wp2_with ((with_reducible refine wpList_putB1 (g := A) (i := n) false ?_ ?_ HCA1.out HCF.out ?_); exact rfl; exact rfl)
            intro w14 hW
            have hk : Keeps [A] w13 w14 := by rw [hW]; exact (Keeps.refl [A] w13).setCell _ _ (.inl (by simp))
            have HA14 := Lib.hid (show w14.heap[A]? = some (.cells (thA (m.set n none)) 64 (0, 0)) from by rw [hW]; exact th_put HA13.out HOK.out.mlen hn8 none false rfl)
            have HL14 := Lib.hid (hk.heap HL13.out (by simp)); have HP14 := Lib.hid (hk.heap HP13.out (by have := HAP.out; simp; omega)); have HW14 := Lib.hid (hk.heap HW13.out (by have := HPB.out; have := HAP.out; simp; omega))
            have HK14 := Lib.hid (HK13.out.trans hk (fun q hq => .inr (by simp at hq; have := HAE.out; omega)))
            clear hW hk HA13 HL13 HP13 HW13 HK13 p2 a1 HCA1 HCF
            have HNE := Lib.hid (show stS ksX kv0 (l.take (k + 1)) = m.set n none from by rw [HNX.out, ksX_del1 HKN.out hn8 hf ho])
            obtain rfl : y = ⟨3, 0⟩ := by rw [HY.out, ksX_del1 HKN.out hn8 hf ho]
            clear HNX HY
            clear ho
            obtain ⟨S, hS⟩ : ∃ S : World → Prop, S = fun y => Keeps [] w14 y := ⟨_, rfl⟩
            have hSD : S w14.drew := by rw [hS]; exact (Keeps.refl _ _).drew
            have HS1 := Lib.hid (fun (w' : World) (h : S w') => show w'.rangeAt g2 (o2 + k * 2) (ansC ⟨3, 0⟩) from by rw [hS] at h; exact fun i u hi => h.cell (HK14.out.cell (HQ.out i u hi) (by simp)) (by simp))
            have HS2 := Lib.hid (fun (w' : World) (h : S w') => show w'.rangeAt B 0 (ansC ⟨3, 0⟩) from by rw [hS] at h; exact fun i u hi => h.cell (by rw [Nat.zero_add]; exact cell_lit HW14.out i (by simpa using hi)) (by simp))
            have HKD := Lib.hid HK14.out.drew
            have HAD := Lib.hid (show w14.drew.heap[A]? = _ from HA14.out); have HLD := Lib.hid (show w14.drew.heap[A + 1]? = _ from HL14.out)
            clear hS
            go_wp2_with fail
            refine wp_region_noPanic ?_
            refine wp_region_held_drew (S := S) (by kernel_rfl) hSD (fun hHeld => ?_)
            apply wpAnyH_take (i := 0)
            · simp only [List.getElem?_toArray]; rfl
            · kernel_rfl
            · kernel_rfl
            · kernel_rfl
            · exact fun _ _ _ h => h
            · exact Or.inl ⟨by rfl, by intro w hSw; go_simp; try with_reducible rfl⟩
            · assumption
            try simp only [Act.put, List.setIfInBounds_toArray, List.set_cons_zero, List.set_cons_succ]
            apply wpAnyH_take (i := 1)
            · simp only [List.getElem?_toArray]; rfl
            · kernel_rfl
            · kernel_rfl
            · kernel_rfl
            · exact fun _ _ _ h => h
            · exact Or.inl ⟨by rfl, by intro w hSw; go_simp; try with_reducible rfl⟩
            · assumption
            try simp only [Act.put, List.setIfInBounds_toArray, List.set_cons_zero, List.set_cons_succ]
            apply wpAnyH_take (i := 2)
            · simp only [List.getElem?_toArray]; rfl
            · kernel_rfl
            · kernel_rfl
            · kernel_rfl
            · exact fun _ _ _ h => h
            · exact Or.inl ⟨by rfl, by intro w hSw; go_simp; try with_reducible rfl⟩
            · assumption
            try simp only [Act.put, List.setIfInBounds_toArray, List.set_cons_zero, List.set_cons_succ]
            apply wpAnyH_take (i := 3)
            · simp only [List.getElem?_toArray]; rfl
            · kernel_rfl
            · kernel_rfl
            · kernel_rfl
            · exact fun _ _ _ h => h
            · exact yields_ans ⟨3, 0⟩ (by rfl) _ rfl g2 (o2 + k * 2) rfl HS1.out
            · assumption
            try simp only [Act.put, List.setIfInBounds_toArray, List.set_cons_zero, List.set_cons_succ]
            apply wpAnyH_take (i := 4)
            · simp only [List.getElem?_toArray]; rfl
            · kernel_rfl
            · kernel_rfl
            · kernel_rfl
            · exact fun _ _ _ h => h
            · exact yields_ans ⟨3, 0⟩ (by rfl) _ rfl B 0 rfl HS2.out
            · assumption
            try simp only [Act.put, List.setIfInBounds_toArray, List.set_cons_zero, List.set_cons_succ]
            apply wpAnyH_take (i := 5)
            · simp only [List.getElem?_toArray]; rfl
            · kernel_rfl
            · kernel_rfl
            · kernel_rfl
            · exact fun _ _ _ h => h
            · exact Or.inl ⟨by rfl, by intro w hSw; go_simp; try with_reducible rfl⟩
            · assumption
            try simp only [Act.put, List.setIfInBounds_toArray, List.set_cons_zero, List.set_cons_succ]
            refine wpAnyH_done (by kernel_rfl) ?_ _
            refine NoPanic.normal ?_
            clear hHeld hSD HS1 HS2
            go_wp2_with fail
            try rw [show decide (l.length < LA.length) = false from decide_eq_false (by omega)]
            go_big_round
            go_roundw
            case rel => exact ⟨k + 1, vs, by go_num, by omega, by rw [HNE.out]; exact HOK.out.del hn8, by rw [HNE.out]; exact HAD.out, HLD.out, HKD.out⟩
            case measure => simp [intOf]; omega
        · -- Swap
          have p0 : w8.cell? ⟨P, 0, none⟩ = some (.int .u8 9) := by rw [← hf]; exact cell_lit HP8.out 0 rfl
          go_wp2_with fail
          refine (is11_any w8 4 0).mono ?_; rintro e w9 ⟨rfl, hk⟩
          have HP9 := Lib.hid (hk.heap HP8.out (by simp)); have HA9 := Lib.hid (hk.heap HA8.out (by simp)); have HL9 := Lib.hid (hk.heap HL8.out (by simp)); have HW9 := Lib.hid (hk.heap HW8.out (by simp))
          have HK9 := Lib.hid (HK8.out.trans hk (FSub.refl _ _))
          clear hk HP8 HA8 HL8 HW8 HK8
          go_wp2_with ((with_reducible refine wpList_putA11 (g := B) ⟨4, 0⟩ ?_ ?_ HW9.out ?_); exact rfl; exact rfl)
          intro w10 hW hk
          have HW10 := Lib.hid hW
          have HP10 := Lib.hid (hk.heap HP9.out (by have := HPB.out; simp; omega)); have HA10 := Lib.hid (hk.heap HA9.out (by have := HPB.out; have := HAP.out; simp; omega)); have HL10 := Lib.hid (hk.heap HL9.out (by have := HPB.out; have := HAP.out; simp; omega))
          have HK10 := Lib.hid (HK9.out.trans hk (fun q hq => .inr (by simp at hq; have := HPB.out; have := HAP.out; have := HAE.out; omega)))
          clear hW hk HP9 HA9 HL9 HW9 HK9
          clear p0
          cases ho : m.getD n none with
          | none =>
            obtain ⟨S, hS⟩ : ∃ S : World → Prop, S = fun y => Keeps [] w10 y := ⟨_, rfl⟩
            have hSD : S w10.drew := by rw [hS]; exact (Keeps.refl _ _).drew
            have HC2 := Lib.hid (fun (w' : World) (h : S w') => show w'.cell? ⟨P, 2, none⟩ = some (.int .u8 n) from by rw [hS] at h; rw [← hn]; exact h.cell (cell_lit HP10.out 2 rfl) (by simp))
            have HC3 := Lib.hid (fun (w' : World) (h : S w') => show w'.cell? ⟨P, 3, none⟩ = some (.int .u16 x.a) from by rw [hS] at h; exact h.cell (cell_lit HP10.out 3 rfl) (by simp))
            have HCA := Lib.hid (fun (w' : World) (h : S w') => show w'.cell? ⟨A, n, none⟩ = some (.bool false) from by rw [hS] at h; exact h.cell (by have h9 := th_cell HA10.out hn8; rw [ho] at h9; exact h9) (by simp))
            have HCL := Lib.hid (fun (w' : World) (h : S w') => show w'.cell? ⟨A + 1, n, none⟩ = some (.int .u16 (vs.getD n 0)) from by rw [hS] at h; exact h.cell (la_cell HL10.out hn8) (by simp))
            clear hS
            go_wp2_with fail
            refine wp_region_noPanic ?_
            refine wp_region_held_drew (S := S) (by kernel_rfl) hSD (fun hHeld => ?_)
            apply wpAnyH_take (i := 0)
            · simp only [List.getElem?_toArray]; rfl
            · kernel_rfl
            · kernel_rfl
            · kernel_rfl
            · exact fun _ _ _ h => h
            · exact Or.inl ⟨by rfl, by intro w hSw; go_simp; try with_reducible rfl⟩
            · assumption
            try simp only [Act.put, List.setIfInBounds_toArray, List.set_cons_zero, List.set_cons_succ]
            apply wpAnyH_take (i := 1)
            · simp only [List.getElem?_toArray]; rfl
            · kernel_rfl
            · kernel_rfl
            · kernel_rfl
            · exact fun _ _ _ h => h
            · exact Or.inl ⟨by rfl, by intro w hSw; have q0 := HC2.out w hSw; go_simp; try with_reducible rfl⟩
            · assumption
            try simp only [Act.put, List.setIfInBounds_toArray, List.set_cons_zero, List.set_cons_succ]
            apply wpAnyH_take (i := 2)
            · simp only [List.getElem?_toArray]; rfl
            · kernel_rfl
            · kernel_rfl
            · kernel_rfl
            · exact fun _ _ _ h => h
            · exact Or.inl ⟨by rfl, by intro w hSw; go_simp; try with_reducible rfl⟩
            · assumption
            try simp only [Act.put, List.setIfInBounds_toArray, List.set_cons_zero, List.set_cons_succ]
            apply wpAnyH_take (i := 3)
            · simp only [List.getElem?_toArray]; rfl
            · kernel_rfl
            · kernel_rfl
            · kernel_rfl
            · exact fun _ _ _ h => h
            · exact Or.inl ⟨by rfl, by intro w hSw; have q0 := HCA.out w hSw; go_simp; try with_reducible rfl⟩
            · assumption
            try simp only [Act.put, List.setIfInBounds_toArray, List.set_cons_zero, List.set_cons_succ]
            apply wpAnyH_take (i := 4)
            · simp only [List.getElem?_toArray]; rfl
            · kernel_rfl
            · kernel_rfl
            · kernel_rfl
            · exact fun _ _ _ h => h
            · exact Or.inl ⟨by rfl, by intro w hSw; go_simp; try with_reducible rfl⟩
            · assumption
            try simp only [Act.put, List.setIfInBounds_toArray, List.set_cons_zero, List.set_cons_succ]
            apply wpAnyH_take (i := 5)
            · simp only [List.getElem?_toArray]; rfl
            · kernel_rfl
            · kernel_rfl
            · kernel_rfl
            · exact fun _ _ _ h => h
            · exact Or.inr ⟨by rfl, rfl⟩
            · assumption
            try simp only [Act.put, List.setIfInBounds_toArray, List.set_cons_zero, List.set_cons_succ]
            apply wpAnyH_take (i := 6)
            · simp only [List.getElem?_toArray]; rfl
            · kernel_rfl
            · kernel_rfl
            · kernel_rfl
            · exact fun _ _ _ h => h
            · exact Or.inr ⟨by rfl, rfl⟩
            · assumption
            try simp only [Act.put, List.setIfInBounds_toArray, List.set_cons_zero, List.set_cons_succ]
            apply wpAnyH_take (i := 7)
            · simp only [List.getElem?_toArray]; rfl
            · kernel_rfl
            · kernel_rfl
            · kernel_rfl
            · exact fun _ _ _ h => h
            · exact Or.inr ⟨by rfl, rfl⟩
            · assumption
            try simp only [Act.put, List.setIfInBounds_toArray, List.set_cons_zero, List.set_cons_succ]
            apply wpAnyH_take (i := 8)
            · simp only [List.getElem?_toArray]; rfl
            · kernel_rfl
            · kernel_rfl
            · kernel_rfl
            · exact fun _ _ _ h => h
            · exact Or.inr ⟨by rfl, rfl⟩
            · assumption
            try simp only [Act.put, List.setIfInBounds_toArray, List.set_cons_zero, List.set_cons_succ]
            apply wpAnyH_take (i := 9)
            · simp only [List.getElem?_toArray]; rfl
            · kernel_rfl
            · kernel_rfl
            · kernel_rfl
            · exact fun _ _ _ h => h
            · exact Or.inr ⟨by rfl, rfl⟩
            · assumption
            try simp only [Act.put, List.setIfInBounds_toArray, List.set_cons_zero, List.set_cons_succ]
            apply wpAnyH_take (i := 10)
            · simp only [List.getElem?_toArray]; rfl
            · kernel_rfl
            · kernel_rfl
            · kernel_rfl
            · exact fun _ _ _ h => h
            · exact Or.inr ⟨by rfl, rfl⟩
            · assumption
            try simp only [Act.put, List.setIfInBounds_toArray, List.set_cons_zero, List.set_cons_succ]
            apply wpAnyH_take (i := 11)
            · simp only [List.getElem?_toArray]; rfl
            · kernel_rfl
            · kernel_rfl
            · kernel_rfl
            · exact fun _ _ _ h => h
            · exact Or.inr ⟨by rfl, rfl⟩
            · assumption
            try simp only [Act.put, List.setIfInBounds_toArray, List.set_cons_zero, List.set_cons_succ]
            apply wpAnyH_take (i := 12)
            · simp only [List.getElem?_toArray]; rfl
            · kernel_rfl
            · kernel_rfl
            · kernel_rfl
            · exact fun _ _ _ h => h
            · exact Or.inl ⟨by rfl, by intro w hSw; go_simp; try with_reducible rfl⟩
            · assumption
            try simp only [Act.put, List.setIfInBounds_toArray, List.set_cons_zero, List.set_cons_succ]
            refine wpAnyH_done (by kernel_rfl) ?_ _
            refine NoPanic.normal ?_
            clear hHeld hSD
            have HP11 := Lib.hid (show w10.drew.heap[P]? = _ from HP10.out); have HA11 := Lib.hid (show w10.drew.heap[A]? = _ from HA10.out); have HL11 := Lib.hid (show w10.drew.heap[A + 1]? = _ from HL10.out); have HW11 := Lib.hid (show w10.drew.heap[B]? = _ from HW10.out)
            have HK11 := Lib.hid HK10.out.drew
            clear HP10 HA10 HL10 HW10 HK10 HC2 HC3 HCA HCL
            generalize w10.drew = w11 at *
            have HNE := Lib.hid (show stS ksX kv0 (l.take (k + 1)) = m from by rw [HNX.out, ksX_cas0 HKN.out hn8 hf ho])
            obtain rfl : y = ⟨4, 0⟩ := by rw [HY.out, ksX_cas0 HKN.out hn8 hf ho]
            clear HNX HY
            clear ho
            obtain ⟨S, hS⟩ : ∃ S : World → Prop, S = fun y => Keeps [] w11 y := ⟨_, rfl⟩
            have hSD : S w11.drew := by rw [hS]; exact (Keeps.refl _ _).drew
            have HS1 := Lib.hid (fun (w' : World) (h : S w') => show w'.rangeAt g2 (o2 + k * 2) (ansC ⟨4, 0⟩) from by rw [hS] at h; exact fun i u hi => h.cell (HK11.out.cell (HQ.out i u hi) (by simp)) (by simp))
            have HS2 := Lib.hid (fun (w' : World) (h : S w') => show w'.rangeAt B 0 (ansC ⟨4, 0⟩) from by rw [hS] at h; exact fun i u hi => h.cell (by rw [Nat.zero_add]; exact cell_lit HW11.out i (by simpa using hi)) (by simp))
            have HKD := Lib.hid HK11.out.drew
            have HAD := Lib.hid (show w11.drew.heap[A]? = _ from HA11.out); have HLD := Lib.hid (show w11.drew.heap[A + 1]? = _ from HL11.out)
            clear hS
            go_wp2_with fail
            refine wp_region_noPanic ?_
            refine wp_region_held_drew (S := S) (by kernel_rfl) hSD (fun hHeld => ?_)
            apply wpAnyH_take (i := 0)
            · simp only [List.getElem?_toArray]; rfl
            · kernel_rfl
            · kernel_rfl
            · kernel_rfl
            · exact fun _ _ _ h => h
            · exact Or.inl ⟨by rfl, by intro w hSw; go_simp; try with_reducible rfl⟩
            · assumption
            try simp only [Act.put, List.setIfInBounds_toArray, List.set_cons_zero, List.set_cons_succ]
            apply wpAnyH_take (i := 1)
            · simp only [List.getElem?_toArray]; rfl
            · kernel_rfl
            · kernel_rfl
            · kernel_rfl
            · exact fun _ _ _ h => h
            · exact Or.inl ⟨by rfl, by intro w hSw; go_simp; try with_reducible rfl⟩
            · assumption
            try simp only [Act.put, List.setIfInBounds_toArray, List.set_cons_zero, List.set_cons_succ]
            apply wpAnyH_take (i := 2)
            · simp only [List.getElem?_toArray]; rfl
            · kernel_rfl
            · kernel_rfl
            · kernel_rfl
            · exact fun _ _ _ h => h
            · exact Or.inl ⟨by rfl, by intro w hSw; go_simp; try with_reducible rfl⟩
            · assumption
            try simp only [Act.put, List.setIfInBounds_toArray, List.set_cons_zero, List.set_cons_succ]
            apply wpAnyH_take (i := 3)
            · simp only [List.getElem?_toArray]; rfl
            · kernel_rfl
            · kernel_rfl
            · kernel_rfl
            · exact fun _ _ _ h => h
            · exact yields_ans ⟨4, 0⟩ (by rfl) _ rfl g2 (o2 + k * 2) rfl HS1.out
            · assumption
            try simp only [Act.put, List.setIfInBounds_toArray, List.set_cons_zero, List.set_cons_succ]
            apply wpAnyH_take (i := 4)
            · simp only [List.getElem?_toArray]; rfl
            · kernel_rfl
            · kernel_rfl
            · kernel_rfl
            · exact fun _ _ _ h => h
            · exact yields_ans ⟨4, 0⟩ (by rfl) _ rfl B 0 rfl HS2.out
            · assumption
            try simp only [Act.put, List.setIfInBounds_toArray, List.set_cons_zero, List.set_cons_succ]
            apply wpAnyH_take (i := 5)
            · simp only [List.getElem?_toArray]; rfl
            · kernel_rfl
            · kernel_rfl
            · kernel_rfl
            · exact fun _ _ _ h => h
            · exact Or.inl ⟨by rfl, by intro w hSw; go_simp; try with_reducible rfl⟩
            · assumption
            try simp only [Act.put, List.setIfInBounds_toArray, List.set_cons_zero, List.set_cons_succ]
            refine wpAnyH_done (by kernel_rfl) ?_ _
            refine NoPanic.normal ?_
            clear hHeld hSD HS1 HS2
            go_wp2_with fail
            try rw [show decide (l.length < LA.length) = false from decide_eq_false (by omega)]
            go_big_round
            go_roundw
            case rel => exact ⟨k + 1, vs, by go_num, by omega, by rw [HNE.out]; exact HOK.out, by rw [HNE.out]; exact HAD.out, HLD.out, HKD.out⟩
            case measure => simp [intOf]; omega
          | some v =>
            have HV := Lib.hid (HOK.out.last _ _ ho)
            by_cases hv : v = x.a
            · have ev : (v == x.a) = true := by simpa using hv
              obtain ⟨S, hS⟩ : ∃ S : World → Prop, S = fun y => Keeps [] w10 y := ⟨_, rfl⟩
              have hSD : S w10.drew := by rw [hS]; exact (Keeps.refl _ _).drew
              have HC2 := Lib.hid (fun (w' : World) (h : S w') => show w'.cell? ⟨P, 2, none⟩ = some (.int .u8 n) from by rw [hS] at h; rw [← hn]; exact h.cell (cell_lit HP10.out 2 rfl) (by simp))
              have HC3 := Lib.hid (fun (w' : World) (h : S w') => show w'.cell? ⟨P, 3, none⟩ = some (.int .u16 x.a) from by rw [hS] at h; exact h.cell (cell_lit HP10.out 3 rfl) (by simp))
              have HCA := Lib.hid (fun (w' : World) (h : S w') => show w'.cell? ⟨A, n, none⟩ = some (.bool true) from by rw [hS] at h; exact h.cell (by have h9 := th_cell HA10.out hn8; rw [ho] at h9; exact h9) (by simp))
              have HCL := Lib.hid (fun (w' : World) (h : S w') => show w'.cell? ⟨A + 1, n, none⟩ = some (.int .u16 (vs.getD n 0)) from by rw [hS] at h; exact h.cell (la_cell HL10.out hn8) (by simp))
              clear hS
              go_wp2_with fail
              refine wp_region_noPanic ?_
              refine wp_region_held_drew (S := S) (by kernel_rfl) hSD (fun hHeld => ?_)
              apply wpAnyH_take (i := 0)
              · simp only [List.getElem?_toArray]; rfl
              · kernel_rfl
              · kernel_rfl
              · kernel_rfl
              · exact fun _ _ _ h => h
              · exact Or.inl ⟨by rfl, by intro w hSw; go_simp; try with_reducible rfl⟩
              · assumption
              try simp only [Act.put, List.setIfInBounds_toArray, List.set_cons_zero, List.set_cons_succ]
              apply wpAnyH_take (i := 1)
              · simp only [List.getElem?_toArray]; rfl
              · kernel_rfl
              · kernel_rfl
              · kernel_rfl
              · exact fun _ _ _ h => h
              · exact Or.inl ⟨by rfl, by intro w hSw; have q0 := HC2.out w hSw; go_simp; try with_reducible rfl⟩
              · assumption
              try simp only [Act.put, List.setIfInBounds_toArray, List.set_cons_zero, List.set_cons_succ]
              apply wpAnyH_take (i := 2)
              · simp only [List.getElem?_toArray]; rfl
              · kernel_rfl
              · kernel_rfl
              · kernel_rfl
              · exact fun _ _ _ h => h
              · exact Or.inl ⟨by rfl, by intro w hSw; go_simp; try with_reducible rfl⟩
              · assumption
              try simp only [Act.put, List.setIfInBounds_toArray, List.set_cons_zero, List.set_cons_succ]
              apply wpAnyH_take (i := 3)
              · simp only [List.getElem?_toArray]; rfl
              · kernel_rfl
              · kernel_rfl
              · kernel_rfl
              · exact fun _ _ _ h => h
              · exact Or.inl ⟨by rfl, by intro w hSw; have q0 := HCA.out w hSw; go_simp; try with_reducible rfl⟩
              · assumption
              try simp only [Act.put, List.setIfInBounds_toArray, List.set_cons_zero, List.set_cons_succ]
              apply wpAnyH_take (i := 4)
              · simp only [List.getElem?_toArray]; rfl
              · kernel_rfl
              · kernel_rfl
              · kernel_rfl
              · exact fun _ _ _ h => h
              · exact Or.inl ⟨by rfl, by intro w hSw; go_simp; try with_reducible rfl⟩
              · assumption
              try simp only [Act.put, List.setIfInBounds_toArray, List.set_cons_zero, List.set_cons_succ]
              rw [HV.out] at HCL
              apply wpAnyH_take (i := 5)
              · simp only [List.getElem?_toArray]; rfl
              · kernel_rfl
              · kernel_rfl
              · kernel_rfl
              · exact fun _ _ _ h => h
              · exact Or.inl ⟨by rfl, by intro w hSw; go_simp; try with_reducible rfl⟩
              · assumption
              try simp only [Act.put, List.setIfInBounds_toArray, List.set_cons_zero, List.set_cons_succ]
              apply wpAnyH_take (i := 6)
              · simp only [List.getElem?_toArray]; rfl
              · kernel_rfl
              · kernel_rfl
              · kernel_rfl
              · exact fun _ _ _ h => h
              · exact Or.inl ⟨by rfl, by intro w hSw; have q0 := HC2.out w hSw; go_simp; try with_reducible rfl⟩
              · assumption
              try simp only [Act.put, List.setIfInBounds_toArray, List.set_cons_zero, List.set_cons_succ]
              apply wpAnyH_take (i := 7)
              · simp only [List.getElem?_toArray]; rfl
              · kernel_rfl
              · kernel_rfl
              · kernel_rfl
              · exact fun _ _ _ h => h
              · exact Or.inl ⟨by rfl, by intro w hSw; go_simp; try with_reducible rfl⟩
              · assumption
              try simp only [Act.put, List.setIfInBounds_toArray, List.set_cons_zero, List.set_cons_succ]
              apply wpAnyH_take (i := 8)
              · simp only [List.getElem?_toArray]; rfl
              · kernel_rfl
              · kernel_rfl
              · kernel_rfl
              · exact fun _ _ _ h => h
              · exact Or.inl ⟨by rfl, by intro w hSw; have q0 := HCL.out w hSw; go_simp; try with_reducible rfl⟩
              · assumption
              try simp only [Act.put, List.setIfInBounds_toArray, List.set_cons_zero, List.set_cons_succ]
              apply wpAnyH_take (i := 9)
              · simp only [List.getElem?_toArray]; rfl
              · kernel_rfl
              · kernel_rfl
              · kernel_rfl
              · exact fun _ _ _ h => h
              · exact Or.inl ⟨by rfl, by intro w hSw; go_simp; try with_reducible rfl⟩
              · assumption
              try simp only [Act.put, List.setIfInBounds_toArray, List.set_cons_zero, List.set_cons_succ]
              apply wpAnyH_take (i := 10)
              · simp only [List.getElem?_toArray]; rfl
              · kernel_rfl
              · kernel_rfl
              · kernel_rfl
              · exact fun _ _ _ h => h
              · exact Or.inl ⟨by rfl, by intro w hSw; have q0 := HC3.out w hSw; go_simp; try with_reducible rfl⟩
              · assumption
              try simp only [Act.put, List.setIfInBounds_toArray, List.set_cons_zero, List.set_cons_succ]
              apply wpAnyH_take (i := 11)
              · simp only [List.getElem?_toArray]; rfl
              · kernel_rfl
              · kernel_rfl
              · kernel_rfl
              · exact fun _ _ _ h => h
              · exact Or.inl ⟨by rfl, by intro w hSw; go_simp; try with_reducible rfl⟩
              · assumption
              try simp only [Act.put, List.setIfInBounds_toArray, List.set_cons_zero, List.set_cons_succ]
              apply wpAnyH_take (i := 12)
              · simp only [List.getElem?_toArray]; rfl
              · kernel_rfl
              · kernel_rfl
              · kernel_rfl
              · exact fun _ _ _ h => h
              · exact Or.inl ⟨by rfl, by intro w hSw; go_simp; try with_reducible rfl⟩
              · assumption
              try simp only [Act.put, List.setIfInBounds_toArray, List.set_cons_zero, List.set_cons_succ]
              refine wpAnyH_done (by kernel_rfl) ?_ _
              refine NoPanic.normal ?_
              clear hHeld hSD
              have HP11 := Lib.hid (show w10.drew.heap[P]? = _ from HP10.out); have HA11 := Lib.hid (show w10.drew.heap[A]? = _ from HA10.out); have HL11 := Lib.hid (show w10.drew.heap[A + 1]? = _ from HL10.out); have HW11 := Lib.hid (show w10.drew.heap[B]? = _ from HW10.out)
              have HK11 := Lib.hid HK10.out.drew
              clear HP10 HA10 HL10 HW10 HK10 HC2 HC3 HCA HCL
              generalize w10.drew = w11 at *
              go_wp2_with fail
              refine (is11_any w11 3 0).mono ?_; rintro e w12 ⟨rfl, hk⟩
              have HP12 := Lib.hid (hk.heap HP11.out (by simp)); have HA12 := Lib.hid (hk.heap HA11.out (by simp)); have HL12 := Lib.hid (hk.heap HL11.out (by simp)); have HW12 := Lib.hid (hk.heap HW11.out (by simp))
              have HK12 := Lib.hid (HK11.out.trans hk (FSub.refl _ _))
              clear hk HP11 HA11 HL11 HW11 HK11
              go_wp2_with ((with_reducible refine wpList_putA11 (g := B) ⟨3, 0⟩ ?_ ?_ HW12.out ?_); exact rfl; exact rfl)
              intro w13 hW hk
              have HW13 := Lib.hid hW
              have HP13 := Lib.hid (hk.heap HP12.out (by have := HPB.out; simp; omega)); have HA13 := Lib.hid (hk.heap HA12.out (by have := HPB.out; have := HAP.out; simp; omega)); have HL13 := Lib.hid (hk.heap HL12.out (by have := HPB.out; have := HAP.out; simp; omega))
              have HK13 := Lib.hid (HK12.out.trans hk (fun q hq => .inr (by simp at hq; have := HPB.out; have := HAP.out; have := HAE.out; omega)))
              clear hW hk HP12 HA12 HL12 HW12 HK12
              have p2 : w13.cell? ⟨P, 2, none⟩ = some (.int .u8 n) := by rw [← hn]; exact cell_lit HP13.out 2 rfl
              have p3 : w13.cell? ⟨P, 4, none⟩ = some (.int .u16 (x.b)) := cell_lit HP13.out 4 rfl
              have HCL1 := Lib.hid (la_cell HL13.out hn8)
              have HCF := Lib.hid (show w13.frozen? ⟨A + 1, n, none⟩ = false from any_thaw HL13.out n)
              go_wp2_with ((with_reducible refine wpList_putU1 (g := A + 1) (i := n) (x.b) ?_ ?_ HCL1.out HCF.out ?_); exact rfl; exact rfl)
              intro w14 hW
              have hk : Keeps [A + 1] w13 w14 := by rw [hW]; exact (Keeps.refl [A + 1] w13).setCell _ _ (.inl (by simp))
              have HL14 := Lib.hid (show w14.heap[A + 1]? = some (.cells (laA (vs.set n (x.b))) 23 (0, 0)) from by rw [hW]; exact la_put HL13.out HOK.out.len hn8 _)
              have HA14 := Lib.hid (hk.heap HA13.out (by simp)); have HP14 := Lib.hid (hk.heap HP13.out (by have := HAP.out; simp; omega)); have HW14 := Lib.hid (hk.heap HW13.out (by have := HPB.out; have := HAP.out; simp; omega))
              have HK14 := Lib.hid (HK13.out.trans hk (fun q hq => .inr (by simp at hq; have := HAE.out; omega)))
              clear hW hk HA13 HL13 HP13 HW13 HK13 p2 p3 HCL1 HCF
              have HNE := Lib.hid (show stS ksX kv0 (l.take (k + 1)) = m.set n (some x.b) from by rw [HNX.out, ksX_cas1 HKN.out hn8 hf ho hv])
              obtain rfl : y = ⟨3, 0⟩ := by rw [HY.out, ksX_cas1 HKN.out hn8 hf ho hv]
              clear HNX HY
              have HA14 := Lib.hid (show w14.heap[A]? = some (.cells (thA (m.set n (some x.b))) 64 (0, 0)) from by rw [HA14.out, thA_again hn8 ho])
              clear ho hv ev
              obtain ⟨S, hS⟩ : ∃ S : World → Prop, S = fun y => Keeps [] w14 y := ⟨_, rfl⟩
              have hSD : S w14.drew := by rw [hS]; exact (Keeps.refl _ _).drew
              have HS1 := Lib.hid (fun (w' : World) (h : S w') => show w'.rangeAt g2 (o2 + k * 2) (ansC ⟨3, 0⟩) from by rw [hS] at h; exact fun i u hi => h.cell (HK14.out.cell (HQ.out i u hi) (by simp)) (by simp))
              have HS2 := Lib.hid (fun (w' : World) (h : S w') => show w'.rangeAt B 0 (ansC ⟨3, 0⟩) from by rw [hS] at h; exact fun i u hi => h.cell (by rw [Nat.zero_add]; exact cell_lit HW14.out i (by simpa using hi)) (by simp))
              have HKD := Lib.hid HK14.out.drew
              have HAD := Lib.hid (show w14.drew.heap[A]? = _ from HA14.out); have HLD := Lib.hid (show w14.drew.heap[A + 1]? = _ from HL14.out)
              clear hS
              go_wp2_with fail
              refine wp_region_noPanic ?_
              refine wp_region_held_drew (S := S) (by kernel_rfl) hSD (fun hHeld => ?_)
              apply wpAnyH_take (i := 0)
              · simp only [List.getElem?_toArray]; rfl
              · kernel_rfl
              · kernel_rfl
              · kernel_rfl
              · exact fun _ _ _ h => h
              · exact Or.inl ⟨by rfl, by intro w hSw; go_simp; try with_reducible rfl⟩
              · assumption
              try simp only [Act.put, List.setIfInBounds_toArray, List.set_cons_zero, List.set_cons_succ]
              apply wpAnyH_take (i := 1)
              · simp only [List.getElem?_toArray]; rfl
              · kernel_rfl
              · kernel_rfl
              · kernel_rfl
              · exact fun _ _ _ h => h
              · exact Or.inl ⟨by rfl, by intro w hSw; go_simp; try with_reducible rfl⟩
              · assumption
              try simp only [Act.put, List.setIfInBounds_toArray, List.set_cons_zero, List.set_cons_succ]
              apply wpAnyH_take (i := 2)
              · simp only [List.getElem?_toArray]; rfl
              · kernel_rfl
              · kernel_rfl
              · kernel_rfl
              · exact fun _ _ _ h => h
              · exact Or.inl ⟨by rfl, by intro w hSw; go_simp; try with_reducible rfl⟩
              · assumption
              try simp only [Act.put, List.setIfInBounds_toArray, List.set_cons_zero, List.set_cons_succ]
              apply wpAnyH_take (i := 3)
              · simp only [List.getElem?_toArray]; rfl
              · kernel_rfl
              · kernel_rfl
              · kernel_rfl
              · exact fun _ _ _ h => h
              · exact yields_ans ⟨3, 0⟩ (by rfl) _ rfl g2 (o2 + k * 2) rfl HS1.out
              · assumption
              try simp only [Act.put, List.setIfInBounds_toArray, List.set_cons_zero, List.set_cons_succ]
              apply wpAnyH_take (i := 4)
              · simp only [List.getElem?_toArray]; rfl
              · kernel_rfl
              · kernel_rfl
              · kernel_rfl
              · exact fun _ _ _ h => h
              · exact yields_ans ⟨3, 0⟩ (by rfl) _ rfl B 0 rfl HS2.out
              · assumption
              try simp only [Act.put, List.setIfInBounds_toArray, List.set_cons_zero, List.set_cons_succ]
              apply wpAnyH_take (i := 5)
              · simp only [List.getElem?_toArray]; rfl
              · kernel_rfl
              · kernel_rfl
              · kernel_rfl
              · exact fun _ _ _ h => h
              · exact Or.inl ⟨by rfl, by intro w hSw; go_simp; try with_reducible rfl⟩
              · assumption
              try simp only [Act.put, List.setIfInBounds_toArray, List.set_cons_zero, List.set_cons_succ]
              refine wpAnyH_done (by kernel_rfl) ?_ _
              refine NoPanic.normal ?_
              clear hHeld hSD HS1 HS2
              go_wp2_with fail
              try rw [show decide (l.length < LA.length) = false from decide_eq_false (by omega)]
              go_big_round
              go_roundw
              case rel => exact ⟨k + 1, vs.set n x.b, by go_num, by omega, by rw [HNE.out]; exact HOK.out.put hn8 x.b, by rw [HNE.out]; exact HAD.out, HLD.out, HKD.out⟩
              case measure => simp [intOf]; omega
            · have ev : (v == x.a) = false := by simpa using hv
              obtain ⟨S, hS⟩ : ∃ S : World → Prop, S = fun y => Keeps [] w10 y := ⟨_, rfl⟩
              have hSD : S w10.drew := by rw [hS]; exact (Keeps.refl _ _).drew
              have HC2 := Lib.hid (fun (w' : World) (h : S w') => show w'.cell? ⟨P, 2, none⟩ = some (.int .u8 n) from by rw [hS] at h; rw [← hn]; exact h.cell (cell_lit HP10.out 2 rfl) (by simp))
              have HC3 := Lib.hid (fun (w' : World) (h : S w') => show w'.cell? ⟨P, 3, none⟩ = some (.int .u16 x.a) from by rw [hS] at h; exact h.cell (cell_lit HP10.out 3 rfl) (by simp))
              have HCA := Lib.hid (fun (w' : World) (h : S w') => show w'.cell? ⟨A, n, none⟩ = some (.bool true) from by rw [hS] at h; exact h.cell (by have h9 := th_cell HA10.out hn8; rw [ho] at h9; exact h9) (by simp))
              have HCL := Lib.hid (fun (w' : World) (h : S w') => show w'.cell? ⟨A + 1, n, none⟩ = some (.int .u16 (vs.getD n 0)) from by rw [hS] at h; exact h.cell (la_cell HL10.out hn8) (by simp))
              clear hS
              go_wp2_with fail
              refine wp_region_noPanic ?_
              refine wp_region_held_drew (S := S) (by kernel_rfl) hSD (fun hHeld => ?_)
              apply wpAnyH_take (i := 0)
              · simp only [List.getElem?_toArray]; rfl
              · kernel_rfl
              · kernel_rfl
              · kernel_rfl
              · exact fun _ _ _ h => h
              · exact Or.inl ⟨by rfl, by intro w hSw; go_simp; try with_reducible rfl⟩
              · assumption
              try simp only [Act.put, List.setIfInBounds_toArray, List.set_cons_zero, List.set_cons_succ]
              apply wpAnyH_take (i := 1)
              · simp only [List.getElem?_toArray]; rfl
              · kernel_rfl
              · kernel_rfl
              · kernel_rfl
              · exact fun _ _ _ h => h
              · exact Or.inl ⟨by rfl, by intro w hSw; have q0 := HC2.out w hSw; go_simp; try with_reducible rfl⟩
              · assumption
              try simp only [Act.put, List.setIfInBounds_toArray, List.set_cons_zero, List.set_cons_succ]
              apply wpAnyH_take (i := 2)
              · simp only [List.getElem?_toArray]; rfl
              · kernel_rfl
              · kernel_rfl
              · kernel_rfl
              · exact fun _ _ _ h => h
              · exact Or.inl ⟨by rfl, by intro w hSw; go_simp; try with_reducible rfl⟩
              · assumption
              try simp only [Act.put, List.setIfInBounds_toArray, List.set_cons_zero, List.set_cons_succ]
              apply wpAnyH_take (i := 3)
              · simp only [List.getElem?_toArray]; rfl
              · kernel_rfl
              · kernel_rfl
              · kernel_rfl
              · exact fun _ _ _ h => h
              · exact Or.inl ⟨by rfl, by intro w hSw; have q0 := HCA.out w hSw; go_simp; try with_reducible rfl⟩
              · assumption
              try simp only [Act.put, List.setIfInBounds_toArray, List.set_cons_zero, List.set_cons_succ]
              apply wpAnyH_take (i := 4)
              · simp only [List.getElem?_toArray]; rfl
              · kernel_rfl
              · kernel_rfl
              · kernel_rfl
              · exact fun _ _ _ h => h
              · exact Or.inl ⟨by rfl, by intro w hSw; go_simp; try with_reducible rfl⟩
              · assumption
              try simp only [Act.put, List.setIfInBounds_toArray, List.set_cons_zero, List.set_cons_succ]
              rw [HV.out] at HCL
              apply wpAnyH_take (i := 5)
              · simp only [List.getElem?_toArray]; rfl
              · kernel_rfl
              · kernel_rfl
              · kernel_rfl
              · exact fun _ _ _ h => h
              · exact Or.inl ⟨by rfl, by intro w hSw; go_simp; try with_reducible rfl⟩
              · assumption
              try simp only [Act.put, List.setIfInBounds_toArray, List.set_cons_zero, List.set_cons_succ]
              apply wpAnyH_take (i := 6)
              · simp only [List.getElem?_toArray]; rfl
              · kernel_rfl
              · kernel_rfl
              · kernel_rfl
              · exact fun _ _ _ h => h
              · exact Or.inl ⟨by rfl, by intro w hSw; have q0 := HC2.out w hSw; go_simp; try with_reducible rfl⟩
              · assumption
              try simp only [Act.put, List.setIfInBounds_toArray, List.set_cons_zero, List.set_cons_succ]
              apply wpAnyH_take (i := 7)
              · simp only [List.getElem?_toArray]; rfl
              · kernel_rfl
              · kernel_rfl
              · kernel_rfl
              · exact fun _ _ _ h => h
              · exact Or.inl ⟨by rfl, by intro w hSw; go_simp; try with_reducible rfl⟩
              · assumption
              try simp only [Act.put, List.setIfInBounds_toArray, List.set_cons_zero, List.set_cons_succ]
              apply wpAnyH_take (i := 8)
              · simp only [List.getElem?_toArray]; rfl
              · kernel_rfl
              · kernel_rfl
              · kernel_rfl
              · exact fun _ _ _ h => h
              · exact Or.inl ⟨by rfl, by intro w hSw; have q0 := HCL.out w hSw; go_simp; try with_reducible rfl⟩
              · assumption
              try simp only [Act.put, List.setIfInBounds_toArray, List.set_cons_zero, List.set_cons_succ]
              apply wpAnyH_take (i := 9)
              · simp only [List.getElem?_toArray]; rfl
              · kernel_rfl
              · kernel_rfl
              · kernel_rfl
              · exact fun _ _ _ h => h
              · exact Or.inl ⟨by rfl, by intro w hSw; go_simp; try with_reducible rfl⟩
              · assumption
              try simp only [Act.put, List.setIfInBounds_toArray, List.set_cons_zero, List.set_cons_succ]
              apply wpAnyH_take (i := 10)
              · simp only [List.getElem?_toArray]; rfl
              · kernel_rfl
              · kernel_rfl
              · kernel_rfl
              · exact fun _ _ _ h => h
              · exact Or.inl ⟨by rfl, by intro w hSw; have q0 := HC3.out w hSw; go_simp; try with_reducible rfl⟩
              · assumption
              try simp only [Act.put, List.setIfInBounds_toArray, List.set_cons_zero, List.set_cons_succ]
              apply wpAnyH_take (i := 11)
              · simp only [List.getElem?_toArray]; rfl
              · kernel_rfl
              · kernel_rfl
              · kernel_rfl
              · exact fun _ _ _ h => h
              · exact Or.inl ⟨by rfl, by intro w hSw; go_simp; try with_reducible rfl⟩
              · assumption
              try simp only [Act.put, List.setIfInBounds_toArray, List.set_cons_zero, List.set_cons_succ]
              apply wpAnyH_take (i := 12)
              · simp only [List.getElem?_toArray]; rfl
              · kernel_rfl
              · kernel_rfl
              · kernel_rfl
              · exact fun _ _ _ h => h
              · exact Or.inl ⟨by rfl, by intro w hSw; go_simp; try with_reducible rfl⟩
              · assumption
              try simp only [Act.put, List.setIfInBounds_toArray, List.set_cons_zero, List.set_cons_succ]
              refine wpAnyH_done (by kernel_rfl) ?_ _
              refine NoPanic.normal ?_
              clear hHeld hSD
              have HP11 := Lib.hid (show w10.drew.heap[P]? = _ from HP10.out); have HA11 := Lib.hid (show w10.drew.heap[A]? = _ from HA10.out); have HL11 := Lib.hid (show w10.drew.heap[A + 1]? = _ from HL10.out); have HW11 := Lib.hid (show w10.drew.heap[B]? = _ from HW10.out)
              have HK11 := Lib.hid HK10.out.drew
              clear HP10 HA10 HL10 HW10 HK10 HC2 HC3 HCA HCL
              generalize w10.drew = w11 at *
              have HNE := Lib.hid (show stS ksX kv0 (l.take (k + 1)) = m from by rw [HNX.out, ksX_cas2 HKN.out hn8 hf ho hv])
              obtain rfl : y = ⟨4, 0⟩ := by rw [HY.out, ksX_cas2 HKN.out hn8 hf ho hv]
              clear HNX HY
              clear ho hv ev
              obtain ⟨S, hS⟩ : ∃ S : World → Prop, S = fun y => Keeps [] w11 y := ⟨_, rfl⟩
              have hSD : S w11.drew := by rw [hS]; exact (Keeps.refl _ _).drew
              have HS1 := Lib.hid (fun (w' : World) (h : S w') => show w'.rangeAt g2 (o2 + k * 2) (ansC ⟨4, 0⟩) from by rw [hS] at h; exact fun i u hi => h.cell (HK11.out.cell (HQ.out i u hi) (by simp)) (by simp))
              have HS2 := Lib.hid (fun (w' : World) (h : S w') => show w'.rangeAt B 0 (ansC ⟨4, 0⟩) from by rw [hS] at h; exact fun i u hi => h.cell (by rw [Nat.zero_add]; exact cell_lit HW11.out i (by simpa using hi)) (by simp))
              have HKD := Lib.hid HK11.out.drew
              have HAD := Lib.hid (show w11.drew.heap[A]? = _ from HA11.out); have HLD := Lib.hid (show w11.drew.heap[A + 1]? = _ from HL11.out)
              clear hS
              go_wp2_with fail
              refine wp_region_noPanic ?_
              refine wp_region_held_drew (S := S) (by kernel_rfl) hSD (fun hHeld => ?_)
              apply wpAnyH_take (i := 0)
              · simp only [List.getElem?_toArray]; rfl
              · kernel_rfl
              · kernel_rfl
              · kernel_rfl
              · exact fun _ _ _ h => h
              · exact Or.inl ⟨by rfl, by intro w hSw; go_simp; try with_reducible rfl⟩
              · assumption
              try simp only [Act.put, List.setIfInBounds_toArray, List.set_cons_zero, List.set_cons_succ]
              apply wpAnyH_take (i := 1)
              · simp only [List.getElem?_toArray]; rfl
              · kernel_rfl
              · kernel_rfl
              · kernel_rfl
              · exact fun _ _ _ h => h
              · exact Or.inl ⟨by rfl, by intro w hSw; go_simp; try with_reducible rfl⟩
              · assumption
              try simp only [Act.put, List.setIfInBounds_toArray, List.set_cons_zero, List.set_cons_succ]
              apply wpAnyH_take (i := 2)
              · simp only [List.getElem?_toArray]; rfl
              · kernel_rfl
              · kernel_rfl
              · kernel_rfl
              · exact fun _ _ _ h => h
              · exact Or.inl ⟨by rfl, by intro w hSw; go_simp; try with_reducible rfl⟩
              · assumption
              try simp only [Act.put, List.setIfInBounds_toArray, List.set_cons_zero, List.set_cons_succ]
              apply wpAnyH_take (i := 3)
              · simp only [List.getElem?_toArray]; rfl
              · kernel_rfl
              · kernel_rfl
              · kernel_rfl
              · exact fun _ _ _ h => h
              · exact yields_ans ⟨4, 0⟩ (by rfl) _ rfl g2 (o2 + k * 2) rfl HS1.out
              · assumption
              try simp only [Act.put, List.setIfInBounds_toArray, List.set_cons_zero, List.set_cons_succ]
              apply wpAnyH_take (i := 4)
              · simp only [List.getElem?_toArray]; rfl
              · kernel_rfl
              · kernel_rfl
              · kernel_rfl
              · exact fun _ _ _ h => h
              · exact yields_ans ⟨4, 0⟩ (by rfl) _ rfl B 0 rfl HS2.out
              · assumption
              try simp only [Act.put, List.setIfInBounds_toArray, List.set_cons_zero, List.set_cons_succ]
              apply wpAnyH_take (i := 5)
              · simp only [List.getElem?_toArray]; rfl
              · kernel_rfl
              · kernel_rfl
              · kernel_rfl
              · exact fun _ _ _ h => h
              · exact Or.inl ⟨by rfl, by intro w hSw; go_simp; try with_reducible rfl⟩
              · assumption
              try simp only [Act.put, List.setIfInBounds_toArray, List.set_cons_zero, List.set_cons_succ]
              refine wpAnyH_done (by kernel_rfl) ?_ _
              refine NoPanic.normal ?_
              clear hHeld hSD HS1 HS2
              go_wp2_with fail
              try rw [show decide (l.length < LA.length) = false from decide_eq_false (by omega)]
              go_big_round
              go_roundw
              case rel => exact ⟨k + 1, vs, by go_num, by omega, by rw [HNE.out]; exact HOK.out, by rw [HNE.out]; exact HAD.out, HLD.out, HKD.out⟩
              case measure => simp [intOf]; omega
      · obtain rfl : k = LA.length := by omega
        have HKR := Lib.hid (HK4.out.trans hkr (FSub.refl _ _))
        clear hkr hA0 hL0
        go_wp2_with fail
        refine (awake11_any HR.out _ (HR.out.keep HG.out HKR.out)).mono ?_; rintro e w4 ⟨rfl, hk4⟩
        have HK9 := Lib.hid (HKR.out.trans hk4 (FSub.refl _ _))
        clear hk4
        go_wp2_with fail
        go_ret
        exact ⟨rfl, HK9.out⟩
  · generalize l.length = n at *
    have t2 : (200 : Int) < n := by omega
    go_enter Try.func8, Try.ntmps8
    go_wp2_with fail
    refine (awake11_any HR.out _ HG.out).mono ?_; rintro e w4 ⟨rfl, hk4⟩
    have HK4 := Lib.hid hk4
    clear hk4
    go_wp2_with fail
    go_ret
    exact ⟨rfl, HK4.out⟩
end Go.Proofs.Ytnmpekbkahkapaa
