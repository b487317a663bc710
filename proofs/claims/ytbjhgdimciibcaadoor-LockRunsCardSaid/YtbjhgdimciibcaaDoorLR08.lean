/-
  Slices of 16 bits; appends of any slice; the document's queue: Same, Step.
-/
import Derived.Test.YtbjhgdimciibcaaDoorLR04
import Derived.Test.YtbjhgdimciibcaaDoorLR07
set_option linter.unusedSimpArgs false
set_option linter.unusedVariables false
namespace Go.Proofs.YtbjhgdimciibcaaDoor
open Go.RowKit
section
variable {α : Type}
theorem RK.In.more {R : RK α} {N M : Nat} {w : World} {v : Value} {L : List α} (h : R.In N w v L) (hM : N ≤ M) : R.In M w v L := by
  obtain ⟨a, c, rfl, hc, hm, h⟩ := h
  refine ⟨a, c, rfl, hc, hm, fun hn => ?_⟩
  obtain ⟨bk, o, rfl, hb, h'⟩ := h hn
  exact ⟨bk, o, rfl, by omega, h'⟩
theorem RK.In.keeps {R : RK α} {N : Nat} {w w' : World} {v : Value} {L : List α} {F : List Nat} (h : R.In N w v L) (hk : Keeps F w w') (hF : L ≠ [] → ∀ q ∈ own v, q ∉ F) : R.In N w' v L := by
  obtain ⟨a, c, rfl, hc, hm, h⟩ := h
  refine ⟨a, c, rfl, hc, hm, fun hn => ?_⟩
  obtain ⟨bk, o, rfl, hb, h'⟩ := h hn
  exact ⟨bk, o, rfl, hb, fun j hj i u hi => hk.cell (h' j hj i u hi) (hF hn bk (by simp [own, Value.ownBlock]))⟩
theorem RK.In.old {R : RK α} {N : Nat} {w : World} {v : Value} {L : List α} (h : R.In N w v L) (hn : L ≠ []) : ∀ q ∈ own v, q < N := by
  obtain ⟨a, c, rfl, hc, hm, h⟩ := h
  obtain ⟨bk, o, rfl, hb, h'⟩ := h hn
  intro q hq
  simp [own, Value.ownBlock] at hq
  omega
end
section
variable {ops : Array Oper} {rest : List Oper} {a : Act} {w : World} {Q : Exit → Act → World → Prop}
/-- An append whose run is known. -/
theorem wpList_app {dst : Option Tmp} {t : TypeId} {pos : String} {after : Array Edge} {s x : Operand} (v u : Value) {v' : Value} {w' : World} (hs : a.eval s = v) (hx : a.eval x = u)
    (hr : (Builtin.append_ #[t, t] t #[v, u]).run Tryd.prog w = .ok v' w') (h : wpList Tryd.prog ops Q rest (a.put dst v') w') :
    wpList Tryd.prog ops Q ({ dst := dst, op := .call { callee := .builtin .append, args := #[s, x], argTypes := #[t, t] }, type := t, pos := pos, after := after, guard := none } :: rest) a w :=
  wpList_append_run rfl s x t rfl _ _ _ w' hs hx hr h
end
set_option maxHeartbeats 4000000
set_option maxRecDepth 100000
end Go.Proofs.YtbjhgdimciibcaaDoor
/-
  A lock as data: a step of a client's operation; calls; no program.
-/
namespace Go.Proofs.YtbjhgdimciibcaaDoor
open Go.RowKit
/-- A step: the state behind it, the answer, the error. -/
def lkX (s c : Int) (x : Opn) : Int × Ans × Int :=
  if opChk 3 x = 0 then
    (if 15 < c ∨ 16 < s then (s, ⟨0, 0⟩, 2)
     else if x.f = 10 then (if s = 0 then (c + 1, ⟨3, 0⟩, 0) else (s, ⟨4, 0⟩, 0))
     else if s = c + 1 then (0, ⟨3, 0⟩, 0) else (s, ⟨4, 0⟩, 0))
  else (s, ⟨0, 0⟩, 10)
/-- A call: a client, an operation. -/
structure Cl where
  c : Int
  x : Opn
structure Cl.In (y : Cl) : Prop where
  c0 : 0 ≤ y.c
  c1 : y.c < 256
  x : y.x.In
def clC (y : Cl) : List Value := [.int .u8 y.c, .int .u8 y.x.f, .int .u8 y.x.o, .int .u8 y.x.k, .int .u16 y.x.a, .int .u16 y.x.b]
def Cl.val (y : Cl) : Value := .agg #[.int .u8 y.c, .int .u8 y.x.f, .int .u8 y.x.o, .int .u8 y.x.k, .int .u16 y.x.a, .int .u16 y.x.b]
def lkY (s : Int) (y : Cl) : Int × Ans × Int := lkX s y.c y.x
theorem opChk3 {x : Opn} (h : opChk 3 x = 0) : x.f = 10 ∨ x.f = 11 := by
  unfold opChk at h
  split at h
  · rename_i h2
    have h3 : opM x.f = 3 := by
      have := h2
      simp only [Bool.and_eq_true, beq_iff_eq] at this
      exact this.2
    unfold opM at h3
    split at h3
    · cases h3
    · split at h3
      · cases h3
      · split at h3
        · assumption
        · cases h3
  · cases h
/-- Each step goes one of six ways. -/
theorem lkX_ways (s c : Int) (x : Opn) :
    (opChk 3 x = 10 ∧ lkX s c x = (s, ⟨0, 0⟩, 10)) ∨
    (opChk 3 x = 0 ∧ (15 < c ∨ 16 < s) ∧ lkX s c x = (s, ⟨0, 0⟩, 2)) ∨
    (opChk 3 x = 0 ∧ c ≤ 15 ∧ s ≤ 16 ∧ x.f = 10 ∧ s = 0 ∧ lkX s c x = (c + 1, ⟨3, 0⟩, 0)) ∨
    (opChk 3 x = 0 ∧ c ≤ 15 ∧ s ≤ 16 ∧ x.f = 10 ∧ s ≠ 0 ∧ lkX s c x = (s, ⟨4, 0⟩, 0)) ∨
    (opChk 3 x = 0 ∧ c ≤ 15 ∧ s ≤ 16 ∧ x.f = 11 ∧ s = c + 1 ∧ lkX s c x = (0, ⟨3, 0⟩, 0)) ∨
    (opChk 3 x = 0 ∧ c ≤ 15 ∧ s ≤ 16 ∧ x.f = 11 ∧ s ≠ c + 1 ∧ lkX s c x = (s, ⟨4, 0⟩, 0)) := by
  unfold lkX
  rcases opChk_or 3 x with h | h
  · refine .inr ?_
    rw [if_pos h]
    by_cases h2 : 15 < c ∨ 16 < s
    · exact .inl ⟨h, h2, by rw [if_pos h2]⟩
    · refine .inr ?_
      rw [if_neg h2]
      rcases opChk3 h with hf | hf
      · by_cases h3 : s = 0
        · exact .inl ⟨h, by omega, by omega, hf, h3, by rw [if_pos hf, if_pos h3]⟩
        · exact .inr (.inl ⟨h, by omega, by omega, hf, h3, by rw [if_pos hf, if_neg h3]⟩)
      · by_cases h3 : s = c + 1
        · exact .inr (.inr (.inl ⟨h, by omega, by omega, hf, h3, by rw [if_neg (by omega), if_pos h3]⟩))
        · exact .inr (.inr (.inr ⟨h, by omega, by omega, hf, h3, by rw [if_neg (by omega), if_neg h3]⟩))
  · exact .inl ⟨h, by rw [if_neg (by omega)]⟩
theorem lkX_in {s c : Int} {x : Opn} (hs : 0 ≤ s ∧ s < 256) (hc : 0 ≤ c ∧ c < 256) : 0 ≤ (lkX s c x).1 ∧ (lkX s c x).1 < 256 := by
  rcases lkX_ways s c x with h1 | h1 | h1 | h1 | h1 | h1
  · rw [h1.2]; exact hs
  · rw [h1.2.2]; exact hs
  · rw [h1.2.2.2.2.2]; simp only; omega
  · rw [h1.2.2.2.2.2]; exact hs
  · rw [h1.2.2.2.2.2]; simp only; omega
  · rw [h1.2.2.2.2.2]; exact hs
theorem lkS_in : ∀ (s : Int) (l : List Cl), 0 ≤ s ∧ s < 256 → (∀ y ∈ l, y.In) → 0 ≤ stS lkY s l ∧ stS lkY s l < 256
  | s, [], h, _ => h
  | s, y :: l, h, hl => by
    unfold stS
    split
    · exact lkS_in _ l (lkX_in h ⟨(hl y (by simp)).c0, (hl y (by simp)).c1⟩) (fun z hz => hl z (by simp [hz]))
    · exact h
theorem clC_len (y : Cl) : (clC y).length = 6 := rfl
theorem clC_one (y : Cl) : ∀ v ∈ clC y, v.oneCell' = true := by
  intro v hv
  simp only [clC, List.mem_cons, List.not_mem_nil, or_false] at hv
  rcases hv with rfl | rfl | rfl | rfl | rfl | rfl <;> rfl
def clZero : Cl := ⟨0, ⟨0, 0, 0, 0, 0⟩⟩
theorem Tryd.infoCl : (Tryd.prog.info? 49).map (fun i => (i.zero, i.size, i.bytes)) = some (some (.agg (clC clZero).toArray), 6, 10) := by kernel_rfl
/-- Calls, side by side. -/
noncomputable def rkCl : RK Cl :=
  { T := 49, Sl := 44, s := 6, b := 10, cs := clC, i := (info_parts Tryd.infoCl).choose, z := .agg (clC clZero).toArray,
    len := clC_len, one := clC_one, s0 := by decide, b1 := by decide, und := Tryd.underlying44,
    hi := (info_parts Tryd.infoCl).choose_spec.1, hz := (info_parts Tryd.infoCl).choose_spec.2.1, hs := (info_parts Tryd.infoCl).choose_spec.2.2.1, hb := (info_parts Tryd.infoCl).choose_spec.2.2.2, hzs := rfl }
theorem InCl_at {N : Nat} {w : World} {a : Option Addr} {n c : Nat} {l : List Cl} (h : rkCl.In N w (.slice a n c) l) {k : Nat} (hk : k < l.length) : ∃ bk o, a = some ⟨bk, o, none⟩ ∧ bk < N ∧ w.rangeAt bk (o + k * 6) (clC l[k]) := by
  obtain ⟨_, _, e, _, _, h⟩ := h
  simp at e
  obtain ⟨rfl, -, -⟩ := e
  obtain ⟨bk, o, e, hb, hr⟩ := h (fun e => by rw [e] at hk; simp at hk)
  exact ⟨bk, o, e, hb, hr k hk⟩
end Go.Proofs.YtbjhgdimciibcaaDoor
/-
  A function value without variables, and a call of one; an answer stored whole.
-/
namespace Go.Proofs.YtbjhgdimciibcaaDoor
open Go.RowKit
section
variable {o : Oper} {a : Act} {w : World} {K : Act → World → Prop} {Q : Exit → Act → World → Prop}
theorem wp_putN {x y : Operand} (ho : o.op = .store 27 x y) {g : Nat} {old : Ans} (r : Ans) {t : TypeId}
    (hx : a.eval x = .pointer (some ⟨g, 0, none⟩)) (hy : a.eval y = .agg (ansC r).toArray) (hg : w.heap[g]? = some (.cells (ansC old).toArray t (0, 0)))
    (h : ∀ W, W.heap[g]? = some (.cells (ansC r).toArray t (0, 0)) → Keeps [g] w W → K (a.put o.dst undef) W) : o.wp Tryd.prog a w K Q :=
  wp_store_row 27 x y ho g (ansC r).toArray hx hy t (ansC old).toArray hg (by kernel_rfl) rfl (by rw [← Array.all_toList, List.all_eq_true]; exact ansC_one r) (h _ (setRow_heap w g (ansC old).toArray (ansC r).toArray t (0, 0) hg) ((Keeps.refl [g] w).setRow g _ (.inl (by simp))))
end
end Go.Proofs.YtbjhgdimciibcaaDoor
