/-
  The program's history in memory: what it keeps, what was appended.
-/
import Derived.Maps.OwnSet
import Derived.DeepKeys4
import Derived.Test.YtlaccndjlfpjbaaGreatDoorD02
import Derived.Test.YtlaccndjlfpjbaaGreatDoorD12
set_option linter.unusedSimpArgs false
set_option linter.unusedVariables false
namespace Go.Proofs.YtlaccndjlfpjbaaGreatDoor
open Go.RowKit Go.Maps
/-- A micro as a key. -/
def micV (m : Mic) : Value := .agg (micC m)
def micK (m : Mic) : Lit := .string (keyBytes [.bool m.rd, .int .u8 m.key, .int .u16 m.v])
theorem Tryz.laidOut : laidOutB Tryz.prog = true := by kernel_rfl
theorem mic_row : 52 < Tryz.prog.types.size := of_decide_eq_true (by kernel_rfl)
theorem mic_at : Tryz.prog.keyTypeAt 2 52 = true := by kernel_rfl
theorem mic_klaw : WideMaps.KeyLaw Tryz.prog 52 := by
  apply deep_law_laid (P := Tryz.prog) (k := 52) (m := 2) Tryz.laidOut
  · decide
  · exact mic_row
  · exact mic_at
  · rw [Tryz.underlying52]
theorem mic_law : Keyed Tryz.prog 52 := Keyed.of_law mic_klaw
theorem mic_deep : Tryz.prog.keyType 52 = true := by kernel_rfl
theorem mic_cells : Tryz.prog.cellsOf 52 = 3 := by kernel_rfl
theorem mic_formed (m : Mic) : (micV m).formed Tryz.prog 52 = true := by simp [micV, micC, Value.formed, Tryz.underlying52, mic_cells]
theorem mic_lits (m : Mic) (h : m.In) (n : Nat) : Tryz.prog.keyLits (n + 2) 52 (micC m).toList = some [.bool m.rd, .int .u8 m.key, .int .u16 m.v] := by
  have c4 : Tryz.prog.cellsOf 4 = 1 := by kernel_rfl
  have c5 : Tryz.prog.cellsOf 5 = 1 := by kernel_rfl
  have c6 : Tryz.prog.cellsOf 32 = 1 := by kernel_rfl
  have h1 := h.k0; have h2 := h.k1; have h3 := h.v0; have h4 := h.v1
  have w1 : (Lit.int .u8 m.key).wf = true := WalkArith.wf_u8 (by omega)
  have w2 : (Lit.int .u16 m.v).wf = true := WalkArith.wf_u16 (by omega)
  simp [Program.keyLits, Tryz.underlying52, Tryz.underlying4, Tryz.underlying5, Tryz.underlying32, mic_cells, c4, c5, c6, micC, w1, w2]
theorem mic_key (m : Mic) (h : m.In) : keyOf Tryz.prog 52 (micV m) = some (micK m) := by
  unfold keyOf
  rw [Tryz.underlying52]
  simp only [mic_deep, mic_formed, Bool.and_self, if_true]
  have hs : Tryz.prog.types.size + 1 = (Tryz.prog.types.size - 1) + 2 := by have := mic_row; omega
  rw [hs]
  show Option.map _ (Tryz.prog.keyLits _ 52 (micC m).toList) = _
  rw [mic_lits m h]; rfl
theorem mic_inj {a b : Mic} (ha : a.In) (hb : b.In) (h : micK a = micK b) : a = b := by
  have := mic_law.inj (mic_key a ha) (h ▸ mic_key b hb)
  cases a; cases b
  simp [micV, micC] at this
  simp [this]
/-- The numbers that were appended, as a map. -/
def MapAt (w : World) (b n : Nat) (ap : List Mic) : Prop := ∃ D : DataW Unit, w.ownsMap Tryz.prog 52 unitElem b n D ∧ ∀ m : Mic, m.In → m.rd = false → Maps.has D (micK m) = decide (0 < mApp ap m)
theorem ownsMap_at {w w' : World} {b n : Nat} {D : DataW Unit} (h : w.ownsMap Tryz.prog 52 unitElem b n D) (hb : w'.heap[b]? = w.heap[b]?) : w'.ownsMap Tryz.prog 52 unitElem b n D := by
  obtain ⟨es, clock, h1, h2⟩ := h
  exact ⟨es, clock, hb.trans h1, h2⟩
theorem MapAt.keeps {w w' : World} {F : List Nat} {b n : Nat} {ap : List Mic} (h : MapAt w b n ap) (hk : Keeps F w w') (hF : b ∉ F) : MapAt w' b n ap := by
  obtain ⟨D, h1, h2⟩ := h
  exact ⟨D, ownsMap_at h1 (hk.block b h1.lt hF), h2⟩
theorem MapAt.lt {w : World} {b n : Nat} {ap : List Mic} (h : MapAt w b n ap) : b < w.heap.size := by obtain ⟨D, h1, _⟩ := h; exact h1.lt
theorem MapAt.mono {w : World} {b n n' : Nat} {ap : List Mic} (h : MapAt w b n ap) (hn : n ≤ n') : MapAt w b n' ap := by obtain ⟨D, h1, h2⟩ := h; exact ⟨D, h1.mono hn, h2⟩
theorem MapAt.made (w : World) : MapAt (w.alloc (.map #[] 0)) w.heap.size 0 [] := ⟨_, World.ownsMap_made _ _ _ _, fun m _ _ => by simp [Maps.has, mApp]⟩
theorem mApp_one (y m : Mic) : mApp [y] m = if y.rd = false ∧ y.key = m.key ∧ y.v = m.v then 1 else 0 := by
  unfold mApp
  by_cases h : y.rd = false ∧ y.key = m.key ∧ y.v = m.v
  · obtain ⟨h1, h2, h3⟩ := h; simp [h1, h2, h3]
  · rw [if_neg h]
    have : (!y.rd && decide (y.key = m.key) && decide (y.v = m.v)) = false := by
      cases hr : y.rd <;> simp_all
    simp [this]
theorem MapAt.read {w : World} {b n : Nat} {ap : List Mic} (h : MapAt w b n ap) (m : Mic) (hr : m.rd = true) : MapAt w b n (ap ++ [m]) := by
  obtain ⟨D, h1, h2⟩ := h
  refine ⟨D, h1, fun y hy hyr => ?_⟩
  rw [h2 y hy hyr, mApp_app, mApp_one, if_neg (by simp [hr])]; rfl
theorem MapAt.put {w' : World} {b n : Nat} {ap : List Mic} {D : DataW Unit} (hD : IsMap D) (h2 : ∀ m : Mic, m.In → m.rd = false → Maps.has D (micK m) = decide (0 < mApp ap m)) (m : Mic) (hm : m.In) (hr : m.rd = false)
    (h : w'.ownsMap Tryz.prog 52 unitElem b n (D.put (micK m) (.agg []))) : MapAt w' b n (ap ++ [m]) := by
  refine ⟨_, h, fun y hy hyr => ?_⟩
  rw [mApp_app, mApp_one]
  by_cases he : micK y = micK m
  · have : y = m := mic_inj hy hm he
    subst this
    rw [has_put_same hD (mic_law.key (mic_key y hy)), if_pos ⟨hr, rfl, rfl⟩]
    simp
  · rw [has_put_other he, h2 y hy hyr, if_neg]
    · simp
    · rintro ⟨_, h3, h4⟩
      apply he
      have : y = m := by cases y; cases m; simp_all
      rw [this]
/-- The cells of what the program keeps. -/
def cfgC (g : Cfg) : List Value := [.int .u8 g.m, .int .i64 g.mo, .int .i64 g.ms, .int .i64 g.mt, .bool g.p, .bool g.cu, .bool g.me]
def pastL (g : Cfg) (on : Bool) (op : EvL) (la : Int) (mb : Nat) : List Value := cfgC g ++ ([.bool on] ++ (evsC op ++ [.int .i64 la, .map (some mb)]))
/-- A list of cells, a part of it anew. -/
theorem heap_setCells (b : Nat) (t : TypeId) : ∀ (vs ys X Z : List Value) (o : Nat) (w : World), ys.length = vs.length → X.length = o → w.heap[b]? = some (.cells (X ++ (ys ++ Z)).toArray t (0, 0)) → (w.setCells b o vs).heap[b]? = some (.cells (X ++ (vs ++ Z)).toArray t (0, 0))
  | [], ys, X, Z, o, w, hl, _, h => by
    obtain rfl : ys = [] := List.eq_nil_of_length_eq_zero hl
    exact h
  | v :: r, [], X, Z, o, w, hl, _, h => by simp at hl
  | v :: r, y :: ys, X, Z, o, w, hl, ho, h => by
    have h1 := heap_setCell_same w b o _ t v h
    have e : (X ++ (y :: ys ++ Z)).toArray.setIfInBounds o v = (X ++ [v] ++ (ys ++ Z)).toArray := by
      subst ho
      simp
    rw [e] at h1
    have := heap_setCells b t r ys (X ++ [v]) Z (o + 1) _ (by simpa using hl) (by simp [ho]) h1
    show ((w.setCell ⟨b, o, none⟩ v).setCells b (o + 1) r).heap[b]? = _
    simpa using this
theorem Keeps.setCells (b : Nat) : ∀ (vs : List Value) (o : Nat) {F : List Nat} {a w : World}, Keeps F a w → b ∈ F → Keeps F a (w.setCells b o vs)
  | [], _, _, _, _, h, _ => h
  | v :: r, o, _, _, _, h, hb => Keeps.setCells b r (o + 1) (h.setCell _ _ (.inl hb)) hb
theorem evsC_set (op : EvL) (c : Nat) (hc : c < op.length) : evsC op = evsC (op.take c) ++ ((evC op[c].1 op[c].2.1 op[c].2.2).toList ++ evsC (op.drop (c + 1))) := by
  conv => lhs; rw [← List.take_append_drop c op, List.drop_eq_getElem_cons hc]
  rw [evsC_app]; rfl
theorem evsC_put (op : EvL) (c : Nat) (hc : c < op.length) (e : Ev × Value × Value) : evsC (op.set c e) = evsC (op.take c) ++ ((evC e.1 e.2.1 e.2.2).toList ++ evsC (op.drop (c + 1))) := by
  rw [List.set_eq_take_append_cons_drop, if_pos hc, evsC_app]; rfl
end Go.Proofs.YtlaccndjlfpjbaaGreatDoor
/-
  Histories of micros: what stands behind an append, what is appended twice; no program.
-/
namespace Go.Proofs.YtlaccndjlfpjbaaGreatDoor
open Go.RowKit
theorem hBehind_snoc (l : List Mic) (m : Mic) : hBehind (l ++ [m]) = (hBehind l || (m.rd && l.any fun y => !y.rd && decide (y.key = m.key))) := by
  induction l with
  | nil => simp [hBehind]
  | cons a r ih =>
    show ((!a.rd && (r ++ [m]).any fun y => y.rd && decide (y.key = a.key)) || hBehind (r ++ [m])) = _
    rw [ih, List.any_append]
    simp only [hBehind, List.any_cons, List.any_nil, Bool.or_false]
    have e : decide (m.key = a.key) = decide (a.key = m.key) := by
      by_cases h : m.key = a.key
      · simp [h]
      · simp [h, Ne.symm h]
    rw [e]
    generalize (r.any fun y => y.rd && decide (y.key = a.key)) = A
    generalize (r.any fun y => !y.rd && decide (y.key = m.key)) = B
    generalize decide (a.key = m.key) = C
    cases a.rd <;> cases m.rd <;> cases A <;> cases B <;> cases C <;> cases hBehind r <;> rfl
theorem hBehind_take {l : List Mic} {k : Nat} (h : hBehind (l.take k) = true) : hBehind l = true := by
  have e : l = l.take k ++ l.drop k := (List.take_append_drop k l).symm
  rw [e]
  generalize l.take k = a at h
  generalize l.drop k = b
  clear e
  induction b generalizing a with
  | nil => simpa using h
  | cons x r ih =>
    have := ih (a ++ [x]) (by rw [hBehind_snoc, h]; rfl)
    simpa using this
theorem take_nextD {α : Type} {l : List α} {k : Nat} (d : α) (h : k < l.length) : l.take (k + 1) = l.take k ++ [l.getD k d] := by
  rw [List.take_succ_eq_append_getElem h]; simp [List.getD, h]
/-- To which keys was something appended? -/
def apdAt (l : List Mic) (j : Nat) : Bool := l.any fun y => !y.rd && decide (y.key = (j : Int))
def apdC (l : List Mic) : Array Value := ((List.range 8).map fun j => Value.bool (apdAt l j)).toArray
theorem apdC_nil : apdC [] = #[.bool false, .bool false, .bool false, .bool false, .bool false, .bool false, .bool false, .bool false] := rfl
theorem apdC_get (l : List Mic) (j : Nat) (h : j < 8) : (apdC l)[j]? = some (.bool (apdAt l j)) := by simp [apdC, h]
theorem apdAt_snoc (l : List Mic) (m : Mic) (j : Nat) : apdAt (l ++ [m]) j = (apdAt l j || (!m.rd && decide (m.key = (j : Int)))) := by simp [apdAt, List.any_append]
/-- One micro more, if it is no read behind an append of its key. -/
theorem apdC_put (l : List Mic) (m : Mic) (j : Nat) (hj : j < 8) (hm : m.key = (j : Int)) (hok : (m.rd && apdAt l j) = false) : (apdC l).setIfInBounds j (.bool (!m.rd)) = apdC (l ++ [m]) := by
  apply Array.ext_getElem?
  intro i
  have hs : (apdC l).size = 8 := by simp [apdC]
  rw [Array.getElem?_setIfInBounds]
  by_cases hi : j = i
  · subst hi
    rw [if_pos rfl, if_pos (by omega), apdC_get _ _ hj, apdAt_snoc]
    cases hr : m.rd
    · simp [hm]
    · rw [hr] at hok
      simp at hok
      simp [hok]
  · rw [if_neg hi]
    by_cases h8 : i < 8
    · rw [apdC_get _ _ h8, apdC_get _ _ h8, apdAt_snoc]
      have : decide (m.key = (i : Int)) = false := by simp; omega
      simp [this]
    · simp [apdC, h8]
theorem mApp_pos_mem (l : List Mic) (m : Mic) (hr : m.rd = false) : 0 < mApp l m ↔ m ∈ l := by
  induction l with
  | nil => simp [mApp]
  | cons a r ih =>
    have e : a :: r = [a] ++ r := rfl
    rw [e, mApp_app, mApp_one]
    by_cases h : a.rd = false ∧ a.key = m.key ∧ a.v = m.v
    · rw [if_pos h]
      have : a = m := by cases a; cases m; simp_all
      simp [this]; omega
    · rw [if_neg h]
      have : ¬ m = a := by rintro rfl; exact h ⟨hr, rfl, rfl⟩
      simp [this, ih]
theorem hTwice_iff : ∀ (t old : List Mic), hTwice old t = true ↔ ∃ j, ∃ h : j < t.length, (t[j]).rd = false ∧ 0 < mApp (old ++ t.take j) t[j]
  | [], old => by simp [hTwice]
  | a :: r, old => by
    have ih := hTwice_iff r (old ++ [a])
    unfold hTwice
    rw [Bool.or_eq_true, ih, Bool.and_eq_true]
    constructor
    · rintro (⟨h1, h2⟩ | ⟨j, h, h1, h2⟩)
      · exact ⟨0, by simp, by simpa using h1, by simpa using h2⟩
      · exact ⟨j + 1, by simpa using h, by simpa using h1, by simpa using h2⟩
    · rintro ⟨j, h, h1, h2⟩
      cases j with
      | zero => exact .inl ⟨by simpa using h1, by simpa using h2⟩
      | succ j => exact .inr ⟨j, by simpa using h, by simpa using h1, by simpa using h2⟩
theorem hTwice_false {t old : List Mic} (h : ∀ j, (hj : j < t.length) → (t[j]).rd = true ∨ mApp (old ++ t.take j) t[j] = 0) : hTwice old t = false := by
  cases hq : hTwice old t with
  | false => rfl
  | true =>
    obtain ⟨j, hj, h1, h2⟩ := (hTwice_iff t old).1 hq
    rcases h j hj with h3 | h3
    · rw [h3] at h1; cases h1
    · omega
/-- Only how often numbers were appended counts. -/
theorem hReads_snoc (l : List Mic) (m : Mic) : hReads (l ++ [m]) = hReads l + if m.rd then 1 else 0 := by
  unfold hReads
  cases h : m.rd <;> simp [h]
theorem hReads_le (l : List Mic) : hReads l ≤ l.length := List.length_filter_le _ _
end Go.Proofs.YtlaccndjlfpjbaaGreatDoor
