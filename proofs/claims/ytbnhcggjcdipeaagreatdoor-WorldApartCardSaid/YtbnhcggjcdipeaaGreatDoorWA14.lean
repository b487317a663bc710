/-
  The program's queue: a state's slice, what is free behind it; what is appended; what is cut off.
-/
import Derived.BigQuiet
import Derived.Deep.AppendSrc
import Derived.Test.YtbnhcggjcdipeaaGreatDoorWA09
set_option linter.unusedSimpArgs false
set_option linter.unusedVariables false
namespace Go.Proofs.YtbnhcggjcdipeaaGreatDoor
open Go.RowKit
/-- A state's slice. -/
def QIn (w : World) (v : Value) (l : List Int) : Prop := rkU.In w.heap.size w v l ∧ (l = [] → v = .slice none 0 0)
/-- Behind it nothing stands that another one has: its room is used up, or it lies at base or above. -/
structure QF (base : Nat) (w : World) (v : Value) (l : List Int) : Prop where
  in_ : QIn w v l
  free : ∃ a c, v = .slice a l.length c ∧ (l.length = c ∨ ∃ bk o, a = some ⟨bk, o, none⟩ ∧ base ≤ bk ∧ ∀ j, j < c → (w.cell? ⟨bk, o + j, none⟩).isSome = true ∧ w.frozen? ⟨bk, o + j, none⟩ = false)
def frees (base : Nat) (v : Value) : List Nat := (own v).filter fun q => decide (base ≤ q)
theorem mem_frees {base : Nat} {v : Value} {q : Nat} : q ∈ frees base v ↔ q ∈ own v ∧ base ≤ q := by simp [frees]
theorem QIn.keeps {w w' : World} {v : Value} {l : List Int} {F : List Nat} (h : QIn w v l) (hk : Keeps F w w') (hF : ∀ q ∈ own v, q ∉ F) : QIn w' v l := ⟨(h.1.keeps hk (fun _ => hF)).more hk.size, h.2⟩
theorem QIn.old {w : World} {v : Value} {l : List Int} (h : QIn w v l) : ∀ q ∈ own v, q < w.heap.size := by
  by_cases hl : l = []
  · rw [h.2 hl]
    intro q hq
    simp [own, Value.ownBlock] at hq
  · exact h.1.old hl
theorem QIn.shape {w : World} {v : Value} {l : List Int} (h : QIn w v l) : ∃ a c, v = .slice a l.length c ∧ l.length ≤ c ∧ c ≤ 9223372036854775807 := by
  obtain ⟨a, c, e, hc, hm, -⟩ := h.1
  exact ⟨a, c, e, hc, hm⟩
theorem cell_block {w : World} {p : Addr} (h : (w.cell? p).isSome = true) : p.block < w.heap.size := by
  by_cases hb : p.block < w.heap.size
  · exact hb
  · exfalso
    have : w.heap[p.block]? = none := Array.getElem?_eq_none (by omega)
    simp [World.cell?, this] at h
theorem QF.keeps {base : Nat} {w w' : World} {v : Value} {l : List Int} {F : List Nat} (h : QF base w v l) (hk : Keeps F w w') (hF : ∀ q ∈ own v, q ∉ F) : QF base w' v l := by
  refine ⟨h.in_.keeps hk hF, ?_⟩
  obtain ⟨a, c, rfl, hf⟩ := h.free
  refine ⟨a, c, rfl, hf.imp id ?_⟩
  rintro ⟨bk, o, rfl, hb, hc⟩
  refine ⟨bk, o, rfl, hb, fun j hj => ?_⟩
  have hn : bk ∉ F := hF bk (by simp [own, Value.ownBlock])
  have hlt : bk < w.heap.size := cell_block (p := ⟨bk, o + j, none⟩) (hc j hj).1
  have e := hk.block bk hlt hn
  exact ⟨by rw [World.cell?_of_block (a := ⟨bk, o + j, none⟩) e]; exact (hc j hj).1, (World.frozen?_of_block (a := ⟨bk, o + j, none⟩) e).trans (hc j hj).2⟩
theorem QF.nil (base : Nat) (w : World) : QF base w (.slice none 0 0) [] := ⟨⟨(RK.Own.nil rkU 0 w).in_, fun _ => rfl⟩, none, 0, rfl, .inl rfl⟩
theorem QF.of_own {base : Nat} {w : World} {v : Value} {l : List Int} (h : rkU.Own base w v l) (hn : l ≠ []) : QF base w v l := by
  refine ⟨⟨h.in_, fun e => absurd e hn⟩, ?_⟩
  rcases h.2 with ⟨rfl, h0⟩ | ⟨g, cap, cur, rfl, hb, hh, hc, hm, hcs, htk⟩
  · exact absurd (List.eq_nil_of_length_eq_zero h0) hn
  · refine ⟨_, cap, rfl, .inr ⟨g, 0, rfl, hb, fun j hj => ?_⟩⟩
    have hlt : j < cur.size := by rw [hcs]; show j < cap * 1; omega
    constructor
    · simp [World.cell?, hh, hlt]
    · simp [World.frozen?, hh]
/-- One number more. -/
theorem QF.push {base : Nat} {w : World} {v : Value} {l : List Int} (hb : base ≤ w.heap.size) (h : QF base w v l) (x : Int) (g : Nat) (hg : w.cell? ⟨g, 0, none⟩ = some (.int .u16 x)) (hl : l.length ≤ 90000000) :
    ∃ v' w', (Builtin.append_ #[78, 78] 78 #[v, .slice (some ⟨g, 0, none⟩) 1 1]).run Tryz.prog w = .ok v' w' ∧ QF base w' v' (l ++ [x]) ∧ Keeps (frees base v) w w' ∧ FSub (own v') (own v) w.heap.size := by
  have hne : l ++ [x] ≠ [] := by simp
  have hnew : ∀ j u, (rkU.row [x])[j]? = some u → w.cell? ((⟨g, 0, none⟩ : Addr).add j) = some u := by
    intro j u hj
    have hj2 : ([.int .u16 x] : List Value)[j]? = some u := hj
    rw [Addr.add_mid, Nat.zero_add]
    match j, hj2 with
    | 0, hj2 =>
      simp at hj2; subst hj2; exact hg
    | j + 1, hj2 => simp at hj2
  obtain ⟨a, c, rfl, hf⟩ := h.free
  by_cases h0 : l = []
  · subst h0
    have e := h.in_.2 rfl
    simp only [Value.slice.injEq, List.length_nil, true_and] at e
    obtain ⟨rfl, rfl⟩ := e
    obtain ⟨v', w', hr, ho, hk, hs⟩ := rkU.append w w.heap.size (Nat.le_refl _) (.slice none 0 0) [] (RK.Own.nil _ _ _) [x] (by simp) ⟨g, 0, none⟩ 1 hnew
    have hq : QF w.heap.size w' v' ([] ++ [x]) := QF.of_own ho hne
    refine ⟨v', w', hr, ⟨hq.in_, ?_⟩, hk.more (fun q hq => by simp [own, Value.ownBlock] at hq), hs⟩
    obtain ⟨a2, c2, e2, hf2⟩ := hq.free
    exact ⟨a2, c2, e2, hf2.imp id fun ⟨bk, o, e3, hb3, hc3⟩ => ⟨bk, o, e3, Nat.le_trans hb hb3, hc3⟩⟩
  · obtain ⟨a', c', e, hc, hm, hI⟩ := h.in_.1
    simp only [Value.slice.injEq, true_and] at e
    obtain ⟨rfl, rfl⟩ := e
    obtain ⟨bk, o, rfl, hbk, hI⟩ := hI h0
    have hcell : ∀ j (hj : j < l.length), w.cell? ⟨bk, o + j, none⟩ = some (.int .u16 l[j]) := fun j hj => by
      have h2 := hI j hj 0 (.int .u16 l[j]) rfl
      rw [show o + j * rkU.s + 0 = o + j from by show o + j * 1 + 0 = _; omega] at h2
      exact h2
    by_cases hroom : l.length + 1 ≤ c
    · obtain ⟨bk2, o2, e, hb2, hfr⟩ := hf.resolve_left (by omega)
      simp only [Option.some.injEq, Addr.mk.injEq, and_true] at e
      obtain ⟨rfl, rfl⟩ := e
      have es : rkU.i.size = 1 := rkU.hs
      have hs : Src Tryz.prog rkU.i.size 78 (.slice (some ⟨g, 0, none⟩) 1 1) 1 [.int .u16 x] w :=
        Src.ofSlice w rkU.und ⟨g, 0, none⟩ 1 1 [.int .u16 x] (by rw [es]; rfl) hnew (by intro u hu; simp at hu; subst hu; rfl)
      have hr := run_append_room_src (P := Tryz.prog) w 78 78 78 23 rkU.i rkU.und rkU.hi bk o l.length c _ 1 _ hs hroom
        (fun j hj => by
          rw [es, show o + l.length * 1 + j = o + (l.length + j) by omega]
          exact (hfr _ (by simp at hj; omega)).1)
        (fun j hj => by
          rw [es, show o + l.length * 1 + j = o + (l.length + j) by omega]
          exact (hfr _ (by simp at hj; omega)).2)
      rw [es, Nat.mul_one] at hr
      have ew : w.setCells bk (o + l.length) [.int .u16 x] = w.setCell ⟨bk, o + l.length, none⟩ (.int .u16 x) := rfl
      rw [ew] at hr
      have hk : Keeps (frees base (.slice (some ⟨bk, o, none⟩) l.length c)) w (w.setCell ⟨bk, o + l.length, none⟩ (.int .u16 x)) :=
        (Keeps.refl _ _).setCell _ _ (.inl (mem_frees.2 ⟨by simp [own, Value.ownBlock], hb2⟩))
      have hsame : (w.setCell ⟨bk, o + l.length, none⟩ (.int .u16 x)).cell? ⟨bk, o + l.length, none⟩ = some (.int .u16 x) := World.cell?_setCell_same' _ _ _ (hfr _ (by omega)).1
      have hoth : ∀ j, j ≠ l.length → (w.setCell ⟨bk, o + l.length, none⟩ (.int .u16 x)).cell? ⟨bk, o + j, none⟩ = w.cell? ⟨bk, o + j, none⟩ := fun j hj => World.cell?_setCell_other _ _ _ _ (by simp only [ne_eq, Addr.mk.injEq, and_true, true_and]; omega)
      have hlen : (l ++ [x]).length = l.length + 1 := by simp
      refine ⟨_, _, hr, ⟨⟨⟨_, c, by rw [hlen], by omega, by omega, fun _ => ⟨bk, o, rfl, Nat.lt_of_lt_of_le hbk hk.size, fun j hj => ?_⟩⟩, fun e => absurd e hne⟩, _, c, by rw [hlen], .inr ⟨bk, o, rfl, hb2, fun j hj => ?_⟩⟩, hk, FSub.refl _ _⟩
      · intro i u hi
        have hi2 : ([.int .u16 (l ++ [x])[j]] : List Value)[i]? = some u := hi
        match i, hi2 with
        | 0, hi2 =>
          simp at hi2; subst hi2
          rw [show o + j * rkU.s + 0 = o + j from by show o + j * 1 + 0 = _; omega]
          by_cases hj2 : j = l.length
          · subst hj2
            rw [hsame]; simp
          · rw [hoth j hj2, hcell j (by omega), List.getElem_append_left]
        | i + 1, hi2 => simp at hi2
      · constructor
        · by_cases hj2 : j = l.length
          · rw [hj2, hsame]; rfl
          · rw [hoth j hj2]; exact (hfr j hj).1
        · rw [World.frozen?_setCell]; exact (hfr j hj).2
    · have hrow : ∀ j u, (rkU.row l)[j]? = some u → w.cell? ((⟨bk, o, none⟩ : Addr).add j) = some u := by
        intro j u hj
        rw [Addr.add_mid]
        exact rkU.row_cells l o hI j u hj
      obtain ⟨v', w', hr, ho, hgr⟩ := run_append_arg_grows (P := Tryz.prog) w 78 78 23 rkU.i _ rkU.s rkU.b rkU.und rkU.hi rkU.hz rkU.hs rkU.hb rkU.hzs rkU.s0 ⟨bk, o, none⟩ l.length c (rkU.row l) (rkU.row_len l) hrow ⟨g, 0, none⟩ 1 1 (rkU.row [x]) rfl hnew (by omega) (by unfold maxLen; omega) (by
        show (l.length + 1) * 2 ≤ _
        omega)
      have hq : QF w.heap.size w' v' (l ++ [x]) := QF.of_own (by
        unfold RK.Own
        rw [rkU.row_app, List.length_append]
        exact ho) hne
      obtain ⟨a2, c2, e2, hf2⟩ := hq.free
      refine ⟨v', w', hr, ⟨hq.in_, a2, c2, e2, hf2.imp id fun ⟨bk, o, e3, hb3, hc3⟩ => ⟨bk, o, e3, Nat.le_trans hb hb3, hc3⟩⟩, ?_, fun q hq => .inr (row_base ho q hq).1⟩
      exact (Keeps.refl _ w).grown (v := .slice none 0 0) hgr (fun q hq => by simp [own, Value.ownBlock] at hq)
end Go.Proofs.YtbnhcggjcdipeaaGreatDoor
