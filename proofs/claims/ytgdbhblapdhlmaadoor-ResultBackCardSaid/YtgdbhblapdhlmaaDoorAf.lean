/-
  The Writer's List.
-/
import Derived.Test.YtgdbhblapdhlmaaDoorAe
namespace Go.Proofs.YtgdbhblapdhlmaaDoor
open Go.RowKit
/-- A list's numbers stand where the slice's address says. -/
def Src16 (w : World) (a : Option Addr) (ls : List Int) : Prop := ls = [] ∨ ∃ lb off, a = some ⟨lb, off, none⟩ ∧ ∀ j, j < ls.length → w.cell? ⟨lb, off + j, none⟩ = some (.int .u16 (ls.getD j 0))
def InU16 (ls : List Int) : Prop := ∀ j, 0 ≤ ls.getD j 0 ∧ ls.getD j 0 < 65536
/-- A list's bytes. -/
def beList (ls : List Int) : List Int := (ls.length : Int) :: ls.flatMap be2
theorem length_flat : ∀ ls : List Int, (ls.flatMap be2).length = 2 * ls.length
  | [] => rfl
  | x :: r => by simp [List.flatMap_cons, be2, length_flat r]; omega
theorem length_beList (ls : List Int) : (beList ls).length = 1 + 2 * ls.length := by
  simp only [beList, List.length_cons, length_flat]; omega
theorem flat_snoc (ls : List Int) (k : Nat) (h : k < ls.length) : (ls.take (k + 1)).flatMap be2 = (ls.take k).flatMap be2 ++ be2 (ls.getD k 0) := by
  rw [List.take_succ_eq_append_getElem h, List.flatMap_append]
  simp [List.getD, h]
/-- What the loop has gathered. -/
structure Gath (w wr : World) (v : Value) (ls : List Int) (k : Nat) : Prop where
  row : wr.ownsRow 0 5 1 v (1 + 2 * k) (((ls.length : Int) :: (ls.take k).flatMap be2).map (.int .u8))
  kept : Keeps [] w wr
  sub : FSub (own v) [] w.heap.size
  ne : v ≠ .slice none 0 0

theorem gath_step {w wr w' : World} {v v' : Value} {ls : List Int} {k : Nat} (h : Gath w wr v ls k) (hk : k < ls.length)
    (hown : w'.ownsRow 0 5 1 v' (1 + 2 * k + 2) ((((ls.length : Int) :: (ls.take k).flatMap be2) ++ be2 (ls.getD k 0)).map (.int .u8))) (hkp : Keeps (own v) wr w') (hs : FSub (own v') (own v) wr.heap.size) (hne : v' ≠ .slice none 0 0) : Gath w w' v' ls (k + 1) := by
  refine ⟨?_, h.kept.trans hkp h.sub, hs.trans h.sub h.kept.size (Nat.le_refl _), hne⟩
  have e1 : 1 + 2 * (k + 1) = 1 + 2 * k + 2 := by omega
  have e2 : (ls.length : Int) :: (ls.take (k + 1)).flatMap be2 = ((ls.length : Int) :: (ls.take k).flatMap be2) ++ be2 (ls.getD k 0) := by rw [flat_snoc ls k hk]; rfl
  rw [e1, e2]
  exact hown
theorem gath_end {w wr : World} {v : Value} {ls : List Int} {k : Nat} (h : Gath w wr v ls k) (hk : k = ls.length) :
    ∃ g cap, v = .slice (some ⟨g, 0, none⟩) (beList ls).length cap ∧ (∀ (j : Nat) u, ((beList ls).map (Value.int .u8))[j]? = some u → wr.cell? ((⟨g, 0, none⟩ : Addr).add j) = some u) ∧ w.heap.size ≤ g := by
  subst hk
  obtain ⟨g, cap, hv, hsrc, hg⟩ := row_src h.row h.ne
  have hl : (beList ls).length = 1 + 2 * ls.length := length_beList ls
  refine ⟨g, cap, by rw [hl]; exact hv, by simpa [beList] using hsrc, ?_⟩
  have := h.sub g hg
  simpa using this




end Go.Proofs.YtgdbhblapdhlmaaDoor
