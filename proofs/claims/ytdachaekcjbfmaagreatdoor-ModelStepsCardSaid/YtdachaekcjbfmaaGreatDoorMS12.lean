/-
  A row, cut by three indices, and what is appended to it.
-/
import Derived.ArgAppend
import Derived.Test.YtdachaekcjbfmaaGreatDoorMS09
import Derived.Test.YtdachaekcjbfmaaGreatDoorMS10
import Derived.Test.YtdachaekcjbfmaaGreatDoorMS11
set_option linter.unusedSimpArgs false
set_option linter.unusedVariables false
namespace Go.Proofs.YtdachaekcjbfmaaGreatDoor
open Go.RowKit
theorem U16.grow {N : Nat} {W : World} {a : Option Addr} {l : List Int} {c : Nat} (hI : rkU.In N W (.slice a l.length c) l) (hN : N ≤ W.heap.size) (hl : l.length ≤ 1000) (ha : (a = none ∧ l = []) ∨ ∃ g, a = some ⟨g, 0, none⟩) (x : Int) :
    ∃ v' w', (Builtin.append_ #[33, 33] 33 #[.slice a l.length l.length, .slice (some ⟨W.heap.size, 0, none⟩) 1 1]).run Tryz.prog (W.alloc (.cells #[.int .u16 x] 23)) = .ok v' w' ∧ rkU.Own W.heap.size w' v' (l ++ [x]) ∧ Keeps [] W w' := by
  rcases ha with ⟨rfl, rfl⟩ | ⟨g, rfl⟩
  · obtain ⟨v', w', h1, h2, h3, -⟩ := rkU.append1 W W.heap.size (Nat.le_refl _) (.slice none 0 0) [] (RK.Own.nil _ _ _) x (by decide)
    exact ⟨v', w', h1, h2, h3⟩
  · have hk : Keeps [] W (W.alloc (.cells #[.int .u16 x] 23)) := (Keeps.refl _ _).alloc _
    have hI2 := hI.new hk hN
    have holds : ∀ j u, (rkU.row l)[j]? = some u → (W.alloc (.cells #[.int .u16 x] 23)).cell? ((⟨g, 0, none⟩ : Addr).add j) = some u := by
      intro j u hj
      rw [Addr.add_mid]
      obtain ⟨a2, c2, e, _, _, h⟩ := hI2
      by_cases h0 : l = []
      · subst h0; simp [RK.row] at hj
      · obtain ⟨bk, o, e2, _, hr⟩ := h h0
        simp only [Value.slice.injEq] at e
        obtain ⟨e3, -, -⟩ := e
        rw [← e3] at e2
        simp only [Option.some.injEq, Addr.mk.injEq, and_true] at e2
        obtain ⟨rfl, rfl⟩ := e2
        exact rkU.row_cells l 0 hr j u hj
    have hnews : ∀ j u, (rkU.row [x])[j]? = some u → (W.alloc (.cells #[.int .u16 x] 23)).cell? ((⟨W.heap.size, 0, none⟩ : Addr).add j) = some u := by
      intro j u hj
      rw [Addr.add_mid, Nat.zero_add]
      exact cell_lit (heap_alloc_new W (.cells #[.int .u16 x] 23)) j (by simpa [RK.row, rkU, u16C] using hj)
    obtain ⟨v', w', h1, h2, h3⟩ := run_append_arg_grows (P := Tryz.prog) (W.alloc (.cells #[.int .u16 x] 23)) 33 33 23 rkU.i _ rkU.s rkU.b rkU.und rkU.hi rkU.hz rkU.hs rkU.hb rkU.hzs rkU.s0 ⟨g, 0, none⟩ l.length l.length (rkU.row l) (rkU.row_len l) holds ⟨W.heap.size, 0, none⟩ 1 1 (rkU.row [x]) (rkU.row_len [x]) hnews (by omega)
      (by unfold maxLen; omega) (by show (l.length + 1) * 2 ≤ _; omega)
    refine ⟨v', w', h1, ?_, hk.trans ((Keeps.refl _ _).grown (v := .slice none 0 0) h3 (fun q hq => by simp [own, Value.ownBlock] at hq)) (FSub.refl _ _)⟩
    unfold RK.Own
    rw [rkU.row_app, List.length_append]
    exact row_up h2 (fun q hq => Nat.le_trans hk.size (row_base h2 q hq).1)
end Go.Proofs.YtdachaekcjbfmaaGreatDoor
