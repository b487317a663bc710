/-
  The arguments of stage 10's laws as data: lists of numbers, operations; what the rows' condition on op's table gives.
-/
import Derived.ArgAppend
import Derived.Deep.Slices
import Derived.Deep.Fields
import Derived.Test.YtaicampenpkneaaDoorQT05
import Derived.Test.YtaicampenpkneaaDoorQT11
import Derived.Test.YtaicampenpkneaaDoorQT12
import Derived.Test.YtaicampenpkneaaDoorQT04
set_option linter.unusedSimpArgs false
set_option linter.unusedVariables false
namespace Go.Proofs.YtaicampenpkneaaDoor
open Go.ChangeShapes Go.WideShapes Go.ChangeAt Go.RowKit
open Go.Joins Go.Deep
theorem laidOut0 : laidOutB Tryd.prog = true := by kernel_rfl
theorem spot_none {w : World} {a : Addr} {v : Value} (h : w.cell? a = some v) : a.spot = none := by
  unfold World.cell? at h
  split at h
  · split at h
    · cases h
    · rename_i hs
      simpa using hs
  · cases h
theorem add_none (a : Addr) : a.add 0 = a := by simp [Addr.add]
theorem add_at (b o j : Nat) : ((⟨b, o, none⟩ : Addr).add j) = ⟨b, o + j, none⟩ := by unfold Addr.add; split <;> simp_all
section
variable {H : Type} {enc : TypeId × Value → H} {w : World} {sp : Nat → Bool} {held : Bool}
theorem open_u16s {fuel : Nat} {v : Value} {y : DataW H × List MemPlace} (h : DataW.trod enc Tryd.prog w 0 sp held fuel 22 [v] = some y) :
    ∃ l : List Int, rkU.In w.heap.size w v l ∧ U16s l := by
  rcases open_ints Tryd.underlying22 Tryd.underlying23 (by kernel_rfl) h with ⟨hcs, _⟩ | ⟨x, l, c, zs, hcs, _, hl, hm, hz, _, hcell, hwz⟩
  · simp at hcs
    subst hcs
    exact ⟨[], ⟨none, 0, rfl, Nat.le_refl _, by decide, fun h => absurd rfl h⟩, fun v hv => by cases hv⟩
  · simp at hcs
    subst hcs
    have hlz : l ≤ zs.length := by rw [hz]; split <;> omega
    unfold maxLen at hm
    refine ⟨zs.take l, ⟨some x, c, by simp [Nat.min_eq_left hlz], by simp; omega, by omega, fun hn => ?_⟩, ?_⟩
    · have h0 : 0 < l := by
        rcases Nat.eq_zero_or_pos l with h | h
        · exact absurd (by simp [h]) hn
        · exact h
      have hc0 := hcell 0 (by omega)
      have hs := spot_none hc0
      have hb := World.block_lt_of_cell? _ _ hc0
      rw [add_none] at hs hb
      obtain ⟨b, o, s⟩ := x
      simp only at hs
      subst hs
      refine ⟨b, o, rfl, hb, fun j hj i u hi => ?_⟩
      have hj' : j < l := by simp at hj; omega
      have h1 := hcell j (by omega)
      rw [add_at] at h1
      have h2 : i = 0 ∧ u = .int .u16 (zs.take l)[j] := by
        cases i with
        | zero => exact ⟨rfl, by simpa [rkU, u16C] using hi.symm⟩
        | succ i => simp [rkU, u16C] at hi
      obtain ⟨rfl, rfl⟩ := h2
      rw [show o + j * rkU.s + 0 = o + j from by show o + j * 1 + 0 = o + j; omega, h1]
      have hj3 : j < zs.length := by omega
      simp [List.getElem_take, List.getElem?_eq_getElem hj3]
    · intro v hv
      have := hwz v (List.mem_of_mem_take hv)
      have h2 : 0 ≤ v ∧ v ≤ 65535 := by simpa [Lit.wf, IntKind.min, IntKind.max, IntKind.signed, IntKind.bits] using this
      omega
end
/-- What the rows of this seat list. -/
def laidAll : List (String × DataW Unit) := [("umpire/op.kinds", Rows.laid_umpire_op_kinds)]
theorem laidAll_met (os : Os) (args : Array Value) : laidMetH Tryd.prog laidAll ((World.laidAll Tryd.prog os laidAll).forCall (fun _ _ => 0) ⟨#[], args, []⟩).memory := by
  rw [MakeChecks.laidMetH_plain _ _ _ (by kernel_rfl)]
  exact laidMet_laidAll _ (by kernel_rfl) (by kernel_rfl)
set_option maxRecDepth 100000 in
theorem glob_of {W : World} (h : laidMetH Tryd.prog laidAll W) : Glob4 W := by
  rw [MakeChecks.laidMetH_plain _ _ _ (by kernel_rfl)] at h
  refine ⟨?_⟩
  obtain ⟨ps, ⟨g', t', cs, fuel, p, q, hg', ht', hvar, hd, _, _⟩, _⟩ := h
  obtain rfl := Option.some.inj (glob_kinds.symm.trans hg')
  obtain rfl := Option.some.inj ((show (Tryd.prog.globals[0]?).map (·.type) = some 80 by kernel_rfl).symm.trans ht')
  have e2 : cs = kindCells := by
    apply Array.ext'
    exact cells_of_kinds hd
  rw [e2] at hvar
  exact block_of_var glob_kinds hvar
end Go.Proofs.YtaicampenpkneaaDoor
/-
  Stage 10's laws, by their arguments in the cards' order.
-/
namespace Go.Proofs.YtaicampenpkneaaDoor
open Go.RowKit
variable {G : World → Prop}
theorem bs_data (s : ByteArray) : bs s.data.toList = s := by cases s; simp [bs]
theorem QueueTexts_args (R : QuProg G) (w : World) (hG : G w) {v1 v2 : Value} {l m : List Int} (hl : rkU.In w.heap.size w v1 l) (hul : U16s l) (hm : rkU.In w.heap.size w v2 m) (hum : U16s m) (s : ByteArray) (_ : s.size ≤ maxLen) :
    Calls Tryd.prog 5 #[v1, v2, .string s] w fun e w' => e = .returned (.bool true) ∧ Keeps [] w w' := by
  have h := QueueTexts_any R w hG hl hul hm hum s.data.toList
  rwa [bs_data] at h
end Go.Proofs.YtaicampenpkneaaDoor
