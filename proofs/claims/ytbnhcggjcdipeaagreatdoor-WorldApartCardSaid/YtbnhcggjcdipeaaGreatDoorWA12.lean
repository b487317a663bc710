/-
  The arguments of stage 10's laws as data: lists of numbers, operations; what the rows' condition on op's table gives.
-/
import Derived.ArgAppend
import Derived.Deep.Slices
import Derived.Deep.Fields
import Derived.Test.YtbnhcggjcdipeaaGreatDoorWA05
import Derived.Test.YtbnhcggjcdipeaaGreatDoorWA09
import Derived.Test.YtbnhcggjcdipeaaGreatDoorWA10
import Derived.Test.YtbnhcggjcdipeaaGreatDoorWA11
import Derived.Test.YtbnhcggjcdipeaaGreatDoorWA04
set_option linter.unusedSimpArgs false
set_option linter.unusedVariables false
namespace Go.Proofs.YtbnhcggjcdipeaaGreatDoor
open Go.ChangeShapes Go.WideShapes Go.ChangeAt Go.RowKit
open Go.Joins Go.Deep
theorem laidOut0 : laidOutB Tryz.prog = true := by kernel_rfl
theorem spot_none {w : World} {a : Addr} {v : Value} (h : w.cell? a = some v) : a.spot = none := by
  unfold World.cell? at h
  split at h
  · split at h
    · cases h
    · rename_i hs
      simpa using hs
  · cases h
theorem add_none (a : Addr) : a.add 0 = a := by simp [Addr.add]
theorem add_at (b o j : Nat) : ((⟨b, o, none⟩ : Addr).add j) = ⟨b, o + j, none⟩ := by unfold Addr.add; split <;> simp_all
section
variable {H : Type} {enc : TypeId × Value → H} {w : World} {sp : Nat → Bool} {held : Bool}
set_option maxRecDepth 100000 in
theorem open_opc {fuel : Nat} {cs : List Value} {y : DataW H × List MemPlace} (h : DataW.trod enc Tryz.prog w 0 sp held fuel 47 cs = some y) :
    ∃ x : Opn, cs = [.int .u8 x.f, .int .u8 x.o, .int .u8 x.k, .int .u16 x.a, .int .u16 x.b] ∧ x.In := by
  obtain ⟨xs, k, rfl, _, hl, hxl, hat⟩ := DataW.trod_struct Tryz.underlying47 h
  have hc1 : Tryz.prog.cellsOf 5 = 1 := by kernel_rfl
  have hc2 : Tryz.prog.cellsOf 23 = 1 := by kernel_rfl
  rw [cells_op] at hl
  match cs, hl with
  | [c0, c1, c2, c3, c4], _ =>
    match xs, hxl with
    | [x0, x1, x2, x3, x4], _ =>
      have h0 : DataW.trod enc Tryz.prog w 0 sp held k 5 [c0] = some x0 := by simpa [hc1, hc2] using hat 0 _ rfl
      have h1 : DataW.trod enc Tryz.prog w 0 sp held k 5 [c1] = some x1 := by simpa [hc1, hc2] using hat 1 _ rfl
      have h2 : DataW.trod enc Tryz.prog w 0 sp held k 5 [c2] = some x2 := by simpa [hc1, hc2] using hat 2 _ rfl
      have h3 : DataW.trod enc Tryz.prog w 0 sp held k 23 [c3] = some x3 := by simpa [hc1, hc2] using hat 3 _ rfl
      have h4 : DataW.trod enc Tryz.prog w 0 sp held k 23 [c4] = some x4 := by simpa [hc1, hc2] using hat 4 _ rfl
      obtain ⟨n0, e0, _, w0⟩ := DataW.trod_int Tryz.underlying5 h0
      obtain ⟨n1, e1, _, w1⟩ := DataW.trod_int Tryz.underlying5 h1
      obtain ⟨n2, e2, _, w2⟩ := DataW.trod_int Tryz.underlying5 h2
      obtain ⟨n3, e3, _, w3⟩ := DataW.trod_int Tryz.underlying23 h3
      obtain ⟨n4, e4, _, w4⟩ := DataW.trod_int Tryz.underlying23 h4
      simp only [List.cons.injEq, and_true] at e0 e1 e2 e3 e4
      subst e0 e1 e2 e3 e4
      have b0 := u8_of4 w0; have b1 := u8_of4 w1; have b2 := u8_of4 w2; have b3 := u16_of4 w3; have b4 := u16_of4 w4
      exact ⟨⟨n0, n1, n2, n3, n4⟩, rfl, ⟨b0.1, b0.2, b1.1, b1.2, b2.1, b2.2, b3.1, b3.2, b4.1, b4.2⟩⟩
end
end Go.Proofs.YtbnhcggjcdipeaaGreatDoor
