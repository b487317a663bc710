/-
  Things in memory; few.
-/
import Derived.Test.YtchenofgmmgdmaaBb
namespace Go.Proofs.Ytchenofgmmgdmaa
open Go.RowKit
/-- A thing, as it lies in memory. -/
structure LT where
  k : Int
  n : Int
  s : ByteArray
  a : Option Addr
  c : Nat
  ls : List Int
instance : Inhabited LT := ⟨⟨0, 0, ByteArray.empty, none, 0, []⟩⟩
structure ThAt (w : World) (lb o : Nat) (t : LT) : Prop where
  ck : w.cell? ⟨lb, o, none⟩ = some (.int .u8 t.k)
  cn : w.cell? ⟨lb, o + 1, none⟩ = some (.int .u32 t.n)
  cs : w.cell? ⟨lb, o + 2, none⟩ = some (.string t.s)
  cl : w.cell? ⟨lb, o + 3, none⟩ = some (.slice t.a t.ls.length t.c)
  src : Src16 w t.a t.ls
  inu : InU16 t.ls
  k0 : 0 ≤ t.k
  k1 : t.k < 256
  n0 : 0 ≤ t.n
  n1 : t.n < 4294967296
  sz : t.s.size ≤ 9223372036854775807
  lz : t.ls.length ≤ 9223372036854775807
/-- The things of a slice, from a place on. -/
def Ths (w : World) (lb off : Nat) (ts : List LT) : Prop := ∀ i, i < ts.length → ThAt w lb (off + i * 4) (ts.getD i default)
/-- What few lets by. -/
def Small (t : LT) : Prop := t.s.size ≤ 300 ∧ t.ls.length ≤ 300
def FewOf (ts : List LT) (b : Bool) : Prop := b = true → ts.length ≤ 50 ∧ ∀ i, i < ts.length → Small (ts.getD i default)

def FewPost (ts : List LT) (w : World) (e : Ending) (w' : World) : Prop := ∃ b, e = .returned (.bool b) ∧ FewOf ts b ∧ w = w'
set_option maxHeartbeats 1000000 in
set_option maxRecDepth 100000 in
theorem few_some (w : World) (lb off c : Nat) (ts : List LT) (h : Ths w lb off ts) (hl : ts.length ≤ 9223372036854775807) :
    Calls Try.prog 7 #[.slice (some ⟨lb, off, none⟩) ts.length c] w (FewPost ts w) := by
  have H := Lib.hid h; clear h
  go_enter Try.func7, Try.ntmps7
  go_wp2_with fail
  go_loop [3, 4] (fun l i => ∃ (k : Nat) (L : Int), k ≤ ts.length ∧ i = .int .i64 k ∧ l = .int .i64 L ∧ L ≤ 3000 ∧ 0 ≤ L ∧ k ≤ 60 ∧ ∀ j, j < k → Small (ts.getD j default)) (fun _ i => ts.length - (intOf i).toNat)
  case atStart => exact ⟨0, 3000, Nat.zero_le _, rfl, rfl, by omega, by omega, by omega, fun j hj => absurd hj (Nat.not_lt_zero _)⟩
  case round =>
    obtain ⟨k, L, hk, rfl, rfl, hL, hL0, hk60, hsm⟩ := hrel
    have HS := Lib.hid hsm; clear hsm
    by_cases hlt : k < ts.length
    · by_cases h60 : k < 60
      · have ht := H.out k hlt
        obtain ⟨ck, cn, cs, cl, _, _, _, _, _, _, hsz, hlz⟩ := ht
        generalize hx : ts.getD k default = t at *
        have HX := Lib.hid hx; clear hx
        go_wp2_with fail
        · go_ret
          exact ⟨false, rfl, (fun h => by cases h), rfl⟩
        · have g1 : (t.s.size : Int) ≤ 300 := by assumption
          have g2 : (t.ls.length : Int) ≤ 300 := by assumption
          go_round
          case rel =>
            refine ⟨k + 1, L - t.ls.length, by omega, by go_num, rfl, by omega, ?_, by omega, fun j hj => ?_⟩
            · have g3 : ((t.s.size : Int) ≤ 300 ∧ (t.ls.length : Int) ≤ 300) ∧ (t.ls.length : Int) ≤ L := by assumption
              omega
            · by_cases hjk : j < k
              · exact HS.out j hjk
              · obtain rfl : j = k := by omega
                rw [HX.out]
                exact ⟨by omega, by omega⟩
          case measure => simp [intOf]; omega
        · go_ret
          exact ⟨false, rfl, (fun h => by cases h), rfl⟩
        · go_ret
          exact ⟨false, rfl, (fun h => by cases h), rfl⟩
      · have h60' : ¬ (k : Int) < 60 := by omega
        have h50 : ¬ (ts.length : Int) ≤ 50 := by omega
        go_wp2_with fail
        go_ret
        exact ⟨false, by simp, (fun h => by cases h), rfl⟩
    · obtain rfl : k = ts.length := by omega
      go_wp2_with fail
      go_ret
      refine ⟨decide ((ts.length : Int) ≤ 50), rfl, fun h => ⟨?_, HS.out⟩, rfl⟩
      have := of_decide_eq_true h
      omega
set_option maxHeartbeats 1000000 in
theorem few_empty (w : World) (a : Option Addr) (c : Nat) : Calls Try.prog 7 #[.slice a 0 c] w (FewPost [] w) := by
  go_enter Try.func7, Try.ntmps7
  go_wp2_with fail
  refine wp_loop_rounds 1 ?_
  rw [rounds_succ]
  go_wp2_with fail
  go_ret
  exact ⟨true, rfl, fun _ => ⟨by simp, fun i hi => by simp at hi⟩, rfl⟩
end Go.Proofs.Ytchenofgmmgdmaa
