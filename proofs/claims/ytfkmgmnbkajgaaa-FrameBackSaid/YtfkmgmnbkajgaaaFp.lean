/-
  Texts in memory; few; what two cutters have in common.
-/
import Derived.Test.YtfkmgmnbkajgaaaFo
namespace Go.Proofs.Ytfkmgmnbkajgaaa
open Go.RowKit
/-- The texts of a slice, from a place on. -/
def Strs (w : World) (lb off : Nat) (ts : List ByteArray) : Prop := ∀ i, i < ts.length → w.cell? ⟨lb, off + i, none⟩ = some (.string (ts.getD i default)) ∧ (ts.getD i default).size ≤ 9223372036854775807
def FewPost (ts : List ByteArray) (w : World) (e : Ending) (w' : World) : Prop := ∃ b, e = .returned (.bool b) ∧ (b = true ↔ ts.length ≤ 40 ∧ ∀ i, i < ts.length → (ts.getD i default).size ≤ 2000) ∧ w = w'
set_option maxHeartbeats 1000000 in
set_option maxRecDepth 100000 in
theorem few_some (w : World) (lb off c : Nat) (ts : List ByteArray) (h : Strs w lb off ts) (hl : ts.length ≤ 9223372036854775807) :
    Calls Try.prog 14 #[.slice (some ⟨lb, off, none⟩) ts.length c] w (FewPost ts w) := by
  have H := Lib.hid h; clear h
  go_enter Try.func14, Try.ntmps14
  go_wp2_with fail
  go_loop [3] (fun i => ∃ (k : Nat), k ≤ ts.length ∧ i = .int .i64 k ∧ k ≤ 50 ∧ ∀ j, j < k → (ts.getD j default).size ≤ 2000) (fun i => ts.length - (intOf i).toNat)
  case atStart => exact ⟨0, Nat.zero_le _, rfl, by omega, fun j hj => absurd hj (Nat.not_lt_zero _)⟩
  case round =>
    obtain ⟨k, hk, rfl, hk50, hsm⟩ := hrel
    have HS := Lib.hid hsm; clear hsm
    by_cases hlt : k < ts.length
    · by_cases h50 : k < 50
      · obtain ⟨ck, hsz⟩ := H.out k hlt
        generalize hx : ts.getD k default = t at *
        have HX := Lib.hid hx; clear hx
        by_cases hbig : 2000 < t.size
        · go_wp2_with fail
          go_ret
          exact ⟨false, rfl, ⟨(fun h => by cases h), fun h => by have h1 := h.2 k hlt; rw [HX.out] at h1; omega⟩, rfl⟩
        · go_wp2_with fail
          go_round
          case rel =>
            refine ⟨k + 1, by omega, by go_num, by omega, fun j hj => ?_⟩
            by_cases hjk : j < k
            · exact HS.out j hjk
            · obtain rfl : j = k := by omega
              rw [HX.out]
              omega
          case measure => simp [intOf]; omega
      · have h50' : ¬ (k : Int) < 50 := by omega
        have h40 : ¬ (ts.length : Int) ≤ 40 := by omega
        go_wp2_with fail
        go_ret
        exact ⟨false, by simp, ⟨(fun h => by cases h), fun h => by have h1 := h.1; omega⟩, rfl⟩
    · obtain rfl : k = ts.length := by omega
      go_wp2_with fail
      go_ret
      refine ⟨decide ((ts.length : Int) ≤ 40), rfl, ⟨fun h => ⟨?_, HS.out⟩, fun h => decide_eq_true (by have h1 := h.1; omega)⟩, rfl⟩
      have := of_decide_eq_true h
      omega
set_option maxHeartbeats 1000000 in
theorem few_empty (w : World) (a : Option Addr) (c : Nat) : Calls Try.prog 14 #[.slice a 0 c] w (FewPost [] w) := by
  go_enter Try.func14, Try.ntmps14
  go_wp2_with fail
  refine wp_loop_rounds 1 ?_
  rw [rounds_succ]
  go_wp2_with fail
  go_ret
  exact ⟨true, rfl, ⟨fun _ => ⟨by simp, fun i hi => by simp at hi⟩, fun _ => rfl⟩, rfl⟩
/-- Both cutters, fed the same. -/
structure CInv (w wr : World) (b q : Nat) (F : List Nat) (T : ByteArray) (n : Nat) : Prop where
  ours : CAt wr b F T.data.toList (posOf T.data.toList n)
  theirs : RC wr q T n
  cuts : Cuts T.data.toList n
  keeps : Keeps [] w wr
  fresh : FSub F [] w.heap.size
  qnew : w.heap.size ≤ q
  qout : q ∉ F
  qlt : q < wr.heap.size
theorem CInv.drewN {w wr : World} {b q n : Nat} {F : List Nat} {T : ByteArray} (h : CInv w wr b q F T n) (m : Nat) : CInv w (wr.drewN m) b q F T n :=
  ⟨h.ours.keeps ((Keeps.refl [] _).drewN m) (by simp), h.theirs.keeps ((Keeps.refl [] _).drewN m) (by simp), h.cuts, h.keeps.drewN m, h.fresh, h.qnew, h.qout, h.qlt⟩
theorem CInv.drew {w wr : World} {b q n : Nat} {F : List Nat} {T : ByteArray} (h : CInv w wr b q F T n) : CInv w wr.drew b q F T n :=
  ⟨h.ours.keeps (Keeps.refl [] _).drew (by simp), h.theirs.keeps (Keeps.refl [] _).drew (by simp), h.cuts, h.keeps.drew, h.fresh, h.qnew, h.qout, h.qlt⟩
/-- Behind a text that was fed to both. -/
theorem CInv.fed {w wr w1 : World} {b q n : Nat} {F F' : List Nat} {T s : ByteArray} (h : CInv w wr b q F T n) (h1 : CAt w1 b F' (T.data.toList ++ s.data.toList) (posOf T.data.toList n)) (hk : Keeps F wr w1) (hs : FSub F' F wr.heap.size) :
    CInv w (w1.setCell ⟨q, 0, none⟩ (.string (T ++ s))) b q F' (T ++ s) n := by
  obtain ⟨hk1, hf1⟩ := h.keeps.fresh h.fresh hk hs
  have hq' : q ∉ F' := fun hg => by
    rcases hs q hg with h2 | h2
    · exact h.qout h2
    · have := h.qlt; omega
  have e : (T ++ s).data.toList = T.data.toList ++ s.data.toList := app_list T s
  have hks : Keeps [q] w1 (w1.setCell ⟨q, 0, none⟩ (.string (T ++ s))) := (Keeps.refl _ _).setCell _ _ (by simp)
  have hbig := hk.size
  have hlt := h.qlt
  refine ⟨?_, (h.theirs.keeps hk h.qout).set0, by rw [e]; exact h.cuts.more _, hk1.trans hks (fun g hg => .inr (by simp at hg; have := h.qnew; omega)), hf1, h.qnew, hq', by simp; omega⟩
  rw [e, h.cuts.app _ n (Nat.le_refl _)]
  exact h1.keeps hks (fun g hg => by simp; intro e; subst e; exact hq' hg)
/-- Behind a call of Next of both. -/
theorem CInv.told {w wr w1 w2 : World} {b q n : Nat} {F F' : List Nat} {T : ByteArray} (h : CInv w wr b q F T n) (h1 : CAt w1 b F' T.data.toList (posOf T.data.toList n + sizeOf1 (T.data.toList.drop (posOf T.data.toList n)))) (hk : Keeps F wr w1) (hs : FSub F' F wr.heap.size)
    (h2 : RC w2 q T (if tellOf (T.data.toList.drop (posOf T.data.toList n)) = 1 then n + 1 else n)) (hk2 : Keeps [q] w1 w2) :
    CInv w w2 b q F' T (if tellOf (T.data.toList.drop (posOf T.data.toList n)) = 1 then n + 1 else n) := by
  obtain ⟨hk1, hf1⟩ := h.keeps.fresh h.fresh hk hs
  have hq' : q ∉ F' := fun hg => by
    rcases hs q hg with h2 | h2
    · exact h.qout h2
    · have := h.qlt; omega
  have hbig := hk.size
  have hbig2 := hk2.size
  have hlt := h.qlt
  have hours := h1.keeps hk2 (fun g hg => by simp; intro e; subst e; exact hq' hg)
  refine ⟨?_, h2, ?_, hk1.trans hk2 (fun g hg => .inr (by simp at hg; have := h.qnew; omega)), hf1, h.qnew, hq', by omega⟩
  · split
    · exact hours
    · rename_i ht
      rw [(size_none ht).1] at hours
      exact hours
  · split
    · rename_i ht; exact h.cuts.succ ht
    · exact h.cuts
end Go.Proofs.Ytfkmgmnbkajgaaa
