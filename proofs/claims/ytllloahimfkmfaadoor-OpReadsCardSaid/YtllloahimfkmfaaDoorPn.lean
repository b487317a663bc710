/-
  The document's Parse: what its loops keep.
-/
import Derived.Test.YtllloahimfkmfaaDoorPk
import Derived.Test.YtllloahimfkmfaaDoorOu
import Derived.Test.YtllloahimfkmfaaDoorOd
import Derived.Deep.QuietTactic
import Derived.BigQuiet
namespace Go.Proofs.YtllloahimfkmfaaDoor
open Go.RowKit
/-- No operation below f has the second word as its name. -/
def NoneBelow (l : List (List UInt8)) (f : Nat) : Prop := ∀ g : Nat, 1 ≤ g → g < f → ¬ (2 ≤ l.length ∧ l.getD 1 [] = opNm g)
theorem NoneBelow.all {l : List (List UInt8)} (h : NoneBelow l 12) : opsX l = opZero ∧ opsE l = 4 := by
  apply said_none
  intro f hs
  have hf : 1 ≤ f ∧ f ≤ 11 := by simpa [opIs] using hs.is
  have h2 := opWN_le f
  have e : ((f.toNat : Nat) : Int) = f := by omega
  exact h f.toNat (by omega) (by omega) ⟨by have := hs.len; omega, by rw [e]; exact hs.nm⟩
theorem NoneBelow.next {l : List (List UInt8)} {f : Nat} (h : NoneBelow l f) (hn : ¬ (2 ≤ l.length ∧ l.getD 1 [] = opNm f)) : NoneBelow l (f + 1) := by
  intro g h1 h2
  rcases (by omega : g < f ∨ g = f) with h3 | rfl
  · exact h g h1 h3
  · exact hn
/-- The number of the j-th word, the name not counted. -/
def numAt (l : List (List UInt8)) (j : Nat) : Int := wordNum (l.getD (if j = 0 then 0 else j + 1) [])
def numCnt (i : Nat) : Nat := if i = 0 then 0 else if i = 1 then 1 else i - 1
def numL (l : List (List UInt8)) (c : Nat) : List Int := (List.range c).map (numAt l)
theorem numL_len (l : List (List UInt8)) (c : Nat) : (numL l c).length = c := by simp [numL]
theorem numL_step (l : List (List UInt8)) (i : Nat) (h : i ≠ 1) : numL l (numCnt (i + 1)) = numL l (numCnt i) ++ [wordNum (l.getD i [])] ∧ numCnt (i + 1) = numCnt i + 1 := by
  have e : numCnt (i + 1) = numCnt i + 1 := by unfold numCnt; split <;> split <;> (try split) <;> omega
  have e2 : numAt l (numCnt i) = wordNum (l.getD i []) := by
    rcases (by omega : i = 0 ∨ 2 ≤ i) with rfl | h2
    · rfl
    · have hc : numCnt i = i - 1 := by unfold numCnt; rw [if_neg (by omega), if_neg h]
      rw [hc]; unfold numAt; rw [if_neg (by omega)]
      congr 2; omega
  refine ⟨?_, e⟩
  rw [e, numL, List.range_succ, List.map_append, ← e2]
  rfl
theorem numL_one (l : List (List UInt8)) : numL l (numCnt 2) = numL l (numCnt 1) := rfl
/-- What an operation with these flags needs, the name not counted: after k of three looks. -/
def needAt (K A B : Bool) (k : Nat) : Int := 1 + (if 0 < k ∧ K = true then 1 else 0) + (if 1 < k ∧ A = true then 1 else 0) + (if 2 < k ∧ B = true then 1 else 0)
theorem needAt_b (K A B : Bool) (k : Nat) : 1 ≤ needAt K A B k ∧ needAt K A B k ≤ 4 := by
  unfold needAt
  repeat' split
  all_goals omega
theorem needAt_wn (f : Int) : (opWN f : Int) = needAt (opK f) (opA f) (opB f) 3 + 1 := by
  unfold opWN opWB opWA needAt
  rcases bool_two (opK f) with h1 | h1 <;> rcases bool_two (opA f) with h2 | h2 <;> rcases bool_two (opB f) with h3 | h3 <;> simp [h1, h2, h3]
theorem none_said {l : List (List UInt8)} {f : Int} (hn : l.getD 1 [] = opNm f) (hf : opIs f = true) (h : ¬ Said l f) : opsX l = opZero ∧ opsE l = 4 := by
  apply said_none
  intro g hs
  have e1 := named_of hs.is hs.nm.symm
  have e2 := named_of hf hn.symm
  rw [e1] at e2
  subst e2
  exact h hs
def GoodTo (l : List (List UInt8)) (K : Bool) (k : Nat) : Prop := ∀ j, j < k → 0 ≤ numAt l j ∧ (j = 0 → numAt l j ≤ 7) ∧ (j = 1 → K = true → numAt l j ≤ 7)
theorem GoodTo.next {l : List (List UInt8)} {K : Bool} {k : Nat} (h : GoodTo l K k) (h0 : 0 ≤ numAt l k) (h1 : k = 0 → numAt l k ≤ 7) (h2 : k = 1 → K = true → numAt l k ≤ 7) : GoodTo l K (k + 1) := by
  intro j hj
  rcases (by omega : j < k ∨ j = k) with h3 | rfl
  · exact h j h3
  · exact ⟨h0, h1, h2⟩
theorem said_of {l : List (List UInt8)} {f : Int} {K : Bool} (his : opIs f = true) (hn : l.getD 1 [] = opNm f) (hl : l.length = opWN f) (hK : opK f = K) (h : GoodTo l K (l.length - 1)) : Said l f := by
  have h2 := opWN_le f
  have g0 := h 0 (by omega)
  refine ⟨his, hn, hl, fun i hi h1 => ?_, ?_, fun hk => ?_⟩
  · rcases (by omega : i = 0 ∨ 2 ≤ i) with rfl | h3
    · exact g0.1
    · have := (h (i - 1) (by omega)).1
      unfold numAt at this
      rw [if_neg (by omega)] at this
      have e : i - 1 + 1 = i := by omega
      rw [e] at this; exact this
  · have : wordNum (l.getD 0 []) ≤ 7 := g0.2.1 rfl
    omega
  · have hb : 3 ≤ opWN f := by unfold opWN opWB opWA; rw [if_pos hk]; omega
    have : wordNum (l.getD 2 []) ≤ 7 := (h 1 (by omega)).2.2 rfl (by rw [← hK]; exact hk)
    omega
theorem row_ints {w : World} {v : Value} {n : Nat} {xs : List Int} (h : w.ownsRow 0 3 1 v n (xs.map (.int .i64))) (hn : 0 < n) (hx : xs.length = n) :
    ∃ g cap, v = .slice (some ⟨g, 0, none⟩) n cap ∧ n ≤ cap ∧ cap ≤ 9223372036854775807 ∧ ∀ j, j < n → w.cell? ⟨g, j, none⟩ = some (.int .i64 (xs.getD j 0)) := by
  rcases h.2 with ⟨_, h0⟩ | ⟨g, cap, cur, rfl, _, hh, hc, hm, _⟩
  · omega
  · refine ⟨g, cap, rfl, hc, by unfold maxLen at hm; omega, fun j hj => ?_⟩
    have := h.cells (g := g) rfl j (.int .i64 (xs.getD j 0)) (by simp [List.getD, List.getElem?_eq_getElem (show j < xs.length by omega)])
    have ha : ((⟨g, 0, none⟩ : Addr).add j) = ⟨g, j, none⟩ := by unfold Addr.add; split <;> simp_all
    rw [ha] at this
    exact this
theorem numL_getD (l : List (List UInt8)) (c j : Nat) (h : j < c) : (numL l c).getD j 0 = numAt l j := by simp [numL, List.getD, h]
theorem numAt_b (l : List (List UInt8)) (j : Nat) : -1 ≤ numAt l j ∧ numAt l j ≤ 65535 := wordNum_bounds _
theorem row_none (w : World) (e : TypeId) : w.ownsRow 0 e 1 (.slice none 0 0) 0 [] := ⟨rfl, .inl ⟨rfl, rfl⟩⟩
theorem Tryd.infoI : (Tryd.prog.info? 3).map (fun i => (i.zero, i.size, i.bytes)) = some (some (.int .i64 0), 1, 8) := by kernel_rfl
end Go.Proofs.YtllloahimfkmfaaDoor
