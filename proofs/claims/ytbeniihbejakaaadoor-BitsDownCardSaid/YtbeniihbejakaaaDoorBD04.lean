/-
  A set's words, as data (no program): which numbers stand in them.
-/
import Derived.Laws.Bits64b
import Derived.Lib.TrailingZeros
import Derived.Lib.BitFns
import Derived.Test.YtbeniihbejakaaaDoorBD01
set_option linter.unusedSimpArgs false
set_option linter.unusedVariables false
namespace Go.Proofs.YtbeniihbejakaaaDoor
/-- Does n stand in the words? -/
def wBit (W : List Nat) (n : Nat) : Bool := (W.getD (n / 64) 0).testBit (n % 64)
/-- The words tell the set. -/
structure WIn (W : List Nat) (S : List Int) : Prop where
  lt : ∀ x ∈ W, x < 18446744073709551616
  set : BIn S
  tell : ∀ n : Nat, (n : Int) ∈ S ↔ wBit W n = true
theorem two64 : (2 : Nat) ^ 64 = 18446744073709551616 := by decide
theorem getW_out {α : Type} (l : List α) {i : Nat} (d : α) (h : l.length ≤ i) : l.getD i d = d := by
  rw [List.getD_eq_getElem?_getD, List.getElem?_eq_none h]; rfl
theorem getW_in {α : Type} (l : List α) {i : Nat} (d : α) (h : i < l.length) : l.getD i d = l[i] := by
  rw [List.getD_eq_getElem?_getD, List.getElem?_eq_getElem h]; rfl
theorem wBit_lt {W : List Nat} {n : Nat} (h : wBit W n = true) : n < 64 * W.length := by
  unfold wBit at h
  by_cases e : n / 64 < W.length
  · omega
  · rw [getW_out _ _ (by omega)] at h; simp at h
theorem WIn.get {W : List Nat} {S : List Int} (h : WIn W S) (i : Nat) : W.getD i 0 < 18446744073709551616 := by
  by_cases e : i < W.length
  · rw [getW_in _ _ e]; exact h.lt _ (List.getElem_mem e)
  · rw [getW_out _ _ (by omega)]; decide
theorem WIn.nil : WIn [] [] := ⟨fun _ h => (by cases h), BIn.nil, fun n => by simp [wBit]⟩
theorem wBit_set {W : List Nat} {i : Nat} (hi : i < W.length) (v n : Nat) : wBit (W.set i v) n = if n / 64 = i then v.testBit (n % 64) else wBit W n := by
  unfold wBit
  by_cases e : n / 64 = i
  · rw [if_pos e, e, getW_in _ _ (by simpa using hi)]; simp
  · rw [if_neg e]
    simp only [List.getD_eq_getElem?_getD]
    rw [List.getElem?_set_ne (fun h => e h.symm)]
theorem wBit_take {W : List Nat} {k : Nat} (n : Nat) : wBit (W.take k) n = if n / 64 < k then wBit W n else false := by
  unfold wBit
  simp only [List.getD_eq_getElem?_getD]
  by_cases e : n / 64 < k
  · rw [if_pos e, List.getElem?_take_of_lt e]
  · rw [if_neg e, List.getElem?_take_eq_none (by omega)]; simp
theorem wBit_app_zero (W : List Nat) (k n : Nat) : wBit (W ++ List.replicate k 0) n = wBit W n := by
  unfold wBit
  simp only [List.getD_eq_getElem?_getD]
  by_cases e : n / 64 < W.length
  · rw [List.getElem?_append_left e]
  · rw [List.getElem?_append_right (by omega), List.getElem?_replicate, List.getElem?_eq_none (by omega : W.length ≤ n / 64)]
    split <;> simp
theorem wBit_zero (k n : Nat) : wBit (List.replicate k 0) n = false := by
  have := wBit_app_zero [] k n
  rw [List.nil_append] at this
  rw [this]; simp [wBit]
/-- Words cut where only zeros follow. -/
theorem WIn.cut {W : List Nat} {S : List Int} (h : WIn W S) {k : Nat} (hz : ∀ i, k ≤ i → W.getD i 0 = 0) : WIn (W.take k) S :=
  ⟨fun x hx => h.lt x (List.mem_of_mem_take hx), h.set, fun n => by
    rw [h.tell, wBit_take]
    split
    · exact Iff.rfl
    · rename_i e
      unfold wBit
      rw [hz _ (by omega)]; simp⟩
/-- Any number that is asked. -/
theorem WIn.any {W : List Nat} {S : List Int} (h : WIn W S) (x : Int) : x ∈ S ↔ 0 ≤ x ∧ wBit W x.toNat = true := by
  constructor
  · intro hx
    have h0 := (h.set.2 x hx).1
    refine ⟨h0, ?_⟩
    rw [← h.tell, Int.toNat_of_nonneg h0]; exact hx
  · rintro ⟨h0, hb⟩
    rw [← h.tell, Int.toNat_of_nonneg h0] at hb; exact hb
theorem WIn.has {W : List Nat} {S : List Int} (h : WIn W S) {n : Nat} : decide ((n : Int) ∈ S) = wBit W n := by
  have := h.tell n
  by_cases e : (n : Int) ∈ S
  · rw [decide_eq_true e, this.1 e]
  · rw [decide_eq_false e]; cases hb : wBit W n with
    | false => rfl
    | true => exact absurd (this.2 hb) e
theorem set_lt {W : List Nat} (h : ∀ x ∈ W, x < 18446744073709551616) {i v : Nat} (hv : v < 18446744073709551616) : ∀ x ∈ W.set i v, x < 18446744073709551616 := fun x hx => by
  rcases List.mem_or_eq_of_mem_set hx with h1 | rfl
  · exact h x h1
  · exact hv
/-! A word's bits -/
theorem pow_lt64 {k : Nat} (h : k < 64) : 2 ^ k < 18446744073709551616 := by rw [← two64]; exact Nat.pow_lt_pow_right (by decide) h
theorem and_bit (x k : Nat) : x &&& 2 ^ k = if x.testBit k then 2 ^ k else 0 := by
  apply Nat.eq_of_testBit_eq
  intro i
  rw [Nat.testBit_and, Nat.testBit_two_pow]
  by_cases e : k = i
  · subst e; cases h : x.testBit k <;> simp [h]
  · cases h : x.testBit k <;> simp [e]
theorem or_bit (x k i : Nat) : (x ||| 2 ^ k).testBit i = (x.testBit i || decide (k = i)) := by rw [Nat.testBit_or, Nat.testBit_two_pow]
theorem or_lt64 {x y : Nat} (hx : x < 18446744073709551616) (hy : y < 18446744073709551616) : x ||| y < 18446744073709551616 := by rw [← two64] at *; exact Nat.or_lt_two_pow hx hy
theorem and_lt64 {x : Nat} (y : Nat) (hx : x < 18446744073709551616) : x &&& y < 18446744073709551616 := Nat.lt_of_le_of_lt Nat.and_le_left hx
/-- x without the bits of y. -/
def without64 (x y : Nat) : Nat := x ^^^ (x &&& y)
theorem without_bit (x y i : Nat) : (without64 x y).testBit i = (x.testBit i && !y.testBit i) := by
  unfold without64
  rw [Nat.testBit_xor, Nat.testBit_and]
  cases x.testBit i <;> cases y.testBit i <;> rfl
theorem without_lt {x y : Nat} (hx : x < 18446744073709551616) : without64 x y < 18446744073709551616 := by
  have h1 := and_lt64 y hx
  unfold without64
  rw [← two64] at *
  exact Nat.xor_lt_two_pow hx h1
theorem bits_andNot_u64 (a b : Nat) (ha : a < 18446744073709551616) (hb : b < 18446744073709551616) : bits .andNot .u64 (a : Int) (b : Int) = ((without64 a b : Nat) : Int) := by
  have hx := without_lt (y := b) ha
  have h1 : (BitVec.ofInt 64 (a : Int)).toNat = a := by
    rw [BitVec.ofInt_natCast, BitVec.toNat_ofNat]; exact Nat.mod_eq_of_lt (by omega)
  have h2 : (BitVec.ofInt 64 (b : Int)).toNat = b := by
    rw [BitVec.ofInt_natCast, BitVec.toNat_ofNat]; exact Nat.mod_eq_of_lt (by omega)
  show IntKind.u64.wrap ((BitVec.ofInt 64 (a : Int) &&& ~~~ BitVec.ofInt 64 (b : Int)).toNat : Int) = _
  have e : (BitVec.ofInt 64 (a : Int) &&& ~~~ BitVec.ofInt 64 (b : Int)).toNat = without64 a b := by
    apply Nat.eq_of_testBit_eq
    intro i
    rw [without_bit, BitVec.toNat_and, Nat.testBit_and, h1, BitVec.toNat_not, h2]
    have e2 : (2 ^ 64 - 1 - b) = 2 ^ 64 - (b + 1) := by omega
    rw [e2, Nat.testBit_two_pow_sub_succ (by rw [two64]; exact hb)]
    by_cases hi : i < 64
    · simp [hi]
    · have : a.testBit i = false := Nat.testBit_lt_two_pow (Nat.lt_of_lt_of_le ha (by rw [← two64]; exact Nat.pow_le_pow_right (by decide) (by omega)))
      simp [this]
  rw [e, IntKind.wrap_u64]
  omega
theorem shl_bit {k : Nat} (hk : k < 64) (w : World) : (Op.shift BinOp.shl IntKind.u64 1 IntKind.i64 (k : Int)) = pure (.int .u64 ((2 ^ k : Nat) : Int)) := by
  rw [shift_shl .u64 .i64 _ _ (by omega) (by show (k : Int) ≤ (64 : Nat); omega)]
  have h := pow_lt64 hk
  rw [IntKind.wrap_u64, Int.toNat_natCast, Int.one_mul, Int.natCast_pow]
  have : (2 : Int) ^ k = ((2 ^ k : Nat) : Int) := by rw [Int.natCast_pow]; rfl
  rw [show ((2 : Nat) : Int) = 2 from rfl, this]
  congr 2
  exact Int.emod_eq_of_lt (Int.natCast_nonneg _) (show ((2 ^ k : Nat) : Int) < ((18446744073709551616 : Nat) : Int) from Int.ofNat_lt.2 h)
end Go.Proofs.YtbeniihbejakaaaDoor
