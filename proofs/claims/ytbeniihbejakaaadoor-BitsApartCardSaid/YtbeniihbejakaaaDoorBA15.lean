/-
  Bits counted and found, as data (no program).
-/
import Derived.Lib.ItoaNum
import Derived.Test.YtbeniihbejakaaaDoorBA04
set_option linter.unusedSimpArgs false
set_option linter.unusedVariables false
namespace Go.Proofs.YtbeniihbejakaaaDoor
/-! The lowest bit -/
theorem ctz_spec {w : Nat} (h0 : w ≠ 0) (h : w < 18446744073709551616) : Lib.ctz 64 w < 64 ∧ w.testBit (Lib.ctz 64 w) = true ∧ (∀ k, k < Lib.ctz 64 w → w.testBit k = false) ∧ ∀ k, (w &&& (w - 1)).testBit k = (w.testBit k && decide (k ≠ Lib.ctz 64 w)) := by
  obtain ⟨m, hm, hc⟩ := Lib.ctzFrom_spec 64 w (by omega) (by rw [two64]; exact h)
  have e : Lib.ctz 64 w = Lib.ctzFrom 64 w := by simp [Lib.ctz, h0]
  rw [e]
  generalize Lib.ctzFrom 64 w = c at hm hc
  have hb : ∀ k, w.testBit k = (decide (c ≤ k) && (2 * m + 1).testBit (k - c)) := fun k => by rw [hm, Nat.testBit_two_pow_mul]
  have hp : 0 < 2 ^ c := Nat.two_pow_pos c
  have hw1 : w - 1 = 2 ^ c * (2 * m) + (2 ^ c - 1) := by rw [hm, Nat.mul_add]; omega
  refine ⟨hc, ?_, fun k hk => ?_, fun k => ?_⟩
  · rw [hb, Nat.sub_self]; simp
  · rw [hb, decide_eq_false (by omega)]; rfl
  · rw [Nat.testBit_and, hb, hw1, Nat.testBit_two_pow_mul_add _ (by omega)]
    by_cases h1 : k < c
    · rw [if_pos h1, decide_eq_false (by omega : ¬ c ≤ k)]; rfl
    · rw [if_neg h1, decide_eq_true (by omega : c ≤ k)]
      by_cases h2 : k = c
      · subst h2; simp
      · obtain ⟨j, rfl⟩ : ∃ j, k = c + (j + 1) := ⟨k - c - 1, by omega⟩
        rw [show c + (j + 1) - c = j + 1 by omega, Nat.testBit_succ, Nat.testBit_succ, show (2 * m + 1) / 2 = m by omega, show 2 * m / 2 = m by omega]
        simp
/-! The numbers of words -/
def bitsW (i w : Nat) : List Int := ((List.range 64).filter fun k => w.testBit k).map fun k => ((64 * i + k : Nat) : Int)
def numsW : Nat → List Nat → List Int
  | _, [] => []
  | i, w :: r => bitsW i w ++ numsW (i + 1) r
theorem mem_bitsW {i w : Nat} {x : Int} : x ∈ bitsW i w ↔ ∃ k, k < 64 ∧ w.testBit k = true ∧ x = ((64 * i + k : Nat) : Int) := by
  unfold bitsW
  rw [List.mem_map]
  constructor
  · rintro ⟨k, hk, rfl⟩
    rw [List.mem_filter, List.mem_range] at hk
    exact ⟨k, hk.1, hk.2, rfl⟩
  · rintro ⟨k, h1, h2, rfl⟩
    exact ⟨k, by rw [List.mem_filter, List.mem_range]; exact ⟨h1, h2⟩, rfl⟩
theorem bitsW_rise (i w : Nat) : (bitsW i w).Pairwise (· < ·) := by
  unfold bitsW
  refine List.Pairwise.map _ (fun a b (h : a < b) => by omega) (List.Pairwise.filter _ List.pairwise_lt_range)
theorem bitsW_le {i w : Nat} {x : Int} (h : x ∈ bitsW i w) : 64 * (i : Int) ≤ x ∧ x < 64 * i + 64 := by
  obtain ⟨k, h1, -, rfl⟩ := mem_bitsW.1 h; omega
theorem numsW_rise : ∀ (W : List Nat) (i : Nat), (numsW i W).Pairwise (· < ·) ∧ ∀ x ∈ numsW i W, 64 * (i : Int) ≤ x
  | [], i => ⟨List.Pairwise.nil, fun _ h => (by cases h)⟩
  | w :: r, i => by
    have ih := numsW_rise r (i + 1)
    refine ⟨List.pairwise_append.2 ⟨bitsW_rise i w, ih.1, fun x hx y hy => ?_⟩, fun x hx => ?_⟩
    · have h1 := bitsW_le hx; have h2 := ih.2 y hy; omega
    · rcases List.mem_append.1 hx with h | h
      · exact (bitsW_le h).1
      · have := ih.2 x h; omega
theorem mem_numsW : ∀ (W : List Nat) (i : Nat) (x : Int), x ∈ numsW i W ↔ ∃ j, j < W.length ∧ x ∈ bitsW (i + j) (W.getD j 0)
  | [], i, x => by simp [numsW]
  | w :: r, i, x => by
    show x ∈ bitsW i w ++ numsW (i + 1) r ↔ _
    rw [List.mem_append, mem_numsW r (i + 1) x]
    constructor
    · rintro (h | ⟨j, hj, h⟩)
      · exact ⟨0, by simp, h⟩
      · exact ⟨j + 1, by simp; omega, by rw [show i + (j + 1) = i + 1 + j by omega]; simpa using h⟩
    · rintro ⟨j, hj, h⟩
      cases j with
      | zero => exact .inl h
      | succ j => exact .inr ⟨j, by simp at hj; omega, by rw [show i + (j + 1) = i + 1 + j by omega] at h; simpa using h⟩
theorem rise_ext : ∀ {s t : List Int}, s.Pairwise (· < ·) → t.Pairwise (· < ·) → (∀ x, x ∈ s ↔ x ∈ t) → s = t
  | [], [], _, _, _ => rfl
  | [], y :: t, _, _, h => absurd ((h y).2 List.mem_cons_self) (by simp)
  | x :: s, [], _, _, h => absurd ((h x).1 List.mem_cons_self) (by simp)
  | x :: s, y :: t, hs, ht, h => by
    have hs1 := List.pairwise_cons.1 hs; have ht1 := List.pairwise_cons.1 ht
    have e : x = y := by
      rcases List.mem_cons.1 ((h x).1 List.mem_cons_self) with h1 | h1
      · exact h1
      · rcases List.mem_cons.1 ((h y).2 List.mem_cons_self) with h2 | h2
        · exact h2.symm
        · have := hs1.1 y h2; have := ht1.1 x h1; omega
    subst e
    rw [rise_ext hs1.2 ht1.2 fun z => ?_]
    constructor
    · intro hz
      rcases List.mem_cons.1 ((h z).1 (List.mem_cons_of_mem _ hz)) with h1 | h1
      · have := hs1.1 z hz; omega
      · exact h1
    · intro hz
      rcases List.mem_cons.1 ((h z).2 (List.mem_cons_of_mem _ hz)) with h1 | h1
      · have := ht1.1 z hz; omega
      · exact h1
/-- The words' numbers are the set. -/
theorem WIn.nums {W : List Nat} {S : List Int} (h : WIn W S) : S = numsW 0 W := by
  refine rise_ext h.set.1 (numsW_rise W 0).1 fun x => ?_
  rw [mem_numsW, h.any]
  constructor
  · rintro ⟨h0, hb⟩
    have hl := wBit_lt hb
    refine ⟨x.toNat / 64, by omega, mem_bitsW.2 ⟨x.toNat % 64, by omega, hb, by omega⟩⟩
  · rintro ⟨j, hj, hx⟩
    obtain ⟨k, hk, hb, rfl⟩ := mem_bitsW.1 hx
    refine ⟨by omega, ?_⟩
    unfold wBit
    rw [show (((64 * (0 + j) + k : Nat) : Int)).toNat = 64 * j + k by omega, show (64 * j + k) / 64 = j by omega, show (64 * j + k) % 64 = k by omega]
    exact hb
theorem bitsW_zero (i : Nat) : bitsW i 0 = [] := by
  unfold bitsW; simp
/-- A word's numbers, one by one. -/
theorem bitsW_step (i : Nat) {w : Nat} (h0 : w ≠ 0) (h : w < 18446744073709551616) : bitsW i w = ((64 * i + Lib.ctz 64 w : Nat) : Int) :: bitsW i (w &&& (w - 1)) := by
  obtain ⟨hc, h1, h2, h3⟩ := ctz_spec h0 h
  generalize Lib.ctz 64 w = c at *
  refine rise_ext (bitsW_rise i w) (List.pairwise_cons.2 ⟨fun y hy => ?_, bitsW_rise i _⟩) fun x => ?_
  · obtain ⟨k, hk, hb, rfl⟩ := mem_bitsW.1 hy
    rw [h3] at hb
    simp at hb
    have : ¬ k < c := fun hk => by rw [h2 k hk] at hb; simp at hb
    omega
  · rw [List.mem_cons, mem_bitsW, mem_bitsW]
    constructor
    · rintro ⟨k, hk, hb, rfl⟩
      by_cases e : k = c
      · exact .inl (by rw [e])
      · exact .inr ⟨k, hk, by rw [h3, hb]; simp [e], rfl⟩
    · rintro (rfl | ⟨k, hk, hb, rfl⟩)
      · exact ⟨c, hc, h1, rfl⟩
      · rw [h3] at hb
        simp at hb
        exact ⟨k, hk, hb.1, rfl⟩
theorem numsW_drop {W : List Nat} {i : Nat} (hi : i < W.length) (j : Nat) : numsW j (W.drop i) = bitsW j (W.getD i 0) ++ numsW (j + 1) (W.drop (i + 1)) := by
  rw [List.drop_eq_getElem_cons hi, getW_in W 0 hi]; rfl
/-! How many bits -/
def onesN (w : Nat) : Nat := (List.range 64).countP fun k => w.testBit k
theorem bitsW_len (i w : Nat) : (bitsW i w).length = onesN w := by
  unfold bitsW onesN
  rw [List.length_map, List.countP_eq_length_filter]
theorem numsW_len (W : List Nat) : ∀ i, (numsW i W).length = (W.map onesN).sum := by
  induction W with
  | nil => intro i; rfl
  | cons w r ih => intro i; show (bitsW i w ++ numsW (i + 1) r).length = _; rw [List.length_append, bitsW_len, ih]; simp
def numN : List Nat → Nat
  | [] => 0
  | a :: r => a + 256 * numN r
theorem and_split {a p : Nat} (b q : Nat) (ha : a < 256) (hp : p < 256) : (a + 256 * b) &&& (p + 256 * q) = (a &&& p) + 256 * (b &&& q) := by
  have e1 : a + 256 * b = 2 ^ 8 * b + a := by omega
  have e2 : p + 256 * q = 2 ^ 8 * q + p := by omega
  have e3 : (a &&& p) + 256 * (b &&& q) = 2 ^ 8 * (b &&& q) + (a &&& p) := by omega
  have hap : a &&& p < 2 ^ 8 := Nat.lt_of_le_of_lt Nat.and_le_left ha
  rw [e1, e2, e3]
  apply Nat.eq_of_testBit_eq
  intro i
  rw [Nat.testBit_and, Nat.testBit_two_pow_mul_add _ ha, Nat.testBit_two_pow_mul_add _ hp, Nat.testBit_two_pow_mul_add _ hap]
  split
  · rw [Nat.testBit_and]
  · rw [Nat.testBit_and]
def g1 (a : Nat) : Nat := (a / 2 &&& 85) + (a &&& 85)
def g2 (a : Nat) : Nat := (a / 4 &&& 51) + (a &&& 51)
def g3 (a : Nat) : Nat := (a / 16 + a) &&& 15
def mskN (c : Nat) : Nat → Nat
  | 0 => 0
  | n + 1 => c + 256 * mskN c n
theorem g_small : ∀ a, a < 256 → g1 a < 256 ∧ (g1 a) % 4 ≤ 2 ∧ g2 (g1 a) % 16 ≤ 4 ∧ g2 (g1 a) / 16 ≤ 4 ∧ g3 (g2 (g1 a)) = (List.range 8).countP fun k => a.testBit k := by decide +kernel
theorem step1 : ∀ a, a < 256 → ∀ t, t < 2 → (a / 2 + 128 * t) &&& 85 = (a / 2 &&& 85) := by decide +kernel
theorem step2 : ∀ a, a < 256 → ∀ t, t < 4 → (a / 4 + 64 * t) &&& 51 = (a / 4 &&& 51) := by decide +kernel
theorem step3 : ∀ a, a < 69 → ∀ t, t < 5 → (a / 16 + 16 * t + a) &&& 15 = g3 a := by decide +kernel
theorem swar1 : ∀ l : List Nat, (∀ a ∈ l, a < 256) → (numN l / 2 &&& mskN 85 l.length) + (numN l &&& mskN 85 l.length) = numN (l.map g1)
  | [], _ => rfl
  | a :: r, h => by
    have ha := h a List.mem_cons_self
    have ih := swar1 r fun x hx => h x (List.mem_cons_of_mem _ hx)
    show ((a + 256 * numN r) / 2 &&& (85 + 256 * mskN 85 r.length)) + ((a + 256 * numN r) &&& (85 + 256 * mskN 85 r.length)) = g1 a + 256 * numN (r.map g1)
    rw [show (a + 256 * numN r) / 2 = (a / 2 + 128 * (numN r % 2)) + 256 * (numN r / 2) by omega, and_split _ _ (by omega) (by decide), and_split _ _ ha (by decide), step1 a ha _ (by omega), ← ih]
    unfold g1
    omega
theorem swar2 : ∀ l : List Nat, (∀ a ∈ l, a < 256) → (numN l / 4 &&& mskN 51 l.length) + (numN l &&& mskN 51 l.length) = numN (l.map g2)
  | [], _ => rfl
  | a :: r, h => by
    have ha := h a List.mem_cons_self
    have ih := swar2 r fun x hx => h x (List.mem_cons_of_mem _ hx)
    show ((a + 256 * numN r) / 4 &&& (51 + 256 * mskN 51 r.length)) + ((a + 256 * numN r) &&& (51 + 256 * mskN 51 r.length)) = g2 a + 256 * numN (r.map g2)
    rw [show (a + 256 * numN r) / 4 = (a / 4 + 64 * (numN r % 4)) + 256 * (numN r / 4) by omega, and_split _ _ (by omega) (by decide), and_split _ _ ha (by decide), step2 a ha _ (by omega), ← ih]
    unfold g2
    omega
theorem swar3 : ∀ l : List Nat, (∀ a ∈ l, a % 16 ≤ 4 ∧ a / 16 ≤ 4) → (numN l / 16 + numN l) &&& mskN 15 l.length = numN (l.map g3)
  | [], _ => rfl
  | a :: r, h => by
    have ha := h a List.mem_cons_self
    have ih := swar3 r fun x hx => h x (List.mem_cons_of_mem _ hx)
    have hr : numN r % 16 ≤ 4 := by
      cases r with
      | nil => decide
      | cons b s =>
        have hb := h b (by simp)
        show (b + 256 * numN s) % 16 ≤ 4
        omega
    show ((a + 256 * numN r) / 16 + (a + 256 * numN r)) &&& (15 + 256 * mskN 15 r.length) = g3 a + 256 * numN (r.map g3)
    rw [show (a + 256 * numN r) / 16 + (a + 256 * numN r) = (a / 16 + 16 * (numN r % 16) + a) + 256 * (numN r / 16 + numN r) by omega, and_split _ _ (by omega) (by decide), step3 a (by omega) _ (by omega), ← ih]
/-- A word's bytes. -/
def bytes8 (w : Nat) : List Nat := [w % 256, w / 256 % 256, w / 65536 % 256, w / 16777216 % 256, w / 4294967296 % 256, w / 1099511627776 % 256, w / 281474976710656 % 256, w / 72057594037927936 % 256]
theorem numN_bytes8 {w : Nat} (h : w < 18446744073709551616) : numN (bytes8 w) = w := by
  simp only [bytes8, numN]
  omega
theorem bytes8_lt (w : Nat) : ∀ a ∈ bytes8 w, a < 256 := by
  intro a ha
  simp only [bytes8, List.mem_cons, List.not_mem_nil, or_false] at ha
  rcases ha with rfl | rfl | rfl | rfl | rfl | rfl | rfl | rfl <;> exact Nat.mod_lt _ (by decide)
theorem byte_count (w i d : Nat) (hd : d = 2 ^ (8 * i)) : ((List.range 8).countP fun k => w.testBit (8 * i + k)) = (List.range 8).countP fun k => (w / d % 256).testBit k := by
  refine List.countP_congr fun k hk => ?_
  rw [List.mem_range] at hk
  rw [hd, show (256 : Nat) = 2 ^ 8 by decide, Nat.testBit_mod_two_pow, Nat.testBit_div_two_pow, decide_eq_true hk]
  simp [Nat.add_comm]
theorem onesN_bytes (w : Nat) : onesN w = ((bytes8 w).map fun a => (List.range 8).countP fun k => a.testBit k).sum := by
  unfold onesN
  rw [show List.range 64 = (List.range 8).map (fun j => 8 * 0 + j) ++ ((List.range 8).map (fun j => 8 * 1 + j) ++ ((List.range 8).map (fun j => 8 * 2 + j) ++ ((List.range 8).map (fun j => 8 * 3 + j) ++ ((List.range 8).map (fun j => 8 * 4 + j) ++ ((List.range 8).map (fun j => 8 * 5 + j) ++ ((List.range 8).map (fun j => 8 * 6 + j) ++ (List.range 8).map (fun j => 8 * 7 + j))))))) from rfl]
  simp only [List.countP_append, List.countP_map, Function.comp_def]
  rw [byte_count w 0 1 (by decide), byte_count w 1 256 (by decide), byte_count w 2 65536 (by decide), byte_count w 3 16777216 (by decide), byte_count w 4 4294967296 (by decide), byte_count w 5 1099511627776 (by decide), byte_count w 6 281474976710656 (by decide), byte_count w 7 72057594037927936 (by decide), Nat.div_one]
  simp only [bytes8, List.map_cons, List.map_nil, List.sum_cons, List.sum_nil]
  omega
/-- What OnesCount64 computes. -/
def sw1 (w : Nat) : Nat := (w / 2 &&& 6148914691236517205) + (w &&& 6148914691236517205)
def sw2 (w : Nat) : Nat := (w / 4 &&& 3689348814741910323) + (w &&& 3689348814741910323)
def sw3 (w : Nat) : Nat := (w / 16 + w) &&& 1085102592571150095
theorem msk85 : mskN 85 (7 + 1) = 6148914691236517205 := by decide
theorem msk51 : mskN 51 8 = 3689348814741910323 := by decide
theorem msk15 : mskN 15 8 = 1085102592571150095 := by decide
theorem ones_swar {w : Nat} (h : w < 18446744073709551616) : ∃ p0 p1 p2 p3 p4 p5 p6 p7 : Nat, p0 ≤ 8 ∧ p1 ≤ 8 ∧ p2 ≤ 8 ∧ p3 ≤ 8 ∧ p4 ≤ 8 ∧ p5 ≤ 8 ∧ p6 ≤ 8 ∧ p7 ≤ 8 ∧ sw1 w < 18446744073709551616 ∧ sw2 (sw1 w) < 5000000000000000000 ∧
    sw3 (sw2 (sw1 w)) = p0 + 256 * (p1 + 256 * (p2 + 256 * (p3 + 256 * (p4 + 256 * (p5 + 256 * (p6 + 256 * p7)))))) ∧ onesN w = p0 + p1 + p2 + p3 + p4 + p5 + p6 + p7 := by
  have e0 := numN_bytes8 h
  have hb := bytes8_lt w
  have ho := onesN_bytes w
  obtain ⟨a0, a1, a2, a3, a4, a5, a6, a7, eb⟩ : ∃ a0 a1 a2 a3 a4 a5 a6 a7, bytes8 w = [a0, a1, a2, a3, a4, a5, a6, a7] := ⟨_, _, _, _, _, _, _, _, rfl⟩
  rw [eb] at e0 hb ho
  have e1 : sw1 w = numN ([a0, a1, a2, a3, a4, a5, a6, a7].map g1) := by
    have := swar1 [a0, a1, a2, a3, a4, a5, a6, a7] hb
    rw [e0, List.length_cons, show [a1, a2, a3, a4, a5, a6, a7].length = 7 from rfl, msk85] at this; exact this
  have hb1 : ∀ a ∈ [a0, a1, a2, a3, a4, a5, a6, a7].map g1, a < 256 := fun a ha => by
    obtain ⟨b, hbb, rfl⟩ := List.mem_map.1 ha
    exact (g_small b (hb b hbb)).1
  have e2 : sw2 (sw1 w) = numN (([a0, a1, a2, a3, a4, a5, a6, a7].map g1).map g2) := by
    have := swar2 ([a0, a1, a2, a3, a4, a5, a6, a7].map g1) hb1
    rw [List.length_map, show [a0, a1, a2, a3, a4, a5, a6, a7].length = 8 from rfl, msk51, ← e1] at this; exact this
  have hb2 : ∀ a ∈ ([a0, a1, a2, a3, a4, a5, a6, a7].map g1).map g2, a % 16 ≤ 4 ∧ a / 16 ≤ 4 := fun a ha => by
    obtain ⟨b, hbb, rfl⟩ := List.mem_map.1 ha
    obtain ⟨c, hcc, rfl⟩ := List.mem_map.1 hbb
    have := g_small c (hb c hcc)
    exact ⟨this.2.2.1, this.2.2.2.1⟩
  have e3 : sw3 (sw2 (sw1 w)) = numN ((([a0, a1, a2, a3, a4, a5, a6, a7].map g1).map g2).map g3) := by
    have := swar3 (([a0, a1, a2, a3, a4, a5, a6, a7].map g1).map g2) hb2
    rw [List.length_map, List.length_map, show [a0, a1, a2, a3, a4, a5, a6, a7].length = 8 from rfl, msk15, ← e2] at this; exact this
  have hp : ∀ a ∈ [a0, a1, a2, a3, a4, a5, a6, a7], g3 (g2 (g1 a)) = (List.range 8).countP fun k => a.testBit k := fun a ha => (g_small a (hb a ha)).2.2.2.2
  have hp8 : ∀ a : Nat, ((List.range 8).countP fun k => a.testBit k) ≤ 8 := fun a => List.countP_le_length
  have h1 : sw1 w < 18446744073709551616 := by
    rw [e1]
    simp only [List.map_cons, List.map_nil, List.mem_cons, List.not_mem_nil, or_false, forall_eq_or_imp, forall_eq] at hb1
    simp only [List.map_cons, List.map_nil, numN]
    omega
  have h2 : sw2 (sw1 w) < 5000000000000000000 := by
    rw [e2]
    simp only [List.map_cons, List.map_nil, List.mem_cons, List.not_mem_nil, or_false, forall_eq_or_imp, forall_eq] at hb2
    simp only [List.map_cons, List.map_nil, numN]
    omega
  simp only [List.map_cons, List.map_nil, List.mem_cons, List.not_mem_nil, or_false, forall_eq_or_imp, forall_eq] at hp
  simp only [List.map_cons, List.map_nil, numN, hp.1, hp.2.1, hp.2.2.1, hp.2.2.2.1, hp.2.2.2.2.1, hp.2.2.2.2.2.1, hp.2.2.2.2.2.2.1, hp.2.2.2.2.2.2.2, Nat.mul_zero, Nat.add_zero] at e3
  simp only [List.map_cons, List.map_nil, List.sum_cons, List.sum_nil] at ho
  exact ⟨_, _, _, _, _, _, _, _, hp8 _, hp8 _, hp8 _, hp8 _, hp8 _, hp8 _, hp8 _, hp8 _, h1, h2, e3, by rw [ho]; omega⟩
theorem onesN_le (w : Nat) : onesN w ≤ 64 := by
  have := List.countP_le_length (l := List.range 64) (p := fun k => w.testBit k)
  simpa [onesN] using this
/-! How long a word is -/
theorem bitLen_spec {w : Nat} (h0 : w ≠ 0) (h : w < 18446744073709551616) : 1 ≤ Lib.bitLen w ∧ Lib.bitLen w ≤ 64 ∧ w.testBit (Lib.bitLen w - 1) = true ∧ ∀ k, Lib.bitLen w ≤ k → w.testBit k = false := by
  obtain ⟨h1, h2, h3⟩ := Lib.bitLenAux_bounds 64 w (by rw [two64]; exact h) h0
  have h4 := Lib.bitLen_le w 64 (by decide) (by rw [two64]; exact h)
  refine ⟨h1, h4, ?_, fun k hk => Nat.testBit_lt_two_pow (Nat.lt_of_lt_of_le h3 (Nat.pow_le_pow_right (by decide) hk))⟩
  show w.testBit (Lib.bitLenAux 64 w - 1) = true
  generalize Lib.bitLenAux 64 w = b at *
  obtain ⟨c, rfl⟩ : ∃ c, b = c + 1 := ⟨b - 1, by omega⟩
  rw [show c + 1 - 1 = c by omega] at h2 ⊢
  rw [Nat.testBit_eq_decide_div_mod_eq, decide_eq_true_eq]
  have h5 : w / 2 ^ c < 2 := (Nat.div_lt_iff_lt_mul (Nat.two_pow_pos c)).2 (by rw [Nat.pow_succ] at h3; omega)
  have h6 : 1 ≤ w / 2 ^ c := (Nat.le_div_iff_mul_le (Nat.two_pow_pos c)).2 (by omega)
  omega
end Go.Proofs.YtbeniihbejakaaaDoor
