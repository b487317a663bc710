/-
  one: what both readers read is the same, and they stand alike.
-/
import Derived.Test.YtchenofgmmgdmaaBi
namespace Go.Proofs.Ytchenofgmmgdmaa
open Go.RowKit
/-- Both readers stand alike. -/
structure RQ (w : World) (r g cap q : Nat) (xs : List Int) (e : Int) (p : Nat) : Prop where
  rat : RAt w r g cap xs e p
  qat : QAt w q xs e p
theorem RQ.ne {w : World} {r g cap q p : Nat} {xs : List Int} {e : Int} (h : RQ w r g cap q xs e p) : r ≠ q := by
  intro e1
  have h1 := h.rat.blk
  have h2 := h.qat
  unfold QAt at h2
  rw [e1, h2] at h1
  simp at h1
theorem QAt.keeps {w w' : World} {q p : Nat} {xs : List Int} {e : Int} {F : List Nat} (h : QAt w q xs e p) (hk : Keeps F w w') (hq : q ∉ F) : QAt w' q xs e p := by
  unfold QAt at h ⊢
  exact hk.heap h hq
/-- The errors that a reader may have: none, or torn. -/
def GoodE (e : Int) : Prop := e = 0 ∨ e = 5
theorem rdErr_good {e : Int} (h : GoodE e) (W : Nat) (xs : List Int) (p : Nat) : GoodE (rdErr W xs e p) := by
  unfold rdErr
  split
  · exact h
  · split
    · exact .inl rfl
    · exact .inr rfl
theorem rlErr_good {e : Int} (h : GoodE e) (xs : List Int) (p : Nat) : GoodE (rlErr xs e p) := by
  unfold rlErr
  split
  · exact h
  · split
    · exact .inl rfl
    · exact .inr rfl
def OnePost (r g cap q : Nat) (xs : List Int) (w : World) (x : Ending) (w' : World) : Prop :=
  x = .returned (.bool true) ∧ Keeps [r, q] w w' ∧ ∃ e p, GoodE e ∧ RQ w' r g cap q xs e p
theorem rdVal_1 {xs : List Int} (hx : InU8 xs) (e : Int) (p : Nat) : 0 ≤ rdVal 1 xs e p ∧ rdVal 1 xs e p < 256 := by
  by_cases h : e = 0 ∧ p + 1 ≤ xs.length
  · rw [rdVal, if_pos h, numOf_1 xs p h.2]; exact hx _
  · rw [rdVal, if_neg h]; omega
theorem rdVal_2 {xs : List Int} (hx : InU8 xs) (e : Int) (p : Nat) : 0 ≤ rdVal 2 xs e p ∧ rdVal 2 xs e p < 65536 := by
  by_cases h : e = 0 ∧ p + 2 ≤ xs.length
  · rw [rdVal, if_pos h, numOf_2 xs p h.2]
    have := hx (p + 0); have := hx (p + 1); omega
  · rw [rdVal, if_neg h]; omega

set_option maxHeartbeats 1000000 in
theorem one_0 (w : World) (r g cap q p : Nat) (xs : List Int) (e : Int) (h : RQ w r g cap q xs e p) (hge : GoodE e) (hgq : g ≠ q) (hx : InU8 xs) (hl : xs.length ≤ 1000000) (k n : Int) (k0 : 0 ≤ k) (hk : k % 5 = 0) :
    Calls Try.prog 12 #[.pointer (some ⟨r, 0, none⟩), .pointer (some ⟨q, 0, none⟩), .agg #[.int .u8 k, .int .i64 n]] w (OnePost r g cap q xs w) := by
  have hne := h.ne
  have hk0 : Keeps [] w (w.alloc (.cells #[.int .u8 k, .int .i64 n] 49)) := (Keeps.refl _ _).alloc _
  have hR := RU8_any _ r g cap p xs e (h.rat.keeps hk0 (by simp) (by simp)) hx hl
  have hQ := fun w' (h' : QAt w' q xs e p) => qNumber_any w' q p xs e h' hx h.rat.le hl 1 (by omega)
  obtain ⟨v0, v1⟩ := rdVal_1 hx e p
  generalize rdVal 1 xs e p = V at *
  have HR := Lib.hid hR; have HQ := Lib.hid hQ; clear hR hQ
  go_enter Try.func12, Try.ntmps12
  go_wp2_with fail
  refine HR.out.mono ?_
  rintro x w1 ⟨rfl, hr1, hk1⟩
  have hq1 := (h.qat.keeps hk0 (by simp)).keeps hk1 (by simpa using hne.symm)
  go_wp2_with fail
  refine (HQ.out _ hq1).mono ?_
  rintro x w2 ⟨rfl, hq2, hk2⟩
  have hr2 := hr1.keeps hk2 (by simpa using hne) (by simpa using hgq)
  have hkk : Keeps [r, q] w w2 := ((hk0.more (by simp)).step hk1 (by simp)).step hk2 (by simp)
  go_wp2_with fail
  go_ret
  exact ⟨by simp, hkk, _, _, rdErr_good hge _ _ _, hr2, hq2⟩

set_option maxHeartbeats 1000000 in
theorem one_1 (w : World) (r g cap q p : Nat) (xs : List Int) (e : Int) (h : RQ w r g cap q xs e p) (hge : GoodE e) (hgq : g ≠ q) (hx : InU8 xs) (hl : xs.length ≤ 1000000) (k n : Int) (k0 : 0 ≤ k) (hk : k % 5 = 1) :
    Calls Try.prog 12 #[.pointer (some ⟨r, 0, none⟩), .pointer (some ⟨q, 0, none⟩), .agg #[.int .u8 k, .int .i64 n]] w (OnePost r g cap q xs w) := by
  have hne := h.ne
  have hk0 : Keeps [] w (w.alloc (.cells #[.int .u8 k, .int .i64 n] 49)) := (Keeps.refl _ _).alloc _
  have hR := RU16_any _ r g cap p xs e (h.rat.keeps hk0 (by simp) (by simp)) hx hl
  have hQ := fun w' (h' : QAt w' q xs e p) => qNumber_any w' q p xs e h' hx h.rat.le hl 2 (by omega)
  obtain ⟨v0, v1⟩ := rdVal_2 hx e p
  generalize rdVal 2 xs e p = V at *
  have HR := Lib.hid hR; have HQ := Lib.hid hQ; clear hR hQ
  go_enter Try.func12, Try.ntmps12
  go_wp2_with fail
  refine HR.out.mono ?_
  rintro x w1 ⟨rfl, hr1, hk1⟩
  have hq1 := (h.qat.keeps hk0 (by simp)).keeps hk1 (by simpa using hne.symm)
  go_wp2_with fail
  refine (HQ.out _ hq1).mono ?_
  rintro x w2 ⟨rfl, hq2, hk2⟩
  have hr2 := hr1.keeps hk2 (by simpa using hne) (by simpa using hgq)
  have hkk : Keeps [r, q] w w2 := ((hk0.more (by simp)).step hk1 (by simp)).step hk2 (by simp)
  go_wp2_with fail
  go_ret
  exact ⟨by simp, hkk, _, _, rdErr_good hge _ _ _, hr2, hq2⟩

set_option maxHeartbeats 1000000 in
theorem one_2 (w : World) (r g cap q p : Nat) (xs : List Int) (e : Int) (h : RQ w r g cap q xs e p) (hge : GoodE e) (hgq : g ≠ q) (hx : InU8 xs) (hl : xs.length ≤ 1000000) (k n : Int) (k0 : 0 ≤ k) (hk : k % 5 = 2) :
    Calls Try.prog 12 #[.pointer (some ⟨r, 0, none⟩), .pointer (some ⟨q, 0, none⟩), .agg #[.int .u8 k, .int .i64 n]] w (OnePost r g cap q xs w) := by
  have hne := h.ne
  have hk0 : Keeps [] w (w.alloc (.cells #[.int .u8 k, .int .i64 n] 49)) := (Keeps.refl _ _).alloc _
  have hR := RU32_any _ r g cap p xs e (h.rat.keeps hk0 (by simp) (by simp)) hx hl
  have hQ := fun w' (h' : QAt w' q xs e p) => qNumber_any w' q p xs e h' hx h.rat.le hl 4 (by omega)
  generalize rdVal 4 xs e p = V at *
  have HR := Lib.hid hR; have HQ := Lib.hid hQ; clear hR hQ
  go_enter Try.func12, Try.ntmps12
  go_wp2_with fail
  refine HR.out.mono ?_
  rintro x w1 ⟨rfl, hr1, hk1⟩
  have hq1 := (h.qat.keeps hk0 (by simp)).keeps hk1 (by simpa using hne.symm)
  go_wp2_with fail
  refine (HQ.out _ hq1).mono ?_
  rintro x w2 ⟨rfl, hq2, hk2⟩
  have hr2 := hr1.keeps hk2 (by simpa using hne) (by simpa using hgq)
  have hkk : Keeps [r, q] w w2 := ((hk0.more (by simp)).step hk1 (by simp)).step hk2 (by simp)
  go_wp2_with fail
  go_ret
  exact ⟨by simp, hkk, _, _, rdErr_good hge _ _ _, hr2, hq2⟩

set_option maxHeartbeats 1000000 in
theorem one_3 (w : World) (r g cap q p : Nat) (xs : List Int) (e : Int) (h : RQ w r g cap q xs e p) (hge : GoodE e) (hgq : g ≠ q) (hx : InU8 xs) (hl : xs.length ≤ 1000000) (k n : Int) (k0 : 0 ≤ k) (hk : k % 5 = 3) :
    Calls Try.prog 12 #[.pointer (some ⟨r, 0, none⟩), .pointer (some ⟨q, 0, none⟩), .agg #[.int .u8 k, .int .i64 n]] w (OnePost r g cap q xs w) := by
  have hne := h.ne
  have hk0 : Keeps [] w (w.alloc (.cells #[.int .u8 k, .int .i64 n] 49)) := (Keeps.refl _ _).alloc _
  have hR := RRaw_any _ r g cap p xs e (h.rat.keeps hk0 (by simp) (by simp)) hl n
  have hQ := fun w' (h' : QAt w' q xs e p) => qRaw_any w' q p xs e h' h.rat.le hl n
  generalize strOfNums (rdRaw n.toNat xs e p) = V at *
  have HR := Lib.hid hR; have HQ := Lib.hid hQ; clear hR hQ
  have hrl := lt_of_block h.rat.blk
  have hql : q < w.heap.size := lt_of_block h.qat
  go_enter Try.func12, Try.ntmps12
  go_wp2_with fail
  refine HR.out.mono ?_
  rintro x w1 ⟨rfl, hr1, hk1⟩
  have hq1 := (h.qat.keeps hk0 (by simp)).keeps hk1 (by simpa using hne.symm)
  have cn : w1.cell? ⟨w.heap.size, 1, none⟩ = some (.int .i64 n) := hk1.cell (by simp) (by simp; omega)
  go_wp2_with fail
  refine (HQ.out _ hq1).mono ?_
  rintro x w2 ⟨rfl, hq2, hk2⟩
  have hr2 := hr1.keeps hk2 (by simpa using hne) (by simpa using hgq)
  have hkk : Keeps [r, q] w w2 := ((hk0.more (by simp)).step hk1 (by simp)).step hk2 (by simp)
  go_wp2_with fail
  go_ret
  exact ⟨by simp, hkk, _, _, rdErr_good hge _ _ _, hr2, hq2⟩
set_option maxHeartbeats 1000000 in
theorem one_4 (w : World) (r g cap q p : Nat) (xs : List Int) (e : Int) (h : RQ w r g cap q xs e p) (hge : GoodE e) (hgq : g ≠ q) (hx : InU8 xs) (hl : xs.length ≤ 1000000) (k n : Int) (k0 : 0 ≤ k) (g0 : ¬ k % 5 = 0) (g1 : ¬ k % 5 = 1) (g2 : ¬ k % 5 = 2) (g3 : ¬ k % 5 = 3) :
    Calls Try.prog 12 #[.pointer (some ⟨r, 0, none⟩), .pointer (some ⟨q, 0, none⟩), .agg #[.int .u8 k, .int .i64 n]] w (OnePost r g cap q xs w) := by
  have hne := h.ne
  have hk0 : Keeps [] w (w.alloc (.cells #[.int .u8 k, .int .i64 n] 49)) := (Keeps.refl _ _).alloc _
  have hR := RList_any _ r g cap p xs e (h.rat.keeps hk0 (by simp) (by simp)) hx hl
  have hQ := fun w' (h' : QAt w' q xs e p) => qList_any w' q p xs e h' hx h.rat.le hl
  have hlen : (rlist xs e p).length ≤ 1000000 := by
    unfold rlist
    split
    · rename_i hh
      rw [lnums_length]
      have := hh.2.2
      omega
    · simp
  generalize rlist xs e p = ls at *
  have HR := Lib.hid hR; have HQ := Lib.hid hQ; clear hR hQ
  have hrl := lt_of_block h.rat.blk
  have hql : q < w.heap.size := lt_of_block h.qat
  go_enter Try.func12, Try.ntmps12
  go_wp2_with fail
  refine HR.out.mono ?_
  rintro x w1 ⟨v1, rfl, ho1, hr1, hk1, hs1⟩
  have hq1 := (h.qat.keeps hk0 (by simp)).keeps hk1 (by simpa using hne.symm)
  go_wp2_with fail
  refine (HQ.out _ hq1).mono ?_
  rintro x w2 ⟨v2, rfl, ho2, hq2, hk2, hs2⟩
  have hr2 := hr1.keeps hk2 (by simpa using hne) (by simpa using hgq)
  have hkk : Keeps [r, q] w w2 := ((hk0.more (by simp)).step hk1 (by simp)).step hk2 (by simp)
  have ho1' := hk2.row ho1 (fun g' hg' hm => by
    simp at hm
    rcases hs1 g' hg' with h1 | h1
    · simp at h1
    · simp at h1; omega)
  obtain ⟨a1, d1, rfl, s1⟩ := row_srcAt ho1'
  obtain ⟨a2, d2, rfl, s2⟩ := row_srcAt ho2
  clear ho1 ho1' ho2 hs1 hs2
  have S1 := Lib.hid s1; have S2 := Lib.hid s2; clear s1 s2
  go_wp2_with fail
  refine (same_any _ a1 a2 _ _ d1 d2 ls rfl rfl S1.out S2.out hlen).mono ?_
  rintro x w3 ⟨rfl, hk3⟩
  go_wp2_with fail
  go_ret
  exact ⟨rfl, hkk.step hk3 (by simp), _, _, rlErr_good hge _ _, hr2.keeps hk3 (by simp) (by simp), hq2.keeps hk3 (by simp)⟩
theorem one_any (w : World) (r g cap q p : Nat) (xs : List Int) (e : Int) (h : RQ w r g cap q xs e p) (hge : GoodE e) (hgq : g ≠ q) (hx : InU8 xs) (hl : xs.length ≤ 1000000) (k n : Int) (k0 : 0 ≤ k) :
    Calls Try.prog 12 #[.pointer (some ⟨r, 0, none⟩), .pointer (some ⟨q, 0, none⟩), .agg #[.int .u8 k, .int .i64 n]] w (OnePost r g cap q xs w) := by
  by_cases g0 : k % 5 = 0
  · exact one_0 w r g cap q p xs e h hge hgq hx hl k n k0 g0
  by_cases g1 : k % 5 = 1
  · exact one_1 w r g cap q p xs e h hge hgq hx hl k n k0 g1
  by_cases g2 : k % 5 = 2
  · exact one_2 w r g cap q p xs e h hge hgq hx hl k n k0 g2
  by_cases g3 : k % 5 = 3
  · exact one_3 w r g cap q p xs e h hge hgq hx hl k n k0 g3
  exact one_4 w r g cap q p xs e h hge hgq hx hl k n k0 g0 g1 g2 g3
end Go.Proofs.Ytchenofgmmgdmaa
