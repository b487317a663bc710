/-
  Next, of any Cutter; tells, bad, works.
-/
import Derived.Test.YtfkmgmnbkajgaaaFi
namespace Go.Proofs.Ytfkmgmnbkajgaaa
open Go.RowKit
/-- Next, of any Cutter. -/
theorem Next_any (w : World) (b : Nat) (F : List Nat) (S : List UInt8) (p : Nat) (h : CAt w b F S p) (hl : S.length ≤ 1000000) :
    Calls Try.prog 17 #[.pointer (some ⟨b, 0, none⟩)] w fun e w' => e = .returned (.tuple #[.string (bs (payOf (S.drop p))), .int .i64 p, .int .i64 (tellOf (S.drop p))]) ∧
      ∃ F', CAt w' b F' S (p + sizeOf1 (S.drop p)) ∧ Keeps F w w' ∧ FSub F' F w.heap.size := by
  have hp := h.le
  have h0 := h
  rcases h with ⟨h1, rfl, rfl, rfl⟩ | ⟨k, v, l, gone, h1, h2, h3, h4, rfl⟩ | ⟨h1, h2, h3, rfl⟩
  · have t : tellOf (([] : List UInt8).drop 0) = 0 := by decide
    refine (Next_new w b h1).mono fun e w' ⟨he, hk⟩ => ?_
    rw [t, (size_none (l := ([] : List UInt8).drop 0) (by rw [t]; decide)).1, (size_none (l := ([] : List UInt8).drop 0) (by rw [t]; decide)).2]
    exact ⟨he, [b], h0.keeps hk (by simp), hk.more (by simp), FSub.refl _ _⟩
  · have hml : (S.drop p).length ≤ 1000000 := by simp; omega
    rcases tell_cases (S.drop p) with t | t | t
    · refine (Next_more w b k gone p v _ l _ h1 h2 hml t).mono fun e w' ⟨he, hk⟩ => ?_
      rw [t, (size_none (l := S.drop p) (by omega)).1, (size_none (l := S.drop p) (by omega)).2]
      exact ⟨he, _, h0.keeps hk (by simp), hk.more (by simp), FSub.refl _ _⟩
    · have hz := (size_one t).2.2.1
      refine (Next_one w b k gone p _ v _ l _ h1 h2 (by omega) (by omega) t rfl).mono fun e w' ⟨he, k4, v4, l4, gone4, hp4, hr4, hl4, hk4, hs4⟩ => ?_
      rw [t]
      simp only [List.length_drop] at hz
      refine ⟨he, b :: k4 :: own v4, .inr (.inl ⟨k4, v4, l4, gone4, by simpa using hp4, by rw [hr4, List.drop_drop], by omega, by omega, rfl⟩), hk4, hs4⟩
    · refine (Next_two w b k gone p v _ l _ h1 h2 hml t).mono fun e w' ⟨he, hb, hk⟩ => ?_
      rw [t, (size_none (l := S.drop p) (by omega)).1, (size_none (l := S.drop p) (by omega)).2]
      exact ⟨he, [b], .inr (.inr ⟨hb, t, h4, rfl⟩), hk.more (by simp), fun g hg => .inl (by simp at hg; simp [hg])⟩
  · refine (Next_bad w b p _ _ _ _ h1).mono fun e w' ⟨he, hw⟩ => ?_
    subst hw
    rw [h2, (size_none (l := S.drop p) (by omega)).1, (size_none (l := S.drop p) (by omega)).2]
    exact ⟨he, [b], h0, Keeps.refl _ _, FSub.refl _ _⟩
set_option maxHeartbeats 400000 in
theorem Next_nil (w : World) : Calls Try.prog 17 #[.pointer none] w fun e w' => e = .returned (.tuple #[.string ⟨#[]⟩, .int .i64 0, .int .i64 2]) ∧ w = w' := by
  go_enter Try.func17, Try.ntmps17
  go_wp2
  exact bodyPost_ret (v := .tuple #[.string ⟨#[]⟩, .int .i64 0, .int .i64 2]) (by simp [results, Try.results17, go_sem]) rfl ⟨rfl, rfl⟩
set_option maxHeartbeats 400000 in
theorem Next_zero (w : World) (b : Nat) (c4 : w.cell? ⟨b, 4, none⟩ = some (.int .i64 0)) (c5 : w.cell? ⟨b, 5, none⟩ = some (.bool false)) : Calls Try.prog 17 #[.pointer (some ⟨b, 0, none⟩)] w fun e w' => e = .returned (.tuple #[.string ⟨#[]⟩, .int .i64 0, .int .i64 2]) ∧ w = w' := by
  go_enter Try.func17, Try.ntmps17
  go_wp2
  exact bodyPost_ret (v := .tuple #[.string ⟨#[]⟩, .int .i64 0, .int .i64 2]) (by simp [results, Try.results17, go_sem]) rfl ⟨rfl, rfl⟩
set_option maxHeartbeats 1000000 in
/-- tells, of what Next tells. -/
theorem tells_of (w : World) (v : Value) (s : ByteArray) (a t : Int) (Q : World → Prop) (h : Calls Try.prog 17 #[v] w fun e w' => e = .returned (.tuple #[.string s, .int .i64 a, .int .i64 t]) ∧ Q w') :
    Calls Try.prog 20 #[v, .string s, .int .i64 a, .int .i64 t] w fun e w' => e = .returned (.bool true) ∧ Q w' := by
  have H := Lib.hid h; clear h
  go_enter Try.func20, Try.ntmps20
  go_wp2_with fail
  refine H.out.mono ?_; rintro e w1 ⟨rfl, hq⟩
  have HQ := Lib.hid hq; clear hq
  go_wp2
  go_ret
  exact ⟨rfl, HQ.out⟩
theorem tells_any (w : World) (b : Nat) (F : List Nat) (S : List UInt8) (p : Nat) (h : CAt w b F S p) (hl : S.length ≤ 1000000) (s : ByteArray) (a t : Int) (h1 : s = bs (payOf (S.drop p))) (h2 : a = p) (h3 : t = tellOf (S.drop p)) :
    Calls Try.prog 20 #[.pointer (some ⟨b, 0, none⟩), .string s, .int .i64 a, .int .i64 t] w fun e w' => e = .returned (.bool true) ∧ ∃ F', CAt w' b F' S (p + sizeOf1 (S.drop p)) ∧ Keeps F w w' ∧ FSub F' F w.heap.size := by
  subst h1; subst h2; subst h3
  exact tells_of w _ _ _ _ _ (Next_any w b F S p h hl)
/-- tells, where no frame is cut. -/
theorem tells_none (w : World) (b : Nat) (F : List Nat) (S : List UInt8) (p : Nat) (h : CAt w b F S p) (hl : S.length ≤ 1000000) (a t : Int) (h2 : a = p) (h3 : t = tellOf (S.drop p)) (h4 : tellOf (S.drop p) ≠ 1) :
    Calls Try.prog 20 #[.pointer (some ⟨b, 0, none⟩), .string ⟨#[]⟩, .int .i64 a, .int .i64 t] w fun e w' => e = .returned (.bool true) ∧ ∃ F', CAt w' b F' S p ∧ Keeps F w w' ∧ FSub F' F w.heap.size := by
  have h := tells_any w b F S p h hl ⟨#[]⟩ a t (by rw [(size_none h4).2]; rfl) h2 h3
  rw [(size_none h4).1] at h
  exact h
theorem lone_new (w : World) : Keeps [] w (w.alloc (.cells #[.slice none 0 0, .int .i64 0, .pointer none, .int .i64 0, .int .i64 0, .bool true, .bool false] 56)) := (Keeps.refl _ _).alloc _
/-- What one's own blocks keep. -/
theorem Keeps.fresh {F F' : List Nat} {a b c : World} (h : Keeps [] a b) (hF : FSub F [] a.heap.size) (k : Keeps F b c) (hs : FSub F' F b.heap.size) : Keeps [] a c ∧ FSub F' [] a.heap.size :=
  ⟨h.trans k hF, hs.trans hF h.size (Nat.le_refl _)⟩
set_option maxHeartbeats 1000000 in
theorem bad_yes (w : World) (s : ByteArray) (hs : s.size ≤ 1000000) (ht : tellOf s.data.toList = 2) :
    Calls Try.prog 22 #[.string s] w fun e w' => e = .returned (.bool true) ∧ Keeps [] w w' := by
  have hl : s.data.toList.length ≤ 1000000 := by simpa using hs
  have HT := Lib.hid ht; clear ht
  have HL := Lib.hid hl; clear hl
  go_enter Try.func22, Try.ntmps22
  go_wp2_with fail
  refine (New_any w).mono ?_; rintro e w1 ⟨rfl, hw⟩
  have hc := cat_new w
  have hk := lone_new w
  rw [← hw] at hc hk
  have hf : FSub [w.heap.size] [] w.heap.size := fun g hg => .inr (by simp at hg; omega)
  clear hw
  go_wp2_with fail
  refine (Feed_any w1 _ _ _ _ hc s (by simpa using hs)).mono ?_; rintro e w2 ⟨rfl, F2, hc2, hk2, hs2⟩
  obtain ⟨hk2', hf2⟩ := hk.fresh hf hk2 hs2
  clear hc hk hf hk2 hs2
  go_wp2_with fail
  refine (tells_none w2 _ F2 _ 0 hc2 (by simpa using HL.out) 0 2 rfl (by simpa using congrArg Int.ofNat HT.out.symm) (by simpa using (by rw [HT.out]; decide))).mono ?_; rintro e w3 ⟨rfl, F3, hc3, hk3, hs3⟩
  obtain ⟨hk3', hf3⟩ := hk2'.fresh hf2 hk3 hs3
  clear hc2 hk2' hf2 hk3 hs3
  go_wp2_with fail
  refine (tells_none w3 _ F3 _ 0 hc3 (by simpa using HL.out) 0 2 rfl (by simpa using congrArg Int.ofNat HT.out.symm) (by simpa using (by rw [HT.out]; decide))).mono ?_; rintro e w4 ⟨rfl, F4, hc4, hk4, hs4⟩
  obtain ⟨hk4', hf4⟩ := hk3'.fresh hf3 hk4 hs4
  go_wp2
  go_ret
  exact ⟨rfl, hk4'⟩
end Go.Proofs.Ytfkmgmnbkajgaaa
