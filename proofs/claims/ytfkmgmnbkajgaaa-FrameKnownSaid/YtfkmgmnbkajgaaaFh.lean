/-
  The Cutter, by what was fed to it (S) and where the next frame begins (p): New, Feed, Fed.
-/
import Derived.Test.YtfkmgmnbkajgaaaFg
namespace Go.Proofs.Ytfkmgmnbkajgaaa
open Go.RowKit
/-- The Cutter at block b, all of whose blocks are F. -/
def CAt (w : World) (b : Nat) (F : List Nat) (S : List UInt8) (p : Nat) : Prop :=
  (w.heap[b]? = some (CC (.slice none 0 0) (.int .i64 0) (.pointer none) (.int .i64 0) (.int .i64 0) (.bool true) (.bool false)) ∧ S = [] ∧ p = 0 ∧ F = [b]) ∨
  (∃ k v l gone, Pieces w b k v l gone (.int .i64 S.length) (.int .i64 p) (.bool true) (.bool false) ∧ l.drop gone = S.drop p ∧ l.length ≤ S.length ∧ p ≤ S.length ∧ F = b :: k :: own v) ∨
  (w.heap[b]? = some (CC (.slice none 0 0) (.int .i64 0) (.pointer none) (.int .i64 S.length) (.int .i64 p) (.bool true) (.bool true)) ∧ tellOf (S.drop p) = 2 ∧ p ≤ S.length ∧ F = [b])
theorem CAt.mem {w : World} {b : Nat} {F : List Nat} {S : List UInt8} {p : Nat} (h : CAt w b F S p) : b ∈ F := by
  rcases h with ⟨_, _, _, rfl⟩ | ⟨k, v, l, gone, _, _, _, _, rfl⟩ | ⟨_, _, _, rfl⟩ <;> simp
theorem CAt.lt {w : World} {b : Nat} {F : List Nat} {S : List UInt8} {p : Nat} (h : CAt w b F S p) : ∀ g ∈ F, g < w.heap.size := by
  intro g hg
  rcases h with ⟨h1, _, _, rfl⟩ | ⟨k, v, l, gone, h1, _, _, _, rfl⟩ | ⟨h1, _, _, rfl⟩
  · simp at hg; subst hg; exact lt_of_block h1
  · simp only [List.mem_cons] at hg
    rcases hg with rfl | rfl | hg
    · exact lt_of_block h1.blk
    · exact lt_of_block h1.used
    · exact row_lt h1.row g hg
  · simp at hg; subst hg; exact lt_of_block h1
theorem CAt.keeps {w w' : World} {b : Nat} {F G : List Nat} {S : List UInt8} {p : Nat} (h : CAt w b F S p) (hk : Keeps G w w') (hG : ∀ g ∈ F, g ∉ G) : CAt w' b F S p := by
  rcases h with ⟨h1, h2, h3, rfl⟩ | ⟨k, v, l, gone, h1, h2, h3, h4, rfl⟩ | ⟨h1, h2, h3, rfl⟩
  · exact .inl ⟨hk.heap h1 (hG b (by simp)), h2, h3, rfl⟩
  · exact .inr (.inl ⟨k, v, l, gone, h1.keeps hk (hG b (by simp)) (hG k (by simp)) (fun g hg => hG g (by simp [hg])), h2, h3, h4, rfl⟩)
  · exact .inr (.inr ⟨hk.heap h1 (hG b (by simp)), h2, h3, rfl⟩)
theorem CAt.le {w : World} {b : Nat} {F : List Nat} {S : List UInt8} {p : Nat} (h : CAt w b F S p) : p ≤ S.length := by
  rcases h with ⟨_, rfl, rfl, _⟩ | ⟨k, v, l, gone, _, _, _, h, _⟩ | ⟨_, _, h, _⟩
  · simp
  · exact h
  · exact h
theorem cat_new (w : World) : CAt (w.alloc (.cells #[.slice none 0 0, .int .i64 0, .pointer none, .int .i64 0, .int .i64 0, .bool true, .bool false] 56)) w.heap.size [w.heap.size] [] 0 :=
  .inl ⟨heap_alloc_new _ _, rfl, rfl, rfl⟩
/-- Its cells that are told. -/
theorem CAt.cells {w : World} {b : Nat} {F : List Nat} {S : List UInt8} {p : Nat} (h : CAt w b F S p) : w.cell? ⟨b, 3, none⟩ = some (.int .i64 S.length) ∧ w.cell? ⟨b, 4, none⟩ = some (.int .i64 p) ∧ w.cell? ⟨b, 5, none⟩ = some (.bool true) ∧ w.frozen? ⟨b, 3, none⟩ = false ∧ w.frozen? ⟨b, 4, none⟩ = false := by
  rcases h with ⟨h1, rfl, rfl, _⟩ | ⟨k, v, l, gone, h1, _, _, _, _⟩ | ⟨h1, _, _, _⟩
  · obtain ⟨c0, c1, c2, c3, c4, c5, c6⟩ := cell7 h1
    obtain ⟨f0, f1, f2, f3, f4, f5, f6⟩ := free7 h1
    exact ⟨c3, c4, c5, f3, f4⟩
  · obtain ⟨c0, c1, c2, c3, c4, c5, c6⟩ := cell7 h1.blk
    obtain ⟨f0, f1, f2, f3, f4, f5, f6⟩ := free7 h1.blk
    exact ⟨c3, c4, c5, f3, f4⟩
  · obtain ⟨c0, c1, c2, c3, c4, c5, c6⟩ := cell7 h1
    obtain ⟨f0, f1, f2, f3, f4, f5, f6⟩ := free7 h1
    exact ⟨c3, c4, c5, f3, f4⟩
set_option maxHeartbeats 400000 in
theorem Fed_any (w : World) (b : Nat) (F : List Nat) (S : List UInt8) (p : Nat) (h : CAt w b F S p) : Calls Try.prog 19 #[.pointer (some ⟨b, 0, none⟩)] w fun e w' => e = .returned (.int .i64 S.length) ∧ w = w' := by
  obtain ⟨c3, c4, c5, f3, f4⟩ := h.cells
  go_enter Try.func19, Try.ntmps19
  go_wp2
  go_ret
  exact ⟨rfl, rfl⟩
set_option maxHeartbeats 1000000 in
theorem Feed_bad (w : World) (b : Nat) (S : List UInt8) (p : Nat) (s : ByteArray) (hb : w.heap[b]? = some (CC (.slice none 0 0) (.int .i64 0) (.pointer none) (.int .i64 S.length) (.int .i64 p) (.bool true) (.bool true))) (hl : S.length + s.size ≤ 1000000) :
    Calls Try.prog 16 #[.pointer (some ⟨b, 0, none⟩), .string s] w fun e w' => e = .returned (.tuple #[]) ∧ w'.heap[b]? = some (CC (.slice none 0 0) (.int .i64 0) (.pointer none) (.int .i64 (S ++ s.data.toList).length) (.int .i64 p) (.bool true) (.bool true)) ∧ Keeps [b] w w' := by
  obtain ⟨c0, c1, c2, c3, c4, c5, c6⟩ := cell7 hb
  obtain ⟨f0, f1, f2, f3, f4, f5, f6⟩ := free7 hb
  have HB := Lib.hid hb; clear hb
  go_enter Try.func16, Try.ntmps16
  go_wp2
  go_end0
  refine ⟨rfl, ?_, (Keeps.refl _ _).setCell _ _ (by simp)⟩
  have e : ((S ++ s.data.toList).length : Int) = (S.length : Int) + s.size := by simp
  rw [e]
  exact set7_3 HB.out _
set_option maxHeartbeats 1000000 in
theorem Feed_new (w : World) (b : Nat) (s : ByteArray) (hb : w.heap[b]? = some (CC (.slice none 0 0) (.int .i64 0) (.pointer none) (.int .i64 0) (.int .i64 0) (.bool true) (.bool false))) (hl : s.size ≤ 1000000) :
    Calls Try.prog 16 #[.pointer (some ⟨b, 0, none⟩), .string s] w fun e w' => e = .returned (.tuple #[]) ∧ Added b [b] s.data.toList 0 (.int .i64 s.size) (.int .i64 0) (.bool true) (.bool false) w w' := by
  obtain ⟨c0, c1, c2, c3, c4, c5, c6⟩ := cell7 hb
  obtain ⟨f0, f1, f2, f3, f4, f5, f6⟩ := free7 hb
  have HB := Lib.hid hb; clear hb
  go_enter Try.func16, Try.ntmps16
  go_wp2_with fail
  refine (add_new _ b _ _ _ _ (set7_3 HB.out _) s hl).mono ?_; rintro e w1 ⟨rfl, k, v, h1, hk, hfs⟩
  go_wp2
  go_end0
  exact ⟨rfl, k, v, h1, ((Keeps.refl [b] w).setCell _ _ (by simp)).step hk (fun _ h => h), by simpa using hfs⟩
set_option maxHeartbeats 1000000 in
theorem Feed_live (w : World) (b k gone : Nat) (v : Value) (l S : List UInt8) (p : Nat) (s : ByteArray) (h : Pieces w b k v l gone (.int .i64 S.length) (.int .i64 p) (.bool true) (.bool false)) (hl : S.length + s.size ≤ 1000000) (hlS : l.length ≤ S.length) :
    Calls Try.prog 16 #[.pointer (some ⟨b, 0, none⟩), .string s] w fun e w' => e = .returned (.tuple #[]) ∧ Added b (b :: k :: own v) (l ++ s.data.toList) gone (.int .i64 (S ++ s.data.toList).length) (.int .i64 p) (.bool true) (.bool false) w w' := by
  obtain ⟨c0, c1, c2, c3, c4, c5, c6⟩ := cell7 h.blk
  obtain ⟨f0, f1, f2, f3, f4, f5, f6⟩ := free7 h.blk
  have hkb := h.ne
  have hneb := row_ne h.row h.blk (by decide)
  have h1 : Pieces (w.setCell ⟨b, 3, none⟩ (.int .i64 ((S.length : Int) + s.size))) b k v l gone (.int .i64 ((S.length : Int) + s.size)) (.int .i64 p) (.bool true) (.bool false) :=
    ⟨set7_3 h.blk _, by rw [heap_setCell_other _ _ _ _ (by simpa using hkb)]; exact h.used, ((Keeps.refl [b] _).setCell _ _ (by simp)).row h.row (fun g hg => by simpa using hneb g hg), h.le⟩
  have H1 := Lib.hid h1
  have e : ((S ++ s.data.toList).length : Int) = (S.length : Int) + s.size := by simp
  rw [e]
  clear h h1 hneb e
  go_enter Try.func16, Try.ntmps16
  go_wp2_with fail
  refine (add_live _ b k gone v _ _ _ _ l H1.out s (by omega)).mono ?_; rintro e w1 ⟨rfl, k', v', h1, hk, hfs⟩
  go_wp2
  go_end0
  exact ⟨rfl, k', v', h1, ((Keeps.refl _ w).setCell ⟨b, 3, none⟩ _ (.inl (by simp))).step hk (fun _ h => h), by simpa using hfs⟩
/-- Feed, of any Cutter. -/
theorem Feed_any (w : World) (b : Nat) (F : List Nat) (S : List UInt8) (p : Nat) (h : CAt w b F S p) (s : ByteArray) (hl : S.length + s.size ≤ 1000000) :
    Calls Try.prog 16 #[.pointer (some ⟨b, 0, none⟩), .string s] w fun e w' => e = .returned (.tuple #[]) ∧ ∃ F', CAt w' b F' (S ++ s.data.toList) p ∧ Keeps F w w' ∧ FSub F' F w.heap.size := by
  rcases h with ⟨h1, rfl, rfl, rfl⟩ | ⟨k, v, l, gone, h1, h2, h3, h4, rfl⟩ | ⟨h1, h2, h3, rfl⟩
  · refine (Feed_new w b s h1 (by simpa using hl)).mono fun e w' ⟨he, k, v, hp, hk, hs⟩ => ?_
    refine ⟨he, b :: k :: own v, .inr (.inl ⟨k, v, s.data.toList, 0, by simpa using hp, by simp, by simp, by simp, rfl⟩), hk, hs⟩
  · refine (Feed_live w b k gone v l S p s h1 hl h3).mono fun e w' ⟨he, k', v', hp, hk, hs⟩ => ?_
    refine ⟨he, b :: k' :: own v', .inr (.inl ⟨k', v', _, gone, hp, ?_, by simp; omega, by simp; omega, rfl⟩), hk, hs⟩
    rw [List.drop_append_of_le_length h1.le, List.drop_append_of_le_length h4, h2]
  · refine (Feed_bad w b S p s h1 hl).mono fun e w' ⟨he, hp, hk⟩ => ?_
    refine ⟨he, [b], .inr (.inr ⟨hp, ?_, by simp; omega, rfl⟩), hk, FSub.refl _ _⟩
    rw [List.drop_append_of_le_length h3, tell_app _ _ (by omega)]
    exact h2
set_option maxHeartbeats 400000 in
theorem Feed_nil (w : World) (s : ByteArray) : Calls Try.prog 16 #[.pointer none, .string s] w fun e w' => e = .returned (.tuple #[]) ∧ w = w' := by
  go_enter Try.func16, Try.ntmps16
  go_wp2
  exact bodyPost_ret (results_none rfl _ _ _) rfl ⟨rfl, rfl⟩
set_option maxHeartbeats 400000 in
theorem Feed_zero (w : World) (b : Nat) (s : ByteArray) (c5 : w.cell? ⟨b, 5, none⟩ = some (.bool false)) : Calls Try.prog 16 #[.pointer (some ⟨b, 0, none⟩), .string s] w fun e w' => e = .returned (.tuple #[]) ∧ w = w' := by
  go_enter Try.func16, Try.ntmps16
  go_wp2
  exact bodyPost_ret (results_none rfl _ _ _) rfl ⟨rfl, rfl⟩
set_option maxHeartbeats 400000 in
theorem Fed_nil (w : World) : Calls Try.prog 19 #[.pointer none] w fun e w' => e = .returned (.int .i64 0) ∧ w = w' := by
  go_enter Try.func19, Try.ntmps19
  go_wp2
  go_ret
  exact ⟨rfl, rfl⟩
set_option maxHeartbeats 400000 in
theorem Fed_zero (w : World) (b : Nat) (c3 : w.cell? ⟨b, 3, none⟩ = some (.int .i64 0)) : Calls Try.prog 19 #[.pointer (some ⟨b, 0, none⟩)] w fun e w' => e = .returned (.int .i64 0) ∧ w = w' := by
  go_enter Try.func19, Try.ntmps19
  go_wp2
  go_ret
  exact ⟨rfl, rfl⟩
end Go.Proofs.Ytfkmgmnbkajgaaa
