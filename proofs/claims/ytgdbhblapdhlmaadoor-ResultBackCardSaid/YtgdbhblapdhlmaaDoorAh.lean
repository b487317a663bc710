/-
  The Reader's take.
-/
import Derived.Test.YtgdbhblapdhlmaaDoorAg
namespace Go.Proofs.YtgdbhblapdhlmaaDoor
open Go.RowKit
theorem RAt.keeps {w w' : World} {r g cap p : Nat} {xs : List Int} {e : Int} {F : List Nat} (h : RAt w r g cap xs e p) (hk : Keeps F w w') (hr : r ∉ F) (hg : g ∉ F) : RAt w' r g cap xs e p :=
  ⟨hk.heap h.blk hr, fun j hj => hk.cell (h.src j hj) hg, h.le, h.cap, h.ne⟩
set_option maxHeartbeats 400000 in
theorem take_err (w : World) (r g cap p : Nat) (xs : List Int) (e : Int) (h : RAt w r g cap xs e p) (he : e ≠ 0) (n : Int) :
    Calls Tryd.prog 58 #[.pointer (some ⟨r, 0, none⟩), .int .i64 n] w fun x w' => x = .returned (.slice none 0 0) ∧ w = w' := by
  have he2 : (e != 0) = true := by simpa using he
  go_enter Tryd.func58, Tryd.ntmps58
  go_wp2_with fail
  refine (Err_any _ r g cap p xs e h).mono ?_
  rintro x w1 ⟨rfl, rfl⟩
  go_wp2_with fail
  go_ret
  exact ⟨rfl, rfl⟩
set_option maxHeartbeats 400000 in
theorem take_long (w : World) (r g cap p : Nat) (xs : List Int) (h : RAt w r g cap xs 0 p) (hl : xs.length ≤ 1000000) (n : Int) (hn : (xs.length : Int) - p < n) :
    Calls Tryd.prog 58 #[.pointer (some ⟨r, 0, none⟩), .int .i64 n] w fun x w' => x = .returned (.slice none 0 0) ∧ RAt w' r g cap xs 5 p ∧ Keeps [r] w w' := by
  obtain ⟨c0, c1, c2, f0, f1, f2⟩ := cell3 h.blk
  have hp := h.le
  go_enter Tryd.func58, Tryd.ntmps58
  go_wp2_with fail
  refine (Err_any _ r g cap p xs 0 h).mono ?_
  rintro x w1 ⟨rfl, rfl⟩
  go_wp2_with fail
  refine (Left_any _ r g cap p xs 0 h hl).mono ?_
  rintro x w1 ⟨rfl, m, rfl⟩
  replace h := h.drewN m
  have hk : Keeps [r] w (w.drewN m) := (Keeps.refl _ _).drewN _
  clear c0 c1 c2 f0 f1 f2
  generalize w.drewN m = w1 at *
  obtain ⟨c0, c1, c2, f0, f1, f2⟩ := cell3 h.blk
  go_wp2_with fail
  go_ret
  exact ⟨rfl, ⟨set3_1 h.blk _, fun j hj => ((Keeps.refl [r] _).setCell _ _ (by simp)).cell (h.src j hj) (by simpa using h.ne), h.le, h.cap, h.ne⟩, hk.setCell _ _ (by simp)⟩
set_option maxHeartbeats 400000 in
theorem take_ok (w : World) (r g cap p : Nat) (xs : List Int) (h : RAt w r g cap xs 0 p) (hl : xs.length ≤ 1000000) (n : Nat) (hn : p + n ≤ xs.length) :
    Calls Tryd.prog 58 #[.pointer (some ⟨r, 0, none⟩), .int .i64 n] w fun x w' => (∃ o c, x = .returned (.slice (some ⟨g, o, none⟩) n c) ∧ n ≤ c ∧ ∀ j, j < n → w.cell? ⟨g, o + j, none⟩ = some (.int .u8 (xs.getD (p + j) 0))) ∧ RAt w' r g cap xs 0 (p + n) ∧ Keeps [r] w w' := by
  obtain ⟨c0, c1, c2, f0, f1, f2⟩ := cell3 h.blk
  have hp := h.le
  have h0 := h
  have hcap := h.cap
  have hn1 : ¬ (xs.length : Int) - p < n := by omega
  go_enter Tryd.func58, Tryd.ntmps58
  go_wp2_with fail
  refine (Err_any _ r g cap p xs 0 h).mono ?_
  rintro x w1 ⟨rfl, rfl⟩
  go_wp2_with fail
  refine (Left_any _ r g cap p xs 0 h hl).mono ?_
  rintro x w1 ⟨rfl, m, rfl⟩
  replace h := h.drewN m
  have hk : Keeps [r] w (w.drewN m) := (Keeps.refl _ _).drewN _
  clear c0 c1 c2 f0 f1 f2
  generalize w.drewN m = w1 at *
  obtain ⟨c0, c1, c2, f0, f1, f2⟩ := cell3 h.blk
  go_wp2_with fail
  go_quiet (fail)
  obtain ⟨o, ho, ho2⟩ : ∃ o, (if cap = p then some (⟨g, 0, none⟩ : Addr) else some ⟨g, p, none⟩) = some ⟨g, o, none⟩ ∧ (n = 0 ∨ o = p) := by
    by_cases hc : cap = p
    · exact ⟨0, by rw [if_pos hc], .inl (by omega)⟩
    · exact ⟨p, by rw [if_neg hc], .inr rfl⟩
  rw [ho]
  have HO := Lib.hid ho2; clear ho ho2
  replace h := h.drewN nq
  replace hk : Keeps [r] w (w1.drewN nq) := hk.drewN nq
  clear c0 c1 c2 f0 f1 f2
  generalize w1.drewN nq = w2 at *
  obtain ⟨c0, c1, c2, f0, f1, f2⟩ := cell3 h.blk
  go_wp2_with fail
  go_ret
  have hsrc := h0.src
  refine ⟨⟨o, cap - p, rfl, by omega, fun j hj => ?_⟩, ⟨?_, fun j hj => ((Keeps.refl [r] _).setCell _ _ (by simp)).cell (h.src j hj) (by simpa using h.ne), by omega, h.cap, h.ne⟩, hk.setCell _ _ (by simp)⟩
  · rcases HO.out with h1 | rfl
    · omega
    · exact hsrc (o + j) (by omega)
  · have := set3_2 h.blk (.int .i64 ((p : Int) + n))
    simpa using this
end Go.Proofs.YtgdbhblapdhlmaaDoor
