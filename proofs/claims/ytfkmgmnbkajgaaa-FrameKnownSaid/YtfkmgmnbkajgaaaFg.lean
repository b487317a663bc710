/-
  The Cutter's pieces: drop; New, Feed, Fed, by what was fed and where the next frame begins.
-/
import Derived.Test.YtfkmgmnbkajgaaaFf
namespace Go.Proofs.Ytfkmgmnbkajgaaa
open Go.RowKit
/-- What drop leaves. -/
def Dropped (b : Nat) (G : List Nat) (N : Nat) (rest : List UInt8) (x3 x4 x5 x6 : Value) (w w' : World) : Prop :=
  ∃ k v l gone, Pieces w' b k v l gone x3 x4 x5 x6 ∧ l.drop gone = rest ∧ l.length ≤ N ∧ Keeps G w w' ∧ FSub (b :: k :: own v) G w.heap.size
set_option maxHeartbeats 1000000 in
theorem drop_live (w : World) (b k gone n : Nat) (v x3 x4 x5 x6 : Value) (l : List UInt8) (h : Pieces w b k v l gone x3 x4 x5 x6) (hn : 0 < n) (hgn : gone + n ≤ l.length) (hl : l.length ≤ 1000000) :
    Calls Try.prog 28 #[.pointer (some ⟨b, 0, none⟩), .int .i64 n] w fun e w' => e = .returned (.tuple #[]) ∧ Dropped b (b :: k :: own v) l.length (l.drop (gone + n)) x3 x4 x5 x6 w w' := by
  have hkb := h.ne
  have hb1 : gone ≤ 1000000 := by omega
  have hb2 : n ≤ 1000000 := by omega
  obtain ⟨g, cap, rfl, hc1, hc2⟩ : ∃ g cap, v = .slice (some ⟨g, 0, none⟩) l.length cap ∧ l.length ≤ cap ∧ cap ≤ maxLen := by
    rcases own_form h.row with ⟨_, h0⟩ | h1
    · omega
    · exact h1
  obtain ⟨c0, c1, c2, c3, c4, c5, c6⟩ := cell7 h.blk
  obtain ⟨f0, f1, f2, f3, f4, f5, f6⟩ := free7 h.blk
  have hneb := row_ne h.row h.blk (by decide)
  have h1 : Pieces (w.setCell ⟨b, 1, none⟩ (.int .i64 ((gone : Int) + n))) b k (.slice (some ⟨g, 0, none⟩) l.length cap) l (gone + n) x3 x4 x5 x6 :=
    ⟨by have := set7_1 h.blk (.int .i64 ((gone : Int) + n)); simpa using this, by rw [heap_setCell_other _ _ _ _ (by simpa using hkb)]; exact h.used, ((Keeps.refl [b] _).setCell _ _ (by simp)).row h.row (fun g hg => by simpa using hneb g hg), hgn⟩
  have HK1 := Lib.hid (show Keeps (b :: k :: own (.slice (some ⟨g, 0, none⟩) l.length cap)) w (w.setCell ⟨b, 1, none⟩ (.int .i64 ((gone : Int) + n))) from (Keeps.refl _ _).setCell _ _ (.inl (by simp)))
  have H1 := Lib.hid h1
  clear h h1 hneb
  obtain ⟨q, hq⟩ : ∃ q : Nat, q = gone + n := ⟨_, rfl⟩
  have hq' : (gone : Int) + n = (q : Int) := by omega
  rw [← hq] at H1 hgn ⊢
  have HQ : Hid ((gone : Int) + n = (q : Int)) := Lib.hid hq'
  obtain ⟨W1, hW1⟩ : ∃ W1, W1 = w.setCell ⟨b, 1, none⟩ (.int .i64 ((gone : Int) + n)) := ⟨_, rfl⟩
  rw [← hW1] at H1 HK1
  have HW1 := Lib.hid hW1; clear hW1 hq hq'
  go_enter Try.func28, Try.ntmps28
  go_wp2_with fail
  rw [← HW1.out]
  clear c0 c1 c2 c3 c4 c5 c6 f0 f1 f2 f3 f4 f5 f6
  obtain ⟨c0, c1, c2, c3, c4, c5, c6⟩ := cell7 H1.out.blk
  obtain ⟨o, ho, hle, _⟩ := leftV_src H1.out.row hgn rfl
  have HO := Lib.hid ho; clear ho
  have hll : (l.drop q).length ≤ 1000000 := by simp; omega
  have hlq : q + (l.drop q).length = l.length := by simp; omega
  have HL : Hid (∀ j, Calls Try.prog 27 #[.pointer (some ⟨b, 0, none⟩)] (W1.drewN j) fun e w' => e = .returned (.slice (some ⟨g, o, none⟩) (l.drop q).length (cap - q)) ∧ ∃ k, w' = (W1.drewN j).drewN k) := Lib.hid fun j => by
    rw [← HO.out]; exact left_some _ b g l.length cap q hgn hc1 hc2 c0 c1
  clear HO
  generalize hm : l.drop q = m at *
  have HM := Lib.hid hm; clear hm
  go_quiet ((go_at_call 27; exact Calls.quiet_of (HL.out _)))
  have hkd : Keeps (b :: k :: own (.slice (some ⟨g, 0, none⟩) l.length cap)) w (W1.drewN nq) := HK1.out.drewN _
  have H2 : Hid (Pieces (W1.drewN nq) b k (.slice (some ⟨g, 0, none⟩) l.length cap) l q x3 x4 x5 x6) := Lib.hid (H1.out.keeps ((Keeps.refl [] _).drewN _) (by simp) (by simp) (by simp))
  clear c0 c1 c2 c3 c4 c5 c6 H1 HK1 HW1
  have HK := Lib.hid hkd; clear hkd
  generalize W1.drewN nq = w2 at *
  by_cases hgt : m.length < q
  · go_wp2_with fail
    refine (move_some w2 b g l.length cap q l _ x3 x4 x5 x6 H2.out.blk H2.out.row hgn rfl hl).mono ?_; rintro e w3 ⟨rfl, hmv⟩
    go_wp2_with fail
    go_end0
    obtain ⟨k', v', hp, hk', hge, hfs⟩ := Pieces.moved hmv
    have hs := HK.out.size
    rw [HM.out] at hp
    rw [HM.out]
    refine ⟨rfl, k', v', m, 0, hp, by simp, by omega, HK.out.step hk' (by simp), fun g' hg => ?_⟩
    simp only [List.mem_cons] at hg
    rcases hg with rfl | rfl | hg
    · exact .inl (by simp)
    · exact .inr (by omega)
    · exact (hfs g' hg).elim (fun h => by simp at h) (fun h => .inr (by omega))
  · go_wp2_with fail
    go_end0
    exact ⟨rfl, k, _, l, q, H2.out, rfl, Nat.le_refl _, HK.out, FSub.refl _ _⟩
end Go.Proofs.Ytfkmgmnbkajgaaa
