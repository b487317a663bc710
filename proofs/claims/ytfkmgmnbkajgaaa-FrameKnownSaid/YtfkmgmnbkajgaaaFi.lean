/-
  Next, by what was fed and where the next frame begins.
-/
import Derived.Test.YtfkmgmnbkajgaaaFh
namespace Go.Proofs.Ytfkmgmnbkajgaaa
open Go.RowKit
theorem left_any (w : World) (b k gone : Nat) (v x3 x4 x5 x6 : Value) (l m : List UInt8) (h : Pieces w b k v l gone x3 x4 x5 x6) (hm : l.drop gone = m) :
    ∃ a c, (Calls Try.prog 27 #[.pointer (some ⟨b, 0, none⟩)] w fun e w' => e = .returned (.slice a m.length c) ∧ ∃ k, w' = w.drewN k) ∧ Src8 w a m ∧ m.length ≤ c ∧ c ≤ maxLen ∧ ∀ g o, a = some ⟨g, o, none⟩ → g ∈ own v := by
  subst hm
  obtain ⟨c0, c1, c2, c3, c4, c5, c6⟩ := cell7 h.blk
  rcases own_form h.row with ⟨rfl, h0⟩ | ⟨g, cap, rfl, hc1, hc2⟩
  · have hl : l = [] := List.length_eq_zero_iff.1 h0
    have hg : gone = 0 := by have := h.le; omega
    subst hl; subst hg
    exact ⟨none, 0, left_none w b c0 c1, .inl (by simp), by simp, by simp [maxLen], fun g o e => by simp at e⟩
  · obtain ⟨o, ho, hle, hs⟩ := leftV_src h.row h.le rfl
    refine ⟨some ⟨g, o, none⟩, cap - gone, ?_, .inr ⟨g, o, rfl, hs⟩, hle, by omega, fun g' o' e => ?_⟩
    · rw [← ho]; exact left_some w b g l.length cap gone h.le hc1 hc2 c0 c1
    · simp at e; rw [← e.1]; simp [own, Value.ownBlock]
theorem look_more (w : World) (a : Option Addr) (n c : Nat) (l : List UInt8) (hn : n = l.length) (hs : Src8 w a l) (hc : n ≤ c) (hl : n ≤ 1000000000) (ht : tellOf l = 0) :
    Calls Try.prog 26 #[.slice a n c] w fun e w' => e = .returned (.tuple #[.int .i64 0, .int .i64 0]) ∧ Keeps [] w w' :=
  (look_any w a n c l hn hs hc hl).mono fun e w' ⟨he, hk⟩ => ⟨by rw [he, ht, (size_none (by omega)).1]; rfl, hk⟩
theorem look_two (w : World) (a : Option Addr) (n c : Nat) (l : List UInt8) (hn : n = l.length) (hs : Src8 w a l) (hc : n ≤ c) (hl : n ≤ 1000000000) (ht : tellOf l = 2) :
    Calls Try.prog 26 #[.slice a n c] w fun e w' => e = .returned (.tuple #[.int .i64 0, .int .i64 2]) ∧ Keeps [] w w' :=
  (look_any w a n c l hn hs hc hl).mono fun e w' ⟨he, hk⟩ => ⟨by rw [he, ht, (size_none (by omega)).1]; rfl, hk⟩
theorem look_one (w : World) (a : Option Addr) (n c z : Nat) (l : List UInt8) (hn : n = l.length) (hs : Src8 w a l) (hc : n ≤ c) (hl : n ≤ 1000000000) (ht : tellOf l = 1) (hz : sizeOf1 l = z) :
    Calls Try.prog 26 #[.slice a n c] w fun e w' => e = .returned (.tuple #[.int .i64 z, .int .i64 1]) ∧ Keeps [] w w' :=
  (look_any w a n c l hn hs hc hl).mono fun e w' ⟨he, hk⟩ => ⟨by rw [he, ht, hz]; rfl, hk⟩
set_option maxHeartbeats 1000000 in
theorem Next_new (w : World) (b : Nat) (hb : w.heap[b]? = some (CC (.slice none 0 0) (.int .i64 0) (.pointer none) (.int .i64 0) (.int .i64 0) (.bool true) (.bool false))) :
    Calls Try.prog 17 #[.pointer (some ⟨b, 0, none⟩)] w fun e w' => e = .returned (.tuple #[.string (bs []), .int .i64 0, .int .i64 0]) ∧ Keeps [] w w' := by
  obtain ⟨c0, c1, c2, c3, c4, c5, c6⟩ := cell7 hb
  clear hb
  go_enter Try.func17, Try.ntmps17
  go_wp2_with fail
  refine (left_none w b c0 c1).mono ?_; rintro e w1 ⟨rfl, nq, rfl⟩
  go_wp2_with fail
  refine (look_short _ none 0 0 (by omega)).mono ?_; rintro e w2 ⟨rfl, rfl⟩
  go_wp2
  exact bodyPost_ret (v := .tuple #[.string (bs []), .int .i64 0, .int .i64 0]) (by simp [results, Try.results17, go_sem]; rfl) rfl ⟨rfl, (Keeps.refl _ _).drewN _⟩
set_option maxHeartbeats 1000000 in
theorem Next_bad (w : World) (b p : Nat) (x0 x1 x2 x3 : Value) (hb : w.heap[b]? = some (CC x0 x1 x2 x3 (.int .i64 p) (.bool true) (.bool true))) :
    Calls Try.prog 17 #[.pointer (some ⟨b, 0, none⟩)] w fun e w' => e = .returned (.tuple #[.string (bs []), .int .i64 p, .int .i64 2]) ∧ w = w' := by
  obtain ⟨c0, c1, c2, c3, c4, c5, c6⟩ := cell7 hb
  clear hb
  go_enter Try.func17, Try.ntmps17
  go_wp2
  exact bodyPost_ret (v := .tuple #[.string (bs []), .int .i64 p, .int .i64 2]) (by simp [results, Try.results17, go_sem]; rfl) rfl ⟨rfl, rfl⟩
set_option maxHeartbeats 1000000 in
theorem Next_more (w : World) (b k gone p : Nat) (v x3 : Value) (l m : List UInt8) (h : Pieces w b k v l gone x3 (.int .i64 p) (.bool true) (.bool false)) (hm : l.drop gone = m) (hml : m.length ≤ 1000000) (ht : tellOf m = 0) :
    Calls Try.prog 17 #[.pointer (some ⟨b, 0, none⟩)] w fun e w' => e = .returned (.tuple #[.string (bs []), .int .i64 p, .int .i64 0]) ∧ Keeps [] w w' := by
  obtain ⟨a, c, hL, hsrc, hc1, hc2, _⟩ := left_any w b k gone v _ _ _ _ l m h hm
  obtain ⟨c0, c1, c2, c3, c4, c5, c6⟩ := cell7 h.blk
  clear h hm
  have HL := Lib.hid hL; clear hL
  have HS := Lib.hid hsrc; clear hsrc
  have HT := Lib.hid ht; clear ht
  go_enter Try.func17, Try.ntmps17
  go_wp2_with fail
  refine HL.out.mono ?_; rintro e w1 ⟨rfl, nq, rfl⟩
  go_wp2_with fail
  refine (look_more _ a _ c m rfl (HS.out.keeps ((Keeps.refl [] w).drewN nq) (by simp)) hc1 (by omega) HT.out).mono ?_; rintro e w2 ⟨rfl, hk2⟩
  go_wp2_with fail
  exact bodyPost_ret (v := .tuple #[.string (bs []), .int .i64 p, .int .i64 0]) (by simp [results, Try.results17, go_sem]; rfl) rfl ⟨rfl, ((Keeps.refl _ _).drewN _).step hk2 (by simp)⟩
set_option maxHeartbeats 1000000 in
theorem Next_two (w : World) (b k gone p : Nat) (v x3 : Value) (l m : List UInt8) (h : Pieces w b k v l gone x3 (.int .i64 p) (.bool true) (.bool false)) (hm : l.drop gone = m) (hml : m.length ≤ 1000000) (ht : tellOf m = 2) :
    Calls Try.prog 17 #[.pointer (some ⟨b, 0, none⟩)] w fun e w' => e = .returned (.tuple #[.string (bs []), .int .i64 p, .int .i64 2]) ∧ w'.heap[b]? = some (CC (.slice none 0 0) (.int .i64 0) (.pointer none) x3 (.int .i64 p) (.bool true) (.bool true)) ∧ Keeps [b] w w' := by
  obtain ⟨a, c, hL, hsrc, hc1, hc2, _⟩ := left_any w b k gone v _ _ _ _ l m h hm
  obtain ⟨c0, c1, c2, c3, c4, c5, c6⟩ := cell7 h.blk
  have HB := Lib.hid h.blk
  clear h hm
  have HL := Lib.hid hL; clear hL
  have HS := Lib.hid hsrc; clear hsrc
  have HT := Lib.hid ht; clear ht
  go_enter Try.func17, Try.ntmps17
  go_wp2_with fail
  refine HL.out.mono ?_; rintro e w1 ⟨rfl, nq, rfl⟩
  go_wp2_with fail
  refine (look_two _ a _ c m rfl (HS.out.keeps ((Keeps.refl [] w).drewN nq) (by simp)) hc1 (by omega) HT.out).mono ?_; rintro e w2 ⟨rfl, hk2⟩
  have hkk : Keeps [b] w w2 := (((Keeps.refl [] _).drewN _).step hk2 (by simp)).more (by simp)
  have HB2 := Lib.hid ((((Keeps.refl [] w).drewN nq).step hk2 (by simp)).heap HB.out (by simp))
  obtain ⟨d0, d1, d2, d3, d4, d5, d6⟩ := cell7 HB2.out
  obtain ⟨f0, f1, f2, f3, f4, f5, f6⟩ := free7 HB2.out
  clear c0 c1 c2 c3 c4 c5 c6 hk2
  go_wp2_with fail
  exact bodyPost_ret (v := .tuple #[.string (bs []), .int .i64 p, .int .i64 2]) (by simp [results, Try.results17, go_sem]; rfl) rfl
    ⟨rfl, set7_6 (set7_2 (set7_1 (set7_0 HB2.out _) _) _) _, (((hkk.setCell _ _ (by simp)).setCell _ _ (by simp)).setCell _ _ (by simp)).setCell _ _ (by simp)⟩
set_option maxHeartbeats 1000000 in
theorem Next_one (w : World) (b k gone p z : Nat) (v x3 : Value) (l m : List UInt8) (h : Pieces w b k v l gone x3 (.int .i64 p) (.bool true) (.bool false)) (hm : l.drop gone = m) (hl : l.length ≤ 1000000) (hp : p ≤ 1000000) (ht : tellOf m = 1) (hz : sizeOf1 m = z) :
    Calls Try.prog 17 #[.pointer (some ⟨b, 0, none⟩)] w fun e w' => e = .returned (.tuple #[.string (bs (payOf m)), .int .i64 p, .int .i64 1]) ∧ Dropped b (b :: k :: own v) l.length (m.drop z) x3 (.int .i64 ((p : Int) + z)) (.bool true) (.bool false) w w' := by
  obtain ⟨a, c, hL, hsrc, hc1, hc2, hown⟩ := left_any w b k gone v _ _ _ _ l m h hm
  obtain ⟨c0, c1, c2, c3, c4, c5, c6⟩ := cell7 h.blk
  obtain ⟨_, hpay, hz1, hz2, hz3⟩ := size_one ht
  have hpe : payOf m = (m.drop 4).take (z - 6) := by rw [hpay]; congr 1; omega
  rw [hz] at hz1 hz2 hz3
  have hml : m.length ≤ 1000000 := by rw [← hm]; simp; omega
  have hlg : gone + z ≤ l.length := by have : m.length = l.length - gone := by rw [← hm]; simp
                                       omega
  obtain ⟨g, o, rfl, hsc⟩ : ∃ g o, a = some ⟨g, o, none⟩ ∧ ∀ j, j < m.length → w.cell? ⟨g, o + j, none⟩ = some (.int .u8 (m.getD j 0).toNat) := by
    rcases hsrc with rfl | h1
    · simp at hz1; omega
    · exact h1
  have hgv := hown g o rfl
  have H := Lib.hid h; clear h
  have HM := Lib.hid hm; clear hm
  have HZ := Lib.hid hz; clear hz
  have HP := Lib.hid hpe; clear hpe hpay
  have HL := Lib.hid hL; clear hL hown
  have HS := Lib.hid hsrc; clear hsrc
  have HC := Lib.hid hsc; clear hsc
  have HT := Lib.hid ht; clear ht
  go_enter Try.func17, Try.ntmps17
  go_wp2_with fail
  refine HL.out.mono ?_; rintro e w1 ⟨rfl, nq, rfl⟩
  go_wp2_with fail
  refine (look_one _ _ _ c z m rfl (HS.out.keeps ((Keeps.refl [] w).drewN nq) (by simp)) hc1 (by omega) HT.out HZ.out).mono ?_; rintro e w2 ⟨rfl, hk2⟩
  have HK2 := Lib.hid (((Keeps.refl [] w).drewN nq).step hk2 (by simp))
  have H2 := Lib.hid (H.out.keeps HK2.out (by simp) (by simp) (by simp))
  obtain ⟨a', c', hL', hsrc', hc1', hc2', hown'⟩ := left_any w2 b k gone v _ _ _ _ l m H2.out HM.out
  obtain ⟨d0, d1, d2, d3, d4, d5, d6⟩ := cell7 H2.out.blk
  obtain ⟨g', o', rfl, hsc'⟩ : ∃ g o, a' = some ⟨g, o, none⟩ ∧ ∀ j, j < m.length → w2.cell? ⟨g, o + j, none⟩ = some (.int .u8 (m.getD j 0).toNat) := by
    rcases hsrc' with rfl | h1
    · simp at hz1; omega
    · exact h1
  have HL2 := Lib.hid hL'; clear hL' hown' hsrc'
  have HC2 := Lib.hid hsc'; clear hsc'
  clear c0 c1 c2 c3 c4 c5 c6 hk2
  go_wp2_with fail
  refine HL2.out.mono ?_; rintro e w3 ⟨rfl, nq2, rfl⟩
  have hcv : (convert 33 9 (.slice (some ⟨g', o' + 4, none⟩) (z - 2 - 4) (c' - 4))).run Try.prog (w2.drewN nq2) = .ok (.string (bs (payOf m))) (w2.drewN nq2) := by
    rw [HP.out]
    have := cut8 (w2.drewN nq2) g' o' (c' - 4) (z - 2 - 4) 4 m (by omega) (fun j hj => HC2.out j hj)
    rw [this]
    have e : z - 2 - 4 = z - 6 := by omega
    rw [e]
  have HK3 := Lib.hid (HK2.out.drewN nq2)
  have H3 := Lib.hid (H2.out.keeps ((Keeps.refl [] w2).drewN nq2) (by simp) (by simp) (by simp))
  clear d0 d1 d2 d3 d4 d5 d6 HC2 HL2 H2 HK2
  generalize w2.drewN nq2 = w3 at *
  generalize hT : bs (payOf m) = T at *
  have HTT := Lib.hid hT; clear hT
  go_wp2_with fail
  have hfin := drop_live w3 b k gone z v _ _ _ _ l H3.out (by omega) hlg hl
  refine hfin.mono ?_; rintro e w4 ⟨rfl, k4, v4, l4, gone4, hp4, hr4, hl4, hk4, hs4⟩
  have hkb4 := hp4.ne
  have HP4 := Lib.hid hp4
  obtain ⟨c0, c1, c2, c3, c4, c5, c6⟩ := cell7 hp4.blk
  obtain ⟨f0, f1, f2, f3, f4, f5, f6⟩ := free7 hp4.blk
  have hne4 := row_ne hp4.row hp4.blk (by decide)
  have HN4 := Lib.hid hne4
  have HR4 := Lib.hid hr4
  clear hcv hp4 hne4 hr4 hfin
  go_wp2_with fail
  rw [← HTT.out] 
  have hz3s : w.heap.size ≤ w3.heap.size := HK3.out.size
  refine bodyPost_ret (v := .tuple #[.string (bs (payOf m)), .int .i64 p, .int .i64 1]) (by simp [results, Try.results17, go_sem]) rfl
    ⟨rfl, k4, v4, l4, gone4, ⟨set7_4 HP4.out.blk _, by rw [heap_setCell_other _ _ _ _ (by simpa using hkb4)]; exact HP4.out.used, ((Keeps.refl [b] _).setCell _ _ (by simp)).row HP4.out.row (fun g hg => by simpa using HN4.out g hg), HP4.out.le⟩, ?_, hl4, ((HK3.out.more (by simp)).step hk4 (fun _ h => h)).setCell _ _ (.inl (by simp)), hs4.mono hz3s⟩
  rw [HR4.out, ← HM.out, List.drop_drop]
end Go.Proofs.Ytfkmgmnbkajgaaa
