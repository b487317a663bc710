/-
  The Cutter's pieces: add, drop.
-/
import Derived.Test.YtfkmgmnbkajgaaaFe
namespace Go.Proofs.Ytfkmgmnbkajgaaa
open Go.RowKit
/-- Pieces in memory: the slice, how many of its bytes are gone, how far it is filled. -/
structure Pieces (w : World) (b k : Nat) (v : Value) (l : List UInt8) (gone : Nat) (x3 x4 x5 x6 : Value) : Prop where
  blk : w.heap[b]? = some (CC v (.int .i64 gone) (.pointer (some ⟨k, 0, none⟩)) x3 x4 x5 x6)
  used : w.heap[k]? = some (.cells #[.int .i64 l.length] 3 (0, 0))
  row : w.ownsRow 0 5 1 v l.length ((nb l).map (.int .u8))
  le : gone ≤ l.length
theorem Pieces.keeps {F : List Nat} {w w' : World} {b k gone : Nat} {v x3 x4 x5 x6 : Value} {l : List UInt8} (h : Pieces w b k v l gone x3 x4 x5 x6) (hk : Keeps F w w') (h1 : b ∉ F) (h2 : k ∉ F) (h3 : ∀ g ∈ own v, g ∉ F) : Pieces w' b k v l gone x3 x4 x5 x6 :=
  ⟨hk.heap h.blk h1, hk.heap h.used h2, hk.row h.row h3, h.le⟩
theorem Pieces.ne {w : World} {b k gone : Nat} {v x3 x4 x5 x6 : Value} {l : List UInt8} (h : Pieces w b k v l gone x3 x4 x5 x6) : k ≠ b := by
  intro e; subst e
  have h1 := h.blk; rw [h.used] at h1
  simp [CC] at h1
theorem Pieces.moved {w w' : World} {b : Nat} {x3 x4 x5 x6 : Value} {l : List UInt8} (h : Moved b l x3 x4 x5 x6 w w') : ∃ k v, Pieces w' b k v l 0 x3 x4 x5 x6 ∧ Keeps [b] w w' ∧ w.heap.size ≤ k ∧ FSub (own v) [] w.heap.size := by
  obtain ⟨k, v, h1, h2, h3, h4, h5, h6⟩ := h
  exact ⟨k, v, ⟨h1, h2, h3, Nat.zero_le _⟩, h4, h5, h6⟩
theorem own_form {w : World} {e : TypeId} {v : Value} {n : Nat} {xs : List Value} (hr : w.ownsRow 0 e 1 v n xs) : (v = .slice none 0 0 ∧ n = 0) ∨ ∃ g cap, v = .slice (some ⟨g, 0, none⟩) n cap ∧ n ≤ cap ∧ cap ≤ maxLen := by
  rcases hr.2 with ⟨rfl, rfl⟩ | ⟨g, cap, cur, rfl, _, _, h1, h2, _⟩
  · exact .inl ⟨rfl, rfl⟩
  · exact .inr ⟨g, cap, rfl, h1, h2⟩
/-- What add leaves. -/
def Added (b : Nat) (G : List Nat) (l : List UInt8) (gone : Nat) (x3 x4 x5 x6 : Value) (w w' : World) : Prop :=
  ∃ k v, Pieces w' b k v l gone x3 x4 x5 x6 ∧ Keeps G w w' ∧ FSub (b :: k :: own v) G w.heap.size
set_option maxHeartbeats 1000000 in
theorem add_live (w : World) (b k gone : Nat) (v x3 x4 x5 x6 : Value) (l : List UInt8) (h : Pieces w b k v l gone x3 x4 x5 x6) (s : ByteArray) (hl : l.length + s.size ≤ 1000000) :
    Calls Try.prog 25 #[.pointer (some ⟨b, 0, none⟩), .string s] w fun e w' => e = .returned (.tuple #[]) ∧ Added b (b :: k :: own v) (l ++ s.data.toList) gone x3 x4 x5 x6 w w' := by
  have hkb := h.ne
  have hle := h.le
  obtain ⟨a, cap, rfl⟩ := row_form h.row
  have HB := Lib.hid h.blk
  have HK := Lib.hid h.used
  have HR := Lib.hid h.row
  clear h
  obtain ⟨i0, hi, hz0, hz1, hz2⟩ := info_parts Try.info8
  obtain ⟨c0, c1, c2, c3, c4, c5, c6⟩ := cell7 HB.out
  have e0 := cell_of_one HK.out
  go_enter Try.func25, Try.ntmps25
  go_wp2_with fail
  go_quiet (fail)
  have hk0 : Keeps [] w (w.drewN nq) := (Keeps.refl _ _).drewN _
  replace HB : Hid ((w.drewN nq).heap[b]? = some (CC (.slice a l.length cap) (.int .i64 gone) (.pointer (some ⟨k, 0, none⟩)) x3 x4 x5 x6)) := HB
  replace HK : Hid ((w.drewN nq).heap[k]? = some (.cells #[.int .i64 l.length] 3 (0, 0))) := HK
  replace HR : Hid ((w.drewN nq).ownsRow 0 5 1 (.slice a l.length cap) l.length ((nb l).map (.int .u8))) := HR
  clear c0 c1 c2 c3 c4 c5 c6 e0
  generalize w.drewN nq = w1 at *
  have HK0 := Lib.hid hk0; clear hk0
  obtain ⟨c0, c1, c2, c3, c4, c5, c6⟩ := cell7 HB.out
  go_wp2_with (at_builtin; refine wpList_append_str_sharp _ rfl _ _ 33 9 rfl 5 i0 Try.underlying33 Try.underlying9 hi hz0 hz1 hz2 (.slice a l.length cap) l.length ((nb l).map (.int .u8)) rfl HR.out s rfl ?c3 ?c4 ?_)
  case c3 => unfold maxLen; omega
  case c4 => omega
  intro v2 w2 hown2 hk2 hs2
  rw [strCells_nb, ← List.map_append, ← nb_app] at hown2
  have hneb := row_ne HR.out HB.out (by decide)
  have hnek := row_ne HR.out HK.out (by decide)
  replace HB := Lib.hid (hk2.heap HB.out (fun h => hneb b h rfl))
  replace HK := Lib.hid (hk2.heap HK.out (fun h => hnek k h rfl))
  obtain ⟨a2, cap2, rfl⟩ := row_form hown2
  have hneb2 := row_ne hown2 HB.out (by decide)
  have hnek2 := row_ne hown2 HK.out (by decide)
  obtain ⟨W3, hW3⟩ : ∃ W3, W3 = w2.setCell ⟨b, 0, none⟩ (.slice a2 (l.length + s.size) cap2) := ⟨_, rfl⟩
  have HB3 : Hid (W3.heap[b]? = some (CC (.slice a2 (l.length + s.size) cap2) (.int .i64 gone) (.pointer (some ⟨k, 0, none⟩)) x3 x4 x5 x6)) := Lib.hid (by rw [hW3]; exact set7_0 HB.out _)
  have HK3 : Hid (W3.heap[k]? = some (.cells #[.int .i64 l.length] 3 (0, 0))) := Lib.hid (by rw [hW3, heap_setCell_other _ _ _ _ (by simpa using hkb)]; exact HK.out)
  have HR3 : Hid (W3.ownsRow 0 5 1 (.slice a2 (l.length + s.size) cap2) (l.length + s.size) ((nb (l ++ s.data.toList)).map (.int .u8))) := Lib.hid (by rw [hW3]; exact ((Keeps.refl [b] _).setCell _ _ (by simp)).row hown2 (fun g hg => by simpa using hneb2 g hg))
  have HKK : Hid (Keeps (b :: k :: own (.slice a l.length cap)) w1 W3) := Lib.hid (by rw [hW3]; exact (hk2.more (fun g hg => by simp [hg])).setCell _ _ (by simp))
  have HS2 := Lib.hid hs2
  have HN2 := Lib.hid hnek2
  obtain ⟨c0, c1, c2, c3, c4, c5, c6⟩ := cell7 HB.out
  obtain ⟨f0, f1, f2, f3, f4, f5, f6⟩ := free7 HB.out
  have HW3 := Lib.hid hW3; clear hW3 hown2 hk2 hs2 hneb hnek hneb2 hnek2 HR
  go_wp2_with fail
  rw [← HW3.out]
  obtain ⟨y0, y1, y2, y3, y4, y5, y6⟩ := cell7 HB3.out
  have z0 := cell_of_one HK3.out
  have z1 := free_of_one HK3.out
  go_region
  go_end0

  have hlen : ((l ++ s.data.toList).length : Int) = (l.length : Int) + s.size := by simp
  have hlen2 : (l ++ s.data.toList).length = l.length + s.size := by simp
  refine ⟨rfl, k, .slice a2 (l.length + s.size) cap2, ⟨?_, ?_, ?_, ?_⟩, ((HK0.out.more (by simp)).step HKK.out (fun _ h => h)).setCell _ _ (.inl (by simp)) |>.drew, fun g hg => ?_⟩
  · show (W3.setCell ⟨k, 0, none⟩ _).heap[b]? = _
    rw [heap_setCell_other _ _ _ _ (by simpa using hkb.symm)]
    exact HB3.out
  · rw [hlen]; exact one_setCell HK3.out
  · rw [hlen2]; exact (((Keeps.refl [k] W3).setCell ⟨k, 0, none⟩ (.int .i64 ((l.length : Int) + s.size)) (by simp)).drew).row HR3.out (fun g hg => by simpa using HN2.out g hg)
  · rw [hlen2]; have := hle; omega
  · simp at hg
    rcases hg with rfl | rfl | hg
    · exact .inl (by simp)
    · exact .inl (by simp)
    · exact (HS2.out g hg).imp (fun h => by simp [h]) (fun h => by have := HK0.out.size; omega)
set_option maxHeartbeats 1000000 in
theorem add_new (w : World) (b : Nat) (x3 x4 x5 x6 : Value) (hb : w.heap[b]? = some (CC (.slice none 0 0) (.int .i64 0) (.pointer none) x3 x4 x5 x6)) (s : ByteArray) (hl : s.size ≤ 1000000) :
    Calls Try.prog 25 #[.pointer (some ⟨b, 0, none⟩), .string s] w fun e w' => e = .returned (.tuple #[]) ∧ Added b [b] s.data.toList 0 x3 x4 x5 x6 w w' := by
  have HB0 := Lib.hid hb
  obtain ⟨i0, hi, hz0, hz1, hz2⟩ := info_parts Try.info8
  obtain ⟨c0, c1, c2, c3, c4, c5, c6⟩ := cell7 hb
  clear hb
  go_enter Try.func25, Try.ntmps25
  go_wp2_with fail
  go_quiet (fail)
  replace HB0 : Hid ((w.drewN nq).heap[b]? = some (CC (.slice none 0 0) (.int .i64 0) (.pointer none) x3 x4 x5 x6)) := HB0
  have hk0 : Keeps [b] w (w.drewN nq) := (Keeps.refl _ _).drewN _
  clear c0 c1 c2 c3 c4 c5 c6
  generalize w.drewN nq = w0 at *
  go_wp2_with fail
  refine (move_none _ b _ x3 x4 x5 x6 HB0.out).mono ?_; rintro e w1 ⟨rfl, hm⟩
  obtain ⟨k, v, h, hk1, hge, hfs⟩ := Pieces.moved hm
  have hkb := h.ne
  have hle := h.le
  have hz : w.heap.size ≤ w0.heap.size := hk0.size
  have HK0 := Lib.hid (hk0.step hk1 (fun _ h => h))
  have hgk : w.heap.size ≤ k := by omega
  have HFS := Lib.hid (hfs.mono hz)
  have hzz := HK0.out.size
  obtain ⟨a, cap, rfl⟩ := row_form h.row
  obtain ⟨l, hl0, hl1⟩ : ∃ l : List UInt8, l = [] ∧ l.length = 0 := ⟨[], rfl, rfl⟩
  obtain ⟨gone, hg0⟩ : ∃ gone : Nat, gone = 0 := ⟨0, rfl⟩
  have HB : Hid (w1.heap[b]? = some (CC (.slice a l.length cap) (.int .i64 gone) (.pointer (some ⟨k, 0, none⟩)) x3 x4 x5 x6)) := Lib.hid (by rw [hl0, hg0]; exact h.blk)
  have HK : Hid (w1.heap[k]? = some (.cells #[.int .i64 l.length] 3 (0, 0))) := Lib.hid (by rw [hl0]; exact h.used)
  have HR : Hid (w1.ownsRow 0 5 1 (.slice a l.length cap) l.length ((nb l).map (.int .u8))) := Lib.hid (by rw [hl0]; exact h.row)
  replace HFS : Hid (FSub (own (.slice a l.length cap)) [] w.heap.size) := Lib.hid (by rw [hl0]; exact HFS.out)
  have HL0 := Lib.hid hl0
  have hl2 : l.length ≤ 0 := by omega
  have HG0 := Lib.hid hg0
  replace hle : gone ≤ l.length := by omega
  clear hl0 hl1 hg0 h hm hfs hk1 HB0 hk0
  obtain ⟨c0, c1, c2, c3, c4, c5, c6⟩ := cell7 HB.out
  go_wp2_with (at_builtin; refine wpList_append_str_sharp _ rfl _ _ 33 9 rfl 5 i0 Try.underlying33 Try.underlying9 hi hz0 hz1 hz2 (.slice a l.length cap) l.length ((nb l).map (.int .u8)) rfl HR.out s rfl ?c3 ?c4 ?_)
  case c3 => unfold maxLen; omega
  case c4 => omega
  intro v2 w2 hown2 hk2 hs2
  rw [strCells_nb, ← List.map_append, ← nb_app] at hown2
  have hneb := row_ne HR.out HB.out (by decide)
  have hnek := row_ne HR.out HK.out (by decide)
  replace HB := Lib.hid (hk2.heap HB.out (fun h => hneb b h rfl))
  replace HK := Lib.hid (hk2.heap HK.out (fun h => hnek k h rfl))
  obtain ⟨a2, cap2, rfl⟩ := row_form hown2
  have hneb2 := row_ne hown2 HB.out (by decide)
  have hnek2 := row_ne hown2 HK.out (by decide)
  obtain ⟨W3, hW3⟩ : ∃ W3, W3 = w2.setCell ⟨b, 0, none⟩ (.slice a2 (l.length + s.size) cap2) := ⟨_, rfl⟩
  have HB3 : Hid (W3.heap[b]? = some (CC (.slice a2 (l.length + s.size) cap2) (.int .i64 gone) (.pointer (some ⟨k, 0, none⟩)) x3 x4 x5 x6)) := Lib.hid (by rw [hW3]; exact set7_0 HB.out _)
  have HK3 : Hid (W3.heap[k]? = some (.cells #[.int .i64 l.length] 3 (0, 0))) := Lib.hid (by rw [hW3, heap_setCell_other _ _ _ _ (by simpa using hkb)]; exact HK.out)
  have HR3 : Hid (W3.ownsRow 0 5 1 (.slice a2 (l.length + s.size) cap2) (l.length + s.size) ((nb (l ++ s.data.toList)).map (.int .u8))) := Lib.hid (by rw [hW3]; exact ((Keeps.refl [b] _).setCell _ _ (by simp)).row hown2 (fun g hg => by simpa using hneb2 g hg))
  have HKK : Hid (Keeps (b :: k :: own (.slice a l.length cap)) w1 W3) := Lib.hid (by rw [hW3]; exact (hk2.more (fun g hg => by simp [hg])).setCell _ _ (by simp))
  have HS2 := Lib.hid hs2
  have HN2 := Lib.hid hnek2
  obtain ⟨c0, c1, c2, c3, c4, c5, c6⟩ := cell7 HB.out
  obtain ⟨f0, f1, f2, f3, f4, f5, f6⟩ := free7 HB.out
  have HW3 := Lib.hid hW3; clear hW3 hown2 hk2 hs2 hneb hnek hneb2 hnek2 HR
  go_wp2_with fail
  rw [← HW3.out]
  obtain ⟨y0, y1, y2, y3, y4, y5, y6⟩ := cell7 HB3.out
  have z0 := cell_of_one HK3.out
  have z1 := free_of_one HK3.out
  go_region
  go_end0

  obtain rfl := HL0.out
  obtain rfl := HG0.out
  have hlen : ((s.data.toList).length : Int) = ((([] : List UInt8).length : Nat) : Int) + s.size := by simp
  have hlen2 : (s.data.toList).length = ([] : List UInt8).length + s.size := by simp
  refine ⟨rfl, k, .slice a2 (([] : List UInt8).length + s.size) cap2, ⟨?_, ?_, ?_, Nat.zero_le _⟩, ?_, fun g hg => ?_⟩
  · show (W3.setCell ⟨k, 0, none⟩ _).heap[b]? = _
    rw [heap_setCell_other _ _ _ _ (by simpa using hkb.symm)]
    exact HB3.out
  · rw [hlen]; exact one_setCell HK3.out
  · rw [hlen2]; exact (((Keeps.refl [k] W3).setCell ⟨k, 0, none⟩ (.int .i64 ((([] : List UInt8).length : Int) + s.size)) (by simp)).drew).row HR3.out (fun g hg => by simpa using HN2.out g hg)
  · refine ((HK0.out.trans HKK.out (fun g hg => ?_)).setCell ⟨k, 0, none⟩ _ (.inr hgk)).drew
    simp at hg
    rcases hg with rfl | rfl | hg
    · exact .inl (by simp)
    · exact .inr hgk
    · exact (HFS.out g hg).elim (fun h => by simp at h) .inr
  · simp only [List.mem_cons] at hg
    rcases hg with rfl | rfl | hg
    · exact .inl (by simp)
    · exact .inr hgk
    · exact (HS2.out g hg).elim (fun h => (HFS.out g h).elim (fun h => by simp at h) .inr) (fun h => .inr (by omega))
end Go.Proofs.Ytfkmgmnbkajgaaa
