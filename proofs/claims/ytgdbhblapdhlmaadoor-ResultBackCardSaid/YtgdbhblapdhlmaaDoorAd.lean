/-
  The Writer: how its memory looks, and what write does to it.
-/
import Derived.Test.YtgdbhblapdhlmaaDoorAc
namespace Go.Proofs.YtgdbhblapdhlmaaDoor
open Go.RowKit
def WNew (w : World) (b : Nat) : Prop := w.heap[b]? = some (.cells #[.slice none 0 0, .int .i64 0, .pointer none] 63 (0, 0))
def WErr (w : World) (b : Nat) : Prop := w.heap[b]? = some (.cells #[.slice none 0 0, .int .i64 3, .pointer none] 63 (0, 0))
structure WHas (w : World) (b k : Nat) (v : Value) (xs : List Int) : Prop where
  blk : w.heap[b]? = some (.cells #[v, .int .i64 0, .pointer (some ⟨k, 0, none⟩)] 63 (0, 0))
  used : w.heap[k]? = some (.cells #[.int .i64 xs.length] 3 (0, 0))
  row : w.ownsRow 0 5 1 v xs.length (xs.map (.int .u8))

theorem cell3 {w : World} {b : Nat} {x y z : Value} {t : TypeId} (h : w.heap[b]? = some (.cells #[x, y, z] t (0, 0))) :
    w.cell? ⟨b, 0, none⟩ = some x ∧ w.cell? ⟨b, 1, none⟩ = some y ∧ w.cell? ⟨b, 2, none⟩ = some z ∧ w.frozen? ⟨b, 0, none⟩ = false ∧ w.frozen? ⟨b, 1, none⟩ = false ∧ w.frozen? ⟨b, 2, none⟩ = false := by
  refine ⟨?_, ?_, ?_, ?_, ?_, ?_⟩ <;> simp [World.cell?, World.frozen?, h]
theorem set3_0 {w : World} {b : Nat} {x y z : Value} {t : TypeId} (h : w.heap[b]? = some (.cells #[x, y, z] t (0, 0))) (v : Value) : (w.setCell ⟨b, 0, none⟩ v).heap[b]? = some (.cells #[v, y, z] t (0, 0)) := by
  rw [heap_setCell_same w b 0 _ t v h]; rfl
theorem set3_1 {w : World} {b : Nat} {x y z : Value} {t : TypeId} (h : w.heap[b]? = some (.cells #[x, y, z] t (0, 0))) (v : Value) : (w.setCell ⟨b, 1, none⟩ v).heap[b]? = some (.cells #[x, v, z] t (0, 0)) := by
  rw [heap_setCell_same w b 1 _ t v h]; rfl
theorem set3_2 {w : World} {b : Nat} {x y z : Value} {t : TypeId} (h : w.heap[b]? = some (.cells #[x, y, z] t (0, 0))) (v : Value) : (w.setCell ⟨b, 2, none⟩ v).heap[b]? = some (.cells #[x, y, v] t (0, 0)) := by
  rw [heap_setCell_same w b 2 _ t v h]; rfl
theorem heap_alloc_lt {w : World} {o o' : Obj} {b : Nat} (h : w.heap[b]? = some o') : (w.alloc o).heap[b]? = some o' := (Below.heap_alloc _ _ _ (lt_of_block h)).trans h
theorem row_form {w : World} {e : TypeId} {v : Value} {n : Nat} {xs : List Value} (hr : w.ownsRow 0 e 1 v n xs) : ∃ a cap, v = .slice a n cap := by
  rcases hr.2 with ⟨rfl, rfl⟩ | ⟨g, cap, cur, rfl, _⟩
  · exact ⟨_, _, rfl⟩
  · exact ⟨_, _, rfl⟩
theorem add_block (a : Addr) (j : Nat) : (a.add j).block = a.block := by unfold Addr.add; split <;> rfl
theorem src_keeps {F : List Nat} {w w' : World} {ad : Addr} {vs : List Value} (h : ∀ (j : Nat) u, vs[j]? = some u → w.cell? (ad.add j) = some u) (hk : Keeps F w w') (hF : ad.block ∉ F) :
    ∀ (j : Nat) u, vs[j]? = some u → w'.cell? (ad.add j) = some u := fun j u hu => hk.cell (h j u hu) (by rw [add_block]; exact hF)

set_option maxHeartbeats 400000 in
set_option maxRecDepth 100000 in
theorem clone_nil (w : World) : Calls Tryd.prog 50 #[.slice none 0 0] w fun e w' => e = .returned (.slice none 0 0) ∧ w = w' := by
  have hq := fun (w : World) => run_eql_nil_slice (P := Tryd.prog) w 46 5 none 0 0 0 0 Tryd.underlying46
  go_enter Tryd.func50, Tryd.ntmps50
  go_wp2
  go_ret
  exact ⟨rfl, rfl⟩
set_option maxHeartbeats 400000 in
set_option maxRecDepth 100000 in
theorem write_err (w : World) (b : Nat) (v : Value) (h : WErr w b) : Calls Tryd.prog 41 #[.pointer (some ⟨b, 0, none⟩), v] w fun e w' => e = .returned (.tuple #[]) ∧ w = w' := by
  have c1 : w.cell? ⟨b, 1, none⟩ = some (.int .i64 3) := by have h2 := h; unfold WErr at h2; simp [World.cell?, h2]
  go_enter Tryd.func41, Tryd.ntmps41
  go_wp2
  exact bodyPost_ret (results_none rfl _ _ _) rfl ⟨rfl, rfl⟩

set_option maxHeartbeats 400000 in
set_option maxRecDepth 100000 in
theorem write_new (w : World) (b : Nat) (h : WNew w b) (ad : Addr) (c : Nat) (zs : List Int) (hsrc : ∀ j u, (zs.map (Value.int .u8))[j]? = some u → w.cell? (ad.add j) = some u)
    (hne : ad.block ≠ b) (hn : zs.length ≤ 1000000) :
    Calls Tryd.prog 41 #[.pointer (some ⟨b, 0, none⟩), .slice (some ad) zs.length c] w fun e w' => e = .returned (.tuple #[]) ∧ ∃ k v, WHas w' b k v zs ∧ Keeps [b] w w' ∧ w.heap.size ≤ k ∧ FSub (own v) [] w.heap.size := by
  have hb := h
  unfold WNew at hb
  have c0 : w.cell? ⟨b, 0, none⟩ = some (.slice none 0 0) := by simp [World.cell?, hb]
  have c1 : w.cell? ⟨b, 1, none⟩ = some (.int .i64 0) := by simp [World.cell?, hb]
  have c2 : w.cell? ⟨b, 2, none⟩ = some (.pointer none) := by simp [World.cell?, hb]
  have f0 : w.frozen? ⟨b, 0, none⟩ = false := by simp [World.frozen?, hb]
  have f2 : w.frozen? ⟨b, 2, none⟩ = false := by simp [World.frozen?, hb]
  have hlt := lt_of_block hb
  have HB := Lib.hid hb; clear hb
  go_enter Tryd.func41, Tryd.ntmps41
  go_wp2_with fail
  go_quiet (fail)
  have K1 : Keeps [] w (w.drewN nq) := (Keeps.refl _ _).drewN _
  have hsrc1 : ∀ j u, (zs.map (Value.int .u8))[j]? = some u → (w.drewN nq).cell? (ad.add j) = some u := hsrc
  have HB1 : (w.drewN nq).heap[b]? = some (.cells #[.slice none 0 0, .int .i64 0, .pointer none] 63 (0, 0)) := HB
  clear hsrc c0 c1 c2 f0 f2 HB hlt
  generalize w.drewN nq = w1 at *
  obtain ⟨i0, hi, hz0, hz1, hz2⟩ := info_parts Tryd.info8
  obtain ⟨W2, hW2⟩ : ∃ W2, W2 = ((w1.setCell ⟨b, 0, none⟩ (.slice none 0 0)).setCell ⟨b, 2, none⟩ (.pointer (some ⟨w1.heap.size, 0, none⟩))).alloc (.cells #[.int .i64 0] 3) := ⟨_, rfl⟩
  have HB2 : W2.heap[b]? = some (.cells #[.slice none 0 0, .int .i64 0, .pointer (some ⟨w1.heap.size, 0, none⟩)] 63 (0, 0)) := by
    rw [hW2]; exact heap_alloc_lt (set3_2 (set3_0 HB1 _) _)
  have HK2 : W2.heap[w1.heap.size]? = some (.cells #[.int .i64 0] 3 (0, 0)) := by
    rw [hW2]; have := heap_alloc_new ((w1.setCell ⟨b, 0, none⟩ (.slice none 0 0)).setCell ⟨b, 2, none⟩ (.pointer (some ⟨w1.heap.size, 0, none⟩))) (.cells #[.int .i64 0] 3); simpa using this
  have K2 : Keeps [b] w1 W2 := by
    rw [hW2]; exact (((Keeps.refl _ _).setCell _ _ (by simp)).setCell _ _ (by simp)).alloc _
  have hsrc2 := src_keeps hsrc1 K2 (by simpa using hne)
  obtain ⟨c01, c11, c21, f01, f11, f21⟩ := cell3 HB1
  have hlt1 := lt_of_block HB1
  have HW2 := Lib.hid hW2; clear hW2
  have Hsrc2 := Lib.hid hsrc2; clear hsrc2 hsrc1
  have HHB2 := Lib.hid HB2; have HHK2 := Lib.hid HK2; clear HB2 HK2 HB1
  go_wp2_with fail
  refine (clone_nil _).mono ?_; rintro e w' ⟨rfl, rfl⟩
  go_wp2_with (at_builtin; rw [← HW2.out]; refine wpList_append_sharp _ rfl _ _ 46 rfl 5 i0 (.int .u8 0) 1 Tryd.underlying46 hi hz0 hz1 hz2 rfl (.slice none 0 0) 0 [] rfl (World.ownsRow_nil _ _ _ _) ad zs.length c (zs.map (.int .u8)) rfl (by simp) Hsrc2.out (ints_one _ _) ?c3 ?c4 ?_)
  case c3 => unfold maxLen; omega
  case c4 => omega
  intro v2 w2 hown2 hk2 hs2 _
  obtain ⟨a2, cap2, rfl⟩ := row_form hown2
  have HB2 := hk2.heap HHB2.out (by simp [own_nil])
  have HK2 := hk2.heap HHK2.out (by simp [own_nil])
  obtain ⟨W3, hW3⟩ : ∃ W3, W3 = w2.setCell ⟨b, 0, none⟩ (.slice a2 zs.length cap2) := ⟨_, rfl⟩
  have HB3 : W3.heap[b]? = some (.cells #[.slice a2 zs.length cap2, .int .i64 0, .pointer (some ⟨w1.heap.size, 0, none⟩)] 63 (0, 0)) := by
    rw [hW3]; exact set3_0 HB2 _
  have hne3 : w1.heap.size ≠ b := by omega
  have HK3 : W3.heap[w1.heap.size]? = some (.cells #[.int .i64 0] 3 (0, 0)) := by
    rw [hW3, heap_setCell_other _ _ _ _ (by simpa using hne3)]; exact HK2
  obtain ⟨d0, d1, d2, g0, g1, g2⟩ := cell3 HB2
  have hneb := row_ne hown2 HB2 (by decide)
  have hnek := row_ne hown2 HK2 (by decide)
  have KK : Keeps [b] w W3 := by
    rw [hW3]
    exact ((((K1.more (by simp)).step K2 (fun _ h => h)).step hk2 (by simp [own_nil])).setCell _ _ (by simp))
  have hsz : w.heap.size ≤ w1.heap.size := K1.size
  have hsz2 : w1.heap.size ≤ W2.heap.size := K2.size
  have HW3 := Lib.hid hW3; clear hW3
  have HHB3 := Lib.hid HB3; have HHK3 := Lib.hid HK3; clear HB2 HK2 HB3 HK3
  go_wp2_with fail
  rw [← HW3.out]
  obtain ⟨x0, x1, x2, y0, y1, y2⟩ := cell3 HHB3.out
  have z0 := cell_of_one HHK3.out
  have z1 := free_of_one HHK3.out
  go_region
  go_end0
  refine ⟨rfl, w1.heap.size, .slice a2 zs.length cap2, ⟨?_, ?_, ?_⟩, ?_, hsz, fun g hg => (hs2 g hg).imp id fun h => by omega⟩
  · show (W3.setCell ⟨w1.heap.size, 0, none⟩ _).heap[b]? = _
    rw [heap_setCell_other _ _ _ _ (by simpa using hne3.symm)]
    exact HHB3.out
  · exact one_setCell HHK3.out
  · have r3 : W3.ownsRow 0 5 1 (.slice a2 zs.length cap2) zs.length (zs.map (.int .u8)) := by
      rw [HW3.out]; exact ((Keeps.refl [b] _).setCell _ _ (by simp)).row hown2 (fun g hg => by simpa using hneb g hg)
    exact (((Keeps.refl [w1.heap.size] W3).setCell ⟨w1.heap.size, 0, none⟩ (.int .i64 zs.length) (by simp)).drew).row r3 (fun g hg => by simpa using hnek g hg)
  · exact (KK.setCell _ _ (.inr hsz)).drew

set_option maxHeartbeats 400000 in
set_option maxRecDepth 100000 in
theorem write_has (w : World) (b k : Nat) (v : Value) (xs : List Int) (h : WHas w b k v xs) (ad : Addr) (c : Nat) (zs : List Int) (hsrc : ∀ j u, (zs.map (Value.int .u8))[j]? = some u → w.cell? (ad.add j) = some u)
    (hn : xs.length + zs.length ≤ 1000000) :
    Calls Tryd.prog 41 #[.pointer (some ⟨b, 0, none⟩), .slice (some ad) zs.length c] w fun e w' => e = .returned (.tuple #[]) ∧ ∃ v', WHas w' b k v' (xs ++ zs) ∧ Keeps (b :: k :: own v) w w' ∧ FSub (own v') (own v) w.heap.size := by
  obtain ⟨hb, hk, hown⟩ := h
  have hkb : k ≠ b := by intro e; subst e; rw [hb] at hk; simp at hk
  obtain ⟨a, cap, rfl⟩ := row_form hown
  obtain ⟨c0, c1, c2, f0, f1, f2⟩ := cell3 hb
  have e0 := cell_of_one hk
  have e1 := free_of_one hk
  have HB := Lib.hid hb; clear hb
  have HK := Lib.hid hk; clear hk
  have Hsrc := Lib.hid hsrc; clear hsrc
  obtain ⟨i0, hi, hz0, hz1, hz2⟩ := info_parts Tryd.info8
  go_enter Tryd.func41, Tryd.ntmps41
  go_wp2_with fail
  go_quiet (fail)
  have K1 : Keeps [] w (w.drewN nq) := (Keeps.refl _ _).drewN _
  replace Hsrc : Hid (∀ j u, (zs.map (Value.int .u8))[j]? = some u → (w.drewN nq).cell? (ad.add j) = some u) := Hsrc
  replace HB : Hid ((w.drewN nq).heap[b]? = some (.cells #[.slice a xs.length cap, .int .i64 0, .pointer (some ⟨k, 0, none⟩)] 63 (0, 0))) := HB
  replace HK : Hid ((w.drewN nq).heap[k]? = some (.cells #[.int .i64 xs.length] 3 (0, 0))) := HK
  replace hown : (w.drewN nq).ownsRow 0 5 1 (.slice a xs.length cap) xs.length (xs.map (.int .u8)) := hown
  clear c0 c1 c2 f0 f1 f2 e0 e1
  generalize w.drewN nq = w1 at *
  obtain ⟨c0, c1, c2, f0, f1, f2⟩ := cell3 HB.out
  go_wp2_with (at_builtin; refine wpList_append_sharp _ rfl _ _ 46 rfl 5 i0 (.int .u8 0) 1 Tryd.underlying46 hi hz0 hz1 hz2 rfl (.slice a xs.length cap) xs.length (xs.map (.int .u8)) rfl hown ad zs.length c (zs.map (.int .u8)) rfl (by simp) Hsrc.out (ints_one _ _) ?c3 ?c4 ?_)
  case c3 => unfold maxLen; omega
  case c4 => omega
  intro v2 w2 hown2 hk2 hs2 _
  obtain ⟨a2, cap2, rfl⟩ := row_form hown2
  rw [← List.map_append] at hown2
  have hneb0 := row_ne hown HB.out (by decide)
  have hnek0 := row_ne hown HK.out (by decide)
  have HB2 := hk2.heap HB.out (fun h => hneb0 b h rfl)
  have HK2 := hk2.heap HK.out (fun h => hnek0 k h rfl)
  have hneb := row_ne hown2 HB2 (by decide)
  have hnek := row_ne hown2 HK2 (by decide)
  obtain ⟨W3, hW3⟩ : ∃ W3, W3 = w2.setCell ⟨b, 0, none⟩ (.slice a2 (xs.length + zs.length) cap2) := ⟨_, rfl⟩
  have HB3 : W3.heap[b]? = some (.cells #[.slice a2 (xs.length + zs.length) cap2, .int .i64 0, .pointer (some ⟨k, 0, none⟩)] 63 (0, 0)) := by
    rw [hW3]; exact set3_0 HB2 _
  have HK3 : W3.heap[k]? = some (.cells #[.int .i64 xs.length] 3 (0, 0)) := by
    rw [hW3, heap_setCell_other _ _ _ _ (by simpa using hkb)]; exact HK2
  have KK : Keeps (b :: k :: own (.slice a xs.length cap)) w W3 := by
    rw [hW3]
    exact ((K1.more (by simp)).step hk2 (fun g hg => by simp [hg])).setCell _ _ (by simp)
  have hsz : w.heap.size ≤ w1.heap.size := K1.size
  have r3 : W3.ownsRow 0 5 1 (.slice a2 (xs.length + zs.length) cap2) (xs.length + zs.length) ((xs ++ zs).map (.int .u8)) := by
    rw [hW3]; exact ((Keeps.refl [b] _).setCell _ _ (by simp)).row hown2 (fun g hg => by simpa using hneb g hg)
  obtain ⟨d0, d1, d2, g0, g1, g2⟩ := cell3 HB2
  have HW3 := Lib.hid hW3; clear hW3
  have HHB3 := Lib.hid HB3; have HHK3 := Lib.hid HK3; clear HB2 HK2 HB3 HK3 hneb0 hnek0 hneb
  go_wp2_with fail
  rw [← HW3.out]
  obtain ⟨x0, x1, x2, y0, y1, y2⟩ := cell3 HHB3.out
  have z0 := cell_of_one HHK3.out
  have z1 := free_of_one HHK3.out
  go_region
  go_end0
  refine ⟨rfl, .slice a2 (xs.length + zs.length) cap2, ⟨?_, ?_, ?_⟩, ?_, fun g hg => (hs2 g hg).imp id fun h => by omega⟩
  · show (W3.setCell ⟨k, 0, none⟩ _).heap[b]? = _
    rw [heap_setCell_other _ _ _ _ (by simpa using hkb.symm)]
    exact HHB3.out
  · have e : ((xs ++ zs).length : Int) = (xs.length : Int) + zs.length := by simp
    rw [e]; exact one_setCell HHK3.out
  · have := (((Keeps.refl [k] W3).setCell ⟨k, 0, none⟩ (.int .i64 ((xs.length : Int) + zs.length)) (by simp)).drew).row r3 (fun g hg => by simpa using hnek g hg)
    simpa using this
  · exact (KK.setCell _ _ (.inl (by simp))).drew

/-- THE WRITER at block b, all of whose blocks are F: it has written these bytes, or failed. -/
def WAt (w : World) (b : Nat) (F : List Nat) : Option (List Int) → Prop
  | none => WErr w b ∧ F = [b]
  | some xs => (WNew w b ∧ xs = [] ∧ F = [b]) ∨ ∃ k v, WHas w b k v xs ∧ F = b :: k :: own v

theorem WAt.lt {w : World} {b : Nat} {F : List Nat} {st : Option (List Int)} (h : WAt w b F st) : ∀ g ∈ F, g < w.heap.size := by
  intro g hg
  cases st with
  | none => obtain ⟨h1, rfl⟩ := h; simp at hg; subst hg; exact lt_of_block h1
  | some xs =>
    rcases h with ⟨h1, _, rfl⟩ | ⟨k, v, h1, rfl⟩
    · simp at hg; subst hg; exact lt_of_block h1
    · simp at hg
      rcases hg with rfl | rfl | hg
      · exact lt_of_block h1.blk
      · exact lt_of_block h1.used
      · exact row_lt h1.row g hg
theorem WAt.mem {w : World} {b : Nat} {F : List Nat} {st : Option (List Int)} (h : WAt w b F st) : b ∈ F := by
  cases st with
  | none => obtain ⟨h1, rfl⟩ := h; simp
  | some xs => rcases h with ⟨h1, _, rfl⟩ | ⟨k, v, h1, rfl⟩ <;> simp
theorem WAt.keeps {w w' : World} {b : Nat} {F G : List Nat} {st : Option (List Int)} (h : WAt w b F st) (hk : Keeps G w w') (hG : ∀ g ∈ F, g ∉ G) : WAt w' b F st := by
  cases st with
  | none => obtain ⟨h1, rfl⟩ := h; exact ⟨hk.heap h1 (hG b (by simp)), rfl⟩
  | some xs =>
    rcases h with ⟨h1, h2, rfl⟩ | ⟨k, v, h1, rfl⟩
    · exact .inl ⟨hk.heap h1 (hG b (by simp)), h2, rfl⟩
    · exact .inr ⟨k, v, ⟨hk.heap h1.blk (hG b (by simp)), hk.heap h1.used (hG k (by simp)), hk.row h1.row fun g hg => hG g (by simp [hg])⟩, rfl⟩

theorem write_any (w : World) (b : Nat) (F : List Nat) (st : Option (List Int)) (h : WAt w b F st) (ad : Addr) (m c : Nat) (zs : List Int) (hm : m = zs.length) (hsrc : ∀ j u, (zs.map (Value.int .u8))[j]? = some u → w.cell? (ad.add j) = some u)
    (hne : ad.block ≠ b) (hn : ∀ xs, st = some xs → xs.length + zs.length ≤ 1000000) :
    Calls Tryd.prog 41 #[.pointer (some ⟨b, 0, none⟩), .slice (some ad) m c] w fun e w' => e = .returned (.tuple #[]) ∧ ∃ F', WAt w' b F' (st.map (· ++ zs)) ∧ Keeps F w w' ∧ FSub F' F w.heap.size := by
  subst hm
  cases st with
  | none =>
    refine (write_err w b _ h.1).mono fun e w' ⟨he, hw⟩ => ?_
    subst hw
    exact ⟨he, F, h, Keeps.refl _ _, FSub.refl _ _⟩
  | some xs =>
    rcases h with ⟨h1, rfl, rfl⟩ | ⟨k, v, h1, rfl⟩
    · refine (write_new w b h1 ad c zs hsrc hne (by have := hn [] rfl; simpa using this)).mono fun e w' ⟨he, k, v, hh, hk, hk2, hs⟩ => ?_
      refine ⟨he, b :: k :: own v, .inr ⟨k, v, by simpa using hh, rfl⟩, hk, ?_⟩
      intro g hg
      simp at hg
      rcases hg with rfl | rfl | hg
      · exact .inl (by simp)
      · exact .inr hk2
      · exact (hs g hg).elim (fun h => by simp at h) .inr
    · refine (write_has w b k v xs h1 ad c zs hsrc (hn xs rfl)).mono fun e w' ⟨he, v', hh, hk, hs⟩ => ?_
      refine ⟨he, b :: k :: own v', .inr ⟨k, v', hh, rfl⟩, hk, ?_⟩
      intro g hg
      simp at hg
      rcases hg with rfl | rfl | hg
      · exact .inl (by simp)
      · exact .inl (by simp)
      · exact (hs g hg).imp (fun h => by simp [h]) id
end Go.Proofs.YtgdbhblapdhlmaaDoor
