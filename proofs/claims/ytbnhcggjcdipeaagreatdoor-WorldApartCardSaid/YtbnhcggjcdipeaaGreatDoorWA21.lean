/-
  Numbers as bytes: what is appended.
-/
import Derived.Test.YtbnhcggjcdipeaaGreatDoorWA20
import Derived.Test.YtbnhcggjcdipeaaGreatDoorWA01
set_option linter.unusedSimpArgs false
set_option linter.unusedVariables false
namespace Go.Proofs.YtbnhcggjcdipeaaGreatDoor
open Go.RowKit
/-- A number's bytes, the highest first. -/
def be1 (m : Int) : List Int := [m]
def be2 (m : Int) : List Int := [m / 256, m % 256]
set_option maxHeartbeats 1000000 in
theorem app8_any (w : World) (v : Value) (n : Nat) (xs : List Int) (m : Int) (h0 : 0 ≤ m) (h1 : m < 256)
    (hown : w.ownsRow 0 5 1 v n (xs.map (.int .u8))) (hn : n ≤ 1000000) :
    Calls Tryz.prog 185 #[v, .int .u8 m] w fun e w' => ∃ v', e = .returned v' ∧ w'.ownsRow 0 5 1 v' (n + 1) ((xs ++ be1 m).map (.int .u8)) ∧ Keeps (own v) w w' ∧ FSub (own v') (own v) w.heap.size ∧ v' ≠ .slice none 0 0 := by
  obtain ⟨i0, hi, hz0, hz1, hz2⟩ := info_parts Tryz.info8
  go_enter Tryz.func185, Tryz.ntmps185
  go_wp2_with fail
  refine (wid8_any _).mono ?_; rintro e w' ⟨rfl, rfl⟩
  go_wp2_with fail
  refine wp_loop_rounds 2 ?_
  rw [rounds_succ]
  go_wp2_with (at_builtin; refine wpList_append_sharp _ rfl _ _ 109 rfl 5 i0 (.int .u8 0) 1 Tryz.underlying109 hi hz0 hz1 hz2 rfl _ _ _ rfl (hown.alloc _) ⟨w.heap.size, 0, none⟩ 1 1 [.int .u8 (m)] rfl rfl ?c11 ?c21 ?c31 ?c41 ?_)
  case c11 => exact one_new _ _ _
  case c21 => intro u hu; simp at hu; subst hu; rfl
  case c31 => unfold maxLen; omega
  case c41 => omega
  intro v1 w1 hown1 hk1 hs1 hn1
  replace hk1 := ((Keeps.alloc (Keeps.refl [] _) _).more (G := own v) (by simp)).step hk1 (fun _ h => h)
  replace hs1 : FSub (own v1) (own v) w.heap.size := hs1.mono (by simp)
  go_wp2_with fail
  rw [rounds_succ]
  go_wp2
  go_ret
  refine ⟨v1, rfl, ?_, ?_, ?_, ?_⟩
  · have e : (xs ++ be1 m).map (Value.int .u8) = xs.map (.int .u8) ++ [.int .u8 (m)] := by simp [be1]
    rw [e]; exact hown1
  · exact hk1
  · exact hs1
  · intro h; simpa using hn1 h
set_option maxHeartbeats 1000000 in
theorem app16_any (w : World) (v : Value) (n : Nat) (xs : List Int) (m : Int) (h0 : 0 ≤ m) (h1 : m < 65536)
    (hown : w.ownsRow 0 5 1 v n (xs.map (.int .u8))) (hn : n ≤ 1000000) :
    Calls Tryz.prog 186 #[v, .int .u16 m] w fun e w' => ∃ v', e = .returned v' ∧ w'.ownsRow 0 5 1 v' (n + 2) ((xs ++ be2 m).map (.int .u8)) ∧ Keeps (own v) w w' ∧ FSub (own v') (own v) w.heap.size ∧ v' ≠ .slice none 0 0 := by
  obtain ⟨i0, hi, hz0, hz1, hz2⟩ := info_parts Tryz.info8
  go_enter Tryz.func186, Tryz.ntmps186
  go_wp2_with fail
  refine (wid16_any _).mono ?_; rintro e w' ⟨rfl, rfl⟩
  go_wp2_with fail
  refine wp_loop_rounds 3 ?_
  rw [rounds_succ]
  go_wp2_with (at_builtin; refine wpList_append_sharp _ rfl _ _ 109 rfl 5 i0 (.int .u8 0) 1 Tryz.underlying109 hi hz0 hz1 hz2 rfl _ _ _ rfl (hown.alloc _) ⟨w.heap.size, 0, none⟩ 1 1 [.int .u8 (m / 256)] rfl rfl ?c11 ?c21 ?c31 ?c41 ?_)
  case c11 => exact one_new _ _ _
  case c21 => intro u hu; simp at hu; subst hu; rfl
  case c31 => unfold maxLen; omega
  case c41 => omega
  intro v1 w1 hown1 hk1 hs1 hn1
  replace hk1 := ((Keeps.alloc (Keeps.refl [] _) _).more (G := own v) (by simp)).step hk1 (fun _ h => h)
  replace hs1 : FSub (own v1) (own v) w.heap.size := hs1.mono (by simp)
  go_wp2_with fail
  rw [rounds_succ]
  go_wp2_with (at_builtin; refine wpList_append_sharp _ rfl _ _ 109 rfl 5 i0 (.int .u8 0) 1 Tryz.underlying109 hi hz0 hz1 hz2 rfl _ _ _ rfl (hown1.alloc _) ⟨w1.heap.size, 0, none⟩ 1 1 [.int .u8 (m % 256)] rfl rfl ?c12 ?c22 ?c32 ?c42 ?_)
  case c12 => exact one_new _ _ _
  case c22 => intro u hu; simp at hu; subst hu; rfl
  case c32 => unfold maxLen; omega
  case c42 => omega
  intro v2 w2 hown2 hk2 hs2 hn2
  replace hk2 := ((Keeps.alloc (Keeps.refl [] _) _).more (G := own v1) (by simp)).step hk2 (fun _ h => h)
  replace hs2 : FSub (own v2) (own v1) w1.heap.size := hs2.mono (by simp)
  go_wp2_with fail
  rw [rounds_succ]
  go_wp2
  go_ret
  have z1 := hk1.size
  refine ⟨v2, rfl, ?_, ?_, ?_, ?_⟩
  · have e : (xs ++ be2 m).map (Value.int .u8) = xs.map (.int .u8) ++ [.int .u8 (m / 256), .int .u8 (m % 256)] := by simp [be2]
    rw [e]; exact hown2
  · exact hk1.trans hk2 hs1
  · exact hs2.trans hs1 (by omega) (by omega)
  · intro h; simpa using hn2 h
end Go.Proofs.YtbnhcggjcdipeaaGreatDoor
/-
  The Writer: how its memory looks, and what write does to it.
-/
namespace Go.Proofs.YtbnhcggjcdipeaaGreatDoor
open Go.RowKit
def WNew (w : World) (b : Nat) : Prop := w.heap[b]? = some (.cells #[.slice none 0 0, .int .i64 0, .pointer none] 254 (0, 0))
def WErr (w : World) (b : Nat) : Prop := w.heap[b]? = some (.cells #[.slice none 0 0, .int .i64 3, .pointer none] 254 (0, 0))
structure WHas (w : World) (b k : Nat) (v : Value) (xs : List Int) : Prop where
  blk : w.heap[b]? = some (.cells #[v, .int .i64 0, .pointer (some ⟨k, 0, none⟩)] 254 (0, 0))
  used : w.heap[k]? = some (.cells #[.int .i64 xs.length] 3 (0, 0))
  row : w.ownsRow 0 5 1 v xs.length (xs.map (.int .u8))
theorem cell3 {w : World} {b : Nat} {x y z : Value} {t : TypeId} (h : w.heap[b]? = some (.cells #[x, y, z] t (0, 0))) :
    w.cell? ⟨b, 0, none⟩ = some x ∧ w.cell? ⟨b, 1, none⟩ = some y ∧ w.cell? ⟨b, 2, none⟩ = some z ∧ w.frozen? ⟨b, 0, none⟩ = false ∧ w.frozen? ⟨b, 1, none⟩ = false ∧ w.frozen? ⟨b, 2, none⟩ = false := by
  refine ⟨?_, ?_, ?_, ?_, ?_, ?_⟩ <;> simp [World.cell?, World.frozen?, h]
theorem set3_0 {w : World} {b : Nat} {x y z : Value} {t : TypeId} (h : w.heap[b]? = some (.cells #[x, y, z] t (0, 0))) (v : Value) : (w.setCell ⟨b, 0, none⟩ v).heap[b]? = some (.cells #[v, y, z] t (0, 0)) := by
  rw [heap_setCell_same w b 0 _ t v h]; rfl
theorem set3_1 {w : World} {b : Nat} {x y z : Value} {t : TypeId} (h : w.heap[b]? = some (.cells #[x, y, z] t (0, 0))) (v : Value) : (w.setCell ⟨b, 1, none⟩ v).heap[b]? = some (.cells #[x, v, z] t (0, 0)) := by
  rw [heap_setCell_same w b 1 _ t v h]; rfl
theorem set3_2 {w : World} {b : Nat} {x y z : Value} {t : TypeId} (h : w.heap[b]? = some (.cells #[x, y, z] t (0, 0))) (v : Value) : (w.setCell ⟨b, 2, none⟩ v).heap[b]? = some (.cells #[x, y, v] t (0, 0)) := by
  rw [heap_setCell_same w b 2 _ t v h]; rfl
theorem add_block (a : Addr) (j : Nat) : (a.add j).block = a.block := by unfold Addr.add; split <;> rfl
theorem src_keeps {F : List Nat} {w w' : World} {ad : Addr} {vs : List Value} (h : ∀ (j : Nat) u, vs[j]? = some u → w.cell? (ad.add j) = some u) (hk : Keeps F w w') (hF : ad.block ∉ F) :
    ∀ (j : Nat) u, vs[j]? = some u → w'.cell? (ad.add j) = some u := fun j u hu => hk.cell (h j u hu) (by rw [add_block]; exact hF)
set_option maxHeartbeats 400000 in
set_option maxRecDepth 100000 in
theorem clone_nil (w : World) : Calls Tryz.prog 203 #[.slice none 0 0] w fun e w' => e = .returned (.slice none 0 0) ∧ w = w' := by
  have hq := fun (w : World) => run_eql_nil_slice (P := Tryz.prog) w 109 5 none 0 0 0 0 Tryz.underlying109
  go_enter Tryz.func203, Tryz.ntmps203
  go_wp2
  go_ret
  exact ⟨rfl, rfl⟩
set_option maxHeartbeats 400000 in
set_option maxRecDepth 100000 in
theorem write_err (w : World) (b : Nat) (v : Value) (h : WErr w b) : Calls Tryz.prog 184 #[.pointer (some ⟨b, 0, none⟩), v] w fun e w' => e = .returned (.tuple #[]) ∧ w = w' := by
  have c1 : w.cell? ⟨b, 1, none⟩ = some (.int .i64 3) := by have h2 := h; unfold WErr at h2; simp [World.cell?, h2]
  go_enter Tryz.func184, Tryz.ntmps184
  go_wp2
  exact bodyPost_ret (results_none rfl _ _ _) rfl ⟨rfl, rfl⟩
set_option maxHeartbeats 400000 in
set_option maxRecDepth 100000 in
theorem write_new (w : World) (b : Nat) (h : WNew w b) (ad : Addr) (c : Nat) (zs : List Int) (hsrc : ∀ j u, (zs.map (Value.int .u8))[j]? = some u → w.cell? (ad.add j) = some u)
    (hne : ad.block ≠ b) (hn : zs.length ≤ 1000000) :
    Calls Tryz.prog 184 #[.pointer (some ⟨b, 0, none⟩), .slice (some ad) zs.length c] w fun e w' => e = .returned (.tuple #[]) ∧ ∃ k v, WHas w' b k v zs ∧ Keeps [b] w w' ∧ w.heap.size ≤ k ∧ FSub (own v) [] w.heap.size := by
  have hb := h
  unfold WNew at hb
  have c0 : w.cell? ⟨b, 0, none⟩ = some (.slice none 0 0) := by simp [World.cell?, hb]
  have c1 : w.cell? ⟨b, 1, none⟩ = some (.int .i64 0) := by simp [World.cell?, hb]
  have c2 : w.cell? ⟨b, 2, none⟩ = some (.pointer none) := by simp [World.cell?, hb]
  have f0 : w.frozen? ⟨b, 0, none⟩ = false := by simp [World.frozen?, hb]
  have f2 : w.frozen? ⟨b, 2, none⟩ = false := by simp [World.frozen?, hb]
  have hlt := lt_of_block hb
  have HB := Lib.hid hb; clear hb
  go_enter Tryz.func184, Tryz.ntmps184
  go_wp2_with fail
  go_quiet (fail)
  have K1 : Keeps [] w (w.drewN nq) := (Keeps.refl _ _).drewN _
  have hsrc1 : ∀ j u, (zs.map (Value.int .u8))[j]? = some u → (w.drewN nq).cell? (ad.add j) = some u := hsrc
  have HB1 : (w.drewN nq).heap[b]? = some (.cells #[.slice none 0 0, .int .i64 0, .pointer none] 254 (0, 0)) := HB
  clear hsrc c0 c1 c2 f0 f2 HB hlt
  generalize w.drewN nq = w1 at *
  obtain ⟨i0, hi, hz0, hz1, hz2⟩ := info_parts Tryz.info8
  obtain ⟨W2, hW2⟩ : ∃ W2, W2 = ((w1.setCell ⟨b, 0, none⟩ (.slice none 0 0)).setCell ⟨b, 2, none⟩ (.pointer (some ⟨w1.heap.size, 0, none⟩))).alloc (.cells #[.int .i64 0] 3) := ⟨_, rfl⟩
  have HB2 : W2.heap[b]? = some (.cells #[.slice none 0 0, .int .i64 0, .pointer (some ⟨w1.heap.size, 0, none⟩)] 254 (0, 0)) := by
    rw [hW2]; exact heap_alloc_lt (set3_2 (set3_0 HB1 _) _)
  have HK2 : W2.heap[w1.heap.size]? = some (.cells #[.int .i64 0] 3 (0, 0)) := by
    rw [hW2]; have := heap_alloc_new ((w1.setCell ⟨b, 0, none⟩ (.slice none 0 0)).setCell ⟨b, 2, none⟩ (.pointer (some ⟨w1.heap.size, 0, none⟩))) (.cells #[.int .i64 0] 3); simpa using this
  have K2 : Keeps [b] w1 W2 := by
    rw [hW2]; exact (((Keeps.refl _ _).setCell _ _ (by simp)).setCell _ _ (by simp)).alloc _
  have hsrc2 := src_keeps hsrc1 K2 (by simpa using hne)
  obtain ⟨c01, c11, c21, f01, f11, f21⟩ := cell3 HB1
  have hlt1 := lt_of_block HB1
  have HW2 := Lib.hid hW2; clear hW2
  have Hsrc2 := Lib.hid hsrc2; clear hsrc2 hsrc1
  have HHB2 := Lib.hid HB2; have HHK2 := Lib.hid HK2; clear HB2 HK2 HB1
  go_wp2_with fail
  refine (clone_nil _).mono ?_; rintro e w' ⟨rfl, rfl⟩
  go_wp2_with (at_builtin; rw [← HW2.out]; refine wpList_append_sharp _ rfl _ _ 109 rfl 5 i0 (.int .u8 0) 1 Tryz.underlying109 hi hz0 hz1 hz2 rfl (.slice none 0 0) 0 [] rfl (World.ownsRow_nil _ _ _ _) ad zs.length c (zs.map (.int .u8)) rfl (by simp) Hsrc2.out (ints_one _ _) ?c3 ?c4 ?_)
  case c3 => unfold maxLen; omega
  case c4 => omega
  intro v2 w2 hown2 hk2 hs2 _
  obtain ⟨a2, cap2, rfl⟩ := row_form hown2
  have HB2 := hk2.heap HHB2.out (by simp [own_nil])
  have HK2 := hk2.heap HHK2.out (by simp [own_nil])
  obtain ⟨W3, hW3⟩ : ∃ W3, W3 = w2.setCell ⟨b, 0, none⟩ (.slice a2 zs.length cap2) := ⟨_, rfl⟩
  have HB3 : W3.heap[b]? = some (.cells #[.slice a2 zs.length cap2, .int .i64 0, .pointer (some ⟨w1.heap.size, 0, none⟩)] 254 (0, 0)) := by
    rw [hW3]; exact set3_0 HB2 _
  have hne3 : w1.heap.size ≠ b := by omega
  have HK3 : W3.heap[w1.heap.size]? = some (.cells #[.int .i64 0] 3 (0, 0)) := by
    rw [hW3, heap_setCell_other _ _ _ _ (by simpa using hne3)]; exact HK2
  obtain ⟨d0, d1, d2, g0, g1, g2⟩ := cell3 HB2
  have hneb := row_ne hown2 HB2 (by decide)
  have hnek := row_ne hown2 HK2 (by decide)
  have KK : Keeps [b] w W3 := by
    rw [hW3]
    exact ((((K1.more (by simp)).step K2 (fun _ h => h)).step hk2 (by simp [own_nil])).setCell _ _ (by simp))
  have hsz : w.heap.size ≤ w1.heap.size := K1.size
  have hsz2 : w1.heap.size ≤ W2.heap.size := K2.size
  have HW3 := Lib.hid hW3; clear hW3
  have HHB3 := Lib.hid HB3; have HHK3 := Lib.hid HK3; clear HB2 HK2 HB3 HK3
  go_wp2_with fail
  rw [← HW3.out]
  obtain ⟨x0, x1, x2, y0, y1, y2⟩ := cell3 HHB3.out
  have z0 := cell_of_one HHK3.out
  have z1 := free_of_one HHK3.out
  go_region
  go_end0
  refine ⟨rfl, w1.heap.size, .slice a2 zs.length cap2, ⟨?_, ?_, ?_⟩, ?_, hsz, fun g hg => (hs2 g hg).imp id fun h => by omega⟩
  · show (W3.setCell ⟨w1.heap.size, 0, none⟩ _).heap[b]? = _
    rw [heap_setCell_other _ _ _ _ (by simpa using hne3.symm)]
    exact HHB3.out
  · exact one_setCell HHK3.out
  · have r3 : W3.ownsRow 0 5 1 (.slice a2 zs.length cap2) zs.length (zs.map (.int .u8)) := by
      rw [HW3.out]; exact ((Keeps.refl [b] _).setCell _ _ (by simp)).row hown2 (fun g hg => by simpa using hneb g hg)
    exact (((Keeps.refl [w1.heap.size] W3).setCell ⟨w1.heap.size, 0, none⟩ (.int .i64 zs.length) (by simp)).drew).row r3 (fun g hg => by simpa using hnek g hg)
  · exact (KK.setCell _ _ (.inr hsz)).drew
set_option maxHeartbeats 400000 in
set_option maxRecDepth 100000 in
theorem write_has (w : World) (b k : Nat) (v : Value) (xs : List Int) (h : WHas w b k v xs) (ad : Addr) (c : Nat) (zs : List Int) (hsrc : ∀ j u, (zs.map (Value.int .u8))[j]? = some u → w.cell? (ad.add j) = some u)
    (hn : xs.length + zs.length ≤ 1000000) :
    Calls Tryz.prog 184 #[.pointer (some ⟨b, 0, none⟩), .slice (some ad) zs.length c] w fun e w' => e = .returned (.tuple #[]) ∧ ∃ v', WHas w' b k v' (xs ++ zs) ∧ Keeps (b :: k :: own v) w w' ∧ FSub (own v') (own v) w.heap.size := by
  obtain ⟨hb, hk, hown⟩ := h
  have hkb : k ≠ b := by intro e; subst e; rw [hb] at hk; simp at hk
  obtain ⟨a, cap, rfl⟩ := row_form hown
  obtain ⟨c0, c1, c2, f0, f1, f2⟩ := cell3 hb
  have e0 := cell_of_one hk
  have e1 := free_of_one hk
  have HB := Lib.hid hb; clear hb
  have HK := Lib.hid hk; clear hk
  have Hsrc := Lib.hid hsrc; clear hsrc
  obtain ⟨i0, hi, hz0, hz1, hz2⟩ := info_parts Tryz.info8
  go_enter Tryz.func184, Tryz.ntmps184
  go_wp2_with fail
  go_quiet (fail)
  have K1 : Keeps [] w (w.drewN nq) := (Keeps.refl _ _).drewN _
  replace Hsrc : Hid (∀ j u, (zs.map (Value.int .u8))[j]? = some u → (w.drewN nq).cell? (ad.add j) = some u) := Hsrc
  replace HB : Hid ((w.drewN nq).heap[b]? = some (.cells #[.slice a xs.length cap, .int .i64 0, .pointer (some ⟨k, 0, none⟩)] 254 (0, 0))) := HB
  replace HK : Hid ((w.drewN nq).heap[k]? = some (.cells #[.int .i64 xs.length] 3 (0, 0))) := HK
  replace hown : (w.drewN nq).ownsRow 0 5 1 (.slice a xs.length cap) xs.length (xs.map (.int .u8)) := hown
  clear c0 c1 c2 f0 f1 f2 e0 e1
  generalize w.drewN nq = w1 at *
  obtain ⟨c0, c1, c2, f0, f1, f2⟩ := cell3 HB.out
  go_wp2_with (at_builtin; refine wpList_append_sharp _ rfl _ _ 109 rfl 5 i0 (.int .u8 0) 1 Tryz.underlying109 hi hz0 hz1 hz2 rfl (.slice a xs.length cap) xs.length (xs.map (.int .u8)) rfl hown ad zs.length c (zs.map (.int .u8)) rfl (by simp) Hsrc.out (ints_one _ _) ?c3 ?c4 ?_)
  case c3 => unfold maxLen; omega
  case c4 => omega
  intro v2 w2 hown2 hk2 hs2 _
  obtain ⟨a2, cap2, rfl⟩ := row_form hown2
  rw [← List.map_append] at hown2
  have hneb0 := row_ne hown HB.out (by decide)
  have hnek0 := row_ne hown HK.out (by decide)
  have HB2 := hk2.heap HB.out (fun h => hneb0 b h rfl)
  have HK2 := hk2.heap HK.out (fun h => hnek0 k h rfl)
  have hneb := row_ne hown2 HB2 (by decide)
  have hnek := row_ne hown2 HK2 (by decide)
  obtain ⟨W3, hW3⟩ : ∃ W3, W3 = w2.setCell ⟨b, 0, none⟩ (.slice a2 (xs.length + zs.length) cap2) := ⟨_, rfl⟩
  have HB3 : W3.heap[b]? = some (.cells #[.slice a2 (xs.length + zs.length) cap2, .int .i64 0, .pointer (some ⟨k, 0, none⟩)] 254 (0, 0)) := by
    rw [hW3]; exact set3_0 HB2 _
  have HK3 : W3.heap[k]? = some (.cells #[.int .i64 xs.length] 3 (0, 0)) := by
    rw [hW3, heap_setCell_other _ _ _ _ (by simpa using hkb)]; exact HK2
  have KK : Keeps (b :: k :: own (.slice a xs.length cap)) w W3 := by
    rw [hW3]
    exact ((K1.more (by simp)).step hk2 (fun g hg => by simp [hg])).setCell _ _ (by simp)
  have hsz : w.heap.size ≤ w1.heap.size := K1.size
  have r3 : W3.ownsRow 0 5 1 (.slice a2 (xs.length + zs.length) cap2) (xs.length + zs.length) ((xs ++ zs).map (.int .u8)) := by
    rw [hW3]; exact ((Keeps.refl [b] _).setCell _ _ (by simp)).row hown2 (fun g hg => by simpa using hneb g hg)
  obtain ⟨d0, d1, d2, g0, g1, g2⟩ := cell3 HB2
  have HW3 := Lib.hid hW3; clear hW3
  have HHB3 := Lib.hid HB3; have HHK3 := Lib.hid HK3; clear HB2 HK2 HB3 HK3 hneb0 hnek0 hneb
  go_wp2_with fail
  rw [← HW3.out]
  obtain ⟨x0, x1, x2, y0, y1, y2⟩ := cell3 HHB3.out
  have z0 := cell_of_one HHK3.out
  have z1 := free_of_one HHK3.out
  go_region
  go_end0
  refine ⟨rfl, .slice a2 (xs.length + zs.length) cap2, ⟨?_, ?_, ?_⟩, ?_, fun g hg => (hs2 g hg).imp id fun h => by omega⟩
  · show (W3.setCell ⟨k, 0, none⟩ _).heap[b]? = _
    rw [heap_setCell_other _ _ _ _ (by simpa using hkb.symm)]
    exact HHB3.out
  · have e : ((xs ++ zs).length : Int) = (xs.length : Int) + zs.length := by simp
    rw [e]; exact one_setCell HHK3.out
  · have := (((Keeps.refl [k] W3).setCell ⟨k, 0, none⟩ (.int .i64 ((xs.length : Int) + zs.length)) (by simp)).drew).row r3 (fun g hg => by simpa using hnek g hg)
    simpa using this
  · exact (KK.setCell _ _ (.inl (by simp))).drew
/-- THE WRITER at block b, all of whose blocks are F: it has written these bytes, or failed. -/
def WAt (w : World) (b : Nat) (F : List Nat) : Option (List Int) → Prop
  | none => WErr w b ∧ F = [b]
  | some xs => (WNew w b ∧ xs = [] ∧ F = [b]) ∨ ∃ k v, WHas w b k v xs ∧ F = b :: k :: own v
theorem WAt.lt {w : World} {b : Nat} {F : List Nat} {st : Option (List Int)} (h : WAt w b F st) : ∀ g ∈ F, g < w.heap.size := by
  intro g hg
  cases st with
  | none => obtain ⟨h1, rfl⟩ := h; simp at hg; subst hg; exact lt_of_block h1
  | some xs =>
    rcases h with ⟨h1, _, rfl⟩ | ⟨k, v, h1, rfl⟩
    · simp at hg; subst hg; exact lt_of_block h1
    · simp at hg
      rcases hg with rfl | rfl | hg
      · exact lt_of_block h1.blk
      · exact lt_of_block h1.used
      · exact row_lt h1.row g hg
theorem WAt.mem {w : World} {b : Nat} {F : List Nat} {st : Option (List Int)} (h : WAt w b F st) : b ∈ F := by
  cases st with
  | none => obtain ⟨h1, rfl⟩ := h; simp
  | some xs => rcases h with ⟨h1, _, rfl⟩ | ⟨k, v, h1, rfl⟩ <;> simp
theorem WAt.keeps {w w' : World} {b : Nat} {F G : List Nat} {st : Option (List Int)} (h : WAt w b F st) (hk : Keeps G w w') (hG : ∀ g ∈ F, g ∉ G) : WAt w' b F st := by
  cases st with
  | none => obtain ⟨h1, rfl⟩ := h; exact ⟨hk.heap h1 (hG b (by simp)), rfl⟩
  | some xs =>
    rcases h with ⟨h1, h2, rfl⟩ | ⟨k, v, h1, rfl⟩
    · exact .inl ⟨hk.heap h1 (hG b (by simp)), h2, rfl⟩
    · exact .inr ⟨k, v, ⟨hk.heap h1.blk (hG b (by simp)), hk.heap h1.used (hG k (by simp)), hk.row h1.row fun g hg => hG g (by simp [hg])⟩, rfl⟩
theorem write_any (w : World) (b : Nat) (F : List Nat) (st : Option (List Int)) (h : WAt w b F st) (ad : Addr) (m c : Nat) (zs : List Int) (hm : m = zs.length) (hsrc : ∀ j u, (zs.map (Value.int .u8))[j]? = some u → w.cell? (ad.add j) = some u)
    (hne : ad.block ≠ b) (hn : ∀ xs, st = some xs → xs.length + zs.length ≤ 1000000) :
    Calls Tryz.prog 184 #[.pointer (some ⟨b, 0, none⟩), .slice (some ad) m c] w fun e w' => e = .returned (.tuple #[]) ∧ ∃ F', WAt w' b F' (st.map (· ++ zs)) ∧ Keeps F w w' ∧ FSub F' F w.heap.size := by
  subst hm
  cases st with
  | none =>
    refine (write_err w b _ h.1).mono fun e w' ⟨he, hw⟩ => ?_
    subst hw
    exact ⟨he, F, h, Keeps.refl _ _, FSub.refl _ _⟩
  | some xs =>
    rcases h with ⟨h1, rfl, rfl⟩ | ⟨k, v, h1, rfl⟩
    · refine (write_new w b h1 ad c zs hsrc hne (by have := hn [] rfl; simpa using this)).mono fun e w' ⟨he, k, v, hh, hk, hk2, hs⟩ => ?_
      refine ⟨he, b :: k :: own v, .inr ⟨k, v, by simpa using hh, rfl⟩, hk, ?_⟩
      intro g hg
      simp at hg
      rcases hg with rfl | rfl | hg
      · exact .inl (by simp)
      · exact .inr hk2
      · exact (hs g hg).elim (fun h => by simp at h) .inr
    · refine (write_has w b k v xs h1 ad c zs hsrc (hn xs rfl)).mono fun e w' ⟨he, v', hh, hk, hs⟩ => ?_
      refine ⟨he, b :: k :: own v', .inr ⟨k, v', hh, rfl⟩, hk, ?_⟩
      intro g hg
      simp at hg
      rcases hg with rfl | rfl | hg
      · exact .inl (by simp)
      · exact .inl (by simp)
      · exact (hs g hg).imp (fun h => by simp [h]) id
end Go.Proofs.YtbnhcggjcdipeaaGreatDoor
/-
  The Writer's calls, by what they do to what was written.
-/
namespace Go.Proofs.YtbnhcggjcdipeaaGreatDoor
open Go.RowKit
theorem row_src {w : World} {e : TypeId} {v : Value} {n : Nat} {xs : List Value} (hr : w.ownsRow 0 e 1 v n xs) (hv : v ≠ .slice none 0 0) :
    ∃ g cap, v = .slice (some ⟨g, 0, none⟩) n cap ∧ (∀ (j : Nat) u, xs[j]? = some u → w.cell? ((⟨g, 0, none⟩ : Addr).add j) = some u) ∧ g ∈ own v := by
  have hr' := hr
  rcases hr.2 with ⟨rfl, rfl⟩ | ⟨g, cap, cur, rfl, _⟩
  · exact absurd rfl hv
  · exact ⟨g, cap, rfl, hr'.cells (g := g) rfl, by simp [own, Value.ownBlock]⟩
set_option maxHeartbeats 400000 in
theorem U8_any (w : World) (b : Nat) (F : List Nat) (st : Option (List Int)) (h : WAt w b F st) (m : Int) (h0 : 0 ≤ m) (h1 : m < 256) (hn : ∀ xs, st = some xs → xs.length + 1 ≤ 1000000) :
    Calls Tryz.prog 157 #[.pointer (some ⟨b, 0, none⟩), .int .u8 m] w fun e w' => e = .returned (.tuple #[]) ∧ ∃ F', WAt w' b F' (st.map (· ++ be1 m)) ∧ Keeps F w w' ∧ FSub F' F w.heap.size := by
  have hb := h.lt b h.mem
  go_enter Tryz.func157, Tryz.ntmps157
  go_wp2_with fail
  refine (app8_any _ _ 0 [] m h0 h1 (World.ownsRow_nil _ _ _ _) (by omega)).mono ?_
  rintro e w1 ⟨v', rfl, hown, hk, hs, hnn⟩
  obtain ⟨g, cap, rfl, hsrc, hg⟩ := row_src hown hnn
  have hgb : g ≠ b := by have := hs g hg; simp [own_nil] at this; omega
  have h2 := h.keeps hk (by simp [own_nil])
  have hk' := hk.more (G := F) (by simp [own_nil])
  have hz := hk.size
  clear hown hk hs hnn
  have Hsrc := Lib.hid hsrc; clear hsrc
  go_wp2_with fail
  refine (write_any _ b F st h2 _ _ _ (be1 m) rfl (by simpa using Hsrc.out) hgb hn).mono ?_
  rintro e w2 ⟨rfl, F', h3, hk3, hs3⟩
  go_wp2
  go_end0
  exact ⟨rfl, F', h3, hk'.step hk3 (fun _ h => h), hs3.mono hz⟩
set_option maxHeartbeats 400000 in
theorem U16_any (w : World) (b : Nat) (F : List Nat) (st : Option (List Int)) (h : WAt w b F st) (m : Int) (h0 : 0 ≤ m) (h1 : m < 65536) (hn : ∀ xs, st = some xs → xs.length + 2 ≤ 1000000) :
    Calls Tryz.prog 159 #[.pointer (some ⟨b, 0, none⟩), .int .u16 m] w fun e w' => e = .returned (.tuple #[]) ∧ ∃ F', WAt w' b F' (st.map (· ++ be2 m)) ∧ Keeps F w w' ∧ FSub F' F w.heap.size := by
  have hb := h.lt b h.mem
  go_enter Tryz.func159, Tryz.ntmps159
  go_wp2_with fail
  refine (app16_any _ _ 0 [] m h0 h1 (World.ownsRow_nil _ _ _ _) (by omega)).mono ?_
  rintro e w1 ⟨v', rfl, hown, hk, hs, hnn⟩
  obtain ⟨g, cap, rfl, hsrc, hg⟩ := row_src hown hnn
  have hgb : g ≠ b := by have := hs g hg; simp [own_nil] at this; omega
  have h2 := h.keeps hk (by simp [own_nil])
  have hk' := hk.more (G := F) (by simp [own_nil])
  have hz := hk.size
  clear hown hk hs hnn
  have Hsrc := Lib.hid hsrc; clear hsrc
  go_wp2_with fail
  refine (write_any _ b F st h2 _ _ _ (be2 m) rfl (by simpa using Hsrc.out) hgb hn).mono ?_
  rintro e w2 ⟨rfl, F', h3, hk3, hs3⟩
  go_wp2
  go_end0
  exact ⟨rfl, F', h3, hk'.step hk3 (fun _ h => h), hs3.mono hz⟩
/-- What stands in the cells of a text that was made bytes. -/
theorem bytes_src (w : World) (s : ByteArray) (cap : Nat) (t : TypeId) (fr : Nat × Nat) : ∀ (j : Nat) u, ((nums s).map (Value.int .u8))[j]? = some u → (w.alloc (.cells (bytesRow s cap) t fr)).cell? ((⟨w.heap.size, 0, none⟩ : Addr).add j) = some u := by
  intro j u hj
  have hj' : j < s.size := by
    have := (List.getElem?_eq_some_iff.1 hj).1
    simpa [nums_length] using this
  have ha : ((⟨w.heap.size, 0, none⟩ : Addr).add j) = ⟨w.heap.size, j, none⟩ := by unfold Addr.add; split <;> simp_all
  rw [ha, World.cell?_alloc_mark, ← hj]
  have hd : j < s.data.size := hj'
  simp [bytesRow, nums, Array.getElem?_append, hd, hj', Function.comp_def]
/-- 'string(v)' of an owned row of bytes. -/
theorem row_string {w : World} {v : Value} {n : Nat} {xs : List Int} (hr : w.ownsRow 0 5 1 v n (xs.map (.int .u8))) :
    (convert 109 9 v).run Tryz.prog w = .ok (.string (strOfNums xs)) w := by
  have hr' := hr
  have hl : xs.length = n := by simpa using hr.1
  rcases hr.2 with ⟨rfl, rfl⟩ | ⟨g, cap, cur, rfl, _⟩
  · have : xs = [] := List.eq_nil_of_length_eq_zero hl
    subst this
    exact run_convert_bytes_nil w _ _ Tryz.underlying109 Tryz.underlying5 0 0 _ Tryz.underlying9
  · refine run_convert_bytes_arg w _ _ Tryz.underlying109 Tryz.underlying5 g 0 n cap xs hl (fun i hi => ?_) _ Tryz.underlying9
    have := hr'.cells (g := g) rfl i (.int .u8 (xs.getD i 0)) (by simp [hl, hi, List.getD])
    have ha : ((⟨g, 0, none⟩ : Addr).add i) = ⟨g, 0 + i, none⟩ := by unfold Addr.add; split <;> simp_all
    rw [ha] at this
    exact this
set_option maxHeartbeats 400000 in
theorem Bytes_any (w : World) (b : Nat) (F : List Nat) (st : Option (List Int)) (h : WAt w b F st) :
    Calls Tryz.prog 160 #[.pointer (some ⟨b, 0, none⟩)] w fun e w' => e = .returned (.tuple #[.string (strOfNums (st.getD [])), .int .i64 (if st.isSome then 0 else 3)]) ∧ w.drew = w' := by
  obtain ⟨v, p, hb, hcv0, hcv2⟩ : ∃ v p, w.heap[b]? = some (.cells #[v, .int .i64 (if st.isSome then 0 else 3), .pointer p] 254 (0, 0)) ∧ (convert 109 9 v).run Tryz.prog w = .ok (.string (strOfNums (st.getD []))) w ∧ (convert 109 9 v).run Tryz.prog w.drew = .ok (.string (strOfNums (st.getD []))) w.drew := by
    cases st with
    | none => exact ⟨_, _, h.1, row_string (xs := []) (World.ownsRow_nil _ _ _ _), row_string (xs := []) (World.ownsRow_nil _ _ _ _)⟩
    | some xs =>
      rcases h with ⟨h1, rfl, _⟩ | ⟨k, v, h1, _⟩
      · exact ⟨_, _, h1, row_string (xs := []) (World.ownsRow_nil _ _ _ _), row_string (xs := []) (World.ownsRow_nil _ _ _ _)⟩
      · exact ⟨_, _, h1.blk, row_string h1.row, row_string (w := w.drew) h1.row.drew⟩
  obtain ⟨c0, c1, c2, f0, f1, f2⟩ := cell3 hb
  have HB := Lib.hid hb; clear hb
  generalize hs : strOfNums (st.getD []) = S at *
  generalize hr : (if st.isSome then (0 : Int) else 3) = R at *
  clear hs hr
  go_enter Tryz.func160, Tryz.ntmps160
  go_wp2
  go_region
  go_wp2
  go_ret2
  exact ⟨rfl, rfl⟩
theorem wat_new (w : World) : WAt (w.alloc (.cells #[.slice none 0 0, .int .i64 0, .pointer none] 254)) w.heap.size [w.heap.size] (some []) :=
  .inl ⟨heap_alloc_new w _, rfl, rfl⟩
end Go.Proofs.YtbnhcggjcdipeaaGreatDoor
/-
  The Reader: how its memory looks; take.
-/
namespace Go.Proofs.YtbnhcggjcdipeaaGreatDoor
open Go.RowKit
/-- THE READER at block r over the bytes xs (block g): its error, and where it stands. -/
structure RAt (w : World) (r g cap : Nat) (xs : List Int) (e : Int) (p : Nat) : Prop where
  blk : w.heap[r]? = some (.cells #[.slice (some ⟨g, 0, none⟩) xs.length cap, .int .i64 e, .int .i64 p] 292 (0, 0))
  src : ∀ j, j < xs.length → w.cell? ⟨g, j, none⟩ = some (.int .u8 (xs.getD j 0))
  le : p ≤ xs.length
  cap : xs.length ≤ cap
  ne : g ≠ r
theorem RAt.drew {w : World} {r g cap p : Nat} {xs : List Int} {e : Int} (h : RAt w r g cap xs e p) : RAt w.drew r g cap xs e p := ⟨h.blk, h.src, h.le, h.cap, h.ne⟩
theorem RAt.drewN {w : World} {r g cap p : Nat} {xs : List Int} {e : Int} (h : RAt w r g cap xs e p) (n : Nat) : RAt (w.drewN n) r g cap xs e p := ⟨h.blk, h.src, h.le, h.cap, h.ne⟩
set_option maxHeartbeats 400000 in
theorem Err_any (w : World) (r g cap p : Nat) (xs : List Int) (e : Int) (h : RAt w r g cap xs e p) :
    Calls Tryz.prog 189 #[.pointer (some ⟨r, 0, none⟩)] w fun x w' => x = .returned (.int .i64 e) ∧ w = w' := by
  obtain ⟨c0, c1, c2, f0, f1, f2⟩ := cell3 h.blk
  go_enter Tryz.func189, Tryz.ntmps189
  go_wp2
  go_ret
  exact ⟨rfl, rfl⟩
set_option maxHeartbeats 400000 in
theorem Left_any (w : World) (r g cap p : Nat) (xs : List Int) (e : Int) (h : RAt w r g cap xs e p) (hl : xs.length ≤ 1000000) :
    Calls Tryz.prog 190 #[.pointer (some ⟨r, 0, none⟩)] w fun x w' => x = .returned (.int .i64 ((xs.length : Int) - p)) ∧ ∃ n, w' = w.drewN n := by
  obtain ⟨c0, c1, c2, f0, f1, f2⟩ := cell3 h.blk
  have hp := h.le
  go_enter Tryz.func190, Tryz.ntmps190
  go_wp2
  go_quiet (fail)
  go_wp2
  go_ret
  exact ⟨rfl, _, rfl⟩
/-- What Close tells. -/
def closeOf (e : Int) (p n : Nat) : Int := if e = 0 ∧ p < n then 4 else e
set_option maxHeartbeats 400000 in
theorem Close_any (w : World) (r g cap p : Nat) (xs : List Int) (e : Int) (h : RAt w r g cap xs e p) (hl : xs.length ≤ 1000000) :
    Calls Tryz.prog 165 #[.pointer (some ⟨r, 0, none⟩)] w fun x w' => x = .returned (.int .i64 (closeOf e p xs.length)) ∧ ∃ n, w' = w.drewN n := by
  have hp := h.le
  by_cases he : e = 0
  · subst he
    go_enter Tryz.func165, Tryz.ntmps165
    go_wp2_with fail
    refine (Err_any _ r g cap p xs 0 h).mono ?_
    rintro x w1 ⟨rfl, rfl⟩
    go_wp2_with fail
    refine (Left_any _ r g cap p xs 0 h hl).mono ?_
    rintro x w1 ⟨rfl, n, rfl⟩
    by_cases hlt : p < xs.length
    · have : (0 : Int) < (xs.length : Int) - p := by omega
      go_wp2
      go_ret
      exact ⟨by simp [closeOf, hlt], _, rfl⟩
    · have : ¬ (0 : Int) < (xs.length : Int) - p := by omega
      go_wp2
      go_ret
      exact ⟨by simp [closeOf, hlt], _, rfl⟩
  · have he2 : (e != 0) = true := by simpa using he
    go_enter Tryz.func165, Tryz.ntmps165
    go_wp2_with fail
    refine (Err_any _ r g cap p xs e h).mono ?_
    rintro x w1 ⟨rfl, rfl⟩
    go_wp2_with fail
    go_ret
    exact ⟨by simp [closeOf, he], 0, rfl⟩
set_option maxHeartbeats 400000 in
theorem Over_any (w : World) (s : ByteArray) :
    Calls Tryz.prog 162 #[.string s] w fun x w' => x = .returned (.pointer (some ⟨w.heap.size + 1, 0, none⟩)) ∧ (∃ cap, RAt w' (w.heap.size + 1) w.heap.size cap (nums s) 0 0) ∧ Keeps [] w w' := by
  have hcv := fun w => run_bytes_of_string (P := Tryz.prog) w 9 109 5 s Tryz.underlying9 Tryz.underlying109 Tryz.underlying5
  go_enter Tryz.func162, Tryz.ntmps162
  go_wp2
  go_ret
  have hc := grownCap_ge w s.size 0 5
  refine ⟨rfl, ⟨grownCap w s.size 0 5, RAt.drew ⟨?_, ?_, Nat.zero_le _, by rw [nums_length]; exact hc, by omega⟩⟩, (((Keeps.refl _ _).alloc _).alloc _).drew⟩
  · have := heap_alloc_new (w.alloc (.cells (bytesRow s (grownCap w s.size 0 5)) 5 ((bytesRow s (grownCap w s.size 0 5)).size, (bytesRow s (grownCap w s.size 0 5)).size + 1))) (.cells #[.slice (some ⟨w.heap.size, 0, none⟩) s.size (grownCap w s.size 0 5), .int .i64 0, .int .i64 0] 292)
    rw [nums_length]
    simpa using this
  · intro j hj
    have h1 := bytes_src w s (grownCap w s.size 0 5) 5 ((bytesRow s (grownCap w s.size 0 5)).size, (bytesRow s (grownCap w s.size 0 5)).size + 1) j (.int .u8 ((nums s).getD j 0)) (by simp [hj, List.getD])
    have ha : ((⟨w.heap.size, 0, none⟩ : Addr).add j) = ⟨w.heap.size, j, none⟩ := by unfold Addr.add; split <;> simp_all
    rw [ha] at h1
    exact ((Keeps.refl [] _).alloc _).cell h1 (by simp)
end Go.Proofs.YtbnhcggjcdipeaaGreatDoor
/-
  The Reader's take.
-/
namespace Go.Proofs.YtbnhcggjcdipeaaGreatDoor
open Go.RowKit
theorem RAt.keeps {w w' : World} {r g cap p : Nat} {xs : List Int} {e : Int} {F : List Nat} (h : RAt w r g cap xs e p) (hk : Keeps F w w') (hr : r ∉ F) (hg : g ∉ F) : RAt w' r g cap xs e p :=
  ⟨hk.heap h.blk hr, fun j hj => hk.cell (h.src j hj) hg, h.le, h.cap, h.ne⟩
set_option maxHeartbeats 400000 in
theorem take_err (w : World) (r g cap p : Nat) (xs : List Int) (e : Int) (h : RAt w r g cap xs e p) (he : e ≠ 0) (n : Int) :
    Calls Tryz.prog 207 #[.pointer (some ⟨r, 0, none⟩), .int .i64 n] w fun x w' => x = .returned (.slice none 0 0) ∧ w = w' := by
  have he2 : (e != 0) = true := by simpa using he
  go_enter Tryz.func207, Tryz.ntmps207
  go_wp2_with fail
  refine (Err_any _ r g cap p xs e h).mono ?_
  rintro x w1 ⟨rfl, rfl⟩
  go_wp2_with fail
  go_ret
  exact ⟨rfl, rfl⟩
set_option maxHeartbeats 400000 in
theorem take_long (w : World) (r g cap p : Nat) (xs : List Int) (h : RAt w r g cap xs 0 p) (hl : xs.length ≤ 1000000) (n : Int) (hn : (xs.length : Int) - p < n) :
    Calls Tryz.prog 207 #[.pointer (some ⟨r, 0, none⟩), .int .i64 n] w fun x w' => x = .returned (.slice none 0 0) ∧ RAt w' r g cap xs 5 p ∧ Keeps [r] w w' := by
  obtain ⟨c0, c1, c2, f0, f1, f2⟩ := cell3 h.blk
  have hp := h.le
  go_enter Tryz.func207, Tryz.ntmps207
  go_wp2_with fail
  refine (Err_any _ r g cap p xs 0 h).mono ?_
  rintro x w1 ⟨rfl, rfl⟩
  go_wp2_with fail
  refine (Left_any _ r g cap p xs 0 h hl).mono ?_
  rintro x w1 ⟨rfl, m, rfl⟩
  replace h := h.drewN m
  have hk : Keeps [r] w (w.drewN m) := (Keeps.refl _ _).drewN _
  clear c0 c1 c2 f0 f1 f2
  generalize w.drewN m = w1 at *
  obtain ⟨c0, c1, c2, f0, f1, f2⟩ := cell3 h.blk
  go_wp2_with fail
  go_ret
  exact ⟨rfl, ⟨set3_1 h.blk _, fun j hj => ((Keeps.refl [r] _).setCell _ _ (by simp)).cell (h.src j hj) (by simpa using h.ne), h.le, h.cap, h.ne⟩, hk.setCell _ _ (by simp)⟩
set_option maxHeartbeats 400000 in
theorem take_ok (w : World) (r g cap p : Nat) (xs : List Int) (h : RAt w r g cap xs 0 p) (hl : xs.length ≤ 1000000) (n : Nat) (hn : p + n ≤ xs.length) :
    Calls Tryz.prog 207 #[.pointer (some ⟨r, 0, none⟩), .int .i64 n] w fun x w' => (∃ o c, x = .returned (.slice (some ⟨g, o, none⟩) n c) ∧ n ≤ c ∧ ∀ j, j < n → w.cell? ⟨g, o + j, none⟩ = some (.int .u8 (xs.getD (p + j) 0))) ∧ RAt w' r g cap xs 0 (p + n) ∧ Keeps [r] w w' := by
  obtain ⟨c0, c1, c2, f0, f1, f2⟩ := cell3 h.blk
  have hp := h.le
  have h0 := h
  have hcap := h.cap
  have hn1 : ¬ (xs.length : Int) - p < n := by omega
  go_enter Tryz.func207, Tryz.ntmps207
  go_wp2_with fail
  refine (Err_any _ r g cap p xs 0 h).mono ?_
  rintro x w1 ⟨rfl, rfl⟩
  go_wp2_with fail
  refine (Left_any _ r g cap p xs 0 h hl).mono ?_
  rintro x w1 ⟨rfl, m, rfl⟩
  replace h := h.drewN m
  have hk : Keeps [r] w (w.drewN m) := (Keeps.refl _ _).drewN _
  clear c0 c1 c2 f0 f1 f2
  generalize w.drewN m = w1 at *
  obtain ⟨c0, c1, c2, f0, f1, f2⟩ := cell3 h.blk
  go_wp2_with fail
  go_quiet (fail)
  obtain ⟨o, ho, ho2⟩ : ∃ o, (if cap = p then some (⟨g, 0, none⟩ : Addr) else some ⟨g, p, none⟩) = some ⟨g, o, none⟩ ∧ (n = 0 ∨ o = p) := by
    by_cases hc : cap = p
    · exact ⟨0, by rw [if_pos hc], .inl (by omega)⟩
    · exact ⟨p, by rw [if_neg hc], .inr rfl⟩
  rw [ho]
  have HO := Lib.hid ho2; clear ho ho2
  replace h := h.drewN nq
  replace hk : Keeps [r] w (w1.drewN nq) := hk.drewN nq
  clear c0 c1 c2 f0 f1 f2
  generalize w1.drewN nq = w2 at *
  obtain ⟨c0, c1, c2, f0, f1, f2⟩ := cell3 h.blk
  go_wp2_with fail
  go_ret
  have hsrc := h0.src
  refine ⟨⟨o, cap - p, rfl, by omega, fun j hj => ?_⟩, ⟨?_, fun j hj => ((Keeps.refl [r] _).setCell _ _ (by simp)).cell (h.src j hj) (by simpa using h.ne), by omega, h.cap, h.ne⟩, hk.setCell _ _ (by simp)⟩
  · rcases HO.out with h1 | rfl
    · omega
    · exact hsrc (o + j) (by omega)
  · have := set3_2 h.blk (.int .i64 ((p : Int) + n))
    simpa using this
end Go.Proofs.YtbnhcggjcdipeaaGreatDoor
/-
  Bytes as numbers.
-/
namespace Go.Proofs.YtbnhcggjcdipeaaGreatDoor
open Go.RowKit
theorem u32_wraps (n : Int) (h0 : 0 ≤ n) (h1 : n < 2 ^ 32) : IntKind.u32.wrap n = n := by
  simp [IntKind.wrap, IntKind.signed, IntKind.bits]; omega
theorem or_zero (c : Int) (h2 : 0 ≤ c) (h3 : c < 256) : bits .or .u32 0 c = c := by
  have := bits_join .u32 32 (by decide) u32_wraps 8 0 c (by omega) (by omega) (by omega) h2 (by omega) (by omega)
  simpa using this
theorem or_join (x c : Int) (h0 : 0 ≤ x) (h1 : x < 16777216) (h2 : 0 ≤ c) (h3 : c < 256) : bits .or .u32 (x * 256) c = x * 256 + c :=
  bits_join .u32 32 (by decide) u32_wraps 8 (x * 256) c (by omega) (by omega) (by omega) h2 (by omega) (by omega)
set_option maxHeartbeats 400000 in
theorem join16_two (w : World) (g o c : Nat) (x0 x1 : Int) (a0 : 0 ≤ x0) (a1 : x0 < 256) (b0 : 0 ≤ x1) (b1 : x1 < 256) (c0 : w.cell? ⟨g, o, none⟩ = some (.int .u8 x0)) (c1 : w.cell? ⟨g, o + 1, none⟩ = some (.int .u8 x1)) :
    Calls Tryz.prog 208 #[.slice (some ⟨g, o, none⟩) 2 c] w fun x w' => x = .returned (.int .u16 (x0 * 256 + x1)) ∧ w = w' := by
  have o1 := or_join x0 x1 a0 (by omega) b0 b1
  have o0 := or_zero x0 a0 a1
  have z1 : 0 ≤ x0 * 256 := by omega
  have z2 : x0 * 256 < 65536 := by omega
  have z3 : 0 ≤ x0 * 256 + x1 := by omega
  have z4 : x0 * 256 + x1 < 65536 := by omega
  go_enter Tryz.func208, Tryz.ntmps208
  go_wp2_with fail
  refine wp_loop_rounds 3 ?_
  rw [rounds_succ]
  go_wp2_with fail
  rw [rounds_succ]
  go_wp2_with fail
  rw [rounds_succ]
  go_wp2_with fail
  go_ret
  exact ⟨rfl, rfl⟩
set_option maxHeartbeats 400000 in
theorem join8_one (w : World) (g o c : Nat) (x0 : Int) (a0 : 0 ≤ x0) (a1 : x0 < 256) (c0 : w.cell? ⟨g, o, none⟩ = some (.int .u8 x0)) :
    Calls Tryz.prog 206 #[.slice (some ⟨g, o, none⟩) 1 c] w fun x w' => x = .returned (.int .u8 x0) ∧ w = w' := by
  have o0 := or_zero x0 a0 a1
  go_enter Tryz.func206, Tryz.ntmps206
  go_wp2_with fail
  refine wp_loop_rounds 2 ?_
  rw [rounds_succ]
  go_wp2_with fail
  rw [rounds_succ]
  go_wp2_with fail
  go_ret
  exact ⟨rfl, rfl⟩
set_option maxHeartbeats 400000 in
theorem join8_nil (w : World) : Calls Tryz.prog 206 #[.slice none 0 0] w fun x w' => x = .returned (.int .u8 0) ∧ w = w' := by
  go_enter Tryz.func206, Tryz.ntmps206
  go_wp2_with fail
  refine wp_loop_rounds 1 ?_
  rw [rounds_succ]
  go_wp2_with fail
  go_ret
  exact ⟨rfl, rfl⟩
set_option maxHeartbeats 400000 in
theorem join16_nil (w : World) : Calls Tryz.prog 208 #[.slice none 0 0] w fun x w' => x = .returned (.int .u16 0) ∧ w = w' := by
  go_enter Tryz.func208, Tryz.ntmps208
  go_wp2_with fail
  refine wp_loop_rounds 1 ?_
  rw [rounds_succ]
  go_wp2_with fail
  go_ret
  exact ⟨rfl, rfl⟩
end Go.Proofs.YtbnhcggjcdipeaaGreatDoor
/-
  The Reader's numbers and texts.
-/
namespace Go.Proofs.YtbnhcggjcdipeaaGreatDoor
open Go.RowKit
def numOf (l : List Int) : Int := l.foldl (fun a c => a * 256 + c) 0
def InU8 (xs : List Int) : Prop := ∀ j, 0 ≤ xs.getD j 0 ∧ xs.getD j 0 < 256
def rdVal (W : Nat) (xs : List Int) (e : Int) (p : Nat) : Int := if e = 0 ∧ p + W ≤ xs.length then numOf ((xs.drop p).take W) else 0
def rdErr (W : Nat) (xs : List Int) (e : Int) (p : Nat) : Int := if e ≠ 0 then e else if p + W ≤ xs.length then 0 else 5
def rdPos (W : Nat) (xs : List Int) (e : Int) (p : Nat) : Nat := if e = 0 ∧ p + W ≤ xs.length then p + W else p
theorem drop_cons (xs : List Int) (p : Nat) (h : p < xs.length) : xs.drop p = xs.getD p 0 :: xs.drop (p + 1) := by
  rw [List.drop_eq_getElem_cons h]; simp [List.getD, h]
theorem numOf_1 (xs : List Int) (p : Nat) (h : p + 1 ≤ xs.length) : numOf ((xs.drop p).take 1) = xs.getD (p + 0) 0 := by
  rw [drop_cons xs p (by omega)]
  simp [numOf]
set_option maxHeartbeats 400000 in
theorem next8_any (w : World) (r g cap p : Nat) (xs : List Int) (e : Int) (h : RAt w r g cap xs e p) (hx : InU8 xs) (hl : xs.length ≤ 1000000) :
    Calls Tryz.prog 187 #[.pointer (some ⟨r, 0, none⟩)] w fun x w' => x = .returned (.int .u8 (rdVal 1 xs e p)) ∧ RAt w' r g cap xs (rdErr 1 xs e p) (rdPos 1 xs e p) ∧ Keeps [r] w w' := by
  by_cases he : e = 0
  · subst he
    by_cases hp : p + 1 ≤ xs.length
    · have e1 : rdVal 1 xs 0 p = xs.getD (p + 0) 0 := by rw [rdVal, if_pos ⟨rfl, hp⟩, numOf_1 xs p hp]
      have e2 : rdErr 1 xs 0 p = 0 := by simp [rdErr, hp]
      have e3 : rdPos 1 xs 0 p = p + 1 := by simp [rdPos, hp]
      rw [e1, e2, e3]
      clear e1 e2 e3
      go_enter Tryz.func187, Tryz.ntmps187
      go_wp2_with fail
      refine (wid8_any _).mono ?_
      rintro x w1 ⟨rfl, rfl⟩
      go_wp2_with fail
      refine (take_ok _ r g cap p xs h hl 1 hp).mono ?_
      rintro x w1 ⟨⟨o, c, rfl, _, hc⟩, hr, hk⟩
      have hc2 : ∀ j, j < 1 → w1.cell? ⟨g, o + j, none⟩ = some (.int .u8 (xs.getD (p + j) 0)) := fun j hj => hk.cell (hc j hj) (by simpa using h.ne)
      have Hc := Lib.hid hc2; clear hc hc2
      go_wp2_with fail
      refine (join8_one _ g o c (xs.getD (p + 0) 0) (hx (p + 0)).1 (hx (p + 0)).2 (Hc.out 0 (by omega))).mono ?_
      rintro x w2 ⟨rfl, rfl⟩
      go_wp2_with fail
      go_ret
      exact ⟨rfl, hr, hk⟩
    · have e1 : rdVal 1 xs 0 p = 0 := by simp [rdVal, hp]
      have e2 : rdErr 1 xs 0 p = 5 := by simp [rdErr, hp]
      have e3 : rdPos 1 xs 0 p = p := by simp [rdPos, hp]
      rw [e1, e2, e3]
      clear e1 e2 e3
      go_enter Tryz.func187, Tryz.ntmps187
      go_wp2_with fail
      refine (wid8_any _).mono ?_
      rintro x w1 ⟨rfl, rfl⟩
      go_wp2_with fail
      refine (take_long _ r g cap p xs h hl 1 (by omega)).mono ?_
      rintro x w1 ⟨rfl, hr, hk⟩
      go_wp2_with fail
      refine (join8_nil _).mono ?_
      rintro x w2 ⟨rfl, rfl⟩
      go_wp2_with fail
      go_ret
      exact ⟨rfl, hr, hk⟩
  · have e1 : rdVal 1 xs e p = 0 := by simp [rdVal, he]
    have e2 : rdErr 1 xs e p = e := by simp [rdErr, he]
    have e3 : rdPos 1 xs e p = p := by simp [rdPos, he]
    rw [e1, e2, e3]
    clear e1 e2 e3
    go_enter Tryz.func187, Tryz.ntmps187
    go_wp2_with fail
    refine (wid8_any _).mono ?_
    rintro x w1 ⟨rfl, rfl⟩
    go_wp2_with fail
    refine (take_err _ r g cap p xs e h he 1).mono ?_
    rintro x w1 ⟨rfl, rfl⟩
    go_wp2_with fail
    refine (join8_nil _).mono ?_
    rintro x w2 ⟨rfl, rfl⟩
    go_wp2_with fail
    go_ret
    exact ⟨rfl, h, Keeps.refl _ _⟩
set_option maxHeartbeats 400000 in
theorem RU8_any (w : World) (r g cap p : Nat) (xs : List Int) (e : Int) (h : RAt w r g cap xs e p) (hx : InU8 xs) (hl : xs.length ≤ 1000000) :
    Calls Tryz.prog 163 #[.pointer (some ⟨r, 0, none⟩)] w fun x w' => x = .returned (.int .u8 (rdVal 1 xs e p)) ∧ RAt w' r g cap xs (rdErr 1 xs e p) (rdPos 1 xs e p) ∧ Keeps [r] w w' := by
  go_enter Tryz.func163, Tryz.ntmps163
  go_wp2_with fail
  refine (next8_any _ r g cap p xs e h hx hl).mono ?_
  rintro x w1 ⟨rfl, hr, hk⟩
  go_wp2_with fail
  go_ret
  exact ⟨rfl, hr, hk⟩
theorem numOf_2 (xs : List Int) (p : Nat) (h : p + 2 ≤ xs.length) : numOf ((xs.drop p).take 2) = xs.getD (p + 0) 0 * 256 + xs.getD (p + 1) 0 := by
  rw [drop_cons xs p (by omega), drop_cons xs (p + 1) (by omega)]
  simp [numOf]
set_option maxHeartbeats 400000 in
theorem next16_any (w : World) (r g cap p : Nat) (xs : List Int) (e : Int) (h : RAt w r g cap xs e p) (hx : InU8 xs) (hl : xs.length ≤ 1000000) :
    Calls Tryz.prog 188 #[.pointer (some ⟨r, 0, none⟩)] w fun x w' => x = .returned (.int .u16 (rdVal 2 xs e p)) ∧ RAt w' r g cap xs (rdErr 2 xs e p) (rdPos 2 xs e p) ∧ Keeps [r] w w' := by
  by_cases he : e = 0
  · subst he
    by_cases hp : p + 2 ≤ xs.length
    · have e1 : rdVal 2 xs 0 p = xs.getD (p + 0) 0 * 256 + xs.getD (p + 1) 0 := by rw [rdVal, if_pos ⟨rfl, hp⟩, numOf_2 xs p hp]
      have e2 : rdErr 2 xs 0 p = 0 := by simp [rdErr, hp]
      have e3 : rdPos 2 xs 0 p = p + 2 := by simp [rdPos, hp]
      rw [e1, e2, e3]
      clear e1 e2 e3
      go_enter Tryz.func188, Tryz.ntmps188
      go_wp2_with fail
      refine (wid16_any _).mono ?_
      rintro x w1 ⟨rfl, rfl⟩
      go_wp2_with fail
      refine (take_ok _ r g cap p xs h hl 2 hp).mono ?_
      rintro x w1 ⟨⟨o, c, rfl, _, hc⟩, hr, hk⟩
      have hc2 : ∀ j, j < 2 → w1.cell? ⟨g, o + j, none⟩ = some (.int .u8 (xs.getD (p + j) 0)) := fun j hj => hk.cell (hc j hj) (by simpa using h.ne)
      have Hc := Lib.hid hc2; clear hc hc2
      go_wp2_with fail
      refine (join16_two _ g o c (xs.getD (p + 0) 0) (xs.getD (p + 1) 0) (hx (p + 0)).1 (hx (p + 0)).2 (hx (p + 1)).1 (hx (p + 1)).2 (Hc.out 0 (by omega)) (Hc.out 1 (by omega))).mono ?_
      rintro x w2 ⟨rfl, rfl⟩
      go_wp2_with fail
      go_ret
      exact ⟨rfl, hr, hk⟩
    · have e1 : rdVal 2 xs 0 p = 0 := by simp [rdVal, hp]
      have e2 : rdErr 2 xs 0 p = 5 := by simp [rdErr, hp]
      have e3 : rdPos 2 xs 0 p = p := by simp [rdPos, hp]
      rw [e1, e2, e3]
      clear e1 e2 e3
      go_enter Tryz.func188, Tryz.ntmps188
      go_wp2_with fail
      refine (wid16_any _).mono ?_
      rintro x w1 ⟨rfl, rfl⟩
      go_wp2_with fail
      refine (take_long _ r g cap p xs h hl 2 (by omega)).mono ?_
      rintro x w1 ⟨rfl, hr, hk⟩
      go_wp2_with fail
      refine (join16_nil _).mono ?_
      rintro x w2 ⟨rfl, rfl⟩
      go_wp2_with fail
      go_ret
      exact ⟨rfl, hr, hk⟩
  · have e1 : rdVal 2 xs e p = 0 := by simp [rdVal, he]
    have e2 : rdErr 2 xs e p = e := by simp [rdErr, he]
    have e3 : rdPos 2 xs e p = p := by simp [rdPos, he]
    rw [e1, e2, e3]
    clear e1 e2 e3
    go_enter Tryz.func188, Tryz.ntmps188
    go_wp2_with fail
    refine (wid16_any _).mono ?_
    rintro x w1 ⟨rfl, rfl⟩
    go_wp2_with fail
    refine (take_err _ r g cap p xs e h he 2).mono ?_
    rintro x w1 ⟨rfl, rfl⟩
    go_wp2_with fail
    refine (join16_nil _).mono ?_
    rintro x w2 ⟨rfl, rfl⟩
    go_wp2_with fail
    go_ret
    exact ⟨rfl, h, Keeps.refl _ _⟩
set_option maxHeartbeats 400000 in
theorem RU16_any (w : World) (r g cap p : Nat) (xs : List Int) (e : Int) (h : RAt w r g cap xs e p) (hx : InU8 xs) (hl : xs.length ≤ 1000000) :
    Calls Tryz.prog 164 #[.pointer (some ⟨r, 0, none⟩)] w fun x w' => x = .returned (.int .u16 (rdVal 2 xs e p)) ∧ RAt w' r g cap xs (rdErr 2 xs e p) (rdPos 2 xs e p) ∧ Keeps [r] w w' := by
  go_enter Tryz.func164, Tryz.ntmps164
  go_wp2_with fail
  refine (next16_any _ r g cap p xs e h hx hl).mono ?_
  rintro x w1 ⟨rfl, hr, hk⟩
  go_wp2_with fail
  go_ret
  exact ⟨rfl, hr, hk⟩
end Go.Proofs.YtbnhcggjcdipeaaGreatDoor
