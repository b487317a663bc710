/-
  Numbers as bytes: what is appended.
-/
import Derived.Test.YtiljdehhjiahdaaGreatDoorG07
import Derived.Test.YtiljdehhjiahdaaGreatDoorG01
set_option linter.unusedSimpArgs false
set_option linter.unusedVariables false
namespace Go.Proofs.YtiljdehhjiahdaaGreatDoor
open Go.RowKit
/-- A number's bytes, the highest first. -/
def be1 (m : Int) : List Int := [m]
def be2 (m : Int) : List Int := [m / 256, m % 256]
def be4 (m : Int) : List Int := [m / 16777216, m / 65536 % 256, m / 256 % 256, m % 256]
set_option maxHeartbeats 1000000 in
theorem app8_any (w : World) (v : Value) (n : Nat) (xs : List Int) (m : Int) (h0 : 0 ≤ m) (h1 : m < 256)
    (hown : w.ownsRow 0 5 1 v n (xs.map (.int .u8))) (hn : n ≤ 1000000) :
    Calls Tryz.prog 140 #[v, .int .u8 m] w fun e w' => ∃ v', e = .returned v' ∧ w'.ownsRow 0 5 1 v' (n + 1) ((xs ++ be1 m).map (.int .u8)) ∧ Keeps (own v) w w' ∧ FSub (own v') (own v) w.heap.size ∧ v' ≠ .slice none 0 0 := by
  obtain ⟨i0, hi, hz0, hz1, hz2⟩ := info_parts Tryz.info8
  go_enter Tryz.func140, Tryz.ntmps140
  go_wp2_with fail
  refine (wid8_any _).mono ?_; rintro e w' ⟨rfl, rfl⟩
  go_wp2_with fail
  refine wp_loop_rounds 2 ?_
  rw [rounds_succ]
  go_wp2_with (at_builtin; refine wpList_append_sharp _ rfl _ _ 84 rfl 5 i0 (.int .u8 0) 1 Tryz.underlying84 hi hz0 hz1 hz2 rfl _ _ _ rfl (hown.alloc _) ⟨w.heap.size, 0, none⟩ 1 1 [.int .u8 (m)] rfl rfl ?c11 ?c21 ?c31 ?c41 ?_)
  case c11 => exact one_new _ _ _
  case c21 => intro u hu; simp at hu; subst hu; rfl
  case c31 => unfold maxLen; omega
  case c41 => omega
  intro v1 w1 hown1 hk1 hs1 hn1
  replace hk1 := ((Keeps.alloc (Keeps.refl [] _) _).more (G := own v) (by simp)).step hk1 (fun _ h => h)
  replace hs1 : FSub (own v1) (own v) w.heap.size := hs1.mono (by simp)
  go_wp2_with fail
  rw [rounds_succ]
  go_wp2
  go_ret
  refine ⟨v1, rfl, ?_, ?_, ?_, ?_⟩
  · have e : (xs ++ be1 m).map (Value.int .u8) = xs.map (.int .u8) ++ [.int .u8 (m)] := by simp [be1]
    rw [e]; exact hown1
  · exact hk1
  · exact hs1
  · intro h; simpa using hn1 h
set_option maxHeartbeats 1000000 in
theorem app16_any (w : World) (v : Value) (n : Nat) (xs : List Int) (m : Int) (h0 : 0 ≤ m) (h1 : m < 65536)
    (hown : w.ownsRow 0 5 1 v n (xs.map (.int .u8))) (hn : n ≤ 1000000) :
    Calls Tryz.prog 141 #[v, .int .u16 m] w fun e w' => ∃ v', e = .returned v' ∧ w'.ownsRow 0 5 1 v' (n + 2) ((xs ++ be2 m).map (.int .u8)) ∧ Keeps (own v) w w' ∧ FSub (own v') (own v) w.heap.size ∧ v' ≠ .slice none 0 0 := by
  obtain ⟨i0, hi, hz0, hz1, hz2⟩ := info_parts Tryz.info8
  go_enter Tryz.func141, Tryz.ntmps141
  go_wp2_with fail
  refine (wid16_any _).mono ?_; rintro e w' ⟨rfl, rfl⟩
  go_wp2_with fail
  refine wp_loop_rounds 3 ?_
  rw [rounds_succ]
  go_wp2_with (at_builtin; refine wpList_append_sharp _ rfl _ _ 84 rfl 5 i0 (.int .u8 0) 1 Tryz.underlying84 hi hz0 hz1 hz2 rfl _ _ _ rfl (hown.alloc _) ⟨w.heap.size, 0, none⟩ 1 1 [.int .u8 (m / 256)] rfl rfl ?c11 ?c21 ?c31 ?c41 ?_)
  case c11 => exact one_new _ _ _
  case c21 => intro u hu; simp at hu; subst hu; rfl
  case c31 => unfold maxLen; omega
  case c41 => omega
  intro v1 w1 hown1 hk1 hs1 hn1
  replace hk1 := ((Keeps.alloc (Keeps.refl [] _) _).more (G := own v) (by simp)).step hk1 (fun _ h => h)
  replace hs1 : FSub (own v1) (own v) w.heap.size := hs1.mono (by simp)
  go_wp2_with fail
  rw [rounds_succ]
  go_wp2_with (at_builtin; refine wpList_append_sharp _ rfl _ _ 84 rfl 5 i0 (.int .u8 0) 1 Tryz.underlying84 hi hz0 hz1 hz2 rfl _ _ _ rfl (hown1.alloc _) ⟨w1.heap.size, 0, none⟩ 1 1 [.int .u8 (m % 256)] rfl rfl ?c12 ?c22 ?c32 ?c42 ?_)
  case c12 => exact one_new _ _ _
  case c22 => intro u hu; simp at hu; subst hu; rfl
  case c32 => unfold maxLen; omega
  case c42 => omega
  intro v2 w2 hown2 hk2 hs2 hn2
  replace hk2 := ((Keeps.alloc (Keeps.refl [] _) _).more (G := own v1) (by simp)).step hk2 (fun _ h => h)
  replace hs2 : FSub (own v2) (own v1) w1.heap.size := hs2.mono (by simp)
  go_wp2_with fail
  rw [rounds_succ]
  go_wp2
  go_ret
  have z1 := hk1.size
  refine ⟨v2, rfl, ?_, ?_, ?_, ?_⟩
  · have e : (xs ++ be2 m).map (Value.int .u8) = xs.map (.int .u8) ++ [.int .u8 (m / 256), .int .u8 (m % 256)] := by simp [be2]
    rw [e]; exact hown2
  · exact hk1.trans hk2 hs1
  · exact hs2.trans hs1 (by omega) (by omega)
  · intro h; simpa using hn2 h
set_option maxHeartbeats 1000000 in
theorem app32_any (w : World) (v : Value) (n : Nat) (xs : List Int) (m : Int) (h0 : 0 ≤ m) (h1 : m < 4294967296)
    (hown : w.ownsRow 0 5 1 v n (xs.map (.int .u8))) (hn : n ≤ 1000000) :
    Calls Tryz.prog 142 #[v, .int .u32 m] w fun e w' => ∃ v', e = .returned v' ∧ w'.ownsRow 0 5 1 v' (n + 4) ((xs ++ be4 m).map (.int .u8)) ∧ Keeps (own v) w w' ∧ FSub (own v') (own v) w.heap.size ∧ v' ≠ .slice none 0 0 := by
  obtain ⟨i0, hi, hz0, hz1, hz2⟩ := info_parts Tryz.info8
  go_enter Tryz.func142, Tryz.ntmps142
  go_wp2_with fail
  refine (wid32_any _).mono ?_; rintro e w' ⟨rfl, rfl⟩
  go_wp2_with fail
  refine wp_loop_rounds 5 ?_
  rw [rounds_succ]
  go_wp2_with (at_builtin; refine wpList_append_sharp _ rfl _ _ 84 rfl 5 i0 (.int .u8 0) 1 Tryz.underlying84 hi hz0 hz1 hz2 rfl _ _ _ rfl (hown.alloc _) ⟨w.heap.size, 0, none⟩ 1 1 [.int .u8 (m / 16777216)] rfl rfl ?c11 ?c21 ?c31 ?c41 ?_)
  case c11 => exact one_new _ _ _
  case c21 => intro u hu; simp at hu; subst hu; rfl
  case c31 => unfold maxLen; omega
  case c41 => omega
  intro v1 w1 hown1 hk1 hs1 hn1
  replace hk1 := ((Keeps.alloc (Keeps.refl [] _) _).more (G := own v) (by simp)).step hk1 (fun _ h => h)
  replace hs1 : FSub (own v1) (own v) w.heap.size := hs1.mono (by simp)
  go_wp2_with fail
  rw [rounds_succ]
  go_wp2_with (at_builtin; refine wpList_append_sharp _ rfl _ _ 84 rfl 5 i0 (.int .u8 0) 1 Tryz.underlying84 hi hz0 hz1 hz2 rfl _ _ _ rfl (hown1.alloc _) ⟨w1.heap.size, 0, none⟩ 1 1 [.int .u8 (m / 65536 % 256)] rfl rfl ?c12 ?c22 ?c32 ?c42 ?_)
  case c12 => exact one_new _ _ _
  case c22 => intro u hu; simp at hu; subst hu; rfl
  case c32 => unfold maxLen; omega
  case c42 => omega
  intro v2 w2 hown2 hk2 hs2 hn2
  replace hk2 := ((Keeps.alloc (Keeps.refl [] _) _).more (G := own v1) (by simp)).step hk2 (fun _ h => h)
  replace hs2 : FSub (own v2) (own v1) w1.heap.size := hs2.mono (by simp)
  go_wp2_with fail
  rw [rounds_succ]
  go_wp2_with (at_builtin; refine wpList_append_sharp _ rfl _ _ 84 rfl 5 i0 (.int .u8 0) 1 Tryz.underlying84 hi hz0 hz1 hz2 rfl _ _ _ rfl (hown2.alloc _) ⟨w2.heap.size, 0, none⟩ 1 1 [.int .u8 (m / 256 % 256)] rfl rfl ?c13 ?c23 ?c33 ?c43 ?_)
  case c13 => exact one_new _ _ _
  case c23 => intro u hu; simp at hu; subst hu; rfl
  case c33 => unfold maxLen; omega
  case c43 => omega
  intro v3 w3 hown3 hk3 hs3 hn3
  replace hk3 := ((Keeps.alloc (Keeps.refl [] _) _).more (G := own v2) (by simp)).step hk3 (fun _ h => h)
  replace hs3 : FSub (own v3) (own v2) w2.heap.size := hs3.mono (by simp)
  go_wp2_with fail
  rw [rounds_succ]
  go_wp2_with (at_builtin; refine wpList_append_sharp _ rfl _ _ 84 rfl 5 i0 (.int .u8 0) 1 Tryz.underlying84 hi hz0 hz1 hz2 rfl _ _ _ rfl (hown3.alloc _) ⟨w3.heap.size, 0, none⟩ 1 1 [.int .u8 (m % 256)] rfl rfl ?c14 ?c24 ?c34 ?c44 ?_)
  case c14 => exact one_new _ _ _
  case c24 => intro u hu; simp at hu; subst hu; rfl
  case c34 => unfold maxLen; omega
  case c44 => omega
  intro v4 w4 hown4 hk4 hs4 hn4
  replace hk4 := ((Keeps.alloc (Keeps.refl [] _) _).more (G := own v3) (by simp)).step hk4 (fun _ h => h)
  replace hs4 : FSub (own v4) (own v3) w3.heap.size := hs4.mono (by simp)
  go_wp2_with fail
  rw [rounds_succ]
  go_wp2
  go_ret
  have z1 := hk1.size
  have z2 := hk2.size
  have z3 := hk3.size
  have t2 : FSub (own v2) (own v) w.heap.size := hs2.trans hs1 (by omega) (Nat.le_refl _)
  have t3 : FSub (own v3) (own v) w.heap.size := hs3.trans t2 (by omega) (Nat.le_refl _)
  refine ⟨v4, rfl, ?_, ?_, ?_, ?_⟩
  · have e : (xs ++ be4 m).map (Value.int .u8) = xs.map (.int .u8) ++ [.int .u8 (m / 16777216), .int .u8 (m / 65536 % 256), .int .u8 (m / 256 % 256), .int .u8 (m % 256)] := by simp [be4]
    rw [e]; exact hown4
  · exact ((hk1.trans hk2 hs1).trans hk3 t2).trans hk4 t3
  · exact hs4.trans t3 (by omega) (Nat.le_refl _)
  · intro h; simpa using hn4 h
end Go.Proofs.YtiljdehhjiahdaaGreatDoor
/-
  The Writer: how its memory looks, and what write does to it.
-/
namespace Go.Proofs.YtiljdehhjiahdaaGreatDoor
open Go.RowKit
def WNew (w : World) (b : Nat) : Prop := w.heap[b]? = some (.cells #[.slice none 0 0, .int .i64 0, .pointer none] 180 (0, 0))
def WErr (w : World) (b : Nat) : Prop := w.heap[b]? = some (.cells #[.slice none 0 0, .int .i64 3, .pointer none] 180 (0, 0))
structure WHas (w : World) (b k : Nat) (v : Value) (xs : List Int) : Prop where
  blk : w.heap[b]? = some (.cells #[v, .int .i64 0, .pointer (some ⟨k, 0, none⟩)] 180 (0, 0))
  used : w.heap[k]? = some (.cells #[.int .i64 xs.length] 3 (0, 0))
  row : w.ownsRow 0 5 1 v xs.length (xs.map (.int .u8))

theorem cell3 {w : World} {b : Nat} {x y z : Value} {t : TypeId} (h : w.heap[b]? = some (.cells #[x, y, z] t (0, 0))) :
    w.cell? ⟨b, 0, none⟩ = some x ∧ w.cell? ⟨b, 1, none⟩ = some y ∧ w.cell? ⟨b, 2, none⟩ = some z ∧ w.frozen? ⟨b, 0, none⟩ = false ∧ w.frozen? ⟨b, 1, none⟩ = false ∧ w.frozen? ⟨b, 2, none⟩ = false := by
  refine ⟨?_, ?_, ?_, ?_, ?_, ?_⟩ <;> simp [World.cell?, World.frozen?, h]
theorem set3_0 {w : World} {b : Nat} {x y z : Value} {t : TypeId} (h : w.heap[b]? = some (.cells #[x, y, z] t (0, 0))) (v : Value) : (w.setCell ⟨b, 0, none⟩ v).heap[b]? = some (.cells #[v, y, z] t (0, 0)) := by
  rw [heap_setCell_same w b 0 _ t v h]; rfl
theorem set3_1 {w : World} {b : Nat} {x y z : Value} {t : TypeId} (h : w.heap[b]? = some (.cells #[x, y, z] t (0, 0))) (v : Value) : (w.setCell ⟨b, 1, none⟩ v).heap[b]? = some (.cells #[x, v, z] t (0, 0)) := by
  rw [heap_setCell_same w b 1 _ t v h]; rfl
theorem set3_2 {w : World} {b : Nat} {x y z : Value} {t : TypeId} (h : w.heap[b]? = some (.cells #[x, y, z] t (0, 0))) (v : Value) : (w.setCell ⟨b, 2, none⟩ v).heap[b]? = some (.cells #[x, y, v] t (0, 0)) := by
  rw [heap_setCell_same w b 2 _ t v h]; rfl
theorem add_block (a : Addr) (j : Nat) : (a.add j).block = a.block := by unfold Addr.add; split <;> rfl
theorem src_keeps {F : List Nat} {w w' : World} {ad : Addr} {vs : List Value} (h : ∀ (j : Nat) u, vs[j]? = some u → w.cell? (ad.add j) = some u) (hk : Keeps F w w') (hF : ad.block ∉ F) :
    ∀ (j : Nat) u, vs[j]? = some u → w'.cell? (ad.add j) = some u := fun j u hu => hk.cell (h j u hu) (by rw [add_block]; exact hF)

set_option maxHeartbeats 400000 in
set_option maxRecDepth 100000 in
theorem clone_nil (w : World) : Calls Tryz.prog 162 #[.slice none 0 0] w fun e w' => e = .returned (.slice none 0 0) ∧ w = w' := by
  have hq := fun (w : World) => run_eql_nil_slice (P := Tryz.prog) w 84 5 none 0 0 0 0 Tryz.underlying84
  go_enter Tryz.func162, Tryz.ntmps162
  go_wp2
  go_ret
  exact ⟨rfl, rfl⟩
set_option maxHeartbeats 400000 in
set_option maxRecDepth 100000 in
theorem write_err (w : World) (b : Nat) (v : Value) (h : WErr w b) : Calls Tryz.prog 139 #[.pointer (some ⟨b, 0, none⟩), v] w fun e w' => e = .returned (.tuple #[]) ∧ w = w' := by
  have c1 : w.cell? ⟨b, 1, none⟩ = some (.int .i64 3) := by have h2 := h; unfold WErr at h2; simp [World.cell?, h2]
  go_enter Tryz.func139, Tryz.ntmps139
  go_wp2
  exact bodyPost_ret (results_none rfl _ _ _) rfl ⟨rfl, rfl⟩

set_option maxHeartbeats 400000 in
set_option maxRecDepth 100000 in
theorem write_new (w : World) (b : Nat) (h : WNew w b) (ad : Addr) (c : Nat) (zs : List Int) (hsrc : ∀ j u, (zs.map (Value.int .u8))[j]? = some u → w.cell? (ad.add j) = some u)
    (hne : ad.block ≠ b) (hn : zs.length ≤ 1000000) :
    Calls Tryz.prog 139 #[.pointer (some ⟨b, 0, none⟩), .slice (some ad) zs.length c] w fun e w' => e = .returned (.tuple #[]) ∧ ∃ k v, WHas w' b k v zs ∧ Keeps [b] w w' ∧ w.heap.size ≤ k ∧ FSub (own v) [] w.heap.size := by
  have hb := h
  unfold WNew at hb
  have c0 : w.cell? ⟨b, 0, none⟩ = some (.slice none 0 0) := by simp [World.cell?, hb]
  have c1 : w.cell? ⟨b, 1, none⟩ = some (.int .i64 0) := by simp [World.cell?, hb]
  have c2 : w.cell? ⟨b, 2, none⟩ = some (.pointer none) := by simp [World.cell?, hb]
  have f0 : w.frozen? ⟨b, 0, none⟩ = false := by simp [World.frozen?, hb]
  have f2 : w.frozen? ⟨b, 2, none⟩ = false := by simp [World.frozen?, hb]
  have hlt := lt_of_block hb
  have HB := Lib.hid hb; clear hb
  go_enter Tryz.func139, Tryz.ntmps139
  go_wp2_with fail
  go_quiet (fail)
  have K1 : Keeps [] w (w.drewN nq) := (Keeps.refl _ _).drewN _
  have hsrc1 : ∀ j u, (zs.map (Value.int .u8))[j]? = some u → (w.drewN nq).cell? (ad.add j) = some u := hsrc
  have HB1 : (w.drewN nq).heap[b]? = some (.cells #[.slice none 0 0, .int .i64 0, .pointer none] 180 (0, 0)) := HB
  clear hsrc c0 c1 c2 f0 f2 HB hlt
  generalize w.drewN nq = w1 at *
  obtain ⟨i0, hi, hz0, hz1, hz2⟩ := info_parts Tryz.info8
  obtain ⟨W2, hW2⟩ : ∃ W2, W2 = ((w1.setCell ⟨b, 0, none⟩ (.slice none 0 0)).setCell ⟨b, 2, none⟩ (.pointer (some ⟨w1.heap.size, 0, none⟩))).alloc (.cells #[.int .i64 0] 3) := ⟨_, rfl⟩
  have HB2 : W2.heap[b]? = some (.cells #[.slice none 0 0, .int .i64 0, .pointer (some ⟨w1.heap.size, 0, none⟩)] 180 (0, 0)) := by
    rw [hW2]; exact heap_alloc_lt (set3_2 (set3_0 HB1 _) _)
  have HK2 : W2.heap[w1.heap.size]? = some (.cells #[.int .i64 0] 3 (0, 0)) := by
    rw [hW2]; have := heap_alloc_new ((w1.setCell ⟨b, 0, none⟩ (.slice none 0 0)).setCell ⟨b, 2, none⟩ (.pointer (some ⟨w1.heap.size, 0, none⟩))) (.cells #[.int .i64 0] 3); simpa using this
  have K2 : Keeps [b] w1 W2 := by
    rw [hW2]; exact (((Keeps.refl _ _).setCell _ _ (by simp)).setCell _ _ (by simp)).alloc _
  have hsrc2 := src_keeps hsrc1 K2 (by simpa using hne)
  obtain ⟨c01, c11, c21, f01, f11, f21⟩ := cell3 HB1
  have hlt1 := lt_of_block HB1
  have HW2 := Lib.hid hW2; clear hW2
  have Hsrc2 := Lib.hid hsrc2; clear hsrc2 hsrc1
  have HHB2 := Lib.hid HB2; have HHK2 := Lib.hid HK2; clear HB2 HK2 HB1
  go_wp2_with fail
  refine (clone_nil _).mono ?_; rintro e w' ⟨rfl, rfl⟩
  go_wp2_with (at_builtin; rw [← HW2.out]; refine wpList_append_sharp _ rfl _ _ 84 rfl 5 i0 (.int .u8 0) 1 Tryz.underlying84 hi hz0 hz1 hz2 rfl (.slice none 0 0) 0 [] rfl (World.ownsRow_nil _ _ _ _) ad zs.length c (zs.map (.int .u8)) rfl (by simp) Hsrc2.out (ints_one _ _) ?c3 ?c4 ?_)
  case c3 => unfold maxLen; omega
  case c4 => omega
  intro v2 w2 hown2 hk2 hs2 _
  obtain ⟨a2, cap2, rfl⟩ := row_form hown2
  have HB2 := hk2.heap HHB2.out (by simp [own_nil])
  have HK2 := hk2.heap HHK2.out (by simp [own_nil])
  obtain ⟨W3, hW3⟩ : ∃ W3, W3 = w2.setCell ⟨b, 0, none⟩ (.slice a2 zs.length cap2) := ⟨_, rfl⟩
  have HB3 : W3.heap[b]? = some (.cells #[.slice a2 zs.length cap2, .int .i64 0, .pointer (some ⟨w1.heap.size, 0, none⟩)] 180 (0, 0)) := by
    rw [hW3]; exact set3_0 HB2 _
  have hne3 : w1.heap.size ≠ b := by omega
  have HK3 : W3.heap[w1.heap.size]? = some (.cells #[.int .i64 0] 3 (0, 0)) := by
    rw [hW3, heap_setCell_other _ _ _ _ (by simpa using hne3)]; exact HK2
  obtain ⟨d0, d1, d2, g0, g1, g2⟩ := cell3 HB2
  have hneb := row_ne hown2 HB2 (by decide)
  have hnek := row_ne hown2 HK2 (by decide)
  have KK : Keeps [b] w W3 := by
    rw [hW3]
    exact ((((K1.more (by simp)).step K2 (fun _ h => h)).step hk2 (by simp [own_nil])).setCell _ _ (by simp))
  have hsz : w.heap.size ≤ w1.heap.size := K1.size
  have hsz2 : w1.heap.size ≤ W2.heap.size := K2.size
  have HW3 := Lib.hid hW3; clear hW3
  have HHB3 := Lib.hid HB3; have HHK3 := Lib.hid HK3; clear HB2 HK2 HB3 HK3
  go_wp2_with fail
  rw [← HW3.out]
  obtain ⟨x0, x1, x2, y0, y1, y2⟩ := cell3 HHB3.out
  have z0 := cell_of_one HHK3.out
  have z1 := free_of_one HHK3.out
  go_region
  go_end0
  refine ⟨rfl, w1.heap.size, .slice a2 zs.length cap2, ⟨?_, ?_, ?_⟩, ?_, hsz, fun g hg => (hs2 g hg).imp id fun h => by omega⟩
  · show (W3.setCell ⟨w1.heap.size, 0, none⟩ _).heap[b]? = _
    rw [heap_setCell_other _ _ _ _ (by simpa using hne3.symm)]
    exact HHB3.out
  · exact one_setCell HHK3.out
  · have r3 : W3.ownsRow 0 5 1 (.slice a2 zs.length cap2) zs.length (zs.map (.int .u8)) := by
      rw [HW3.out]; exact ((Keeps.refl [b] _).setCell _ _ (by simp)).row hown2 (fun g hg => by simpa using hneb g hg)
    exact (((Keeps.refl [w1.heap.size] W3).setCell ⟨w1.heap.size, 0, none⟩ (.int .i64 zs.length) (by simp)).drew).row r3 (fun g hg => by simpa using hnek g hg)
  · exact (KK.setCell _ _ (.inr hsz)).drew

set_option maxHeartbeats 400000 in
set_option maxRecDepth 100000 in
theorem write_has (w : World) (b k : Nat) (v : Value) (xs : List Int) (h : WHas w b k v xs) (ad : Addr) (c : Nat) (zs : List Int) (hsrc : ∀ j u, (zs.map (Value.int .u8))[j]? = some u → w.cell? (ad.add j) = some u)
    (hn : xs.length + zs.length ≤ 1000000) :
    Calls Tryz.prog 139 #[.pointer (some ⟨b, 0, none⟩), .slice (some ad) zs.length c] w fun e w' => e = .returned (.tuple #[]) ∧ ∃ v', WHas w' b k v' (xs ++ zs) ∧ Keeps (b :: k :: own v) w w' ∧ FSub (own v') (own v) w.heap.size := by
  obtain ⟨hb, hk, hown⟩ := h
  have hkb : k ≠ b := by intro e; subst e; rw [hb] at hk; simp at hk
  obtain ⟨a, cap, rfl⟩ := row_form hown
  obtain ⟨c0, c1, c2, f0, f1, f2⟩ := cell3 hb
  have e0 := cell_of_one hk
  have e1 := free_of_one hk
  have HB := Lib.hid hb; clear hb
  have HK := Lib.hid hk; clear hk
  have Hsrc := Lib.hid hsrc; clear hsrc
  obtain ⟨i0, hi, hz0, hz1, hz2⟩ := info_parts Tryz.info8
  go_enter Tryz.func139, Tryz.ntmps139
  go_wp2_with fail
  go_quiet (fail)
  have K1 : Keeps [] w (w.drewN nq) := (Keeps.refl _ _).drewN _
  replace Hsrc : Hid (∀ j u, (zs.map (Value.int .u8))[j]? = some u → (w.drewN nq).cell? (ad.add j) = some u) := Hsrc
  replace HB : Hid ((w.drewN nq).heap[b]? = some (.cells #[.slice a xs.length cap, .int .i64 0, .pointer (some ⟨k, 0, none⟩)] 180 (0, 0))) := HB
  replace HK : Hid ((w.drewN nq).heap[k]? = some (.cells #[.int .i64 xs.length] 3 (0, 0))) := HK
  replace hown : (w.drewN nq).ownsRow 0 5 1 (.slice a xs.length cap) xs.length (xs.map (.int .u8)) := hown
  clear c0 c1 c2 f0 f1 f2 e0 e1
  generalize w.drewN nq = w1 at *
  obtain ⟨c0, c1, c2, f0, f1, f2⟩ := cell3 HB.out
  go_wp2_with (at_builtin; refine wpList_append_sharp _ rfl _ _ 84 rfl 5 i0 (.int .u8 0) 1 Tryz.underlying84 hi hz0 hz1 hz2 rfl (.slice a xs.length cap) xs.length (xs.map (.int .u8)) rfl hown ad zs.length c (zs.map (.int .u8)) rfl (by simp) Hsrc.out (ints_one _ _) ?c3 ?c4 ?_)
  case c3 => unfold maxLen; omega
  case c4 => omega
  intro v2 w2 hown2 hk2 hs2 _
  obtain ⟨a2, cap2, rfl⟩ := row_form hown2
  rw [← List.map_append] at hown2
  have hneb0 := row_ne hown HB.out (by decide)
  have hnek0 := row_ne hown HK.out (by decide)
  have HB2 := hk2.heap HB.out (fun h => hneb0 b h rfl)
  have HK2 := hk2.heap HK.out (fun h => hnek0 k h rfl)
  have hneb := row_ne hown2 HB2 (by decide)
  have hnek := row_ne hown2 HK2 (by decide)
  obtain ⟨W3, hW3⟩ : ∃ W3, W3 = w2.setCell ⟨b, 0, none⟩ (.slice a2 (xs.length + zs.length) cap2) := ⟨_, rfl⟩
  have HB3 : W3.heap[b]? = some (.cells #[.slice a2 (xs.length + zs.length) cap2, .int .i64 0, .pointer (some ⟨k, 0, none⟩)] 180 (0, 0)) := by
    rw [hW3]; exact set3_0 HB2 _
  have HK3 : W3.heap[k]? = some (.cells #[.int .i64 xs.length] 3 (0, 0)) := by
    rw [hW3, heap_setCell_other _ _ _ _ (by simpa using hkb)]; exact HK2
  have KK : Keeps (b :: k :: own (.slice a xs.length cap)) w W3 := by
    rw [hW3]
    exact ((K1.more (by simp)).step hk2 (fun g hg => by simp [hg])).setCell _ _ (by simp)
  have hsz : w.heap.size ≤ w1.heap.size := K1.size
  have r3 : W3.ownsRow 0 5 1 (.slice a2 (xs.length + zs.length) cap2) (xs.length + zs.length) ((xs ++ zs).map (.int .u8)) := by
    rw [hW3]; exact ((Keeps.refl [b] _).setCell _ _ (by simp)).row hown2 (fun g hg => by simpa using hneb g hg)
  obtain ⟨d0, d1, d2, g0, g1, g2⟩ := cell3 HB2
  have HW3 := Lib.hid hW3; clear hW3
  have HHB3 := Lib.hid HB3; have HHK3 := Lib.hid HK3; clear HB2 HK2 HB3 HK3 hneb0 hnek0 hneb
  go_wp2_with fail
  rw [← HW3.out]
  obtain ⟨x0, x1, x2, y0, y1, y2⟩ := cell3 HHB3.out
  have z0 := cell_of_one HHK3.out
  have z1 := free_of_one HHK3.out
  go_region
  go_end0
  refine ⟨rfl, .slice a2 (xs.length + zs.length) cap2, ⟨?_, ?_, ?_⟩, ?_, fun g hg => (hs2 g hg).imp id fun h => by omega⟩
  · show (W3.setCell ⟨k, 0, none⟩ _).heap[b]? = _
    rw [heap_setCell_other _ _ _ _ (by simpa using hkb.symm)]
    exact HHB3.out
  · have e : ((xs ++ zs).length : Int) = (xs.length : Int) + zs.length := by simp
    rw [e]; exact one_setCell HHK3.out
  · have := (((Keeps.refl [k] W3).setCell ⟨k, 0, none⟩ (.int .i64 ((xs.length : Int) + zs.length)) (by simp)).drew).row r3 (fun g hg => by simpa using hnek g hg)
    simpa using this
  · exact (KK.setCell _ _ (.inl (by simp))).drew

/-- THE WRITER at block b, all of whose blocks are F: it has written these bytes, or failed. -/
def WAt (w : World) (b : Nat) (F : List Nat) : Option (List Int) → Prop
  | none => WErr w b ∧ F = [b]
  | some xs => (WNew w b ∧ xs = [] ∧ F = [b]) ∨ ∃ k v, WHas w b k v xs ∧ F = b :: k :: own v

theorem WAt.lt {w : World} {b : Nat} {F : List Nat} {st : Option (List Int)} (h : WAt w b F st) : ∀ g ∈ F, g < w.heap.size := by
  intro g hg
  cases st with
  | none => obtain ⟨h1, rfl⟩ := h; simp at hg; subst hg; exact lt_of_block h1
  | some xs =>
    rcases h with ⟨h1, _, rfl⟩ | ⟨k, v, h1, rfl⟩
    · simp at hg; subst hg; exact lt_of_block h1
    · simp at hg
      rcases hg with rfl | rfl | hg
      · exact lt_of_block h1.blk
      · exact lt_of_block h1.used
      · exact row_lt h1.row g hg
theorem WAt.mem {w : World} {b : Nat} {F : List Nat} {st : Option (List Int)} (h : WAt w b F st) : b ∈ F := by
  cases st with
  | none => obtain ⟨h1, rfl⟩ := h; simp
  | some xs => rcases h with ⟨h1, _, rfl⟩ | ⟨k, v, h1, rfl⟩ <;> simp
theorem WAt.keeps {w w' : World} {b : Nat} {F G : List Nat} {st : Option (List Int)} (h : WAt w b F st) (hk : Keeps G w w') (hG : ∀ g ∈ F, g ∉ G) : WAt w' b F st := by
  cases st with
  | none => obtain ⟨h1, rfl⟩ := h; exact ⟨hk.heap h1 (hG b (by simp)), rfl⟩
  | some xs =>
    rcases h with ⟨h1, h2, rfl⟩ | ⟨k, v, h1, rfl⟩
    · exact .inl ⟨hk.heap h1 (hG b (by simp)), h2, rfl⟩
    · exact .inr ⟨k, v, ⟨hk.heap h1.blk (hG b (by simp)), hk.heap h1.used (hG k (by simp)), hk.row h1.row fun g hg => hG g (by simp [hg])⟩, rfl⟩

theorem write_any (w : World) (b : Nat) (F : List Nat) (st : Option (List Int)) (h : WAt w b F st) (ad : Addr) (m c : Nat) (zs : List Int) (hm : m = zs.length) (hsrc : ∀ j u, (zs.map (Value.int .u8))[j]? = some u → w.cell? (ad.add j) = some u)
    (hne : ad.block ≠ b) (hn : ∀ xs, st = some xs → xs.length + zs.length ≤ 1000000) :
    Calls Tryz.prog 139 #[.pointer (some ⟨b, 0, none⟩), .slice (some ad) m c] w fun e w' => e = .returned (.tuple #[]) ∧ ∃ F', WAt w' b F' (st.map (· ++ zs)) ∧ Keeps F w w' ∧ FSub F' F w.heap.size := by
  subst hm
  cases st with
  | none =>
    refine (write_err w b _ h.1).mono fun e w' ⟨he, hw⟩ => ?_
    subst hw
    exact ⟨he, F, h, Keeps.refl _ _, FSub.refl _ _⟩
  | some xs =>
    rcases h with ⟨h1, rfl, rfl⟩ | ⟨k, v, h1, rfl⟩
    · refine (write_new w b h1 ad c zs hsrc hne (by have := hn [] rfl; simpa using this)).mono fun e w' ⟨he, k, v, hh, hk, hk2, hs⟩ => ?_
      refine ⟨he, b :: k :: own v, .inr ⟨k, v, by simpa using hh, rfl⟩, hk, ?_⟩
      intro g hg
      simp at hg
      rcases hg with rfl | rfl | hg
      · exact .inl (by simp)
      · exact .inr hk2
      · exact (hs g hg).elim (fun h => by simp at h) .inr
    · refine (write_has w b k v xs h1 ad c zs hsrc (hn xs rfl)).mono fun e w' ⟨he, v', hh, hk, hs⟩ => ?_
      refine ⟨he, b :: k :: own v', .inr ⟨k, v', hh, rfl⟩, hk, ?_⟩
      intro g hg
      simp at hg
      rcases hg with rfl | rfl | hg
      · exact .inl (by simp)
      · exact .inl (by simp)
      · exact (hs g hg).imp (fun h => by simp [h]) id
end Go.Proofs.YtiljdehhjiahdaaGreatDoor
/-
  The Writer's calls, by what they do to what was written.
-/
namespace Go.Proofs.YtiljdehhjiahdaaGreatDoor
open Go.RowKit

theorem row_src {w : World} {e : TypeId} {v : Value} {n : Nat} {xs : List Value} (hr : w.ownsRow 0 e 1 v n xs) (hv : v ≠ .slice none 0 0) :
    ∃ g cap, v = .slice (some ⟨g, 0, none⟩) n cap ∧ (∀ (j : Nat) u, xs[j]? = some u → w.cell? ((⟨g, 0, none⟩ : Addr).add j) = some u) ∧ g ∈ own v := by
  have hr' := hr
  rcases hr.2 with ⟨rfl, rfl⟩ | ⟨g, cap, cur, rfl, _⟩
  · exact absurd rfl hv
  · exact ⟨g, cap, rfl, hr'.cells (g := g) rfl, by simp [own, Value.ownBlock]⟩

set_option maxHeartbeats 400000 in
theorem U8_any (w : World) (b : Nat) (F : List Nat) (st : Option (List Int)) (h : WAt w b F st) (m : Int) (h0 : 0 ≤ m) (h1 : m < 256) (hn : ∀ xs, st = some xs → xs.length + 1 ≤ 1000000) :
    Calls Tryz.prog 112 #[.pointer (some ⟨b, 0, none⟩), .int .u8 m] w fun e w' => e = .returned (.tuple #[]) ∧ ∃ F', WAt w' b F' (st.map (· ++ be1 m)) ∧ Keeps F w w' ∧ FSub F' F w.heap.size := by
  have hb := h.lt b h.mem
  go_enter Tryz.func112, Tryz.ntmps112
  go_wp2_with fail
  refine (app8_any _ _ 0 [] m h0 h1 (World.ownsRow_nil _ _ _ _) (by omega)).mono ?_
  rintro e w1 ⟨v', rfl, hown, hk, hs, hnn⟩
  obtain ⟨g, cap, rfl, hsrc, hg⟩ := row_src hown hnn
  have hgb : g ≠ b := by have := hs g hg; simp [own_nil] at this; omega
  have h2 := h.keeps hk (by simp [own_nil])
  have hk' := hk.more (G := F) (by simp [own_nil])
  have hz := hk.size
  clear hown hk hs hnn
  have Hsrc := Lib.hid hsrc; clear hsrc
  go_wp2_with fail
  refine (write_any _ b F st h2 _ _ _ (be1 m) rfl (by simpa using Hsrc.out) hgb hn).mono ?_
  rintro e w2 ⟨rfl, F', h3, hk3, hs3⟩
  go_wp2
  go_end0
  exact ⟨rfl, F', h3, hk'.step hk3 (fun _ h => h), hs3.mono hz⟩
set_option maxHeartbeats 400000 in
theorem U16_any (w : World) (b : Nat) (F : List Nat) (st : Option (List Int)) (h : WAt w b F st) (m : Int) (h0 : 0 ≤ m) (h1 : m < 65536) (hn : ∀ xs, st = some xs → xs.length + 2 ≤ 1000000) :
    Calls Tryz.prog 114 #[.pointer (some ⟨b, 0, none⟩), .int .u16 m] w fun e w' => e = .returned (.tuple #[]) ∧ ∃ F', WAt w' b F' (st.map (· ++ be2 m)) ∧ Keeps F w w' ∧ FSub F' F w.heap.size := by
  have hb := h.lt b h.mem
  go_enter Tryz.func114, Tryz.ntmps114
  go_wp2_with fail
  refine (app16_any _ _ 0 [] m h0 h1 (World.ownsRow_nil _ _ _ _) (by omega)).mono ?_
  rintro e w1 ⟨v', rfl, hown, hk, hs, hnn⟩
  obtain ⟨g, cap, rfl, hsrc, hg⟩ := row_src hown hnn
  have hgb : g ≠ b := by have := hs g hg; simp [own_nil] at this; omega
  have h2 := h.keeps hk (by simp [own_nil])
  have hk' := hk.more (G := F) (by simp [own_nil])
  have hz := hk.size
  clear hown hk hs hnn
  have Hsrc := Lib.hid hsrc; clear hsrc
  go_wp2_with fail
  refine (write_any _ b F st h2 _ _ _ (be2 m) rfl (by simpa using Hsrc.out) hgb hn).mono ?_
  rintro e w2 ⟨rfl, F', h3, hk3, hs3⟩
  go_wp2
  go_end0
  exact ⟨rfl, F', h3, hk'.step hk3 (fun _ h => h), hs3.mono hz⟩
set_option maxHeartbeats 400000 in
theorem U32_any (w : World) (b : Nat) (F : List Nat) (st : Option (List Int)) (h : WAt w b F st) (m : Int) (h0 : 0 ≤ m) (h1 : m < 4294967296) (hn : ∀ xs, st = some xs → xs.length + 4 ≤ 1000000) :
    Calls Tryz.prog 115 #[.pointer (some ⟨b, 0, none⟩), .int .u32 m] w fun e w' => e = .returned (.tuple #[]) ∧ ∃ F', WAt w' b F' (st.map (· ++ be4 m)) ∧ Keeps F w w' ∧ FSub F' F w.heap.size := by
  have hb := h.lt b h.mem
  go_enter Tryz.func115, Tryz.ntmps115
  go_wp2_with fail
  refine (app32_any _ _ 0 [] m h0 h1 (World.ownsRow_nil _ _ _ _) (by omega)).mono ?_
  rintro e w1 ⟨v', rfl, hown, hk, hs, hnn⟩
  obtain ⟨g, cap, rfl, hsrc, hg⟩ := row_src hown hnn
  have hgb : g ≠ b := by have := hs g hg; simp [own_nil] at this; omega
  have h2 := h.keeps hk (by simp [own_nil])
  have hk' := hk.more (G := F) (by simp [own_nil])
  have hz := hk.size
  clear hown hk hs hnn
  have Hsrc := Lib.hid hsrc; clear hsrc
  go_wp2_with fail
  refine (write_any _ b F st h2 _ _ _ (be4 m) rfl (by simpa using Hsrc.out) hgb hn).mono ?_
  rintro e w2 ⟨rfl, F', h3, hk3, hs3⟩
  go_wp2
  go_end0
  exact ⟨rfl, F', h3, hk'.step hk3 (fun _ h => h), hs3.mono hz⟩

/-- What stands in the cells of a text that was made bytes. -/
theorem bytes_src (w : World) (s : ByteArray) (cap : Nat) (t : TypeId) (fr : Nat × Nat) : ∀ (j : Nat) u, ((nums s).map (Value.int .u8))[j]? = some u → (w.alloc (.cells (bytesRow s cap) t fr)).cell? ((⟨w.heap.size, 0, none⟩ : Addr).add j) = some u := by
  intro j u hj
  have hj' : j < s.size := by
    have := (List.getElem?_eq_some_iff.1 hj).1
    simpa [nums_length] using this
  have ha : ((⟨w.heap.size, 0, none⟩ : Addr).add j) = ⟨w.heap.size, j, none⟩ := by unfold Addr.add; split <;> simp_all
  rw [ha, World.cell?_alloc_mark, ← hj]
  have hd : j < s.data.size := hj'
  simp [bytesRow, nums, Array.getElem?_append, hd, hj', Function.comp_def]
set_option maxHeartbeats 400000 in
theorem WRaw_any (w : World) (b : Nat) (F : List Nat) (st : Option (List Int)) (h : WAt w b F st) (s : ByteArray) (hn : ∀ xs, st = some xs → xs.length + s.size ≤ 1000000) :
    Calls Tryz.prog 121 #[.pointer (some ⟨b, 0, none⟩), .string s] w fun e w' => e = .returned (.tuple #[]) ∧ ∃ F', WAt w' b F' (st.map (· ++ nums s)) ∧ Keeps F w w' ∧ FSub F' F w.heap.size := by
  have hb := h.lt b h.mem
  have hcv := fun w => run_bytes_of_string (P := Tryz.prog) w 9 84 5 s Tryz.underlying9 Tryz.underlying84 Tryz.underlying5
  go_enter Tryz.func121, Tryz.ntmps121
  go_wp2_with fail
  have hk : Keeps [] w (w.alloc (.cells (bytesRow s (grownCap w s.size 0 5)) 5 ((bytesRow s (grownCap w s.size 0 5)).size, (bytesRow s (grownCap w s.size 0 5)).size + 1))).drew := ((Keeps.refl _ _).alloc _).drew
  refine (write_any _ b F st (h.keeps hk (by simp)) _ _ _ (nums s) (nums_length s).symm (bytes_src _ _ _ _ _) (by show w.heap.size ≠ b; omega) (by rw [nums_length]; exact hn)).mono ?_
  rintro e w2 ⟨rfl, F', h3, hk3, hs3⟩
  go_wp2
  go_end0
  exact ⟨rfl, F', h3, (hk.more (by simp)).step hk3 (fun _ h => h), hs3.mono hk.size⟩
set_option maxHeartbeats 400000 in
theorem fail_any (w : World) (b : Nat) (F : List Nat) (st : Option (List Int)) (h : WAt w b F st) :
    Calls Tryz.prog 150 #[.pointer (some ⟨b, 0, none⟩), .int .i64 3] w fun e w' => e = .returned (.tuple #[]) ∧ WAt w' b [b] none ∧ Keeps F w w' := by
  obtain ⟨x, y, z, hb⟩ : ∃ x y z, w.heap[b]? = some (.cells #[x, y, z] 180 (0, 0)) := by
    cases st with
    | none => exact ⟨_, _, _, h.1⟩
    | some xs =>
      rcases h with ⟨h1, _⟩ | ⟨k, v, h1, _⟩
      · exact ⟨_, _, _, h1⟩
      · exact ⟨_, _, _, h1.blk⟩
  obtain ⟨c0, c1, c2, f0, f1, f2⟩ := cell3 hb
  have HB := Lib.hid hb; clear hb
  go_enter Tryz.func150, Tryz.ntmps150
  go_wp2
  go_end0
  exact ⟨rfl, ⟨set3_2 (set3_1 (set3_0 HB.out _) _) _, rfl⟩, (((Keeps.refl _ _).setCell _ _ (.inl h.mem)).setCell _ _ (.inl h.mem)).setCell _ _ (.inl h.mem)⟩

/-- 'string(v)' of an owned row of bytes. -/
theorem row_string {w : World} {v : Value} {n : Nat} {xs : List Int} (hr : w.ownsRow 0 5 1 v n (xs.map (.int .u8))) :
    (convert 84 9 v).run Tryz.prog w = .ok (.string (strOfNums xs)) w := by
  have hr' := hr
  have hl : xs.length = n := by simpa using hr.1
  rcases hr.2 with ⟨rfl, rfl⟩ | ⟨g, cap, cur, rfl, _⟩
  · have : xs = [] := List.eq_nil_of_length_eq_zero hl
    subst this
    exact run_convert_bytes_nil w _ _ Tryz.underlying84 Tryz.underlying5 0 0 _ Tryz.underlying9
  · refine run_convert_bytes_arg w _ _ Tryz.underlying84 Tryz.underlying5 g 0 n cap xs hl (fun i hi => ?_) _ Tryz.underlying9
    have := hr'.cells (g := g) rfl i (.int .u8 (xs.getD i 0)) (by simp [hl, hi, List.getD])
    have ha : ((⟨g, 0, none⟩ : Addr).add i) = ⟨g, 0 + i, none⟩ := by unfold Addr.add; split <;> simp_all
    rw [ha] at this
    exact this

set_option maxHeartbeats 400000 in
theorem Bytes_any (w : World) (b : Nat) (F : List Nat) (st : Option (List Int)) (h : WAt w b F st) :
    Calls Tryz.prog 149 #[.pointer (some ⟨b, 0, none⟩)] w fun e w' => e = .returned (.tuple #[.string (strOfNums (st.getD [])), .int .i64 (if st.isSome then 0 else 3)]) ∧ w.drew = w' := by
  obtain ⟨v, p, hb, hcv0, hcv2⟩ : ∃ v p, w.heap[b]? = some (.cells #[v, .int .i64 (if st.isSome then 0 else 3), .pointer p] 180 (0, 0)) ∧ (convert 84 9 v).run Tryz.prog w = .ok (.string (strOfNums (st.getD []))) w ∧ (convert 84 9 v).run Tryz.prog w.drew = .ok (.string (strOfNums (st.getD []))) w.drew := by
    cases st with
    | none => exact ⟨_, _, h.1, row_string (xs := []) (World.ownsRow_nil _ _ _ _), row_string (xs := []) (World.ownsRow_nil _ _ _ _)⟩
    | some xs =>
      rcases h with ⟨h1, rfl, _⟩ | ⟨k, v, h1, _⟩
      · exact ⟨_, _, h1, row_string (xs := []) (World.ownsRow_nil _ _ _ _), row_string (xs := []) (World.ownsRow_nil _ _ _ _)⟩
      · exact ⟨_, _, h1.blk, row_string h1.row, row_string (w := w.drew) h1.row.drew⟩
  obtain ⟨c0, c1, c2, f0, f1, f2⟩ := cell3 hb
  have HB := Lib.hid hb; clear hb
  generalize hs : strOfNums (st.getD []) = S at *
  generalize hr : (if st.isSome then (0 : Int) else 3) = R at *
  clear hs hr
  go_enter Tryz.func149, Tryz.ntmps149
  go_wp2
  go_region
  go_wp2
  go_ret2
  exact ⟨rfl, rfl⟩
theorem wat_new (w : World) : WAt (w.alloc (.cells #[.slice none 0 0, .int .i64 0, .pointer none] 180)) w.heap.size [w.heap.size] (some []) :=
  .inl ⟨heap_alloc_new w _, rfl, rfl⟩
end Go.Proofs.YtiljdehhjiahdaaGreatDoor
/-
  The Writer's List.
-/
namespace Go.Proofs.YtiljdehhjiahdaaGreatDoor
open Go.RowKit
/-- A list's numbers stand where the slice's address says. -/
def Src16 (w : World) (a : Option Addr) (ls : List Int) : Prop := ls = [] ∨ ∃ lb off, a = some ⟨lb, off, none⟩ ∧ ∀ j, j < ls.length → w.cell? ⟨lb, off + j, none⟩ = some (.int .u16 (ls.getD j 0))
def InU16 (ls : List Int) : Prop := ∀ j, 0 ≤ ls.getD j 0 ∧ ls.getD j 0 < 65536
/-- A list's bytes. -/
def beList (ls : List Int) : List Int := (ls.length : Int) :: ls.flatMap be2
theorem length_flat : ∀ ls : List Int, (ls.flatMap be2).length = 2 * ls.length
  | [] => rfl
  | x :: r => by simp [List.flatMap_cons, be2, length_flat r]; omega
theorem length_beList (ls : List Int) : (beList ls).length = 1 + 2 * ls.length := by
  simp only [beList, List.length_cons, length_flat]; omega
theorem flat_snoc (ls : List Int) (k : Nat) (h : k < ls.length) : (ls.take (k + 1)).flatMap be2 = (ls.take k).flatMap be2 ++ be2 (ls.getD k 0) := by
  rw [List.take_succ_eq_append_getElem h, List.flatMap_append]
  simp [List.getD, h]
/-- What the loop has gathered. -/
structure Gath (w wr : World) (v : Value) (ls : List Int) (k : Nat) : Prop where
  row : wr.ownsRow 0 5 1 v (1 + 2 * k) (((ls.length : Int) :: (ls.take k).flatMap be2).map (.int .u8))
  kept : Keeps [] w wr
  sub : FSub (own v) [] w.heap.size
  ne : v ≠ .slice none 0 0

theorem gath_step {w wr w' : World} {v v' : Value} {ls : List Int} {k : Nat} (h : Gath w wr v ls k) (hk : k < ls.length)
    (hown : w'.ownsRow 0 5 1 v' (1 + 2 * k + 2) ((((ls.length : Int) :: (ls.take k).flatMap be2) ++ be2 (ls.getD k 0)).map (.int .u8))) (hkp : Keeps (own v) wr w') (hs : FSub (own v') (own v) wr.heap.size) (hne : v' ≠ .slice none 0 0) : Gath w w' v' ls (k + 1) := by
  refine ⟨?_, h.kept.trans hkp h.sub, hs.trans h.sub h.kept.size (Nat.le_refl _), hne⟩
  have e1 : 1 + 2 * (k + 1) = 1 + 2 * k + 2 := by omega
  have e2 : (ls.length : Int) :: (ls.take (k + 1)).flatMap be2 = ((ls.length : Int) :: (ls.take k).flatMap be2) ++ be2 (ls.getD k 0) := by rw [flat_snoc ls k hk]; rfl
  rw [e1, e2]
  exact hown
theorem gath_end {w wr : World} {v : Value} {ls : List Int} {k : Nat} (h : Gath w wr v ls k) (hk : k = ls.length) :
    ∃ g cap, v = .slice (some ⟨g, 0, none⟩) (beList ls).length cap ∧ (∀ (j : Nat) u, ((beList ls).map (Value.int .u8))[j]? = some u → wr.cell? ((⟨g, 0, none⟩ : Addr).add j) = some u) ∧ w.heap.size ≤ g := by
  subst hk
  obtain ⟨g, cap, hv, hsrc, hg⟩ := row_src h.row h.ne
  have hl : (beList ls).length = 1 + 2 * ls.length := length_beList ls
  refine ⟨g, cap, by rw [hl]; exact hv, by simpa [beList] using hsrc, ?_⟩
  have := h.sub g hg
  simpa using this

set_option maxHeartbeats 1000000 in
set_option maxRecDepth 100000 in
theorem WList_some (w : World) (b : Nat) (F : List Nat) (st : Option (List Int)) (h : WAt w b F st) (lb off c : Nat) (ls : List Int) (hsrc : ∀ j, j < ls.length → w.cell? ⟨lb, off + j, none⟩ = some (.int .u16 (ls.getD j 0))) (hr : InU16 ls) (hl : ls.length ≤ 255)
    (hn : ∀ xs, st = some xs → xs.length + (1 + 2 * ls.length) ≤ 1000000) :
    Calls Tryz.prog 128 #[.pointer (some ⟨b, 0, none⟩), .slice (some ⟨lb, off, none⟩) ls.length c] w fun e w' => e = .returned (.tuple #[]) ∧ ∃ F', WAt w' b F' (st.map (· ++ beList ls)) ∧ Keeps F w w' ∧ FSub F' F w.heap.size := by
  have hb := h.lt b h.mem
  have hl1 : ¬ (255 : Int) < (ls.length : Int) := by omega
  have hl2 : (ls.length : Int) < 256 := by omega
  have hl3 : (0 : Int) ≤ (ls.length : Int) := by omega
  have Hr := Lib.hid hr; clear hr
  have Hsrc := Lib.hid hsrc; clear hsrc
  go_enter Tryz.func128, Tryz.ntmps128
  go_wp2_with fail
  refine (app8_any _ _ 0 [] (ls.length : Int) hl3 hl2 (World.ownsRow_nil _ _ _ _) (by omega)).mono ?_
  rintro e w1 ⟨v1, rfl, hown, hk, hs, hnn⟩
  have hg0 : Gath w w1 v1 ls 0 := ⟨by simpa [be1] using hown, by simpa [own_nil] using hk, by simpa [own_nil] using hs, hnn⟩
  clear hown hk hs hnn
  go_wp2_with fail
  go_loopw [4, 6, 18] (fun v n i wr => ∃ k : Nat, k ≤ ls.length ∧ i = .int .i64 k ∧ Gath w wr v ls k) (fun _ _ i _ => ls.length - (intOf i).toNat)
  case atStart => exact ⟨0, Nat.zero_le _, rfl, hg0⟩
  case round =>
    obtain ⟨k, hk, rfl, hg⟩ := hrel
    by_cases hlt : k < ls.length
    · have hcell : wr.cell? ⟨lb, off + k, none⟩ = some (.int .u16 (ls.getD k 0)) := hg.kept.cell (Hsrc.out k hlt) (by simp)
      have hrk := Hr.out k
      generalize hx : ls.getD k 0 = x at *
      have Hx := Lib.hid hx; clear hx
      go_wp2_with fail
      refine (app16_any _ _ _ _ x hrk.1 hrk.2 hg.row (by omega)).mono ?_
      rintro e w2 ⟨v2, rfl, hown, hk2, hs2, hnn⟩
      have hg2 : Gath w w2 v2 ls (k + 1) := gath_step hg hlt (by rw [Hx.out]; exact hown) hk2 hs2 hnn
      clear hown hk2 hs2 hnn hg hcell
      go_wp2
      go_roundw
      case rel => exact ⟨k + 1, by omega, by go_num, hg2⟩
      case measure => simp [intOf]; omega
    · obtain ⟨g, cap, rfl, hs, hge⟩ := gath_end hg (by omega)
      have hkp := hg.kept
      have Hs := Lib.hid hs; clear hs hg
      have hz := hkp.size
      go_wp2_with fail
      refine (write_any _ b F st (h.keeps hkp (by simp)) _ _ _ (beList ls) rfl Hs.out (by show g ≠ b; omega) (by rw [length_beList]; exact hn)).mono ?_
      rintro e w2 ⟨rfl, F', h3, hk3, hs3⟩
      go_wp2
      go_end0
      exact ⟨rfl, F', h3, (hkp.more (by simp)).step hk3 (fun _ h => h), hs3.mono hz⟩

set_option maxHeartbeats 1000000 in
set_option maxRecDepth 100000 in
theorem WList_empty (w : World) (b : Nat) (F : List Nat) (st : Option (List Int)) (h : WAt w b F st) (a : Option Addr) (c : Nat)
    (hn : ∀ xs, st = some xs → xs.length + 1 ≤ 1000000) :
    Calls Tryz.prog 128 #[.pointer (some ⟨b, 0, none⟩), .slice a 0 c] w fun e w' => e = .returned (.tuple #[]) ∧ ∃ F', WAt w' b F' (st.map (· ++ beList [])) ∧ Keeps F w w' ∧ FSub F' F w.heap.size := by
  have hb := h.lt b h.mem
  go_enter Tryz.func128, Tryz.ntmps128
  go_wp2_with fail
  refine (app8_any _ _ 0 [] 0 (by omega) (by omega) (World.ownsRow_nil _ _ _ _) (by omega)).mono ?_
  rintro e w1 ⟨v1, rfl, hown, hk, hs, hnn⟩
  have hg0 : Gath w w1 v1 [] 0 := ⟨by simpa [be1] using hown, by simpa [own_nil] using hk, by simpa [own_nil] using hs, hnn⟩
  clear hown hk hs hnn
  obtain ⟨g, cap, rfl, hs, hge⟩ := gath_end hg0 rfl
  have hkp := hg0.kept
  have Hs := Lib.hid hs; clear hs hg0
  have hz := hkp.size
  go_wp2_with fail
  refine wp_loop_rounds 1 ?_
  rw [rounds_succ]
  go_wp2_with fail
  refine (write_any _ b F st (h.keeps hkp (by simp)) _ _ _ (beList []) rfl Hs.out (by show g ≠ b; omega) (by rw [length_beList]; exact hn)).mono ?_
  rintro e w2 ⟨rfl, F', h3, hk3, hs3⟩
  go_wp2
  go_end0
  exact ⟨rfl, F', h3, (hkp.more (by simp)).step hk3 (fun _ h => h), hs3.mono hz⟩

set_option maxHeartbeats 1000000 in
set_option maxRecDepth 100000 in
theorem WList_long (w : World) (b : Nat) (F : List Nat) (st : Option (List Int)) (h : WAt w b F st) (a : Option Addr) (n c : Nat) (hl : 255 < n) :
    Calls Tryz.prog 128 #[.pointer (some ⟨b, 0, none⟩), .slice a n c] w fun e w' => e = .returned (.tuple #[]) ∧ WAt w' b [b] none ∧ Keeps F w w' := by
  have hl1 : (255 : Int) < (n : Int) := by omega
  go_enter Tryz.func128, Tryz.ntmps128
  go_wp2_with fail
  refine (fail_any _ b F st h).mono ?_
  rintro e w2 ⟨rfl, h3, hk3⟩
  go_wp2
  exact bodyPost_ret (results_none rfl _ _ _) rfl ⟨rfl, h3, hk3⟩

/-- List, whatever the list. -/
theorem WList_any (w : World) (b : Nat) (F : List Nat) (st : Option (List Int)) (h : WAt w b F st) (a : Option Addr) (n c : Nat) (ls : List Int) (hl : n = ls.length) (hsrc : Src16 w a ls) (hr : InU16 ls)
    (hn : ∀ xs, st = some xs → ls.length ≤ 255 → xs.length + (1 + 2 * ls.length) ≤ 1000000) :
    Calls Tryz.prog 128 #[.pointer (some ⟨b, 0, none⟩), .slice a n c] w fun e w' => e = .returned (.tuple #[]) ∧ ∃ F', WAt w' b F' (if ls.length ≤ 255 then st.map (· ++ beList ls) else none) ∧ Keeps F w w' ∧ FSub F' F w.heap.size := by
  subst hl
  by_cases hl : ls.length ≤ 255
  · rw [if_pos hl]
    rcases hsrc with rfl | ⟨lb, off, rfl, hc⟩
    · exact WList_empty w b F st h a c (fun xs e => by have := hn xs e (by simp); simpa using this)
    · exact WList_some w b F st h lb off c ls hc hr hl (fun xs e => hn xs e hl)
  · rw [if_neg hl]
    refine (WList_long w b F st h a _ c (by omega)).mono fun e w' ⟨he, h3, hk⟩ => ⟨he, [b], h3, hk, ?_⟩
    intro g hg
    simp at hg
    subst hg
    exact .inl h.mem
end Go.Proofs.YtiljdehhjiahdaaGreatDoor
/-
  The Reader: how its memory looks; take.
-/
namespace Go.Proofs.YtiljdehhjiahdaaGreatDoor
open Go.RowKit
/-- THE READER at block r over the bytes xs (block g): its error, and where it stands. -/
structure RAt (w : World) (r g cap : Nat) (xs : List Int) (e : Int) (p : Nat) : Prop where
  blk : w.heap[r]? = some (.cells #[.slice (some ⟨g, 0, none⟩) xs.length cap, .int .i64 e, .int .i64 p] 172 (0, 0))
  src : ∀ j, j < xs.length → w.cell? ⟨g, j, none⟩ = some (.int .u8 (xs.getD j 0))
  le : p ≤ xs.length
  cap : xs.length ≤ cap
  ne : g ≠ r
theorem RAt.drew {w : World} {r g cap p : Nat} {xs : List Int} {e : Int} (h : RAt w r g cap xs e p) : RAt w.drew r g cap xs e p := ⟨h.blk, h.src, h.le, h.cap, h.ne⟩
theorem RAt.drewN {w : World} {r g cap p : Nat} {xs : List Int} {e : Int} (h : RAt w r g cap xs e p) (n : Nat) : RAt (w.drewN n) r g cap xs e p := ⟨h.blk, h.src, h.le, h.cap, h.ne⟩

set_option maxHeartbeats 400000 in
theorem Err_any (w : World) (r g cap p : Nat) (xs : List Int) (e : Int) (h : RAt w r g cap xs e p) :
    Calls Tryz.prog 119 #[.pointer (some ⟨r, 0, none⟩)] w fun x w' => x = .returned (.int .i64 e) ∧ w = w' := by
  obtain ⟨c0, c1, c2, f0, f1, f2⟩ := cell3 h.blk
  go_enter Tryz.func119, Tryz.ntmps119
  go_wp2
  go_ret
  exact ⟨rfl, rfl⟩
set_option maxHeartbeats 400000 in
theorem Left_any (w : World) (r g cap p : Nat) (xs : List Int) (e : Int) (h : RAt w r g cap xs e p) (hl : xs.length ≤ 1000000) :
    Calls Tryz.prog 124 #[.pointer (some ⟨r, 0, none⟩)] w fun x w' => x = .returned (.int .i64 ((xs.length : Int) - p)) ∧ ∃ n, w' = w.drewN n := by
  obtain ⟨c0, c1, c2, f0, f1, f2⟩ := cell3 h.blk
  have hp := h.le
  go_enter Tryz.func124, Tryz.ntmps124
  go_wp2
  go_quiet (fail)
  go_wp2
  go_ret
  exact ⟨rfl, _, rfl⟩
/-- What Close tells. -/
def closeOf (e : Int) (p n : Nat) : Int := if e = 0 ∧ p < n then 4 else e
end Go.Proofs.YtiljdehhjiahdaaGreatDoor
/-
  The Reader's take.
-/
namespace Go.Proofs.YtiljdehhjiahdaaGreatDoor
open Go.RowKit
theorem RAt.keeps {w w' : World} {r g cap p : Nat} {xs : List Int} {e : Int} {F : List Nat} (h : RAt w r g cap xs e p) (hk : Keeps F w w') (hr : r ∉ F) (hg : g ∉ F) : RAt w' r g cap xs e p :=
  ⟨hk.heap h.blk hr, fun j hj => hk.cell (h.src j hj) hg, h.le, h.cap, h.ne⟩
set_option maxHeartbeats 400000 in
theorem take_err (w : World) (r g cap p : Nat) (xs : List Int) (e : Int) (h : RAt w r g cap xs e p) (he : e ≠ 0) (n : Int) :
    Calls Tryz.prog 148 #[.pointer (some ⟨r, 0, none⟩), .int .i64 n] w fun x w' => x = .returned (.slice none 0 0) ∧ w = w' := by
  have he2 : (e != 0) = true := by simpa using he
  go_enter Tryz.func148, Tryz.ntmps148
  go_wp2_with fail
  refine (Err_any _ r g cap p xs e h).mono ?_
  rintro x w1 ⟨rfl, rfl⟩
  go_wp2_with fail
  go_ret
  exact ⟨rfl, rfl⟩
set_option maxHeartbeats 400000 in
theorem take_long (w : World) (r g cap p : Nat) (xs : List Int) (h : RAt w r g cap xs 0 p) (hl : xs.length ≤ 1000000) (n : Int) (hn : (xs.length : Int) - p < n) :
    Calls Tryz.prog 148 #[.pointer (some ⟨r, 0, none⟩), .int .i64 n] w fun x w' => x = .returned (.slice none 0 0) ∧ RAt w' r g cap xs 5 p ∧ Keeps [r] w w' := by
  obtain ⟨c0, c1, c2, f0, f1, f2⟩ := cell3 h.blk
  have hp := h.le
  go_enter Tryz.func148, Tryz.ntmps148
  go_wp2_with fail
  refine (Err_any _ r g cap p xs 0 h).mono ?_
  rintro x w1 ⟨rfl, rfl⟩
  go_wp2_with fail
  refine (Left_any _ r g cap p xs 0 h hl).mono ?_
  rintro x w1 ⟨rfl, m, rfl⟩
  replace h := h.drewN m
  have hk : Keeps [r] w (w.drewN m) := (Keeps.refl _ _).drewN _
  clear c0 c1 c2 f0 f1 f2
  generalize w.drewN m = w1 at *
  obtain ⟨c0, c1, c2, f0, f1, f2⟩ := cell3 h.blk
  go_wp2_with fail
  go_ret
  exact ⟨rfl, ⟨set3_1 h.blk _, fun j hj => ((Keeps.refl [r] _).setCell _ _ (by simp)).cell (h.src j hj) (by simpa using h.ne), h.le, h.cap, h.ne⟩, hk.setCell _ _ (by simp)⟩
set_option maxHeartbeats 400000 in
theorem take_ok (w : World) (r g cap p : Nat) (xs : List Int) (h : RAt w r g cap xs 0 p) (hl : xs.length ≤ 1000000) (n : Nat) (hn : p + n ≤ xs.length) :
    Calls Tryz.prog 148 #[.pointer (some ⟨r, 0, none⟩), .int .i64 n] w fun x w' => (∃ o c, x = .returned (.slice (some ⟨g, o, none⟩) n c) ∧ n ≤ c ∧ ∀ j, j < n → w.cell? ⟨g, o + j, none⟩ = some (.int .u8 (xs.getD (p + j) 0))) ∧ RAt w' r g cap xs 0 (p + n) ∧ Keeps [r] w w' := by
  obtain ⟨c0, c1, c2, f0, f1, f2⟩ := cell3 h.blk
  have hp := h.le
  have h0 := h
  have hcap := h.cap
  have hn1 : ¬ (xs.length : Int) - p < n := by omega
  go_enter Tryz.func148, Tryz.ntmps148
  go_wp2_with fail
  refine (Err_any _ r g cap p xs 0 h).mono ?_
  rintro x w1 ⟨rfl, rfl⟩
  go_wp2_with fail
  refine (Left_any _ r g cap p xs 0 h hl).mono ?_
  rintro x w1 ⟨rfl, m, rfl⟩
  replace h := h.drewN m
  have hk : Keeps [r] w (w.drewN m) := (Keeps.refl _ _).drewN _
  clear c0 c1 c2 f0 f1 f2
  generalize w.drewN m = w1 at *
  obtain ⟨c0, c1, c2, f0, f1, f2⟩ := cell3 h.blk
  go_wp2_with fail
  go_quiet (fail)
  obtain ⟨o, ho, ho2⟩ : ∃ o, (if cap = p then some (⟨g, 0, none⟩ : Addr) else some ⟨g, p, none⟩) = some ⟨g, o, none⟩ ∧ (n = 0 ∨ o = p) := by
    by_cases hc : cap = p
    · exact ⟨0, by rw [if_pos hc], .inl (by omega)⟩
    · exact ⟨p, by rw [if_neg hc], .inr rfl⟩
  rw [ho]
  have HO := Lib.hid ho2; clear ho ho2
  replace h := h.drewN nq
  replace hk : Keeps [r] w (w1.drewN nq) := hk.drewN nq
  clear c0 c1 c2 f0 f1 f2
  generalize w1.drewN nq = w2 at *
  obtain ⟨c0, c1, c2, f0, f1, f2⟩ := cell3 h.blk
  go_wp2_with fail
  go_ret
  have hsrc := h0.src
  refine ⟨⟨o, cap - p, rfl, by omega, fun j hj => ?_⟩, ⟨?_, fun j hj => ((Keeps.refl [r] _).setCell _ _ (by simp)).cell (h.src j hj) (by simpa using h.ne), by omega, h.cap, h.ne⟩, hk.setCell _ _ (by simp)⟩
  · rcases HO.out with h1 | rfl
    · omega
    · exact hsrc (o + j) (by omega)
  · have := set3_2 h.blk (.int .i64 ((p : Int) + n))
    simpa using this
end Go.Proofs.YtiljdehhjiahdaaGreatDoor
/-
  Bytes as numbers.
-/
namespace Go.Proofs.YtiljdehhjiahdaaGreatDoor
open Go.RowKit
theorem u32_wraps (n : Int) (h0 : 0 ≤ n) (h1 : n < 2 ^ 32) : IntKind.u32.wrap n = n := by
  simp [IntKind.wrap, IntKind.signed, IntKind.bits]; omega
theorem or_zero (c : Int) (h2 : 0 ≤ c) (h3 : c < 256) : bits .or .u32 0 c = c := by
  have := bits_join .u32 32 (by decide) u32_wraps 8 0 c (by omega) (by omega) (by omega) h2 (by omega) (by omega)
  simpa using this
theorem or_join (x c : Int) (h0 : 0 ≤ x) (h1 : x < 16777216) (h2 : 0 ≤ c) (h3 : c < 256) : bits .or .u32 (x * 256) c = x * 256 + c :=
  bits_join .u32 32 (by decide) u32_wraps 8 (x * 256) c (by omega) (by omega) (by omega) h2 (by omega) (by omega)
set_option maxHeartbeats 400000 in
theorem join16_two (w : World) (g o c : Nat) (x0 x1 : Int) (a0 : 0 ≤ x0) (a1 : x0 < 256) (b0 : 0 ≤ x1) (b1 : x1 < 256) (c0 : w.cell? ⟨g, o, none⟩ = some (.int .u8 x0)) (c1 : w.cell? ⟨g, o + 1, none⟩ = some (.int .u8 x1)) :
    Calls Tryz.prog 153 #[.slice (some ⟨g, o, none⟩) 2 c] w fun x w' => x = .returned (.int .u16 (x0 * 256 + x1)) ∧ w = w' := by
  have o1 := or_join x0 x1 a0 (by omega) b0 b1
  have o0 := or_zero x0 a0 a1
  have z1 : 0 ≤ x0 * 256 := by omega
  have z2 : x0 * 256 < 65536 := by omega
  have z3 : 0 ≤ x0 * 256 + x1 := by omega
  have z4 : x0 * 256 + x1 < 65536 := by omega
  go_enter Tryz.func153, Tryz.ntmps153
  go_wp2_with fail
  refine wp_loop_rounds 3 ?_
  rw [rounds_succ]
  go_wp2_with fail
  rw [rounds_succ]
  go_wp2_with fail
  rw [rounds_succ]
  go_wp2_with fail
  go_ret
  exact ⟨rfl, rfl⟩
set_option maxHeartbeats 400000 in
theorem join8_one (w : World) (g o c : Nat) (x0 : Int) (a0 : 0 ≤ x0) (a1 : x0 < 256) (c0 : w.cell? ⟨g, o, none⟩ = some (.int .u8 x0)) :
    Calls Tryz.prog 165 #[.slice (some ⟨g, o, none⟩) 1 c] w fun x w' => x = .returned (.int .u8 x0) ∧ w = w' := by
  have o0 := or_zero x0 a0 a1
  go_enter Tryz.func165, Tryz.ntmps165
  go_wp2_with fail
  refine wp_loop_rounds 2 ?_
  rw [rounds_succ]
  go_wp2_with fail
  rw [rounds_succ]
  go_wp2_with fail
  go_ret
  exact ⟨rfl, rfl⟩
set_option maxHeartbeats 400000 in
theorem join32_four (w : World) (g o c : Nat) (x0 x1 x2 x3 : Int) (a0 : 0 ≤ x0) (a1 : x0 < 256) (b0 : 0 ≤ x1) (b1 : x1 < 256) (d0 : 0 ≤ x2) (d1 : x2 < 256) (e0 : 0 ≤ x3) (e1 : x3 < 256)
    (c0 : w.cell? ⟨g, o, none⟩ = some (.int .u8 x0)) (c1 : w.cell? ⟨g, o + 1, none⟩ = some (.int .u8 x1)) (c2 : w.cell? ⟨g, o + 2, none⟩ = some (.int .u8 x2)) (c3 : w.cell? ⟨g, o + 3, none⟩ = some (.int .u8 x3)) :
    Calls Tryz.prog 166 #[.slice (some ⟨g, o, none⟩) 4 c] w fun x w' => x = .returned (.int .u32 (((x0 * 256 + x1) * 256 + x2) * 256 + x3)) ∧ w = w' := by
  have o0 := or_zero x0 a0 a1
  have o1 := or_join x0 x1 a0 (by omega) b0 b1
  have o2 := or_join (x0 * 256 + x1) x2 (by omega) (by omega) d0 d1
  have o3 := or_join ((x0 * 256 + x1) * 256 + x2) x3 (by omega) (by omega) e0 e1
  have z1 : 0 ≤ x0 * 256 := by omega
  have z2 : x0 * 256 < 65536 := by omega
  have z3 : 0 ≤ x0 * 256 + x1 := by omega
  have z4 : x0 * 256 + x1 < 65536 := by omega
  have z5 : 0 ≤ (x0 * 256 + x1) * 256 := by omega
  have z6 : (x0 * 256 + x1) * 256 < 4294967296 := by omega
  have z7 : 0 ≤ ((x0 * 256 + x1) * 256 + x2) * 256 := by omega
  have z8 : ((x0 * 256 + x1) * 256 + x2) * 256 < 4294967296 := by omega
  go_enter Tryz.func166, Tryz.ntmps166
  go_wp2_with fail
  refine wp_loop_rounds 5 ?_
  rw [rounds_succ]
  go_wp2_with fail
  rw [rounds_succ]
  go_wp2_with fail
  rw [rounds_succ]
  go_wp2_with fail
  rw [rounds_succ]
  go_wp2_with fail
  rw [rounds_succ]
  go_wp2_with fail
  go_ret
  exact ⟨rfl, rfl⟩
set_option maxHeartbeats 400000 in
theorem join8_nil (w : World) : Calls Tryz.prog 165 #[.slice none 0 0] w fun x w' => x = .returned (.int .u8 0) ∧ w = w' := by
  go_enter Tryz.func165, Tryz.ntmps165
  go_wp2_with fail
  refine wp_loop_rounds 1 ?_
  rw [rounds_succ]
  go_wp2_with fail
  go_ret
  exact ⟨rfl, rfl⟩
set_option maxHeartbeats 400000 in
theorem join16_nil (w : World) : Calls Tryz.prog 153 #[.slice none 0 0] w fun x w' => x = .returned (.int .u16 0) ∧ w = w' := by
  go_enter Tryz.func153, Tryz.ntmps153
  go_wp2_with fail
  refine wp_loop_rounds 1 ?_
  rw [rounds_succ]
  go_wp2_with fail
  go_ret
  exact ⟨rfl, rfl⟩
set_option maxHeartbeats 400000 in
theorem join32_nil (w : World) : Calls Tryz.prog 166 #[.slice none 0 0] w fun x w' => x = .returned (.int .u32 0) ∧ w = w' := by
  go_enter Tryz.func166, Tryz.ntmps166
  go_wp2_with fail
  refine wp_loop_rounds 1 ?_
  rw [rounds_succ]
  go_wp2_with fail
  go_ret
  exact ⟨rfl, rfl⟩
end Go.Proofs.YtiljdehhjiahdaaGreatDoor
/-
  The Reader's numbers and texts.
-/
namespace Go.Proofs.YtiljdehhjiahdaaGreatDoor
open Go.RowKit
def numOf (l : List Int) : Int := l.foldl (fun a c => a * 256 + c) 0
def InU8 (xs : List Int) : Prop := ∀ j, 0 ≤ xs.getD j 0 ∧ xs.getD j 0 < 256
def rdVal (W : Nat) (xs : List Int) (e : Int) (p : Nat) : Int := if e = 0 ∧ p + W ≤ xs.length then numOf ((xs.drop p).take W) else 0
def rdErr (W : Nat) (xs : List Int) (e : Int) (p : Nat) : Int := if e ≠ 0 then e else if p + W ≤ xs.length then 0 else 5
def rdPos (W : Nat) (xs : List Int) (e : Int) (p : Nat) : Nat := if e = 0 ∧ p + W ≤ xs.length then p + W else p
theorem drop_cons (xs : List Int) (p : Nat) (h : p < xs.length) : xs.drop p = xs.getD p 0 :: xs.drop (p + 1) := by
  rw [List.drop_eq_getElem_cons h]; simp [List.getD, h]

theorem numOf_1 (xs : List Int) (p : Nat) (h : p + 1 ≤ xs.length) : numOf ((xs.drop p).take 1) = xs.getD (p + 0) 0 := by
  rw [drop_cons xs p (by omega)]
  simp [numOf]
set_option maxHeartbeats 400000 in
theorem next8_any (w : World) (r g cap p : Nat) (xs : List Int) (e : Int) (h : RAt w r g cap xs e p) (hx : InU8 xs) (hl : xs.length ≤ 1000000) :
    Calls Tryz.prog 143 #[.pointer (some ⟨r, 0, none⟩)] w fun x w' => x = .returned (.int .u8 (rdVal 1 xs e p)) ∧ RAt w' r g cap xs (rdErr 1 xs e p) (rdPos 1 xs e p) ∧ Keeps [r] w w' := by
  by_cases he : e = 0
  · subst he
    by_cases hp : p + 1 ≤ xs.length
    · have e1 : rdVal 1 xs 0 p = xs.getD (p + 0) 0 := by rw [rdVal, if_pos ⟨rfl, hp⟩, numOf_1 xs p hp]
      have e2 : rdErr 1 xs 0 p = 0 := by simp [rdErr, hp]
      have e3 : rdPos 1 xs 0 p = p + 1 := by simp [rdPos, hp]
      rw [e1, e2, e3]
      clear e1 e2 e3
      go_enter Tryz.func143, Tryz.ntmps143
      go_wp2_with fail
      refine (wid8_any _).mono ?_
      rintro x w1 ⟨rfl, rfl⟩
      go_wp2_with fail
      refine (take_ok _ r g cap p xs h hl 1 hp).mono ?_
      rintro x w1 ⟨⟨o, c, rfl, _, hc⟩, hr, hk⟩
      have hc2 : ∀ j, j < 1 → w1.cell? ⟨g, o + j, none⟩ = some (.int .u8 (xs.getD (p + j) 0)) := fun j hj => hk.cell (hc j hj) (by simpa using h.ne)
      have Hc := Lib.hid hc2; clear hc hc2
      go_wp2_with fail
      refine (join8_one _ g o c (xs.getD (p + 0) 0) (hx (p + 0)).1 (hx (p + 0)).2 (Hc.out 0 (by omega))).mono ?_
      rintro x w2 ⟨rfl, rfl⟩
      go_wp2_with fail
      go_ret
      exact ⟨rfl, hr, hk⟩
    · have e1 : rdVal 1 xs 0 p = 0 := by simp [rdVal, hp]
      have e2 : rdErr 1 xs 0 p = 5 := by simp [rdErr, hp]
      have e3 : rdPos 1 xs 0 p = p := by simp [rdPos, hp]
      rw [e1, e2, e3]
      clear e1 e2 e3
      go_enter Tryz.func143, Tryz.ntmps143
      go_wp2_with fail
      refine (wid8_any _).mono ?_
      rintro x w1 ⟨rfl, rfl⟩
      go_wp2_with fail
      refine (take_long _ r g cap p xs h hl 1 (by omega)).mono ?_
      rintro x w1 ⟨rfl, hr, hk⟩
      go_wp2_with fail
      refine (join8_nil _).mono ?_
      rintro x w2 ⟨rfl, rfl⟩
      go_wp2_with fail
      go_ret
      exact ⟨rfl, hr, hk⟩
  · have e1 : rdVal 1 xs e p = 0 := by simp [rdVal, he]
    have e2 : rdErr 1 xs e p = e := by simp [rdErr, he]
    have e3 : rdPos 1 xs e p = p := by simp [rdPos, he]
    rw [e1, e2, e3]
    clear e1 e2 e3
    go_enter Tryz.func143, Tryz.ntmps143
    go_wp2_with fail
    refine (wid8_any _).mono ?_
    rintro x w1 ⟨rfl, rfl⟩
    go_wp2_with fail
    refine (take_err _ r g cap p xs e h he 1).mono ?_
    rintro x w1 ⟨rfl, rfl⟩
    go_wp2_with fail
    refine (join8_nil _).mono ?_
    rintro x w2 ⟨rfl, rfl⟩
    go_wp2_with fail
    go_ret
    exact ⟨rfl, h, Keeps.refl _ _⟩
set_option maxHeartbeats 400000 in
theorem RU8_any (w : World) (r g cap p : Nat) (xs : List Int) (e : Int) (h : RAt w r g cap xs e p) (hx : InU8 xs) (hl : xs.length ≤ 1000000) :
    Calls Tryz.prog 116 #[.pointer (some ⟨r, 0, none⟩)] w fun x w' => x = .returned (.int .u8 (rdVal 1 xs e p)) ∧ RAt w' r g cap xs (rdErr 1 xs e p) (rdPos 1 xs e p) ∧ Keeps [r] w w' := by
  go_enter Tryz.func116, Tryz.ntmps116
  go_wp2_with fail
  refine (next8_any _ r g cap p xs e h hx hl).mono ?_
  rintro x w1 ⟨rfl, hr, hk⟩
  go_wp2_with fail
  go_ret
  exact ⟨rfl, hr, hk⟩

theorem numOf_2 (xs : List Int) (p : Nat) (h : p + 2 ≤ xs.length) : numOf ((xs.drop p).take 2) = xs.getD (p + 0) 0 * 256 + xs.getD (p + 1) 0 := by
  rw [drop_cons xs p (by omega), drop_cons xs (p + 1) (by omega)]
  simp [numOf]
set_option maxHeartbeats 400000 in
theorem next16_any (w : World) (r g cap p : Nat) (xs : List Int) (e : Int) (h : RAt w r g cap xs e p) (hx : InU8 xs) (hl : xs.length ≤ 1000000) :
    Calls Tryz.prog 144 #[.pointer (some ⟨r, 0, none⟩)] w fun x w' => x = .returned (.int .u16 (rdVal 2 xs e p)) ∧ RAt w' r g cap xs (rdErr 2 xs e p) (rdPos 2 xs e p) ∧ Keeps [r] w w' := by
  by_cases he : e = 0
  · subst he
    by_cases hp : p + 2 ≤ xs.length
    · have e1 : rdVal 2 xs 0 p = xs.getD (p + 0) 0 * 256 + xs.getD (p + 1) 0 := by rw [rdVal, if_pos ⟨rfl, hp⟩, numOf_2 xs p hp]
      have e2 : rdErr 2 xs 0 p = 0 := by simp [rdErr, hp]
      have e3 : rdPos 2 xs 0 p = p + 2 := by simp [rdPos, hp]
      rw [e1, e2, e3]
      clear e1 e2 e3
      go_enter Tryz.func144, Tryz.ntmps144
      go_wp2_with fail
      refine (wid16_any _).mono ?_
      rintro x w1 ⟨rfl, rfl⟩
      go_wp2_with fail
      refine (take_ok _ r g cap p xs h hl 2 hp).mono ?_
      rintro x w1 ⟨⟨o, c, rfl, _, hc⟩, hr, hk⟩
      have hc2 : ∀ j, j < 2 → w1.cell? ⟨g, o + j, none⟩ = some (.int .u8 (xs.getD (p + j) 0)) := fun j hj => hk.cell (hc j hj) (by simpa using h.ne)
      have Hc := Lib.hid hc2; clear hc hc2
      go_wp2_with fail
      refine (join16_two _ g o c (xs.getD (p + 0) 0) (xs.getD (p + 1) 0) (hx (p + 0)).1 (hx (p + 0)).2 (hx (p + 1)).1 (hx (p + 1)).2 (Hc.out 0 (by omega)) (Hc.out 1 (by omega))).mono ?_
      rintro x w2 ⟨rfl, rfl⟩
      go_wp2_with fail
      go_ret
      exact ⟨rfl, hr, hk⟩
    · have e1 : rdVal 2 xs 0 p = 0 := by simp [rdVal, hp]
      have e2 : rdErr 2 xs 0 p = 5 := by simp [rdErr, hp]
      have e3 : rdPos 2 xs 0 p = p := by simp [rdPos, hp]
      rw [e1, e2, e3]
      clear e1 e2 e3
      go_enter Tryz.func144, Tryz.ntmps144
      go_wp2_with fail
      refine (wid16_any _).mono ?_
      rintro x w1 ⟨rfl, rfl⟩
      go_wp2_with fail
      refine (take_long _ r g cap p xs h hl 2 (by omega)).mono ?_
      rintro x w1 ⟨rfl, hr, hk⟩
      go_wp2_with fail
      refine (join16_nil _).mono ?_
      rintro x w2 ⟨rfl, rfl⟩
      go_wp2_with fail
      go_ret
      exact ⟨rfl, hr, hk⟩
  · have e1 : rdVal 2 xs e p = 0 := by simp [rdVal, he]
    have e2 : rdErr 2 xs e p = e := by simp [rdErr, he]
    have e3 : rdPos 2 xs e p = p := by simp [rdPos, he]
    rw [e1, e2, e3]
    clear e1 e2 e3
    go_enter Tryz.func144, Tryz.ntmps144
    go_wp2_with fail
    refine (wid16_any _).mono ?_
    rintro x w1 ⟨rfl, rfl⟩
    go_wp2_with fail
    refine (take_err _ r g cap p xs e h he 2).mono ?_
    rintro x w1 ⟨rfl, rfl⟩
    go_wp2_with fail
    refine (join16_nil _).mono ?_
    rintro x w2 ⟨rfl, rfl⟩
    go_wp2_with fail
    go_ret
    exact ⟨rfl, h, Keeps.refl _ _⟩
set_option maxHeartbeats 400000 in
theorem RU16_any (w : World) (r g cap p : Nat) (xs : List Int) (e : Int) (h : RAt w r g cap xs e p) (hx : InU8 xs) (hl : xs.length ≤ 1000000) :
    Calls Tryz.prog 117 #[.pointer (some ⟨r, 0, none⟩)] w fun x w' => x = .returned (.int .u16 (rdVal 2 xs e p)) ∧ RAt w' r g cap xs (rdErr 2 xs e p) (rdPos 2 xs e p) ∧ Keeps [r] w w' := by
  go_enter Tryz.func117, Tryz.ntmps117
  go_wp2_with fail
  refine (next16_any _ r g cap p xs e h hx hl).mono ?_
  rintro x w1 ⟨rfl, hr, hk⟩
  go_wp2_with fail
  go_ret
  exact ⟨rfl, hr, hk⟩

theorem numOf_4 (xs : List Int) (p : Nat) (h : p + 4 ≤ xs.length) : numOf ((xs.drop p).take 4) = ((xs.getD (p + 0) 0 * 256 + xs.getD (p + 1) 0) * 256 + xs.getD (p + 2) 0) * 256 + xs.getD (p + 3) 0 := by
  rw [drop_cons xs p (by omega), drop_cons xs (p + 1) (by omega), drop_cons xs (p + 2) (by omega), drop_cons xs (p + 3) (by omega)]
  simp [numOf]
set_option maxHeartbeats 400000 in
theorem next32_any (w : World) (r g cap p : Nat) (xs : List Int) (e : Int) (h : RAt w r g cap xs e p) (hx : InU8 xs) (hl : xs.length ≤ 1000000) :
    Calls Tryz.prog 145 #[.pointer (some ⟨r, 0, none⟩)] w fun x w' => x = .returned (.int .u32 (rdVal 4 xs e p)) ∧ RAt w' r g cap xs (rdErr 4 xs e p) (rdPos 4 xs e p) ∧ Keeps [r] w w' := by
  by_cases he : e = 0
  · subst he
    by_cases hp : p + 4 ≤ xs.length
    · have e1 : rdVal 4 xs 0 p = ((xs.getD (p + 0) 0 * 256 + xs.getD (p + 1) 0) * 256 + xs.getD (p + 2) 0) * 256 + xs.getD (p + 3) 0 := by rw [rdVal, if_pos ⟨rfl, hp⟩, numOf_4 xs p hp]
      have e2 : rdErr 4 xs 0 p = 0 := by simp [rdErr, hp]
      have e3 : rdPos 4 xs 0 p = p + 4 := by simp [rdPos, hp]
      rw [e1, e2, e3]
      clear e1 e2 e3
      go_enter Tryz.func145, Tryz.ntmps145
      go_wp2_with fail
      refine (wid32_any _).mono ?_
      rintro x w1 ⟨rfl, rfl⟩
      go_wp2_with fail
      refine (take_ok _ r g cap p xs h hl 4 hp).mono ?_
      rintro x w1 ⟨⟨o, c, rfl, _, hc⟩, hr, hk⟩
      have hc2 : ∀ j, j < 4 → w1.cell? ⟨g, o + j, none⟩ = some (.int .u8 (xs.getD (p + j) 0)) := fun j hj => hk.cell (hc j hj) (by simpa using h.ne)
      have Hc := Lib.hid hc2; clear hc hc2
      go_wp2_with fail
      refine (join32_four _ g o c (xs.getD (p + 0) 0) (xs.getD (p + 1) 0) (xs.getD (p + 2) 0) (xs.getD (p + 3) 0) (hx (p + 0)).1 (hx (p + 0)).2 (hx (p + 1)).1 (hx (p + 1)).2 (hx (p + 2)).1 (hx (p + 2)).2 (hx (p + 3)).1 (hx (p + 3)).2 (Hc.out 0 (by omega)) (Hc.out 1 (by omega)) (Hc.out 2 (by omega)) (Hc.out 3 (by omega))).mono ?_
      rintro x w2 ⟨rfl, rfl⟩
      go_wp2_with fail
      go_ret
      exact ⟨rfl, hr, hk⟩
    · have e1 : rdVal 4 xs 0 p = 0 := by simp [rdVal, hp]
      have e2 : rdErr 4 xs 0 p = 5 := by simp [rdErr, hp]
      have e3 : rdPos 4 xs 0 p = p := by simp [rdPos, hp]
      rw [e1, e2, e3]
      clear e1 e2 e3
      go_enter Tryz.func145, Tryz.ntmps145
      go_wp2_with fail
      refine (wid32_any _).mono ?_
      rintro x w1 ⟨rfl, rfl⟩
      go_wp2_with fail
      refine (take_long _ r g cap p xs h hl 4 (by omega)).mono ?_
      rintro x w1 ⟨rfl, hr, hk⟩
      go_wp2_with fail
      refine (join32_nil _).mono ?_
      rintro x w2 ⟨rfl, rfl⟩
      go_wp2_with fail
      go_ret
      exact ⟨rfl, hr, hk⟩
  · have e1 : rdVal 4 xs e p = 0 := by simp [rdVal, he]
    have e2 : rdErr 4 xs e p = e := by simp [rdErr, he]
    have e3 : rdPos 4 xs e p = p := by simp [rdPos, he]
    rw [e1, e2, e3]
    clear e1 e2 e3
    go_enter Tryz.func145, Tryz.ntmps145
    go_wp2_with fail
    refine (wid32_any _).mono ?_
    rintro x w1 ⟨rfl, rfl⟩
    go_wp2_with fail
    refine (take_err _ r g cap p xs e h he 4).mono ?_
    rintro x w1 ⟨rfl, rfl⟩
    go_wp2_with fail
    refine (join32_nil _).mono ?_
    rintro x w2 ⟨rfl, rfl⟩
    go_wp2_with fail
    go_ret
    exact ⟨rfl, h, Keeps.refl _ _⟩
set_option maxHeartbeats 400000 in
theorem RU32_any (w : World) (r g cap p : Nat) (xs : List Int) (e : Int) (h : RAt w r g cap xs e p) (hx : InU8 xs) (hl : xs.length ≤ 1000000) :
    Calls Tryz.prog 118 #[.pointer (some ⟨r, 0, none⟩)] w fun x w' => x = .returned (.int .u32 (rdVal 4 xs e p)) ∧ RAt w' r g cap xs (rdErr 4 xs e p) (rdPos 4 xs e p) ∧ Keeps [r] w w' := by
  go_enter Tryz.func118, Tryz.ntmps118
  go_wp2_with fail
  refine (next32_any _ r g cap p xs e h hx hl).mono ?_
  rintro x w1 ⟨rfl, hr, hk⟩
  go_wp2_with fail
  go_ret
  exact ⟨rfl, hr, hk⟩
end Go.Proofs.YtiljdehhjiahdaaGreatDoor
/-
  The Reader's Raw.
-/
namespace Go.Proofs.YtiljdehhjiahdaaGreatDoor
open Go.RowKit
def rdRaw (W : Nat) (xs : List Int) (e : Int) (p : Nat) : List Int := if e = 0 ∧ p + W ≤ xs.length then (xs.drop p).take W else []
theorem cut_string (w : World) (g o c n p : Nat) (xs : List Int) (hn : p + n ≤ xs.length) (hc : ∀ j, j < n → w.cell? ⟨g, o + j, none⟩ = some (.int .u8 (xs.getD (p + j) 0))) :
    (convert 84 9 (.slice (some ⟨g, o, none⟩) n c)).run Tryz.prog w = .ok (.string (strOfNums ((xs.drop p).take n))) w := by
  refine run_convert_bytes_arg w _ _ Tryz.underlying84 Tryz.underlying5 g o n c ((xs.drop p).take n) (by simp; omega) (fun i hi => ?_) _ Tryz.underlying9
  rw [hc i hi]
  have : ((xs.drop p).take n).getD i 0 = xs.getD (p + i) 0 := by
    simp [List.getD, hi]
  rw [this]
theorem nil_string (w : World) : (convert 84 9 (.slice none 0 0)).run Tryz.prog w = .ok (.string (strOfNums [])) w :=
  run_convert_bytes_nil w _ _ Tryz.underlying84 Tryz.underlying5 0 0 _ Tryz.underlying9
set_option maxHeartbeats 400000 in
theorem RRaw_nat (w : World) (r g cap p : Nat) (xs : List Int) (e : Int) (h : RAt w r g cap xs e p) (hl : xs.length ≤ 1000000) (N : Nat) :
    Calls Tryz.prog 123 #[.pointer (some ⟨r, 0, none⟩), .int .i64 (N : Int)] w fun x w' => x = .returned (.string (strOfNums (rdRaw N xs e p))) ∧ RAt w' r g cap xs (rdErr N xs e p) (rdPos N xs e p) ∧ Keeps [r] w w' := by
  have hN0 : ¬ (N : Int) < 0 := by omega
  by_cases he : e = 0
  · subst he
    by_cases hp : p + N ≤ xs.length
    · have e1 : rdRaw N xs 0 p = (xs.drop p).take N := by rw [rdRaw, if_pos ⟨rfl, hp⟩]
      have e2 : rdErr N xs 0 p = 0 := by simp [rdErr]; omega
      have e3 : rdPos N xs 0 p = p + N := by rw [rdPos, if_pos ⟨rfl, hp⟩]
      rw [e1, e2, e3]
      clear e1 e2 e3
      go_enter Tryz.func123, Tryz.ntmps123
      go_wp2_with fail
      refine (take_ok _ r g cap p xs h hl N hp).mono ?_
      rintro x w1 ⟨⟨o, c, rfl, _, hc⟩, hr, hk⟩
      have hs := cut_string w1 g o c N p xs hp (fun j hj => hk.cell (hc j hj) (by simpa using h.ne))
      clear hc
      generalize hS : strOfNums ((xs.drop p).take N) = T at *
      have HS := Lib.hid hS; clear hS
      go_wp2_with fail
      go_ret
      exact ⟨by rw [HS.out]; rfl, hr, hk⟩
    · have e1 : rdRaw N xs 0 p = [] := by rw [rdRaw, if_neg (fun h => hp h.2)]
      have e2 : rdErr N xs 0 p = 5 := by simp [rdErr]; omega
      have e3 : rdPos N xs 0 p = p := by rw [rdPos, if_neg (fun h => hp h.2)]
      rw [e1, e2, e3]
      clear e1 e2 e3
      go_enter Tryz.func123, Tryz.ntmps123
      go_wp2_with fail
      refine (take_long _ r g cap p xs h hl N (by omega)).mono ?_
      rintro x w1 ⟨rfl, hr, hk⟩
      have hs := nil_string w1
      generalize hS : strOfNums [] = T at *
      have HS := Lib.hid hS; clear hS
      go_wp2_with fail
      go_ret
      exact ⟨by rw [HS.out]; rfl, hr, hk⟩
  · have e1 : rdRaw N xs e p = [] := by rw [rdRaw, if_neg (fun h => he h.1)]
    have e2 : rdErr N xs e p = e := by rw [rdErr, if_pos he]
    have e3 : rdPos N xs e p = p := by rw [rdPos, if_neg (fun h => he h.1)]
    rw [e1, e2, e3]
    clear e1 e2 e3
    go_enter Tryz.func123, Tryz.ntmps123
    go_wp2_with fail
    refine (take_err _ r g cap p xs e h he N).mono ?_
    rintro x w1 ⟨rfl, rfl⟩
    have hs := nil_string w
    generalize hS : strOfNums [] = T at *
    have HS := Lib.hid hS; clear hS
    go_wp2_with fail
    go_ret
    exact ⟨by rw [HS.out]; rfl, h, Keeps.refl _ _⟩
set_option maxHeartbeats 400000 in
theorem RRaw_neg (w : World) (r g cap p : Nat) (xs : List Int) (e : Int) (h : RAt w r g cap xs e p) (hl : xs.length ≤ 1000000) (n : Int) (hn : n < 0) :
    Calls Tryz.prog 123 #[.pointer (some ⟨r, 0, none⟩), .int .i64 n] w fun x w' => x = .returned (.string (strOfNums (rdRaw 0 xs e p))) ∧ RAt w' r g cap xs (rdErr 0 xs e p) (rdPos 0 xs e p) ∧ Keeps [r] w w' := by
  by_cases he : e = 0
  · subst he
    by_cases hp : p + 0 ≤ xs.length
    · have e1 : rdRaw 0 xs 0 p = (xs.drop p).take 0 := by rw [rdRaw, if_pos ⟨rfl, hp⟩]
      have e2 : rdErr 0 xs 0 p = 0 := by simp [rdErr]; omega
      have e3 : rdPos 0 xs 0 p = p + 0 := by rw [rdPos, if_pos ⟨rfl, hp⟩]
      rw [e1, e2, e3]
      clear e1 e2 e3
      go_enter Tryz.func123, Tryz.ntmps123
      go_wp2_with fail
      refine (take_ok _ r g cap p xs h hl 0 hp).mono ?_
      rintro x w1 ⟨⟨o, c, rfl, _, hc⟩, hr, hk⟩
      have hs := cut_string w1 g o c 0 p xs hp (fun j hj => hk.cell (hc j hj) (by simpa using h.ne))
      clear hc
      generalize hS : strOfNums ((xs.drop p).take 0) = T at *
      have HS := Lib.hid hS; clear hS
      go_wp2_with fail
      go_ret
      exact ⟨by rw [HS.out]; rfl, hr, hk⟩
    · have e1 : rdRaw 0 xs 0 p = [] := by rw [rdRaw, if_neg (fun h => hp h.2)]
      have e2 : rdErr 0 xs 0 p = 5 := by simp [rdErr]; omega
      have e3 : rdPos 0 xs 0 p = p := by rw [rdPos, if_neg (fun h => hp h.2)]
      rw [e1, e2, e3]
      clear e1 e2 e3
      go_enter Tryz.func123, Tryz.ntmps123
      go_wp2_with fail
      refine (take_long _ r g cap p xs h hl 0 (by omega)).mono ?_
      rintro x w1 ⟨rfl, hr, hk⟩
      have hs := nil_string w1
      generalize hS : strOfNums [] = T at *
      have HS := Lib.hid hS; clear hS
      go_wp2_with fail
      go_ret
      exact ⟨by rw [HS.out]; rfl, hr, hk⟩
  · have e1 : rdRaw 0 xs e p = [] := by rw [rdRaw, if_neg (fun h => he h.1)]
    have e2 : rdErr 0 xs e p = e := by rw [rdErr, if_pos he]
    have e3 : rdPos 0 xs e p = p := by rw [rdPos, if_neg (fun h => he h.1)]
    rw [e1, e2, e3]
    clear e1 e2 e3
    go_enter Tryz.func123, Tryz.ntmps123
    go_wp2_with fail
    refine (take_err _ r g cap p xs e h he 0).mono ?_
    rintro x w1 ⟨rfl, rfl⟩
    have hs := nil_string w
    generalize hS : strOfNums [] = T at *
    have HS := Lib.hid hS; clear hS
    go_wp2_with fail
    go_ret
    exact ⟨by rw [HS.out]; rfl, h, Keeps.refl _ _⟩
theorem RRaw_any (w : World) (r g cap p : Nat) (xs : List Int) (e : Int) (h : RAt w r g cap xs e p) (hl : xs.length ≤ 1000000) (n : Int) :
    Calls Tryz.prog 123 #[.pointer (some ⟨r, 0, none⟩), .int .i64 n] w fun x w' => x = .returned (.string (strOfNums (rdRaw n.toNat xs e p))) ∧ RAt w' r g cap xs (rdErr n.toNat xs e p) (rdPos n.toNat xs e p) ∧ Keeps [r] w w' := by
  by_cases hn : n < 0
  · have : n.toNat = 0 := by omega
    rw [this]
    exact RRaw_neg w r g cap p xs e h hl n hn
  · obtain ⟨N, rfl⟩ := Int.eq_ofNat_of_zero_le (by omega : 0 ≤ n)
    rw [Int.toNat_natCast]
    exact RRaw_nat w r g cap p xs e h hl N
end Go.Proofs.YtiljdehhjiahdaaGreatDoor
/-
  The document's reader, by the same words as the program's.
-/
namespace Go.Proofs.YtiljdehhjiahdaaGreatDoor
open Go.RowKit
theorem str_take (l : List Int) (n : Nat) : (strOfNums l).extract 0 n = strOfNums (l.take n) := by
  apply ByteArray.ext
  rw [ByteArray.data_extract]
  simp [strOfNums, List.map_take]
theorem str_drop (l : List Int) (n : Nat) : (strOfNums l).extract n (strOfNums l).size = strOfNums (l.drop n) := by
  apply ByteArray.ext
  rw [ByteArray.data_extract, strOfNums_size]
  simp [strOfNums, List.map_drop]
  rw [List.take_of_length_le (by simp)]
theorem byte_at (l : List Int) (hx : InU8 l) (i : Nat) (hi : i < (strOfNums l).size) : (((strOfNums l)[i]'hi).toNat : Int) = l.getD i 0 := by
  have hi' : i < l.length := by rw [strOfNums_size] at hi; exact hi
  have h := hx i
  have e : l.getD i 0 = l[i] := by simp [List.getD, hi']
  rw [e] at h ⊢
  show (((strOfNums l).data[i]'_).toNat : Int) = _
  simp only [strOfNums, List.getElem_toArray, List.getElem_map]
  rw [UInt8.toNat_ofNat']
  omega
theorem numOf_snoc (l : List Int) (c : Int) : numOf (l ++ [c]) = numOf l * 256 + c := by simp [numOf]
theorem fold_bound : ∀ (l : List Int) (a : Int), 0 ≤ a → (∀ c ∈ l, 0 ≤ c ∧ c < 256) → 0 ≤ l.foldl (fun a c => a * 256 + c) a ∧ l.foldl (fun a c => a * 256 + c) a < (a + 1) * 256 ^ l.length
  | [], a, h, _ => by simp; omega
  | c :: l, a, h, hc => by
    have h1 := hc c (by simp)
    have ih := fold_bound l (a * 256 + c) (by omega) (fun d hd => hc d (by simp [hd]))
    refine ⟨ih.1, Int.lt_of_lt_of_le ih.2 ?_⟩
    rw [List.length_cons, Int.pow_succ, Int.mul_comm (256 ^ l.length) 256, ← Int.mul_assoc]
    exact Int.mul_le_mul_of_nonneg_right (by omega) (Int.pow_nonneg (by omega))
theorem numOf_small (l : List Int) (hc : ∀ c ∈ l, 0 ≤ c ∧ c < 256) (hl : l.length ≤ 3) : 0 ≤ numOf l ∧ numOf l < 16777216 := by
  have h := fold_bound l 0 (by omega) hc
  refine ⟨h.1, Int.lt_of_lt_of_le h.2 ?_⟩
  match l.length, hl with
  | 0, _ => decide
  | 1, _ => decide
  | 2, _ => decide
  | 3, _ => decide
  | n + 4, h => omega
theorem inu8_mem {l : List Int} (h : InU8 l) : ∀ c ∈ l, 0 ≤ c ∧ c < 256 := by
  intro c hc
  obtain ⟨i, hi, rfl⟩ := List.getElem_of_mem hc
  have := h i
  simpa [List.getD, hi] using this
theorem inu8_sub {l t : List Int} (h : InU8 l) (ht : ∀ c ∈ t, c ∈ l) : InU8 t := by
  intro j
  by_cases hj : j < t.length
  · have e : t.getD j 0 = t[j] := by simp [List.getD, hj]
    rw [e]
    exact inu8_mem h _ (ht _ (List.getElem_mem hj))
  · have e : t.getD j 0 = 0 := by rw [List.getD, List.getElem?_eq_none (by omega)]; rfl
    rw [e]; omega
theorem rdRaw_sub (W : Nat) (xs : List Int) (e : Int) (p : Nat) : ∀ c ∈ rdRaw W xs e p, c ∈ xs := by
  intro c hc
  unfold rdRaw at hc
  split at hc
  · exact List.mem_of_mem_drop (List.mem_of_mem_take hc)
  · simp at hc
theorem rdRaw_length (W : Nat) (xs : List Int) (e : Int) (p : Nat) : (rdRaw W xs e p).length ≤ W := by
  unfold rdRaw
  split
  · simp; omega
  · simp
theorem rdVal_raw (W : Nat) (xs : List Int) (e : Int) (p : Nat) : rdVal W xs e p = numOf (rdRaw W xs e p) := by
  unfold rdVal rdRaw
  split
  · rfl
  · rfl
end Go.Proofs.YtiljdehhjiahdaaGreatDoor
/-
  The Reader's List: where it gives nothing.
-/
namespace Go.Proofs.YtiljdehhjiahdaaGreatDoor
open Go.RowKit
/-- Is a list whole here? -/
def LWhole (xs : List Int) (p : Nat) : Prop := p < xs.length ∧ p + 1 + 2 * (xs.getD p 0).toNat ≤ xs.length
set_option maxHeartbeats 400000 in
theorem RList_err (w : World) (r g cap p : Nat) (xs : List Int) (e : Int) (h : RAt w r g cap xs e p) (he : e ≠ 0) :
    Calls Tryz.prog 129 #[.pointer (some ⟨r, 0, none⟩)] w fun x w' => x = .returned (.slice none 0 0) ∧ w = w' := by
  have he2 : (e != 0) = true := by simpa using he
  go_enter Tryz.func129, Tryz.ntmps129
  go_wp2_with fail
  refine (Err_any _ r g cap p xs e h).mono ?_
  rintro x w1 ⟨rfl, rfl⟩
  go_wp2_with fail
  go_ret
  exact ⟨rfl, rfl⟩
set_option maxHeartbeats 1000000 in
theorem RList_torn (w : World) (r g cap p : Nat) (xs : List Int) (h : RAt w r g cap xs 0 p) (hx : InU8 xs) (hl : xs.length ≤ 1000000) (hw : ¬ LWhole xs p) :
    Calls Tryz.prog 129 #[.pointer (some ⟨r, 0, none⟩)] w fun x w' => x = .returned (.slice none 0 0) ∧ RAt w' r g cap xs 5 p ∧ Keeps [r] w w' := by
  obtain ⟨c0, c1, c2, f0, f1, f2⟩ := cell3 h.blk
  by_cases hp : p < xs.length
  · have e1 : rdVal 1 xs 0 p = xs.getD p 0 := by rw [rdVal, if_pos ⟨rfl, hp⟩, numOf_1 xs p hp]; rfl
    have e2 : rdErr 1 xs 0 p = 0 := by simp [rdErr]; omega
    have e3 : rdPos 1 xs 0 p = p + 1 := by rw [rdPos, if_pos ⟨rfl, hp⟩]
    have hc := hx p
    have ht : ¬ p + 1 + 2 * (xs.getD p 0).toNat ≤ xs.length := fun h' => hw ⟨hp, h'⟩
    have h8 := fun w' h' => RU8_any w' r g cap p xs 0 h' hx hl
    rw [e1, e2, e3] at h8
    clear e1 e2 e3
    generalize hn : xs.getD p 0 = n at *
    clear hn
    obtain ⟨N, rfl⟩ := Int.eq_ofNat_of_zero_le hc.1
    rw [Int.toNat_natCast] at ht
    have hN : (N : Int) < 256 := hc.2
    have H8 := Lib.hid h8; clear h8 hc
    go_enter Tryz.func129, Tryz.ntmps129
    go_wp2_with fail
    refine (Err_any _ r g cap p xs 0 h).mono ?_
    rintro x w1 ⟨rfl, rfl⟩
    go_wp2_with fail
    refine (H8.out _ h).mono ?_
    rintro x w1 ⟨rfl, h1, hk⟩
    go_wp2_with fail
    refine (wid16_any _).mono ?_
    rintro x w2 ⟨rfl, rfl⟩
    go_wp2_with fail
    refine (take_long _ r g cap (p + 1) xs h1 hl ((N : Int) * 2) (by omega)).mono ?_
    rintro x w3 ⟨rfl, h3, hk3⟩
    obtain ⟨d0, d1, d2, g0, g1, g2⟩ := cell3 h3.blk
    go_wp2_with fail
    go_ret
    have := set3_2 h3.blk (.int .i64 (p : Int))
    exact ⟨rfl, ⟨this, fun j hj => ((Keeps.refl [r] _).setCell _ _ (by simp)).cell (h3.src j hj) (by simpa using h.ne), h.le, h.cap, h.ne⟩, (hk.step hk3 (fun _ h => h)).setCell _ _ (by simp)⟩
  · have e1 : rdVal 1 xs 0 p = 0 := by rw [rdVal, if_neg (fun h => hp h.2)]
    have e2 : rdErr 1 xs 0 p = 5 := by simp [rdErr]; omega
    have e3 : rdPos 1 xs 0 p = p := by rw [rdPos, if_neg (fun h => hp h.2)]
    have h8 := RU8_any w r g cap p xs 0 h hx hl
    rw [e1, e2, e3] at h8
    clear e1 e2 e3
    have H8 := Lib.hid h8; clear h8
    go_enter Tryz.func129, Tryz.ntmps129
    go_wp2_with fail
    refine (Err_any _ r g cap p xs 0 h).mono ?_
    rintro x w1 ⟨rfl, rfl⟩
    go_wp2_with fail
    refine (H8.out).mono ?_
    rintro x w1 ⟨rfl, h1, hk⟩
    go_wp2_with fail
    refine (wid16_any _).mono ?_
    rintro x w2 ⟨rfl, rfl⟩
    go_wp2_with fail
    refine (take_err _ r g cap p xs 5 h1 (by omega) 0).mono ?_
    rintro x w3 ⟨rfl, rfl⟩
    obtain ⟨d0, d1, d2, g0, g1, g2⟩ := cell3 h1.blk
    go_wp2_with fail
    go_ret
    have := set3_2 h1.blk (.int .i64 (p : Int))
    exact ⟨rfl, ⟨this, fun j hj => ((Keeps.refl [r] _).setCell _ _ (by simp)).cell (h1.src j hj) (by simpa using h.ne), h.le, h.cap, h.ne⟩, hk.setCell _ _ (by simp)⟩
end Go.Proofs.YtiljdehhjiahdaaGreatDoor
/-
  The document's answer: numbers and lists as texts.
-/
namespace Go.Proofs.YtiljdehhjiahdaaGreatDoor
open Go.RowKit
theorem strOfNums_append (a b : List Int) : strOfNums (a ++ b) = strOfNums a ++ strOfNums b := by
  apply ByteArray.ext
  simp [strOfNums]
theorem one_string (W : World) (x : Int) : (convert 84 9 (.slice (some ⟨W.heap.size, 0, none⟩) 1 1)).run Tryz.prog (W.alloc (.cells #[.int .u8 x] 5)) = .ok (.string (strOfNums [x])) (W.alloc (.cells #[.int .u8 x] 5)) := by
  refine run_convert_bytes_arg _ _ _ Tryz.underlying84 Tryz.underlying5 W.heap.size 0 1 1 [x] rfl (fun i hi => ?_) _ Tryz.underlying9
  obtain rfl : i = 0 := by omega
  simp
/-- The last k bytes of a number, the highest first. -/
def lastBytes : Nat → Int → List Int
  | 0, _ => []
  | k + 1, m => (m / 256 ^ k % 256) :: lastBytes k m
theorem lastBytes_length : ∀ (k : Nat) (m : Int), (lastBytes k m).length = k
  | 0, _ => rfl
  | k + 1, m => by simp [lastBytes, lastBytes_length k m]
theorem lastBytes_1 (m : Int) : lastBytes 1 m = be1 (m % 256) := by simp [lastBytes, be1]
theorem lastBytes_2 (m : Int) : lastBytes 2 m = be2 (m % 65536) := by
  simp only [lastBytes, be2, List.cons.injEq, and_true]
  constructor
  · omega
  · omega
theorem lastBytes_4 (m : Int) : lastBytes 4 m = be4 (m % 4294967296) := by
  simp only [lastBytes, be4, List.cons.injEq, and_true]
  refine ⟨?_, ?_, ?_, ?_⟩ <;> omega
theorem div_step (m : Int) (k : Nat) : m / 256 ^ k / 256 = m / 256 ^ (k + 1) := by
  rw [Int.ediv_ediv_of_nonneg (Int.pow_nonneg (by omega)), Int.pow_succ]
theorem div_bound (m : Int) (k : Nat) (h0 : 0 ≤ m) (h1 : m < 4294967296) : 0 ≤ m / 256 ^ k ∧ m / 256 ^ k < 4294967296 := by
  have hp : (0 : Int) < 256 ^ k := Int.pow_pos (by omega)
  refine ⟨Int.ediv_nonneg h0 (Int.le_of_lt hp), Int.lt_of_le_of_lt (Int.ediv_le_self _ h0) h1⟩
end Go.Proofs.YtiljdehhjiahdaaGreatDoor
