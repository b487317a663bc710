/-
  Numbers as bytes: what is appended.
-/
import Derived.Test.YtchenofgmmgdmaaAa
import Derived.Test.YtchenofgmmgdmaaAb
namespace Go.Proofs.Ytchenofgmmgdmaa
open Go.RowKit
/-- A number's bytes, the highest first. -/
def be1 (m : Int) : List Int := [m]
def be2 (m : Int) : List Int := [m / 256, m % 256]
def be4 (m : Int) : List Int := [m / 16777216, m / 65536 % 256, m / 256 % 256, m % 256]
set_option maxHeartbeats 1000000 in
theorem app8_any (w : World) (v : Value) (n : Nat) (xs : List Int) (m : Int) (h0 : 0 ≤ m) (h1 : m < 256)
    (hown : w.ownsRow 0 5 1 v n (xs.map (.int .u8))) (hn : n ≤ 1000000) :
    Calls Try.prog 37 #[v, .int .u8 m] w fun e w' => ∃ v', e = .returned v' ∧ w'.ownsRow 0 5 1 v' (n + 1) ((xs ++ be1 m).map (.int .u8)) ∧ Keeps (own v) w w' ∧ FSub (own v') (own v) w.heap.size ∧ v' ≠ .slice none 0 0 := by
  obtain ⟨i0, hi, hz0, hz1, hz2⟩ := info_parts Try.info8
  go_enter Try.func37, Try.ntmps37
  go_wp2_with fail
  refine (wid8_any _).mono ?_; rintro e w' ⟨rfl, rfl⟩
  go_wp2_with fail
  refine wp_loop_rounds 2 ?_
  rw [rounds_succ]
  go_wp2_with (at_builtin; refine wpList_append_sharp _ rfl _ _ 26 rfl 5 i0 (.int .u8 0) 1 Try.underlying26 hi hz0 hz1 hz2 rfl _ _ _ rfl (hown.alloc _) ⟨w.heap.size, 0, none⟩ 1 1 [.int .u8 (m)] rfl rfl ?c11 ?c21 ?c31 ?c41 ?_)
  case c11 => exact one_new _ _ _
  case c21 => intro u hu; simp at hu; subst hu; rfl
  case c31 => unfold maxLen; omega
  case c41 => omega
  intro v1 w1 hown1 hk1 hs1 hn1
  replace hk1 := ((Keeps.alloc (Keeps.refl [] _) _).more (G := own v) (by simp)).step hk1 (fun _ h => h)
  replace hs1 : FSub (own v1) (own v) w.heap.size := hs1.mono (by simp)
  go_wp2_with fail
  rw [rounds_succ]
  go_wp2
  go_ret
  refine ⟨v1, rfl, ?_, ?_, ?_, ?_⟩
  · have e : (xs ++ be1 m).map (Value.int .u8) = xs.map (.int .u8) ++ [.int .u8 (m)] := by simp [be1]
    rw [e]; exact hown1
  · exact hk1
  · exact hs1
  · intro h; simpa using hn1 h
set_option maxHeartbeats 1000000 in
theorem app16_any (w : World) (v : Value) (n : Nat) (xs : List Int) (m : Int) (h0 : 0 ≤ m) (h1 : m < 65536)
    (hown : w.ownsRow 0 5 1 v n (xs.map (.int .u8))) (hn : n ≤ 1000000) :
    Calls Try.prog 36 #[v, .int .u16 m] w fun e w' => ∃ v', e = .returned v' ∧ w'.ownsRow 0 5 1 v' (n + 2) ((xs ++ be2 m).map (.int .u8)) ∧ Keeps (own v) w w' ∧ FSub (own v') (own v) w.heap.size ∧ v' ≠ .slice none 0 0 := by
  obtain ⟨i0, hi, hz0, hz1, hz2⟩ := info_parts Try.info8
  go_enter Try.func36, Try.ntmps36
  go_wp2_with fail
  refine (wid16_any _).mono ?_; rintro e w' ⟨rfl, rfl⟩
  go_wp2_with fail
  refine wp_loop_rounds 3 ?_
  rw [rounds_succ]
  go_wp2_with (at_builtin; refine wpList_append_sharp _ rfl _ _ 26 rfl 5 i0 (.int .u8 0) 1 Try.underlying26 hi hz0 hz1 hz2 rfl _ _ _ rfl (hown.alloc _) ⟨w.heap.size, 0, none⟩ 1 1 [.int .u8 (m / 256)] rfl rfl ?c11 ?c21 ?c31 ?c41 ?_)
  case c11 => exact one_new _ _ _
  case c21 => intro u hu; simp at hu; subst hu; rfl
  case c31 => unfold maxLen; omega
  case c41 => omega
  intro v1 w1 hown1 hk1 hs1 hn1
  replace hk1 := ((Keeps.alloc (Keeps.refl [] _) _).more (G := own v) (by simp)).step hk1 (fun _ h => h)
  replace hs1 : FSub (own v1) (own v) w.heap.size := hs1.mono (by simp)
  go_wp2_with fail
  rw [rounds_succ]
  go_wp2_with (at_builtin; refine wpList_append_sharp _ rfl _ _ 26 rfl 5 i0 (.int .u8 0) 1 Try.underlying26 hi hz0 hz1 hz2 rfl _ _ _ rfl (hown1.alloc _) ⟨w1.heap.size, 0, none⟩ 1 1 [.int .u8 (m % 256)] rfl rfl ?c12 ?c22 ?c32 ?c42 ?_)
  case c12 => exact one_new _ _ _
  case c22 => intro u hu; simp at hu; subst hu; rfl
  case c32 => unfold maxLen; omega
  case c42 => omega
  intro v2 w2 hown2 hk2 hs2 hn2
  replace hk2 := ((Keeps.alloc (Keeps.refl [] _) _).more (G := own v1) (by simp)).step hk2 (fun _ h => h)
  replace hs2 : FSub (own v2) (own v1) w1.heap.size := hs2.mono (by simp)
  go_wp2_with fail
  rw [rounds_succ]
  go_wp2
  go_ret
  have z1 := hk1.size
  refine ⟨v2, rfl, ?_, ?_, ?_, ?_⟩
  · have e : (xs ++ be2 m).map (Value.int .u8) = xs.map (.int .u8) ++ [.int .u8 (m / 256), .int .u8 (m % 256)] := by simp [be2]
    rw [e]; exact hown2
  · exact hk1.trans hk2 hs1
  · exact hs2.trans hs1 (by omega) (by omega)
  · intro h; simpa using hn2 h
set_option maxHeartbeats 1000000 in
theorem app32_any (w : World) (v : Value) (n : Nat) (xs : List Int) (m : Int) (h0 : 0 ≤ m) (h1 : m < 4294967296)
    (hown : w.ownsRow 0 5 1 v n (xs.map (.int .u8))) (hn : n ≤ 1000000) :
    Calls Try.prog 39 #[v, .int .u32 m] w fun e w' => ∃ v', e = .returned v' ∧ w'.ownsRow 0 5 1 v' (n + 4) ((xs ++ be4 m).map (.int .u8)) ∧ Keeps (own v) w w' ∧ FSub (own v') (own v) w.heap.size ∧ v' ≠ .slice none 0 0 := by
  obtain ⟨i0, hi, hz0, hz1, hz2⟩ := info_parts Try.info8
  go_enter Try.func39, Try.ntmps39
  go_wp2_with fail
  refine (wid32_any _).mono ?_; rintro e w' ⟨rfl, rfl⟩
  go_wp2_with fail
  refine wp_loop_rounds 5 ?_
  rw [rounds_succ]
  go_wp2_with (at_builtin; refine wpList_append_sharp _ rfl _ _ 26 rfl 5 i0 (.int .u8 0) 1 Try.underlying26 hi hz0 hz1 hz2 rfl _ _ _ rfl (hown.alloc _) ⟨w.heap.size, 0, none⟩ 1 1 [.int .u8 (m / 16777216)] rfl rfl ?c11 ?c21 ?c31 ?c41 ?_)
  case c11 => exact one_new _ _ _
  case c21 => intro u hu; simp at hu; subst hu; rfl
  case c31 => unfold maxLen; omega
  case c41 => omega
  intro v1 w1 hown1 hk1 hs1 hn1
  replace hk1 := ((Keeps.alloc (Keeps.refl [] _) _).more (G := own v) (by simp)).step hk1 (fun _ h => h)
  replace hs1 : FSub (own v1) (own v) w.heap.size := hs1.mono (by simp)
  go_wp2_with fail
  rw [rounds_succ]
  go_wp2_with (at_builtin; refine wpList_append_sharp _ rfl _ _ 26 rfl 5 i0 (.int .u8 0) 1 Try.underlying26 hi hz0 hz1 hz2 rfl _ _ _ rfl (hown1.alloc _) ⟨w1.heap.size, 0, none⟩ 1 1 [.int .u8 (m / 65536 % 256)] rfl rfl ?c12 ?c22 ?c32 ?c42 ?_)
  case c12 => exact one_new _ _ _
  case c22 => intro u hu; simp at hu; subst hu; rfl
  case c32 => unfold maxLen; omega
  case c42 => omega
  intro v2 w2 hown2 hk2 hs2 hn2
  replace hk2 := ((Keeps.alloc (Keeps.refl [] _) _).more (G := own v1) (by simp)).step hk2 (fun _ h => h)
  replace hs2 : FSub (own v2) (own v1) w1.heap.size := hs2.mono (by simp)
  go_wp2_with fail
  rw [rounds_succ]
  go_wp2_with (at_builtin; refine wpList_append_sharp _ rfl _ _ 26 rfl 5 i0 (.int .u8 0) 1 Try.underlying26 hi hz0 hz1 hz2 rfl _ _ _ rfl (hown2.alloc _) ⟨w2.heap.size, 0, none⟩ 1 1 [.int .u8 (m / 256 % 256)] rfl rfl ?c13 ?c23 ?c33 ?c43 ?_)
  case c13 => exact one_new _ _ _
  case c23 => intro u hu; simp at hu; subst hu; rfl
  case c33 => unfold maxLen; omega
  case c43 => omega
  intro v3 w3 hown3 hk3 hs3 hn3
  replace hk3 := ((Keeps.alloc (Keeps.refl [] _) _).more (G := own v2) (by simp)).step hk3 (fun _ h => h)
  replace hs3 : FSub (own v3) (own v2) w2.heap.size := hs3.mono (by simp)
  go_wp2_with fail
  rw [rounds_succ]
  go_wp2_with (at_builtin; refine wpList_append_sharp _ rfl _ _ 26 rfl 5 i0 (.int .u8 0) 1 Try.underlying26 hi hz0 hz1 hz2 rfl _ _ _ rfl (hown3.alloc _) ⟨w3.heap.size, 0, none⟩ 1 1 [.int .u8 (m % 256)] rfl rfl ?c14 ?c24 ?c34 ?c44 ?_)
  case c14 => exact one_new _ _ _
  case c24 => intro u hu; simp at hu; subst hu; rfl
  case c34 => unfold maxLen; omega
  case c44 => omega
  intro v4 w4 hown4 hk4 hs4 hn4
  replace hk4 := ((Keeps.alloc (Keeps.refl [] _) _).more (G := own v3) (by simp)).step hk4 (fun _ h => h)
  replace hs4 : FSub (own v4) (own v3) w3.heap.size := hs4.mono (by simp)
  go_wp2_with fail
  rw [rounds_succ]
  go_wp2
  go_ret
  have z1 := hk1.size
  have z2 := hk2.size
  have z3 := hk3.size
  have t2 : FSub (own v2) (own v) w.heap.size := hs2.trans hs1 (by omega) (Nat.le_refl _)
  have t3 : FSub (own v3) (own v) w.heap.size := hs3.trans t2 (by omega) (Nat.le_refl _)
  refine ⟨v4, rfl, ?_, ?_, ?_, ?_⟩
  · have e : (xs ++ be4 m).map (Value.int .u8) = xs.map (.int .u8) ++ [.int .u8 (m / 16777216), .int .u8 (m / 65536 % 256), .int .u8 (m / 256 % 256), .int .u8 (m % 256)] := by simp [be4]
    rw [e]; exact hown4
  · exact ((hk1.trans hk2 hs1).trans hk3 t2).trans hk4 t3
  · exact hs4.trans t3 (by omega) (Nat.le_refl _)
  · intro h; simpa using hn4 h
end Go.Proofs.Ytchenofgmmgdmaa
