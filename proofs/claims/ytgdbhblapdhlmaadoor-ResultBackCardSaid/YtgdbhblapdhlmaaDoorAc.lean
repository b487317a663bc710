/-
  Numbers as bytes: what is appended.
-/
import Derived.Test.YtgdbhblapdhlmaaDoorAa
import Derived.Test.YtgdbhblapdhlmaaDoorAb
namespace Go.Proofs.YtgdbhblapdhlmaaDoor
open Go.RowKit
/-- A number's bytes, the highest first. -/
def be1 (m : Int) : List Int := [m]
def be2 (m : Int) : List Int := [m / 256, m % 256]
def be4 (m : Int) : List Int := [m / 16777216, m / 65536 % 256, m / 256 % 256, m % 256]
set_option maxHeartbeats 1000000 in
theorem app8_any (w : World) (v : Value) (n : Nat) (xs : List Int) (m : Int) (h0 : 0 ≤ m) (h1 : m < 256)
    (hown : w.ownsRow 0 5 1 v n (xs.map (.int .u8))) (hn : n ≤ 1000000) :
    Calls Tryd.prog 42 #[v, .int .u8 m] w fun e w' => ∃ v', e = .returned v' ∧ w'.ownsRow 0 5 1 v' (n + 1) ((xs ++ be1 m).map (.int .u8)) ∧ Keeps (own v) w w' ∧ FSub (own v') (own v) w.heap.size ∧ v' ≠ .slice none 0 0 := by
  obtain ⟨i0, hi, hz0, hz1, hz2⟩ := info_parts Tryd.info8
  go_enter Tryd.func42, Tryd.ntmps42
  go_wp2_with fail
  refine (wid8_any _).mono ?_; rintro e w' ⟨rfl, rfl⟩
  go_wp2_with fail
  refine wp_loop_rounds 2 ?_
  rw [rounds_succ]
  go_wp2_with (at_builtin; refine wpList_append_sharp _ rfl _ _ 46 rfl 5 i0 (.int .u8 0) 1 Tryd.underlying46 hi hz0 hz1 hz2 rfl _ _ _ rfl (hown.alloc _) ⟨w.heap.size, 0, none⟩ 1 1 [.int .u8 (m)] rfl rfl ?c11 ?c21 ?c31 ?c41 ?_)
  case c11 => exact one_new _ _ _
  case c21 => intro u hu; simp at hu; subst hu; rfl
  case c31 => unfold maxLen; omega
  case c41 => omega
  intro v1 w1 hown1 hk1 hs1 hn1
  replace hk1 := ((Keeps.alloc (Keeps.refl [] _) _).more (G := own v) (by simp)).step hk1 (fun _ h => h)
  replace hs1 : FSub (own v1) (own v) w.heap.size := hs1.mono (by simp)
  go_wp2_with fail
  rw [rounds_succ]
  go_wp2
  go_ret
  refine ⟨v1, rfl, ?_, ?_, ?_, ?_⟩
  · have e : (xs ++ be1 m).map (Value.int .u8) = xs.map (.int .u8) ++ [.int .u8 (m)] := by simp [be1]
    rw [e]; exact hown1
  · exact hk1
  · exact hs1
  · intro h; simpa using hn1 h
set_option maxHeartbeats 1000000 in
theorem app16_any (w : World) (v : Value) (n : Nat) (xs : List Int) (m : Int) (h0 : 0 ≤ m) (h1 : m < 65536)
    (hown : w.ownsRow 0 5 1 v n (xs.map (.int .u8))) (hn : n ≤ 1000000) :
    Calls Tryd.prog 43 #[v, .int .u16 m] w fun e w' => ∃ v', e = .returned v' ∧ w'.ownsRow 0 5 1 v' (n + 2) ((xs ++ be2 m).map (.int .u8)) ∧ Keeps (own v) w w' ∧ FSub (own v') (own v) w.heap.size ∧ v' ≠ .slice none 0 0 := by
  obtain ⟨i0, hi, hz0, hz1, hz2⟩ := info_parts Tryd.info8
  go_enter Tryd.func43, Tryd.ntmps43
  go_wp2_with fail
  refine (wid16_any _).mono ?_; rintro e w' ⟨rfl, rfl⟩
  go_wp2_with fail
  refine wp_loop_rounds 3 ?_
  rw [rounds_succ]
  go_wp2_with (at_builtin; refine wpList_append_sharp _ rfl _ _ 46 rfl 5 i0 (.int .u8 0) 1 Tryd.underlying46 hi hz0 hz1 hz2 rfl _ _ _ rfl (hown.alloc _) ⟨w.heap.size, 0, none⟩ 1 1 [.int .u8 (m / 256)] rfl rfl ?c11 ?c21 ?c31 ?c41 ?_)
  case c11 => exact one_new _ _ _
  case c21 => intro u hu; simp at hu; subst hu; rfl
  case c31 => unfold maxLen; omega
  case c41 => omega
  intro v1 w1 hown1 hk1 hs1 hn1
  replace hk1 := ((Keeps.alloc (Keeps.refl [] _) _).more (G := own v) (by simp)).step hk1 (fun _ h => h)
  replace hs1 : FSub (own v1) (own v) w.heap.size := hs1.mono (by simp)
  go_wp2_with fail
  rw [rounds_succ]
  go_wp2_with (at_builtin; refine wpList_append_sharp _ rfl _ _ 46 rfl 5 i0 (.int .u8 0) 1 Tryd.underlying46 hi hz0 hz1 hz2 rfl _ _ _ rfl (hown1.alloc _) ⟨w1.heap.size, 0, none⟩ 1 1 [.int .u8 (m % 256)] rfl rfl ?c12 ?c22 ?c32 ?c42 ?_)
  case c12 => exact one_new _ _ _
  case c22 => intro u hu; simp at hu; subst hu; rfl
  case c32 => unfold maxLen; omega
  case c42 => omega
  intro v2 w2 hown2 hk2 hs2 hn2
  replace hk2 := ((Keeps.alloc (Keeps.refl [] _) _).more (G := own v1) (by simp)).step hk2 (fun _ h => h)
  replace hs2 : FSub (own v2) (own v1) w1.heap.size := hs2.mono (by simp)
  go_wp2_with fail
  rw [rounds_succ]
  go_wp2
  go_ret
  have z1 := hk1.size
  refine ⟨v2, rfl, ?_, ?_, ?_, ?_⟩
  · have e : (xs ++ be2 m).map (Value.int .u8) = xs.map (.int .u8) ++ [.int .u8 (m / 256), .int .u8 (m % 256)] := by simp [be2]
    rw [e]; exact hown2
  · exact hk1.trans hk2 hs1
  · exact hs2.trans hs1 (by omega) (by omega)
  · intro h; simpa using hn2 h
end Go.Proofs.YtgdbhblapdhlmaaDoor
