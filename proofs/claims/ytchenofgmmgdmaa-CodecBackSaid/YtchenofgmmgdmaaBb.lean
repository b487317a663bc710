/-
  The document's answer: a list as a text.
-/
import Derived.Test.YtchenofgmmgdmaaBa
namespace Go.Proofs.Ytchenofgmmgdmaa
open Go.RowKit
set_option maxHeartbeats 400000 in
theorem refList_some (w : World) (lb off c : Nat) (ls : List Int) (hsrc : ∀ j, j < ls.length → w.cell? ⟨lb, off + j, none⟩ = some (.int .u16 (ls.getD j 0))) (hr : InU16 ls) (hl : ls.length ≤ 255) :
    Calls Try.prog 29 #[.slice (some ⟨lb, off, none⟩) ls.length c] w fun e w' => e = .returned (.tuple #[.string (strOfNums (beList ls)), .int .i64 0]) ∧ Keeps [] w w' := by
  have hl1 : ¬ (255 : Int) < (ls.length : Int) := by omega
  have hl2 : (ls.length : Int) < 256 := by omega
  have hl3 : (0 : Int) ≤ (ls.length : Int) := by omega
  have em : (ls.length : Int) % 256 = ls.length := by omega
  have h1 := refNumber_1 w (ls.length : Int) hl3 (by omega)
  rw [em] at h1
  have H1 := Lib.hid h1; clear h1 em
  have Hr := Lib.hid hr; clear hr
  have Hsrc := Lib.hid hsrc; clear hsrc
  go_enter Try.func29, Try.ntmps29
  go_wp2_with fail
  refine H1.out.mono ?_
  rintro e w1 ⟨rfl, hk⟩
  go_wp2_with fail
  go_loopw [4, 5] (fun s i wr => ∃ k : Nat, k ≤ ls.length ∧ i = .int .i64 k ∧ s = .string (strOfNums ((ls.length : Int) :: (ls.take k).flatMap be2)) ∧ Keeps [] w wr) (fun _ i _ => ls.length - (intOf i).toNat)
  case atStart => exact ⟨0, Nat.zero_le _, rfl, by simp [be1], hk⟩
  case round =>
    obtain ⟨k, hk, rfl, rfl, hkp⟩ := hrel
    by_cases hlt : k < ls.length
    · have hcell : wr.cell? ⟨lb, off + k, none⟩ = some (.int .u16 (ls.getD k 0)) := hkp.cell (Hsrc.out k hlt) (by simp)
      have hrk := Hr.out k
      have e2 : strOfNums ((ls.length : Int) :: (ls.take k).flatMap be2) ++ strOfNums (be2 (ls.getD k 0)) = strOfNums ((ls.length : Int) :: (ls.take (k + 1)).flatMap be2) := by
        rw [← strOfNums_append, flat_snoc ls k hlt]; rfl
      have hs1 : (strOfNums ((ls.length : Int) :: (ls.take k).flatMap be2)).size ≤ 511 := by
        rw [strOfNums_size, List.length_cons, length_flat, List.length_take]; omega
      have E2 := Lib.hid e2; clear e2
      generalize hx : ls.getD k 0 = x at *
      clear hx
      have em : x % 65536 = x := by omega
      have hx0 := hrk.1
      have hx1 := hrk.2
      have h2 := refNumber_2 wr x hx0 (by omega)
      rw [em] at h2
      have H2 := Lib.hid h2; clear h2 em hrk
      have hs2 : (strOfNums (be2 x)).size ≤ 2 := by rw [strOfNums_size]; simp [be2]
      generalize strOfNums (be2 x) = T at *
      generalize strOfNums ((ls.length : Int) :: (ls.take k).flatMap be2) = S at *
      go_wp2_with fail
      refine H2.out.mono ?_
      rintro e w2 ⟨rfl, hk2⟩
      go_wp2_with fail
      go_roundw
      case rel => exact ⟨k + 1, by omega, by go_num, by rw [← E2.out], hkp.step hk2 (fun _ h => h)⟩
      case measure => simp [intOf]; omega
    · obtain rfl : k = ls.length := by omega
      have e : strOfNums ((ls.length : Int) :: (ls.take ls.length).flatMap be2) = strOfNums (beList ls) := by rw [List.take_length]; rfl
      generalize strOfNums ((ls.length : Int) :: (ls.take ls.length).flatMap be2) = S at *
      have E := Lib.hid e; clear e
      go_wp2_with fail
      go_ret2
      exact ⟨by rw [← E.out]; rfl, hkp⟩
set_option maxHeartbeats 400000 in
theorem refList_empty (w : World) (a : Option Addr) (c : Nat) :
    Calls Try.prog 29 #[.slice a 0 c] w fun e w' => e = .returned (.tuple #[.string (strOfNums (beList [])), .int .i64 0]) ∧ Keeps [] w w' := by
  have h1 : Calls Try.prog 28 #[.int .u32 0, .int .i64 1] w fun e w' => e = .returned (.string (strOfNums (beList []))) ∧ Keeps [] w w' := refNumber_1 w 0 (by omega) (by omega)
  generalize strOfNums (beList []) = T at *
  have H1 := Lib.hid h1; clear h1
  go_enter Try.func29, Try.ntmps29
  go_wp2_with fail
  refine H1.out.mono ?_
  rintro e w1 ⟨rfl, hk⟩
  go_wp2_with fail
  refine wp_loop_rounds 1 ?_
  rw [rounds_succ]
  go_wp2_with fail
  go_ret2
  exact ⟨rfl, hk⟩
set_option maxHeartbeats 400000 in
theorem refList_long (w : World) (a : Option Addr) (n c : Nat) (hl : 255 < n) :
    Calls Try.prog 29 #[.slice a n c] w fun e w' => e = .returned (.tuple #[.string ⟨#[]⟩, .int .i64 3]) ∧ w = w' := by
  have hl1 : (255 : Int) < (n : Int) := by omega
  go_enter Try.func29, Try.ntmps29
  go_wp2
  go_ret2
  exact ⟨rfl, rfl⟩
theorem refList_any (w : World) (a : Option Addr) (n c : Nat) (ls : List Int) (hn : n = ls.length) (hsrc : Src16 w a ls) (hr : InU16 ls) :
    Calls Try.prog 29 #[.slice a n c] w fun e w' => e = .returned (.tuple #[.string (if ls.length ≤ 255 then strOfNums (beList ls) else ⟨#[]⟩), .int .i64 (if ls.length ≤ 255 then 0 else 3)]) ∧ Keeps [] w w' := by
  subst hn
  by_cases hl : ls.length ≤ 255
  · rw [if_pos hl, if_pos hl]
    rcases hsrc with rfl | ⟨lb, off, rfl, hc⟩
    · exact refList_empty w a c
    · exact refList_some w lb off c ls hc hr hl
  · rw [if_neg hl, if_neg hl]
    refine (refList_long w a _ c (by omega)).mono fun e w' ⟨he, hw⟩ => ⟨he, hw ▸ Keeps.refl _ _⟩
end Go.Proofs.Ytchenofgmmgdmaa
