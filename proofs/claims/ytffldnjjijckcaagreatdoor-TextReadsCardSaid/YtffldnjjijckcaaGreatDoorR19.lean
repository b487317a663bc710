/-
  The program's Text, the document's Text.
-/
import Derived.Lib.AtoiErrMem
import Derived.Test.YtffldnjjijckcaaGreatDoorR07
set_option linter.unusedSimpArgs false
set_option linter.unusedVariables false
namespace Go.Proofs.YtffldnjjijckcaaGreatDoor
open Go.RowKit
theorem Itoa_any (w : World) (hg : Glob w) (v : Int) (v0 : 0 ≤ v) (v1 : v < 65536) : Calls Tryz.prog 75 #[.int .i64 v] w fun e w' => e = .returned (.string (bs (Lib.decDigits v.toNat))) ∧ Keeps [] w w' := by
  refine (Tryz.strconv_Itoa v (by omega) (by omega) w hg.tab).mono ?_
  rintro e w' ⟨rfl, k, os, rfl⟩
  refine ⟨?_, ?_⟩
  · rw [Lib.itoa, if_neg (by omega)]; rfl
  · refine ⟨rfl, rfl, rfl, ?_, fun j hj _ => ?_⟩
    · show w.heap.size ≤ (w.heap ++ os).size
      simp
    · show (w.heap ++ os)[j]? = w.heap[j]?
      simp [Array.getElem?_append, hj]
set_option maxHeartbeats 1000000 in
theorem Text_bad (w : World) (k v : Int) (h0 : 0 ≤ k) (h1 : k < 256) (hg : rsGood k v = false) :
    Calls Tryz.prog 81 #[.agg #[.int .u8 k, .int .u16 v]] w fun e w' => e = .returned (.tuple #[.string ⟨#[]⟩, .int .i64 4]) ∧ Keeps [] w w' := by
  have hc := fun w => Check_any w k v h0 h1
  rw [rsErr_bad hg] at hc
  go_enter Tryz.func81, Tryz.ntmps81
  go_wp2_with fail
  refine (hc _).mono ?_; rintro e w1 ⟨rfl, hk1⟩
  go_wp2_with fail
  go_ret2
  exact ⟨rfl, ((Keeps.refl _ _).alloc _).trans hk1 (FSub.refl _ _)⟩
set_option maxHeartbeats 1000000 in
theorem Text_word (w : World) (hG : Glob w) (k : Int) (h0 : 0 ≤ k) (h4 : k ≤ 4) (h1 : k ≠ 1) :
    Calls Tryz.prog 81 #[.agg #[.int .u8 k, .int .u16 0]] w fun e w' => e = .returned (.tuple #[.string (bs (rsTxt k 0)), .int .i64 0]) ∧ Keeps [] w w' := by
  have hc := fun w => Check_any w k 0 h0 (by omega)
  rw [rsErr_good (show rsGood k 0 = true by simp [rsGood, h4])] at hc
  have hk4 : k = 0 ∨ k = 2 ∨ k = 3 ∨ k = 4 := by omega
  go_enter Tryz.func81, Tryz.ntmps81
  go_wp2_with fail
  refine (hc _).mono ?_; rintro e w1 ⟨rfl, hk1⟩
  have hb := boxed2 hk1
  replace hk1 := ((Keeps.refl [] w).alloc _).trans hk1 (FSub.refl _ _)
  obtain ⟨c0, c1, hlt⟩ := cell2 hb
  have hG1 := hG.new hk1
  clear hb
  rcases hk4 with rfl | rfl | rfl | rfl
  · have hw := hG1.word 0 _ rfl
    go_wp2_with fail
    go_ret2
    exact ⟨rfl, hk1⟩
  · have hw := hG1.word 2 _ rfl
    go_wp2_with fail
    go_ret2
    exact ⟨rfl, hk1⟩
  · have hw := hG1.word 3 _ rfl
    go_wp2_with fail
    go_ret2
    exact ⟨rfl, hk1⟩
  · have hw := hG1.word 4 _ rfl
    go_wp2_with fail
    go_ret2
    exact ⟨rfl, hk1⟩
set_option maxHeartbeats 1000000 in
theorem Text_one (w : World) (hG : Glob w) (v : Int) (v0 : 0 ≤ v) (v1 : v < 65536) :
    Calls Tryz.prog 81 #[.agg #[.int .u8 1, .int .u16 v]] w fun e w' => e = .returned (.tuple #[.string (bs (rsTxt 1 v)), .int .i64 0]) ∧ Keeps [] w w' := by
  have hc := fun w => Check_any w 1 v (by omega) (by omega)
  rw [rsErr_good (show rsGood 1 v = true by simp [rsGood])] at hc
  have hl := dec_length_le 4 v.toNat (by omega)
  have hi := fun w hG => Itoa_any w hG v v0 v1
  have ha : (⟨#[118, 97, 108, 117, 101]⟩ : ByteArray) ++ ((⟨#[32]⟩ : ByteArray) ++ bs (Lib.decDigits v.toNat)) = bs (rsTxt 1 v) := by
    show bs [118, 97, 108, 117, 101] ++ (bs [32] ++ bs _) = _
    rw [bs_app, bs_app]; rfl
  have hs : (bs (Lib.decDigits v.toNat)).size ≤ 5 := hl
  rw [← ha]
  generalize bs (Lib.decDigits v.toNat) = S at *
  clear ha
  go_enter Tryz.func81, Tryz.ntmps81
  go_wp2_with fail
  refine (hc _).mono ?_; rintro e w1 ⟨rfl, hk1⟩
  have hb := boxed2 hk1
  replace hk1 := ((Keeps.refl [] w).alloc _).trans hk1 (FSub.refl _ _)
  obtain ⟨c0, c1, hlt⟩ := cell2 hb
  have hG1 := hG.new hk1
  clear hb
  have hw := hG1.word 1 (.string ⟨#[118, 97, 108, 117, 101]⟩) rfl
  go_wp2_with fail
  refine (hi _ hG1).mono ?_; rintro e w2 ⟨rfl, hk2⟩
  go_wp2_with fail
  go_ret2
  exact ⟨rfl, hk1.trans hk2 (FSub.refl _ _)⟩
theorem Text_any (w : World) (hG : Glob w) (k v : Int) (h0 : 0 ≤ k) (h1 : k < 256) (v0 : 0 ≤ v) (v1 : v < 65536) :
    Calls Tryz.prog 81 #[.agg #[.int .u8 k, .int .u16 v]] w fun e w' => e = .returned (.tuple #[.string (bs (if rsGood k v then rsTxt k v else [])), .int .i64 (rsErr k v)]) ∧ Keeps [] w w' := by
  by_cases hg : rsGood k v = true
  · rw [rsErr_good hg, if_pos hg]
    rcases good_cases h0 hg with rfl | ⟨rfl, h⟩
    · exact Text_one w hG v v0 v1
    · exact Text_word w hG k h0 (by omega) (by omega)
  · rw [rsErr_bad (by simpa using hg), if_neg hg]
    exact Text_bad w k v h0 h1 (by simpa using hg)
set_option maxHeartbeats 1000000 in
theorem r3Text_bad (w : World) (k v : Int) (h0 : 0 ≤ k) (h1 : k < 256) (hg : rsGood k v = false) :
    Calls Tryz.prog 27 #[.agg #[.int .u8 k, .int .u16 v]] w fun e w' => e = .returned (.tuple #[.string ⟨#[]⟩, .int .i64 4]) ∧ Keeps [] w w' := by
  have hc := fun w => Good_any w k v h0 h1
  rw [hg] at hc
  go_enter Tryz.func27, Tryz.ntmps27
  go_wp2_with fail
  refine (hc _).mono ?_; rintro e w1 ⟨rfl, hk1⟩
  go_wp2_with fail
  go_ret2
  exact ⟨rfl, ((Keeps.refl _ _).alloc _).trans hk1 (FSub.refl _ _)⟩
set_option maxHeartbeats 1000000 in
theorem r3Text_word (w : World) (k : Int) (h0 : 0 ≤ k) (h4 : k ≤ 4) (h1 : k ≠ 1) :
    Calls Tryz.prog 27 #[.agg #[.int .u8 k, .int .u16 0]] w fun e w' => e = .returned (.tuple #[.string (bs (rsTxt k 0)), .int .i64 0]) ∧ Keeps [] w w' := by
  have hc := fun w => Good_any w k 0 h0 (by omega)
  rw [show rsGood k 0 = true by simp [rsGood, h4]] at hc
  have hk4 : k = 0 ∨ k = 2 ∨ k = 3 ∨ k = 4 := by omega
  go_enter Tryz.func27, Tryz.ntmps27
  go_wp2_with fail
  refine (hc _).mono ?_; rintro e w1 ⟨rfl, hk1⟩
  have hb := boxed2 hk1
  replace hk1 := ((Keeps.refl [] w).alloc _).trans hk1 (FSub.refl _ _)
  obtain ⟨c0, c1, hlt⟩ := cell2 hb
  clear hb
  rcases hk4 with rfl | rfl | rfl | rfl
  all_goals
    go_wp2_with fail
    go_ret2
    exact ⟨rfl, hk1⟩
set_option maxHeartbeats 1000000 in
theorem r3Text_one (w : World) (v : Int) (v0 : 0 ≤ v) (v1 : v < 65536) :
    Calls Tryz.prog 27 #[.agg #[.int .u8 1, .int .u16 v]] w fun e w' => e = .returned (.tuple #[.string (bs (rsTxt 1 v)), .int .i64 0]) ∧ Keeps [] w w' := by
  have hc := fun w => Good_any w 1 v (by omega) (by omega)
  rw [show rsGood 1 v = true by simp [rsGood]] at hc
  have hl := dec_length_le 4 v.toNat (by omega)
  have hi := fun w => digits_any w v.toNat (by omega)
  rw [Int.toNat_of_nonneg v0] at hi
  have ha : (⟨#[118, 97, 108, 117, 101, 32]⟩ : ByteArray) ++ bs (Lib.decDigits v.toNat) = bs (rsTxt 1 v) := by
    show bs [118, 97, 108, 117, 101, 32] ++ bs _ = _
    rw [bs_app]; rfl
  have hs : (bs (Lib.decDigits v.toNat)).size ≤ 5 := hl
  rw [← ha]
  generalize bs (Lib.decDigits v.toNat) = S at *
  clear ha
  go_enter Tryz.func27, Tryz.ntmps27
  go_wp2_with fail
  refine (hc _).mono ?_; rintro e w1 ⟨rfl, hk1⟩
  have hb := boxed2 hk1
  replace hk1 := ((Keeps.refl [] w).alloc _).trans hk1 (FSub.refl _ _)
  obtain ⟨c0, c1, hlt⟩ := cell2 hb
  clear hb
  go_wp2_with fail
  refine (hi _).mono ?_; rintro e w2 ⟨rfl, hk2⟩
  go_wp2_with fail
  go_ret2
  exact ⟨rfl, hk1.trans hk2 (FSub.refl _ _)⟩
theorem r3Text_any (w : World) (k v : Int) (h0 : 0 ≤ k) (h1 : k < 256) (v0 : 0 ≤ v) (v1 : v < 65536) :
    Calls Tryz.prog 27 #[.agg #[.int .u8 k, .int .u16 v]] w fun e w' => e = .returned (.tuple #[.string (bs (if rsGood k v then rsTxt k v else [])), .int .i64 (rsErr k v)]) ∧ Keeps [] w w' := by
  by_cases hg : rsGood k v = true
  · rw [rsErr_good hg, if_pos hg]
    rcases good_cases h0 hg with rfl | ⟨rfl, h⟩
    · exact r3Text_one w v v0 v1
    · exact r3Text_word w k h0 (by omega) (by omega)
  · rw [rsErr_bad (by simpa using hg), if_neg hg]
    exact r3Text_bad w k v h0 h1 (by simpa using hg)
end Go.Proofs.YtffldnjjijckcaaGreatDoor
