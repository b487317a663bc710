/-
  Literal facts; works.
-/
import Derived.Test.YtllloahimfkmfaaDoorOv
namespace Go.Proofs.YtllloahimfkmfaaDoor
open Go.RowKit
theorem small_words {l : List (List UInt8)} (h : l.all (fun s => decide (s.length ≤ 1000)) = true) : ∀ j, (l.getD j []).length ≤ 1000 := by
  intro j
  by_cases hj : j < l.length
  · rw [List.getD_eq_getElem?_getD, List.getElem?_eq_getElem hj]
    have := List.all_eq_true.1 h _ (List.getElem_mem hj)
    simpa using this
  · rw [List.getD_eq_getElem?_getD, List.getElem?_eq_none (by omega)]; simp
theorem in_w : (⟨3, 3, 0, 2, 258⟩ : Opn).In := ⟨by decide, by decide, by decide, by decide, by decide, by decide, by decide, by decide, by decide, by decide⟩
theorem words_w : opWords ⟨3, 3, 0, 2, 258⟩ = [[51], [99, 97, 115], [50], [50, 53, 56]] := by simp [opWords, opK, opA, opB, opNm, dec, Lib.decDigits]
theorem split_w : Lib.splitB ⟨#[32]⟩ 0 (Lib.countB ⟨#[51, 32, 99, 97, 115, 32, 50, 32, 50, 53, 56]⟩ ⟨#[32]⟩) ⟨#[51, 32, 99, 97, 115, 32, 50, 32, 50, 53, 56]⟩ = ([[51], [99, 97, 115], [50], [50, 53, 56]] : List (List UInt8)).map bs := by kernel_rfl
theorem is_w (w : World) (hG : Glob4 w) : Calls Tryd.prog 23 #[.agg #[.int .u8 3, .int .u8 3, .int .u8 0, .int .u16 2, .int .u16 258], .string ⟨#[3, 3, 0, 2, 1, 2]⟩, .string ⟨#[51, 32, 99, 97, 115, 32, 50, 32, 50, 53, 56]⟩] w fun e w' => e = .returned (.bool true) ∧ Keeps [] w w' :=
  is_true w hG 3 3 0 2 258 in_w (by decide) [3, 3, 0, 2, 1, 2] (by decide) ⟨#[51, 32, 99, 97, 115, 32, 50, 32, 50, 53, 56]⟩ (by decide) [[51], [99, 97, 115], [50], [50, 53, 56]] words_w (small_words (by decide)) split_w (by decide) (by simp)
theorem bsplit_0 : Lib.splitB ⟨#[32]⟩ 0 (Lib.countB ⟨#[48, 32, 103, 101, 116, 32, 56]⟩ ⟨#[32]⟩) ⟨#[48, 32, 103, 101, 116, 32, 56]⟩ = ([[48], [103, 101, 116], [56]] : List (List UInt8)).map bs := by kernel_rfl
theorem bad4_0 : opsE [[48], [103, 101, 116], [56]] = 4 := by
  simp [opsE, opsOk, psGuess, opNamed, opNm, opGood, opIs, opK, opA, opB, opWords, dec, puOf, Lib.parseUintB, Lib.parseUintM, Lib.decDigits]
theorem un_0 (w : World) (hG : Glob4 w) : Calls Tryd.prog 25 #[.string ⟨#[48, 32, 103, 101, 116, 32, 56]⟩] w fun e w' => e = .returned (.bool true) ∧ Keeps [] w w' :=
  unparsed_true w hG ⟨#[48, 32, 103, 101, 116, 32, 56]⟩ (by decide) [[48], [103, 101, 116], [56]] bsplit_0 (small_words (by decide)) bad4_0
theorem ur_0 (w : World) (hG : Glob4 w) : Calls Tryd.prog 24 #[.string ⟨#[]⟩, .int .i64 5] w fun e w' => e = .returned (.bool true) ∧ Keeps [] w w' :=
  unread_true w hG [] 5 (by decide) (by decide) (by decide)
set_option maxHeartbeats 4000000 in
set_option maxRecDepth 100000 in
theorem works4_true (w : World) (hG : Glob4 w) : Calls Tryd.prog 8 #[] w fun e w' => e = .returned (.bool true) ∧ Keeps [] w w' := by
  go_enter Tryd.func8, Tryd.ntmps8
  go_wp2_with fail
  refine (is_w _ hG).mono ?_; rintro e w1 ⟨rfl, hk1⟩
  go_wp2_with fail
  refine (ur_0 _ (hG.new hk1)).mono ?_; rintro e w2 ⟨rfl, hk2⟩
  replace hk2 := hk1.trans hk2 (FSub.refl _ _)
  go_wp2_with fail
  refine (un_0 _ (hG.new hk2)).mono ?_; rintro e w3 ⟨rfl, hk3⟩
  replace hk3 := hk2.trans hk3 (FSub.refl _ _)
  go_wp2_with fail
  go_ret
  exact ⟨rfl, hk3⟩
end Go.Proofs.YtllloahimfkmfaaDoor
