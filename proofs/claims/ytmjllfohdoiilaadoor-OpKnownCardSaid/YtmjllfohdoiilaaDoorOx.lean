/-
  OpKnown, walked.
-/
import Derived.Test.YtmjllfohdoiilaaDoorOw
import Derived.Test.YtmjllfohdoiilaaDoorOh
namespace Go.Proofs.YtmjllfohdoiilaaDoor
open Go.RowKit
theorem in_k1 : (⟨9, 0, 7, 0, 5⟩ : Opn).In := ⟨by decide, by decide, by decide, by decide, by decide, by decide, by decide, by decide, by decide, by decide⟩
theorem words_k1 : opWords ⟨9, 0, 7, 0, 5⟩ = [[48], [115, 119, 97, 112], [55], [48], [53]] := by simp [opWords, opK, opA, opB, opNm, dec, Lib.decDigits]
theorem split_k1 : Lib.splitB ⟨#[32]⟩ 0 (Lib.countB ⟨#[48, 32, 115, 119, 97, 112, 32, 55, 32, 48, 32, 53]⟩ ⟨#[32]⟩) ⟨#[48, 32, 115, 119, 97, 112, 32, 55, 32, 48, 32, 53]⟩ = ([[48], [115, 119, 97, 112], [55], [48], [53]] : List (List UInt8)).map bs := by kernel_rfl
theorem is_k1 (w : World) (hG : Glob4 w) : Calls Tryd.prog 23 #[.agg #[.int .u8 9, .int .u8 0, .int .u8 7, .int .u16 0, .int .u16 5], .string ⟨#[9, 0, 7, 0, 0, 0, 5]⟩, .string ⟨#[48, 32, 115, 119, 97, 112, 32, 55, 32, 48, 32, 53]⟩] w fun e w' => e = .returned (.bool true) ∧ Keeps [] w w' :=
  is_true w hG 9 0 7 0 5 in_k1 (by decide) [9, 0, 7, 0, 0, 0, 5] (by decide) ⟨#[48, 32, 115, 119, 97, 112, 32, 55, 32, 48, 32, 53]⟩ (by decide) [[48], [115, 119, 97, 112], [55], [48], [53]] words_k1 (small_words (by decide)) split_k1 (by decide) (by simp)
theorem in_k2 : (⟨5, 1, 0, 0, 0⟩ : Opn).In := ⟨by decide, by decide, by decide, by decide, by decide, by decide, by decide, by decide, by decide, by decide⟩
theorem words_k2 : opWords ⟨5, 1, 0, 0, 0⟩ = [[49], [100, 101, 113]] := by simp [opWords, opK, opA, opB, opNm, dec, Lib.decDigits]
theorem split_k2 : Lib.splitB ⟨#[32]⟩ 0 (Lib.countB ⟨#[49, 32, 100, 101, 113]⟩ ⟨#[32]⟩) ⟨#[49, 32, 100, 101, 113]⟩ = ([[49], [100, 101, 113]] : List (List UInt8)).map bs := by kernel_rfl
theorem is_k2 (w : World) (hG : Glob4 w) : Calls Tryd.prog 23 #[.agg #[.int .u8 5, .int .u8 1, .int .u8 0, .int .u16 0, .int .u16 0], .string ⟨#[5, 1]⟩, .string ⟨#[49, 32, 100, 101, 113]⟩] w fun e w' => e = .returned (.bool true) ∧ Keeps [] w w' :=
  is_true w hG 5 1 0 0 0 in_k2 (by decide) [5, 1] (by decide) ⟨#[49, 32, 100, 101, 113]⟩ (by decide) [[49], [100, 101, 113]] words_k2 (small_words (by decide)) split_k2 (by decide) (by simp)
theorem in_k3 : (⟨6, 0, 7, 0, 0⟩ : Opn).In := ⟨by decide, by decide, by decide, by decide, by decide, by decide, by decide, by decide, by decide, by decide⟩
theorem words_k3 : opWords ⟨6, 0, 7, 0, 0⟩ = [[48], [103, 101, 116], [55]] := by simp [opWords, opK, opA, opB, opNm, dec, Lib.decDigits]
theorem split_k3 : Lib.splitB ⟨#[32]⟩ 0 (Lib.countB ⟨#[48, 32, 103, 101, 116, 32, 55]⟩ ⟨#[32]⟩) ⟨#[48, 32, 103, 101, 116, 32, 55]⟩ = ([[48], [103, 101, 116], [55]] : List (List UInt8)).map bs := by kernel_rfl
theorem is_k3 (w : World) (hG : Glob4 w) : Calls Tryd.prog 23 #[.agg #[.int .u8 6, .int .u8 0, .int .u8 7, .int .u16 0, .int .u16 0], .string ⟨#[6, 0, 7]⟩, .string ⟨#[48, 32, 103, 101, 116, 32, 55]⟩] w fun e w' => e = .returned (.bool true) ∧ Keeps [] w w' :=
  is_true w hG 6 0 7 0 0 in_k3 (by decide) [6, 0, 7] (by decide) ⟨#[48, 32, 103, 101, 116, 32, 55]⟩ (by decide) [[48], [103, 101, 116], [55]] words_k3 (small_words (by decide)) split_k3 (by decide) (by simp)
theorem in_k4 : (⟨7, 7, 1, 65535, 0⟩ : Opn).In := ⟨by decide, by decide, by decide, by decide, by decide, by decide, by decide, by decide, by decide, by decide⟩
theorem words_k4 : opWords ⟨7, 7, 1, 65535, 0⟩ = [[55], [112, 117, 116], [49], [54, 53, 53, 51, 53]] := by simp [opWords, opK, opA, opB, opNm, dec, Lib.decDigits]
theorem split_k4 : Lib.splitB ⟨#[32]⟩ 0 (Lib.countB ⟨#[55, 32, 112, 117, 116, 32, 49, 32, 54, 53, 53, 51, 53]⟩ ⟨#[32]⟩) ⟨#[55, 32, 112, 117, 116, 32, 49, 32, 54, 53, 53, 51, 53]⟩ = ([[55], [112, 117, 116], [49], [54, 53, 53, 51, 53]] : List (List UInt8)).map bs := by kernel_rfl
theorem is_k4 (w : World) (hG : Glob4 w) : Calls Tryd.prog 23 #[.agg #[.int .u8 7, .int .u8 7, .int .u8 1, .int .u16 65535, .int .u16 0], .string ⟨#[7, 7, 1, 255, 255]⟩, .string ⟨#[55, 32, 112, 117, 116, 32, 49, 32, 54, 53, 53, 51, 53]⟩] w fun e w' => e = .returned (.bool true) ∧ Keeps [] w w' :=
  is_true w hG 7 7 1 65535 0 in_k4 (by decide) [7, 7, 1, 255, 255] (by decide) ⟨#[55, 32, 112, 117, 116, 32, 49, 32, 54, 53, 53, 51, 53]⟩ (by decide) [[55], [112, 117, 116], [49], [54, 53, 53, 51, 53]] words_k4 (small_words (by decide)) split_k4 (by decide) (by simp)
theorem in_k5 : (⟨11, 0, 0, 0, 0⟩ : Opn).In := ⟨by decide, by decide, by decide, by decide, by decide, by decide, by decide, by decide, by decide, by decide⟩
theorem words_k5 : opWords ⟨11, 0, 0, 0, 0⟩ = [[48], [114, 101, 108, 101, 97, 115, 101]] := by simp [opWords, opK, opA, opB, opNm, dec, Lib.decDigits]
theorem split_k5 : Lib.splitB ⟨#[32]⟩ 0 (Lib.countB ⟨#[48, 32, 114, 101, 108, 101, 97, 115, 101]⟩ ⟨#[32]⟩) ⟨#[48, 32, 114, 101, 108, 101, 97, 115, 101]⟩ = ([[48], [114, 101, 108, 101, 97, 115, 101]] : List (List UInt8)).map bs := by kernel_rfl
theorem is_k5 (w : World) (hG : Glob4 w) : Calls Tryd.prog 23 #[.agg #[.int .u8 11, .int .u8 0, .int .u8 0, .int .u16 0, .int .u16 0], .string ⟨#[11, 0]⟩, .string ⟨#[48, 32, 114, 101, 108, 101, 97, 115, 101]⟩] w fun e w' => e = .returned (.bool true) ∧ Keeps [] w w' :=
  is_true w hG 11 0 0 0 0 in_k5 (by decide) [11, 0] (by decide) ⟨#[48, 32, 114, 101, 108, 101, 97, 115, 101]⟩ (by decide) [[48], [114, 101, 108, 101, 97, 115, 101]] words_k5 (small_words (by decide)) split_k5 (by decide) (by simp)
theorem bsplit_1 : Lib.splitB ⟨#[32]⟩ 0 (Lib.countB ⟨#[]⟩ ⟨#[32]⟩) ⟨#[]⟩ = ([[]] : List (List UInt8)).map bs := by kernel_rfl
theorem bad4_1 : opsE [[]] = 4 := by
  simp [opsE, opsOk, psGuess, opNamed, opNm, opGood, opIs, opK, opA, opB, opWords, dec, puOf, Lib.parseUintB, Lib.decDigits]
theorem un_1 (w : World) (hG : Glob4 w) : Calls Tryd.prog 25 #[.string ⟨#[]⟩] w fun e w' => e = .returned (.bool true) ∧ Keeps [] w w' :=
  unparsed_true w hG ⟨#[]⟩ (by decide) [[]] bsplit_1 (small_words (by decide)) bad4_1
theorem bsplit_2 : Lib.splitB ⟨#[32]⟩ 0 (Lib.countB ⟨#[48]⟩ ⟨#[32]⟩) ⟨#[48]⟩ = ([[48]] : List (List UInt8)).map bs := by kernel_rfl
theorem bad4_2 : opsE [[48]] = 4 := by
  simp [opsE, opsOk, psGuess, opNamed, opNm, opGood, opIs, opK, opA, opB, opWords, dec, puOf, Lib.parseUintB, Lib.parseUintM, Lib.decDigits]
theorem un_2 (w : World) (hG : Glob4 w) : Calls Tryd.prog 25 #[.string ⟨#[48]⟩] w fun e w' => e = .returned (.bool true) ∧ Keeps [] w w' :=
  unparsed_true w hG ⟨#[48]⟩ (by decide) [[48]] bsplit_2 (small_words (by decide)) bad4_2
theorem bsplit_3 : Lib.splitB ⟨#[32]⟩ 0 (Lib.countB ⟨#[48, 32, 103, 101, 116]⟩ ⟨#[32]⟩) ⟨#[48, 32, 103, 101, 116]⟩ = ([[48], [103, 101, 116]] : List (List UInt8)).map bs := by kernel_rfl
theorem bad4_3 : opsE [[48], [103, 101, 116]] = 4 := by
  simp [opsE, opsOk, psGuess, opNamed, opNm, opGood, opIs, opK, opA, opB, opWords, dec, puOf, Lib.parseUintB, Lib.parseUintM, Lib.decDigits]
theorem un_3 (w : World) (hG : Glob4 w) : Calls Tryd.prog 25 #[.string ⟨#[48, 32, 103, 101, 116]⟩] w fun e w' => e = .returned (.bool true) ∧ Keeps [] w w' :=
  unparsed_true w hG ⟨#[48, 32, 103, 101, 116]⟩ (by decide) [[48], [103, 101, 116]] bsplit_3 (small_words (by decide)) bad4_3
theorem bsplit_4 : Lib.splitB ⟨#[32]⟩ 0 (Lib.countB ⟨#[48, 48, 32, 114, 101, 97, 100]⟩ ⟨#[32]⟩) ⟨#[48, 48, 32, 114, 101, 97, 100]⟩ = ([[48, 48], [114, 101, 97, 100]] : List (List UInt8)).map bs := by kernel_rfl
theorem bad4_4 : opsE [[48, 48], [114, 101, 97, 100]] = 4 := by
  simp [opsE, opsOk, psGuess, opNamed, opNm, opGood, opIs, opK, opA, opB, opWords, dec, puOf, Lib.parseUintB, Lib.parseUintM, Lib.decDigits]
theorem un_4 (w : World) (hG : Glob4 w) : Calls Tryd.prog 25 #[.string ⟨#[48, 48, 32, 114, 101, 97, 100]⟩] w fun e w' => e = .returned (.bool true) ∧ Keeps [] w w' :=
  unparsed_true w hG ⟨#[48, 48, 32, 114, 101, 97, 100]⟩ (by decide) [[48, 48], [114, 101, 97, 100]] bsplit_4 (small_words (by decide)) bad4_4
theorem bsplit_5 : Lib.splitB ⟨#[32]⟩ 0 (Lib.countB ⟨#[48, 32, 119, 114, 105, 116, 101, 32, 54, 53, 53, 51, 54]⟩ ⟨#[32]⟩) ⟨#[48, 32, 119, 114, 105, 116, 101, 32, 54, 53, 53, 51, 54]⟩ = ([[48], [119, 114, 105, 116, 101], [54, 53, 53, 51, 54]] : List (List UInt8)).map bs := by kernel_rfl
theorem bad4_5 : opsE [[48], [119, 114, 105, 116, 101], [54, 53, 53, 51, 54]] = 4 := by
  simp [opsE, opsOk, psGuess, opNamed, opNm, opGood, opIs, opK, opA, opB, opWA, opWords, dec, puOf, Lib.parseUintB, Lib.parseUintM, Lib.decDigits]
theorem un_5 (w : World) (hG : Glob4 w) : Calls Tryd.prog 25 #[.string ⟨#[48, 32, 119, 114, 105, 116, 101, 32, 54, 53, 53, 51, 54]⟩] w fun e w' => e = .returned (.bool true) ∧ Keeps [] w w' :=
  unparsed_true w hG ⟨#[48, 32, 119, 114, 105, 116, 101, 32, 54, 53, 53, 51, 54]⟩ (by decide) [[48], [119, 114, 105, 116, 101], [54, 53, 53, 51, 54]] bsplit_5 (small_words (by decide)) bad4_5
theorem bsplit_6 : Lib.splitB ⟨#[32]⟩ 0 (Lib.countB ⟨#[48, 32, 82, 101, 97, 100]⟩ ⟨#[32]⟩) ⟨#[48, 32, 82, 101, 97, 100]⟩ = ([[48], [82, 101, 97, 100]] : List (List UInt8)).map bs := by kernel_rfl
theorem bad4_6 : opsE [[48], [82, 101, 97, 100]] = 4 := by
  simp [opsE, opsOk, psGuess, opNamed, opNm, opGood, opIs, opK, opA, opB, opWords, dec, puOf, Lib.parseUintB, Lib.parseUintM, Lib.decDigits]
theorem un_6 (w : World) (hG : Glob4 w) : Calls Tryd.prog 25 #[.string ⟨#[48, 32, 82, 101, 97, 100]⟩] w fun e w' => e = .returned (.bool true) ∧ Keeps [] w w' :=
  unparsed_true w hG ⟨#[48, 32, 82, 101, 97, 100]⟩ (by decide) [[48], [82, 101, 97, 100]] bsplit_6 (small_words (by decide)) bad4_6
theorem bsplit_7 : Lib.splitB ⟨#[32]⟩ 0 (Lib.countB ⟨#[56, 32, 114, 101, 97, 100]⟩ ⟨#[32]⟩) ⟨#[56, 32, 114, 101, 97, 100]⟩ = ([[56], [114, 101, 97, 100]] : List (List UInt8)).map bs := by kernel_rfl
theorem bad4_7 : opsE [[56], [114, 101, 97, 100]] = 4 := by
  simp [opsE, opsOk, psGuess, opNamed, opNm, opGood, opIs, opK, opA, opB, opWords, dec, puOf, Lib.parseUintB, Lib.parseUintM, Lib.decDigits]
theorem un_7 (w : World) (hG : Glob4 w) : Calls Tryd.prog 25 #[.string ⟨#[56, 32, 114, 101, 97, 100]⟩] w fun e w' => e = .returned (.bool true) ∧ Keeps [] w w' :=
  unparsed_true w hG ⟨#[56, 32, 114, 101, 97, 100]⟩ (by decide) [[56], [114, 101, 97, 100]] bsplit_7 (small_words (by decide)) bad4_7
theorem bsplit_8 : Lib.splitB ⟨#[32]⟩ 0 (Lib.countB ⟨#[48, 32, 114, 101, 97, 100, 32, 49]⟩ ⟨#[32]⟩) ⟨#[48, 32, 114, 101, 97, 100, 32, 49]⟩ = ([[48], [114, 101, 97, 100], [49]] : List (List UInt8)).map bs := by kernel_rfl
theorem bad4_8 : opsE [[48], [114, 101, 97, 100], [49]] = 4 := by
  simp [opsE, opsOk, psGuess, opNamed, opNm, opGood, opIs, opK, opA, opB, opWords, dec, puOf, Lib.parseUintB, Lib.parseUintM, Lib.decDigits]
theorem un_8 (w : World) (hG : Glob4 w) : Calls Tryd.prog 25 #[.string ⟨#[48, 32, 114, 101, 97, 100, 32, 49]⟩] w fun e w' => e = .returned (.bool true) ∧ Keeps [] w w' :=
  unparsed_true w hG ⟨#[48, 32, 114, 101, 97, 100, 32, 49]⟩ (by decide) [[48], [114, 101, 97, 100], [49]] bsplit_8 (small_words (by decide)) bad4_8
theorem bsplit_9 : Lib.splitB ⟨#[32]⟩ 0 (Lib.countB ⟨#[48, 32, 119, 114, 105, 116, 101]⟩ ⟨#[32]⟩) ⟨#[48, 32, 119, 114, 105, 116, 101]⟩ = ([[48], [119, 114, 105, 116, 101]] : List (List UInt8)).map bs := by kernel_rfl
theorem bad4_9 : opsE [[48], [119, 114, 105, 116, 101]] = 4 := by
  simp [opsE, opsOk, psGuess, opNamed, opNm, opGood, opIs, opK, opA, opB, opWA, opWords, dec, puOf, Lib.parseUintB, Lib.parseUintM, Lib.decDigits]
theorem un_9 (w : World) (hG : Glob4 w) : Calls Tryd.prog 25 #[.string ⟨#[48, 32, 119, 114, 105, 116, 101]⟩] w fun e w' => e = .returned (.bool true) ∧ Keeps [] w w' :=
  unparsed_true w hG ⟨#[48, 32, 119, 114, 105, 116, 101]⟩ (by decide) [[48], [119, 114, 105, 116, 101]] bsplit_9 (small_words (by decide)) bad4_9
theorem bsplit_10 : Lib.splitB ⟨#[32]⟩ 0 (Lib.countB ⟨#[48, 32, 119, 114, 105, 116, 101, 32, 48, 49]⟩ ⟨#[32]⟩) ⟨#[48, 32, 119, 114, 105, 116, 101, 32, 48, 49]⟩ = ([[48], [119, 114, 105, 116, 101], [48, 49]] : List (List UInt8)).map bs := by kernel_rfl
theorem bad4_10 : opsE [[48], [119, 114, 105, 116, 101], [48, 49]] = 4 := by
  simp [opsE, opsOk, psGuess, opNamed, opNm, opGood, opIs, opK, opA, opB, opWA, opWords, dec, puOf, Lib.parseUintB, Lib.parseUintM, Lib.decDigits]
theorem un_10 (w : World) (hG : Glob4 w) : Calls Tryd.prog 25 #[.string ⟨#[48, 32, 119, 114, 105, 116, 101, 32, 48, 49]⟩] w fun e w' => e = .returned (.bool true) ∧ Keeps [] w w' :=
  unparsed_true w hG ⟨#[48, 32, 119, 114, 105, 116, 101, 32, 48, 49]⟩ (by decide) [[48], [119, 114, 105, 116, 101], [48, 49]] bsplit_10 (small_words (by decide)) bad4_10
theorem bsplit_11 : Lib.splitB ⟨#[32]⟩ 0 (Lib.countB ⟨#[48, 32, 119, 114, 105, 116, 101, 32, 45, 49]⟩ ⟨#[32]⟩) ⟨#[48, 32, 119, 114, 105, 116, 101, 32, 45, 49]⟩ = ([[48], [119, 114, 105, 116, 101], [45, 49]] : List (List UInt8)).map bs := by kernel_rfl
theorem bad4_11 : opsE [[48], [119, 114, 105, 116, 101], [45, 49]] = 4 := by
  simp [opsE, opsOk, psGuess, opNamed, opNm, opGood, opIs, opK, opA, opB, opWA, opWords, dec, puOf, Lib.parseUintB, Lib.parseUintM, Lib.decDigits]
theorem un_11 (w : World) (hG : Glob4 w) : Calls Tryd.prog 25 #[.string ⟨#[48, 32, 119, 114, 105, 116, 101, 32, 45, 49]⟩] w fun e w' => e = .returned (.bool true) ∧ Keeps [] w w' :=
  unparsed_true w hG ⟨#[48, 32, 119, 114, 105, 116, 101, 32, 45, 49]⟩ (by decide) [[48], [119, 114, 105, 116, 101], [45, 49]] bsplit_11 (small_words (by decide)) bad4_11
theorem bsplit_12 : Lib.splitB ⟨#[32]⟩ 0 (Lib.countB ⟨#[48, 32, 119, 114, 105, 116, 101, 32, 43, 49]⟩ ⟨#[32]⟩) ⟨#[48, 32, 119, 114, 105, 116, 101, 32, 43, 49]⟩ = ([[48], [119, 114, 105, 116, 101], [43, 49]] : List (List UInt8)).map bs := by kernel_rfl
theorem bad4_12 : opsE [[48], [119, 114, 105, 116, 101], [43, 49]] = 4 := by
  simp [opsE, opsOk, psGuess, opNamed, opNm, opGood, opIs, opK, opA, opB, opWA, opWords, dec, puOf, Lib.parseUintB, Lib.parseUintM, Lib.decDigits]
theorem un_12 (w : World) (hG : Glob4 w) : Calls Tryd.prog 25 #[.string ⟨#[48, 32, 119, 114, 105, 116, 101, 32, 43, 49]⟩] w fun e w' => e = .returned (.bool true) ∧ Keeps [] w w' :=
  unparsed_true w hG ⟨#[48, 32, 119, 114, 105, 116, 101, 32, 43, 49]⟩ (by decide) [[48], [119, 114, 105, 116, 101], [43, 49]] bsplit_12 (small_words (by decide)) bad4_12
theorem bsplit_13 : Lib.splitB ⟨#[32]⟩ 0 (Lib.countB ⟨#[120, 32, 114, 101, 97, 100]⟩ ⟨#[32]⟩) ⟨#[120, 32, 114, 101, 97, 100]⟩ = ([[120], [114, 101, 97, 100]] : List (List UInt8)).map bs := by kernel_rfl
theorem bad4_13 : opsE [[120], [114, 101, 97, 100]] = 4 := by
  simp [opsE, opsOk, psGuess, opNamed, opNm, opGood, opIs, opK, opA, opB, opWords, dec, puOf, Lib.parseUintB, Lib.parseUintM, Lib.decDigits]
theorem un_13 (w : World) (hG : Glob4 w) : Calls Tryd.prog 25 #[.string ⟨#[120, 32, 114, 101, 97, 100]⟩] w fun e w' => e = .returned (.bool true) ∧ Keeps [] w w' :=
  unparsed_true w hG ⟨#[120, 32, 114, 101, 97, 100]⟩ (by decide) [[120], [114, 101, 97, 100]] bsplit_13 (small_words (by decide)) bad4_13
theorem bsplit_14 : Lib.splitB ⟨#[32]⟩ 0 (Lib.countB ⟨#[48, 32, 99, 97, 115, 32, 49]⟩ ⟨#[32]⟩) ⟨#[48, 32, 99, 97, 115, 32, 49]⟩ = ([[48], [99, 97, 115], [49]] : List (List UInt8)).map bs := by kernel_rfl
theorem bad4_14 : opsE [[48], [99, 97, 115], [49]] = 4 := by
  simp [opsE, opsOk, psGuess, opNamed, opNm, opGood, opIs, opK, opA, opB, opWA, opWB, opWords, dec, puOf, Lib.parseUintB, Lib.parseUintM, Lib.decDigits]
theorem un_14 (w : World) (hG : Glob4 w) : Calls Tryd.prog 25 #[.string ⟨#[48, 32, 99, 97, 115, 32, 49]⟩] w fun e w' => e = .returned (.bool true) ∧ Keeps [] w w' :=
  unparsed_true w hG ⟨#[48, 32, 99, 97, 115, 32, 49]⟩ (by decide) [[48], [99, 97, 115], [49]] bsplit_14 (small_words (by decide)) bad4_14
theorem bsplit_15 : Lib.splitB ⟨#[32]⟩ 0 (Lib.countB ⟨#[48, 32, 32, 114, 101, 97, 100]⟩ ⟨#[32]⟩) ⟨#[48, 32, 32, 114, 101, 97, 100]⟩ = ([[48], [], [114, 101, 97, 100]] : List (List UInt8)).map bs := by kernel_rfl
theorem bad4_15 : opsE [[48], [], [114, 101, 97, 100]] = 4 := by
  simp [opsE, opsOk, psGuess, opNamed, opNm, opGood, opIs, opK, opA, opB, opWords, dec, puOf, Lib.parseUintB, Lib.parseUintM, Lib.decDigits]
theorem un_15 (w : World) (hG : Glob4 w) : Calls Tryd.prog 25 #[.string ⟨#[48, 32, 32, 114, 101, 97, 100]⟩] w fun e w' => e = .returned (.bool true) ∧ Keeps [] w w' :=
  unparsed_true w hG ⟨#[48, 32, 32, 114, 101, 97, 100]⟩ (by decide) [[48], [], [114, 101, 97, 100]] bsplit_15 (small_words (by decide)) bad4_15
theorem bsplit_16 : Lib.splitB ⟨#[32]⟩ 0 (Lib.countB ⟨#[48, 32]⟩ ⟨#[32]⟩) ⟨#[48, 32]⟩ = ([[48], []] : List (List UInt8)).map bs := by kernel_rfl
theorem bad4_16 : opsE [[48], []] = 4 := by
  simp [opsE, opsOk, psGuess, opNamed, opNm, opGood, opIs, opK, opA, opB, opWords, dec, puOf, Lib.parseUintB, Lib.parseUintM, Lib.decDigits]
theorem un_16 (w : World) (hG : Glob4 w) : Calls Tryd.prog 25 #[.string ⟨#[48, 32]⟩] w fun e w' => e = .returned (.bool true) ∧ Keeps [] w w' :=
  unparsed_true w hG ⟨#[48, 32]⟩ (by decide) [[48], []] bsplit_16 (small_words (by decide)) bad4_16
theorem ur_1 (w : World) (hG : Glob4 w) : Calls Tryd.prog 24 #[.string ⟨#[12]⟩, .int .i64 4] w fun e w' => e = .returned (.bool true) ∧ Keeps [] w w' :=
  unread_true w hG [12] 4 (by decide) (by decide) (by decide)
theorem ur_2 (w : World) (hG : Glob4 w) : Calls Tryd.prog 24 #[.string ⟨#[0, 0]⟩, .int .i64 4] w fun e w' => e = .returned (.bool true) ∧ Keeps [] w w' :=
  unread_true w hG [0, 0] 4 (by decide) (by decide) (by decide)
theorem ur_3 (w : World) (hG : Glob4 w) : Calls Tryd.prog 24 #[.string ⟨#[3, 3, 0]⟩, .int .i64 5] w fun e w' => e = .returned (.bool true) ∧ Keeps [] w w' :=
  unread_true w hG [3, 3, 0] 5 (by decide) (by decide) (by decide)
theorem ur_4 (w : World) (hG : Glob4 w) : Calls Tryd.prog 24 #[.string ⟨#[1]⟩, .int .i64 5] w fun e w' => e = .returned (.bool true) ∧ Keeps [] w w' :=
  unread_true w hG [1] 5 (by decide) (by decide) (by decide)
theorem ur_5 (w : World) (hG : Glob4 w) : Calls Tryd.prog 24 #[.string ⟨#[1, 8]⟩, .int .i64 4] w fun e w' => e = .returned (.bool true) ∧ Keeps [] w w' :=
  unread_true w hG [1, 8] 4 (by decide) (by decide) (by decide)
theorem ur_6 (w : World) (hG : Glob4 w) : Calls Tryd.prog 24 #[.string ⟨#[6, 0, 8]⟩, .int .i64 4] w fun e w' => e = .returned (.bool true) ∧ Keeps [] w w' :=
  unread_true w hG [6, 0, 8] 4 (by decide) (by decide) (by decide)
theorem ur_7 (w : World) (hG : Glob4 w) : Calls Tryd.prog 24 #[.string ⟨#[255]⟩, .int .i64 4] w fun e w' => e = .returned (.bool true) ∧ Keeps [] w w' :=
  unread_true w hG [255] 4 (by decide) (by decide) (by decide)
def badS (k : Nat) : ByteArray := [(⟨#[]⟩ : ByteArray), (⟨#[48]⟩ : ByteArray), (⟨#[48, 32, 103, 101, 116]⟩ : ByteArray), (⟨#[48, 48, 32, 114, 101, 97, 100]⟩ : ByteArray), (⟨#[48, 32, 119, 114, 105, 116, 101, 32, 54, 53, 53, 51, 54]⟩ : ByteArray), (⟨#[48, 32, 82, 101, 97, 100]⟩ : ByteArray), (⟨#[56, 32, 114, 101, 97, 100]⟩ : ByteArray), (⟨#[48, 32, 114, 101, 97, 100, 32, 49]⟩ : ByteArray), (⟨#[48, 32, 119, 114, 105, 116, 101]⟩ : ByteArray), (⟨#[48, 32, 119, 114, 105, 116, 101, 32, 48, 49]⟩ : ByteArray), (⟨#[48, 32, 119, 114, 105, 116, 101, 32, 45, 49]⟩ : ByteArray), (⟨#[48, 32, 119, 114, 105, 116, 101, 32, 43, 49]⟩ : ByteArray), (⟨#[120, 32, 114, 101, 97, 100]⟩ : ByteArray), (⟨#[48, 32, 99, 97, 115, 32, 49]⟩ : ByteArray), (⟨#[48, 32, 32, 114, 101, 97, 100]⟩ : ByteArray), (⟨#[48, 32]⟩ : ByteArray)].getD k ⟨#[]⟩
theorem unb (w : World) (hG : Glob4 w) (k : Nat) (hk : k < 16) : Calls Tryd.prog 25 #[.string (badS k)] w fun e w' => e = .returned (.bool true) ∧ Keeps [] w w' := by
  rcases (by omega : k = 0 ∨ k = 1 ∨ k = 2 ∨ k = 3 ∨ k = 4 ∨ k = 5 ∨ k = 6 ∨ k = 7 ∨ k = 8 ∨ k = 9 ∨ k = 10 ∨ k = 11 ∨ k = 12 ∨ k = 13 ∨ k = 14 ∨ k = 15) with rfl | rfl | rfl | rfl | rfl | rfl | rfl | rfl | rfl | rfl | rfl | rfl | rfl | rfl | rfl | rfl
  · exact un_1 w hG
  · exact un_2 w hG
  · exact un_3 w hG
  · exact un_4 w hG
  · exact un_5 w hG
  · exact un_6 w hG
  · exact un_7 w hG
  · exact un_8 w hG
  · exact un_9 w hG
  · exact un_10 w hG
  · exact un_11 w hG
  · exact un_12 w hG
  · exact un_13 w hG
  · exact un_14 w hG
  · exact un_15 w hG
  · exact un_16 w hG
theorem bad_cell {w : World} {B : Nat} {t : TypeId} {fr : Nat × Nat} (h : w.heap[B]? = some (.cells #[.string ⟨#[]⟩, .string ⟨#[48]⟩, .string ⟨#[48, 32, 103, 101, 116]⟩, .string ⟨#[48, 48, 32, 114, 101, 97, 100]⟩, .string ⟨#[48, 32, 119, 114, 105, 116, 101, 32, 54, 53, 53, 51, 54]⟩, .string ⟨#[48, 32, 82, 101, 97, 100]⟩, .string ⟨#[56, 32, 114, 101, 97, 100]⟩, .string ⟨#[48, 32, 114, 101, 97, 100, 32, 49]⟩, .string ⟨#[48, 32, 119, 114, 105, 116, 101]⟩, .string ⟨#[48, 32, 119, 114, 105, 116, 101, 32, 48, 49]⟩, .string ⟨#[48, 32, 119, 114, 105, 116, 101, 32, 45, 49]⟩, .string ⟨#[48, 32, 119, 114, 105, 116, 101, 32, 43, 49]⟩, .string ⟨#[120, 32, 114, 101, 97, 100]⟩, .string ⟨#[48, 32, 99, 97, 115, 32, 49]⟩, .string ⟨#[48, 32, 32, 114, 101, 97, 100]⟩, .string ⟨#[48, 32]⟩] t fr)) (k : Nat) (hk : k < 16) : w.cell? ⟨B, k, none⟩ = some (.string (badS k)) := by
  rcases (by omega : k = 0 ∨ k = 1 ∨ k = 2 ∨ k = 3 ∨ k = 4 ∨ k = 5 ∨ k = 6 ∨ k = 7 ∨ k = 8 ∨ k = 9 ∨ k = 10 ∨ k = 11 ∨ k = 12 ∨ k = 13 ∨ k = 14 ∨ k = 15) with rfl | rfl | rfl | rfl | rfl | rfl | rfl | rfl | rfl | rfl | rfl | rfl | rfl | rfl | rfl | rfl <;> simp [World.cell?, h, badS]
theorem m_0 (w : World) (hG : Glob4 w) : Calls Tryd.prog 8 #[.int .u8 0] w fun e w' => e = .returned (.tuple #[.int .u8 0, .bool false]) ∧ Keeps [] w w' := Model_any w hG 0 (by decide) (by decide)
theorem m_11 (w : World) (hG : Glob4 w) : Calls Tryd.prog 8 #[.int .u8 11] w fun e w' => e = .returned (.tuple #[.int .u8 3, .bool true]) ∧ Keeps [] w w' := Model_any w hG 11 (by decide) (by decide)
theorem chk_0 (w : World) (hG : Glob4 w) : Calls Tryd.prog 12 #[.int .u8 0, .agg #[.int .u8 1, .int .u8 0, .int .u8 0, .int .u16 0, .int .u16 0]] w fun e w' => e = .returned (.int .i64 0) ∧ Keeps [] w w' :=
  Check4_any w hG 0 1 0 0 0 0 (by decide) (by decide) ⟨by decide, by decide, by decide, by decide, by decide, by decide, by decide, by decide, by decide, by decide⟩
theorem chk_1 (w : World) (hG : Glob4 w) : Calls Tryd.prog 12 #[.int .u8 1, .agg #[.int .u8 1, .int .u8 0, .int .u8 0, .int .u16 0, .int .u16 0]] w fun e w' => e = .returned (.int .i64 10) ∧ Keeps [] w w' :=
  Check4_any w hG 1 1 0 0 0 0 (by decide) (by decide) ⟨by decide, by decide, by decide, by decide, by decide, by decide, by decide, by decide, by decide, by decide⟩
theorem chk_2 (w : World) (hG : Glob4 w) : Calls Tryd.prog 12 #[.int .u8 0, .agg #[.int .u8 1, .int .u8 0, .int .u8 0, .int .u16 1, .int .u16 0]] w fun e w' => e = .returned (.int .i64 10) ∧ Keeps [] w w' :=
  Check4_any w hG 0 1 0 0 1 0 (by decide) (by decide) ⟨by decide, by decide, by decide, by decide, by decide, by decide, by decide, by decide, by decide, by decide⟩
theorem chk_3 (w : World) (hG : Glob4 w) : Calls Tryd.prog 12 #[.int .u8 4, .agg #[.int .u8 1, .int .u8 0, .int .u8 0, .int .u16 0, .int .u16 0]] w fun e w' => e = .returned (.int .i64 10) ∧ Keeps [] w w' :=
  Check4_any w hG 4 1 0 0 0 0 (by decide) (by decide) ⟨by decide, by decide, by decide, by decide, by decide, by decide, by decide, by decide, by decide, by decide⟩
theorem chk_4 (w : World) (hG : Glob4 w) : Calls Tryd.prog 12 #[.int .u8 0, .agg #[.int .u8 0, .int .u8 0, .int .u8 0, .int .u16 0, .int .u16 0]] w fun e w' => e = .returned (.int .i64 10) ∧ Keeps [] w w' :=
  Check4_any w hG 0 0 0 0 0 0 (by decide) (by decide) ⟨by decide, by decide, by decide, by decide, by decide, by decide, by decide, by decide, by decide, by decide⟩
set_option maxHeartbeats 8000000 in
set_option maxRecDepth 100000 in
theorem known4_true (w : World) (hG : Glob4 w) : Calls Tryd.prog 7 #[] w fun e w' => e = .returned (.bool true) ∧ Keeps [] w w' := by
  go_enter Tryd.func7, Tryd.ntmps7
  go_wp2_with fail
  refine (works4_true _ hG).mono ?_; rintro e w1 ⟨rfl, hk1⟩
  go_wp2_with fail
  refine (is_k1 _ (hG.new hk1)).mono ?_; rintro e w2 ⟨rfl, hk2⟩
  replace hk2 := hk1.trans hk2 (FSub.refl _ _)
  go_wp2_with fail
  refine (is_k2 _ (hG.new hk2)).mono ?_; rintro e w3 ⟨rfl, hk3⟩
  replace hk3 := hk2.trans hk3 (FSub.refl _ _)
  go_wp2_with fail
  refine (is_k3 _ (hG.new hk3)).mono ?_; rintro e w4 ⟨rfl, hk4⟩
  replace hk4 := hk3.trans hk4 (FSub.refl _ _)
  go_wp2_with fail
  refine (is_k4 _ (hG.new hk4)).mono ?_; rintro e w5 ⟨rfl, hk5⟩
  replace hk5 := hk4.trans hk5 (FSub.refl _ _)
  go_wp2_with fail
  refine (is_k5 _ (hG.new hk5)).mono ?_; rintro e w6 ⟨rfl, hk6⟩
  replace hk6 := hk5.trans hk6 (FSub.refl _ _)
  go_wp2_with fail
  refine (ur_1 _ (hG.new hk6)).mono ?_; rintro e w7 ⟨rfl, hk7⟩
  replace hk7 := hk6.trans hk7 (FSub.refl _ _)
  go_wp2_with fail
  refine (ur_2 _ (hG.new hk7)).mono ?_; rintro e w8 ⟨rfl, hk8⟩
  replace hk8 := hk7.trans hk8 (FSub.refl _ _)
  go_wp2_with fail
  refine (ur_3 _ (hG.new hk8)).mono ?_; rintro e w9 ⟨rfl, hk9⟩
  replace hk9 := hk8.trans hk9 (FSub.refl _ _)
  go_wp2_with fail
  refine (ur_4 _ (hG.new hk9)).mono ?_; rintro e w10 ⟨rfl, hk10⟩
  replace hk10 := hk9.trans hk10 (FSub.refl _ _)
  go_wp2_with fail
  refine (ur_5 _ (hG.new hk10)).mono ?_; rintro e w11 ⟨rfl, hk11⟩
  replace hk11 := hk10.trans hk11 (FSub.refl _ _)
  go_wp2_with fail
  refine (ur_6 _ (hG.new hk11)).mono ?_; rintro e w12 ⟨rfl, hk12⟩
  replace hk12 := hk11.trans hk12 (FSub.refl _ _)
  go_wp2_with fail
  refine (ur_7 _ (hG.new hk12)).mono ?_; rintro e w13 ⟨rfl, hk13⟩
  replace hk13 := hk12.trans hk13 (FSub.refl _ _)
  go_wp2_with fail
  have hB := heap_alloc_new w13 (.cells #[.string ⟨#[]⟩, .string ⟨#[48]⟩, .string ⟨#[48, 32, 103, 101, 116]⟩, .string ⟨#[48, 48, 32, 114, 101, 97, 100]⟩, .string ⟨#[48, 32, 119, 114, 105, 116, 101, 32, 54, 53, 53, 51, 54]⟩, .string ⟨#[48, 32, 82, 101, 97, 100]⟩, .string ⟨#[56, 32, 114, 101, 97, 100]⟩, .string ⟨#[48, 32, 114, 101, 97, 100, 32, 49]⟩, .string ⟨#[48, 32, 119, 114, 105, 116, 101]⟩, .string ⟨#[48, 32, 119, 114, 105, 116, 101, 32, 48, 49]⟩, .string ⟨#[48, 32, 119, 114, 105, 116, 101, 32, 45, 49]⟩, .string ⟨#[48, 32, 119, 114, 105, 116, 101, 32, 43, 49]⟩, .string ⟨#[120, 32, 114, 101, 97, 100]⟩, .string ⟨#[48, 32, 99, 97, 115, 32, 49]⟩, .string ⟨#[48, 32, 32, 114, 101, 97, 100]⟩, .string ⟨#[48, 32]⟩] 9)
  have hK := hk13.alloc (.cells #[.string ⟨#[]⟩, .string ⟨#[48]⟩, .string ⟨#[48, 32, 103, 101, 116]⟩, .string ⟨#[48, 48, 32, 114, 101, 97, 100]⟩, .string ⟨#[48, 32, 119, 114, 105, 116, 101, 32, 54, 53, 53, 51, 54]⟩, .string ⟨#[48, 32, 82, 101, 97, 100]⟩, .string ⟨#[56, 32, 114, 101, 97, 100]⟩, .string ⟨#[48, 32, 114, 101, 97, 100, 32, 49]⟩, .string ⟨#[48, 32, 119, 114, 105, 116, 101]⟩, .string ⟨#[48, 32, 119, 114, 105, 116, 101, 32, 48, 49]⟩, .string ⟨#[48, 32, 119, 114, 105, 116, 101, 32, 45, 49]⟩, .string ⟨#[48, 32, 119, 114, 105, 116, 101, 32, 43, 49]⟩, .string ⟨#[120, 32, 114, 101, 97, 100]⟩, .string ⟨#[48, 32, 99, 97, 115, 32, 49]⟩, .string ⟨#[48, 32, 32, 114, 101, 97, 100]⟩, .string ⟨#[48, 32]⟩] 9)
  have HB := Lib.hid hB; have HK := Lib.hid hK
  clear hB hK
  generalize w13.alloc (.cells #[.string ⟨#[]⟩, .string ⟨#[48]⟩, .string ⟨#[48, 32, 103, 101, 116]⟩, .string ⟨#[48, 48, 32, 114, 101, 97, 100]⟩, .string ⟨#[48, 32, 119, 114, 105, 116, 101, 32, 54, 53, 53, 51, 54]⟩, .string ⟨#[48, 32, 82, 101, 97, 100]⟩, .string ⟨#[56, 32, 114, 101, 97, 100]⟩, .string ⟨#[48, 32, 114, 101, 97, 100, 32, 49]⟩, .string ⟨#[48, 32, 119, 114, 105, 116, 101]⟩, .string ⟨#[48, 32, 119, 114, 105, 116, 101, 32, 48, 49]⟩, .string ⟨#[48, 32, 119, 114, 105, 116, 101, 32, 45, 49]⟩, .string ⟨#[48, 32, 119, 114, 105, 116, 101, 32, 43, 49]⟩, .string ⟨#[120, 32, 114, 101, 97, 100]⟩, .string ⟨#[48, 32, 99, 97, 115, 32, 49]⟩, .string ⟨#[48, 32, 32, 114, 101, 97, 100]⟩, .string ⟨#[48, 32]⟩] 9) = W0 at *
  generalize w13.heap.size = B at *
  clear hk1 hk2 hk3 hk4 hk5 hk6 hk7 hk8 hk9 hk10 hk11 hk12 hk13
  go_loopw [2] (fun i wr => ∃ k : Nat, k ≤ 16 ∧ i = .int .i64 k ∧ wr.heap[B]? = some (.cells #[.string ⟨#[]⟩, .string ⟨#[48]⟩, .string ⟨#[48, 32, 103, 101, 116]⟩, .string ⟨#[48, 48, 32, 114, 101, 97, 100]⟩, .string ⟨#[48, 32, 119, 114, 105, 116, 101, 32, 54, 53, 53, 51, 54]⟩, .string ⟨#[48, 32, 82, 101, 97, 100]⟩, .string ⟨#[56, 32, 114, 101, 97, 100]⟩, .string ⟨#[48, 32, 114, 101, 97, 100, 32, 49]⟩, .string ⟨#[48, 32, 119, 114, 105, 116, 101]⟩, .string ⟨#[48, 32, 119, 114, 105, 116, 101, 32, 48, 49]⟩, .string ⟨#[48, 32, 119, 114, 105, 116, 101, 32, 45, 49]⟩, .string ⟨#[48, 32, 119, 114, 105, 116, 101, 32, 43, 49]⟩, .string ⟨#[120, 32, 114, 101, 97, 100]⟩, .string ⟨#[48, 32, 99, 97, 115, 32, 49]⟩, .string ⟨#[48, 32, 32, 114, 101, 97, 100]⟩, .string ⟨#[48, 32]⟩] 9 (0, 0)) ∧ Keeps [] w wr) (fun i _ => 16 - (intOf i).toNat)
  case atStart => exact ⟨0, by omega, rfl, HB.out, HK.out⟩
  case round =>
    obtain ⟨k, hk, rfl, hb, hkp⟩ := hrel
    have HB2 := Lib.hid hb
    by_cases hlt : k < 16
    · have hc := bad_cell hb k hlt
      have hu := fun w hG => unb w hG k hlt
      clear hb
      generalize badS k = S at *
      go_wp2_with fail
      refine (hu _ (hG.new hkp)).mono ?_; rintro e w2 ⟨rfl, hk2⟩
      have hb2 := hk2.heap HB2.out (by simp)
      have hkk := hkp.trans hk2 (FSub.refl _ _)
      have HB3 := Lib.hid hb2
      clear hb2 hu hc HB2
      go_wp2_with fail
      go_roundw
      case rel => exact ⟨k + 1, by omega, by go_num, HB3.out, hkk⟩
      case measure => simp [intOf]; omega
    · obtain rfl : k = 16 := by omega
      clear hb HB2 HB HK
      go_wp2_with fail
      refine (m_0 _ (hG.new hkp)).mono ?_; rintro e w2 ⟨rfl, hk2⟩
      replace hk2 := hkp.trans hk2 (FSub.refl _ _)
      go_wp2_with fail
      refine (m_11 _ (hG.new hk2)).mono ?_; rintro e w3 ⟨rfl, hk3⟩
      replace hk3 := hk2.trans hk3 (FSub.refl _ _)
      go_wp2_with fail
      refine (opPut_bad _ (hG.new hk3) 1 0 0 1 0 ⟨by decide, by decide, by decide, by decide, by decide, by decide, by decide, by decide, by decide, by decide⟩ (by decide)).mono ?_; rintro e w4 ⟨rfl, hk4⟩
      replace hk4 := hk3.trans hk4 (FSub.refl _ _)
      go_wp2_with fail
      refine (chk_0 _ (hG.new hk4)).mono ?_; rintro e w5 ⟨rfl, hk5⟩
      replace hk5 := hk4.trans hk5 (FSub.refl _ _)
      go_wp2_with fail
      refine (chk_1 _ (hG.new hk5)).mono ?_; rintro e w6 ⟨rfl, hk6⟩
      replace hk6 := hk5.trans hk6 (FSub.refl _ _)
      go_wp2_with fail
      refine (chk_2 _ (hG.new hk6)).mono ?_; rintro e w7 ⟨rfl, hk7⟩
      replace hk7 := hk6.trans hk7 (FSub.refl _ _)
      go_wp2_with fail
      refine (chk_3 _ (hG.new hk7)).mono ?_; rintro e w8 ⟨rfl, hk8⟩
      replace hk8 := hk7.trans hk8 (FSub.refl _ _)
      go_wp2_with fail
      refine (chk_4 _ (hG.new hk8)).mono ?_; rintro e w9 ⟨rfl, hk9⟩
      replace hk9 := hk8.trans hk9 (FSub.refl _ _)
      go_wp2_with fail
      refine (opWords_bad _ (hG.new hk9) 12 0 0 0 0 ⟨by decide, by decide, by decide, by decide, by decide, by decide, by decide, by decide, by decide, by decide⟩ (by decide)).mono ?_; rintro e w10 ⟨rfl, hk10⟩
      replace hk10 := hk9.trans hk10 (FSub.refl _ _)
      go_wp2_with fail
      refine (works4_true _ (hG.new hk10)).mono ?_; rintro e w11 ⟨rfl, hk11⟩
      replace hk11 := hk10.trans hk11 (FSub.refl _ _)
      go_wp2_with fail
      go_ret
      exact ⟨rfl, hk11⟩
end Go.Proofs.YtmjllfohdoiilaaDoor
