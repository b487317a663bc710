/-
  Texts that are none.
-/
import Derived.Test.YtgdbhblapdhlmaaDoorHa
namespace Go.Proofs.YtgdbhblapdhlmaaDoor
open Go.RowKit
theorem dec_0 : Lib.decDigits 0 = [48] := by rw [Lib.decDigits]; rfl
theorem dec_7 : Lib.decDigits 7 = [55] := by rw [Lib.decDigits]; rfl
theorem dec_65535 : Lib.decDigits 65535 = [54, 53, 53, 51, 53] := by simp [Lib.decDigits]
theorem bad_0 : psE ([] : List UInt8) = 4 := by
  first
    | decide
    | simp [psE, psOk, gsK, gsV, rsWord, rsGood, rsTxt, valueL, Lib.cut, Lib.index, List.isPrefixOf, puOf, Lib.parseUintB, Lib.parseUintM, dec_0, dec_7, dec_65535]
theorem bad_1 : psE ([118, 97, 108, 117, 101] : List UInt8) = 4 := by
  first
    | decide
    | simp [psE, psOk, gsK, gsV, rsWord, rsGood, rsTxt, valueL, Lib.cut, Lib.index, List.isPrefixOf, puOf, Lib.parseUintB, Lib.parseUintM, dec_0, dec_7, dec_65535]
theorem bad_2 : psE ([118, 97, 108, 117, 101, 32, 48, 55] : List UInt8) = 4 := by
  first
    | decide
    | simp [psE, psOk, gsK, gsV, rsWord, rsGood, rsTxt, valueL, Lib.cut, Lib.index, List.isPrefixOf, puOf, Lib.parseUintB, Lib.parseUintM, dec_0, dec_7, dec_65535]
theorem bad_3 : psE ([118, 97, 108, 117, 101, 32, 54, 53, 53, 51, 54] : List UInt8) = 4 := by
  first
    | decide
    | simp [psE, psOk, gsK, gsV, rsWord, rsGood, rsTxt, valueL, Lib.cut, Lib.index, List.isPrefixOf, puOf, Lib.parseUintB, Lib.parseUintM, dec_0, dec_7, dec_65535]
theorem bad_4 : psE ([118, 97, 108, 117, 101, 32] : List UInt8) = 4 := by
  first
    | decide
    | simp [psE, psOk, gsK, gsV, rsWord, rsGood, rsTxt, valueL, Lib.cut, Lib.index, List.isPrefixOf, puOf, Lib.parseUintB, Lib.parseUintM, dec_0, dec_7, dec_65535]
theorem bad_5 : psE ([121, 101, 115, 32] : List UInt8) = 4 := by
  first
    | decide
    | simp [psE, psOk, gsK, gsV, rsWord, rsGood, rsTxt, valueL, Lib.cut, Lib.index, List.isPrefixOf, puOf, Lib.parseUintB, Lib.parseUintM, dec_0, dec_7, dec_65535]
theorem bad_6 : psE ([118, 97, 108, 117, 101, 32, 55, 32] : List UInt8) = 4 := by
  first
    | decide
    | simp [psE, psOk, gsK, gsV, rsWord, rsGood, rsTxt, valueL, Lib.cut, Lib.index, List.isPrefixOf, puOf, Lib.parseUintB, Lib.parseUintM, dec_0, dec_7, dec_65535]
theorem bad_7 : psE ([118, 97, 108, 117, 101, 32, 32, 55] : List UInt8) = 4 := by
  first
    | decide
    | simp [psE, psOk, gsK, gsV, rsWord, rsGood, rsTxt, valueL, Lib.cut, Lib.index, List.isPrefixOf, puOf, Lib.parseUintB, Lib.parseUintM, dec_0, dec_7, dec_65535]
theorem bad_8 : psE ([100, 111, 110, 101, 32, 48] : List UInt8) = 4 := by
  first
    | decide
    | simp [psE, psOk, gsK, gsV, rsWord, rsGood, rsTxt, valueL, Lib.cut, Lib.index, List.isPrefixOf, puOf, Lib.parseUintB, Lib.parseUintM, dec_0, dec_7, dec_65535]
theorem bad_9 : psE ([32, 100, 111, 110, 101] : List UInt8) = 4 := by
  first
    | decide
    | simp [psE, psOk, gsK, gsV, rsWord, rsGood, rsTxt, valueL, Lib.cut, Lib.index, List.isPrefixOf, puOf, Lib.parseUintB, Lib.parseUintM, dec_0, dec_7, dec_65535]
theorem bad_10 : psE ([118, 97, 108, 117, 101, 32, 45, 49] : List UInt8) = 4 := by
  first
    | decide
    | simp [psE, psOk, gsK, gsV, rsWord, rsGood, rsTxt, valueL, Lib.cut, Lib.index, List.isPrefixOf, puOf, Lib.parseUintB, Lib.parseUintM, dec_0, dec_7, dec_65535]
theorem bad_11 : psE ([118, 97, 108, 117, 101, 32, 43, 55] : List UInt8) = 4 := by
  first
    | decide
    | simp [psE, psOk, gsK, gsV, rsWord, rsGood, rsTxt, valueL, Lib.cut, Lib.index, List.isPrefixOf, puOf, Lib.parseUintB, Lib.parseUintM, dec_0, dec_7, dec_65535]
end Go.Proofs.YtgdbhblapdhlmaaDoor
