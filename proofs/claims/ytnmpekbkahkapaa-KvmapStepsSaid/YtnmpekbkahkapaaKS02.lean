/-
  Operations: their bytes, their words, what bytes and words are read as; no program.
-/
import Derived.Lib.ParseIntBCases
import Derived.Lib.IndexMore
import Derived.Lib.ItoaMem
import Derived.Test.YtnmpekbkahkapaaKS01
set_option linter.unusedSimpArgs false
set_option linter.unusedVariables false
namespace Go.Proofs.Ytnmpekbkahkapaa
open Go.RowKit
structure Opn where
  f : Int
  o : Int
  k : Int
  a : Int
  b : Int
/-- What Go's types allow. -/
structure Opn.In (x : Opn) : Prop where
  f0 : 0 ≤ x.f
  f1 : x.f < 256
  o0 : 0 ≤ x.o
  o1 : x.o < 256
  k0 : 0 ≤ x.k
  k1 : x.k < 256
  a0 : 0 ≤ x.a
  a1 : x.a < 65536
  b0 : 0 ≤ x.b
  b1 : x.b < 65536
def Opn.val (x : Opn) : Value := .agg #[.int .u8 x.f, .int .u8 x.o, .int .u8 x.k, .int .u16 x.a, .int .u16 x.b]
end Go.Proofs.Ytnmpekbkahkapaa
/-
  A register, as data; no program.
-/
namespace Go.Proofs.Ytnmpekbkahkapaa
/-- An answer. -/
structure Ans where
  k : Int
  v : Int
deriving DecidableEq
/-- The cells of an operation and of an answer. -/
def opC (x : Opn) : List Go.Value := [.int .u8 x.f, .int .u8 x.o, .int .u8 x.k, .int .u16 x.a, .int .u16 x.b]
def ansC (x : Ans) : List Go.Value := [.int .u8 x.k, .int .u16 x.v]
end Go.Proofs.Ytnmpekbkahkapaa
/-
  Operations' words, and what words are parsed as; no program.
-/
namespace Go.Proofs.Ytnmpekbkahkapaa
open Go.RowKit
def dec (n : Int) : List UInt8 := Lib.decDigits n.toNat
end Go.Proofs.Ytnmpekbkahkapaa
