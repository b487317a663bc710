/-
  Events: which are valid, what their bytes are; no program.
-/
import Derived.Test.YtiljdehhjiahdaaGreatDoorG02
import Derived.Test.YtiljdehhjiahdaaGreatDoorG08
set_option linter.unusedSimpArgs false
set_option linter.unusedVariables false
namespace Go.Proofs.YtiljdehhjiahdaaGreatDoor
open Go.RowKit
structure Mic where
  rd : Bool
  key : Int
  v : Int
structure Cfg where
  m : Int
  mo : Int
  ms : Int
  mt : Int
  p : Bool
  cu : Bool
  me : Bool
structure Ev where
  k : Int
  c : Int
  id : Int
  o : Opn
  rk : Int
  rv : Int
  t : List Mic
  r : List (List Int)
  g : Cfg
def cfgZero : Cfg := ⟨0, 0, 0, 0, false, false, false⟩
def evZero : Ev := ⟨0, 0, 0, opZero, 0, 0, [], [], cfgZero⟩
/-- The cells of an event, its lists as they lie in memory. -/
def evC (x : Ev) (tx rd : Value) : Array Value :=
  #[.int .u8 x.k, .int .u8 x.c, .int .u16 x.id, .int .u8 x.o.f, .int .u8 x.o.o, .int .u8 x.o.k, .int .u16 x.o.a, .int .u16 x.o.b, .int .u8 x.rk, .int .u16 x.rv, tx, rd,
    .int .u8 x.g.m, .int .i64 x.g.mo, .int .i64 x.g.ms, .int .i64 x.g.mt, .bool x.g.p, .bool x.g.cu, .bool x.g.me]
/-- What Go's types allow. -/
structure Mic.In (m : Mic) : Prop where
  k0 : 0 ≤ m.key
  k1 : m.key < 256
  v0 : 0 ≤ m.v
  v1 : m.v < 65536
structure Ev.In (x : Ev) : Prop where
  k0 : 0 ≤ x.k
  k1 : x.k < 256
  c0 : 0 ≤ x.c
  c1 : x.c < 256
  i0 : 0 ≤ x.id
  i1 : x.id < 65536
  o : x.o.In
  rk0 : 0 ≤ x.rk
  rk1 : x.rk < 256
  rv0 : 0 ≤ x.rv
  rv1 : x.rv < 65536
  t : ∀ m ∈ x.t, m.In
  r : ∀ l ∈ x.r, InU16 l
  m0 : 0 ≤ x.g.m
  m1 : x.g.m < 256
  mo0 : -9223372036854775808 ≤ x.g.mo
  mo1 : x.g.mo ≤ 9223372036854775807
  ms0 : -9223372036854775808 ≤ x.g.ms
  ms1 : x.g.ms ≤ 9223372036854775807
  mt0 : -9223372036854775808 ≤ x.g.mt
  mt1 : x.g.mt ≤ 9223372036854775807
/-- What an event's kind needs, all else zero. -/
def evWho (x : Ev) : Ev := { evZero with k := x.k, c := x.c, id := x.id }
def evNeed (x : Ev) : Ev :=
  if x.k = 1 then { evZero with k := x.k, g := x.g } else if x.k = 2 then { evWho x with o := x.o } else if x.k = 3 then { evWho x with rk := x.rk, rv := x.rv } else
  if x.k = 5 then { evWho x with t := x.t } else if x.k = 6 then { evWho x with r := x.r } else evWho x
def micGood (m : Mic) : Bool := decide (m.key < 8) && !(m.rd && m.v != 0)
def cfgGood (g : Cfg) : Bool := decide (g.m ≤ 4) && decide (1 ≤ g.mo ∧ g.mo ≤ 32) && decide (1 ≤ g.ms ∧ g.ms ≤ 4096) && decide (1 ≤ g.mt ∧ g.mt ≤ 1048576)
def micsGood (t : List Mic) : Bool := decide (1 ≤ t.length ∧ t.length ≤ 8) && t.all micGood
def listsGood (r : List (List Int)) : Bool := decide (r.length ≤ 8) && r.all fun l => decide (l.length ≤ 32)
def evKind (k : Int) : Bool := decide (1 ≤ k ∧ k ≤ 7)
def evFits (x : Ev) : Bool :=
  if x.k = 1 then cfgGood x.g else if x.k = 2 then opGood x.o else if x.k = 3 then rsGood x.rk x.rv else if x.k = 5 then micsGood x.t else if x.k = 6 then listsGood x.r else true
/-- Are two events the same? -/
noncomputable def eqB {α : Type} (a b : α) : Bool := @decide (a = b) (Classical.propDecidable _)
theorem eqB_iff {α : Type} (a b : α) : eqB a b = true ↔ a = b := by unfold eqB; simp
theorem eqB_no {α : Type} {a b : α} (h : ¬ a = b) : eqB a b = false := by unfold eqB; simp [h]
noncomputable def evSame (a b : Ev) : Bool := eqB a b
theorem evSame_iff (a b : Ev) : evSame a b = true ↔ a = b := eqB_iff a b
theorem evSame_self (a : Ev) : evSame a a = true := (evSame_iff a a).2 rfl
noncomputable def evGood (x : Ev) : Bool := evKind x.k && decide (x.c < 16) && evFits x && evSame x (evNeed x)
noncomputable def evErr (x : Ev) : Int := if evGood x then 0 else 4
def flagsOf (g : Cfg) : Int := (if g.p then 1 else 0) + (if g.cu then 2 else 0) + (if g.me then 4 else 0)
def micPut (m : Mic) : List Int := if m.rd then [m.key + 128] else m.key :: be2 m.v
def whoPut (x : Ev) : List Int := x.c :: be2 x.id
def cfgPut (g : Cfg) : List Int := [g.m, flagsOf g, g.mo] ++ be2 g.ms ++ be4 g.mt
def evBody (x : Ev) : List Int :=
  if x.k = 1 then cfgPut x.g else if x.k = 2 then whoPut x ++ opPut x.o else if x.k = 3 then whoPut x ++ rsPut x.rk x.rv else
  if x.k = 5 then whoPut x ++ ((x.t.length : Int) :: x.t.flatMap micPut) else if x.k = 6 then whoPut x ++ ((x.r.length : Int) :: x.r.flatMap beList) else whoPut x
/-- An event's bytes. -/
def evPut (x : Ev) : List Int := x.k :: evBody x
theorem kind_cases {k : Int} (h : evKind k = true) : k = 1 ∨ k = 2 ∨ k = 3 ∨ k = 4 ∨ k = 5 ∨ k = 6 ∨ k = 7 := by
  simp [evKind] at h; omega
theorem kind_not {k : Int} (h : evKind k = false) : ¬ (1 ≤ k ∧ k ≤ 7) := by simpa [evKind] using h
end Go.Proofs.YtiljdehhjiahdaaGreatDoor
