/-
  NARROWER THAN 'FOR EVERY INPUT', by the rows' own cells (each row's printed sentence says how): EventKnown: laid · EventBack: laid · EventWhole: laid.
  DERIVED. THE GIVEN ROWS OF THIS SEAT. 3 by the template 'for every input the law returns true; each argument reads behind the call as it read before'; 0 by the template 'total and deterministic' (their statements: YtnehnbhdkhgakaaDoorTotals.lean).
  GIVEN WITH THE SEED: the statements are not yours to turn. If you find one false, say at which input.
  Laid BY PROGRAM, IN A SANDBOX (cutbox-rows.mjs): the forced cells as the released guide's own fill.sh prints them over the translation 9938ff5a3894a6b8… (all of the seat's roots in one cut). By AI agents, Wed Nov 11 2026. No macro, syntax, notation, axiom, sorry.
-/
import Derived.Test.YtnehnbhdkhgakaaDoorChecked
import GoSem.Claim
import GoSem.ClaimJoined
import GoSem.ClaimMapViews
import Derived.JoinedTies
import Derived.KernelRfl
namespace Go.Proofs.YtnehnbhdkhgakaaDoor
/- THE CELL 'sum', in the pinned program and in every row, IS THE sha256 OF THE DUMP (.gsa) THAT YtnehnbhdkhgakaaDoorProg.lean LOADS. Nothing in Lean hashes anything: it is a label: what it is worth is what the hold of that sum in a sandbox is worth. -/
noncomputable def Tryd.pinned : Pinned := { name := "ytnehnbhdkhgakaadoor", sum := "9938ff5a3894a6b89e929a83fd3dedda3a3ea69055b2552fe3c1931c7c27d1b3", checked := Tryd.checked }
namespace Rows
def none {H : Type} : Left H := { results := [], args := [] }

/- WHAT THE LISTED PACKAGE-LEVEL VARIABLES READ AS WHEN THE CALL BEGINS. Each datum BY PROGRAM (the guide's laid-datum.mjs) off the statement by which the dump's own 'gosem.cut.vars' lays the variable. In a bare row this is a premise. The card (YtnehnbhdkhgakaaDoorCards.lean) ties it to the program's text. -/
def laid_umpire_op_kinds {H : Type} : DataW H := .agg [.agg [.lit (.int .u8 0), .lit (.string []), .lit (.bool false), .lit (.bool false), .lit (.bool false)], .agg [.lit (.int .u8 0), .lit (.string [114, 101, 97, 100]), .lit (.bool false), .lit (.bool false), .lit (.bool false)], .agg [.lit (.int .u8 0), .lit (.string [119, 114, 105, 116, 101]), .lit (.bool false), .lit (.bool true), .lit (.bool false)], .agg [.lit (.int .u8 0), .lit (.string [99, 97, 115]), .lit (.bool false), .lit (.bool true), .lit (.bool true)], .agg [.lit (.int .u8 1), .lit (.string [101, 110, 113]), .lit (.bool false), .lit (.bool true), .lit (.bool false)], .agg [.lit (.int .u8 1), .lit (.string [100, 101, 113]), .lit (.bool false), .lit (.bool false), .lit (.bool false)], .agg [.lit (.int .u8 2), .lit (.string [103, 101, 116]), .lit (.bool true), .lit (.bool false), .lit (.bool false)], .agg [.lit (.int .u8 2), .lit (.string [112, 117, 116]), .lit (.bool true), .lit (.bool true), .lit (.bool false)], .agg [.lit (.int .u8 2), .lit (.string [100, 101, 108]), .lit (.bool true), .lit (.bool false), .lit (.bool false)], .agg [.lit (.int .u8 2), .lit (.string [115, 119, 97, 112]), .lit (.bool true), .lit (.bool true), .lit (.bool true)], .agg [.lit (.int .u8 3), .lit (.string [97, 99, 113, 117, 105, 114, 101]), .lit (.bool false), .lit (.bool false), .lit (.bool false)], .agg [.lit (.int .u8 3), .lit (.string [114, 101, 108, 101, 97, 115, 101]), .lit (.bool false), .lit (.bool false), .lit (.bool false)]]

/-- 'umpirelaw05.EventKnown': WHATEVER THE INPUT: true; the input reads as it did. -/
def eventKnownSpec : ChangeSpec := { name := "eventKnown", fn := fun _ => fun
  | [] => { results := [.lit (.bool true)], args := [] }
  | _ => none }
def eventKnownRow : OpenClaim := { program := "ytnehnbhdkhgakaadoor", sum := "9938ff5a3894a6b89e929a83fd3dedda3a3ea69055b2552fe3c1931c7c27d1b3", func := "umpire/umpirelaw05.EventKnown", spec := "eventKnown", unfollowed := true, recurses := true, named := ["umpire/op.kinds"], apart := false, laid := [("umpire/op.kinds", laid_umpire_op_kinds)] }
def EventKnownSaid : Prop := eventKnownRow.holds Tryd.pinned (OpenSpec.ofChange eventKnownSpec)

/-- ITS FALSE NEIGHBOUR: 'it returns false'. Refute it at one input. -/
def eventKnownWrong : ChangeSpec := { name := "eventKnown", fn := fun _ => fun
  | [] => { results := [.lit (.bool false)], args := [] }
  | _ => none }
def EventKnownWrongFalsely : Prop := eventKnownRow.holds Tryd.pinned (OpenSpec.ofChange eventKnownWrong)

/-- 'umpirelaw05.EventBack': WHATEVER THE INPUT: true; the input reads as it did. -/
def eventBackSpec : ChangeSpec := { name := "eventBack", fn := fun _ => fun
  | [d1, d2] => { results := [.lit (.bool true)], args := [d1, d2] }
  | _ => none }
def eventBackRow : OpenClaim := { program := "ytnehnbhdkhgakaadoor", sum := "9938ff5a3894a6b89e929a83fd3dedda3a3ea69055b2552fe3c1931c7c27d1b3", func := "umpire/umpirelaw05.EventBack", spec := "eventBack", unfollowed := true, recurses := true, named := ["umpire/op.kinds"], apart := false, laid := [("umpire/op.kinds", laid_umpire_op_kinds)] }
def EventBackSaid : Prop := eventBackRow.holds Tryd.pinned (OpenSpec.ofChange eventBackSpec)

/-- ITS FALSE NEIGHBOUR: 'it returns false'. Refute it at one input. -/
def eventBackWrong : ChangeSpec := { name := "eventBack", fn := fun _ => fun
  | [d1, d2] => { results := [.lit (.bool false)], args := [d1, d2] }
  | _ => none }
def EventBackWrongFalsely : Prop := eventBackRow.holds Tryd.pinned (OpenSpec.ofChange eventBackWrong)

/-- 'umpirelaw05.EventWhole': WHATEVER THE INPUT: true; the input reads as it did. -/
def eventWholeSpec : ChangeSpec := { name := "eventWhole", fn := fun _ => fun
  | [d1, d2, d3] => { results := [.lit (.bool true)], args := [d1, d2, d3] }
  | _ => none }
def eventWholeRow : OpenClaim := { program := "ytnehnbhdkhgakaadoor", sum := "9938ff5a3894a6b89e929a83fd3dedda3a3ea69055b2552fe3c1931c7c27d1b3", func := "umpire/umpirelaw05.EventWhole", spec := "eventWhole", unfollowed := true, recurses := true, named := ["umpire/op.kinds"], apart := false, laid := [("umpire/op.kinds", laid_umpire_op_kinds)] }
def EventWholeSaid : Prop := eventWholeRow.holds Tryd.pinned (OpenSpec.ofChange eventWholeSpec)

/-- ITS FALSE NEIGHBOUR: 'it returns false'. Refute it at one input. -/
def eventWholeWrong : ChangeSpec := { name := "eventWhole", fn := fun _ => fun
  | [d1, d2, d3] => { results := [.lit (.bool false)], args := [d1, d2, d3] }
  | _ => none }
def EventWholeWrongFalsely : Prop := eventWholeRow.holds Tryd.pinned (OpenSpec.ofChange eventWholeWrong)

/- THE SECOND FORM. 'bulk': how many values and letters a reading holds, each counted each time it is reached (what is shared counts as often as it is met; a slice's spare places count too). A statement '..UptoSaid' is the law's where the arguments, and the package variables that the reading takes, are together of bulk at most 1048576: NARROWER than '..Said'. Prove '..Said' where nothing that the law and all that it calls make is longer than what came in: it says more and counts as full. Else prove '..UptoSaid'. A law counts once. -/
mutual
def uptoBulk {H : Type} : DataW H → Nat
  | .lit (.string bytes) => bytes.length + 1
  | .lit _ => 1
  | .nil => 1
  | .ptr d => uptoBulk d + 1
  | .slice elems spare => uptoBulkAll elems + uptoBulkAll spare + 1
  | .agg parts => uptoBulkAll parts + 1
  | .iface _ d => uptoBulk d + 1
  | .map entries => uptoBulkEntries entries + 1
  | .held _ => 1
def uptoBulkAll {H : Type} : List (DataW H) → Nat
  | [] => 0
  | d :: r => uptoBulk d + uptoBulkAll r
def uptoBulkEntries {H : Type} : List (Lit × DataW H) → Nat
  | [] => 0
  | x :: r => uptoBulkEntry x + uptoBulkEntries r
def uptoBulkEntry {H : Type} : Lit × DataW H → Nat
  | (.string bytes, d) => bytes.length + uptoBulk d + 1
  | (_, d) => uptoBulk d + 1
 end
def uptoSmall : (H : Type) → List (DataW H) → Bool := fun _ ds => decide (uptoBulkAll ds ≤ 1048576)
def OpenSpec.upto (s : _root_.Go.ChangeSpec) : _root_.Go.OpenSpec := { _root_.Go.OpenSpec.ofChange s with cond := some uptoSmall }

/-- 'umpirelaw05.EventKnown', WHERE WHAT IT READS IS OF BULK AT MOST 1048576: true; the input reads as it did. -/
def eventKnownUptoRow : OpenClaim := { program := "ytnehnbhdkhgakaadoor", sum := "9938ff5a3894a6b89e929a83fd3dedda3a3ea69055b2552fe3c1931c7c27d1b3", func := "umpire/umpirelaw05.EventKnown", spec := "eventKnown", unfollowed := true, recurses := true, named := ["umpire/op.kinds"], apart := false, laid := [("umpire/op.kinds", laid_umpire_op_kinds)], narrowed := true }
def EventKnownUptoSaid : Prop := eventKnownUptoRow.holds Tryd.pinned (OpenSpec.upto eventKnownSpec)

/-- 'umpirelaw05.EventBack', WHERE WHAT IT READS IS OF BULK AT MOST 1048576: true; the input reads as it did. -/
def eventBackUptoRow : OpenClaim := { program := "ytnehnbhdkhgakaadoor", sum := "9938ff5a3894a6b89e929a83fd3dedda3a3ea69055b2552fe3c1931c7c27d1b3", func := "umpire/umpirelaw05.EventBack", spec := "eventBack", unfollowed := true, recurses := true, named := ["umpire/op.kinds"], apart := false, laid := [("umpire/op.kinds", laid_umpire_op_kinds)], narrowed := true }
def EventBackUptoSaid : Prop := eventBackUptoRow.holds Tryd.pinned (OpenSpec.upto eventBackSpec)

/-- 'umpirelaw05.EventWhole', WHERE WHAT IT READS IS OF BULK AT MOST 1048576: true; the input reads as it did. -/
def eventWholeUptoRow : OpenClaim := { program := "ytnehnbhdkhgakaadoor", sum := "9938ff5a3894a6b89e929a83fd3dedda3a3ea69055b2552fe3c1931c7c27d1b3", func := "umpire/umpirelaw05.EventWhole", spec := "eventWhole", unfollowed := true, recurses := true, named := ["umpire/op.kinds"], apart := false, laid := [("umpire/op.kinds", laid_umpire_op_kinds)], narrowed := true }
def EventWholeUptoSaid : Prop := eventWholeUptoRow.holds Tryd.pinned (OpenSpec.upto eventWholeSpec)

end Rows
end Go.Proofs.YtnehnbhdkhgakaaDoor
