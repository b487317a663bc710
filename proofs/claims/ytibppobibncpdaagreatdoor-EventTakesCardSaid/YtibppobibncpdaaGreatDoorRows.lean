/-
  NARROWER THAN 'FOR EVERY INPUT', by the rows' own cells (each row's printed sentence says how): EventPuts: laid · EventTakes: laid.
  DERIVED. THE GIVEN ROWS OF THIS SEAT. 2 by the template 'for every input the law returns true; each argument reads behind the call as it read before'; 0 by the template 'total and deterministic' (their statements: YtibppobibncpdaaGreatDoorTotals.lean).
  GIVEN WITH THE SEED: the statements are not yours to turn. If you find one false, say at which input.
  Laid BY PROGRAM, IN A SANDBOX (cutbox-rows.mjs): the forced cells as the released guide's own fill.sh prints them over the translation d9938b77a13a31b2… (all of the seat's roots in one cut). By AI agents, Wed Nov 11 2026. No macro, syntax, notation, axiom, sorry.
-/
import Derived.Test.YtibppobibncpdaaGreatDoorChecked
import GoSem.Claim
import GoSem.ClaimJoined
import GoSem.ClaimMapViews
import Derived.JoinedTies
import Derived.KernelRfl
namespace Go.Proofs.YtibppobibncpdaaGreatDoor
/- THE CELL 'sum', in the pinned program and in every row, IS THE sha256 OF THE DUMP (.gsa) THAT YtibppobibncpdaaGreatDoorProg.lean LOADS. Nothing in Lean hashes anything: it is a label: what it is worth is what the hold of that sum in a sandbox is worth. -/
noncomputable def Tryz.pinned : Pinned := { name := "ytibppobibncpdaagreatdoor", sum := "d9938b77a13a31b2c8010f56f9a2f739d4de0ed8c92fe41066281a47f07c3d8c", checked := Tryz.checked }
namespace Rows
def none {H : Type} : Left H := { results := [], args := [] }

/- WHAT THE LISTED PACKAGE-LEVEL VARIABLES READ AS WHEN THE CALL BEGINS. Each datum BY PROGRAM (the guide's laid-datum.mjs) off the statement by which the dump's own 'gosem.cut.vars' lays the variable. In a bare row this is a premise. The card (YtibppobibncpdaaGreatDoorCards.lean) ties it to the program's text. -/
def laid_umpire_op_kinds {H : Type} : DataW H := .agg [.agg [.lit (.int .u8 0), .lit (.string []), .lit (.bool false), .lit (.bool false), .lit (.bool false)], .agg [.lit (.int .u8 0), .lit (.string [114, 101, 97, 100]), .lit (.bool false), .lit (.bool false), .lit (.bool false)], .agg [.lit (.int .u8 0), .lit (.string [119, 114, 105, 116, 101]), .lit (.bool false), .lit (.bool true), .lit (.bool false)], .agg [.lit (.int .u8 0), .lit (.string [99, 97, 115]), .lit (.bool false), .lit (.bool true), .lit (.bool true)], .agg [.lit (.int .u8 1), .lit (.string [101, 110, 113]), .lit (.bool false), .lit (.bool true), .lit (.bool false)], .agg [.lit (.int .u8 1), .lit (.string [100, 101, 113]), .lit (.bool false), .lit (.bool false), .lit (.bool false)], .agg [.lit (.int .u8 2), .lit (.string [103, 101, 116]), .lit (.bool true), .lit (.bool false), .lit (.bool false)], .agg [.lit (.int .u8 2), .lit (.string [112, 117, 116]), .lit (.bool true), .lit (.bool true), .lit (.bool false)], .agg [.lit (.int .u8 2), .lit (.string [100, 101, 108]), .lit (.bool true), .lit (.bool false), .lit (.bool false)], .agg [.lit (.int .u8 2), .lit (.string [115, 119, 97, 112]), .lit (.bool true), .lit (.bool true), .lit (.bool true)], .agg [.lit (.int .u8 3), .lit (.string [97, 99, 113, 117, 105, 114, 101]), .lit (.bool false), .lit (.bool false), .lit (.bool false)], .agg [.lit (.int .u8 3), .lit (.string [114, 101, 108, 101, 97, 115, 101]), .lit (.bool false), .lit (.bool false), .lit (.bool false)]]

/-- 'umpirelaw05.EventPuts': WHATEVER THE INPUT: true; the input reads as it did. -/
def eventPutsSpec : ChangeSpec := { name := "eventPuts", fn := fun _ => fun
  | [d1, d2] => { results := [.lit (.bool true)], args := [d1, d2] }
  | _ => none }
def eventPutsRow : OpenClaim := { program := "ytibppobibncpdaagreatdoor", sum := "d9938b77a13a31b2c8010f56f9a2f739d4de0ed8c92fe41066281a47f07c3d8c", func := "umpire/umpirelaw05.EventPuts", spec := "eventPuts", unfollowed := true, recurses := true, named := ["umpire/op.kinds"], apart := false, laid := [("umpire/op.kinds", laid_umpire_op_kinds)] }
def EventPutsSaid : Prop := eventPutsRow.holds Tryz.pinned (OpenSpec.ofChange eventPutsSpec)

/-- ITS FALSE NEIGHBOUR: 'it returns false'. Refute it at one input. -/
def eventPutsWrong : ChangeSpec := { name := "eventPuts", fn := fun _ => fun
  | [d1, d2] => { results := [.lit (.bool false)], args := [d1, d2] }
  | _ => none }
def EventPutsWrongFalsely : Prop := eventPutsRow.holds Tryz.pinned (OpenSpec.ofChange eventPutsWrong)

/-- 'umpirelaw05.EventTakes': WHATEVER THE INPUT: true; the input reads as it did. -/
def eventTakesSpec : ChangeSpec := { name := "eventTakes", fn := fun _ => fun
  | [d] => { results := [.lit (.bool true)], args := [d] }
  | _ => none }
def eventTakesRow : OpenClaim := { program := "ytibppobibncpdaagreatdoor", sum := "d9938b77a13a31b2c8010f56f9a2f739d4de0ed8c92fe41066281a47f07c3d8c", func := "umpire/umpirelaw05.EventTakes", spec := "eventTakes", unfollowed := true, recurses := true, named := ["umpire/op.kinds"], apart := false, laid := [("umpire/op.kinds", laid_umpire_op_kinds)] }
def EventTakesSaid : Prop := eventTakesRow.holds Tryz.pinned (OpenSpec.ofChange eventTakesSpec)

/-- ITS FALSE NEIGHBOUR: 'it returns false'. Refute it at one input. -/
def eventTakesWrong : ChangeSpec := { name := "eventTakes", fn := fun _ => fun
  | [d] => { results := [.lit (.bool false)], args := [d] }
  | _ => none }
def EventTakesWrongFalsely : Prop := eventTakesRow.holds Tryz.pinned (OpenSpec.ofChange eventTakesWrong)

/- THE SECOND FORM. 'bulk': how many values and letters a reading holds, each counted each time it is reached (what is shared counts as often as it is met; a slice's spare places count too). A statement '..UptoSaid' is the law's where the arguments, and the package variables that the reading takes, are together of bulk at most 1048576: NARROWER than '..Said'. Prove '..Said' where nothing that the law and all that it calls make is longer than what came in: it says more and counts as full. Else prove '..UptoSaid'. A law counts once. -/
mutual
def uptoBulk {H : Type} : DataW H → Nat
  | .lit (.string bytes) => bytes.length + 1
  | .lit _ => 1
  | .nil => 1
  | .ptr d => uptoBulk d + 1
  | .slice elems spare => uptoBulkAll elems + uptoBulkAll spare + 1
  | .agg parts => uptoBulkAll parts + 1
  | .iface _ d => uptoBulk d + 1
  | .map entries => uptoBulkEntries entries + 1
  | .held _ => 1
def uptoBulkAll {H : Type} : List (DataW H) → Nat
  | [] => 0
  | d :: r => uptoBulk d + uptoBulkAll r
def uptoBulkEntries {H : Type} : List (Lit × DataW H) → Nat
  | [] => 0
  | x :: r => uptoBulkEntry x + uptoBulkEntries r
def uptoBulkEntry {H : Type} : Lit × DataW H → Nat
  | (.string bytes, d) => bytes.length + uptoBulk d + 1
  | (_, d) => uptoBulk d + 1
 end
def uptoSmall : (H : Type) → List (DataW H) → Bool := fun _ ds => decide (uptoBulkAll ds ≤ 1048576)
def OpenSpec.upto (s : _root_.Go.ChangeSpec) : _root_.Go.OpenSpec := { _root_.Go.OpenSpec.ofChange s with cond := some uptoSmall }

/-- 'umpirelaw05.EventPuts', WHERE WHAT IT READS IS OF BULK AT MOST 1048576: true; the input reads as it did. -/
def eventPutsUptoRow : OpenClaim := { program := "ytibppobibncpdaagreatdoor", sum := "d9938b77a13a31b2c8010f56f9a2f739d4de0ed8c92fe41066281a47f07c3d8c", func := "umpire/umpirelaw05.EventPuts", spec := "eventPuts", unfollowed := true, recurses := true, named := ["umpire/op.kinds"], apart := false, laid := [("umpire/op.kinds", laid_umpire_op_kinds)], narrowed := true }
def EventPutsUptoSaid : Prop := eventPutsUptoRow.holds Tryz.pinned (OpenSpec.upto eventPutsSpec)

/-- 'umpirelaw05.EventTakes', WHERE WHAT IT READS IS OF BULK AT MOST 1048576: true; the input reads as it did. -/
def eventTakesUptoRow : OpenClaim := { program := "ytibppobibncpdaagreatdoor", sum := "d9938b77a13a31b2c8010f56f9a2f739d4de0ed8c92fe41066281a47f07c3d8c", func := "umpire/umpirelaw05.EventTakes", spec := "eventTakes", unfollowed := true, recurses := true, named := ["umpire/op.kinds"], apart := false, laid := [("umpire/op.kinds", laid_umpire_op_kinds)], narrowed := true }
def EventTakesUptoSaid : Prop := eventTakesUptoRow.holds Tryz.pinned (OpenSpec.upto eventTakesSpec)

end Rows
end Go.Proofs.YtibppobibncpdaaGreatDoor
