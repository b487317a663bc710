/-
  NARROWER THAN 'FOR EVERY INPUT', by the rows' own cells (each row's printed sentence says how): HistorySteps: laid · HistoryAll: laid · HistoryKnown: laid · HistoryTurns: laid · HistoryApart: laid.
  DERIVED. THE GIVEN ROWS OF THIS SEAT. 5 by the template 'for every input the law returns true; each argument reads behind the call as it read before'; 0 by the template 'total and deterministic' (their statements: YtlaccndjlfpjbaaGreatDoorTotals.lean).
  GIVEN WITH THE SEED: the statements are not yours to turn. If you find one false, say at which input.
  Laid BY PROGRAM, IN A SANDBOX (cutbox-rows.mjs): the forced cells as the released guide's own fill.sh prints them over the translation 8a6d53644cb758a2… (all of the seat's roots in one cut). By AI agents, Wed Nov 11 2026. No macro, syntax, notation, axiom, sorry.
-/
import Derived.Test.YtlaccndjlfpjbaaGreatDoorChecked
import GoSem.Claim
import GoSem.ClaimJoined
import GoSem.ClaimMapViews
import Derived.JoinedTies
import Derived.KernelRfl
namespace Go.Proofs.YtlaccndjlfpjbaaGreatDoor
/- THE CELL 'sum', in the pinned program and in every row, IS THE sha256 OF THE DUMP (.gsa) THAT YtlaccndjlfpjbaaGreatDoorProg.lean LOADS. Nothing in Lean hashes anything: it is a label: what it is worth is what the hold of that sum in a sandbox is worth. -/
noncomputable def Tryz.pinned : Pinned := { name := "ytlaccndjlfpjbaagreatdoor", sum := "8a6d53644cb758a2022fcb62339af86c652727926c42dcf0e77e2795b707327c", checked := Tryz.checked }
namespace Rows
def none {H : Type} : Left H := { results := [], args := [] }

/- WHAT THE LISTED PACKAGE-LEVEL VARIABLES READ AS WHEN THE CALL BEGINS. Each datum BY PROGRAM (the guide's laid-datum.mjs) off the statement by which the dump's own 'gosem.cut.vars' lays the variable. In a bare row this is a premise. The card (YtlaccndjlfpjbaaGreatDoorCards.lean) ties it to the program's text. -/
def laid_umpire_op_kinds {H : Type} : DataW H := .agg [.agg [.lit (.int .u8 0), .lit (.string []), .lit (.bool false), .lit (.bool false), .lit (.bool false)], .agg [.lit (.int .u8 0), .lit (.string [114, 101, 97, 100]), .lit (.bool false), .lit (.bool false), .lit (.bool false)], .agg [.lit (.int .u8 0), .lit (.string [119, 114, 105, 116, 101]), .lit (.bool false), .lit (.bool true), .lit (.bool false)], .agg [.lit (.int .u8 0), .lit (.string [99, 97, 115]), .lit (.bool false), .lit (.bool true), .lit (.bool true)], .agg [.lit (.int .u8 1), .lit (.string [101, 110, 113]), .lit (.bool false), .lit (.bool true), .lit (.bool false)], .agg [.lit (.int .u8 1), .lit (.string [100, 101, 113]), .lit (.bool false), .lit (.bool false), .lit (.bool false)], .agg [.lit (.int .u8 2), .lit (.string [103, 101, 116]), .lit (.bool true), .lit (.bool false), .lit (.bool false)], .agg [.lit (.int .u8 2), .lit (.string [112, 117, 116]), .lit (.bool true), .lit (.bool true), .lit (.bool false)], .agg [.lit (.int .u8 2), .lit (.string [100, 101, 108]), .lit (.bool true), .lit (.bool false), .lit (.bool false)], .agg [.lit (.int .u8 2), .lit (.string [115, 119, 97, 112]), .lit (.bool true), .lit (.bool true), .lit (.bool true)], .agg [.lit (.int .u8 3), .lit (.string [97, 99, 113, 117, 105, 114, 101]), .lit (.bool false), .lit (.bool false), .lit (.bool false)], .agg [.lit (.int .u8 3), .lit (.string [114, 101, 108, 101, 97, 115, 101]), .lit (.bool false), .lit (.bool false), .lit (.bool false)]]

/-- 'umpirelaw07.HistorySteps': WHATEVER THE INPUT: true; the input reads as it did. -/
def historyStepsSpec : ChangeSpec := { name := "historySteps", fn := fun _ => fun
  | [d] => { results := [.lit (.bool true)], args := [d] }
  | _ => none }
def historyStepsRow : OpenClaim := { program := "ytlaccndjlfpjbaagreatdoor", sum := "8a6d53644cb758a2022fcb62339af86c652727926c42dcf0e77e2795b707327c", func := "umpire/umpirelaw07.HistorySteps", spec := "historySteps", unfollowed := true, recurses := true, named := ["umpire/op.kinds"], plainKeys := false, apart := false, laid := [("umpire/op.kinds", laid_umpire_op_kinds)] }
def HistoryStepsSaid : Prop := historyStepsRow.holds Tryz.pinned (OpenSpec.ofChange historyStepsSpec)

/-- ITS FALSE NEIGHBOUR: 'it returns false'. Refute it at one input. -/
def historyStepsWrong : ChangeSpec := { name := "historySteps", fn := fun _ => fun
  | [d] => { results := [.lit (.bool false)], args := [d] }
  | _ => none }
def HistoryStepsWrongFalsely : Prop := historyStepsRow.holds Tryz.pinned (OpenSpec.ofChange historyStepsWrong)

/-- 'umpirelaw07.HistoryAll': WHATEVER THE INPUT: true; the input reads as it did. -/
def historyAllSpec : ChangeSpec := { name := "historyAll", fn := fun _ => fun
  | [d] => { results := [.lit (.bool true)], args := [d] }
  | _ => none }
def historyAllRow : OpenClaim := { program := "ytlaccndjlfpjbaagreatdoor", sum := "8a6d53644cb758a2022fcb62339af86c652727926c42dcf0e77e2795b707327c", func := "umpire/umpirelaw07.HistoryAll", spec := "historyAll", unfollowed := true, recurses := true, named := ["umpire/op.kinds"], plainKeys := false, apart := false, laid := [("umpire/op.kinds", laid_umpire_op_kinds)] }
def HistoryAllSaid : Prop := historyAllRow.holds Tryz.pinned (OpenSpec.ofChange historyAllSpec)

/-- ITS FALSE NEIGHBOUR: 'it returns false'. Refute it at one input. -/
def historyAllWrong : ChangeSpec := { name := "historyAll", fn := fun _ => fun
  | [d] => { results := [.lit (.bool false)], args := [d] }
  | _ => none }
def HistoryAllWrongFalsely : Prop := historyAllRow.holds Tryz.pinned (OpenSpec.ofChange historyAllWrong)

/-- 'umpirelaw07.HistoryKnown': WHATEVER THE INPUT: true; the input reads as it did. -/
def historyKnownSpec : ChangeSpec := { name := "historyKnown", fn := fun _ => fun
  | [] => { results := [.lit (.bool true)], args := [] }
  | _ => none }
def historyKnownRow : OpenClaim := { program := "ytlaccndjlfpjbaagreatdoor", sum := "8a6d53644cb758a2022fcb62339af86c652727926c42dcf0e77e2795b707327c", func := "umpire/umpirelaw07.HistoryKnown", spec := "historyKnown", inPlace := ["maps.clone"], unfollowed := true, recurses := true, named := ["umpire/op.kinds"], plainKeys := false, apart := false, laid := [("umpire/op.kinds", laid_umpire_op_kinds)] }
def HistoryKnownSaid : Prop := historyKnownRow.holds Tryz.pinned (OpenSpec.ofChange historyKnownSpec)

/-- ITS FALSE NEIGHBOUR: 'it returns false'. Refute it at one input. -/
def historyKnownWrong : ChangeSpec := { name := "historyKnown", fn := fun _ => fun
  | [] => { results := [.lit (.bool false)], args := [] }
  | _ => none }
def HistoryKnownWrongFalsely : Prop := historyKnownRow.holds Tryz.pinned (OpenSpec.ofChange historyKnownWrong)

/-- 'umpirelaw07.HistoryTurns': WHATEVER THE INPUT: true; the input reads as it did. -/
def historyTurnsSpec : ChangeSpec := { name := "historyTurns", fn := fun _ => fun
  | [d] => { results := [.lit (.bool true)], args := [d] }
  | _ => none }
def historyTurnsRow : OpenClaim := { program := "ytlaccndjlfpjbaagreatdoor", sum := "8a6d53644cb758a2022fcb62339af86c652727926c42dcf0e77e2795b707327c", func := "umpire/umpirelaw07.HistoryTurns", spec := "historyTurns", unfollowed := true, recurses := true, named := ["umpire/op.kinds"], plainKeys := false, apart := false, laid := [("umpire/op.kinds", laid_umpire_op_kinds)] }
def HistoryTurnsSaid : Prop := historyTurnsRow.holds Tryz.pinned (OpenSpec.ofChange historyTurnsSpec)

/-- ITS FALSE NEIGHBOUR: 'it returns false'. Refute it at one input. -/
def historyTurnsWrong : ChangeSpec := { name := "historyTurns", fn := fun _ => fun
  | [d] => { results := [.lit (.bool false)], args := [d] }
  | _ => none }
def HistoryTurnsWrongFalsely : Prop := historyTurnsRow.holds Tryz.pinned (OpenSpec.ofChange historyTurnsWrong)

/-- 'umpirelaw07.HistoryApart': WHATEVER THE INPUT: true; the input reads as it did. -/
def historyApartSpec : ChangeSpec := { name := "historyApart", fn := fun _ => fun
  | [d1, d2, d3] => { results := [.lit (.bool true)], args := [d1, d2, d3] }
  | _ => none }
def historyApartRow : OpenClaim := { program := "ytlaccndjlfpjbaagreatdoor", sum := "8a6d53644cb758a2022fcb62339af86c652727926c42dcf0e77e2795b707327c", func := "umpire/umpirelaw07.HistoryApart", spec := "historyApart", inPlace := ["maps.clone"], unfollowed := true, recurses := true, named := ["umpire/op.kinds"], plainKeys := false, apart := false, laid := [("umpire/op.kinds", laid_umpire_op_kinds)] }
def HistoryApartSaid : Prop := historyApartRow.holds Tryz.pinned (OpenSpec.ofChange historyApartSpec)

/-- ITS FALSE NEIGHBOUR: 'it returns false'. Refute it at one input. -/
def historyApartWrong : ChangeSpec := { name := "historyApart", fn := fun _ => fun
  | [d1, d2, d3] => { results := [.lit (.bool false)], args := [d1, d2, d3] }
  | _ => none }
def HistoryApartWrongFalsely : Prop := historyApartRow.holds Tryz.pinned (OpenSpec.ofChange historyApartWrong)

/- THE SECOND FORM. 'bulk': how many values and letters a reading holds, each counted each time it is reached (what is shared counts as often as it is met; a slice's spare places count too). A statement '..UptoSaid' is the law's where the arguments, and the package variables that the reading takes, are together of bulk at most 1048576: NARROWER than '..Said'. Prove '..Said' where nothing that the law and all that it calls make is longer than what came in: it says more and counts as full. Else prove '..UptoSaid'. A law counts once. -/
mutual
def uptoBulk {H : Type} : DataW H → Nat
  | .lit (.string bytes) => bytes.length + 1
  | .lit _ => 1
  | .nil => 1
  | .ptr d => uptoBulk d + 1
  | .slice elems spare => uptoBulkAll elems + uptoBulkAll spare + 1
  | .agg parts => uptoBulkAll parts + 1
  | .iface _ d => uptoBulk d + 1
  | .map entries => uptoBulkEntries entries + 1
  | .held _ => 1
def uptoBulkAll {H : Type} : List (DataW H) → Nat
  | [] => 0
  | d :: r => uptoBulk d + uptoBulkAll r
def uptoBulkEntries {H : Type} : List (Lit × DataW H) → Nat
  | [] => 0
  | x :: r => uptoBulkEntry x + uptoBulkEntries r
def uptoBulkEntry {H : Type} : Lit × DataW H → Nat
  | (.string bytes, d) => bytes.length + uptoBulk d + 1
  | (_, d) => uptoBulk d + 1
 end
def uptoSmall : (H : Type) → List (DataW H) → Bool := fun _ ds => decide (uptoBulkAll ds ≤ 1048576)
def OpenSpec.upto (s : _root_.Go.ChangeSpec) : _root_.Go.OpenSpec := { _root_.Go.OpenSpec.ofChange s with cond := some uptoSmall }

/-- 'umpirelaw07.HistorySteps', WHERE WHAT IT READS IS OF BULK AT MOST 1048576: true; the input reads as it did. -/
def historyStepsUptoRow : OpenClaim := { program := "ytlaccndjlfpjbaagreatdoor", sum := "8a6d53644cb758a2022fcb62339af86c652727926c42dcf0e77e2795b707327c", func := "umpire/umpirelaw07.HistorySteps", spec := "historySteps", unfollowed := true, recurses := true, named := ["umpire/op.kinds"], plainKeys := false, apart := false, laid := [("umpire/op.kinds", laid_umpire_op_kinds)], narrowed := true }
def HistoryStepsUptoSaid : Prop := historyStepsUptoRow.holds Tryz.pinned (OpenSpec.upto historyStepsSpec)

/-- 'umpirelaw07.HistoryAll', WHERE WHAT IT READS IS OF BULK AT MOST 1048576: true; the input reads as it did. -/
def historyAllUptoRow : OpenClaim := { program := "ytlaccndjlfpjbaagreatdoor", sum := "8a6d53644cb758a2022fcb62339af86c652727926c42dcf0e77e2795b707327c", func := "umpire/umpirelaw07.HistoryAll", spec := "historyAll", unfollowed := true, recurses := true, named := ["umpire/op.kinds"], plainKeys := false, apart := false, laid := [("umpire/op.kinds", laid_umpire_op_kinds)], narrowed := true }
def HistoryAllUptoSaid : Prop := historyAllUptoRow.holds Tryz.pinned (OpenSpec.upto historyAllSpec)

/-- 'umpirelaw07.HistoryKnown', WHERE WHAT IT READS IS OF BULK AT MOST 1048576: true; the input reads as it did. -/
def historyKnownUptoRow : OpenClaim := { program := "ytlaccndjlfpjbaagreatdoor", sum := "8a6d53644cb758a2022fcb62339af86c652727926c42dcf0e77e2795b707327c", func := "umpire/umpirelaw07.HistoryKnown", spec := "historyKnown", inPlace := ["maps.clone"], unfollowed := true, recurses := true, named := ["umpire/op.kinds"], plainKeys := false, apart := false, laid := [("umpire/op.kinds", laid_umpire_op_kinds)], narrowed := true }
def HistoryKnownUptoSaid : Prop := historyKnownUptoRow.holds Tryz.pinned (OpenSpec.upto historyKnownSpec)

/-- 'umpirelaw07.HistoryTurns', WHERE WHAT IT READS IS OF BULK AT MOST 1048576: true; the input reads as it did. -/
def historyTurnsUptoRow : OpenClaim := { program := "ytlaccndjlfpjbaagreatdoor", sum := "8a6d53644cb758a2022fcb62339af86c652727926c42dcf0e77e2795b707327c", func := "umpire/umpirelaw07.HistoryTurns", spec := "historyTurns", unfollowed := true, recurses := true, named := ["umpire/op.kinds"], plainKeys := false, apart := false, laid := [("umpire/op.kinds", laid_umpire_op_kinds)], narrowed := true }
def HistoryTurnsUptoSaid : Prop := historyTurnsUptoRow.holds Tryz.pinned (OpenSpec.upto historyTurnsSpec)

/-- 'umpirelaw07.HistoryApart', WHERE WHAT IT READS IS OF BULK AT MOST 1048576: true; the input reads as it did. -/
def historyApartUptoRow : OpenClaim := { program := "ytlaccndjlfpjbaagreatdoor", sum := "8a6d53644cb758a2022fcb62339af86c652727926c42dcf0e77e2795b707327c", func := "umpire/umpirelaw07.HistoryApart", spec := "historyApart", inPlace := ["maps.clone"], unfollowed := true, recurses := true, named := ["umpire/op.kinds"], plainKeys := false, apart := false, laid := [("umpire/op.kinds", laid_umpire_op_kinds)], narrowed := true }
def HistoryApartUptoSaid : Prop := historyApartUptoRow.holds Tryz.pinned (OpenSpec.upto historyApartSpec)

end Rows
end Go.Proofs.YtlaccndjlfpjbaaGreatDoor
