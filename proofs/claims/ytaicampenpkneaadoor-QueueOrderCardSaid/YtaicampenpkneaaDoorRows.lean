/-
  NARROWER THAN 'FOR EVERY INPUT', by the rows' own cells (each row's printed sentence says how): QueueSteps: laid · QueueRuns: laid · QueueTexts: laid · QueueOrder: laid · QueueApart: laid · QueueBack: laid · QueueKnown: laid.
  DERIVED. THE GIVEN ROWS OF THIS SEAT. 7 by the template 'for every input the law returns true; each argument reads behind the call as it read before'; 0 by the template 'total and deterministic' (their statements: YtaicampenpkneaaDoorTotals.lean).
  GIVEN WITH THE SEED: the statements are not yours to turn. If you find one false, say at which input.
  Laid BY PROGRAM, IN A SANDBOX (cutbox-rows.mjs): the forced cells as the released guide's own fill.sh prints them over the translation 669a2f83a2ea57c1… (all of the seat's roots in one cut). By AI agents, Wed Nov 11 2026. No macro, syntax, notation, axiom, sorry.
-/
import Derived.Test.YtaicampenpkneaaDoorChecked
import GoSem.Claim
import GoSem.ClaimJoined
import GoSem.ClaimMapViews
import Derived.JoinedTies
import Derived.KernelRfl
namespace Go.Proofs.YtaicampenpkneaaDoor
/- THE CELL 'sum', in the pinned program and in every row, IS THE sha256 OF THE DUMP (.gsa) THAT YtaicampenpkneaaDoorProg.lean LOADS. Nothing in Lean hashes anything: it is a label: what it is worth is what the hold of that sum in a sandbox is worth. -/
noncomputable def Tryd.pinned : Pinned := { name := "ytaicampenpkneaadoor", sum := "669a2f83a2ea57c198b4dcb88b8723c2d7070ffb531d7186025f250c07efc409", checked := Tryd.checked }
namespace Rows
def none {H : Type} : Left H := { results := [], args := [] }

/- WHAT THE LISTED PACKAGE-LEVEL VARIABLES READ AS WHEN THE CALL BEGINS. Each datum BY PROGRAM (the guide's laid-datum.mjs) off the statement by which the dump's own 'gosem.cut.vars' lays the variable. In a bare row this is a premise. The card (YtaicampenpkneaaDoorCards.lean) ties it to the program's text. -/
def laid_umpire_op_kinds {H : Type} : DataW H := .agg [.agg [.lit (.int .u8 0), .lit (.string []), .lit (.bool false), .lit (.bool false), .lit (.bool false)], .agg [.lit (.int .u8 0), .lit (.string [114, 101, 97, 100]), .lit (.bool false), .lit (.bool false), .lit (.bool false)], .agg [.lit (.int .u8 0), .lit (.string [119, 114, 105, 116, 101]), .lit (.bool false), .lit (.bool true), .lit (.bool false)], .agg [.lit (.int .u8 0), .lit (.string [99, 97, 115]), .lit (.bool false), .lit (.bool true), .lit (.bool true)], .agg [.lit (.int .u8 1), .lit (.string [101, 110, 113]), .lit (.bool false), .lit (.bool true), .lit (.bool false)], .agg [.lit (.int .u8 1), .lit (.string [100, 101, 113]), .lit (.bool false), .lit (.bool false), .lit (.bool false)], .agg [.lit (.int .u8 2), .lit (.string [103, 101, 116]), .lit (.bool true), .lit (.bool false), .lit (.bool false)], .agg [.lit (.int .u8 2), .lit (.string [112, 117, 116]), .lit (.bool true), .lit (.bool true), .lit (.bool false)], .agg [.lit (.int .u8 2), .lit (.string [100, 101, 108]), .lit (.bool true), .lit (.bool false), .lit (.bool false)], .agg [.lit (.int .u8 2), .lit (.string [115, 119, 97, 112]), .lit (.bool true), .lit (.bool true), .lit (.bool true)], .agg [.lit (.int .u8 3), .lit (.string [97, 99, 113, 117, 105, 114, 101]), .lit (.bool false), .lit (.bool false), .lit (.bool false)], .agg [.lit (.int .u8 3), .lit (.string [114, 101, 108, 101, 97, 115, 101]), .lit (.bool false), .lit (.bool false), .lit (.bool false)]]

/-- 'umpirelaw10.QueueSteps': WHATEVER THE INPUT: true; the input reads as it did. -/
def queueStepsSpec : ChangeSpec := { name := "queueSteps", fn := fun _ => fun
  | [d1, d2] => { results := [.lit (.bool true)], args := [d1, d2] }
  | _ => none }
def queueStepsRow : OpenClaim := { program := "ytaicampenpkneaadoor", sum := "669a2f83a2ea57c198b4dcb88b8723c2d7070ffb531d7186025f250c07efc409", func := "umpire/umpirelaw10.QueueSteps", spec := "queueSteps", unfollowed := true, recurses := true, named := ["umpire/op.kinds"], apart := false, laid := [("umpire/op.kinds", laid_umpire_op_kinds)] }
def QueueStepsSaid : Prop := queueStepsRow.holds Tryd.pinned (OpenSpec.ofChange queueStepsSpec)

/-- ITS FALSE NEIGHBOUR: 'it returns false'. Refute it at one input. -/
def queueStepsWrong : ChangeSpec := { name := "queueSteps", fn := fun _ => fun
  | [d1, d2] => { results := [.lit (.bool false)], args := [d1, d2] }
  | _ => none }
def QueueStepsWrongFalsely : Prop := queueStepsRow.holds Tryd.pinned (OpenSpec.ofChange queueStepsWrong)

/-- 'umpirelaw10.QueueRuns': WHATEVER THE INPUT: true; the input reads as it did. -/
def queueRunsSpec : ChangeSpec := { name := "queueRuns", fn := fun _ => fun
  | [d1, d2] => { results := [.lit (.bool true)], args := [d1, d2] }
  | _ => none }
def queueRunsRow : OpenClaim := { program := "ytaicampenpkneaadoor", sum := "669a2f83a2ea57c198b4dcb88b8723c2d7070ffb531d7186025f250c07efc409", func := "umpire/umpirelaw10.QueueRuns", spec := "queueRuns", unfollowed := true, recurses := true, named := ["umpire/op.kinds"], apart := false, laid := [("umpire/op.kinds", laid_umpire_op_kinds)] }
def QueueRunsSaid : Prop := queueRunsRow.holds Tryd.pinned (OpenSpec.ofChange queueRunsSpec)

/-- ITS FALSE NEIGHBOUR: 'it returns false'. Refute it at one input. -/
def queueRunsWrong : ChangeSpec := { name := "queueRuns", fn := fun _ => fun
  | [d1, d2] => { results := [.lit (.bool false)], args := [d1, d2] }
  | _ => none }
def QueueRunsWrongFalsely : Prop := queueRunsRow.holds Tryd.pinned (OpenSpec.ofChange queueRunsWrong)

/-- 'umpirelaw10.QueueTexts': WHATEVER THE INPUT: true; the input reads as it did. -/
def queueTextsSpec : ChangeSpec := { name := "queueTexts", fn := fun _ => fun
  | [d1, d2, d3] => { results := [.lit (.bool true)], args := [d1, d2, d3] }
  | _ => none }
def queueTextsRow : OpenClaim := { program := "ytaicampenpkneaadoor", sum := "669a2f83a2ea57c198b4dcb88b8723c2d7070ffb531d7186025f250c07efc409", func := "umpire/umpirelaw10.QueueTexts", spec := "queueTexts", unfollowed := true, recurses := true, named := ["umpire/op.kinds"], apart := false, laid := [("umpire/op.kinds", laid_umpire_op_kinds)] }
def QueueTextsSaid : Prop := queueTextsRow.holds Tryd.pinned (OpenSpec.ofChange queueTextsSpec)

/-- ITS FALSE NEIGHBOUR: 'it returns false'. Refute it at one input. -/
def queueTextsWrong : ChangeSpec := { name := "queueTexts", fn := fun _ => fun
  | [d1, d2, d3] => { results := [.lit (.bool false)], args := [d1, d2, d3] }
  | _ => none }
def QueueTextsWrongFalsely : Prop := queueTextsRow.holds Tryd.pinned (OpenSpec.ofChange queueTextsWrong)

/-- 'umpirelaw10.QueueOrder': WHATEVER THE INPUT: true; the input reads as it did. -/
def queueOrderSpec : ChangeSpec := { name := "queueOrder", fn := fun _ => fun
  | [d1, d2] => { results := [.lit (.bool true)], args := [d1, d2] }
  | _ => none }
def queueOrderRow : OpenClaim := { program := "ytaicampenpkneaadoor", sum := "669a2f83a2ea57c198b4dcb88b8723c2d7070ffb531d7186025f250c07efc409", func := "umpire/umpirelaw10.QueueOrder", spec := "queueOrder", unfollowed := true, recurses := true, named := ["umpire/op.kinds"], apart := false, laid := [("umpire/op.kinds", laid_umpire_op_kinds)] }
def QueueOrderSaid : Prop := queueOrderRow.holds Tryd.pinned (OpenSpec.ofChange queueOrderSpec)

/-- ITS FALSE NEIGHBOUR: 'it returns false'. Refute it at one input. -/
def queueOrderWrong : ChangeSpec := { name := "queueOrder", fn := fun _ => fun
  | [d1, d2] => { results := [.lit (.bool false)], args := [d1, d2] }
  | _ => none }
def QueueOrderWrongFalsely : Prop := queueOrderRow.holds Tryd.pinned (OpenSpec.ofChange queueOrderWrong)

/-- 'umpirelaw10.QueueApart': WHATEVER THE INPUT: true; the input reads as it did. -/
def queueApartSpec : ChangeSpec := { name := "queueApart", fn := fun _ => fun
  | [d1, d2, d3] => { results := [.lit (.bool true)], args := [d1, d2, d3] }
  | _ => none }
def queueApartRow : OpenClaim := { program := "ytaicampenpkneaadoor", sum := "669a2f83a2ea57c198b4dcb88b8723c2d7070ffb531d7186025f250c07efc409", func := "umpire/umpirelaw10.QueueApart", spec := "queueApart", unfollowed := true, recurses := true, named := ["umpire/op.kinds"], apart := false, laid := [("umpire/op.kinds", laid_umpire_op_kinds)] }
def QueueApartSaid : Prop := queueApartRow.holds Tryd.pinned (OpenSpec.ofChange queueApartSpec)

/-- ITS FALSE NEIGHBOUR: 'it returns false'. Refute it at one input. -/
def queueApartWrong : ChangeSpec := { name := "queueApart", fn := fun _ => fun
  | [d1, d2, d3] => { results := [.lit (.bool false)], args := [d1, d2, d3] }
  | _ => none }
def QueueApartWrongFalsely : Prop := queueApartRow.holds Tryd.pinned (OpenSpec.ofChange queueApartWrong)

/-- 'umpirelaw10.QueueBack': WHATEVER THE INPUT: true; the input reads as it did. -/
def queueBackSpec : ChangeSpec := { name := "queueBack", fn := fun _ => fun
  | [d1, d2, d3] => { results := [.lit (.bool true)], args := [d1, d2, d3] }
  | _ => none }
def queueBackRow : OpenClaim := { program := "ytaicampenpkneaadoor", sum := "669a2f83a2ea57c198b4dcb88b8723c2d7070ffb531d7186025f250c07efc409", func := "umpire/umpirelaw10.QueueBack", spec := "queueBack", unfollowed := true, recurses := true, named := ["umpire/op.kinds"], apart := false, laid := [("umpire/op.kinds", laid_umpire_op_kinds)] }
def QueueBackSaid : Prop := queueBackRow.holds Tryd.pinned (OpenSpec.ofChange queueBackSpec)

/-- ITS FALSE NEIGHBOUR: 'it returns false'. Refute it at one input. -/
def queueBackWrong : ChangeSpec := { name := "queueBack", fn := fun _ => fun
  | [d1, d2, d3] => { results := [.lit (.bool false)], args := [d1, d2, d3] }
  | _ => none }
def QueueBackWrongFalsely : Prop := queueBackRow.holds Tryd.pinned (OpenSpec.ofChange queueBackWrong)

/-- 'umpirelaw10.QueueKnown': WHATEVER THE INPUT: true; the input reads as it did. -/
def queueKnownSpec : ChangeSpec := { name := "queueKnown", fn := fun _ => fun
  | [] => { results := [.lit (.bool true)], args := [] }
  | _ => none }
def queueKnownRow : OpenClaim := { program := "ytaicampenpkneaadoor", sum := "669a2f83a2ea57c198b4dcb88b8723c2d7070ffb531d7186025f250c07efc409", func := "umpire/umpirelaw10.QueueKnown", spec := "queueKnown", unfollowed := true, recurses := true, named := ["umpire/op.kinds"], apart := false, laid := [("umpire/op.kinds", laid_umpire_op_kinds)] }
def QueueKnownSaid : Prop := queueKnownRow.holds Tryd.pinned (OpenSpec.ofChange queueKnownSpec)

/-- ITS FALSE NEIGHBOUR: 'it returns false'. Refute it at one input. -/
def queueKnownWrong : ChangeSpec := { name := "queueKnown", fn := fun _ => fun
  | [] => { results := [.lit (.bool false)], args := [] }
  | _ => none }
def QueueKnownWrongFalsely : Prop := queueKnownRow.holds Tryd.pinned (OpenSpec.ofChange queueKnownWrong)

/- THE SECOND FORM. 'bulk': how many values and letters a reading holds, each counted each time it is reached (what is shared counts as often as it is met; a slice's spare places count too). A statement '..UptoSaid' is the law's where the arguments, and the package variables that the reading takes, are together of bulk at most 1048576: NARROWER than '..Said'. Prove '..Said' where nothing that the law and all that it calls make is longer than what came in: it says more and counts as full. Else prove '..UptoSaid'. A law counts once. -/
mutual
def uptoBulk {H : Type} : DataW H → Nat
  | .lit (.string bytes) => bytes.length + 1
  | .lit _ => 1
  | .nil => 1
  | .ptr d => uptoBulk d + 1
  | .slice elems spare => uptoBulkAll elems + uptoBulkAll spare + 1
  | .agg parts => uptoBulkAll parts + 1
  | .iface _ d => uptoBulk d + 1
  | .map entries => uptoBulkEntries entries + 1
  | .held _ => 1
def uptoBulkAll {H : Type} : List (DataW H) → Nat
  | [] => 0
  | d :: r => uptoBulk d + uptoBulkAll r
def uptoBulkEntries {H : Type} : List (Lit × DataW H) → Nat
  | [] => 0
  | x :: r => uptoBulkEntry x + uptoBulkEntries r
def uptoBulkEntry {H : Type} : Lit × DataW H → Nat
  | (.string bytes, d) => bytes.length + uptoBulk d + 1
  | (_, d) => uptoBulk d + 1
 end
def uptoSmall : (H : Type) → List (DataW H) → Bool := fun _ ds => decide (uptoBulkAll ds ≤ 1048576)
def OpenSpec.upto (s : _root_.Go.ChangeSpec) : _root_.Go.OpenSpec := { _root_.Go.OpenSpec.ofChange s with cond := some uptoSmall }

/-- 'umpirelaw10.QueueSteps', WHERE WHAT IT READS IS OF BULK AT MOST 1048576: true; the input reads as it did. -/
def queueStepsUptoRow : OpenClaim := { program := "ytaicampenpkneaadoor", sum := "669a2f83a2ea57c198b4dcb88b8723c2d7070ffb531d7186025f250c07efc409", func := "umpire/umpirelaw10.QueueSteps", spec := "queueSteps", unfollowed := true, recurses := true, named := ["umpire/op.kinds"], apart := false, laid := [("umpire/op.kinds", laid_umpire_op_kinds)], narrowed := true }
def QueueStepsUptoSaid : Prop := queueStepsUptoRow.holds Tryd.pinned (OpenSpec.upto queueStepsSpec)

/-- 'umpirelaw10.QueueRuns', WHERE WHAT IT READS IS OF BULK AT MOST 1048576: true; the input reads as it did. -/
def queueRunsUptoRow : OpenClaim := { program := "ytaicampenpkneaadoor", sum := "669a2f83a2ea57c198b4dcb88b8723c2d7070ffb531d7186025f250c07efc409", func := "umpire/umpirelaw10.QueueRuns", spec := "queueRuns", unfollowed := true, recurses := true, named := ["umpire/op.kinds"], apart := false, laid := [("umpire/op.kinds", laid_umpire_op_kinds)], narrowed := true }
def QueueRunsUptoSaid : Prop := queueRunsUptoRow.holds Tryd.pinned (OpenSpec.upto queueRunsSpec)

/-- 'umpirelaw10.QueueTexts', WHERE WHAT IT READS IS OF BULK AT MOST 1048576: true; the input reads as it did. -/
def queueTextsUptoRow : OpenClaim := { program := "ytaicampenpkneaadoor", sum := "669a2f83a2ea57c198b4dcb88b8723c2d7070ffb531d7186025f250c07efc409", func := "umpire/umpirelaw10.QueueTexts", spec := "queueTexts", unfollowed := true, recurses := true, named := ["umpire/op.kinds"], apart := false, laid := [("umpire/op.kinds", laid_umpire_op_kinds)], narrowed := true }
def QueueTextsUptoSaid : Prop := queueTextsUptoRow.holds Tryd.pinned (OpenSpec.upto queueTextsSpec)

/-- 'umpirelaw10.QueueOrder', WHERE WHAT IT READS IS OF BULK AT MOST 1048576: true; the input reads as it did. -/
def queueOrderUptoRow : OpenClaim := { program := "ytaicampenpkneaadoor", sum := "669a2f83a2ea57c198b4dcb88b8723c2d7070ffb531d7186025f250c07efc409", func := "umpire/umpirelaw10.QueueOrder", spec := "queueOrder", unfollowed := true, recurses := true, named := ["umpire/op.kinds"], apart := false, laid := [("umpire/op.kinds", laid_umpire_op_kinds)], narrowed := true }
def QueueOrderUptoSaid : Prop := queueOrderUptoRow.holds Tryd.pinned (OpenSpec.upto queueOrderSpec)

/-- 'umpirelaw10.QueueApart', WHERE WHAT IT READS IS OF BULK AT MOST 1048576: true; the input reads as it did. -/
def queueApartUptoRow : OpenClaim := { program := "ytaicampenpkneaadoor", sum := "669a2f83a2ea57c198b4dcb88b8723c2d7070ffb531d7186025f250c07efc409", func := "umpire/umpirelaw10.QueueApart", spec := "queueApart", unfollowed := true, recurses := true, named := ["umpire/op.kinds"], apart := false, laid := [("umpire/op.kinds", laid_umpire_op_kinds)], narrowed := true }
def QueueApartUptoSaid : Prop := queueApartUptoRow.holds Tryd.pinned (OpenSpec.upto queueApartSpec)

/-- 'umpirelaw10.QueueBack', WHERE WHAT IT READS IS OF BULK AT MOST 1048576: true; the input reads as it did. -/
def queueBackUptoRow : OpenClaim := { program := "ytaicampenpkneaadoor", sum := "669a2f83a2ea57c198b4dcb88b8723c2d7070ffb531d7186025f250c07efc409", func := "umpire/umpirelaw10.QueueBack", spec := "queueBack", unfollowed := true, recurses := true, named := ["umpire/op.kinds"], apart := false, laid := [("umpire/op.kinds", laid_umpire_op_kinds)], narrowed := true }
def QueueBackUptoSaid : Prop := queueBackUptoRow.holds Tryd.pinned (OpenSpec.upto queueBackSpec)

/-- 'umpirelaw10.QueueKnown', WHERE WHAT IT READS IS OF BULK AT MOST 1048576: true; the input reads as it did. -/
def queueKnownUptoRow : OpenClaim := { program := "ytaicampenpkneaadoor", sum := "669a2f83a2ea57c198b4dcb88b8723c2d7070ffb531d7186025f250c07efc409", func := "umpire/umpirelaw10.QueueKnown", spec := "queueKnown", unfollowed := true, recurses := true, named := ["umpire/op.kinds"], apart := false, laid := [("umpire/op.kinds", laid_umpire_op_kinds)], narrowed := true }
def QueueKnownUptoSaid : Prop := queueKnownUptoRow.holds Tryd.pinned (OpenSpec.upto queueKnownSpec)

end Rows
end Go.Proofs.YtaicampenpkneaaDoor
