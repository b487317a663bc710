/-
  NARROWER THAN 'FOR EVERY INPUT', by the rows' own cells (each row's printed sentence says how): LockSteps: laid · LockRuns: laid · LockTexts: laid · LockOne: laid · LockSays: laid · LockBack: laid · LockKnown: laid.
  DERIVED. THE GIVEN ROWS OF THIS SEAT. 7 by the template 'for every input the law returns true; each argument reads behind the call as it read before'; 0 by the template 'total and deterministic' (their statements: YtbjhgdimciibcaaDoorTotals.lean).
  GIVEN WITH THE SEED: the statements are not yours to turn. If you find one false, say at which input.
  Laid BY PROGRAM, IN A SANDBOX (cutbox-rows.mjs): the forced cells as the released guide's own fill.sh prints them over the translation 45ccb16d76ccce6b… (all of the seat's roots in one cut). By AI agents, Wed Nov 11 2026. No macro, syntax, notation, axiom, sorry.
-/
import Derived.Test.YtbjhgdimciibcaaDoorChecked
import GoSem.Claim
import GoSem.ClaimJoined
import GoSem.ClaimMapViews
import Derived.JoinedTies
import Derived.KernelRfl
namespace Go.Proofs.YtbjhgdimciibcaaDoor
/- THE CELL 'sum', in the pinned program and in every row, IS THE sha256 OF THE DUMP (.gsa) THAT YtbjhgdimciibcaaDoorProg.lean LOADS. Nothing in Lean hashes anything: it is a label: what it is worth is what the hold of that sum in a sandbox is worth. -/
noncomputable def Tryd.pinned : Pinned := { name := "ytbjhgdimciibcaadoor", sum := "45ccb16d76ccce6b9427c86a9e0511e4b51b4a6475b927c962ac52d65c57ba4e", checked := Tryd.checked }
namespace Rows
def none {H : Type} : Left H := { results := [], args := [] }

/- WHAT THE LISTED PACKAGE-LEVEL VARIABLES READ AS WHEN THE CALL BEGINS. Each datum BY PROGRAM (the guide's laid-datum.mjs) off the statement by which the dump's own 'gosem.cut.vars' lays the variable. In a bare row this is a premise. The card (YtbjhgdimciibcaaDoorCards.lean) ties it to the program's text. -/
def laid_umpire_op_kinds {H : Type} : DataW H := .agg [.agg [.lit (.int .u8 0), .lit (.string []), .lit (.bool false), .lit (.bool false), .lit (.bool false)], .agg [.lit (.int .u8 0), .lit (.string [114, 101, 97, 100]), .lit (.bool false), .lit (.bool false), .lit (.bool false)], .agg [.lit (.int .u8 0), .lit (.string [119, 114, 105, 116, 101]), .lit (.bool false), .lit (.bool true), .lit (.bool false)], .agg [.lit (.int .u8 0), .lit (.string [99, 97, 115]), .lit (.bool false), .lit (.bool true), .lit (.bool true)], .agg [.lit (.int .u8 1), .lit (.string [101, 110, 113]), .lit (.bool false), .lit (.bool true), .lit (.bool false)], .agg [.lit (.int .u8 1), .lit (.string [100, 101, 113]), .lit (.bool false), .lit (.bool false), .lit (.bool false)], .agg [.lit (.int .u8 2), .lit (.string [103, 101, 116]), .lit (.bool true), .lit (.bool false), .lit (.bool false)], .agg [.lit (.int .u8 2), .lit (.string [112, 117, 116]), .lit (.bool true), .lit (.bool true), .lit (.bool false)], .agg [.lit (.int .u8 2), .lit (.string [100, 101, 108]), .lit (.bool true), .lit (.bool false), .lit (.bool false)], .agg [.lit (.int .u8 2), .lit (.string [115, 119, 97, 112]), .lit (.bool true), .lit (.bool true), .lit (.bool true)], .agg [.lit (.int .u8 3), .lit (.string [97, 99, 113, 117, 105, 114, 101]), .lit (.bool false), .lit (.bool false), .lit (.bool false)], .agg [.lit (.int .u8 3), .lit (.string [114, 101, 108, 101, 97, 115, 101]), .lit (.bool false), .lit (.bool false), .lit (.bool false)]]

/-- 'umpirelaw12.LockSteps': WHATEVER THE INPUT: true; the input reads as it did. -/
def lockStepsSpec : ChangeSpec := { name := "lockSteps", fn := fun _ => fun
  | [d1, d2, d3] => { results := [.lit (.bool true)], args := [d1, d2, d3] }
  | _ => none }
def lockStepsRow : OpenClaim := { program := "ytbjhgdimciibcaadoor", sum := "45ccb16d76ccce6b9427c86a9e0511e4b51b4a6475b927c962ac52d65c57ba4e", func := "umpire/umpirelaw12.LockSteps", spec := "lockSteps", unfollowed := true, recurses := true, named := ["umpire/op.kinds"], apart := false, laid := [("umpire/op.kinds", laid_umpire_op_kinds)] }
def LockStepsSaid : Prop := lockStepsRow.holds Tryd.pinned (OpenSpec.ofChange lockStepsSpec)

/-- ITS FALSE NEIGHBOUR: 'it returns false'. Refute it at one input. -/
def lockStepsWrong : ChangeSpec := { name := "lockSteps", fn := fun _ => fun
  | [d1, d2, d3] => { results := [.lit (.bool false)], args := [d1, d2, d3] }
  | _ => none }
def LockStepsWrongFalsely : Prop := lockStepsRow.holds Tryd.pinned (OpenSpec.ofChange lockStepsWrong)

/-- 'umpirelaw12.LockRuns': WHATEVER THE INPUT: true; the input reads as it did. -/
def lockRunsSpec : ChangeSpec := { name := "lockRuns", fn := fun _ => fun
  | [d1, d2] => { results := [.lit (.bool true)], args := [d1, d2] }
  | _ => none }
def lockRunsRow : OpenClaim := { program := "ytbjhgdimciibcaadoor", sum := "45ccb16d76ccce6b9427c86a9e0511e4b51b4a6475b927c962ac52d65c57ba4e", func := "umpire/umpirelaw12.LockRuns", spec := "lockRuns", unfollowed := true, recurses := true, named := ["umpire/op.kinds"], apart := false, laid := [("umpire/op.kinds", laid_umpire_op_kinds)] }
def LockRunsSaid : Prop := lockRunsRow.holds Tryd.pinned (OpenSpec.ofChange lockRunsSpec)

/-- ITS FALSE NEIGHBOUR: 'it returns false'. Refute it at one input. -/
def lockRunsWrong : ChangeSpec := { name := "lockRuns", fn := fun _ => fun
  | [d1, d2] => { results := [.lit (.bool false)], args := [d1, d2] }
  | _ => none }
def LockRunsWrongFalsely : Prop := lockRunsRow.holds Tryd.pinned (OpenSpec.ofChange lockRunsWrong)

/-- 'umpirelaw12.LockTexts': WHATEVER THE INPUT: true; the input reads as it did. -/
def lockTextsSpec : ChangeSpec := { name := "lockTexts", fn := fun _ => fun
  | [d] => { results := [.lit (.bool true)], args := [d] }
  | _ => none }
def lockTextsRow : OpenClaim := { program := "ytbjhgdimciibcaadoor", sum := "45ccb16d76ccce6b9427c86a9e0511e4b51b4a6475b927c962ac52d65c57ba4e", func := "umpire/umpirelaw12.LockTexts", spec := "lockTexts", unfollowed := true, recurses := true, named := ["umpire/op.kinds"], apart := false, laid := [("umpire/op.kinds", laid_umpire_op_kinds)] }
def LockTextsSaid : Prop := lockTextsRow.holds Tryd.pinned (OpenSpec.ofChange lockTextsSpec)

/-- ITS FALSE NEIGHBOUR: 'it returns false'. Refute it at one input. -/
def lockTextsWrong : ChangeSpec := { name := "lockTexts", fn := fun _ => fun
  | [d] => { results := [.lit (.bool false)], args := [d] }
  | _ => none }
def LockTextsWrongFalsely : Prop := lockTextsRow.holds Tryd.pinned (OpenSpec.ofChange lockTextsWrong)

/-- 'umpirelaw12.LockOne': WHATEVER THE INPUT: true; the input reads as it did. -/
def lockOneSpec : ChangeSpec := { name := "lockOne", fn := fun _ => fun
  | [d] => { results := [.lit (.bool true)], args := [d] }
  | _ => none }
def lockOneRow : OpenClaim := { program := "ytbjhgdimciibcaadoor", sum := "45ccb16d76ccce6b9427c86a9e0511e4b51b4a6475b927c962ac52d65c57ba4e", func := "umpire/umpirelaw12.LockOne", spec := "lockOne", unfollowed := true, recurses := true, named := ["umpire/op.kinds"], apart := false, laid := [("umpire/op.kinds", laid_umpire_op_kinds)] }
def LockOneSaid : Prop := lockOneRow.holds Tryd.pinned (OpenSpec.ofChange lockOneSpec)

/-- ITS FALSE NEIGHBOUR: 'it returns false'. Refute it at one input. -/
def lockOneWrong : ChangeSpec := { name := "lockOne", fn := fun _ => fun
  | [d] => { results := [.lit (.bool false)], args := [d] }
  | _ => none }
def LockOneWrongFalsely : Prop := lockOneRow.holds Tryd.pinned (OpenSpec.ofChange lockOneWrong)

/-- 'umpirelaw12.LockSays': WHATEVER THE INPUT: true; the input reads as it did. -/
def lockSaysSpec : ChangeSpec := { name := "lockSays", fn := fun _ => fun
  | [d1, d2, d3] => { results := [.lit (.bool true)], args := [d1, d2, d3] }
  | _ => none }
def lockSaysRow : OpenClaim := { program := "ytbjhgdimciibcaadoor", sum := "45ccb16d76ccce6b9427c86a9e0511e4b51b4a6475b927c962ac52d65c57ba4e", func := "umpire/umpirelaw12.LockSays", spec := "lockSays", unfollowed := true, recurses := true, named := ["umpire/op.kinds"], apart := false, laid := [("umpire/op.kinds", laid_umpire_op_kinds)] }
def LockSaysSaid : Prop := lockSaysRow.holds Tryd.pinned (OpenSpec.ofChange lockSaysSpec)

/-- ITS FALSE NEIGHBOUR: 'it returns false'. Refute it at one input. -/
def lockSaysWrong : ChangeSpec := { name := "lockSays", fn := fun _ => fun
  | [d1, d2, d3] => { results := [.lit (.bool false)], args := [d1, d2, d3] }
  | _ => none }
def LockSaysWrongFalsely : Prop := lockSaysRow.holds Tryd.pinned (OpenSpec.ofChange lockSaysWrong)

/-- 'umpirelaw12.LockBack': WHATEVER THE INPUT: true; the input reads as it did. -/
def lockBackSpec : ChangeSpec := { name := "lockBack", fn := fun _ => fun
  | [d1, d2] => { results := [.lit (.bool true)], args := [d1, d2] }
  | _ => none }
def lockBackRow : OpenClaim := { program := "ytbjhgdimciibcaadoor", sum := "45ccb16d76ccce6b9427c86a9e0511e4b51b4a6475b927c962ac52d65c57ba4e", func := "umpire/umpirelaw12.LockBack", spec := "lockBack", unfollowed := true, recurses := true, named := ["umpire/op.kinds"], apart := false, laid := [("umpire/op.kinds", laid_umpire_op_kinds)] }
def LockBackSaid : Prop := lockBackRow.holds Tryd.pinned (OpenSpec.ofChange lockBackSpec)

/-- ITS FALSE NEIGHBOUR: 'it returns false'. Refute it at one input. -/
def lockBackWrong : ChangeSpec := { name := "lockBack", fn := fun _ => fun
  | [d1, d2] => { results := [.lit (.bool false)], args := [d1, d2] }
  | _ => none }
def LockBackWrongFalsely : Prop := lockBackRow.holds Tryd.pinned (OpenSpec.ofChange lockBackWrong)

/-- 'umpirelaw12.LockKnown': WHATEVER THE INPUT: true; the input reads as it did. -/
def lockKnownSpec : ChangeSpec := { name := "lockKnown", fn := fun _ => fun
  | [] => { results := [.lit (.bool true)], args := [] }
  | _ => none }
def lockKnownRow : OpenClaim := { program := "ytbjhgdimciibcaadoor", sum := "45ccb16d76ccce6b9427c86a9e0511e4b51b4a6475b927c962ac52d65c57ba4e", func := "umpire/umpirelaw12.LockKnown", spec := "lockKnown", unfollowed := true, recurses := true, named := ["umpire/op.kinds"], apart := false, laid := [("umpire/op.kinds", laid_umpire_op_kinds)] }
def LockKnownSaid : Prop := lockKnownRow.holds Tryd.pinned (OpenSpec.ofChange lockKnownSpec)

/-- ITS FALSE NEIGHBOUR: 'it returns false'. Refute it at one input. -/
def lockKnownWrong : ChangeSpec := { name := "lockKnown", fn := fun _ => fun
  | [] => { results := [.lit (.bool false)], args := [] }
  | _ => none }
def LockKnownWrongFalsely : Prop := lockKnownRow.holds Tryd.pinned (OpenSpec.ofChange lockKnownWrong)

/- THE SECOND FORM. 'bulk': how many values and letters a reading holds, each counted each time it is reached (what is shared counts as often as it is met; a slice's spare places count too). A statement '..UptoSaid' is the law's where the arguments, and the package variables that the reading takes, are together of bulk at most 1048576: NARROWER than '..Said'. Prove '..Said' where nothing that the law and all that it calls make is longer than what came in: it says more and counts as full. Else prove '..UptoSaid'. A law counts once. -/
mutual
def uptoBulk {H : Type} : DataW H → Nat
  | .lit (.string bytes) => bytes.length + 1
  | .lit _ => 1
  | .nil => 1
  | .ptr d => uptoBulk d + 1
  | .slice elems spare => uptoBulkAll elems + uptoBulkAll spare + 1
  | .agg parts => uptoBulkAll parts + 1
  | .iface _ d => uptoBulk d + 1
  | .map entries => uptoBulkEntries entries + 1
  | .held _ => 1
def uptoBulkAll {H : Type} : List (DataW H) → Nat
  | [] => 0
  | d :: r => uptoBulk d + uptoBulkAll r
def uptoBulkEntries {H : Type} : List (Lit × DataW H) → Nat
  | [] => 0
  | x :: r => uptoBulkEntry x + uptoBulkEntries r
def uptoBulkEntry {H : Type} : Lit × DataW H → Nat
  | (.string bytes, d) => bytes.length + uptoBulk d + 1
  | (_, d) => uptoBulk d + 1
 end
def uptoSmall : (H : Type) → List (DataW H) → Bool := fun _ ds => decide (uptoBulkAll ds ≤ 1048576)
def OpenSpec.upto (s : _root_.Go.ChangeSpec) : _root_.Go.OpenSpec := { _root_.Go.OpenSpec.ofChange s with cond := some uptoSmall }

/-- 'umpirelaw12.LockSteps', WHERE WHAT IT READS IS OF BULK AT MOST 1048576: true; the input reads as it did. -/
def lockStepsUptoRow : OpenClaim := { program := "ytbjhgdimciibcaadoor", sum := "45ccb16d76ccce6b9427c86a9e0511e4b51b4a6475b927c962ac52d65c57ba4e", func := "umpire/umpirelaw12.LockSteps", spec := "lockSteps", unfollowed := true, recurses := true, named := ["umpire/op.kinds"], apart := false, laid := [("umpire/op.kinds", laid_umpire_op_kinds)], narrowed := true }
def LockStepsUptoSaid : Prop := lockStepsUptoRow.holds Tryd.pinned (OpenSpec.upto lockStepsSpec)

/-- 'umpirelaw12.LockRuns', WHERE WHAT IT READS IS OF BULK AT MOST 1048576: true; the input reads as it did. -/
def lockRunsUptoRow : OpenClaim := { program := "ytbjhgdimciibcaadoor", sum := "45ccb16d76ccce6b9427c86a9e0511e4b51b4a6475b927c962ac52d65c57ba4e", func := "umpire/umpirelaw12.LockRuns", spec := "lockRuns", unfollowed := true, recurses := true, named := ["umpire/op.kinds"], apart := false, laid := [("umpire/op.kinds", laid_umpire_op_kinds)], narrowed := true }
def LockRunsUptoSaid : Prop := lockRunsUptoRow.holds Tryd.pinned (OpenSpec.upto lockRunsSpec)

/-- 'umpirelaw12.LockTexts', WHERE WHAT IT READS IS OF BULK AT MOST 1048576: true; the input reads as it did. -/
def lockTextsUptoRow : OpenClaim := { program := "ytbjhgdimciibcaadoor", sum := "45ccb16d76ccce6b9427c86a9e0511e4b51b4a6475b927c962ac52d65c57ba4e", func := "umpire/umpirelaw12.LockTexts", spec := "lockTexts", unfollowed := true, recurses := true, named := ["umpire/op.kinds"], apart := false, laid := [("umpire/op.kinds", laid_umpire_op_kinds)], narrowed := true }
def LockTextsUptoSaid : Prop := lockTextsUptoRow.holds Tryd.pinned (OpenSpec.upto lockTextsSpec)

/-- 'umpirelaw12.LockOne', WHERE WHAT IT READS IS OF BULK AT MOST 1048576: true; the input reads as it did. -/
def lockOneUptoRow : OpenClaim := { program := "ytbjhgdimciibcaadoor", sum := "45ccb16d76ccce6b9427c86a9e0511e4b51b4a6475b927c962ac52d65c57ba4e", func := "umpire/umpirelaw12.LockOne", spec := "lockOne", unfollowed := true, recurses := true, named := ["umpire/op.kinds"], apart := false, laid := [("umpire/op.kinds", laid_umpire_op_kinds)], narrowed := true }
def LockOneUptoSaid : Prop := lockOneUptoRow.holds Tryd.pinned (OpenSpec.upto lockOneSpec)

/-- 'umpirelaw12.LockSays', WHERE WHAT IT READS IS OF BULK AT MOST 1048576: true; the input reads as it did. -/
def lockSaysUptoRow : OpenClaim := { program := "ytbjhgdimciibcaadoor", sum := "45ccb16d76ccce6b9427c86a9e0511e4b51b4a6475b927c962ac52d65c57ba4e", func := "umpire/umpirelaw12.LockSays", spec := "lockSays", unfollowed := true, recurses := true, named := ["umpire/op.kinds"], apart := false, laid := [("umpire/op.kinds", laid_umpire_op_kinds)], narrowed := true }
def LockSaysUptoSaid : Prop := lockSaysUptoRow.holds Tryd.pinned (OpenSpec.upto lockSaysSpec)

/-- 'umpirelaw12.LockBack', WHERE WHAT IT READS IS OF BULK AT MOST 1048576: true; the input reads as it did. -/
def lockBackUptoRow : OpenClaim := { program := "ytbjhgdimciibcaadoor", sum := "45ccb16d76ccce6b9427c86a9e0511e4b51b4a6475b927c962ac52d65c57ba4e", func := "umpire/umpirelaw12.LockBack", spec := "lockBack", unfollowed := true, recurses := true, named := ["umpire/op.kinds"], apart := false, laid := [("umpire/op.kinds", laid_umpire_op_kinds)], narrowed := true }
def LockBackUptoSaid : Prop := lockBackUptoRow.holds Tryd.pinned (OpenSpec.upto lockBackSpec)

/-- 'umpirelaw12.LockKnown', WHERE WHAT IT READS IS OF BULK AT MOST 1048576: true; the input reads as it did. -/
def lockKnownUptoRow : OpenClaim := { program := "ytbjhgdimciibcaadoor", sum := "45ccb16d76ccce6b9427c86a9e0511e4b51b4a6475b927c962ac52d65c57ba4e", func := "umpire/umpirelaw12.LockKnown", spec := "lockKnown", unfollowed := true, recurses := true, named := ["umpire/op.kinds"], apart := false, laid := [("umpire/op.kinds", laid_umpire_op_kinds)], narrowed := true }
def LockKnownUptoSaid : Prop := lockKnownUptoRow.holds Tryd.pinned (OpenSpec.upto lockKnownSpec)

end Rows
end Go.Proofs.YtbjhgdimciibcaaDoor
