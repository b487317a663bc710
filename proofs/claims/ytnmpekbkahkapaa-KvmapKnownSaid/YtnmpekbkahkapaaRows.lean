/-
  No cell of these rows narrows 'for every input' (looked for: loops, veiled, ifaces, maps, wideKeys, modest, calm, conditions, laid).
  DERIVED. THE GIVEN ROWS OF THIS SEAT. 7 by the template 'for every input the law returns true; each argument reads behind the call as it read before'; 0 by the template 'total and deterministic' (their statements: YtnmpekbkahkapaaTotals.lean).
  GIVEN WITH THE SEED: the statements are not yours to turn. If you find one false, say at which input.
  Laid BY PROGRAM, IN A SANDBOX (cutbox-rows.mjs): the forced cells as the released guide's own fill.sh prints them over the translation d952d977a85fe20b… (all of the seat's roots in one cut). By AI agents, Wed Nov 11 2026. No macro, syntax, notation, axiom, sorry.
-/
import Derived.Test.YtnmpekbkahkapaaChecked
import GoSem.Claim
import GoSem.ClaimJoined
import GoSem.ClaimMapViews
import Derived.JoinedTies
import Derived.KernelRfl
namespace Go.Proofs.Ytnmpekbkahkapaa
/- THE CELL 'sum', in the pinned program and in every row, IS THE sha256 OF THE DUMP (.gsa) THAT YtnmpekbkahkapaaProg.lean LOADS. Nothing in Lean hashes anything: it is a label: what it is worth is what the hold of that sum in a sandbox is worth. -/
noncomputable def Try.pinned : Pinned := { name := "ytnmpekbkahkapaa", sum := "d952d977a85fe20b0388e4f94ad2aa0e656c40c17b2bcaa565c1f484b2cfda1e", checked := Try.checked }
namespace Rows
def none {H : Type} : Left H := { results := [], args := [] }

/-- 'umpirelaw11.KvmapSteps': WHATEVER THE INPUT: true; the input reads as it did. -/
def kvmapStepsSpec : ChangeSpec := { name := "kvmapSteps", fn := fun _ => fun
  | [d1, d2] => { results := [.lit (.bool true)], args := [d1, d2] }
  | _ => none }
def kvmapStepsRow : OpenClaim := { program := "ytnmpekbkahkapaa", sum := "d952d977a85fe20b0388e4f94ad2aa0e656c40c17b2bcaa565c1f484b2cfda1e", func := "umpire/umpirelaw11.KvmapSteps", spec := "kvmapSteps", unfollowed := true, recurses := true, apart := false }
def KvmapStepsSaid : Prop := kvmapStepsRow.holds Try.pinned (OpenSpec.ofChange kvmapStepsSpec)

/-- ITS FALSE NEIGHBOUR: 'it returns false'. Refute it at one input. -/
def kvmapStepsWrong : ChangeSpec := { name := "kvmapSteps", fn := fun _ => fun
  | [d1, d2] => { results := [.lit (.bool false)], args := [d1, d2] }
  | _ => none }
def KvmapStepsWrongFalsely : Prop := kvmapStepsRow.holds Try.pinned (OpenSpec.ofChange kvmapStepsWrong)

/-- 'umpirelaw11.KvmapRuns': WHATEVER THE INPUT: true; the input reads as it did. -/
def kvmapRunsSpec : ChangeSpec := { name := "kvmapRuns", fn := fun _ => fun
  | [d1, d2] => { results := [.lit (.bool true)], args := [d1, d2] }
  | _ => none }
def kvmapRunsRow : OpenClaim := { program := "ytnmpekbkahkapaa", sum := "d952d977a85fe20b0388e4f94ad2aa0e656c40c17b2bcaa565c1f484b2cfda1e", func := "umpire/umpirelaw11.KvmapRuns", spec := "kvmapRuns", unfollowed := true, recurses := true, apart := false }
def KvmapRunsSaid : Prop := kvmapRunsRow.holds Try.pinned (OpenSpec.ofChange kvmapRunsSpec)

/-- ITS FALSE NEIGHBOUR: 'it returns false'. Refute it at one input. -/
def kvmapRunsWrong : ChangeSpec := { name := "kvmapRuns", fn := fun _ => fun
  | [d1, d2] => { results := [.lit (.bool false)], args := [d1, d2] }
  | _ => none }
def KvmapRunsWrongFalsely : Prop := kvmapRunsRow.holds Try.pinned (OpenSpec.ofChange kvmapRunsWrong)

/-- 'umpirelaw11.KvmapCodes': WHATEVER THE INPUT: true; the input reads as it did. -/
def kvmapCodesSpec : ChangeSpec := { name := "kvmapCodes", fn := fun _ => fun
  | [d1, d2, d3] => { results := [.lit (.bool true)], args := [d1, d2, d3] }
  | _ => none }
def kvmapCodesRow : OpenClaim := { program := "ytnmpekbkahkapaa", sum := "d952d977a85fe20b0388e4f94ad2aa0e656c40c17b2bcaa565c1f484b2cfda1e", func := "umpire/umpirelaw11.KvmapCodes", spec := "kvmapCodes", unfollowed := true, recurses := true, apart := false }
def KvmapCodesSaid : Prop := kvmapCodesRow.holds Try.pinned (OpenSpec.ofChange kvmapCodesSpec)

/-- ITS FALSE NEIGHBOUR: 'it returns false'. Refute it at one input. -/
def kvmapCodesWrong : ChangeSpec := { name := "kvmapCodes", fn := fun _ => fun
  | [d1, d2, d3] => { results := [.lit (.bool false)], args := [d1, d2, d3] }
  | _ => none }
def KvmapCodesWrongFalsely : Prop := kvmapCodesRow.holds Try.pinned (OpenSpec.ofChange kvmapCodesWrong)

/-- 'umpirelaw11.KvmapKnown': WHATEVER THE INPUT: true; the input reads as it did. -/
def kvmapKnownSpec : ChangeSpec := { name := "kvmapKnown", fn := fun _ => fun
  | [] => { results := [.lit (.bool true)], args := [] }
  | _ => none }
def kvmapKnownRow : OpenClaim := { program := "ytnmpekbkahkapaa", sum := "d952d977a85fe20b0388e4f94ad2aa0e656c40c17b2bcaa565c1f484b2cfda1e", func := "umpire/umpirelaw11.KvmapKnown", spec := "kvmapKnown", unfollowed := true, recurses := true, apart := false }
def KvmapKnownSaid : Prop := kvmapKnownRow.holds Try.pinned (OpenSpec.ofChange kvmapKnownSpec)

/-- ITS FALSE NEIGHBOUR: 'it returns false'. Refute it at one input. -/
def kvmapKnownWrong : ChangeSpec := { name := "kvmapKnown", fn := fun _ => fun
  | [] => { results := [.lit (.bool false)], args := [] }
  | _ => none }
def KvmapKnownWrongFalsely : Prop := kvmapKnownRow.holds Try.pinned (OpenSpec.ofChange kvmapKnownWrong)

/-- 'umpirelaw11.KvmapApart': WHATEVER THE INPUT: true; the input reads as it did. -/
def kvmapApartSpec : ChangeSpec := { name := "kvmapApart", fn := fun _ => fun
  | [d1, d2, d3] => { results := [.lit (.bool true)], args := [d1, d2, d3] }
  | _ => none }
def kvmapApartRow : OpenClaim := { program := "ytnmpekbkahkapaa", sum := "d952d977a85fe20b0388e4f94ad2aa0e656c40c17b2bcaa565c1f484b2cfda1e", func := "umpire/umpirelaw11.KvmapApart", spec := "kvmapApart", unfollowed := true, recurses := true, apart := false }
def KvmapApartSaid : Prop := kvmapApartRow.holds Try.pinned (OpenSpec.ofChange kvmapApartSpec)

/-- ITS FALSE NEIGHBOUR: 'it returns false'. Refute it at one input. -/
def kvmapApartWrong : ChangeSpec := { name := "kvmapApart", fn := fun _ => fun
  | [d1, d2, d3] => { results := [.lit (.bool false)], args := [d1, d2, d3] }
  | _ => none }
def KvmapApartWrongFalsely : Prop := kvmapApartRow.holds Try.pinned (OpenSpec.ofChange kvmapApartWrong)

/-- 'umpirelaw11.KvmapLast': WHATEVER THE INPUT: true; the input reads as it did. -/
def kvmapLastSpec : ChangeSpec := { name := "kvmapLast", fn := fun _ => fun
  | [d] => { results := [.lit (.bool true)], args := [d] }
  | _ => none }
def kvmapLastRow : OpenClaim := { program := "ytnmpekbkahkapaa", sum := "d952d977a85fe20b0388e4f94ad2aa0e656c40c17b2bcaa565c1f484b2cfda1e", func := "umpire/umpirelaw11.KvmapLast", spec := "kvmapLast", unfollowed := true, recurses := true, apart := false }
def KvmapLastSaid : Prop := kvmapLastRow.holds Try.pinned (OpenSpec.ofChange kvmapLastSpec)

/-- ITS FALSE NEIGHBOUR: 'it returns false'. Refute it at one input. -/
def kvmapLastWrong : ChangeSpec := { name := "kvmapLast", fn := fun _ => fun
  | [d] => { results := [.lit (.bool false)], args := [d] }
  | _ => none }
def KvmapLastWrongFalsely : Prop := kvmapLastRow.holds Try.pinned (OpenSpec.ofChange kvmapLastWrong)

/-- 'umpirelaw11.KvmapCode': WHATEVER THE INPUT: true; the input reads as it did. -/
def kvmapCodeSpec : ChangeSpec := { name := "kvmapCode", fn := fun _ => fun
  | [d1, d2, d3] => { results := [.lit (.bool true)], args := [d1, d2, d3] }
  | _ => none }
def kvmapCodeRow : OpenClaim := { program := "ytnmpekbkahkapaa", sum := "d952d977a85fe20b0388e4f94ad2aa0e656c40c17b2bcaa565c1f484b2cfda1e", func := "umpire/umpirelaw11.KvmapCode", spec := "kvmapCode", unfollowed := true, recurses := true, apart := false }
def KvmapCodeSaid : Prop := kvmapCodeRow.holds Try.pinned (OpenSpec.ofChange kvmapCodeSpec)

/-- ITS FALSE NEIGHBOUR: 'it returns false'. Refute it at one input. -/
def kvmapCodeWrong : ChangeSpec := { name := "kvmapCode", fn := fun _ => fun
  | [d1, d2, d3] => { results := [.lit (.bool false)], args := [d1, d2, d3] }
  | _ => none }
def KvmapCodeWrongFalsely : Prop := kvmapCodeRow.holds Try.pinned (OpenSpec.ofChange kvmapCodeWrong)

/- THE SECOND FORM. 'bulk': how many values and letters a reading holds, each counted each time it is reached (what is shared counts as often as it is met; a slice's spare places count too). A statement '..UptoSaid' is the law's where the arguments, and the package variables that the reading takes, are together of bulk at most 1048576: NARROWER than '..Said'. Prove '..Said' where nothing that the law and all that it calls make is longer than what came in: it says more and counts as full. Else prove '..UptoSaid'. A law counts once. -/
mutual
def uptoBulk {H : Type} : DataW H → Nat
  | .lit (.string bytes) => bytes.length + 1
  | .lit _ => 1
  | .nil => 1
  | .ptr d => uptoBulk d + 1
  | .slice elems spare => uptoBulkAll elems + uptoBulkAll spare + 1
  | .agg parts => uptoBulkAll parts + 1
  | .iface _ d => uptoBulk d + 1
  | .map entries => uptoBulkEntries entries + 1
  | .held _ => 1
def uptoBulkAll {H : Type} : List (DataW H) → Nat
  | [] => 0
  | d :: r => uptoBulk d + uptoBulkAll r
def uptoBulkEntries {H : Type} : List (Lit × DataW H) → Nat
  | [] => 0
  | x :: r => uptoBulkEntry x + uptoBulkEntries r
def uptoBulkEntry {H : Type} : Lit × DataW H → Nat
  | (.string bytes, d) => bytes.length + uptoBulk d + 1
  | (_, d) => uptoBulk d + 1
 end
def uptoSmall : (H : Type) → List (DataW H) → Bool := fun _ ds => decide (uptoBulkAll ds ≤ 1048576)
def OpenSpec.upto (s : _root_.Go.ChangeSpec) : _root_.Go.OpenSpec := { _root_.Go.OpenSpec.ofChange s with cond := some uptoSmall }

/-- 'umpirelaw11.KvmapSteps', WHERE WHAT IT READS IS OF BULK AT MOST 1048576: true; the input reads as it did. -/
def kvmapStepsUptoRow : OpenClaim := { program := "ytnmpekbkahkapaa", sum := "d952d977a85fe20b0388e4f94ad2aa0e656c40c17b2bcaa565c1f484b2cfda1e", func := "umpire/umpirelaw11.KvmapSteps", spec := "kvmapSteps", unfollowed := true, recurses := true, apart := false, narrowed := true }
def KvmapStepsUptoSaid : Prop := kvmapStepsUptoRow.holds Try.pinned (OpenSpec.upto kvmapStepsSpec)

/-- 'umpirelaw11.KvmapRuns', WHERE WHAT IT READS IS OF BULK AT MOST 1048576: true; the input reads as it did. -/
def kvmapRunsUptoRow : OpenClaim := { program := "ytnmpekbkahkapaa", sum := "d952d977a85fe20b0388e4f94ad2aa0e656c40c17b2bcaa565c1f484b2cfda1e", func := "umpire/umpirelaw11.KvmapRuns", spec := "kvmapRuns", unfollowed := true, recurses := true, apart := false, narrowed := true }
def KvmapRunsUptoSaid : Prop := kvmapRunsUptoRow.holds Try.pinned (OpenSpec.upto kvmapRunsSpec)

/-- 'umpirelaw11.KvmapCodes', WHERE WHAT IT READS IS OF BULK AT MOST 1048576: true; the input reads as it did. -/
def kvmapCodesUptoRow : OpenClaim := { program := "ytnmpekbkahkapaa", sum := "d952d977a85fe20b0388e4f94ad2aa0e656c40c17b2bcaa565c1f484b2cfda1e", func := "umpire/umpirelaw11.KvmapCodes", spec := "kvmapCodes", unfollowed := true, recurses := true, apart := false, narrowed := true }
def KvmapCodesUptoSaid : Prop := kvmapCodesUptoRow.holds Try.pinned (OpenSpec.upto kvmapCodesSpec)

/-- 'umpirelaw11.KvmapKnown', WHERE WHAT IT READS IS OF BULK AT MOST 1048576: true; the input reads as it did. -/
def kvmapKnownUptoRow : OpenClaim := { program := "ytnmpekbkahkapaa", sum := "d952d977a85fe20b0388e4f94ad2aa0e656c40c17b2bcaa565c1f484b2cfda1e", func := "umpire/umpirelaw11.KvmapKnown", spec := "kvmapKnown", unfollowed := true, recurses := true, apart := false, narrowed := true }
def KvmapKnownUptoSaid : Prop := kvmapKnownUptoRow.holds Try.pinned (OpenSpec.upto kvmapKnownSpec)

/-- 'umpirelaw11.KvmapApart', WHERE WHAT IT READS IS OF BULK AT MOST 1048576: true; the input reads as it did. -/
def kvmapApartUptoRow : OpenClaim := { program := "ytnmpekbkahkapaa", sum := "d952d977a85fe20b0388e4f94ad2aa0e656c40c17b2bcaa565c1f484b2cfda1e", func := "umpire/umpirelaw11.KvmapApart", spec := "kvmapApart", unfollowed := true, recurses := true, apart := false, narrowed := true }
def KvmapApartUptoSaid : Prop := kvmapApartUptoRow.holds Try.pinned (OpenSpec.upto kvmapApartSpec)

/-- 'umpirelaw11.KvmapLast', WHERE WHAT IT READS IS OF BULK AT MOST 1048576: true; the input reads as it did. -/
def kvmapLastUptoRow : OpenClaim := { program := "ytnmpekbkahkapaa", sum := "d952d977a85fe20b0388e4f94ad2aa0e656c40c17b2bcaa565c1f484b2cfda1e", func := "umpire/umpirelaw11.KvmapLast", spec := "kvmapLast", unfollowed := true, recurses := true, apart := false, narrowed := true }
def KvmapLastUptoSaid : Prop := kvmapLastUptoRow.holds Try.pinned (OpenSpec.upto kvmapLastSpec)

/-- 'umpirelaw11.KvmapCode', WHERE WHAT IT READS IS OF BULK AT MOST 1048576: true; the input reads as it did. -/
def kvmapCodeUptoRow : OpenClaim := { program := "ytnmpekbkahkapaa", sum := "d952d977a85fe20b0388e4f94ad2aa0e656c40c17b2bcaa565c1f484b2cfda1e", func := "umpire/umpirelaw11.KvmapCode", spec := "kvmapCode", unfollowed := true, recurses := true, apart := false, narrowed := true }
def KvmapCodeUptoSaid : Prop := kvmapCodeUptoRow.holds Try.pinned (OpenSpec.upto kvmapCodeSpec)

end Rows
end Go.Proofs.Ytnmpekbkahkapaa
