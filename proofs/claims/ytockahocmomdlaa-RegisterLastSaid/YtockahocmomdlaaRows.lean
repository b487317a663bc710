/-
  No cell of these rows narrows 'for every input' (looked for: loops, veiled, ifaces, maps, wideKeys, modest, calm, conditions, laid).
  DERIVED. THE GIVEN ROWS OF THIS SEAT. 5 by the template 'for every input the law returns true; each argument reads behind the call as it read before'; 0 by the template 'total and deterministic' (their statements: YtockahocmomdlaaTotals.lean).
  GIVEN WITH THE SEED: the statements are not yours to turn. If you find one false, say at which input.
  Laid BY PROGRAM, IN A SANDBOX (cutbox-rows.mjs): the forced cells as the released guide's own fill.sh prints them over the translation f7c58f06d5959b4d… (all of the seat's roots in one cut). By AI agents, Wed Nov 11 2026. No macro, syntax, notation, axiom, sorry.
-/
import Derived.Test.YtockahocmomdlaaChecked
import GoSem.Claim
import GoSem.ClaimJoined
import GoSem.ClaimMapViews
import Derived.JoinedTies
import Derived.KernelRfl
namespace Go.Proofs.Ytockahocmomdlaa
/- THE CELL 'sum', in the pinned program and in every row, IS THE sha256 OF THE DUMP (.gsa) THAT YtockahocmomdlaaProg.lean LOADS. Nothing in Lean hashes anything: it is a label: what it is worth is what the hold of that sum in a sandbox is worth. -/
noncomputable def Try.pinned : Pinned := { name := "ytockahocmomdlaa", sum := "f7c58f06d5959b4d08688634c53de90a22ab4322b15a9724c8712aaae1d69f37", checked := Try.checked }
namespace Rows
def none {H : Type} : Left H := { results := [], args := [] }

/-- 'umpirelaw09.RegisterSteps': WHATEVER THE INPUT: true; the input reads as it did. -/
def registerStepsSpec : ChangeSpec := { name := "registerSteps", fn := fun _ => fun
  | [d1, d2] => { results := [.lit (.bool true)], args := [d1, d2] }
  | _ => none }
def registerStepsRow : OpenClaim := { program := "ytockahocmomdlaa", sum := "f7c58f06d5959b4d08688634c53de90a22ab4322b15a9724c8712aaae1d69f37", func := "umpire/umpirelaw09.RegisterSteps", spec := "registerSteps", unfollowed := true, recurses := true, apart := false }
def RegisterStepsSaid : Prop := registerStepsRow.holds Try.pinned (OpenSpec.ofChange registerStepsSpec)

/-- ITS FALSE NEIGHBOUR: 'it returns false'. Refute it at one input. -/
def registerStepsWrong : ChangeSpec := { name := "registerSteps", fn := fun _ => fun
  | [d1, d2] => { results := [.lit (.bool false)], args := [d1, d2] }
  | _ => none }
def RegisterStepsWrongFalsely : Prop := registerStepsRow.holds Try.pinned (OpenSpec.ofChange registerStepsWrong)

/-- 'umpirelaw09.RegisterRuns': WHATEVER THE INPUT: true; the input reads as it did. -/
def registerRunsSpec : ChangeSpec := { name := "registerRuns", fn := fun _ => fun
  | [d1, d2] => { results := [.lit (.bool true)], args := [d1, d2] }
  | _ => none }
def registerRunsRow : OpenClaim := { program := "ytockahocmomdlaa", sum := "f7c58f06d5959b4d08688634c53de90a22ab4322b15a9724c8712aaae1d69f37", func := "umpire/umpirelaw09.RegisterRuns", spec := "registerRuns", unfollowed := true, recurses := true, apart := false }
def RegisterRunsSaid : Prop := registerRunsRow.holds Try.pinned (OpenSpec.ofChange registerRunsSpec)

/-- ITS FALSE NEIGHBOUR: 'it returns false'. Refute it at one input. -/
def registerRunsWrong : ChangeSpec := { name := "registerRuns", fn := fun _ => fun
  | [d1, d2] => { results := [.lit (.bool false)], args := [d1, d2] }
  | _ => none }
def RegisterRunsWrongFalsely : Prop := registerRunsRow.holds Try.pinned (OpenSpec.ofChange registerRunsWrong)

/-- 'umpirelaw09.RegisterKnown': WHATEVER THE INPUT: true; the input reads as it did. -/
def registerKnownSpec : ChangeSpec := { name := "registerKnown", fn := fun _ => fun
  | [] => { results := [.lit (.bool true)], args := [] }
  | _ => none }
def registerKnownRow : OpenClaim := { program := "ytockahocmomdlaa", sum := "f7c58f06d5959b4d08688634c53de90a22ab4322b15a9724c8712aaae1d69f37", func := "umpire/umpirelaw09.RegisterKnown", spec := "registerKnown", unfollowed := true, recurses := true, apart := false }
def RegisterKnownSaid : Prop := registerKnownRow.holds Try.pinned (OpenSpec.ofChange registerKnownSpec)

/-- ITS FALSE NEIGHBOUR: 'it returns false'. Refute it at one input. -/
def registerKnownWrong : ChangeSpec := { name := "registerKnown", fn := fun _ => fun
  | [] => { results := [.lit (.bool false)], args := [] }
  | _ => none }
def RegisterKnownWrongFalsely : Prop := registerKnownRow.holds Try.pinned (OpenSpec.ofChange registerKnownWrong)

/-- 'umpirelaw09.RegisterLast': WHATEVER THE INPUT: true; the input reads as it did. -/
def registerLastSpec : ChangeSpec := { name := "registerLast", fn := fun _ => fun
  | [d1, d2] => { results := [.lit (.bool true)], args := [d1, d2] }
  | _ => none }
def registerLastRow : OpenClaim := { program := "ytockahocmomdlaa", sum := "f7c58f06d5959b4d08688634c53de90a22ab4322b15a9724c8712aaae1d69f37", func := "umpire/umpirelaw09.RegisterLast", spec := "registerLast", unfollowed := true, recurses := true, apart := false }
def RegisterLastSaid : Prop := registerLastRow.holds Try.pinned (OpenSpec.ofChange registerLastSpec)

/-- ITS FALSE NEIGHBOUR: 'it returns false'. Refute it at one input. -/
def registerLastWrong : ChangeSpec := { name := "registerLast", fn := fun _ => fun
  | [d1, d2] => { results := [.lit (.bool false)], args := [d1, d2] }
  | _ => none }
def RegisterLastWrongFalsely : Prop := registerLastRow.holds Try.pinned (OpenSpec.ofChange registerLastWrong)

/-- 'umpirelaw09.RegisterCode': WHATEVER THE INPUT: true; the input reads as it did. -/
def registerCodeSpec : ChangeSpec := { name := "registerCode", fn := fun _ => fun
  | [d1, d2, d3] => { results := [.lit (.bool true)], args := [d1, d2, d3] }
  | _ => none }
def registerCodeRow : OpenClaim := { program := "ytockahocmomdlaa", sum := "f7c58f06d5959b4d08688634c53de90a22ab4322b15a9724c8712aaae1d69f37", func := "umpire/umpirelaw09.RegisterCode", spec := "registerCode", unfollowed := true, recurses := true, apart := false }
def RegisterCodeSaid : Prop := registerCodeRow.holds Try.pinned (OpenSpec.ofChange registerCodeSpec)

/-- ITS FALSE NEIGHBOUR: 'it returns false'. Refute it at one input. -/
def registerCodeWrong : ChangeSpec := { name := "registerCode", fn := fun _ => fun
  | [d1, d2, d3] => { results := [.lit (.bool false)], args := [d1, d2, d3] }
  | _ => none }
def RegisterCodeWrongFalsely : Prop := registerCodeRow.holds Try.pinned (OpenSpec.ofChange registerCodeWrong)

/- THE SECOND FORM. 'bulk': how many values and letters a reading holds, each counted each time it is reached (what is shared counts as often as it is met; a slice's spare places count too). A statement '..UptoSaid' is the law's where the arguments, and the package variables that the reading takes, are together of bulk at most 1048576: NARROWER than '..Said'. Prove '..Said' where nothing that the law and all that it calls make is longer than what came in: it says more and counts as full. Else prove '..UptoSaid'. A law counts once. -/
mutual
def uptoBulk {H : Type} : DataW H → Nat
  | .lit (.string bytes) => bytes.length + 1
  | .lit _ => 1
  | .nil => 1
  | .ptr d => uptoBulk d + 1
  | .slice elems spare => uptoBulkAll elems + uptoBulkAll spare + 1
  | .agg parts => uptoBulkAll parts + 1
  | .iface _ d => uptoBulk d + 1
  | .map entries => uptoBulkEntries entries + 1
  | .held _ => 1
def uptoBulkAll {H : Type} : List (DataW H) → Nat
  | [] => 0
  | d :: r => uptoBulk d + uptoBulkAll r
def uptoBulkEntries {H : Type} : List (Lit × DataW H) → Nat
  | [] => 0
  | x :: r => uptoBulkEntry x + uptoBulkEntries r
def uptoBulkEntry {H : Type} : Lit × DataW H → Nat
  | (.string bytes, d) => bytes.length + uptoBulk d + 1
  | (_, d) => uptoBulk d + 1
 end
def uptoSmall : (H : Type) → List (DataW H) → Bool := fun _ ds => decide (uptoBulkAll ds ≤ 1048576)
def OpenSpec.upto (s : _root_.Go.ChangeSpec) : _root_.Go.OpenSpec := { _root_.Go.OpenSpec.ofChange s with cond := some uptoSmall }

/-- 'umpirelaw09.RegisterSteps', WHERE WHAT IT READS IS OF BULK AT MOST 1048576: true; the input reads as it did. -/
def registerStepsUptoRow : OpenClaim := { program := "ytockahocmomdlaa", sum := "f7c58f06d5959b4d08688634c53de90a22ab4322b15a9724c8712aaae1d69f37", func := "umpire/umpirelaw09.RegisterSteps", spec := "registerSteps", unfollowed := true, recurses := true, apart := false, narrowed := true }
def RegisterStepsUptoSaid : Prop := registerStepsUptoRow.holds Try.pinned (OpenSpec.upto registerStepsSpec)

/-- 'umpirelaw09.RegisterRuns', WHERE WHAT IT READS IS OF BULK AT MOST 1048576: true; the input reads as it did. -/
def registerRunsUptoRow : OpenClaim := { program := "ytockahocmomdlaa", sum := "f7c58f06d5959b4d08688634c53de90a22ab4322b15a9724c8712aaae1d69f37", func := "umpire/umpirelaw09.RegisterRuns", spec := "registerRuns", unfollowed := true, recurses := true, apart := false, narrowed := true }
def RegisterRunsUptoSaid : Prop := registerRunsUptoRow.holds Try.pinned (OpenSpec.upto registerRunsSpec)

/-- 'umpirelaw09.RegisterKnown', WHERE WHAT IT READS IS OF BULK AT MOST 1048576: true; the input reads as it did. -/
def registerKnownUptoRow : OpenClaim := { program := "ytockahocmomdlaa", sum := "f7c58f06d5959b4d08688634c53de90a22ab4322b15a9724c8712aaae1d69f37", func := "umpire/umpirelaw09.RegisterKnown", spec := "registerKnown", unfollowed := true, recurses := true, apart := false, narrowed := true }
def RegisterKnownUptoSaid : Prop := registerKnownUptoRow.holds Try.pinned (OpenSpec.upto registerKnownSpec)

/-- 'umpirelaw09.RegisterLast', WHERE WHAT IT READS IS OF BULK AT MOST 1048576: true; the input reads as it did. -/
def registerLastUptoRow : OpenClaim := { program := "ytockahocmomdlaa", sum := "f7c58f06d5959b4d08688634c53de90a22ab4322b15a9724c8712aaae1d69f37", func := "umpire/umpirelaw09.RegisterLast", spec := "registerLast", unfollowed := true, recurses := true, apart := false, narrowed := true }
def RegisterLastUptoSaid : Prop := registerLastUptoRow.holds Try.pinned (OpenSpec.upto registerLastSpec)

/-- 'umpirelaw09.RegisterCode', WHERE WHAT IT READS IS OF BULK AT MOST 1048576: true; the input reads as it did. -/
def registerCodeUptoRow : OpenClaim := { program := "ytockahocmomdlaa", sum := "f7c58f06d5959b4d08688634c53de90a22ab4322b15a9724c8712aaae1d69f37", func := "umpire/umpirelaw09.RegisterCode", spec := "registerCode", unfollowed := true, recurses := true, apart := false, narrowed := true }
def RegisterCodeUptoSaid : Prop := registerCodeUptoRow.holds Try.pinned (OpenSpec.upto registerCodeSpec)

end Rows
end Go.Proofs.Ytockahocmomdlaa
