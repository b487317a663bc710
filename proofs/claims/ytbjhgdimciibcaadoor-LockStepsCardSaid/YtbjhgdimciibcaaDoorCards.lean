/-
  DERIVED. GIVEN WITH THE SEED: THE CARDS: each row of YtbjhgdimciibcaaDoorRows.lean that lists a variable, with what it lists TIED to the program's text (the seventh form; the later family's looks); each row that meets fmt, with fmt's text TOLD by the authors' own Lean function (tested against real Go, not proved from fmt's source: count such statements apart). THE CARD IS WHAT COUNTS. Prove the row's statement (the work); the ties are given (YtbjhgdimciibcaaDoorTie.lean); close each card by the builder's one call (the guide's Derived/Test/ToyasCard.lean, 'card_holds'). Laid BY PROGRAM, IN A SANDBOX (cutbox-door.mjs). By AI agents, Wed Nov 11 2026. No macro, syntax, notation, axiom, sorry.
-/
import Derived.Test.YtbjhgdimciibcaaDoorRows
import GoSem.ClaimSeven
namespace Go.Proofs.YtbjhgdimciibcaaDoor
namespace Rows

/-- THE TIED CARD OF 'umpirelaw12.LockSteps'. -/
def lockStepsCard : Claim7 := { stood := { row := lockStepsRow, standIns := [], harness := (true, "c87e1d342488ae20ffa7c3e8019ca3ab4822bee1138fb1ab219fd613889e0ea8"), looks := false }, kinds := [], alts := [], laidByText := true, laidKinds := [.data], laidTests := true, laidLooks := .later }
def LockStepsCardSaid : Prop := Claim7.holds Tryd.pinned (.plain (OpenSpec.ofChange lockStepsSpec)) lockStepsCard

/-- THE TIED CARD OF 'umpirelaw12.LockRuns'. -/
def lockRunsCard : Claim7 := { stood := { row := lockRunsRow, standIns := [], harness := (true, "c87e1d342488ae20ffa7c3e8019ca3ab4822bee1138fb1ab219fd613889e0ea8"), looks := false }, kinds := [], alts := [], laidByText := true, laidKinds := [.data], laidTests := true, laidLooks := .later }
def LockRunsCardSaid : Prop := Claim7.holds Tryd.pinned (.plain (OpenSpec.ofChange lockRunsSpec)) lockRunsCard

/-- THE TIED CARD OF 'umpirelaw12.LockTexts'. -/
def lockTextsCard : Claim7 := { stood := { row := lockTextsRow, standIns := [], harness := (true, "c87e1d342488ae20ffa7c3e8019ca3ab4822bee1138fb1ab219fd613889e0ea8"), looks := false }, kinds := [], alts := [], laidByText := true, laidKinds := [.data], laidTests := true, laidLooks := .later }
def LockTextsCardSaid : Prop := Claim7.holds Tryd.pinned (.plain (OpenSpec.ofChange lockTextsSpec)) lockTextsCard

/-- THE TIED CARD OF 'umpirelaw12.LockOne'. -/
def lockOneCard : Claim7 := { stood := { row := lockOneRow, standIns := [], harness := (true, "c87e1d342488ae20ffa7c3e8019ca3ab4822bee1138fb1ab219fd613889e0ea8"), looks := false }, kinds := [], alts := [], laidByText := true, laidKinds := [.data], laidTests := true, laidLooks := .later }
def LockOneCardSaid : Prop := Claim7.holds Tryd.pinned (.plain (OpenSpec.ofChange lockOneSpec)) lockOneCard

/-- THE TIED CARD OF 'umpirelaw12.LockSays'. -/
def lockSaysCard : Claim7 := { stood := { row := lockSaysRow, standIns := [], harness := (true, "c87e1d342488ae20ffa7c3e8019ca3ab4822bee1138fb1ab219fd613889e0ea8"), looks := false }, kinds := [], alts := [], laidByText := true, laidKinds := [.data], laidTests := true, laidLooks := .later }
def LockSaysCardSaid : Prop := Claim7.holds Tryd.pinned (.plain (OpenSpec.ofChange lockSaysSpec)) lockSaysCard

/-- THE TIED CARD OF 'umpirelaw12.LockBack'. -/
def lockBackCard : Claim7 := { stood := { row := lockBackRow, standIns := [], harness := (true, "c87e1d342488ae20ffa7c3e8019ca3ab4822bee1138fb1ab219fd613889e0ea8"), looks := false }, kinds := [], alts := [], laidByText := true, laidKinds := [.data], laidTests := true, laidLooks := .later }
def LockBackCardSaid : Prop := Claim7.holds Tryd.pinned (.plain (OpenSpec.ofChange lockBackSpec)) lockBackCard

/-- THE TIED CARD OF 'umpirelaw12.LockKnown'. -/
def lockKnownCard : Claim7 := { stood := { row := lockKnownRow, standIns := [], harness := (true, "c87e1d342488ae20ffa7c3e8019ca3ab4822bee1138fb1ab219fd613889e0ea8"), looks := false }, kinds := [], alts := [], laidByText := true, laidKinds := [.data], laidTests := true, laidLooks := .later }
def LockKnownCardSaid : Prop := Claim7.holds Tryd.pinned (.plain (OpenSpec.ofChange lockKnownSpec)) lockKnownCard

/-- THE SECOND FORM's CARD OF 'umpirelaw12.LockSteps'. -/
def lockStepsUptoCard : Claim7 := { stood := { row := lockStepsUptoRow, standIns := [], harness := (true, "c87e1d342488ae20ffa7c3e8019ca3ab4822bee1138fb1ab219fd613889e0ea8"), looks := false }, kinds := [], alts := [], laidByText := true, laidKinds := [.data], laidTests := true, laidLooks := .later }
def LockStepsUptoCardSaid : Prop := Claim7.holds Tryd.pinned (.plain (OpenSpec.upto lockStepsSpec)) lockStepsUptoCard

/-- THE SECOND FORM's CARD OF 'umpirelaw12.LockRuns'. -/
def lockRunsUptoCard : Claim7 := { stood := { row := lockRunsUptoRow, standIns := [], harness := (true, "c87e1d342488ae20ffa7c3e8019ca3ab4822bee1138fb1ab219fd613889e0ea8"), looks := false }, kinds := [], alts := [], laidByText := true, laidKinds := [.data], laidTests := true, laidLooks := .later }
def LockRunsUptoCardSaid : Prop := Claim7.holds Tryd.pinned (.plain (OpenSpec.upto lockRunsSpec)) lockRunsUptoCard

/-- THE SECOND FORM's CARD OF 'umpirelaw12.LockTexts'. -/
def lockTextsUptoCard : Claim7 := { stood := { row := lockTextsUptoRow, standIns := [], harness := (true, "c87e1d342488ae20ffa7c3e8019ca3ab4822bee1138fb1ab219fd613889e0ea8"), looks := false }, kinds := [], alts := [], laidByText := true, laidKinds := [.data], laidTests := true, laidLooks := .later }
def LockTextsUptoCardSaid : Prop := Claim7.holds Tryd.pinned (.plain (OpenSpec.upto lockTextsSpec)) lockTextsUptoCard

/-- THE SECOND FORM's CARD OF 'umpirelaw12.LockOne'. -/
def lockOneUptoCard : Claim7 := { stood := { row := lockOneUptoRow, standIns := [], harness := (true, "c87e1d342488ae20ffa7c3e8019ca3ab4822bee1138fb1ab219fd613889e0ea8"), looks := false }, kinds := [], alts := [], laidByText := true, laidKinds := [.data], laidTests := true, laidLooks := .later }
def LockOneUptoCardSaid : Prop := Claim7.holds Tryd.pinned (.plain (OpenSpec.upto lockOneSpec)) lockOneUptoCard

/-- THE SECOND FORM's CARD OF 'umpirelaw12.LockSays'. -/
def lockSaysUptoCard : Claim7 := { stood := { row := lockSaysUptoRow, standIns := [], harness := (true, "c87e1d342488ae20ffa7c3e8019ca3ab4822bee1138fb1ab219fd613889e0ea8"), looks := false }, kinds := [], alts := [], laidByText := true, laidKinds := [.data], laidTests := true, laidLooks := .later }
def LockSaysUptoCardSaid : Prop := Claim7.holds Tryd.pinned (.plain (OpenSpec.upto lockSaysSpec)) lockSaysUptoCard

/-- THE SECOND FORM's CARD OF 'umpirelaw12.LockBack'. -/
def lockBackUptoCard : Claim7 := { stood := { row := lockBackUptoRow, standIns := [], harness := (true, "c87e1d342488ae20ffa7c3e8019ca3ab4822bee1138fb1ab219fd613889e0ea8"), looks := false }, kinds := [], alts := [], laidByText := true, laidKinds := [.data], laidTests := true, laidLooks := .later }
def LockBackUptoCardSaid : Prop := Claim7.holds Tryd.pinned (.plain (OpenSpec.upto lockBackSpec)) lockBackUptoCard

/-- THE SECOND FORM's CARD OF 'umpirelaw12.LockKnown'. -/
def lockKnownUptoCard : Claim7 := { stood := { row := lockKnownUptoRow, standIns := [], harness := (true, "c87e1d342488ae20ffa7c3e8019ca3ab4822bee1138fb1ab219fd613889e0ea8"), looks := false }, kinds := [], alts := [], laidByText := true, laidKinds := [.data], laidTests := true, laidLooks := .later }
def LockKnownUptoCardSaid : Prop := Claim7.holds Tryd.pinned (.plain (OpenSpec.upto lockKnownSpec)) lockKnownUptoCard
end Rows
end Go.Proofs.YtbjhgdimciibcaaDoor
