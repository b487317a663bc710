/-
  DERIVED. GIVEN WITH THE SEED: THE CARDS: each row of YtaicampenpkneaaDoorRows.lean that lists a variable, with what it lists TIED to the program's text (the seventh form; the later family's looks); each row that meets fmt, with fmt's text TOLD by the authors' own Lean function (tested against real Go, not proved from fmt's source: count such statements apart). THE CARD IS WHAT COUNTS. Prove the row's statement (the work); the ties are given (YtaicampenpkneaaDoorTie.lean); close each card by the builder's one call (the guide's Derived/Test/ToyasCard.lean, 'card_holds'). Laid BY PROGRAM, IN A SANDBOX (cutbox-door.mjs). By AI agents, Wed Nov 11 2026. No macro, syntax, notation, axiom, sorry.
-/
import Derived.Test.YtaicampenpkneaaDoorRows
import GoSem.ClaimSeven
namespace Go.Proofs.YtaicampenpkneaaDoor
namespace Rows

/-- THE TIED CARD OF 'umpirelaw10.QueueSteps'. -/
def queueStepsCard : Claim7 := { stood := { row := queueStepsRow, standIns := [], harness := (true, "06037539ef2fbf16a93d0fce271f7caca023d20cc239ad828df9820d2bd16556"), looks := false }, kinds := [], alts := [], laidByText := true, laidKinds := [.data], laidTests := true, laidLooks := .later }
def QueueStepsCardSaid : Prop := Claim7.holds Tryd.pinned (.plain (OpenSpec.ofChange queueStepsSpec)) queueStepsCard

/-- THE TIED CARD OF 'umpirelaw10.QueueRuns'. -/
def queueRunsCard : Claim7 := { stood := { row := queueRunsRow, standIns := [], harness := (true, "06037539ef2fbf16a93d0fce271f7caca023d20cc239ad828df9820d2bd16556"), looks := false }, kinds := [], alts := [], laidByText := true, laidKinds := [.data], laidTests := true, laidLooks := .later }
def QueueRunsCardSaid : Prop := Claim7.holds Tryd.pinned (.plain (OpenSpec.ofChange queueRunsSpec)) queueRunsCard

/-- THE TIED CARD OF 'umpirelaw10.QueueTexts'. -/
def queueTextsCard : Claim7 := { stood := { row := queueTextsRow, standIns := [], harness := (true, "06037539ef2fbf16a93d0fce271f7caca023d20cc239ad828df9820d2bd16556"), looks := false }, kinds := [], alts := [], laidByText := true, laidKinds := [.data], laidTests := true, laidLooks := .later }
def QueueTextsCardSaid : Prop := Claim7.holds Tryd.pinned (.plain (OpenSpec.ofChange queueTextsSpec)) queueTextsCard

/-- THE TIED CARD OF 'umpirelaw10.QueueOrder'. -/
def queueOrderCard : Claim7 := { stood := { row := queueOrderRow, standIns := [], harness := (true, "06037539ef2fbf16a93d0fce271f7caca023d20cc239ad828df9820d2bd16556"), looks := false }, kinds := [], alts := [], laidByText := true, laidKinds := [.data], laidTests := true, laidLooks := .later }
def QueueOrderCardSaid : Prop := Claim7.holds Tryd.pinned (.plain (OpenSpec.ofChange queueOrderSpec)) queueOrderCard

/-- THE TIED CARD OF 'umpirelaw10.QueueApart'. -/
def queueApartCard : Claim7 := { stood := { row := queueApartRow, standIns := [], harness := (true, "06037539ef2fbf16a93d0fce271f7caca023d20cc239ad828df9820d2bd16556"), looks := false }, kinds := [], alts := [], laidByText := true, laidKinds := [.data], laidTests := true, laidLooks := .later }
def QueueApartCardSaid : Prop := Claim7.holds Tryd.pinned (.plain (OpenSpec.ofChange queueApartSpec)) queueApartCard

/-- THE TIED CARD OF 'umpirelaw10.QueueBack'. -/
def queueBackCard : Claim7 := { stood := { row := queueBackRow, standIns := [], harness := (true, "06037539ef2fbf16a93d0fce271f7caca023d20cc239ad828df9820d2bd16556"), looks := false }, kinds := [], alts := [], laidByText := true, laidKinds := [.data], laidTests := true, laidLooks := .later }
def QueueBackCardSaid : Prop := Claim7.holds Tryd.pinned (.plain (OpenSpec.ofChange queueBackSpec)) queueBackCard

/-- THE TIED CARD OF 'umpirelaw10.QueueKnown'. -/
def queueKnownCard : Claim7 := { stood := { row := queueKnownRow, standIns := [], harness := (true, "06037539ef2fbf16a93d0fce271f7caca023d20cc239ad828df9820d2bd16556"), looks := false }, kinds := [], alts := [], laidByText := true, laidKinds := [.data], laidTests := true, laidLooks := .later }
def QueueKnownCardSaid : Prop := Claim7.holds Tryd.pinned (.plain (OpenSpec.ofChange queueKnownSpec)) queueKnownCard

/-- THE SECOND FORM's CARD OF 'umpirelaw10.QueueSteps'. -/
def queueStepsUptoCard : Claim7 := { stood := { row := queueStepsUptoRow, standIns := [], harness := (true, "06037539ef2fbf16a93d0fce271f7caca023d20cc239ad828df9820d2bd16556"), looks := false }, kinds := [], alts := [], laidByText := true, laidKinds := [.data], laidTests := true, laidLooks := .later }
def QueueStepsUptoCardSaid : Prop := Claim7.holds Tryd.pinned (.plain (OpenSpec.upto queueStepsSpec)) queueStepsUptoCard

/-- THE SECOND FORM's CARD OF 'umpirelaw10.QueueRuns'. -/
def queueRunsUptoCard : Claim7 := { stood := { row := queueRunsUptoRow, standIns := [], harness := (true, "06037539ef2fbf16a93d0fce271f7caca023d20cc239ad828df9820d2bd16556"), looks := false }, kinds := [], alts := [], laidByText := true, laidKinds := [.data], laidTests := true, laidLooks := .later }
def QueueRunsUptoCardSaid : Prop := Claim7.holds Tryd.pinned (.plain (OpenSpec.upto queueRunsSpec)) queueRunsUptoCard

/-- THE SECOND FORM's CARD OF 'umpirelaw10.QueueTexts'. -/
def queueTextsUptoCard : Claim7 := { stood := { row := queueTextsUptoRow, standIns := [], harness := (true, "06037539ef2fbf16a93d0fce271f7caca023d20cc239ad828df9820d2bd16556"), looks := false }, kinds := [], alts := [], laidByText := true, laidKinds := [.data], laidTests := true, laidLooks := .later }
def QueueTextsUptoCardSaid : Prop := Claim7.holds Tryd.pinned (.plain (OpenSpec.upto queueTextsSpec)) queueTextsUptoCard

/-- THE SECOND FORM's CARD OF 'umpirelaw10.QueueOrder'. -/
def queueOrderUptoCard : Claim7 := { stood := { row := queueOrderUptoRow, standIns := [], harness := (true, "06037539ef2fbf16a93d0fce271f7caca023d20cc239ad828df9820d2bd16556"), looks := false }, kinds := [], alts := [], laidByText := true, laidKinds := [.data], laidTests := true, laidLooks := .later }
def QueueOrderUptoCardSaid : Prop := Claim7.holds Tryd.pinned (.plain (OpenSpec.upto queueOrderSpec)) queueOrderUptoCard

/-- THE SECOND FORM's CARD OF 'umpirelaw10.QueueApart'. -/
def queueApartUptoCard : Claim7 := { stood := { row := queueApartUptoRow, standIns := [], harness := (true, "06037539ef2fbf16a93d0fce271f7caca023d20cc239ad828df9820d2bd16556"), looks := false }, kinds := [], alts := [], laidByText := true, laidKinds := [.data], laidTests := true, laidLooks := .later }
def QueueApartUptoCardSaid : Prop := Claim7.holds Tryd.pinned (.plain (OpenSpec.upto queueApartSpec)) queueApartUptoCard

/-- THE SECOND FORM's CARD OF 'umpirelaw10.QueueBack'. -/
def queueBackUptoCard : Claim7 := { stood := { row := queueBackUptoRow, standIns := [], harness := (true, "06037539ef2fbf16a93d0fce271f7caca023d20cc239ad828df9820d2bd16556"), looks := false }, kinds := [], alts := [], laidByText := true, laidKinds := [.data], laidTests := true, laidLooks := .later }
def QueueBackUptoCardSaid : Prop := Claim7.holds Tryd.pinned (.plain (OpenSpec.upto queueBackSpec)) queueBackUptoCard

/-- THE SECOND FORM's CARD OF 'umpirelaw10.QueueKnown'. -/
def queueKnownUptoCard : Claim7 := { stood := { row := queueKnownUptoRow, standIns := [], harness := (true, "06037539ef2fbf16a93d0fce271f7caca023d20cc239ad828df9820d2bd16556"), looks := false }, kinds := [], alts := [], laidByText := true, laidKinds := [.data], laidTests := true, laidLooks := .later }
def QueueKnownUptoCardSaid : Prop := Claim7.holds Tryd.pinned (.plain (OpenSpec.upto queueKnownSpec)) queueKnownUptoCard
end Rows
end Go.Proofs.YtaicampenpkneaaDoor
