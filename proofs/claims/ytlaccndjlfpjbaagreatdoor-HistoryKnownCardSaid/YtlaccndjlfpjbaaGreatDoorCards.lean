/-
  DERIVED. GIVEN WITH THE SEED: THE CARDS: each row of YtlaccndjlfpjbaaGreatDoorRows.lean that lists a variable, with what it lists TIED to the program's text (the seventh form; the later family's looks); each row that meets fmt, with fmt's text TOLD by the authors' own Lean function (tested against real Go, not proved from fmt's source: count such statements apart). THE CARD IS WHAT COUNTS. Prove the row's statement (the work); the ties are given (YtlaccndjlfpjbaaGreatDoorTie.lean); close each card by the builder's one call (the guide's Derived/Test/ToyasCard.lean, 'card_holds'). Laid BY PROGRAM, IN A SANDBOX (cutbox-door.mjs). By AI agents, Wed Nov 11 2026. No macro, syntax, notation, axiom, sorry.
-/
import Derived.Test.YtlaccndjlfpjbaaGreatDoorRows
import GoSem.ClaimSeven
namespace Go.Proofs.YtlaccndjlfpjbaaGreatDoor
namespace Rows

/-- THE TIED CARD OF 'umpirelaw07.HistorySteps'. -/
def historyStepsCard : Claim7 := { stood := { row := historyStepsRow, standIns := [], harness := (true, "a0f9da93b1db9ae656dcf29110620c0dd0c330585b7e72c8087f4dc174e1a9f1"), looks := true }, kinds := [], alts := [], laidByText := true, laidKinds := [.data], laidTests := true, laidLooks := .later }
def HistoryStepsCardSaid : Prop := Claim7.holds Tryz.pinned (.plain (OpenSpec.ofChange historyStepsSpec)) historyStepsCard

/-- THE TIED CARD OF 'umpirelaw07.HistoryAll'. -/
def historyAllCard : Claim7 := { stood := { row := historyAllRow, standIns := [], harness := (true, "a0f9da93b1db9ae656dcf29110620c0dd0c330585b7e72c8087f4dc174e1a9f1"), looks := true }, kinds := [], alts := [], laidByText := true, laidKinds := [.data], laidTests := true, laidLooks := .later }
def HistoryAllCardSaid : Prop := Claim7.holds Tryz.pinned (.plain (OpenSpec.ofChange historyAllSpec)) historyAllCard

/-- THE TIED CARD OF 'umpirelaw07.HistoryKnown'. -/
def historyKnownCard : Claim7 := { stood := { row := historyKnownRow, standIns := [], harness := (true, "a0f9da93b1db9ae656dcf29110620c0dd0c330585b7e72c8087f4dc174e1a9f1"), looks := true }, kinds := [], alts := [], laidByText := true, laidKinds := [.data], laidTests := true, laidLooks := .later }
def HistoryKnownCardSaid : Prop := Claim7.holds Tryz.pinned (.plain (OpenSpec.ofChange historyKnownSpec)) historyKnownCard

/-- THE TIED CARD OF 'umpirelaw07.HistoryTurns'. -/
def historyTurnsCard : Claim7 := { stood := { row := historyTurnsRow, standIns := [], harness := (true, "a0f9da93b1db9ae656dcf29110620c0dd0c330585b7e72c8087f4dc174e1a9f1"), looks := true }, kinds := [], alts := [], laidByText := true, laidKinds := [.data], laidTests := true, laidLooks := .later }
def HistoryTurnsCardSaid : Prop := Claim7.holds Tryz.pinned (.plain (OpenSpec.ofChange historyTurnsSpec)) historyTurnsCard

/-- THE TIED CARD OF 'umpirelaw07.HistoryApart'. -/
def historyApartCard : Claim7 := { stood := { row := historyApartRow, standIns := [], harness := (true, "a0f9da93b1db9ae656dcf29110620c0dd0c330585b7e72c8087f4dc174e1a9f1"), looks := true }, kinds := [], alts := [], laidByText := true, laidKinds := [.data], laidTests := true, laidLooks := .later }
def HistoryApartCardSaid : Prop := Claim7.holds Tryz.pinned (.plain (OpenSpec.ofChange historyApartSpec)) historyApartCard

/-- THE SECOND FORM's CARD OF 'umpirelaw07.HistorySteps'. -/
def historyStepsUptoCard : Claim7 := { stood := { row := historyStepsUptoRow, standIns := [], harness := (true, "a0f9da93b1db9ae656dcf29110620c0dd0c330585b7e72c8087f4dc174e1a9f1"), looks := true }, kinds := [], alts := [], laidByText := true, laidKinds := [.data], laidTests := true, laidLooks := .later }
def HistoryStepsUptoCardSaid : Prop := Claim7.holds Tryz.pinned (.plain (OpenSpec.upto historyStepsSpec)) historyStepsUptoCard

/-- THE SECOND FORM's CARD OF 'umpirelaw07.HistoryAll'. -/
def historyAllUptoCard : Claim7 := { stood := { row := historyAllUptoRow, standIns := [], harness := (true, "a0f9da93b1db9ae656dcf29110620c0dd0c330585b7e72c8087f4dc174e1a9f1"), looks := true }, kinds := [], alts := [], laidByText := true, laidKinds := [.data], laidTests := true, laidLooks := .later }
def HistoryAllUptoCardSaid : Prop := Claim7.holds Tryz.pinned (.plain (OpenSpec.upto historyAllSpec)) historyAllUptoCard

/-- THE SECOND FORM's CARD OF 'umpirelaw07.HistoryKnown'. -/
def historyKnownUptoCard : Claim7 := { stood := { row := historyKnownUptoRow, standIns := [], harness := (true, "a0f9da93b1db9ae656dcf29110620c0dd0c330585b7e72c8087f4dc174e1a9f1"), looks := true }, kinds := [], alts := [], laidByText := true, laidKinds := [.data], laidTests := true, laidLooks := .later }
def HistoryKnownUptoCardSaid : Prop := Claim7.holds Tryz.pinned (.plain (OpenSpec.upto historyKnownSpec)) historyKnownUptoCard

/-- THE SECOND FORM's CARD OF 'umpirelaw07.HistoryTurns'. -/
def historyTurnsUptoCard : Claim7 := { stood := { row := historyTurnsUptoRow, standIns := [], harness := (true, "a0f9da93b1db9ae656dcf29110620c0dd0c330585b7e72c8087f4dc174e1a9f1"), looks := true }, kinds := [], alts := [], laidByText := true, laidKinds := [.data], laidTests := true, laidLooks := .later }
def HistoryTurnsUptoCardSaid : Prop := Claim7.holds Tryz.pinned (.plain (OpenSpec.upto historyTurnsSpec)) historyTurnsUptoCard

/-- THE SECOND FORM's CARD OF 'umpirelaw07.HistoryApart'. -/
def historyApartUptoCard : Claim7 := { stood := { row := historyApartUptoRow, standIns := [], harness := (true, "a0f9da93b1db9ae656dcf29110620c0dd0c330585b7e72c8087f4dc174e1a9f1"), looks := true }, kinds := [], alts := [], laidByText := true, laidKinds := [.data], laidTests := true, laidLooks := .later }
def HistoryApartUptoCardSaid : Prop := Claim7.holds Tryz.pinned (.plain (OpenSpec.upto historyApartSpec)) historyApartUptoCard
end Rows
end Go.Proofs.YtlaccndjlfpjbaaGreatDoor
