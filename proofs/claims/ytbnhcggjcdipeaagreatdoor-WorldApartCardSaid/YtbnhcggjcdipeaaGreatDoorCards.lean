/-
  DERIVED. GIVEN WITH THE SEED: THE CARDS: each row of YtbnhcggjcdipeaaGreatDoorRows.lean that lists a variable, with what it lists TIED to the program's text (the seventh form; the later family's looks); each row that meets fmt, with fmt's text TOLD by the authors' own Lean function (tested against real Go, not proved from fmt's source: count such statements apart). THE CARD IS WHAT COUNTS. Prove the row's statement (the work); the ties are given (YtbnhcggjcdipeaaGreatDoorTie.lean); close each card by the builder's one call (the guide's Derived/Test/ToyasCard.lean, 'card_holds'). Laid BY PROGRAM, IN A SANDBOX (cutbox-door.mjs). By AI agents, Wed Nov 11 2026. No macro, syntax, notation, axiom, sorry.
-/
import Derived.Test.YtbnhcggjcdipeaaGreatDoorRows
import GoSem.ClaimSeven
namespace Go.Proofs.YtbnhcggjcdipeaaGreatDoor
namespace Rows

/-- THE TIED CARD OF 'umpirelaw14.WorldSteps'. -/
def worldStepsCard : Claim7 := { stood := { row := worldStepsRow, standIns := [], harness := (true, "77b9e73510664724080206a38ecf15df9bf056c87e1382d1745546fbf2148e18"), looks := true }, kinds := [], alts := [], laidByText := true, laidKinds := [.data, .data, .data, .data], laidTests := true, laidLooks := .later }
def WorldStepsCardSaid : Prop := Claim7.holds Tryz.pinned (.plain (OpenSpec.ofChange worldStepsSpec)) worldStepsCard

/-- THE TIED CARD OF 'umpirelaw14.WorldDecodes'. -/
def worldDecodesCard : Claim7 := { stood := { row := worldDecodesRow, standIns := [], harness := (true, "77b9e73510664724080206a38ecf15df9bf056c87e1382d1745546fbf2148e18"), looks := true }, kinds := [], alts := [], laidByText := true, laidKinds := [.data, .data, .data, .data], laidTests := true, laidLooks := .later }
def WorldDecodesCardSaid : Prop := Claim7.holds Tryz.pinned (.plain (OpenSpec.ofChange worldDecodesSpec)) worldDecodesCard

/-- THE TIED CARD OF 'umpirelaw14.WorldApart'. -/
def worldApartCard : Claim7 := { stood := { row := worldApartRow, standIns := [], harness := (true, "77b9e73510664724080206a38ecf15df9bf056c87e1382d1745546fbf2148e18"), looks := true }, kinds := [], alts := [], laidByText := true, laidKinds := [.data, .data, .data, .data], laidTests := true, laidLooks := .later }
def WorldApartCardSaid : Prop := Claim7.holds Tryz.pinned (.plain (OpenSpec.ofChange worldApartSpec)) worldApartCard

/-- THE TIED CARD OF 'umpirelaw14.WorldBack'. -/
def worldBackCard : Claim7 := { stood := { row := worldBackRow, standIns := [], harness := (true, "77b9e73510664724080206a38ecf15df9bf056c87e1382d1745546fbf2148e18"), looks := true }, kinds := [], alts := [], laidByText := true, laidKinds := [.data, .data, .data, .data], laidTests := true, laidLooks := .later }
def WorldBackCardSaid : Prop := Claim7.holds Tryz.pinned (.plain (OpenSpec.ofChange worldBackSpec)) worldBackCard

/-- THE TIED CARD OF 'umpirelaw14.WorldTakes'. -/
def worldTakesCard : Claim7 := { stood := { row := worldTakesRow, standIns := [], harness := (true, "77b9e73510664724080206a38ecf15df9bf056c87e1382d1745546fbf2148e18"), looks := true }, kinds := [], alts := [], laidByText := true, laidKinds := [.data, .data, .data, .data], laidTests := true, laidLooks := .later }
def WorldTakesCardSaid : Prop := Claim7.holds Tryz.pinned (.plain (OpenSpec.ofChange worldTakesSpec)) worldTakesCard

/-- THE TIED CARD OF 'umpirelaw14.WorldKnown'. -/
def worldKnownCard : Claim7 := { stood := { row := worldKnownRow, standIns := [], harness := (true, "77b9e73510664724080206a38ecf15df9bf056c87e1382d1745546fbf2148e18"), looks := true }, kinds := [], alts := [], laidByText := true, laidKinds := [.data, .data, .data, .data], laidTests := true, laidLooks := .later }
def WorldKnownCardSaid : Prop := Claim7.holds Tryz.pinned (.plain (OpenSpec.ofChange worldKnownSpec)) worldKnownCard

/-- THE SECOND FORM's CARD OF 'umpirelaw14.WorldSteps'. -/
def worldStepsUptoCard : Claim7 := { stood := { row := worldStepsUptoRow, standIns := [], harness := (true, "77b9e73510664724080206a38ecf15df9bf056c87e1382d1745546fbf2148e18"), looks := true }, kinds := [], alts := [], laidByText := true, laidKinds := [.data, .data, .data, .data], laidTests := true, laidLooks := .later }
def WorldStepsUptoCardSaid : Prop := Claim7.holds Tryz.pinned (.plain (OpenSpec.upto worldStepsSpec)) worldStepsUptoCard

/-- THE SECOND FORM's CARD OF 'umpirelaw14.WorldDecodes'. -/
def worldDecodesUptoCard : Claim7 := { stood := { row := worldDecodesUptoRow, standIns := [], harness := (true, "77b9e73510664724080206a38ecf15df9bf056c87e1382d1745546fbf2148e18"), looks := true }, kinds := [], alts := [], laidByText := true, laidKinds := [.data, .data, .data, .data], laidTests := true, laidLooks := .later }
def WorldDecodesUptoCardSaid : Prop := Claim7.holds Tryz.pinned (.plain (OpenSpec.upto worldDecodesSpec)) worldDecodesUptoCard

/-- THE SECOND FORM's CARD OF 'umpirelaw14.WorldApart'. -/
def worldApartUptoCard : Claim7 := { stood := { row := worldApartUptoRow, standIns := [], harness := (true, "77b9e73510664724080206a38ecf15df9bf056c87e1382d1745546fbf2148e18"), looks := true }, kinds := [], alts := [], laidByText := true, laidKinds := [.data, .data, .data, .data], laidTests := true, laidLooks := .later }
def WorldApartUptoCardSaid : Prop := Claim7.holds Tryz.pinned (.plain (OpenSpec.upto worldApartSpec)) worldApartUptoCard

/-- THE SECOND FORM's CARD OF 'umpirelaw14.WorldBack'. -/
def worldBackUptoCard : Claim7 := { stood := { row := worldBackUptoRow, standIns := [], harness := (true, "77b9e73510664724080206a38ecf15df9bf056c87e1382d1745546fbf2148e18"), looks := true }, kinds := [], alts := [], laidByText := true, laidKinds := [.data, .data, .data, .data], laidTests := true, laidLooks := .later }
def WorldBackUptoCardSaid : Prop := Claim7.holds Tryz.pinned (.plain (OpenSpec.upto worldBackSpec)) worldBackUptoCard

/-- THE SECOND FORM's CARD OF 'umpirelaw14.WorldTakes'. -/
def worldTakesUptoCard : Claim7 := { stood := { row := worldTakesUptoRow, standIns := [], harness := (true, "77b9e73510664724080206a38ecf15df9bf056c87e1382d1745546fbf2148e18"), looks := true }, kinds := [], alts := [], laidByText := true, laidKinds := [.data, .data, .data, .data], laidTests := true, laidLooks := .later }
def WorldTakesUptoCardSaid : Prop := Claim7.holds Tryz.pinned (.plain (OpenSpec.upto worldTakesSpec)) worldTakesUptoCard

/-- THE SECOND FORM's CARD OF 'umpirelaw14.WorldKnown'. -/
def worldKnownUptoCard : Claim7 := { stood := { row := worldKnownUptoRow, standIns := [], harness := (true, "77b9e73510664724080206a38ecf15df9bf056c87e1382d1745546fbf2148e18"), looks := true }, kinds := [], alts := [], laidByText := true, laidKinds := [.data, .data, .data, .data], laidTests := true, laidLooks := .later }
def WorldKnownUptoCardSaid : Prop := Claim7.holds Tryz.pinned (.plain (OpenSpec.upto worldKnownSpec)) worldKnownUptoCard
end Rows
end Go.Proofs.YtbnhcggjcdipeaaGreatDoor
