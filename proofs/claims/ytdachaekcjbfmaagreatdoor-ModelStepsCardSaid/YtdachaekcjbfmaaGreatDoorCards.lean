/-
  DERIVED. GIVEN WITH THE SEED: THE CARDS: each row of YtdachaekcjbfmaaGreatDoorRows.lean that lists a variable, with what it lists TIED to the program's text (the seventh form; the later family's looks); each row that meets fmt, with fmt's text TOLD by the authors' own Lean function (tested against real Go, not proved from fmt's source: count such statements apart). THE CARD IS WHAT COUNTS. Prove the row's statement (the work); the ties are given (YtdachaekcjbfmaaGreatDoorTie.lean); close each card by the builder's one call (the guide's Derived/Test/ToyasCard.lean, 'card_holds'). Laid BY PROGRAM, IN A SANDBOX (cutbox-door.mjs). By AI agents, Wed Nov 11 2026. No macro, syntax, notation, axiom, sorry.
-/
import Derived.Test.YtdachaekcjbfmaaGreatDoorRows
import GoSem.ClaimSeven
namespace Go.Proofs.YtdachaekcjbfmaaGreatDoor
namespace Rows

/-- THE TIED CARD OF 'umpirelaw13.ModelSteps'. -/
def modelStepsCard : Claim7 := { stood := { row := modelStepsRow, standIns := [], harness := (true, "13262807ed1bef29bf63eadb38d2beb07e004a81d2519731f16e387de6ba342e"), looks := true }, kinds := [], alts := [], laidByText := true, laidKinds := [.data, .data, .data, .data], laidTests := true, laidLooks := .later }
def ModelStepsCardSaid : Prop := Claim7.holds Tryz.pinned (.plain (OpenSpec.ofChange modelStepsSpec)) modelStepsCard

/-- THE TIED CARD OF 'umpirelaw13.ModelDecodes'. -/
def modelDecodesCard : Claim7 := { stood := { row := modelDecodesRow, standIns := [], harness := (true, "13262807ed1bef29bf63eadb38d2beb07e004a81d2519731f16e387de6ba342e"), looks := true }, kinds := [], alts := [], laidByText := true, laidKinds := [.data, .data, .data, .data], laidTests := true, laidLooks := .later }
def ModelDecodesCardSaid : Prop := Claim7.holds Tryz.pinned (.plain (OpenSpec.ofChange modelDecodesSpec)) modelDecodesCard

/-- THE TIED CARD OF 'umpirelaw13.ModelKnown'. -/
def modelKnownCard : Claim7 := { stood := { row := modelKnownRow, standIns := [], harness := (true, "13262807ed1bef29bf63eadb38d2beb07e004a81d2519731f16e387de6ba342e"), looks := true }, kinds := [], alts := [], laidByText := true, laidKinds := [.data, .data, .data, .data], laidTests := true, laidLooks := .later }
def ModelKnownCardSaid : Prop := Claim7.holds Tryz.pinned (.plain (OpenSpec.ofChange modelKnownSpec)) modelKnownCard

/-- THE TIED CARD OF 'umpirelaw13.ModelOne'. -/
def modelOneCard : Claim7 := { stood := { row := modelOneRow, standIns := [], harness := (true, "13262807ed1bef29bf63eadb38d2beb07e004a81d2519731f16e387de6ba342e"), looks := true }, kinds := [], alts := [], laidByText := true, laidKinds := [.data, .data, .data, .data], laidTests := true, laidLooks := .later }
def ModelOneCardSaid : Prop := Claim7.holds Tryz.pinned (.plain (OpenSpec.ofChange modelOneSpec)) modelOneCard

/-- THE TIED CARD OF 'umpirelaw13.ModelCode'. -/
def modelCodeCard : Claim7 := { stood := { row := modelCodeRow, standIns := [], harness := (true, "13262807ed1bef29bf63eadb38d2beb07e004a81d2519731f16e387de6ba342e"), looks := true }, kinds := [], alts := [], laidByText := true, laidKinds := [.data, .data, .data, .data], laidTests := true, laidLooks := .later }
def ModelCodeCardSaid : Prop := Claim7.holds Tryz.pinned (.plain (OpenSpec.ofChange modelCodeSpec)) modelCodeCard

/-- THE TIED CARD OF 'umpirelaw13.ModelEach'. -/
def modelEachCard : Claim7 := { stood := { row := modelEachRow, standIns := [], harness := (true, "13262807ed1bef29bf63eadb38d2beb07e004a81d2519731f16e387de6ba342e"), looks := true }, kinds := [], alts := [], laidByText := true, laidKinds := [.data, .data, .data, .data], laidTests := true, laidLooks := .later }
def ModelEachCardSaid : Prop := Claim7.holds Tryz.pinned (.plain (OpenSpec.ofChange modelEachSpec)) modelEachCard

/-- THE SECOND FORM's CARD OF 'umpirelaw13.ModelSteps'. -/
def modelStepsUptoCard : Claim7 := { stood := { row := modelStepsUptoRow, standIns := [], harness := (true, "13262807ed1bef29bf63eadb38d2beb07e004a81d2519731f16e387de6ba342e"), looks := true }, kinds := [], alts := [], laidByText := true, laidKinds := [.data, .data, .data, .data], laidTests := true, laidLooks := .later }
def ModelStepsUptoCardSaid : Prop := Claim7.holds Tryz.pinned (.plain (OpenSpec.upto modelStepsSpec)) modelStepsUptoCard

/-- THE SECOND FORM's CARD OF 'umpirelaw13.ModelDecodes'. -/
def modelDecodesUptoCard : Claim7 := { stood := { row := modelDecodesUptoRow, standIns := [], harness := (true, "13262807ed1bef29bf63eadb38d2beb07e004a81d2519731f16e387de6ba342e"), looks := true }, kinds := [], alts := [], laidByText := true, laidKinds := [.data, .data, .data, .data], laidTests := true, laidLooks := .later }
def ModelDecodesUptoCardSaid : Prop := Claim7.holds Tryz.pinned (.plain (OpenSpec.upto modelDecodesSpec)) modelDecodesUptoCard

/-- THE SECOND FORM's CARD OF 'umpirelaw13.ModelKnown'. -/
def modelKnownUptoCard : Claim7 := { stood := { row := modelKnownUptoRow, standIns := [], harness := (true, "13262807ed1bef29bf63eadb38d2beb07e004a81d2519731f16e387de6ba342e"), looks := true }, kinds := [], alts := [], laidByText := true, laidKinds := [.data, .data, .data, .data], laidTests := true, laidLooks := .later }
def ModelKnownUptoCardSaid : Prop := Claim7.holds Tryz.pinned (.plain (OpenSpec.upto modelKnownSpec)) modelKnownUptoCard

/-- THE SECOND FORM's CARD OF 'umpirelaw13.ModelOne'. -/
def modelOneUptoCard : Claim7 := { stood := { row := modelOneUptoRow, standIns := [], harness := (true, "13262807ed1bef29bf63eadb38d2beb07e004a81d2519731f16e387de6ba342e"), looks := true }, kinds := [], alts := [], laidByText := true, laidKinds := [.data, .data, .data, .data], laidTests := true, laidLooks := .later }
def ModelOneUptoCardSaid : Prop := Claim7.holds Tryz.pinned (.plain (OpenSpec.upto modelOneSpec)) modelOneUptoCard

/-- THE SECOND FORM's CARD OF 'umpirelaw13.ModelCode'. -/
def modelCodeUptoCard : Claim7 := { stood := { row := modelCodeUptoRow, standIns := [], harness := (true, "13262807ed1bef29bf63eadb38d2beb07e004a81d2519731f16e387de6ba342e"), looks := true }, kinds := [], alts := [], laidByText := true, laidKinds := [.data, .data, .data, .data], laidTests := true, laidLooks := .later }
def ModelCodeUptoCardSaid : Prop := Claim7.holds Tryz.pinned (.plain (OpenSpec.upto modelCodeSpec)) modelCodeUptoCard

/-- THE SECOND FORM's CARD OF 'umpirelaw13.ModelEach'. -/
def modelEachUptoCard : Claim7 := { stood := { row := modelEachUptoRow, standIns := [], harness := (true, "13262807ed1bef29bf63eadb38d2beb07e004a81d2519731f16e387de6ba342e"), looks := true }, kinds := [], alts := [], laidByText := true, laidKinds := [.data, .data, .data, .data], laidTests := true, laidLooks := .later }
def ModelEachUptoCardSaid : Prop := Claim7.holds Tryz.pinned (.plain (OpenSpec.upto modelEachSpec)) modelEachUptoCard
end Rows
end Go.Proofs.YtdachaekcjbfmaaGreatDoor
