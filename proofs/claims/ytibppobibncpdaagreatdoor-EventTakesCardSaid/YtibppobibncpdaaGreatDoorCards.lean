/-
  DERIVED. GIVEN WITH THE SEED: THE CARDS: each row of YtibppobibncpdaaGreatDoorRows.lean that lists a variable, with what it lists TIED to the program's text (the seventh form; the later family's looks); each row that meets fmt, with fmt's text TOLD by the authors' own Lean function (tested against real Go, not proved from fmt's source: count such statements apart). THE CARD IS WHAT COUNTS. Prove the row's statement (the work); the ties are given (YtibppobibncpdaaGreatDoorTie.lean); close each card by the builder's one call (the guide's Derived/Test/ToyasCard.lean, 'card_holds'). Laid BY PROGRAM, IN A SANDBOX (cutbox-door.mjs). By AI agents, Wed Nov 11 2026. No macro, syntax, notation, axiom, sorry.
-/
import Derived.Test.YtibppobibncpdaaGreatDoorRows
import GoSem.ClaimSeven
namespace Go.Proofs.YtibppobibncpdaaGreatDoor
namespace Rows

/-- THE TIED CARD OF 'umpirelaw05.EventPuts'. -/
def eventPutsCard : Claim7 := { stood := { row := eventPutsRow, standIns := [], harness := (true, "888b528f7e53c8a9b17844ae1722b2af37586aafbeb7d6bef4182e54a90ca9c8"), looks := false }, kinds := [], alts := [], laidByText := true, laidKinds := [.data], laidTests := true, laidLooks := .later }
def EventPutsCardSaid : Prop := Claim7.holds Tryz.pinned (.plain (OpenSpec.ofChange eventPutsSpec)) eventPutsCard

/-- THE TIED CARD OF 'umpirelaw05.EventTakes'. -/
def eventTakesCard : Claim7 := { stood := { row := eventTakesRow, standIns := [], harness := (true, "888b528f7e53c8a9b17844ae1722b2af37586aafbeb7d6bef4182e54a90ca9c8"), looks := false }, kinds := [], alts := [], laidByText := true, laidKinds := [.data], laidTests := true, laidLooks := .later }
def EventTakesCardSaid : Prop := Claim7.holds Tryz.pinned (.plain (OpenSpec.ofChange eventTakesSpec)) eventTakesCard

/-- THE SECOND FORM's CARD OF 'umpirelaw05.EventPuts'. -/
def eventPutsUptoCard : Claim7 := { stood := { row := eventPutsUptoRow, standIns := [], harness := (true, "888b528f7e53c8a9b17844ae1722b2af37586aafbeb7d6bef4182e54a90ca9c8"), looks := false }, kinds := [], alts := [], laidByText := true, laidKinds := [.data], laidTests := true, laidLooks := .later }
def EventPutsUptoCardSaid : Prop := Claim7.holds Tryz.pinned (.plain (OpenSpec.upto eventPutsSpec)) eventPutsUptoCard

/-- THE SECOND FORM's CARD OF 'umpirelaw05.EventTakes'. -/
def eventTakesUptoCard : Claim7 := { stood := { row := eventTakesUptoRow, standIns := [], harness := (true, "888b528f7e53c8a9b17844ae1722b2af37586aafbeb7d6bef4182e54a90ca9c8"), looks := false }, kinds := [], alts := [], laidByText := true, laidKinds := [.data], laidTests := true, laidLooks := .later }
def EventTakesUptoCardSaid : Prop := Claim7.holds Tryz.pinned (.plain (OpenSpec.upto eventTakesSpec)) eventTakesUptoCard
end Rows
end Go.Proofs.YtibppobibncpdaaGreatDoor
