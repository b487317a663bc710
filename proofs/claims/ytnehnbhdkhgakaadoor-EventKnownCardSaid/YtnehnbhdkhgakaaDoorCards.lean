/-
  DERIVED. GIVEN WITH THE SEED: THE CARDS: each row of YtnehnbhdkhgakaaDoorRows.lean that lists a variable, with what it lists TIED to the program's text (the seventh form; the later family's looks); each row that meets fmt, with fmt's text TOLD by the authors' own Lean function (tested against real Go, not proved from fmt's source: count such statements apart). THE CARD IS WHAT COUNTS. Prove the row's statement (the work); the ties are given (YtnehnbhdkhgakaaDoorTie.lean); close each card by the builder's one call (the guide's Derived/Test/ToyasCard.lean, 'card_holds'). Laid BY PROGRAM, IN A SANDBOX (cutbox-door.mjs). By AI agents, Wed Nov 11 2026. No macro, syntax, notation, axiom, sorry.
-/
import Derived.Test.YtnehnbhdkhgakaaDoorRows
import GoSem.ClaimSeven
namespace Go.Proofs.YtnehnbhdkhgakaaDoor
namespace Rows

/-- THE TIED CARD OF 'umpirelaw05.EventKnown'. -/
def eventKnownCard : Claim7 := { stood := { row := eventKnownRow, standIns := [], harness := (true, "237623b3d17d58d990e9e775f94d6ba1a6fbe448683e59e60e4a61ce3e938ef5"), looks := false }, kinds := [], alts := [], laidByText := true, laidKinds := [.data], laidTests := true, laidLooks := .later }
def EventKnownCardSaid : Prop := Claim7.holds Tryd.pinned (.plain (OpenSpec.ofChange eventKnownSpec)) eventKnownCard

/-- THE TIED CARD OF 'umpirelaw05.EventBack'. -/
def eventBackCard : Claim7 := { stood := { row := eventBackRow, standIns := [], harness := (true, "237623b3d17d58d990e9e775f94d6ba1a6fbe448683e59e60e4a61ce3e938ef5"), looks := false }, kinds := [], alts := [], laidByText := true, laidKinds := [.data], laidTests := true, laidLooks := .later }
def EventBackCardSaid : Prop := Claim7.holds Tryd.pinned (.plain (OpenSpec.ofChange eventBackSpec)) eventBackCard

/-- THE TIED CARD OF 'umpirelaw05.EventWhole'. -/
def eventWholeCard : Claim7 := { stood := { row := eventWholeRow, standIns := [], harness := (true, "237623b3d17d58d990e9e775f94d6ba1a6fbe448683e59e60e4a61ce3e938ef5"), looks := false }, kinds := [], alts := [], laidByText := true, laidKinds := [.data], laidTests := true, laidLooks := .later }
def EventWholeCardSaid : Prop := Claim7.holds Tryd.pinned (.plain (OpenSpec.ofChange eventWholeSpec)) eventWholeCard

/-- THE SECOND FORM's CARD OF 'umpirelaw05.EventKnown'. -/
def eventKnownUptoCard : Claim7 := { stood := { row := eventKnownUptoRow, standIns := [], harness := (true, "237623b3d17d58d990e9e775f94d6ba1a6fbe448683e59e60e4a61ce3e938ef5"), looks := false }, kinds := [], alts := [], laidByText := true, laidKinds := [.data], laidTests := true, laidLooks := .later }
def EventKnownUptoCardSaid : Prop := Claim7.holds Tryd.pinned (.plain (OpenSpec.upto eventKnownSpec)) eventKnownUptoCard

/-- THE SECOND FORM's CARD OF 'umpirelaw05.EventBack'. -/
def eventBackUptoCard : Claim7 := { stood := { row := eventBackUptoRow, standIns := [], harness := (true, "237623b3d17d58d990e9e775f94d6ba1a6fbe448683e59e60e4a61ce3e938ef5"), looks := false }, kinds := [], alts := [], laidByText := true, laidKinds := [.data], laidTests := true, laidLooks := .later }
def EventBackUptoCardSaid : Prop := Claim7.holds Tryd.pinned (.plain (OpenSpec.upto eventBackSpec)) eventBackUptoCard

/-- THE SECOND FORM's CARD OF 'umpirelaw05.EventWhole'. -/
def eventWholeUptoCard : Claim7 := { stood := { row := eventWholeUptoRow, standIns := [], harness := (true, "237623b3d17d58d990e9e775f94d6ba1a6fbe448683e59e60e4a61ce3e938ef5"), looks := false }, kinds := [], alts := [], laidByText := true, laidKinds := [.data], laidTests := true, laidLooks := .later }
def EventWholeUptoCardSaid : Prop := Claim7.holds Tryd.pinned (.plain (OpenSpec.upto eventWholeSpec)) eventWholeUptoCard
end Rows
end Go.Proofs.YtnehnbhdkhgakaaDoor
