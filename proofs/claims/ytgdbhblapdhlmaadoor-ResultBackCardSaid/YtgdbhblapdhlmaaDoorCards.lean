/-
  DERIVED. GIVEN WITH THE SEED: THE CARDS: each row of YtgdbhblapdhlmaaDoorRows.lean that lists a variable, with what it lists TIED to the program's text (the seventh form; the later family's looks); each row that meets fmt, with fmt's text TOLD by the authors' own Lean function (tested against real Go, not proved from fmt's source: count such statements apart). THE CARD IS WHAT COUNTS. Prove the row's statement (the work); the ties are given (YtgdbhblapdhlmaaDoorTie.lean); close each card by the builder's one call (the guide's Derived/Test/ToyasCard.lean, 'card_holds'). Laid BY PROGRAM, IN A SANDBOX (cutbox-door.mjs). By AI agents, Wed Nov 11 2026. No macro, syntax, notation, axiom, sorry.
-/
import Derived.Test.YtgdbhblapdhlmaaDoorRows
import GoSem.ClaimSeven
namespace Go.Proofs.YtgdbhblapdhlmaaDoor
namespace Rows

/-- THE TIED CARD OF 'umpirelaw03.ResultForms'. -/
def resultFormsCard : Claim7 := { stood := { row := resultFormsRow, standIns := [], harness := (true, "90685315e3689d1f228022b64c69f5dfbe9938118e0240bb4bbe6381f39c687a"), looks := true }, kinds := [], alts := [], laidByText := true, laidKinds := [.data, .data, .data, .sentinel, .sentinel, .data], laidTests := true, laidLooks := .later }
def ResultFormsCardSaid : Prop := Claim7.holds Tryd.pinned (.plain (OpenSpec.ofChange resultFormsSpec)) resultFormsCard

/-- THE TIED CARD OF 'umpirelaw03.ResultKinds'. -/
def resultKindsCard : Claim7 := { stood := { row := resultKindsRow, standIns := [], harness := (true, "90685315e3689d1f228022b64c69f5dfbe9938118e0240bb4bbe6381f39c687a"), looks := true }, kinds := [], alts := [], laidByText := true, laidKinds := [.data, .data, .data, .sentinel, .sentinel, .data], laidTests := true, laidLooks := .later }
def ResultKindsCardSaid : Prop := Claim7.holds Tryd.pinned (.plain (OpenSpec.ofChange resultKindsSpec)) resultKindsCard

/-- THE TIED CARD OF 'umpirelaw03.ResultKnown'. -/
def resultKnownCard : Claim7 := { stood := { row := resultKnownRow, standIns := [], harness := (true, "90685315e3689d1f228022b64c69f5dfbe9938118e0240bb4bbe6381f39c687a"), looks := true }, kinds := [], alts := [], laidByText := true, laidKinds := [.data, .data, .data, .sentinel, .sentinel, .data], laidTests := true, laidLooks := .later }
def ResultKnownCardSaid : Prop := Claim7.holds Tryd.pinned (.plain (OpenSpec.ofChange resultKnownSpec)) resultKnownCard

/-- THE TIED CARD OF 'umpirelaw03.ResultBack'. -/
def resultBackCard : Claim7 := { stood := { row := resultBackRow, standIns := [], harness := (true, "90685315e3689d1f228022b64c69f5dfbe9938118e0240bb4bbe6381f39c687a"), looks := true }, kinds := [], alts := [], laidByText := true, laidKinds := [.data, .data, .data, .sentinel, .sentinel, .data], laidTests := true, laidLooks := .later }
def ResultBackCardSaid : Prop := Claim7.holds Tryd.pinned (.plain (OpenSpec.ofChange resultBackSpec)) resultBackCard

/-- THE SECOND FORM's CARD OF 'umpirelaw03.ResultForms'. -/
def resultFormsUptoCard : Claim7 := { stood := { row := resultFormsUptoRow, standIns := [], harness := (true, "90685315e3689d1f228022b64c69f5dfbe9938118e0240bb4bbe6381f39c687a"), looks := true }, kinds := [], alts := [], laidByText := true, laidKinds := [.data, .data, .data, .sentinel, .sentinel, .data], laidTests := true, laidLooks := .later }
def ResultFormsUptoCardSaid : Prop := Claim7.holds Tryd.pinned (.plain (OpenSpec.upto resultFormsSpec)) resultFormsUptoCard

/-- THE SECOND FORM's CARD OF 'umpirelaw03.ResultKinds'. -/
def resultKindsUptoCard : Claim7 := { stood := { row := resultKindsUptoRow, standIns := [], harness := (true, "90685315e3689d1f228022b64c69f5dfbe9938118e0240bb4bbe6381f39c687a"), looks := true }, kinds := [], alts := [], laidByText := true, laidKinds := [.data, .data, .data, .sentinel, .sentinel, .data], laidTests := true, laidLooks := .later }
def ResultKindsUptoCardSaid : Prop := Claim7.holds Tryd.pinned (.plain (OpenSpec.upto resultKindsSpec)) resultKindsUptoCard

/-- THE SECOND FORM's CARD OF 'umpirelaw03.ResultKnown'. -/
def resultKnownUptoCard : Claim7 := { stood := { row := resultKnownUptoRow, standIns := [], harness := (true, "90685315e3689d1f228022b64c69f5dfbe9938118e0240bb4bbe6381f39c687a"), looks := true }, kinds := [], alts := [], laidByText := true, laidKinds := [.data, .data, .data, .sentinel, .sentinel, .data], laidTests := true, laidLooks := .later }
def ResultKnownUptoCardSaid : Prop := Claim7.holds Tryd.pinned (.plain (OpenSpec.upto resultKnownSpec)) resultKnownUptoCard

/-- THE SECOND FORM's CARD OF 'umpirelaw03.ResultBack'. -/
def resultBackUptoCard : Claim7 := { stood := { row := resultBackUptoRow, standIns := [], harness := (true, "90685315e3689d1f228022b64c69f5dfbe9938118e0240bb4bbe6381f39c687a"), looks := true }, kinds := [], alts := [], laidByText := true, laidKinds := [.data, .data, .data, .sentinel, .sentinel, .data], laidTests := true, laidLooks := .later }
def ResultBackUptoCardSaid : Prop := Claim7.holds Tryd.pinned (.plain (OpenSpec.upto resultBackSpec)) resultBackUptoCard
end Rows
end Go.Proofs.YtgdbhblapdhlmaaDoor
