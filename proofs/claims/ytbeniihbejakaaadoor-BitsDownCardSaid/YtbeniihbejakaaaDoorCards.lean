/-
  DERIVED. GIVEN WITH THE SEED: THE CARDS: each row of YtbeniihbejakaaaDoorRows.lean that lists a variable, with what it lists TIED to the program's text (the seventh form; the later family's looks); each row that meets fmt, with fmt's text TOLD by the authors' own Lean function (tested against real Go, not proved from fmt's source: count such statements apart). THE CARD IS WHAT COUNTS. Prove the row's statement (the work); the ties are given (YtbeniihbejakaaaDoorTie.lean); close each card by the builder's one call (the guide's Derived/Test/ToyasCard.lean, 'card_holds'). Laid BY PROGRAM, IN A SANDBOX (cutbox-door.mjs). By AI agents, Wed Nov 11 2026. No macro, syntax, notation, axiom, sorry.
-/
import Derived.Test.YtbeniihbejakaaaDoorRows
import GoSem.ClaimSeven
namespace Go.Proofs.YtbeniihbejakaaaDoor
namespace Rows

/-- THE TIED CARD OF 'umpirelaw15.BitsPlays'. -/
def bitsPlaysCard : Claim7 := { stood := { row := bitsPlaysRow, standIns := [], harness := (true, "14af5f9ef467abc95bb79fae97ba8cb667d54f02fd9a8cd99aee26f58d6612c1"), looks := false }, kinds := [], alts := [], laidByText := true, laidKinds := [.data], laidTests := true, laidLooks := .later }
def BitsPlaysCardSaid : Prop := Claim7.holds Tryd.pinned (.plain (OpenSpec.ofChange bitsPlaysSpec)) bitsPlaysCard

/-- THE TIED CARD OF 'umpirelaw15.BitsKeys'. -/
def bitsKeysCard : Claim7 := { stood := { row := bitsKeysRow, standIns := [], harness := (true, "14af5f9ef467abc95bb79fae97ba8cb667d54f02fd9a8cd99aee26f58d6612c1"), looks := false }, kinds := [], alts := [], laidByText := true, laidKinds := [.data], laidTests := true, laidLooks := .later }
def BitsKeysCardSaid : Prop := Claim7.holds Tryd.pinned (.plain (OpenSpec.ofChange bitsKeysSpec)) bitsKeysCard

/-- THE TIED CARD OF 'umpirelaw15.BitsKnown'. -/
def bitsKnownCard : Claim7 := { stood := { row := bitsKnownRow, standIns := [], harness := (true, "14af5f9ef467abc95bb79fae97ba8cb667d54f02fd9a8cd99aee26f58d6612c1"), looks := false }, kinds := [], alts := [], laidByText := true, laidKinds := [.data], laidTests := true, laidLooks := .later }
def BitsKnownCardSaid : Prop := Claim7.holds Tryd.pinned (.plain (OpenSpec.ofChange bitsKnownSpec)) bitsKnownCard

/-- THE TIED CARD OF 'umpirelaw15.BitsApart'. -/
def bitsApartCard : Claim7 := { stood := { row := bitsApartRow, standIns := [], harness := (true, "14af5f9ef467abc95bb79fae97ba8cb667d54f02fd9a8cd99aee26f58d6612c1"), looks := false }, kinds := [], alts := [], laidByText := true, laidKinds := [.data], laidTests := true, laidLooks := .later }
def BitsApartCardSaid : Prop := Claim7.holds Tryd.pinned (.plain (OpenSpec.ofChange bitsApartSpec)) bitsApartCard

/-- THE TIED CARD OF 'umpirelaw15.BitsDown'. -/
def bitsDownCard : Claim7 := { stood := { row := bitsDownRow, standIns := [], harness := (true, "14af5f9ef467abc95bb79fae97ba8cb667d54f02fd9a8cd99aee26f58d6612c1"), looks := false }, kinds := [], alts := [], laidByText := true, laidKinds := [.data], laidTests := true, laidLooks := .later }
def BitsDownCardSaid : Prop := Claim7.holds Tryd.pinned (.plain (OpenSpec.ofChange bitsDownSpec)) bitsDownCard

/-- THE SECOND FORM's CARD OF 'umpirelaw15.BitsPlays'. -/
def bitsPlaysUptoCard : Claim7 := { stood := { row := bitsPlaysUptoRow, standIns := [], harness := (true, "14af5f9ef467abc95bb79fae97ba8cb667d54f02fd9a8cd99aee26f58d6612c1"), looks := false }, kinds := [], alts := [], laidByText := true, laidKinds := [.data], laidTests := true, laidLooks := .later }
def BitsPlaysUptoCardSaid : Prop := Claim7.holds Tryd.pinned (.plain (OpenSpec.upto bitsPlaysSpec)) bitsPlaysUptoCard

/-- THE SECOND FORM's CARD OF 'umpirelaw15.BitsKeys'. -/
def bitsKeysUptoCard : Claim7 := { stood := { row := bitsKeysUptoRow, standIns := [], harness := (true, "14af5f9ef467abc95bb79fae97ba8cb667d54f02fd9a8cd99aee26f58d6612c1"), looks := false }, kinds := [], alts := [], laidByText := true, laidKinds := [.data], laidTests := true, laidLooks := .later }
def BitsKeysUptoCardSaid : Prop := Claim7.holds Tryd.pinned (.plain (OpenSpec.upto bitsKeysSpec)) bitsKeysUptoCard

/-- THE SECOND FORM's CARD OF 'umpirelaw15.BitsKnown'. -/
def bitsKnownUptoCard : Claim7 := { stood := { row := bitsKnownUptoRow, standIns := [], harness := (true, "14af5f9ef467abc95bb79fae97ba8cb667d54f02fd9a8cd99aee26f58d6612c1"), looks := false }, kinds := [], alts := [], laidByText := true, laidKinds := [.data], laidTests := true, laidLooks := .later }
def BitsKnownUptoCardSaid : Prop := Claim7.holds Tryd.pinned (.plain (OpenSpec.upto bitsKnownSpec)) bitsKnownUptoCard

/-- THE SECOND FORM's CARD OF 'umpirelaw15.BitsApart'. -/
def bitsApartUptoCard : Claim7 := { stood := { row := bitsApartUptoRow, standIns := [], harness := (true, "14af5f9ef467abc95bb79fae97ba8cb667d54f02fd9a8cd99aee26f58d6612c1"), looks := false }, kinds := [], alts := [], laidByText := true, laidKinds := [.data], laidTests := true, laidLooks := .later }
def BitsApartUptoCardSaid : Prop := Claim7.holds Tryd.pinned (.plain (OpenSpec.upto bitsApartSpec)) bitsApartUptoCard

/-- THE SECOND FORM's CARD OF 'umpirelaw15.BitsDown'. -/
def bitsDownUptoCard : Claim7 := { stood := { row := bitsDownUptoRow, standIns := [], harness := (true, "14af5f9ef467abc95bb79fae97ba8cb667d54f02fd9a8cd99aee26f58d6612c1"), looks := false }, kinds := [], alts := [], laidByText := true, laidKinds := [.data], laidTests := true, laidLooks := .later }
def BitsDownUptoCardSaid : Prop := Claim7.holds Tryd.pinned (.plain (OpenSpec.upto bitsDownSpec)) bitsDownUptoCard
end Rows
end Go.Proofs.YtbeniihbejakaaaDoor
