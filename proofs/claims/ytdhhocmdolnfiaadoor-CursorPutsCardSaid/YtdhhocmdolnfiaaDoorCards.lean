/-
  DERIVED. GIVEN WITH THE SEED: THE CARDS: each row of YtdhhocmdolnfiaaDoorRows.lean that lists a variable, with what it lists TIED to the program's text (the seventh form; the later family's looks); each row that meets fmt, with fmt's text TOLD by the authors' own Lean function (tested against real Go, not proved from fmt's source: count such statements apart). THE CARD IS WHAT COUNTS. Prove the row's statement (the work); the ties are given (YtdhhocmdolnfiaaDoorTie.lean); close each card by the builder's one call (the guide's Derived/Test/ToyasCard.lean, 'card_holds'). Laid BY PROGRAM, IN A SANDBOX (cutbox-door.mjs). By AI agents, Wed Nov 11 2026. No macro, syntax, notation, axiom, sorry.
-/
import Derived.Test.YtdhhocmdolnfiaaDoorRows
import GoSem.ClaimSeven
namespace Go.Proofs.YtdhhocmdolnfiaaDoor
namespace Rows

/-- THE TIED CARD OF 'hustingslaw13.SipTells'. -/
def sipTellsCard : Claim7 := { stood := { row := sipTellsRow, standIns := [], harness := (true, "7bf1d2bd67d51c0214ba96b6e6af5fd146776f394765f94a6f9a78a3f2ea287f"), looks := true }, kinds := [], alts := [], laidByText := true, laidKinds := [.data], laidTests := true, laidLooks := .later }
def SipTellsCardSaid : Prop := Claim7.holds Tryd.pinned (.plain (OpenSpec.ofChange sipTellsSpec)) sipTellsCard

/-- THE TIED CARD OF 'hustingslaw13.SipPlays'. -/
def sipPlaysCard : Claim7 := { stood := { row := sipPlaysRow, standIns := [], harness := (true, "7bf1d2bd67d51c0214ba96b6e6af5fd146776f394765f94a6f9a78a3f2ea287f"), looks := true }, kinds := [], alts := [], laidByText := true, laidKinds := [.data], laidTests := true, laidLooks := .later }
def SipPlaysCardSaid : Prop := Claim7.holds Tryd.pinned (.plain (OpenSpec.ofChange sipPlaysSpec)) sipPlaysCard

/-- THE TIED CARD OF 'hustingslaw13.SipParts'. -/
def sipPartsCard : Claim7 := { stood := { row := sipPartsRow, standIns := [], harness := (true, "7bf1d2bd67d51c0214ba96b6e6af5fd146776f394765f94a6f9a78a3f2ea287f"), looks := true }, kinds := [], alts := [], laidByText := true, laidKinds := [.data], laidTests := true, laidLooks := .later }
def SipPartsCardSaid : Prop := Claim7.holds Tryd.pinned (.plain (OpenSpec.ofChange sipPartsSpec)) sipPartsCard

/-- THE TIED CARD OF 'hustingslaw13.SipOn'. -/
def sipOnCard : Claim7 := { stood := { row := sipOnRow, standIns := [], harness := (true, "7bf1d2bd67d51c0214ba96b6e6af5fd146776f394765f94a6f9a78a3f2ea287f"), looks := true }, kinds := [], alts := [], laidByText := true, laidKinds := [.data], laidTests := true, laidLooks := .later }
def SipOnCardSaid : Prop := Claim7.holds Tryd.pinned (.plain (OpenSpec.ofChange sipOnSpec)) sipOnCard

/-- THE TIED CARD OF 'hustingslaw02.CursorReads'. -/
def cursorReadsCard : Claim7 := { stood := { row := cursorReadsRow, standIns := [], harness := (true, "7bf1d2bd67d51c0214ba96b6e6af5fd146776f394765f94a6f9a78a3f2ea287f"), looks := true }, kinds := [], alts := [], laidByText := true, laidKinds := [.handle], laidTests := true, laidLooks := .later }
def CursorReadsCardSaid : Prop := Claim7.holds Tryd.pinned (.plain (OpenSpec.ofChange cursorReadsSpec)) cursorReadsCard

/-- THE TIED CARD OF 'hustingslaw02.CursorPuts'. -/
def cursorPutsCard : Claim7 := { stood := { row := cursorPutsRow, standIns := [], harness := (true, "7bf1d2bd67d51c0214ba96b6e6af5fd146776f394765f94a6f9a78a3f2ea287f"), looks := true }, kinds := [], alts := [], laidByText := true, laidKinds := [.handle], laidTests := true, laidLooks := .later }
def CursorPutsCardSaid : Prop := Claim7.holds Tryd.pinned (.plain (OpenSpec.ofChange cursorPutsSpec)) cursorPutsCard

/-- THE TIED CARD OF 'hustingslaw02.CursorApart'. -/
def cursorApartCard : Claim7 := { stood := { row := cursorApartRow, standIns := [], harness := (true, "7bf1d2bd67d51c0214ba96b6e6af5fd146776f394765f94a6f9a78a3f2ea287f"), looks := true }, kinds := [], alts := [], laidByText := true, laidKinds := [.handle], laidTests := true, laidLooks := .later }
def CursorApartCardSaid : Prop := Claim7.holds Tryd.pinned (.plain (OpenSpec.ofChange cursorApartSpec)) cursorApartCard

/-- THE SECOND FORM's CARD OF 'hustingslaw13.SipTells'. -/
def sipTellsUptoCard : Claim7 := { stood := { row := sipTellsUptoRow, standIns := [], harness := (true, "7bf1d2bd67d51c0214ba96b6e6af5fd146776f394765f94a6f9a78a3f2ea287f"), looks := true }, kinds := [], alts := [], laidByText := true, laidKinds := [.data], laidTests := true, laidLooks := .later }
def SipTellsUptoCardSaid : Prop := Claim7.holds Tryd.pinned (.plain (OpenSpec.upto sipTellsSpec)) sipTellsUptoCard

/-- THE SECOND FORM's CARD OF 'hustingslaw13.SipPlays'. -/
def sipPlaysUptoCard : Claim7 := { stood := { row := sipPlaysUptoRow, standIns := [], harness := (true, "7bf1d2bd67d51c0214ba96b6e6af5fd146776f394765f94a6f9a78a3f2ea287f"), looks := true }, kinds := [], alts := [], laidByText := true, laidKinds := [.data], laidTests := true, laidLooks := .later }
def SipPlaysUptoCardSaid : Prop := Claim7.holds Tryd.pinned (.plain (OpenSpec.upto sipPlaysSpec)) sipPlaysUptoCard

/-- THE SECOND FORM's CARD OF 'hustingslaw13.SipParts'. -/
def sipPartsUptoCard : Claim7 := { stood := { row := sipPartsUptoRow, standIns := [], harness := (true, "7bf1d2bd67d51c0214ba96b6e6af5fd146776f394765f94a6f9a78a3f2ea287f"), looks := true }, kinds := [], alts := [], laidByText := true, laidKinds := [.data], laidTests := true, laidLooks := .later }
def SipPartsUptoCardSaid : Prop := Claim7.holds Tryd.pinned (.plain (OpenSpec.upto sipPartsSpec)) sipPartsUptoCard

/-- THE SECOND FORM's CARD OF 'hustingslaw13.SipOn'. -/
def sipOnUptoCard : Claim7 := { stood := { row := sipOnUptoRow, standIns := [], harness := (true, "7bf1d2bd67d51c0214ba96b6e6af5fd146776f394765f94a6f9a78a3f2ea287f"), looks := true }, kinds := [], alts := [], laidByText := true, laidKinds := [.data], laidTests := true, laidLooks := .later }
def SipOnUptoCardSaid : Prop := Claim7.holds Tryd.pinned (.plain (OpenSpec.upto sipOnSpec)) sipOnUptoCard

/-- THE SECOND FORM's CARD OF 'hustingslaw02.CursorReads'. -/
def cursorReadsUptoCard : Claim7 := { stood := { row := cursorReadsUptoRow, standIns := [], harness := (true, "7bf1d2bd67d51c0214ba96b6e6af5fd146776f394765f94a6f9a78a3f2ea287f"), looks := true }, kinds := [], alts := [], laidByText := true, laidKinds := [.handle], laidTests := true, laidLooks := .later }
def CursorReadsUptoCardSaid : Prop := Claim7.holds Tryd.pinned (.plain (OpenSpec.upto cursorReadsSpec)) cursorReadsUptoCard

/-- THE SECOND FORM's CARD OF 'hustingslaw02.CursorPuts'. -/
def cursorPutsUptoCard : Claim7 := { stood := { row := cursorPutsUptoRow, standIns := [], harness := (true, "7bf1d2bd67d51c0214ba96b6e6af5fd146776f394765f94a6f9a78a3f2ea287f"), looks := true }, kinds := [], alts := [], laidByText := true, laidKinds := [.handle], laidTests := true, laidLooks := .later }
def CursorPutsUptoCardSaid : Prop := Claim7.holds Tryd.pinned (.plain (OpenSpec.upto cursorPutsSpec)) cursorPutsUptoCard

/-- THE SECOND FORM's CARD OF 'hustingslaw02.CursorApart'. -/
def cursorApartUptoCard : Claim7 := { stood := { row := cursorApartUptoRow, standIns := [], harness := (true, "7bf1d2bd67d51c0214ba96b6e6af5fd146776f394765f94a6f9a78a3f2ea287f"), looks := true }, kinds := [], alts := [], laidByText := true, laidKinds := [.handle], laidTests := true, laidLooks := .later }
def CursorApartUptoCardSaid : Prop := Claim7.holds Tryd.pinned (.plain (OpenSpec.upto cursorApartSpec)) cursorApartUptoCard
end Rows
end Go.Proofs.YtdhhocmdolnfiaaDoor
