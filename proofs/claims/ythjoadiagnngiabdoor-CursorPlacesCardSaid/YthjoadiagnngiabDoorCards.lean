/-
  DERIVED. GIVEN WITH THE SEED: THE CARDS: each row of YthjoadiagnngiabDoorRows.lean that lists a variable, with what it lists TIED to the program's text (the seventh form; the later family's looks); each row that meets fmt, with fmt's text TOLD by the authors' own Lean function (tested against real Go, not proved from fmt's source: count such statements apart). THE CARD IS WHAT COUNTS. Prove the row's statement (the work); the ties are given (YthjoadiagnngiabDoorTie.lean); close each card by the builder's one call (the guide's Derived/Test/ToyasCard.lean, 'card_holds'). Laid BY PROGRAM, IN A SANDBOX (cutbox-door.mjs). By AI agents, Wed Nov 11 2026. No macro, syntax, notation, axiom, sorry.
-/
import Derived.Test.YthjoadiagnngiabDoorRows
import GoSem.ClaimSeven
namespace Go.Proofs.YthjoadiagnngiabDoor
namespace Rows

/-- THE TIED CARD OF 'hustingslaw02.CursorPlaces'. -/
def cursorPlacesCard : Claim7 := { stood := { row := cursorPlacesRow, standIns := [], harness := (true, "0f8ecf1136a6e1361cdd9ea3d064082b3b6147ae77ccff4c7dc9d7af19a50d9a"), looks := true }, kinds := [], alts := [], laidByText := true, laidKinds := [.handle], laidTests := true, laidLooks := .later }
def CursorPlacesCardSaid : Prop := Claim7.holds Tryd.pinned (.plain (OpenSpec.ofChange cursorPlacesSpec)) cursorPlacesCard

/-- THE TIED CARD OF 'hustingslaw02.CursorApart'. -/
def cursorApartCard : Claim7 := { stood := { row := cursorApartRow, standIns := [], harness := (true, "0f8ecf1136a6e1361cdd9ea3d064082b3b6147ae77ccff4c7dc9d7af19a50d9a"), looks := true }, kinds := [], alts := [], laidByText := true, laidKinds := [.handle], laidTests := true, laidLooks := .later }
def CursorApartCardSaid : Prop := Claim7.holds Tryd.pinned (.plain (OpenSpec.ofChange cursorApartSpec)) cursorApartCard

/-- THE TIED CARD OF 'hustingslaw13.SipNames'. -/
def sipNamesCard : Claim7 := { stood := { row := sipNamesRow, standIns := [], harness := (true, "0f8ecf1136a6e1361cdd9ea3d064082b3b6147ae77ccff4c7dc9d7af19a50d9a"), looks := true }, kinds := [], alts := [], laidByText := true, laidKinds := [.data], laidTests := true, laidLooks := .later }
def SipNamesCardSaid : Prop := Claim7.holds Tryd.pinned (.plain (OpenSpec.ofChange sipNamesSpec)) sipNamesCard

/-- THE TIED CARD OF 'hustingslaw13.SipTells'. -/
def sipTellsCard : Claim7 := { stood := { row := sipTellsRow, standIns := [], harness := (true, "0f8ecf1136a6e1361cdd9ea3d064082b3b6147ae77ccff4c7dc9d7af19a50d9a"), looks := true }, kinds := [], alts := [], laidByText := true, laidKinds := [.data], laidTests := true, laidLooks := .later }
def SipTellsCardSaid : Prop := Claim7.holds Tryd.pinned (.plain (OpenSpec.ofChange sipTellsSpec)) sipTellsCard

/-- THE TIED CARD OF 'hustingslaw13.SipPlays'. -/
def sipPlaysCard : Claim7 := { stood := { row := sipPlaysRow, standIns := [], harness := (true, "0f8ecf1136a6e1361cdd9ea3d064082b3b6147ae77ccff4c7dc9d7af19a50d9a"), looks := true }, kinds := [], alts := [], laidByText := true, laidKinds := [.data], laidTests := true, laidLooks := .later }
def SipPlaysCardSaid : Prop := Claim7.holds Tryd.pinned (.plain (OpenSpec.ofChange sipPlaysSpec)) sipPlaysCard

/-- THE TIED CARD OF 'hustingslaw13.SipParts'. -/
def sipPartsCard : Claim7 := { stood := { row := sipPartsRow, standIns := [], harness := (true, "0f8ecf1136a6e1361cdd9ea3d064082b3b6147ae77ccff4c7dc9d7af19a50d9a"), looks := true }, kinds := [], alts := [], laidByText := true, laidKinds := [.data], laidTests := true, laidLooks := .later }
def SipPartsCardSaid : Prop := Claim7.holds Tryd.pinned (.plain (OpenSpec.ofChange sipPartsSpec)) sipPartsCard

/-- THE TIED CARD OF 'hustingslaw13.SipOn'. -/
def sipOnCard : Claim7 := { stood := { row := sipOnRow, standIns := [], harness := (true, "0f8ecf1136a6e1361cdd9ea3d064082b3b6147ae77ccff4c7dc9d7af19a50d9a"), looks := true }, kinds := [], alts := [], laidByText := true, laidKinds := [.data], laidTests := true, laidLooks := .later }
def SipOnCardSaid : Prop := Claim7.holds Tryd.pinned (.plain (OpenSpec.ofChange sipOnSpec)) sipOnCard

/-- THE SECOND FORM's CARD OF 'hustingslaw02.CursorPlaces'. -/
def cursorPlacesUptoCard : Claim7 := { stood := { row := cursorPlacesUptoRow, standIns := [], harness := (true, "0f8ecf1136a6e1361cdd9ea3d064082b3b6147ae77ccff4c7dc9d7af19a50d9a"), looks := true }, kinds := [], alts := [], laidByText := true, laidKinds := [.handle], laidTests := true, laidLooks := .later }
def CursorPlacesUptoCardSaid : Prop := Claim7.holds Tryd.pinned (.plain (OpenSpec.upto cursorPlacesSpec)) cursorPlacesUptoCard

/-- THE SECOND FORM's CARD OF 'hustingslaw02.CursorApart'. -/
def cursorApartUptoCard : Claim7 := { stood := { row := cursorApartUptoRow, standIns := [], harness := (true, "0f8ecf1136a6e1361cdd9ea3d064082b3b6147ae77ccff4c7dc9d7af19a50d9a"), looks := true }, kinds := [], alts := [], laidByText := true, laidKinds := [.handle], laidTests := true, laidLooks := .later }
def CursorApartUptoCardSaid : Prop := Claim7.holds Tryd.pinned (.plain (OpenSpec.upto cursorApartSpec)) cursorApartUptoCard

/-- THE SECOND FORM's CARD OF 'hustingslaw13.SipNames'. -/
def sipNamesUptoCard : Claim7 := { stood := { row := sipNamesUptoRow, standIns := [], harness := (true, "0f8ecf1136a6e1361cdd9ea3d064082b3b6147ae77ccff4c7dc9d7af19a50d9a"), looks := true }, kinds := [], alts := [], laidByText := true, laidKinds := [.data], laidTests := true, laidLooks := .later }
def SipNamesUptoCardSaid : Prop := Claim7.holds Tryd.pinned (.plain (OpenSpec.upto sipNamesSpec)) sipNamesUptoCard

/-- THE SECOND FORM's CARD OF 'hustingslaw13.SipTells'. -/
def sipTellsUptoCard : Claim7 := { stood := { row := sipTellsUptoRow, standIns := [], harness := (true, "0f8ecf1136a6e1361cdd9ea3d064082b3b6147ae77ccff4c7dc9d7af19a50d9a"), looks := true }, kinds := [], alts := [], laidByText := true, laidKinds := [.data], laidTests := true, laidLooks := .later }
def SipTellsUptoCardSaid : Prop := Claim7.holds Tryd.pinned (.plain (OpenSpec.upto sipTellsSpec)) sipTellsUptoCard

/-- THE SECOND FORM's CARD OF 'hustingslaw13.SipPlays'. -/
def sipPlaysUptoCard : Claim7 := { stood := { row := sipPlaysUptoRow, standIns := [], harness := (true, "0f8ecf1136a6e1361cdd9ea3d064082b3b6147ae77ccff4c7dc9d7af19a50d9a"), looks := true }, kinds := [], alts := [], laidByText := true, laidKinds := [.data], laidTests := true, laidLooks := .later }
def SipPlaysUptoCardSaid : Prop := Claim7.holds Tryd.pinned (.plain (OpenSpec.upto sipPlaysSpec)) sipPlaysUptoCard

/-- THE SECOND FORM's CARD OF 'hustingslaw13.SipParts'. -/
def sipPartsUptoCard : Claim7 := { stood := { row := sipPartsUptoRow, standIns := [], harness := (true, "0f8ecf1136a6e1361cdd9ea3d064082b3b6147ae77ccff4c7dc9d7af19a50d9a"), looks := true }, kinds := [], alts := [], laidByText := true, laidKinds := [.data], laidTests := true, laidLooks := .later }
def SipPartsUptoCardSaid : Prop := Claim7.holds Tryd.pinned (.plain (OpenSpec.upto sipPartsSpec)) sipPartsUptoCard

/-- THE SECOND FORM's CARD OF 'hustingslaw13.SipOn'. -/
def sipOnUptoCard : Claim7 := { stood := { row := sipOnUptoRow, standIns := [], harness := (true, "0f8ecf1136a6e1361cdd9ea3d064082b3b6147ae77ccff4c7dc9d7af19a50d9a"), looks := true }, kinds := [], alts := [], laidByText := true, laidKinds := [.data], laidTests := true, laidLooks := .later }
def SipOnUptoCardSaid : Prop := Claim7.holds Tryd.pinned (.plain (OpenSpec.upto sipOnSpec)) sipOnUptoCard
end Rows
end Go.Proofs.YthjoadiagnngiabDoor
