/-
  DERIVED. GIVEN WITH THE SEED: THE CARDS: each row of YtmimdiehbfgfjaaDoorRows.lean that lists a variable, with what it lists TIED to the program's text (the seventh form; the later family's looks); each row that meets fmt, with fmt's text TOLD by the authors' own Lean function (tested against real Go, not proved from fmt's source: count such statements apart). THE CARD IS WHAT COUNTS. Prove the row's statement (the work); the ties are given (YtmimdiehbfgfjaaDoorTie.lean); close each card by the builder's one call (the guide's Derived/Test/ToyasCard.lean, 'card_holds'). Laid BY PROGRAM, IN A SANDBOX (cutbox-door.mjs). By AI agents, Wed Nov 11 2026. No macro, syntax, notation, axiom, sorry.
-/
import Derived.Test.YtmimdiehbfgfjaaDoorRows
import GoSem.ClaimSeven
namespace Go.Proofs.YtmimdiehbfgfjaaDoor
namespace Rows

/-- THE TIED CARD OF 'hustingslaw03.HeadNames'. -/
def headNamesCard : Claim7 := { stood := { row := headNamesRow, standIns := [], harness := (true, "0e19dfe7ced2306b4822af6d8d2ec8a56bbc6d9c06100292f39e00644010b242"), looks := true }, kinds := [], alts := [], laidByText := true, laidKinds := [.handle, .data], laidTests := true, laidLooks := .later }
def HeadNamesCardSaid : Prop := Claim7.holds Tryd.pinned (.plain (OpenSpec.ofChange headNamesSpec)) headNamesCard

/-- THE TIED CARD OF 'hustingslaw06.EdnsNames'. -/
def ednsNamesCard : Claim7 := { stood := { row := ednsNamesRow, standIns := [], harness := (true, "0e19dfe7ced2306b4822af6d8d2ec8a56bbc6d9c06100292f39e00644010b242"), looks := true }, kinds := [], alts := [], laidByText := true, laidKinds := [.handle], laidTests := true, laidLooks := .later }
def EdnsNamesCardSaid : Prop := Claim7.holds Tryd.pinned (.plain (OpenSpec.ofChange ednsNamesSpec)) ednsNamesCard

/-- THE TIED CARD OF 'hustingslaw17.ConfNames'. -/
def confNamesCard : Claim7 := { stood := { row := confNamesRow, standIns := [], harness := (true, "0e19dfe7ced2306b4822af6d8d2ec8a56bbc6d9c06100292f39e00644010b242"), looks := true }, kinds := [], alts := [], laidByText := true, laidKinds := [.data, .data, .data, .data, .sentinel, .sentinel, .data, .pinned], laidTests := true, laidLooks := .later }
def ConfNamesCardSaid : Prop := Claim7.holds Tryd.pinned (.plain (OpenSpec.ofChange confNamesSpec)) confNamesCard

/-- THE SECOND FORM's CARD OF 'hustingslaw03.HeadNames'. -/
def headNamesUptoCard : Claim7 := { stood := { row := headNamesUptoRow, standIns := [], harness := (true, "0e19dfe7ced2306b4822af6d8d2ec8a56bbc6d9c06100292f39e00644010b242"), looks := true }, kinds := [], alts := [], laidByText := true, laidKinds := [.handle, .data], laidTests := true, laidLooks := .later }
def HeadNamesUptoCardSaid : Prop := Claim7.holds Tryd.pinned (.plain (OpenSpec.upto headNamesSpec)) headNamesUptoCard

/-- THE SECOND FORM's CARD OF 'hustingslaw06.EdnsNames'. -/
def ednsNamesUptoCard : Claim7 := { stood := { row := ednsNamesUptoRow, standIns := [], harness := (true, "0e19dfe7ced2306b4822af6d8d2ec8a56bbc6d9c06100292f39e00644010b242"), looks := true }, kinds := [], alts := [], laidByText := true, laidKinds := [.handle], laidTests := true, laidLooks := .later }
def EdnsNamesUptoCardSaid : Prop := Claim7.holds Tryd.pinned (.plain (OpenSpec.upto ednsNamesSpec)) ednsNamesUptoCard

/-- THE SECOND FORM's CARD OF 'hustingslaw17.ConfNames'. -/
def confNamesUptoCard : Claim7 := { stood := { row := confNamesUptoRow, standIns := [], harness := (true, "0e19dfe7ced2306b4822af6d8d2ec8a56bbc6d9c06100292f39e00644010b242"), looks := true }, kinds := [], alts := [], laidByText := true, laidKinds := [.data, .data, .data, .data, .sentinel, .sentinel, .data, .pinned], laidTests := true, laidLooks := .later }
def ConfNamesUptoCardSaid : Prop := Claim7.holds Tryd.pinned (.plain (OpenSpec.upto confNamesSpec)) confNamesUptoCard
end Rows
end Go.Proofs.YtmimdiehbfgfjaaDoor
