/-
  DERIVED. GIVEN WITH THE SEED: THE CARDS: each row of YtabhfjbgoppgmaaGreatDoorRows.lean that lists a variable, with what it lists TIED to the program's text (the seventh form; the later family's looks); each row that meets fmt, with fmt's text TOLD by the authors' own Lean function (tested against real Go, not proved from fmt's source: count such statements apart). THE CARD IS WHAT COUNTS. Prove the row's statement (the work); the ties are given (YtabhfjbgoppgmaaGreatDoorTie.lean); close each card by the builder's one call (the guide's Derived/Test/ToyasCard.lean, 'card_holds'). Laid BY PROGRAM, IN A SANDBOX (cutbox-door.mjs). By AI agents, Wed Nov 11 2026. No macro, syntax, notation, axiom, sorry.
-/
import Derived.Test.YtabhfjbgoppgmaaGreatDoorRows
import GoSem.ClaimSeven
namespace Go.Proofs.YtabhfjbgoppgmaaGreatDoor
namespace Rows

/-- THE TIED CARD OF 'hustingslaw25.IntakeRoom'. -/
def intakeRoomCard : Claim7 := { stood := { row := intakeRoomRow, standIns := [], harness := (true, "bc98ad1775351fe1c3a0e171e028840a9c657c85c376f11f5edee8e1c3eeab96"), looks := true }, kinds := [], alts := [], laidByText := true, laidKinds := [.handle, .data], laidTests := true, laidLooks := .later }
def IntakeRoomCardSaid : Prop := Claim7.holds Tryz.pinned (.plain (OpenSpec.ofChange intakeRoomSpec)) intakeRoomCard

/-- THE SECOND FORM's CARD OF 'hustingslaw25.IntakeRoom'. -/
def intakeRoomUptoCard : Claim7 := { stood := { row := intakeRoomUptoRow, standIns := [], harness := (true, "bc98ad1775351fe1c3a0e171e028840a9c657c85c376f11f5edee8e1c3eeab96"), looks := true }, kinds := [], alts := [], laidByText := true, laidKinds := [.handle, .data], laidTests := true, laidLooks := .later }
def IntakeRoomUptoCardSaid : Prop := Claim7.holds Tryz.pinned (.plain (OpenSpec.upto intakeRoomSpec)) intakeRoomUptoCard
end Rows
end Go.Proofs.YtabhfjbgoppgmaaGreatDoor
