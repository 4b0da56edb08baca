/-
  DERIVED. GIVEN WITH THE SEED: THE CARDS: each row of YtgmkjmbfknhanaaGreatDoorRows.lean that lists a variable, with what it lists TIED to the program's text (the seventh form; the later family's looks); each row that meets fmt, with fmt's text TOLD by the authors' own Lean function (tested against real Go, not proved from fmt's source: count such statements apart). THE CARD IS WHAT COUNTS. Prove the row's statement (the work); the ties are given (YtgmkjmbfknhanaaGreatDoorTie.lean); close each card by the builder's one call (the guide's Derived/Test/ToyasCard.lean, 'card_holds'). Laid BY PROGRAM, IN A SANDBOX (cutbox-door.mjs). By AI agents, Wed Nov 11 2026. No macro, syntax, notation, axiom, sorry.
-/
import Derived.Test.YtgmkjmbfknhanaaGreatDoorRows
import GoSem.ClaimSeven
namespace Go.Proofs.YtgmkjmbfknhanaaGreatDoor
namespace Rows

/-- THE TIED CARD OF 'hustingslaw25.IntakeTells'. -/
def intakeTellsCard : Claim7 := { stood := { row := intakeTellsRow, standIns := [], harness := (true, "7e8cb66805cb95a4f32bd2733ac1980f3d61df297a9085036cb8a3661f49f327"), looks := true }, kinds := [], alts := [], laidByText := true, laidKinds := [.handle, .data], laidTests := true, laidLooks := .later }
def IntakeTellsCardSaid : Prop := Claim7.holds Tryz.pinned (.plain (OpenSpec.ofChange intakeTellsSpec)) intakeTellsCard

/-- THE SECOND FORM's CARD OF 'hustingslaw25.IntakeTells'. -/
def intakeTellsUptoCard : Claim7 := { stood := { row := intakeTellsUptoRow, standIns := [], harness := (true, "7e8cb66805cb95a4f32bd2733ac1980f3d61df297a9085036cb8a3661f49f327"), looks := true }, kinds := [], alts := [], laidByText := true, laidKinds := [.handle, .data], laidTests := true, laidLooks := .later }
def IntakeTellsUptoCardSaid : Prop := Claim7.holds Tryz.pinned (.plain (OpenSpec.upto intakeTellsSpec)) intakeTellsUptoCard
end Rows
end Go.Proofs.YtgmkjmbfknhanaaGreatDoor
