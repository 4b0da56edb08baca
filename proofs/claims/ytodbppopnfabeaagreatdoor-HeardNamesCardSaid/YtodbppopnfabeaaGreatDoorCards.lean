/-
  DERIVED. GIVEN WITH THE SEED: THE CARDS: each row of YtodbppopnfabeaaGreatDoorRows.lean that lists a variable, with what it lists TIED to the program's text (the seventh form; the later family's looks); each row that meets fmt, with fmt's text TOLD by the authors' own Lean function (tested against real Go, not proved from fmt's source: count such statements apart). THE CARD IS WHAT COUNTS. Prove the row's statement (the work); the ties are given (YtodbppopnfabeaaGreatDoorTie.lean); close each card by the builder's one call (the guide's Derived/Test/ToyasCard.lean, 'card_holds'). Laid BY PROGRAM, IN A SANDBOX (cutbox-door.mjs). By AI agents, Wed Nov 11 2026. No macro, syntax, notation, axiom, sorry.
-/
import Derived.Test.YtodbppopnfabeaaGreatDoorRows
import GoSem.ClaimSeven
namespace Go.Proofs.YtodbppopnfabeaaGreatDoor
namespace Rows

/-- THE TIED CARD OF 'hustingslaw24.HeardNames'. -/
def heardNamesCard : Claim7 := { stood := { row := heardNamesRow, standIns := [], harness := (true, "da6a9ec5bbdef0aff21754261be0ab173ccc7378dcf39af47ce79393eeb9f8a9"), looks := true }, kinds := [], alts := [], laidByText := true, laidKinds := [.handle, .data, .sentinel, .sentinel, .sentinel, .sentinel, .sentinel, .sentinel], laidTests := true, laidLooks := .later }
def HeardNamesCardSaid : Prop := Claim7.holds Tryz.pinned (.plain (OpenSpec.ofChange heardNamesSpec)) heardNamesCard

/-- THE TIED CARD OF 'hustingslaw25.IntakeNames'. -/
def intakeNamesCard : Claim7 := { stood := { row := intakeNamesRow, standIns := [], harness := (true, "da6a9ec5bbdef0aff21754261be0ab173ccc7378dcf39af47ce79393eeb9f8a9"), looks := true }, kinds := [], alts := [], laidByText := true, laidKinds := [.handle, .data], laidTests := true, laidLooks := .later }
def IntakeNamesCardSaid : Prop := Claim7.holds Tryz.pinned (.plain (OpenSpec.ofChange intakeNamesSpec)) intakeNamesCard

/-- THE SECOND FORM's CARD OF 'hustingslaw24.HeardNames'. -/
def heardNamesUptoCard : Claim7 := { stood := { row := heardNamesUptoRow, standIns := [], harness := (true, "da6a9ec5bbdef0aff21754261be0ab173ccc7378dcf39af47ce79393eeb9f8a9"), looks := true }, kinds := [], alts := [], laidByText := true, laidKinds := [.handle, .data, .sentinel, .sentinel, .sentinel, .sentinel, .sentinel, .sentinel], laidTests := true, laidLooks := .later }
def HeardNamesUptoCardSaid : Prop := Claim7.holds Tryz.pinned (.plain (OpenSpec.upto heardNamesSpec)) heardNamesUptoCard

/-- THE SECOND FORM's CARD OF 'hustingslaw25.IntakeNames'. -/
def intakeNamesUptoCard : Claim7 := { stood := { row := intakeNamesUptoRow, standIns := [], harness := (true, "da6a9ec5bbdef0aff21754261be0ab173ccc7378dcf39af47ce79393eeb9f8a9"), looks := true }, kinds := [], alts := [], laidByText := true, laidKinds := [.handle, .data], laidTests := true, laidLooks := .later }
def IntakeNamesUptoCardSaid : Prop := Claim7.holds Tryz.pinned (.plain (OpenSpec.upto intakeNamesSpec)) intakeNamesUptoCard
end Rows
end Go.Proofs.YtodbppopnfabeaaGreatDoor
