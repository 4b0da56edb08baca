/-
  DERIVED. GIVEN WITH THE SEED: THE CARDS: each row of YtfhnemmfihcdkaaDoorRows.lean that lists a variable, with what it lists TIED to the program's text (the seventh form; the later family's looks); each row that meets fmt, with fmt's text TOLD by the authors' own Lean function (tested against real Go, not proved from fmt's source: count such statements apart). THE CARD IS WHAT COUNTS. Prove the row's statement (the work); the ties are given (YtfhnemmfihcdkaaDoorTie.lean); close each card by the builder's one call (the guide's Derived/Test/ToyasCard.lean, 'card_holds'). Laid BY PROGRAM, IN A SANDBOX (cutbox-door.mjs). By AI agents, Wed Nov 11 2026. No macro, syntax, notation, axiom, sorry.
-/
import Derived.Test.YtfhnemmfihcdkaaDoorRows
import GoSem.ClaimSeven
namespace Go.Proofs.YtfhnemmfihcdkaaDoor
namespace Rows

/-- THE TIED CARD OF 'hustingslaw13.SipNames'. -/
def sipNamesCard : Claim7 := { stood := { row := sipNamesRow, standIns := [], harness := (true, "714cbd2b24dfe79203526cb1c1df7e70484ef28aa7373e3291b12c886ec3504d"), looks := false }, kinds := [], alts := [], laidByText := true, laidKinds := [.data], laidTests := true, laidLooks := .later }
def SipNamesCardSaid : Prop := Claim7.holds Tryd.pinned (.plain (OpenSpec.ofChange sipNamesSpec)) sipNamesCard

/-- THE SECOND FORM's CARD OF 'hustingslaw13.SipNames'. -/
def sipNamesUptoCard : Claim7 := { stood := { row := sipNamesUptoRow, standIns := [], harness := (true, "714cbd2b24dfe79203526cb1c1df7e70484ef28aa7373e3291b12c886ec3504d"), looks := false }, kinds := [], alts := [], laidByText := true, laidKinds := [.data], laidTests := true, laidLooks := .later }
def SipNamesUptoCardSaid : Prop := Claim7.holds Tryd.pinned (.plain (OpenSpec.upto sipNamesSpec)) sipNamesUptoCard
end Rows
end Go.Proofs.YtfhnemmfihcdkaaDoor
