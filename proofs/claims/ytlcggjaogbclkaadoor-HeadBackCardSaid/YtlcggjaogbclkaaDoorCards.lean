/-
  DERIVED. GIVEN WITH THE SEED: THE CARDS: each row of YtlcggjaogbclkaaDoorRows.lean that lists a variable, with what it lists TIED to the program's text (the seventh form; the later family's looks); each row that meets fmt, with fmt's text TOLD by the authors' own Lean function (tested against real Go, not proved from fmt's source: count such statements apart). THE CARD IS WHAT COUNTS. Prove the row's statement (the work); the ties are given (YtlcggjaogbclkaaDoorTie.lean); close each card by the builder's one call (the guide's Derived/Test/ToyasCard.lean, 'card_holds'). Laid BY PROGRAM, IN A SANDBOX (cutbox-door.mjs). By AI agents, Wed Nov 11 2026. No macro, syntax, notation, axiom, sorry.
-/
import Derived.Test.YtlcggjaogbclkaaDoorRows
import GoSem.ClaimSeven
namespace Go.Proofs.YtlcggjaogbclkaaDoor
namespace Rows

/-- THE TIED CARD OF 'hustingslaw03.HeadReads'. -/
def headReadsCard : Claim7 := { stood := { row := headReadsRow, standIns := [], harness := (true, "2e0e90d791ea7668327d460fe7ed5e43212d37cc3891fecf5d68c9c838abac1e"), looks := true }, kinds := [], alts := [], laidByText := true, laidKinds := [.handle, .data], laidTests := true, laidLooks := .later }
def HeadReadsCardSaid : Prop := Claim7.holds Tryd.pinned (.plain (OpenSpec.ofChange headReadsSpec)) headReadsCard

/-- THE TIED CARD OF 'hustingslaw03.HeadWrites'. -/
def headWritesCard : Claim7 := { stood := { row := headWritesRow, standIns := [], harness := (true, "2e0e90d791ea7668327d460fe7ed5e43212d37cc3891fecf5d68c9c838abac1e"), looks := true }, kinds := [], alts := [], laidByText := true, laidKinds := [.handle, .data], laidTests := true, laidLooks := .later }
def HeadWritesCardSaid : Prop := Claim7.holds Tryd.pinned (.plain (OpenSpec.ofChange headWritesSpec)) headWritesCard

/-- THE TIED CARD OF 'hustingslaw03.HeadBack'. -/
def headBackCard : Claim7 := { stood := { row := headBackRow, standIns := [], harness := (true, "2e0e90d791ea7668327d460fe7ed5e43212d37cc3891fecf5d68c9c838abac1e"), looks := true }, kinds := [], alts := [], laidByText := true, laidKinds := [.handle, .data], laidTests := true, laidLooks := .later }
def HeadBackCardSaid : Prop := Claim7.holds Tryd.pinned (.plain (OpenSpec.ofChange headBackSpec)) headBackCard

/-- THE TIED CARD OF 'hustingslaw03.HeadBits'. -/
def headBitsCard : Claim7 := { stood := { row := headBitsRow, standIns := [], harness := (true, "2e0e90d791ea7668327d460fe7ed5e43212d37cc3891fecf5d68c9c838abac1e"), looks := true }, kinds := [], alts := [], laidByText := true, laidKinds := [.handle, .data], laidTests := true, laidLooks := .later }
def HeadBitsCardSaid : Prop := Claim7.holds Tryd.pinned (.plain (OpenSpec.ofChange headBitsSpec)) headBitsCard

/-- THE TIED CARD OF 'hustingslaw03.HeadCut'. -/
def headCutCard : Claim7 := { stood := { row := headCutRow, standIns := [], harness := (true, "2e0e90d791ea7668327d460fe7ed5e43212d37cc3891fecf5d68c9c838abac1e"), looks := true }, kinds := [], alts := [], laidByText := true, laidKinds := [.handle, .data], laidTests := true, laidLooks := .later }
def HeadCutCardSaid : Prop := Claim7.holds Tryd.pinned (.plain (OpenSpec.ofChange headCutSpec)) headCutCard

/-- THE TIED CARD OF 'hustingslaw06.EdnsReads'. -/
def ednsReadsCard : Claim7 := { stood := { row := ednsReadsRow, standIns := [], harness := (true, "2e0e90d791ea7668327d460fe7ed5e43212d37cc3891fecf5d68c9c838abac1e"), looks := true }, kinds := [], alts := [], laidByText := true, laidKinds := [.handle], laidTests := true, laidLooks := .later }
def EdnsReadsCardSaid : Prop := Claim7.holds Tryd.pinned (.plain (OpenSpec.ofChange ednsReadsSpec)) ednsReadsCard

/-- THE TIED CARD OF 'hustingslaw06.EdnsWrites'. -/
def ednsWritesCard : Claim7 := { stood := { row := ednsWritesRow, standIns := [], harness := (true, "2e0e90d791ea7668327d460fe7ed5e43212d37cc3891fecf5d68c9c838abac1e"), looks := true }, kinds := [], alts := [], laidByText := true, laidKinds := [.handle], laidTests := true, laidLooks := .later }
def EdnsWritesCardSaid : Prop := Claim7.holds Tryd.pinned (.plain (OpenSpec.ofChange ednsWritesSpec)) ednsWritesCard

/-- THE TIED CARD OF 'hustingslaw06.EdnsBack'. -/
def ednsBackCard : Claim7 := { stood := { row := ednsBackRow, standIns := [], harness := (true, "2e0e90d791ea7668327d460fe7ed5e43212d37cc3891fecf5d68c9c838abac1e"), looks := true }, kinds := [], alts := [], laidByText := true, laidKinds := [.handle], laidTests := true, laidLooks := .later }
def EdnsBackCardSaid : Prop := Claim7.holds Tryd.pinned (.plain (OpenSpec.ofChange ednsBackSpec)) ednsBackCard

/-- THE TIED CARD OF 'hustingslaw06.EdnsBehind'. -/
def ednsBehindCard : Claim7 := { stood := { row := ednsBehindRow, standIns := [], harness := (true, "2e0e90d791ea7668327d460fe7ed5e43212d37cc3891fecf5d68c9c838abac1e"), looks := true }, kinds := [], alts := [], laidByText := true, laidKinds := [.handle], laidTests := true, laidLooks := .later }
def EdnsBehindCardSaid : Prop := Claim7.holds Tryd.pinned (.plain (OpenSpec.ofChange ednsBehindSpec)) ednsBehindCard

/-- THE TIED CARD OF 'hustingslaw06.EdnsCodes'. -/
def ednsCodesCard : Claim7 := { stood := { row := ednsCodesRow, standIns := [], harness := (true, "2e0e90d791ea7668327d460fe7ed5e43212d37cc3891fecf5d68c9c838abac1e"), looks := true }, kinds := [], alts := [], laidByText := true, laidKinds := [.handle], laidTests := true, laidLooks := .later }
def EdnsCodesCardSaid : Prop := Claim7.holds Tryd.pinned (.plain (OpenSpec.ofChange ednsCodesSpec)) ednsCodesCard

/-- THE TIED CARD OF 'hustingslaw06.EdnsParts'. -/
def ednsPartsCard : Claim7 := { stood := { row := ednsPartsRow, standIns := [], harness := (true, "2e0e90d791ea7668327d460fe7ed5e43212d37cc3891fecf5d68c9c838abac1e"), looks := true }, kinds := [], alts := [], laidByText := true, laidKinds := [.handle], laidTests := true, laidLooks := .later }
def EdnsPartsCardSaid : Prop := Claim7.holds Tryd.pinned (.plain (OpenSpec.ofChange ednsPartsSpec)) ednsPartsCard

/-- THE TIED CARD OF 'hustingslaw13.SipParts'. -/
def sipPartsCard : Claim7 := { stood := { row := sipPartsRow, standIns := [], harness := (true, "2e0e90d791ea7668327d460fe7ed5e43212d37cc3891fecf5d68c9c838abac1e"), looks := true }, kinds := [], alts := [], laidByText := true, laidKinds := [.data], laidTests := true, laidLooks := .later }
def SipPartsCardSaid : Prop := Claim7.holds Tryd.pinned (.plain (OpenSpec.ofChange sipPartsSpec)) sipPartsCard

/-- THE SECOND FORM's CARD OF 'hustingslaw03.HeadReads'. -/
def headReadsUptoCard : Claim7 := { stood := { row := headReadsUptoRow, standIns := [], harness := (true, "2e0e90d791ea7668327d460fe7ed5e43212d37cc3891fecf5d68c9c838abac1e"), looks := true }, kinds := [], alts := [], laidByText := true, laidKinds := [.handle, .data], laidTests := true, laidLooks := .later }
def HeadReadsUptoCardSaid : Prop := Claim7.holds Tryd.pinned (.plain (OpenSpec.upto headReadsSpec)) headReadsUptoCard

/-- THE SECOND FORM's CARD OF 'hustingslaw03.HeadWrites'. -/
def headWritesUptoCard : Claim7 := { stood := { row := headWritesUptoRow, standIns := [], harness := (true, "2e0e90d791ea7668327d460fe7ed5e43212d37cc3891fecf5d68c9c838abac1e"), looks := true }, kinds := [], alts := [], laidByText := true, laidKinds := [.handle, .data], laidTests := true, laidLooks := .later }
def HeadWritesUptoCardSaid : Prop := Claim7.holds Tryd.pinned (.plain (OpenSpec.upto headWritesSpec)) headWritesUptoCard

/-- THE SECOND FORM's CARD OF 'hustingslaw03.HeadBack'. -/
def headBackUptoCard : Claim7 := { stood := { row := headBackUptoRow, standIns := [], harness := (true, "2e0e90d791ea7668327d460fe7ed5e43212d37cc3891fecf5d68c9c838abac1e"), looks := true }, kinds := [], alts := [], laidByText := true, laidKinds := [.handle, .data], laidTests := true, laidLooks := .later }
def HeadBackUptoCardSaid : Prop := Claim7.holds Tryd.pinned (.plain (OpenSpec.upto headBackSpec)) headBackUptoCard

/-- THE SECOND FORM's CARD OF 'hustingslaw03.HeadBits'. -/
def headBitsUptoCard : Claim7 := { stood := { row := headBitsUptoRow, standIns := [], harness := (true, "2e0e90d791ea7668327d460fe7ed5e43212d37cc3891fecf5d68c9c838abac1e"), looks := true }, kinds := [], alts := [], laidByText := true, laidKinds := [.handle, .data], laidTests := true, laidLooks := .later }
def HeadBitsUptoCardSaid : Prop := Claim7.holds Tryd.pinned (.plain (OpenSpec.upto headBitsSpec)) headBitsUptoCard

/-- THE SECOND FORM's CARD OF 'hustingslaw03.HeadCut'. -/
def headCutUptoCard : Claim7 := { stood := { row := headCutUptoRow, standIns := [], harness := (true, "2e0e90d791ea7668327d460fe7ed5e43212d37cc3891fecf5d68c9c838abac1e"), looks := true }, kinds := [], alts := [], laidByText := true, laidKinds := [.handle, .data], laidTests := true, laidLooks := .later }
def HeadCutUptoCardSaid : Prop := Claim7.holds Tryd.pinned (.plain (OpenSpec.upto headCutSpec)) headCutUptoCard

/-- THE SECOND FORM's CARD OF 'hustingslaw06.EdnsReads'. -/
def ednsReadsUptoCard : Claim7 := { stood := { row := ednsReadsUptoRow, standIns := [], harness := (true, "2e0e90d791ea7668327d460fe7ed5e43212d37cc3891fecf5d68c9c838abac1e"), looks := true }, kinds := [], alts := [], laidByText := true, laidKinds := [.handle], laidTests := true, laidLooks := .later }
def EdnsReadsUptoCardSaid : Prop := Claim7.holds Tryd.pinned (.plain (OpenSpec.upto ednsReadsSpec)) ednsReadsUptoCard

/-- THE SECOND FORM's CARD OF 'hustingslaw06.EdnsWrites'. -/
def ednsWritesUptoCard : Claim7 := { stood := { row := ednsWritesUptoRow, standIns := [], harness := (true, "2e0e90d791ea7668327d460fe7ed5e43212d37cc3891fecf5d68c9c838abac1e"), looks := true }, kinds := [], alts := [], laidByText := true, laidKinds := [.handle], laidTests := true, laidLooks := .later }
def EdnsWritesUptoCardSaid : Prop := Claim7.holds Tryd.pinned (.plain (OpenSpec.upto ednsWritesSpec)) ednsWritesUptoCard

/-- THE SECOND FORM's CARD OF 'hustingslaw06.EdnsBack'. -/
def ednsBackUptoCard : Claim7 := { stood := { row := ednsBackUptoRow, standIns := [], harness := (true, "2e0e90d791ea7668327d460fe7ed5e43212d37cc3891fecf5d68c9c838abac1e"), looks := true }, kinds := [], alts := [], laidByText := true, laidKinds := [.handle], laidTests := true, laidLooks := .later }
def EdnsBackUptoCardSaid : Prop := Claim7.holds Tryd.pinned (.plain (OpenSpec.upto ednsBackSpec)) ednsBackUptoCard

/-- THE SECOND FORM's CARD OF 'hustingslaw06.EdnsBehind'. -/
def ednsBehindUptoCard : Claim7 := { stood := { row := ednsBehindUptoRow, standIns := [], harness := (true, "2e0e90d791ea7668327d460fe7ed5e43212d37cc3891fecf5d68c9c838abac1e"), looks := true }, kinds := [], alts := [], laidByText := true, laidKinds := [.handle], laidTests := true, laidLooks := .later }
def EdnsBehindUptoCardSaid : Prop := Claim7.holds Tryd.pinned (.plain (OpenSpec.upto ednsBehindSpec)) ednsBehindUptoCard

/-- THE SECOND FORM's CARD OF 'hustingslaw06.EdnsCodes'. -/
def ednsCodesUptoCard : Claim7 := { stood := { row := ednsCodesUptoRow, standIns := [], harness := (true, "2e0e90d791ea7668327d460fe7ed5e43212d37cc3891fecf5d68c9c838abac1e"), looks := true }, kinds := [], alts := [], laidByText := true, laidKinds := [.handle], laidTests := true, laidLooks := .later }
def EdnsCodesUptoCardSaid : Prop := Claim7.holds Tryd.pinned (.plain (OpenSpec.upto ednsCodesSpec)) ednsCodesUptoCard

/-- THE SECOND FORM's CARD OF 'hustingslaw06.EdnsParts'. -/
def ednsPartsUptoCard : Claim7 := { stood := { row := ednsPartsUptoRow, standIns := [], harness := (true, "2e0e90d791ea7668327d460fe7ed5e43212d37cc3891fecf5d68c9c838abac1e"), looks := true }, kinds := [], alts := [], laidByText := true, laidKinds := [.handle], laidTests := true, laidLooks := .later }
def EdnsPartsUptoCardSaid : Prop := Claim7.holds Tryd.pinned (.plain (OpenSpec.upto ednsPartsSpec)) ednsPartsUptoCard

/-- THE SECOND FORM's CARD OF 'hustingslaw13.SipParts'. -/
def sipPartsUptoCard : Claim7 := { stood := { row := sipPartsUptoRow, standIns := [], harness := (true, "2e0e90d791ea7668327d460fe7ed5e43212d37cc3891fecf5d68c9c838abac1e"), looks := true }, kinds := [], alts := [], laidByText := true, laidKinds := [.data], laidTests := true, laidLooks := .later }
def SipPartsUptoCardSaid : Prop := Claim7.holds Tryd.pinned (.plain (OpenSpec.upto sipPartsSpec)) sipPartsUptoCard
end Rows
end Go.Proofs.YtlcggjaogbclkaaDoor
