/-
  DERIVED. GIVEN WITH THE SEED: THE PROGRAM's TIES (one call each: nine closed facts by the kernel) AND EACH ROW's TIE, after the 31st guide's Derived/Test/Toyas{Tie, Card}.lean. No idea stands in it: it is a product of the set-up. Laid BY PROGRAM, IN A SANDBOX (cutbox-door.mjs). By AI agents, Wed Nov 11 2026. No macro, syntax, notation, axiom, sorry.
-/
import Derived.Test.YtodbppopnfabeaaGreatDoorRows
import Derived.LaidByTextLater
import Derived.SevenTiedAt
import Derived.LaidSub
import Derived.LaidOnce
namespace Go.Proofs.YtodbppopnfabeaaGreatDoor
open Go
set_option maxRecDepth 100000
theorem seatTie1 : Tryz.prog.laidByTextLater [("errors.errorType", Rows.laid_errors_errorType), ("hustings/head.bits", Rows.laid_hustings_head_bits), ("hustings/heard.errMessage", Rows.laid_hustings_heard_errMessage), ("hustings/heard.errReply", Rows.laid_hustings_heard_errReply), ("hustings/heard.errQuestion", Rows.laid_hustings_heard_errQuestion), ("hustings/heard.errVerdict", Rows.laid_hustings_heard_errVerdict), ("hustings/heard.errCut", Rows.laid_hustings_heard_errCut), ("hustings/heard.errCode", Rows.laid_hustings_heard_errCode)] [.handle, .data, .sentinel, .sentinel, .sentinel, .sentinel, .sentinel, .sentinel] true :=
  Program.laidByTextLater_by_one 145 8 31 (by kernel_rfl) (by kernel_rfl) (by kernel_rfl) (by kernel_rfl) (by kernel_rfl) (by kernel_rfl) (fun _ _ => by kernel_rfl)
theorem noOwnUnsafe : Tryz.pinned.checked.prog.headLifts.contains "ownunsafe" = false := by kernel_rfl
theorem tie : Tryz.prog.laidByTextLater [("errors.errorType", Rows.laid_errors_errorType), ("hustings/head.bits", Rows.laid_hustings_head_bits), ("hustings/heard.errMessage", Rows.laid_hustings_heard_errMessage), ("hustings/heard.errReply", Rows.laid_hustings_heard_errReply), ("hustings/heard.errQuestion", Rows.laid_hustings_heard_errQuestion), ("hustings/heard.errVerdict", Rows.laid_hustings_heard_errVerdict), ("hustings/heard.errCut", Rows.laid_hustings_heard_errCut), ("hustings/heard.errCode", Rows.laid_hustings_heard_errCode)] [.handle, .data, .sentinel, .sentinel, .sentinel, .sentinel, .sentinel, .sentinel] true :=
  Program.laidByTextLater.sub seatTie1 ["errors.errorType", "hustings/head.bits", "hustings/heard.errMessage", "hustings/heard.errReply", "hustings/heard.errQuestion", "hustings/heard.errVerdict", "hustings/heard.errCut", "hustings/heard.errCode"] (by kernel_rfl) (by kernel_rfl)
theorem heardNames_row_tie : Rows.heardNamesRow.laidByTextAt .later Tryz.pinned [.handle, .data, .sentinel, .sentinel, .sentinel, .sentinel, .sentinel, .sentinel] true :=
  OpenClaim.laidByTextAt_later rfl rfl tie noOwnUnsafe
theorem tie2 : Tryz.prog.laidByTextLater [("errors.errorType", Rows.laid_errors_errorType), ("hustings/head.bits", Rows.laid_hustings_head_bits)] [.handle, .data] true :=
  Program.laidByTextLater.sub seatTie1 ["errors.errorType", "hustings/head.bits"] (by kernel_rfl) (by kernel_rfl)
theorem intakeNames_row_tie : Rows.intakeNamesRow.laidByTextAt .later Tryz.pinned [.handle, .data] true :=
  OpenClaim.laidByTextAt_later rfl rfl tie2 noOwnUnsafe
theorem heardNamesUpto_row_tie : Rows.heardNamesUptoRow.laidByTextAt .later Tryz.pinned [.handle, .data, .sentinel, .sentinel, .sentinel, .sentinel, .sentinel, .sentinel] true :=
  OpenClaim.laidByTextAt_later rfl rfl tie noOwnUnsafe
theorem intakeNamesUpto_row_tie : Rows.intakeNamesUptoRow.laidByTextAt .later Tryz.pinned [.handle, .data] true :=
  OpenClaim.laidByTextAt_later rfl rfl tie2 noOwnUnsafe
end Go.Proofs.YtodbppopnfabeaaGreatDoor
