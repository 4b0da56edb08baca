/-
  NARROWER THAN 'FOR EVERY INPUT', by the rows' own cells (each row's printed sentence says how): HeardNames: laid · IntakeNames: laid.
  DERIVED. THE GIVEN ROWS OF THIS SEAT. 2 by the template 'for every input the law returns true; each argument reads behind the call as it read before'; 0 by the template 'total and deterministic' (their statements: YtodbppopnfabeaaGreatDoorTotals.lean).
  GIVEN WITH THE SEED: the statements are not yours to turn. If you find one false, say at which input.
  Laid BY PROGRAM, IN A SANDBOX (cutbox-rows.mjs): the forced cells as the released guide's own fill.sh prints them over the translation 8d523503ad59451c… (all of the seat's roots in one cut). By AI agents, Wed Nov 11 2026. No macro, syntax, notation, axiom, sorry.
-/
import Derived.Test.YtodbppopnfabeaaGreatDoorChecked
import GoSem.Claim
import GoSem.ClaimJoined
import GoSem.ClaimMapViews
import Derived.JoinedTies
import Derived.KernelRfl
namespace Go.Proofs.YtodbppopnfabeaaGreatDoor
/- THE CELL 'sum', in the pinned program and in every row, IS THE sha256 OF THE DUMP (.gsa) THAT YtodbppopnfabeaaGreatDoorProg.lean LOADS. Nothing in Lean hashes anything: it is a label: what it is worth is what the hold of that sum in a sandbox is worth. -/
noncomputable def Tryz.pinned : Pinned := { name := "ytodbppopnfabeaagreatdoor", sum := "8d523503ad59451c64276a9dc39ae5f8be6269b151680432a672f8e4ccd21d52", checked := Tryz.checked }
namespace Rows
def none {H : Type} : Left H := { results := [], args := [] }

/- WHAT THE LISTED PACKAGE-LEVEL VARIABLES READ AS WHEN THE CALL BEGINS. Each datum BY PROGRAM (the guide's laid-datum.mjs) off the statement by which the dump's own 'gosem.cut.vars' lays the variable. In a bare row this is a premise. The card (YtodbppopnfabeaaGreatDoorCards.lean) ties it to the program's text. -/
def laid_errors_errorType {H : Type} : DataW H := .iface "internal/reflectlite.rtype" (.agg [.ptr (.lit (.string [101, 114, 114, 111, 114]))])
def laid_hustings_head_bits {H : Type} : DataW H := .agg [.agg [.lit (.int .i64 0), .lit (.int .u16 15), .lit (.int .u16 1)], .agg [.lit (.int .i64 1), .lit (.int .u16 11), .lit (.int .u16 15)], .agg [.lit (.int .i64 2), .lit (.int .u16 10), .lit (.int .u16 1)], .agg [.lit (.int .i64 3), .lit (.int .u16 9), .lit (.int .u16 1)], .agg [.lit (.int .i64 4), .lit (.int .u16 8), .lit (.int .u16 1)], .agg [.lit (.int .i64 5), .lit (.int .u16 7), .lit (.int .u16 1)], .agg [.lit (.int .i64 6), .lit (.int .u16 6), .lit (.int .u16 1)], .agg [.lit (.int .i64 7), .lit (.int .u16 5), .lit (.int .u16 1)], .agg [.lit (.int .i64 8), .lit (.int .u16 4), .lit (.int .u16 1)], .agg [.lit (.int .i64 9), .lit (.int .u16 0), .lit (.int .u16 15)]]
def laid_hustings_heard_errMessage {H : Type} : DataW H := .iface "*errors.errorString" (.ptr (.agg [.lit (.string [105, 116, 32, 105, 115, 32, 110, 111, 32, 109, 101, 115, 115, 97, 103, 101])]))
def laid_hustings_heard_errReply {H : Type} : DataW H := .iface "*errors.errorString" (.ptr (.agg [.lit (.string [105, 116, 32, 105, 115, 32, 110, 111, 32, 114, 101, 112, 108, 121])]))
def laid_hustings_heard_errQuestion {H : Type} : DataW H := .iface "*errors.errorString" (.ptr (.agg [.lit (.string [105, 116, 32, 104, 97, 115, 32, 97, 110, 111, 116, 104, 101, 114, 32, 113, 117, 101, 115, 116, 105, 111, 110])]))
def laid_hustings_heard_errVerdict {H : Type} : DataW H := .iface "*errors.errorString" (.ptr (.agg [.lit (.string [105, 116, 32, 104, 97, 115, 32, 110, 111, 32, 118, 101, 114, 100, 105, 99, 116])]))
def laid_hustings_heard_errCut {H : Type} : DataW H := .iface "*errors.errorString" (.ptr (.agg [.lit (.string [105, 116, 32, 105, 115, 32, 116, 114, 117, 110, 99, 97, 116, 101, 100])]))
def laid_hustings_heard_errCode {H : Type} : DataW H := .iface "*errors.errorString" (.ptr (.agg [.lit (.string [105, 116, 32, 104, 97, 115, 32, 97, 110, 111, 116, 104, 101, 114, 32, 99, 111, 100, 101])]))

/-- 'hustingslaw24.HeardNames': WHATEVER THE INPUT: true; the input reads as it did. -/
def heardNamesSpec : ChangeSpec := { name := "heardNames", fn := fun _ => fun
  | [] => { results := [.lit (.bool true)], args := [] }
  | _ => none }
def heardNamesRow : OpenClaim := { program := "ytodbppopnfabeaagreatdoor", sum := "8d523503ad59451c64276a9dc39ae5f8be6269b151680432a672f8e4ccd21d52", func := "hustings/hustingslaw24.HeardNames", spec := "heardNames", inPlace := ["internal/reflectlite.ValueOf", "(internal/reflectlite.Value).Type", "(internal/reflectlite.Value).IsNil", "internal/reflectlite.TypeOf", "(internal/reflectlite.Value).Elem", "(internal/reflectlite.Value).Set", "internal/bytealg.abigen_runtime_cmpstring"], unfollowed := true, recurses := true, named := ["hustings/head.bits", "hustings/heard.errCut", "hustings/heard.errCode", "hustings/heard.errMessage", "hustings/heard.errVerdict", "errors.errorType", "hustings/heard.errReply", "hustings/heard.errQuestion"], apart := false, laid := [("errors.errorType", laid_errors_errorType), ("hustings/head.bits", laid_hustings_head_bits), ("hustings/heard.errMessage", laid_hustings_heard_errMessage), ("hustings/heard.errReply", laid_hustings_heard_errReply), ("hustings/heard.errQuestion", laid_hustings_heard_errQuestion), ("hustings/heard.errVerdict", laid_hustings_heard_errVerdict), ("hustings/heard.errCut", laid_hustings_heard_errCut), ("hustings/heard.errCode", laid_hustings_heard_errCode)] }
def HeardNamesSaid : Prop := heardNamesRow.holds Tryz.pinned (OpenSpec.ofChange heardNamesSpec)

/-- ITS FALSE NEIGHBOUR: 'it returns false'. Refute it at one input. -/
def heardNamesWrong : ChangeSpec := { name := "heardNames", fn := fun _ => fun
  | [] => { results := [.lit (.bool false)], args := [] }
  | _ => none }
def HeardNamesWrongFalsely : Prop := heardNamesRow.holds Tryz.pinned (OpenSpec.ofChange heardNamesWrong)

/-- 'hustingslaw25.IntakeNames': WHATEVER THE INPUT: true; the input reads as it did. -/
def intakeNamesSpec : ChangeSpec := { name := "intakeNames", fn := fun _ => fun
  | [] => { results := [.lit (.bool true)], args := [] }
  | _ => none }
def intakeNamesRow : OpenClaim := { program := "ytodbppopnfabeaagreatdoor", sum := "8d523503ad59451c64276a9dc39ae5f8be6269b151680432a672f8e4ccd21d52", func := "hustings/hustingslaw25.IntakeNames", spec := "intakeNames", inPlace := ["internal/reflectlite.ValueOf", "(internal/reflectlite.Value).Type", "(internal/reflectlite.Value).IsNil", "internal/reflectlite.TypeOf", "(internal/reflectlite.Value).Elem", "(internal/reflectlite.Value).Set"], unfollowed := true, recurses := true, named := ["errors.errorType", "hustings/head.bits"], apart := false, laid := [("errors.errorType", laid_errors_errorType), ("hustings/head.bits", laid_hustings_head_bits)] }
def IntakeNamesSaid : Prop := intakeNamesRow.holds Tryz.pinned (OpenSpec.ofChange intakeNamesSpec)

/-- ITS FALSE NEIGHBOUR: 'it returns false'. Refute it at one input. -/
def intakeNamesWrong : ChangeSpec := { name := "intakeNames", fn := fun _ => fun
  | [] => { results := [.lit (.bool false)], args := [] }
  | _ => none }
def IntakeNamesWrongFalsely : Prop := intakeNamesRow.holds Tryz.pinned (OpenSpec.ofChange intakeNamesWrong)

/- THE SECOND FORM. 'bulk': how many values and letters a reading holds, each counted each time it is reached (what is shared counts as often as it is met; a slice's spare places count too). A statement '..UptoSaid' is the law's where the arguments, and the package variables that the reading takes, are together of bulk at most 1048576: NARROWER than '..Said'. Prove '..Said' where nothing that the law and all that it calls make is longer than what came in: it says more and counts as full. Else prove '..UptoSaid'. A law counts once. -/
mutual
def uptoBulk {H : Type} : DataW H → Nat
  | .lit (.string bytes) => bytes.length + 1
  | .lit _ => 1
  | .nil => 1
  | .ptr d => uptoBulk d + 1
  | .slice elems spare => uptoBulkAll elems + uptoBulkAll spare + 1
  | .agg parts => uptoBulkAll parts + 1
  | .iface _ d => uptoBulk d + 1
  | .map entries => uptoBulkEntries entries + 1
  | .held _ => 1
def uptoBulkAll {H : Type} : List (DataW H) → Nat
  | [] => 0
  | d :: r => uptoBulk d + uptoBulkAll r
def uptoBulkEntries {H : Type} : List (Lit × DataW H) → Nat
  | [] => 0
  | x :: r => uptoBulkEntry x + uptoBulkEntries r
def uptoBulkEntry {H : Type} : Lit × DataW H → Nat
  | (.string bytes, d) => bytes.length + uptoBulk d + 1
  | (_, d) => uptoBulk d + 1
 end
def uptoSmall : (H : Type) → List (DataW H) → Bool := fun _ ds => decide (uptoBulkAll ds ≤ 1048576)
def OpenSpec.upto (s : _root_.Go.ChangeSpec) : _root_.Go.OpenSpec := { _root_.Go.OpenSpec.ofChange s with cond := some uptoSmall }

/-- 'hustingslaw24.HeardNames', WHERE WHAT IT READS IS OF BULK AT MOST 1048576: true; the input reads as it did. -/
def heardNamesUptoRow : OpenClaim := { program := "ytodbppopnfabeaagreatdoor", sum := "8d523503ad59451c64276a9dc39ae5f8be6269b151680432a672f8e4ccd21d52", func := "hustings/hustingslaw24.HeardNames", spec := "heardNames", inPlace := ["internal/reflectlite.ValueOf", "(internal/reflectlite.Value).Type", "(internal/reflectlite.Value).IsNil", "internal/reflectlite.TypeOf", "(internal/reflectlite.Value).Elem", "(internal/reflectlite.Value).Set", "internal/bytealg.abigen_runtime_cmpstring"], unfollowed := true, recurses := true, named := ["hustings/head.bits", "hustings/heard.errCut", "hustings/heard.errCode", "hustings/heard.errMessage", "hustings/heard.errVerdict", "errors.errorType", "hustings/heard.errReply", "hustings/heard.errQuestion"], apart := false, laid := [("errors.errorType", laid_errors_errorType), ("hustings/head.bits", laid_hustings_head_bits), ("hustings/heard.errMessage", laid_hustings_heard_errMessage), ("hustings/heard.errReply", laid_hustings_heard_errReply), ("hustings/heard.errQuestion", laid_hustings_heard_errQuestion), ("hustings/heard.errVerdict", laid_hustings_heard_errVerdict), ("hustings/heard.errCut", laid_hustings_heard_errCut), ("hustings/heard.errCode", laid_hustings_heard_errCode)], narrowed := true }
def HeardNamesUptoSaid : Prop := heardNamesUptoRow.holds Tryz.pinned (OpenSpec.upto heardNamesSpec)

/-- 'hustingslaw25.IntakeNames', WHERE WHAT IT READS IS OF BULK AT MOST 1048576: true; the input reads as it did. -/
def intakeNamesUptoRow : OpenClaim := { program := "ytodbppopnfabeaagreatdoor", sum := "8d523503ad59451c64276a9dc39ae5f8be6269b151680432a672f8e4ccd21d52", func := "hustings/hustingslaw25.IntakeNames", spec := "intakeNames", inPlace := ["internal/reflectlite.ValueOf", "(internal/reflectlite.Value).Type", "(internal/reflectlite.Value).IsNil", "internal/reflectlite.TypeOf", "(internal/reflectlite.Value).Elem", "(internal/reflectlite.Value).Set"], unfollowed := true, recurses := true, named := ["errors.errorType", "hustings/head.bits"], apart := false, laid := [("errors.errorType", laid_errors_errorType), ("hustings/head.bits", laid_hustings_head_bits)], narrowed := true }
def IntakeNamesUptoSaid : Prop := intakeNamesUptoRow.holds Tryz.pinned (OpenSpec.upto intakeNamesSpec)

end Rows
end Go.Proofs.YtodbppopnfabeaaGreatDoor
