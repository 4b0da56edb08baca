/-
  NARROWER THAN 'FOR EVERY INPUT', by the rows' own cells (each row's printed sentence says how): SipTells: laid · SipPlays: laid · SipParts: laid · SipOn: laid · CursorReads: laid · CursorPuts: laid · CursorApart: laid.
  DERIVED. THE GIVEN ROWS OF THIS SEAT. 7 by the template 'for every input the law returns true; each argument reads behind the call as it read before'; 0 by the template 'total and deterministic' (their statements: YtdhhocmdolnfiaaDoorTotals.lean).
  GIVEN WITH THE SEED: the statements are not yours to turn. If you find one false, say at which input.
  Laid BY PROGRAM, IN A SANDBOX (cutbox-rows.mjs): the forced cells as the released guide's own fill.sh prints them over the translation d2fb916608cf0361… (all of the seat's roots in one cut). By AI agents, Wed Nov 11 2026. No macro, syntax, notation, axiom, sorry.
-/
import Derived.Test.YtdhhocmdolnfiaaDoorChecked
import GoSem.Claim
import GoSem.ClaimJoined
import GoSem.ClaimMapViews
import Derived.JoinedTies
import Derived.KernelRfl
namespace Go.Proofs.YtdhhocmdolnfiaaDoor
/- THE CELL 'sum', in the pinned program and in every row, IS THE sha256 OF THE DUMP (.gsa) THAT YtdhhocmdolnfiaaDoorProg.lean LOADS. Nothing in Lean hashes anything: it is a label: what it is worth is what the hold of that sum in a sandbox is worth. -/
noncomputable def Tryd.pinned : Pinned := { name := "ytdhhocmdolnfiaadoor", sum := "d2fb916608cf036187ef0b11a7f02b286518cef5f1aaf16e4918359bbe953589", checked := Tryd.checked }
namespace Rows
def none {H : Type} : Left H := { results := [], args := [] }

/- WHAT THE LISTED PACKAGE-LEVEL VARIABLES READ AS WHEN THE CALL BEGINS. Each datum BY PROGRAM (the guide's laid-datum.mjs) off the statement by which the dump's own 'gosem.cut.vars' lays the variable. In a bare row this is a premise. The card (YtdhhocmdolnfiaaDoorCards.lean) ties it to the program's text. -/
def laid_hustings_sip_masks {H : Type} : DataW H := .agg [.lit (.int .u64 8317987319222330741), .lit (.int .u64 7237128888997146477), .lit (.int .u64 7816392313619706465), .lit (.int .u64 8387220255154660723)]
def laid_errors_errorType {H : Type} : DataW H := .iface "internal/reflectlite.rtype" (.agg [.ptr (.lit (.string [101, 114, 114, 111, 114]))])

/-- 'hustingslaw13.SipTells': WHATEVER THE INPUT: true; the input reads as it did. -/
def sipTellsSpec : ChangeSpec := { name := "sipTells", fn := fun _ => fun
  | [d1, d2, d3] => { results := [.lit (.bool true)], args := [d1, d2, d3] }
  | _ => none }
def sipTellsRow : OpenClaim := { program := "ytdhhocmdolnfiaadoor", sum := "d2fb916608cf036187ef0b11a7f02b286518cef5f1aaf16e4918359bbe953589", func := "hustings/hustingslaw13.SipTells", spec := "sipTells", named := ["hustings/sip.masks"], apart := false, laid := [("hustings/sip.masks", laid_hustings_sip_masks)] }
def SipTellsSaid : Prop := sipTellsRow.holds Tryd.pinned (OpenSpec.ofChange sipTellsSpec)

/-- ITS FALSE NEIGHBOUR: 'it returns false'. Refute it at one input. -/
def sipTellsWrong : ChangeSpec := { name := "sipTells", fn := fun _ => fun
  | [d1, d2, d3] => { results := [.lit (.bool false)], args := [d1, d2, d3] }
  | _ => none }
def SipTellsWrongFalsely : Prop := sipTellsRow.holds Tryd.pinned (OpenSpec.ofChange sipTellsWrong)

/-- 'hustingslaw13.SipPlays': WHATEVER THE INPUT: true; the input reads as it did. -/
def sipPlaysSpec : ChangeSpec := { name := "sipPlays", fn := fun _ => fun
  | [d1, d2, d3] => { results := [.lit (.bool true)], args := [d1, d2, d3] }
  | _ => none }
def sipPlaysRow : OpenClaim := { program := "ytdhhocmdolnfiaadoor", sum := "d2fb916608cf036187ef0b11a7f02b286518cef5f1aaf16e4918359bbe953589", func := "hustings/hustingslaw13.SipPlays", spec := "sipPlays", named := ["hustings/sip.masks"], apart := false, laid := [("hustings/sip.masks", laid_hustings_sip_masks)] }
def SipPlaysSaid : Prop := sipPlaysRow.holds Tryd.pinned (OpenSpec.ofChange sipPlaysSpec)

/-- ITS FALSE NEIGHBOUR: 'it returns false'. Refute it at one input. -/
def sipPlaysWrong : ChangeSpec := { name := "sipPlays", fn := fun _ => fun
  | [d1, d2, d3] => { results := [.lit (.bool false)], args := [d1, d2, d3] }
  | _ => none }
def SipPlaysWrongFalsely : Prop := sipPlaysRow.holds Tryd.pinned (OpenSpec.ofChange sipPlaysWrong)

/-- 'hustingslaw13.SipParts': WHATEVER THE INPUT: true; the input reads as it did. -/
def sipPartsSpec : ChangeSpec := { name := "sipParts", fn := fun _ => fun
  | [d1, d2, d3] => { results := [.lit (.bool true)], args := [d1, d2, d3] }
  | _ => none }
def sipPartsRow : OpenClaim := { program := "ytdhhocmdolnfiaadoor", sum := "d2fb916608cf036187ef0b11a7f02b286518cef5f1aaf16e4918359bbe953589", func := "hustings/hustingslaw13.SipParts", spec := "sipParts", named := ["hustings/sip.masks"], apart := false, laid := [("hustings/sip.masks", laid_hustings_sip_masks)] }
def SipPartsSaid : Prop := sipPartsRow.holds Tryd.pinned (OpenSpec.ofChange sipPartsSpec)

/-- ITS FALSE NEIGHBOUR: 'it returns false'. Refute it at one input. -/
def sipPartsWrong : ChangeSpec := { name := "sipParts", fn := fun _ => fun
  | [d1, d2, d3] => { results := [.lit (.bool false)], args := [d1, d2, d3] }
  | _ => none }
def SipPartsWrongFalsely : Prop := sipPartsRow.holds Tryd.pinned (OpenSpec.ofChange sipPartsWrong)

/-- 'hustingslaw13.SipOn': WHATEVER THE INPUT: true; the input reads as it did. -/
def sipOnSpec : ChangeSpec := { name := "sipOn", fn := fun _ => fun
  | [d1, d2, d3, d4] => { results := [.lit (.bool true)], args := [d1, d2, d3, d4] }
  | _ => none }
def sipOnRow : OpenClaim := { program := "ytdhhocmdolnfiaadoor", sum := "d2fb916608cf036187ef0b11a7f02b286518cef5f1aaf16e4918359bbe953589", func := "hustings/hustingslaw13.SipOn", spec := "sipOn", named := ["hustings/sip.masks"], apart := false, laid := [("hustings/sip.masks", laid_hustings_sip_masks)] }
def SipOnSaid : Prop := sipOnRow.holds Tryd.pinned (OpenSpec.ofChange sipOnSpec)

/-- ITS FALSE NEIGHBOUR: 'it returns false'. Refute it at one input. -/
def sipOnWrong : ChangeSpec := { name := "sipOn", fn := fun _ => fun
  | [d1, d2, d3, d4] => { results := [.lit (.bool false)], args := [d1, d2, d3, d4] }
  | _ => none }
def SipOnWrongFalsely : Prop := sipOnRow.holds Tryd.pinned (OpenSpec.ofChange sipOnWrong)

/-- 'hustingslaw02.CursorReads': WHATEVER THE INPUT: true; the input reads as it did. -/
def cursorReadsSpec : ChangeSpec := { name := "cursorReads", fn := fun _ => fun
  | [d1, d2] => { results := [.lit (.bool true)], args := [d1, d2] }
  | _ => none }
def cursorReadsRow : OpenClaim := { program := "ytdhhocmdolnfiaadoor", sum := "d2fb916608cf036187ef0b11a7f02b286518cef5f1aaf16e4918359bbe953589", func := "hustings/hustingslaw02.CursorReads", spec := "cursorReads", inPlace := ["internal/reflectlite.ValueOf", "(internal/reflectlite.Value).Type", "(internal/reflectlite.Value).IsNil", "internal/reflectlite.TypeOf", "(internal/reflectlite.Value).Elem", "(internal/reflectlite.Value).Set"], unfollowed := true, recurses := true, named := ["errors.errorType"], apart := false, laid := [("errors.errorType", laid_errors_errorType)] }
def CursorReadsSaid : Prop := cursorReadsRow.holds Tryd.pinned (OpenSpec.ofChange cursorReadsSpec)

/-- ITS FALSE NEIGHBOUR: 'it returns false'. Refute it at one input. -/
def cursorReadsWrong : ChangeSpec := { name := "cursorReads", fn := fun _ => fun
  | [d1, d2] => { results := [.lit (.bool false)], args := [d1, d2] }
  | _ => none }
def CursorReadsWrongFalsely : Prop := cursorReadsRow.holds Tryd.pinned (OpenSpec.ofChange cursorReadsWrong)

/-- 'hustingslaw02.CursorPuts': WHATEVER THE INPUT: true; the input reads as it did. -/
def cursorPutsSpec : ChangeSpec := { name := "cursorPuts", fn := fun _ => fun
  | [d1, d2, d3, d4] => { results := [.lit (.bool true)], args := [d1, d2, d3, d4] }
  | _ => none }
def cursorPutsRow : OpenClaim := { program := "ytdhhocmdolnfiaadoor", sum := "d2fb916608cf036187ef0b11a7f02b286518cef5f1aaf16e4918359bbe953589", func := "hustings/hustingslaw02.CursorPuts", spec := "cursorPuts", inPlace := ["internal/reflectlite.ValueOf", "(internal/reflectlite.Value).Type", "(internal/reflectlite.Value).IsNil", "internal/reflectlite.TypeOf", "(internal/reflectlite.Value).Elem", "(internal/reflectlite.Value).Set"], unfollowed := true, recurses := true, named := ["errors.errorType"], apart := false, laid := [("errors.errorType", laid_errors_errorType)] }
def CursorPutsSaid : Prop := cursorPutsRow.holds Tryd.pinned (OpenSpec.ofChange cursorPutsSpec)

/-- ITS FALSE NEIGHBOUR: 'it returns false'. Refute it at one input. -/
def cursorPutsWrong : ChangeSpec := { name := "cursorPuts", fn := fun _ => fun
  | [d1, d2, d3, d4] => { results := [.lit (.bool false)], args := [d1, d2, d3, d4] }
  | _ => none }
def CursorPutsWrongFalsely : Prop := cursorPutsRow.holds Tryd.pinned (OpenSpec.ofChange cursorPutsWrong)

/-- 'hustingslaw02.CursorApart': WHATEVER THE INPUT: true; the input reads as it did. -/
def cursorApartSpec : ChangeSpec := { name := "cursorApart", fn := fun _ => fun
  | [d1, d2, d3, d4] => { results := [.lit (.bool true)], args := [d1, d2, d3, d4] }
  | _ => none }
def cursorApartRow : OpenClaim := { program := "ytdhhocmdolnfiaadoor", sum := "d2fb916608cf036187ef0b11a7f02b286518cef5f1aaf16e4918359bbe953589", func := "hustings/hustingslaw02.CursorApart", spec := "cursorApart", inPlace := ["internal/reflectlite.ValueOf", "(internal/reflectlite.Value).Type", "(internal/reflectlite.Value).IsNil", "internal/reflectlite.TypeOf", "(internal/reflectlite.Value).Elem", "(internal/reflectlite.Value).Set"], unfollowed := true, recurses := true, named := ["errors.errorType"], apart := false, laid := [("errors.errorType", laid_errors_errorType)] }
def CursorApartSaid : Prop := cursorApartRow.holds Tryd.pinned (OpenSpec.ofChange cursorApartSpec)

/-- ITS FALSE NEIGHBOUR: 'it returns false'. Refute it at one input. -/
def cursorApartWrong : ChangeSpec := { name := "cursorApart", fn := fun _ => fun
  | [d1, d2, d3, d4] => { results := [.lit (.bool false)], args := [d1, d2, d3, d4] }
  | _ => none }
def CursorApartWrongFalsely : Prop := cursorApartRow.holds Tryd.pinned (OpenSpec.ofChange cursorApartWrong)

/- THE SECOND FORM. 'bulk': how many values and letters a reading holds, each counted each time it is reached (what is shared counts as often as it is met; a slice's spare places count too). A statement '..UptoSaid' is the law's where the arguments, and the package variables that the reading takes, are together of bulk at most 1048576: NARROWER than '..Said'. Prove '..Said' where nothing that the law and all that it calls make is longer than what came in: it says more and counts as full. Else prove '..UptoSaid'. A law counts once. -/
mutual
def uptoBulk {H : Type} : DataW H → Nat
  | .lit (.string bytes) => bytes.length + 1
  | .lit _ => 1
  | .nil => 1
  | .ptr d => uptoBulk d + 1
  | .slice elems spare => uptoBulkAll elems + uptoBulkAll spare + 1
  | .agg parts => uptoBulkAll parts + 1
  | .iface _ d => uptoBulk d + 1
  | .map entries => uptoBulkEntries entries + 1
  | .held _ => 1
def uptoBulkAll {H : Type} : List (DataW H) → Nat
  | [] => 0
  | d :: r => uptoBulk d + uptoBulkAll r
def uptoBulkEntries {H : Type} : List (Lit × DataW H) → Nat
  | [] => 0
  | x :: r => uptoBulkEntry x + uptoBulkEntries r
def uptoBulkEntry {H : Type} : Lit × DataW H → Nat
  | (.string bytes, d) => bytes.length + uptoBulk d + 1
  | (_, d) => uptoBulk d + 1
 end
def uptoSmall : (H : Type) → List (DataW H) → Bool := fun _ ds => decide (uptoBulkAll ds ≤ 1048576)
def OpenSpec.upto (s : _root_.Go.ChangeSpec) : _root_.Go.OpenSpec := { _root_.Go.OpenSpec.ofChange s with cond := some uptoSmall }

/-- 'hustingslaw13.SipTells', WHERE WHAT IT READS IS OF BULK AT MOST 1048576: true; the input reads as it did. -/
def sipTellsUptoRow : OpenClaim := { program := "ytdhhocmdolnfiaadoor", sum := "d2fb916608cf036187ef0b11a7f02b286518cef5f1aaf16e4918359bbe953589", func := "hustings/hustingslaw13.SipTells", spec := "sipTells", named := ["hustings/sip.masks"], apart := false, laid := [("hustings/sip.masks", laid_hustings_sip_masks)], narrowed := true }
def SipTellsUptoSaid : Prop := sipTellsUptoRow.holds Tryd.pinned (OpenSpec.upto sipTellsSpec)

/-- 'hustingslaw13.SipPlays', WHERE WHAT IT READS IS OF BULK AT MOST 1048576: true; the input reads as it did. -/
def sipPlaysUptoRow : OpenClaim := { program := "ytdhhocmdolnfiaadoor", sum := "d2fb916608cf036187ef0b11a7f02b286518cef5f1aaf16e4918359bbe953589", func := "hustings/hustingslaw13.SipPlays", spec := "sipPlays", named := ["hustings/sip.masks"], apart := false, laid := [("hustings/sip.masks", laid_hustings_sip_masks)], narrowed := true }
def SipPlaysUptoSaid : Prop := sipPlaysUptoRow.holds Tryd.pinned (OpenSpec.upto sipPlaysSpec)

/-- 'hustingslaw13.SipParts', WHERE WHAT IT READS IS OF BULK AT MOST 1048576: true; the input reads as it did. -/
def sipPartsUptoRow : OpenClaim := { program := "ytdhhocmdolnfiaadoor", sum := "d2fb916608cf036187ef0b11a7f02b286518cef5f1aaf16e4918359bbe953589", func := "hustings/hustingslaw13.SipParts", spec := "sipParts", named := ["hustings/sip.masks"], apart := false, laid := [("hustings/sip.masks", laid_hustings_sip_masks)], narrowed := true }
def SipPartsUptoSaid : Prop := sipPartsUptoRow.holds Tryd.pinned (OpenSpec.upto sipPartsSpec)

/-- 'hustingslaw13.SipOn', WHERE WHAT IT READS IS OF BULK AT MOST 1048576: true; the input reads as it did. -/
def sipOnUptoRow : OpenClaim := { program := "ytdhhocmdolnfiaadoor", sum := "d2fb916608cf036187ef0b11a7f02b286518cef5f1aaf16e4918359bbe953589", func := "hustings/hustingslaw13.SipOn", spec := "sipOn", named := ["hustings/sip.masks"], apart := false, laid := [("hustings/sip.masks", laid_hustings_sip_masks)], narrowed := true }
def SipOnUptoSaid : Prop := sipOnUptoRow.holds Tryd.pinned (OpenSpec.upto sipOnSpec)

/-- 'hustingslaw02.CursorReads', WHERE WHAT IT READS IS OF BULK AT MOST 1048576: true; the input reads as it did. -/
def cursorReadsUptoRow : OpenClaim := { program := "ytdhhocmdolnfiaadoor", sum := "d2fb916608cf036187ef0b11a7f02b286518cef5f1aaf16e4918359bbe953589", func := "hustings/hustingslaw02.CursorReads", spec := "cursorReads", inPlace := ["internal/reflectlite.ValueOf", "(internal/reflectlite.Value).Type", "(internal/reflectlite.Value).IsNil", "internal/reflectlite.TypeOf", "(internal/reflectlite.Value).Elem", "(internal/reflectlite.Value).Set"], unfollowed := true, recurses := true, named := ["errors.errorType"], apart := false, laid := [("errors.errorType", laid_errors_errorType)], narrowed := true }
def CursorReadsUptoSaid : Prop := cursorReadsUptoRow.holds Tryd.pinned (OpenSpec.upto cursorReadsSpec)

/-- 'hustingslaw02.CursorPuts', WHERE WHAT IT READS IS OF BULK AT MOST 1048576: true; the input reads as it did. -/
def cursorPutsUptoRow : OpenClaim := { program := "ytdhhocmdolnfiaadoor", sum := "d2fb916608cf036187ef0b11a7f02b286518cef5f1aaf16e4918359bbe953589", func := "hustings/hustingslaw02.CursorPuts", spec := "cursorPuts", inPlace := ["internal/reflectlite.ValueOf", "(internal/reflectlite.Value).Type", "(internal/reflectlite.Value).IsNil", "internal/reflectlite.TypeOf", "(internal/reflectlite.Value).Elem", "(internal/reflectlite.Value).Set"], unfollowed := true, recurses := true, named := ["errors.errorType"], apart := false, laid := [("errors.errorType", laid_errors_errorType)], narrowed := true }
def CursorPutsUptoSaid : Prop := cursorPutsUptoRow.holds Tryd.pinned (OpenSpec.upto cursorPutsSpec)

/-- 'hustingslaw02.CursorApart', WHERE WHAT IT READS IS OF BULK AT MOST 1048576: true; the input reads as it did. -/
def cursorApartUptoRow : OpenClaim := { program := "ytdhhocmdolnfiaadoor", sum := "d2fb916608cf036187ef0b11a7f02b286518cef5f1aaf16e4918359bbe953589", func := "hustings/hustingslaw02.CursorApart", spec := "cursorApart", inPlace := ["internal/reflectlite.ValueOf", "(internal/reflectlite.Value).Type", "(internal/reflectlite.Value).IsNil", "internal/reflectlite.TypeOf", "(internal/reflectlite.Value).Elem", "(internal/reflectlite.Value).Set"], unfollowed := true, recurses := true, named := ["errors.errorType"], apart := false, laid := [("errors.errorType", laid_errors_errorType)], narrowed := true }
def CursorApartUptoSaid : Prop := cursorApartUptoRow.holds Tryd.pinned (OpenSpec.upto cursorApartSpec)

end Rows
end Go.Proofs.YtdhhocmdolnfiaaDoor
