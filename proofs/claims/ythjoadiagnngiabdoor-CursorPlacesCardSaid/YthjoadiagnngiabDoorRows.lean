/-
  NARROWER THAN 'FOR EVERY INPUT', by the rows' own cells (each row's printed sentence says how): CursorPlaces: laid · CursorApart: laid · SipNames: laid · SipTells: laid · SipPlays: laid · SipParts: laid · SipOn: laid.
  DERIVED. THE GIVEN ROWS OF THIS SEAT. 7 by the template 'for every input the law returns true; each argument reads behind the call as it read before'; 0 by the template 'total and deterministic' (their statements: YthjoadiagnngiabDoorTotals.lean).
  GIVEN WITH THE SEED: the statements are not yours to turn. If you find one false, say at which input.
  Laid BY PROGRAM, IN A SANDBOX (cutbox-rows.mjs): the forced cells as the released guide's own fill.sh prints them over the translation 9ba33b343dc07662… (all of the seat's roots in one cut). By AI agents, Wed Nov 11 2026. No macro, syntax, notation, axiom, sorry.
-/
import Derived.Test.YthjoadiagnngiabDoorChecked
import GoSem.Claim
import GoSem.ClaimJoined
import GoSem.ClaimMapViews
import Derived.JoinedTies
import Derived.KernelRfl
namespace Go.Proofs.YthjoadiagnngiabDoor
/- THE CELL 'sum', in the pinned program and in every row, IS THE sha256 OF THE DUMP (.gsa) THAT YthjoadiagnngiabDoorProg.lean LOADS. Nothing in Lean hashes anything: it is a label: what it is worth is what the hold of that sum in a sandbox is worth. -/
noncomputable def Tryd.pinned : Pinned := { name := "ythjoadiagnngiabdoor", sum := "9ba33b343dc0766209685e89f0e8f63b089cb499c7ec04b42c778972709c9ca4", checked := Tryd.checked }
namespace Rows
def none {H : Type} : Left H := { results := [], args := [] }

/- WHAT THE LISTED PACKAGE-LEVEL VARIABLES READ AS WHEN THE CALL BEGINS. Each datum BY PROGRAM (the guide's laid-datum.mjs) off the statement by which the dump's own 'gosem.cut.vars' lays the variable. In a bare row this is a premise. The card (YthjoadiagnngiabDoorCards.lean) ties it to the program's text. -/
def laid_errors_errorType {H : Type} : DataW H := .iface "internal/reflectlite.rtype" (.agg [.ptr (.lit (.string [101, 114, 114, 111, 114]))])
def laid_hustings_sip_masks {H : Type} : DataW H := .agg [.lit (.int .u64 8317987319222330741), .lit (.int .u64 7237128888997146477), .lit (.int .u64 7816392313619706465), .lit (.int .u64 8387220255154660723)]

/-- 'hustingslaw02.CursorPlaces': WHATEVER THE INPUT: true; the input reads as it did. -/
def cursorPlacesSpec : ChangeSpec := { name := "cursorPlaces", fn := fun _ => fun
  | [d1, d2] => { results := [.lit (.bool true)], args := [d1, d2] }
  | _ => none }
def cursorPlacesRow : OpenClaim := { program := "ythjoadiagnngiabdoor", sum := "9ba33b343dc0766209685e89f0e8f63b089cb499c7ec04b42c778972709c9ca4", func := "hustings/hustingslaw02.CursorPlaces", spec := "cursorPlaces", inPlace := ["internal/reflectlite.ValueOf", "(internal/reflectlite.Value).Type", "(internal/reflectlite.Value).IsNil", "internal/reflectlite.TypeOf", "(internal/reflectlite.Value).Elem", "(internal/reflectlite.Value).Set"], unfollowed := true, recurses := true, named := ["errors.errorType"], apart := false, laid := [("errors.errorType", laid_errors_errorType)] }
def CursorPlacesSaid : Prop := cursorPlacesRow.holds Tryd.pinned (OpenSpec.ofChange cursorPlacesSpec)

/-- ITS FALSE NEIGHBOUR: 'it returns false'. Refute it at one input. -/
def cursorPlacesWrong : ChangeSpec := { name := "cursorPlaces", fn := fun _ => fun
  | [d1, d2] => { results := [.lit (.bool false)], args := [d1, d2] }
  | _ => none }
def CursorPlacesWrongFalsely : Prop := cursorPlacesRow.holds Tryd.pinned (OpenSpec.ofChange cursorPlacesWrong)

/-- 'hustingslaw02.CursorApart': WHATEVER THE INPUT: true; the input reads as it did. -/
def cursorApartSpec : ChangeSpec := { name := "cursorApart", fn := fun _ => fun
  | [d1, d2, d3, d4] => { results := [.lit (.bool true)], args := [d1, d2, d3, d4] }
  | _ => none }
def cursorApartRow : OpenClaim := { program := "ythjoadiagnngiabdoor", sum := "9ba33b343dc0766209685e89f0e8f63b089cb499c7ec04b42c778972709c9ca4", func := "hustings/hustingslaw02.CursorApart", spec := "cursorApart", inPlace := ["internal/reflectlite.ValueOf", "(internal/reflectlite.Value).Type", "(internal/reflectlite.Value).IsNil", "internal/reflectlite.TypeOf", "(internal/reflectlite.Value).Elem", "(internal/reflectlite.Value).Set"], unfollowed := true, recurses := true, named := ["errors.errorType"], apart := false, laid := [("errors.errorType", laid_errors_errorType)] }
def CursorApartSaid : Prop := cursorApartRow.holds Tryd.pinned (OpenSpec.ofChange cursorApartSpec)

/-- ITS FALSE NEIGHBOUR: 'it returns false'. Refute it at one input. -/
def cursorApartWrong : ChangeSpec := { name := "cursorApart", fn := fun _ => fun
  | [d1, d2, d3, d4] => { results := [.lit (.bool false)], args := [d1, d2, d3, d4] }
  | _ => none }
def CursorApartWrongFalsely : Prop := cursorApartRow.holds Tryd.pinned (OpenSpec.ofChange cursorApartWrong)

/-- 'hustingslaw13.SipNames': WHATEVER THE INPUT: true; the input reads as it did. -/
def sipNamesSpec : ChangeSpec := { name := "sipNames", fn := fun _ => fun
  | [] => { results := [.lit (.bool true)], args := [] }
  | _ => none }
def sipNamesRow : OpenClaim := { program := "ythjoadiagnngiabdoor", sum := "9ba33b343dc0766209685e89f0e8f63b089cb499c7ec04b42c778972709c9ca4", func := "hustings/hustingslaw13.SipNames", spec := "sipNames", named := ["hustings/sip.masks"], apart := false, laid := [("hustings/sip.masks", laid_hustings_sip_masks)] }
def SipNamesSaid : Prop := sipNamesRow.holds Tryd.pinned (OpenSpec.ofChange sipNamesSpec)

/-- ITS FALSE NEIGHBOUR: 'it returns false'. Refute it at one input. -/
def sipNamesWrong : ChangeSpec := { name := "sipNames", fn := fun _ => fun
  | [] => { results := [.lit (.bool false)], args := [] }
  | _ => none }
def SipNamesWrongFalsely : Prop := sipNamesRow.holds Tryd.pinned (OpenSpec.ofChange sipNamesWrong)

/-- 'hustingslaw13.SipTells': WHATEVER THE INPUT: true; the input reads as it did. -/
def sipTellsSpec : ChangeSpec := { name := "sipTells", fn := fun _ => fun
  | [d1, d2, d3] => { results := [.lit (.bool true)], args := [d1, d2, d3] }
  | _ => none }
def sipTellsRow : OpenClaim := { program := "ythjoadiagnngiabdoor", sum := "9ba33b343dc0766209685e89f0e8f63b089cb499c7ec04b42c778972709c9ca4", func := "hustings/hustingslaw13.SipTells", spec := "sipTells", named := ["hustings/sip.masks"], apart := false, laid := [("hustings/sip.masks", laid_hustings_sip_masks)] }
def SipTellsSaid : Prop := sipTellsRow.holds Tryd.pinned (OpenSpec.ofChange sipTellsSpec)

/-- ITS FALSE NEIGHBOUR: 'it returns false'. Refute it at one input. -/
def sipTellsWrong : ChangeSpec := { name := "sipTells", fn := fun _ => fun
  | [d1, d2, d3] => { results := [.lit (.bool false)], args := [d1, d2, d3] }
  | _ => none }
def SipTellsWrongFalsely : Prop := sipTellsRow.holds Tryd.pinned (OpenSpec.ofChange sipTellsWrong)

/-- 'hustingslaw13.SipPlays': WHATEVER THE INPUT: true; the input reads as it did. -/
def sipPlaysSpec : ChangeSpec := { name := "sipPlays", fn := fun _ => fun
  | [d1, d2, d3] => { results := [.lit (.bool true)], args := [d1, d2, d3] }
  | _ => none }
def sipPlaysRow : OpenClaim := { program := "ythjoadiagnngiabdoor", sum := "9ba33b343dc0766209685e89f0e8f63b089cb499c7ec04b42c778972709c9ca4", func := "hustings/hustingslaw13.SipPlays", spec := "sipPlays", named := ["hustings/sip.masks"], apart := false, laid := [("hustings/sip.masks", laid_hustings_sip_masks)] }
def SipPlaysSaid : Prop := sipPlaysRow.holds Tryd.pinned (OpenSpec.ofChange sipPlaysSpec)

/-- ITS FALSE NEIGHBOUR: 'it returns false'. Refute it at one input. -/
def sipPlaysWrong : ChangeSpec := { name := "sipPlays", fn := fun _ => fun
  | [d1, d2, d3] => { results := [.lit (.bool false)], args := [d1, d2, d3] }
  | _ => none }
def SipPlaysWrongFalsely : Prop := sipPlaysRow.holds Tryd.pinned (OpenSpec.ofChange sipPlaysWrong)

/-- 'hustingslaw13.SipParts': WHATEVER THE INPUT: true; the input reads as it did. -/
def sipPartsSpec : ChangeSpec := { name := "sipParts", fn := fun _ => fun
  | [d1, d2, d3] => { results := [.lit (.bool true)], args := [d1, d2, d3] }
  | _ => none }
def sipPartsRow : OpenClaim := { program := "ythjoadiagnngiabdoor", sum := "9ba33b343dc0766209685e89f0e8f63b089cb499c7ec04b42c778972709c9ca4", func := "hustings/hustingslaw13.SipParts", spec := "sipParts", named := ["hustings/sip.masks"], apart := false, laid := [("hustings/sip.masks", laid_hustings_sip_masks)] }
def SipPartsSaid : Prop := sipPartsRow.holds Tryd.pinned (OpenSpec.ofChange sipPartsSpec)

/-- ITS FALSE NEIGHBOUR: 'it returns false'. Refute it at one input. -/
def sipPartsWrong : ChangeSpec := { name := "sipParts", fn := fun _ => fun
  | [d1, d2, d3] => { results := [.lit (.bool false)], args := [d1, d2, d3] }
  | _ => none }
def SipPartsWrongFalsely : Prop := sipPartsRow.holds Tryd.pinned (OpenSpec.ofChange sipPartsWrong)

/-- 'hustingslaw13.SipOn': WHATEVER THE INPUT: true; the input reads as it did. -/
def sipOnSpec : ChangeSpec := { name := "sipOn", fn := fun _ => fun
  | [d1, d2, d3, d4] => { results := [.lit (.bool true)], args := [d1, d2, d3, d4] }
  | _ => none }
def sipOnRow : OpenClaim := { program := "ythjoadiagnngiabdoor", sum := "9ba33b343dc0766209685e89f0e8f63b089cb499c7ec04b42c778972709c9ca4", func := "hustings/hustingslaw13.SipOn", spec := "sipOn", named := ["hustings/sip.masks"], apart := false, laid := [("hustings/sip.masks", laid_hustings_sip_masks)] }
def SipOnSaid : Prop := sipOnRow.holds Tryd.pinned (OpenSpec.ofChange sipOnSpec)

/-- ITS FALSE NEIGHBOUR: 'it returns false'. Refute it at one input. -/
def sipOnWrong : ChangeSpec := { name := "sipOn", fn := fun _ => fun
  | [d1, d2, d3, d4] => { results := [.lit (.bool false)], args := [d1, d2, d3, d4] }
  | _ => none }
def SipOnWrongFalsely : Prop := sipOnRow.holds Tryd.pinned (OpenSpec.ofChange sipOnWrong)

/- THE SECOND FORM. 'bulk': how many values and letters a reading holds, each counted each time it is reached (what is shared counts as often as it is met; a slice's spare places count too). A statement '..UptoSaid' is the law's where the arguments, and the package variables that the reading takes, are together of bulk at most 1048576: NARROWER than '..Said'. Prove '..Said' where nothing that the law and all that it calls make is longer than what came in: it says more and counts as full. Else prove '..UptoSaid'. A law counts once. -/
mutual
def uptoBulk {H : Type} : DataW H → Nat
  | .lit (.string bytes) => bytes.length + 1
  | .lit _ => 1
  | .nil => 1
  | .ptr d => uptoBulk d + 1
  | .slice elems spare => uptoBulkAll elems + uptoBulkAll spare + 1
  | .agg parts => uptoBulkAll parts + 1
  | .iface _ d => uptoBulk d + 1
  | .map entries => uptoBulkEntries entries + 1
  | .held _ => 1
def uptoBulkAll {H : Type} : List (DataW H) → Nat
  | [] => 0
  | d :: r => uptoBulk d + uptoBulkAll r
def uptoBulkEntries {H : Type} : List (Lit × DataW H) → Nat
  | [] => 0
  | x :: r => uptoBulkEntry x + uptoBulkEntries r
def uptoBulkEntry {H : Type} : Lit × DataW H → Nat
  | (.string bytes, d) => bytes.length + uptoBulk d + 1
  | (_, d) => uptoBulk d + 1
 end
def uptoSmall : (H : Type) → List (DataW H) → Bool := fun _ ds => decide (uptoBulkAll ds ≤ 1048576)
def OpenSpec.upto (s : _root_.Go.ChangeSpec) : _root_.Go.OpenSpec := { _root_.Go.OpenSpec.ofChange s with cond := some uptoSmall }

/-- 'hustingslaw02.CursorPlaces', WHERE WHAT IT READS IS OF BULK AT MOST 1048576: true; the input reads as it did. -/
def cursorPlacesUptoRow : OpenClaim := { program := "ythjoadiagnngiabdoor", sum := "9ba33b343dc0766209685e89f0e8f63b089cb499c7ec04b42c778972709c9ca4", func := "hustings/hustingslaw02.CursorPlaces", spec := "cursorPlaces", inPlace := ["internal/reflectlite.ValueOf", "(internal/reflectlite.Value).Type", "(internal/reflectlite.Value).IsNil", "internal/reflectlite.TypeOf", "(internal/reflectlite.Value).Elem", "(internal/reflectlite.Value).Set"], unfollowed := true, recurses := true, named := ["errors.errorType"], apart := false, laid := [("errors.errorType", laid_errors_errorType)], narrowed := true }
def CursorPlacesUptoSaid : Prop := cursorPlacesUptoRow.holds Tryd.pinned (OpenSpec.upto cursorPlacesSpec)

/-- 'hustingslaw02.CursorApart', WHERE WHAT IT READS IS OF BULK AT MOST 1048576: true; the input reads as it did. -/
def cursorApartUptoRow : OpenClaim := { program := "ythjoadiagnngiabdoor", sum := "9ba33b343dc0766209685e89f0e8f63b089cb499c7ec04b42c778972709c9ca4", func := "hustings/hustingslaw02.CursorApart", spec := "cursorApart", inPlace := ["internal/reflectlite.ValueOf", "(internal/reflectlite.Value).Type", "(internal/reflectlite.Value).IsNil", "internal/reflectlite.TypeOf", "(internal/reflectlite.Value).Elem", "(internal/reflectlite.Value).Set"], unfollowed := true, recurses := true, named := ["errors.errorType"], apart := false, laid := [("errors.errorType", laid_errors_errorType)], narrowed := true }
def CursorApartUptoSaid : Prop := cursorApartUptoRow.holds Tryd.pinned (OpenSpec.upto cursorApartSpec)

/-- 'hustingslaw13.SipNames', WHERE WHAT IT READS IS OF BULK AT MOST 1048576: true; the input reads as it did. -/
def sipNamesUptoRow : OpenClaim := { program := "ythjoadiagnngiabdoor", sum := "9ba33b343dc0766209685e89f0e8f63b089cb499c7ec04b42c778972709c9ca4", func := "hustings/hustingslaw13.SipNames", spec := "sipNames", named := ["hustings/sip.masks"], apart := false, laid := [("hustings/sip.masks", laid_hustings_sip_masks)], narrowed := true }
def SipNamesUptoSaid : Prop := sipNamesUptoRow.holds Tryd.pinned (OpenSpec.upto sipNamesSpec)

/-- 'hustingslaw13.SipTells', WHERE WHAT IT READS IS OF BULK AT MOST 1048576: true; the input reads as it did. -/
def sipTellsUptoRow : OpenClaim := { program := "ythjoadiagnngiabdoor", sum := "9ba33b343dc0766209685e89f0e8f63b089cb499c7ec04b42c778972709c9ca4", func := "hustings/hustingslaw13.SipTells", spec := "sipTells", named := ["hustings/sip.masks"], apart := false, laid := [("hustings/sip.masks", laid_hustings_sip_masks)], narrowed := true }
def SipTellsUptoSaid : Prop := sipTellsUptoRow.holds Tryd.pinned (OpenSpec.upto sipTellsSpec)

/-- 'hustingslaw13.SipPlays', WHERE WHAT IT READS IS OF BULK AT MOST 1048576: true; the input reads as it did. -/
def sipPlaysUptoRow : OpenClaim := { program := "ythjoadiagnngiabdoor", sum := "9ba33b343dc0766209685e89f0e8f63b089cb499c7ec04b42c778972709c9ca4", func := "hustings/hustingslaw13.SipPlays", spec := "sipPlays", named := ["hustings/sip.masks"], apart := false, laid := [("hustings/sip.masks", laid_hustings_sip_masks)], narrowed := true }
def SipPlaysUptoSaid : Prop := sipPlaysUptoRow.holds Tryd.pinned (OpenSpec.upto sipPlaysSpec)

/-- 'hustingslaw13.SipParts', WHERE WHAT IT READS IS OF BULK AT MOST 1048576: true; the input reads as it did. -/
def sipPartsUptoRow : OpenClaim := { program := "ythjoadiagnngiabdoor", sum := "9ba33b343dc0766209685e89f0e8f63b089cb499c7ec04b42c778972709c9ca4", func := "hustings/hustingslaw13.SipParts", spec := "sipParts", named := ["hustings/sip.masks"], apart := false, laid := [("hustings/sip.masks", laid_hustings_sip_masks)], narrowed := true }
def SipPartsUptoSaid : Prop := sipPartsUptoRow.holds Tryd.pinned (OpenSpec.upto sipPartsSpec)

/-- 'hustingslaw13.SipOn', WHERE WHAT IT READS IS OF BULK AT MOST 1048576: true; the input reads as it did. -/
def sipOnUptoRow : OpenClaim := { program := "ythjoadiagnngiabdoor", sum := "9ba33b343dc0766209685e89f0e8f63b089cb499c7ec04b42c778972709c9ca4", func := "hustings/hustingslaw13.SipOn", spec := "sipOn", named := ["hustings/sip.masks"], apart := false, laid := [("hustings/sip.masks", laid_hustings_sip_masks)], narrowed := true }
def SipOnUptoSaid : Prop := sipOnUptoRow.holds Tryd.pinned (OpenSpec.upto sipOnSpec)

end Rows
end Go.Proofs.YthjoadiagnngiabDoor
