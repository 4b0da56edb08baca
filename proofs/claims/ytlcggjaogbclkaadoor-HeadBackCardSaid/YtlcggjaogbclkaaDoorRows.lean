/-
  NARROWER THAN 'FOR EVERY INPUT', by the rows' own cells (each row's printed sentence says how): HeadReads: laid · HeadWrites: laid · HeadBack: laid · HeadBits: laid · HeadCut: laid · EdnsReads: laid · EdnsWrites: laid · EdnsBack: laid · EdnsBehind: laid · EdnsCodes: laid · EdnsParts: laid · SipParts: laid.
  DERIVED. THE GIVEN ROWS OF THIS SEAT. 12 by the template 'for every input the law returns true; each argument reads behind the call as it read before'; 0 by the template 'total and deterministic' (their statements: YtlcggjaogbclkaaDoorTotals.lean).
  GIVEN WITH THE SEED: the statements are not yours to turn. If you find one false, say at which input.
  Laid BY PROGRAM, IN A SANDBOX (cutbox-rows.mjs): the forced cells as the released guide's own fill.sh prints them over the translation 5e4c326c65bc62fb… (all of the seat's roots in one cut). By AI agents, Wed Nov 11 2026. No macro, syntax, notation, axiom, sorry.
-/
import Derived.Test.YtlcggjaogbclkaaDoorChecked
import GoSem.Claim
import GoSem.ClaimJoined
import GoSem.ClaimMapViews
import Derived.JoinedTies
import Derived.KernelRfl
namespace Go.Proofs.YtlcggjaogbclkaaDoor
/- THE CELL 'sum', in the pinned program and in every row, IS THE sha256 OF THE DUMP (.gsa) THAT YtlcggjaogbclkaaDoorProg.lean LOADS. Nothing in Lean hashes anything: it is a label: what it is worth is what the hold of that sum in a sandbox is worth. -/
noncomputable def Tryd.pinned : Pinned := { name := "ytlcggjaogbclkaadoor", sum := "5e4c326c65bc62fb3075c970353ed430edfc4fb69e504d46ed3d7911e5a6b5c5", checked := Tryd.checked }
namespace Rows
def none {H : Type} : Left H := { results := [], args := [] }

/- WHAT THE LISTED PACKAGE-LEVEL VARIABLES READ AS WHEN THE CALL BEGINS. Each datum BY PROGRAM (the guide's laid-datum.mjs) off the statement by which the dump's own 'gosem.cut.vars' lays the variable. In a bare row this is a premise. The card (YtlcggjaogbclkaaDoorCards.lean) ties it to the program's text. -/
def laid_errors_errorType {H : Type} : DataW H := .iface "internal/reflectlite.rtype" (.agg [.ptr (.lit (.string [101, 114, 114, 111, 114]))])
def laid_hustings_head_bits {H : Type} : DataW H := .agg [.agg [.lit (.int .i64 0), .lit (.int .u16 15), .lit (.int .u16 1)], .agg [.lit (.int .i64 1), .lit (.int .u16 11), .lit (.int .u16 15)], .agg [.lit (.int .i64 2), .lit (.int .u16 10), .lit (.int .u16 1)], .agg [.lit (.int .i64 3), .lit (.int .u16 9), .lit (.int .u16 1)], .agg [.lit (.int .i64 4), .lit (.int .u16 8), .lit (.int .u16 1)], .agg [.lit (.int .i64 5), .lit (.int .u16 7), .lit (.int .u16 1)], .agg [.lit (.int .i64 6), .lit (.int .u16 6), .lit (.int .u16 1)], .agg [.lit (.int .i64 7), .lit (.int .u16 5), .lit (.int .u16 1)], .agg [.lit (.int .i64 8), .lit (.int .u16 4), .lit (.int .u16 1)], .agg [.lit (.int .i64 9), .lit (.int .u16 0), .lit (.int .u16 15)]]
def laid_hustings_sip_masks {H : Type} : DataW H := .agg [.lit (.int .u64 8317987319222330741), .lit (.int .u64 7237128888997146477), .lit (.int .u64 7816392313619706465), .lit (.int .u64 8387220255154660723)]

/-- 'hustingslaw03.HeadReads': WHATEVER THE INPUT: true; the input reads as it did. -/
def headReadsSpec : ChangeSpec := { name := "headReads", fn := fun _ => fun
  | [d] => { results := [.lit (.bool true)], args := [d] }
  | _ => none }
def headReadsRow : OpenClaim := { program := "ytlcggjaogbclkaadoor", sum := "5e4c326c65bc62fb3075c970353ed430edfc4fb69e504d46ed3d7911e5a6b5c5", func := "hustings/hustingslaw03.HeadReads", spec := "headReads", inPlace := ["internal/reflectlite.ValueOf", "(internal/reflectlite.Value).Type", "(internal/reflectlite.Value).IsNil", "internal/reflectlite.TypeOf", "(internal/reflectlite.Value).Elem", "(internal/reflectlite.Value).Set"], unfollowed := true, recurses := true, named := ["errors.errorType", "hustings/head.bits"], apart := false, laid := [("errors.errorType", laid_errors_errorType), ("hustings/head.bits", laid_hustings_head_bits)] }
def HeadReadsSaid : Prop := headReadsRow.holds Tryd.pinned (OpenSpec.ofChange headReadsSpec)

/-- ITS FALSE NEIGHBOUR: 'it returns false'. Refute it at one input. -/
def headReadsWrong : ChangeSpec := { name := "headReads", fn := fun _ => fun
  | [d] => { results := [.lit (.bool false)], args := [d] }
  | _ => none }
def HeadReadsWrongFalsely : Prop := headReadsRow.holds Tryd.pinned (OpenSpec.ofChange headReadsWrong)

/-- 'hustingslaw03.HeadWrites': WHATEVER THE INPUT: true; the input reads as it did. -/
def headWritesSpec : ChangeSpec := { name := "headWrites", fn := fun _ => fun
  | [d1, d2, d3] => { results := [.lit (.bool true)], args := [d1, d2, d3] }
  | _ => none }
def headWritesRow : OpenClaim := { program := "ytlcggjaogbclkaadoor", sum := "5e4c326c65bc62fb3075c970353ed430edfc4fb69e504d46ed3d7911e5a6b5c5", func := "hustings/hustingslaw03.HeadWrites", spec := "headWrites", inPlace := ["internal/reflectlite.ValueOf", "(internal/reflectlite.Value).Type", "(internal/reflectlite.Value).IsNil", "internal/reflectlite.TypeOf", "(internal/reflectlite.Value).Elem", "(internal/reflectlite.Value).Set"], unfollowed := true, recurses := true, named := ["hustings/head.bits", "errors.errorType"], apart := false, laid := [("errors.errorType", laid_errors_errorType), ("hustings/head.bits", laid_hustings_head_bits)] }
def HeadWritesSaid : Prop := headWritesRow.holds Tryd.pinned (OpenSpec.ofChange headWritesSpec)

/-- ITS FALSE NEIGHBOUR: 'it returns false'. Refute it at one input. -/
def headWritesWrong : ChangeSpec := { name := "headWrites", fn := fun _ => fun
  | [d1, d2, d3] => { results := [.lit (.bool false)], args := [d1, d2, d3] }
  | _ => none }
def HeadWritesWrongFalsely : Prop := headWritesRow.holds Tryd.pinned (OpenSpec.ofChange headWritesWrong)

/-- 'hustingslaw03.HeadBack': WHATEVER THE INPUT: true; the input reads as it did. -/
def headBackSpec : ChangeSpec := { name := "headBack", fn := fun _ => fun
  | [d1, d2, d3, d4] => { results := [.lit (.bool true)], args := [d1, d2, d3, d4] }
  | _ => none }
def headBackRow : OpenClaim := { program := "ytlcggjaogbclkaadoor", sum := "5e4c326c65bc62fb3075c970353ed430edfc4fb69e504d46ed3d7911e5a6b5c5", func := "hustings/hustingslaw03.HeadBack", spec := "headBack", inPlace := ["internal/reflectlite.ValueOf", "(internal/reflectlite.Value).Type", "(internal/reflectlite.Value).IsNil", "internal/reflectlite.TypeOf", "(internal/reflectlite.Value).Elem", "(internal/reflectlite.Value).Set"], unfollowed := true, recurses := true, named := ["hustings/head.bits", "errors.errorType"], apart := false, laid := [("errors.errorType", laid_errors_errorType), ("hustings/head.bits", laid_hustings_head_bits)] }
def HeadBackSaid : Prop := headBackRow.holds Tryd.pinned (OpenSpec.ofChange headBackSpec)

/-- ITS FALSE NEIGHBOUR: 'it returns false'. Refute it at one input. -/
def headBackWrong : ChangeSpec := { name := "headBack", fn := fun _ => fun
  | [d1, d2, d3, d4] => { results := [.lit (.bool false)], args := [d1, d2, d3, d4] }
  | _ => none }
def HeadBackWrongFalsely : Prop := headBackRow.holds Tryd.pinned (OpenSpec.ofChange headBackWrong)

/-- 'hustingslaw03.HeadBits': WHATEVER THE INPUT: true; the input reads as it did. -/
def headBitsSpec : ChangeSpec := { name := "headBits", fn := fun _ => fun
  | [d1, d2] => { results := [.lit (.bool true)], args := [d1, d2] }
  | _ => none }
def headBitsRow : OpenClaim := { program := "ytlcggjaogbclkaadoor", sum := "5e4c326c65bc62fb3075c970353ed430edfc4fb69e504d46ed3d7911e5a6b5c5", func := "hustings/hustingslaw03.HeadBits", spec := "headBits", inPlace := ["internal/reflectlite.ValueOf", "(internal/reflectlite.Value).Type", "(internal/reflectlite.Value).IsNil", "internal/reflectlite.TypeOf", "(internal/reflectlite.Value).Elem", "(internal/reflectlite.Value).Set"], unfollowed := true, recurses := true, named := ["hustings/head.bits", "errors.errorType"], apart := false, laid := [("errors.errorType", laid_errors_errorType), ("hustings/head.bits", laid_hustings_head_bits)] }
def HeadBitsSaid : Prop := headBitsRow.holds Tryd.pinned (OpenSpec.ofChange headBitsSpec)

/-- ITS FALSE NEIGHBOUR: 'it returns false'. Refute it at one input. -/
def headBitsWrong : ChangeSpec := { name := "headBits", fn := fun _ => fun
  | [d1, d2] => { results := [.lit (.bool false)], args := [d1, d2] }
  | _ => none }
def HeadBitsWrongFalsely : Prop := headBitsRow.holds Tryd.pinned (OpenSpec.ofChange headBitsWrong)

/-- 'hustingslaw03.HeadCut': WHATEVER THE INPUT: true; the input reads as it did. -/
def headCutSpec : ChangeSpec := { name := "headCut", fn := fun _ => fun
  | [d1, d2] => { results := [.lit (.bool true)], args := [d1, d2] }
  | _ => none }
def headCutRow : OpenClaim := { program := "ytlcggjaogbclkaadoor", sum := "5e4c326c65bc62fb3075c970353ed430edfc4fb69e504d46ed3d7911e5a6b5c5", func := "hustings/hustingslaw03.HeadCut", spec := "headCut", inPlace := ["internal/reflectlite.ValueOf", "(internal/reflectlite.Value).Type", "(internal/reflectlite.Value).IsNil", "internal/reflectlite.TypeOf", "(internal/reflectlite.Value).Elem", "(internal/reflectlite.Value).Set"], unfollowed := true, recurses := true, named := ["errors.errorType", "hustings/head.bits"], apart := false, laid := [("errors.errorType", laid_errors_errorType), ("hustings/head.bits", laid_hustings_head_bits)] }
def HeadCutSaid : Prop := headCutRow.holds Tryd.pinned (OpenSpec.ofChange headCutSpec)

/-- ITS FALSE NEIGHBOUR: 'it returns false'. Refute it at one input. -/
def headCutWrong : ChangeSpec := { name := "headCut", fn := fun _ => fun
  | [d1, d2] => { results := [.lit (.bool false)], args := [d1, d2] }
  | _ => none }
def HeadCutWrongFalsely : Prop := headCutRow.holds Tryd.pinned (OpenSpec.ofChange headCutWrong)

/-- 'hustingslaw06.EdnsReads': WHATEVER THE INPUT: true; the input reads as it did. -/
def ednsReadsSpec : ChangeSpec := { name := "ednsReads", fn := fun _ => fun
  | [d1, d2, d3] => { results := [.lit (.bool true)], args := [d1, d2, d3] }
  | _ => none }
def ednsReadsRow : OpenClaim := { program := "ytlcggjaogbclkaadoor", sum := "5e4c326c65bc62fb3075c970353ed430edfc4fb69e504d46ed3d7911e5a6b5c5", func := "hustings/hustingslaw06.EdnsReads", spec := "ednsReads", inPlace := ["internal/reflectlite.ValueOf", "(internal/reflectlite.Value).Type", "(internal/reflectlite.Value).IsNil", "internal/reflectlite.TypeOf", "(internal/reflectlite.Value).Elem", "(internal/reflectlite.Value).Set"], unfollowed := true, recurses := true, named := ["errors.errorType"], apart := false, laid := [("errors.errorType", laid_errors_errorType)] }
def EdnsReadsSaid : Prop := ednsReadsRow.holds Tryd.pinned (OpenSpec.ofChange ednsReadsSpec)

/-- ITS FALSE NEIGHBOUR: 'it returns false'. Refute it at one input. -/
def ednsReadsWrong : ChangeSpec := { name := "ednsReads", fn := fun _ => fun
  | [d1, d2, d3] => { results := [.lit (.bool false)], args := [d1, d2, d3] }
  | _ => none }
def EdnsReadsWrongFalsely : Prop := ednsReadsRow.holds Tryd.pinned (OpenSpec.ofChange ednsReadsWrong)

/-- 'hustingslaw06.EdnsWrites': WHATEVER THE INPUT: true; the input reads as it did. -/
def ednsWritesSpec : ChangeSpec := { name := "ednsWrites", fn := fun _ => fun
  | [d1, d2, d3, d4, d5] => { results := [.lit (.bool true)], args := [d1, d2, d3, d4, d5] }
  | _ => none }
def ednsWritesRow : OpenClaim := { program := "ytlcggjaogbclkaadoor", sum := "5e4c326c65bc62fb3075c970353ed430edfc4fb69e504d46ed3d7911e5a6b5c5", func := "hustings/hustingslaw06.EdnsWrites", spec := "ednsWrites", inPlace := ["internal/reflectlite.ValueOf", "(internal/reflectlite.Value).Type", "(internal/reflectlite.Value).IsNil", "internal/reflectlite.TypeOf", "(internal/reflectlite.Value).Elem", "(internal/reflectlite.Value).Set"], unfollowed := true, recurses := true, named := ["errors.errorType"], apart := false, laid := [("errors.errorType", laid_errors_errorType)] }
def EdnsWritesSaid : Prop := ednsWritesRow.holds Tryd.pinned (OpenSpec.ofChange ednsWritesSpec)

/-- ITS FALSE NEIGHBOUR: 'it returns false'. Refute it at one input. -/
def ednsWritesWrong : ChangeSpec := { name := "ednsWrites", fn := fun _ => fun
  | [d1, d2, d3, d4, d5] => { results := [.lit (.bool false)], args := [d1, d2, d3, d4, d5] }
  | _ => none }
def EdnsWritesWrongFalsely : Prop := ednsWritesRow.holds Tryd.pinned (OpenSpec.ofChange ednsWritesWrong)

/-- 'hustingslaw06.EdnsBack': WHATEVER THE INPUT: true; the input reads as it did. -/
def ednsBackSpec : ChangeSpec := { name := "ednsBack", fn := fun _ => fun
  | [d1, d2, d3, d4] => { results := [.lit (.bool true)], args := [d1, d2, d3, d4] }
  | _ => none }
def ednsBackRow : OpenClaim := { program := "ytlcggjaogbclkaadoor", sum := "5e4c326c65bc62fb3075c970353ed430edfc4fb69e504d46ed3d7911e5a6b5c5", func := "hustings/hustingslaw06.EdnsBack", spec := "ednsBack", inPlace := ["internal/reflectlite.ValueOf", "(internal/reflectlite.Value).Type", "(internal/reflectlite.Value).IsNil", "internal/reflectlite.TypeOf", "(internal/reflectlite.Value).Elem", "(internal/reflectlite.Value).Set"], unfollowed := true, recurses := true, named := ["errors.errorType"], apart := false, laid := [("errors.errorType", laid_errors_errorType)] }
def EdnsBackSaid : Prop := ednsBackRow.holds Tryd.pinned (OpenSpec.ofChange ednsBackSpec)

/-- ITS FALSE NEIGHBOUR: 'it returns false'. Refute it at one input. -/
def ednsBackWrong : ChangeSpec := { name := "ednsBack", fn := fun _ => fun
  | [d1, d2, d3, d4] => { results := [.lit (.bool false)], args := [d1, d2, d3, d4] }
  | _ => none }
def EdnsBackWrongFalsely : Prop := ednsBackRow.holds Tryd.pinned (OpenSpec.ofChange ednsBackWrong)

/-- 'hustingslaw06.EdnsBehind': WHATEVER THE INPUT: true; the input reads as it did. -/
def ednsBehindSpec : ChangeSpec := { name := "ednsBehind", fn := fun _ => fun
  | [d1, d2, d3] => { results := [.lit (.bool true)], args := [d1, d2, d3] }
  | _ => none }
def ednsBehindRow : OpenClaim := { program := "ytlcggjaogbclkaadoor", sum := "5e4c326c65bc62fb3075c970353ed430edfc4fb69e504d46ed3d7911e5a6b5c5", func := "hustings/hustingslaw06.EdnsBehind", spec := "ednsBehind", inPlace := ["internal/reflectlite.ValueOf", "(internal/reflectlite.Value).Type", "(internal/reflectlite.Value).IsNil", "internal/reflectlite.TypeOf", "(internal/reflectlite.Value).Elem", "(internal/reflectlite.Value).Set"], unfollowed := true, recurses := true, named := ["errors.errorType"], apart := false, laid := [("errors.errorType", laid_errors_errorType)] }
def EdnsBehindSaid : Prop := ednsBehindRow.holds Tryd.pinned (OpenSpec.ofChange ednsBehindSpec)

/-- ITS FALSE NEIGHBOUR: 'it returns false'. Refute it at one input. -/
def ednsBehindWrong : ChangeSpec := { name := "ednsBehind", fn := fun _ => fun
  | [d1, d2, d3] => { results := [.lit (.bool false)], args := [d1, d2, d3] }
  | _ => none }
def EdnsBehindWrongFalsely : Prop := ednsBehindRow.holds Tryd.pinned (OpenSpec.ofChange ednsBehindWrong)

/-- 'hustingslaw06.EdnsCodes': WHATEVER THE INPUT: true; the input reads as it did. -/
def ednsCodesSpec : ChangeSpec := { name := "ednsCodes", fn := fun _ => fun
  | [d1, d2, d3] => { results := [.lit (.bool true)], args := [d1, d2, d3] }
  | _ => none }
def ednsCodesRow : OpenClaim := { program := "ytlcggjaogbclkaadoor", sum := "5e4c326c65bc62fb3075c970353ed430edfc4fb69e504d46ed3d7911e5a6b5c5", func := "hustings/hustingslaw06.EdnsCodes", spec := "ednsCodes", inPlace := ["internal/reflectlite.ValueOf", "(internal/reflectlite.Value).Type", "(internal/reflectlite.Value).IsNil", "internal/reflectlite.TypeOf", "(internal/reflectlite.Value).Elem", "(internal/reflectlite.Value).Set"], unfollowed := true, recurses := true, named := ["errors.errorType"], apart := false, laid := [("errors.errorType", laid_errors_errorType)] }
def EdnsCodesSaid : Prop := ednsCodesRow.holds Tryd.pinned (OpenSpec.ofChange ednsCodesSpec)

/-- ITS FALSE NEIGHBOUR: 'it returns false'. Refute it at one input. -/
def ednsCodesWrong : ChangeSpec := { name := "ednsCodes", fn := fun _ => fun
  | [d1, d2, d3] => { results := [.lit (.bool false)], args := [d1, d2, d3] }
  | _ => none }
def EdnsCodesWrongFalsely : Prop := ednsCodesRow.holds Tryd.pinned (OpenSpec.ofChange ednsCodesWrong)

/-- 'hustingslaw06.EdnsParts': WHATEVER THE INPUT: true; the input reads as it did. -/
def ednsPartsSpec : ChangeSpec := { name := "ednsParts", fn := fun _ => fun
  | [d1, d2, d3, d4, d5] => { results := [.lit (.bool true)], args := [d1, d2, d3, d4, d5] }
  | _ => none }
def ednsPartsRow : OpenClaim := { program := "ytlcggjaogbclkaadoor", sum := "5e4c326c65bc62fb3075c970353ed430edfc4fb69e504d46ed3d7911e5a6b5c5", func := "hustings/hustingslaw06.EdnsParts", spec := "ednsParts", inPlace := ["internal/reflectlite.ValueOf", "(internal/reflectlite.Value).Type", "(internal/reflectlite.Value).IsNil", "internal/reflectlite.TypeOf", "(internal/reflectlite.Value).Elem", "(internal/reflectlite.Value).Set"], unfollowed := true, recurses := true, named := ["errors.errorType"], apart := false, laid := [("errors.errorType", laid_errors_errorType)] }
def EdnsPartsSaid : Prop := ednsPartsRow.holds Tryd.pinned (OpenSpec.ofChange ednsPartsSpec)

/-- ITS FALSE NEIGHBOUR: 'it returns false'. Refute it at one input. -/
def ednsPartsWrong : ChangeSpec := { name := "ednsParts", fn := fun _ => fun
  | [d1, d2, d3, d4, d5] => { results := [.lit (.bool false)], args := [d1, d2, d3, d4, d5] }
  | _ => none }
def EdnsPartsWrongFalsely : Prop := ednsPartsRow.holds Tryd.pinned (OpenSpec.ofChange ednsPartsWrong)

/-- 'hustingslaw13.SipParts': WHATEVER THE INPUT: true; the input reads as it did. -/
def sipPartsSpec : ChangeSpec := { name := "sipParts", fn := fun _ => fun
  | [d1, d2, d3] => { results := [.lit (.bool true)], args := [d1, d2, d3] }
  | _ => none }
def sipPartsRow : OpenClaim := { program := "ytlcggjaogbclkaadoor", sum := "5e4c326c65bc62fb3075c970353ed430edfc4fb69e504d46ed3d7911e5a6b5c5", func := "hustings/hustingslaw13.SipParts", spec := "sipParts", named := ["hustings/sip.masks"], apart := false, laid := [("hustings/sip.masks", laid_hustings_sip_masks)] }
def SipPartsSaid : Prop := sipPartsRow.holds Tryd.pinned (OpenSpec.ofChange sipPartsSpec)

/-- ITS FALSE NEIGHBOUR: 'it returns false'. Refute it at one input. -/
def sipPartsWrong : ChangeSpec := { name := "sipParts", fn := fun _ => fun
  | [d1, d2, d3] => { results := [.lit (.bool false)], args := [d1, d2, d3] }
  | _ => none }
def SipPartsWrongFalsely : Prop := sipPartsRow.holds Tryd.pinned (OpenSpec.ofChange sipPartsWrong)

/- THE SECOND FORM. 'bulk': how many values and letters a reading holds, each counted each time it is reached (what is shared counts as often as it is met; a slice's spare places count too). A statement '..UptoSaid' is the law's where the arguments, and the package variables that the reading takes, are together of bulk at most 1048576: NARROWER than '..Said'. Prove '..Said' where nothing that the law and all that it calls make is longer than what came in: it says more and counts as full. Else prove '..UptoSaid'. A law counts once. -/
mutual
def uptoBulk {H : Type} : DataW H → Nat
  | .lit (.string bytes) => bytes.length + 1
  | .lit _ => 1
  | .nil => 1
  | .ptr d => uptoBulk d + 1
  | .slice elems spare => uptoBulkAll elems + uptoBulkAll spare + 1
  | .agg parts => uptoBulkAll parts + 1
  | .iface _ d => uptoBulk d + 1
  | .map entries => uptoBulkEntries entries + 1
  | .held _ => 1
def uptoBulkAll {H : Type} : List (DataW H) → Nat
  | [] => 0
  | d :: r => uptoBulk d + uptoBulkAll r
def uptoBulkEntries {H : Type} : List (Lit × DataW H) → Nat
  | [] => 0
  | x :: r => uptoBulkEntry x + uptoBulkEntries r
def uptoBulkEntry {H : Type} : Lit × DataW H → Nat
  | (.string bytes, d) => bytes.length + uptoBulk d + 1
  | (_, d) => uptoBulk d + 1
 end
def uptoSmall : (H : Type) → List (DataW H) → Bool := fun _ ds => decide (uptoBulkAll ds ≤ 1048576)
def OpenSpec.upto (s : _root_.Go.ChangeSpec) : _root_.Go.OpenSpec := { _root_.Go.OpenSpec.ofChange s with cond := some uptoSmall }

/-- 'hustingslaw03.HeadReads', WHERE WHAT IT READS IS OF BULK AT MOST 1048576: true; the input reads as it did. -/
def headReadsUptoRow : OpenClaim := { program := "ytlcggjaogbclkaadoor", sum := "5e4c326c65bc62fb3075c970353ed430edfc4fb69e504d46ed3d7911e5a6b5c5", func := "hustings/hustingslaw03.HeadReads", spec := "headReads", inPlace := ["internal/reflectlite.ValueOf", "(internal/reflectlite.Value).Type", "(internal/reflectlite.Value).IsNil", "internal/reflectlite.TypeOf", "(internal/reflectlite.Value).Elem", "(internal/reflectlite.Value).Set"], unfollowed := true, recurses := true, named := ["errors.errorType", "hustings/head.bits"], apart := false, laid := [("errors.errorType", laid_errors_errorType), ("hustings/head.bits", laid_hustings_head_bits)], narrowed := true }
def HeadReadsUptoSaid : Prop := headReadsUptoRow.holds Tryd.pinned (OpenSpec.upto headReadsSpec)

/-- 'hustingslaw03.HeadWrites', WHERE WHAT IT READS IS OF BULK AT MOST 1048576: true; the input reads as it did. -/
def headWritesUptoRow : OpenClaim := { program := "ytlcggjaogbclkaadoor", sum := "5e4c326c65bc62fb3075c970353ed430edfc4fb69e504d46ed3d7911e5a6b5c5", func := "hustings/hustingslaw03.HeadWrites", spec := "headWrites", inPlace := ["internal/reflectlite.ValueOf", "(internal/reflectlite.Value).Type", "(internal/reflectlite.Value).IsNil", "internal/reflectlite.TypeOf", "(internal/reflectlite.Value).Elem", "(internal/reflectlite.Value).Set"], unfollowed := true, recurses := true, named := ["hustings/head.bits", "errors.errorType"], apart := false, laid := [("errors.errorType", laid_errors_errorType), ("hustings/head.bits", laid_hustings_head_bits)], narrowed := true }
def HeadWritesUptoSaid : Prop := headWritesUptoRow.holds Tryd.pinned (OpenSpec.upto headWritesSpec)

/-- 'hustingslaw03.HeadBack', WHERE WHAT IT READS IS OF BULK AT MOST 1048576: true; the input reads as it did. -/
def headBackUptoRow : OpenClaim := { program := "ytlcggjaogbclkaadoor", sum := "5e4c326c65bc62fb3075c970353ed430edfc4fb69e504d46ed3d7911e5a6b5c5", func := "hustings/hustingslaw03.HeadBack", spec := "headBack", inPlace := ["internal/reflectlite.ValueOf", "(internal/reflectlite.Value).Type", "(internal/reflectlite.Value).IsNil", "internal/reflectlite.TypeOf", "(internal/reflectlite.Value).Elem", "(internal/reflectlite.Value).Set"], unfollowed := true, recurses := true, named := ["hustings/head.bits", "errors.errorType"], apart := false, laid := [("errors.errorType", laid_errors_errorType), ("hustings/head.bits", laid_hustings_head_bits)], narrowed := true }
def HeadBackUptoSaid : Prop := headBackUptoRow.holds Tryd.pinned (OpenSpec.upto headBackSpec)

/-- 'hustingslaw03.HeadBits', WHERE WHAT IT READS IS OF BULK AT MOST 1048576: true; the input reads as it did. -/
def headBitsUptoRow : OpenClaim := { program := "ytlcggjaogbclkaadoor", sum := "5e4c326c65bc62fb3075c970353ed430edfc4fb69e504d46ed3d7911e5a6b5c5", func := "hustings/hustingslaw03.HeadBits", spec := "headBits", inPlace := ["internal/reflectlite.ValueOf", "(internal/reflectlite.Value).Type", "(internal/reflectlite.Value).IsNil", "internal/reflectlite.TypeOf", "(internal/reflectlite.Value).Elem", "(internal/reflectlite.Value).Set"], unfollowed := true, recurses := true, named := ["hustings/head.bits", "errors.errorType"], apart := false, laid := [("errors.errorType", laid_errors_errorType), ("hustings/head.bits", laid_hustings_head_bits)], narrowed := true }
def HeadBitsUptoSaid : Prop := headBitsUptoRow.holds Tryd.pinned (OpenSpec.upto headBitsSpec)

/-- 'hustingslaw03.HeadCut', WHERE WHAT IT READS IS OF BULK AT MOST 1048576: true; the input reads as it did. -/
def headCutUptoRow : OpenClaim := { program := "ytlcggjaogbclkaadoor", sum := "5e4c326c65bc62fb3075c970353ed430edfc4fb69e504d46ed3d7911e5a6b5c5", func := "hustings/hustingslaw03.HeadCut", spec := "headCut", inPlace := ["internal/reflectlite.ValueOf", "(internal/reflectlite.Value).Type", "(internal/reflectlite.Value).IsNil", "internal/reflectlite.TypeOf", "(internal/reflectlite.Value).Elem", "(internal/reflectlite.Value).Set"], unfollowed := true, recurses := true, named := ["errors.errorType", "hustings/head.bits"], apart := false, laid := [("errors.errorType", laid_errors_errorType), ("hustings/head.bits", laid_hustings_head_bits)], narrowed := true }
def HeadCutUptoSaid : Prop := headCutUptoRow.holds Tryd.pinned (OpenSpec.upto headCutSpec)

/-- 'hustingslaw06.EdnsReads', WHERE WHAT IT READS IS OF BULK AT MOST 1048576: true; the input reads as it did. -/
def ednsReadsUptoRow : OpenClaim := { program := "ytlcggjaogbclkaadoor", sum := "5e4c326c65bc62fb3075c970353ed430edfc4fb69e504d46ed3d7911e5a6b5c5", func := "hustings/hustingslaw06.EdnsReads", spec := "ednsReads", inPlace := ["internal/reflectlite.ValueOf", "(internal/reflectlite.Value).Type", "(internal/reflectlite.Value).IsNil", "internal/reflectlite.TypeOf", "(internal/reflectlite.Value).Elem", "(internal/reflectlite.Value).Set"], unfollowed := true, recurses := true, named := ["errors.errorType"], apart := false, laid := [("errors.errorType", laid_errors_errorType)], narrowed := true }
def EdnsReadsUptoSaid : Prop := ednsReadsUptoRow.holds Tryd.pinned (OpenSpec.upto ednsReadsSpec)

/-- 'hustingslaw06.EdnsWrites', WHERE WHAT IT READS IS OF BULK AT MOST 1048576: true; the input reads as it did. -/
def ednsWritesUptoRow : OpenClaim := { program := "ytlcggjaogbclkaadoor", sum := "5e4c326c65bc62fb3075c970353ed430edfc4fb69e504d46ed3d7911e5a6b5c5", func := "hustings/hustingslaw06.EdnsWrites", spec := "ednsWrites", inPlace := ["internal/reflectlite.ValueOf", "(internal/reflectlite.Value).Type", "(internal/reflectlite.Value).IsNil", "internal/reflectlite.TypeOf", "(internal/reflectlite.Value).Elem", "(internal/reflectlite.Value).Set"], unfollowed := true, recurses := true, named := ["errors.errorType"], apart := false, laid := [("errors.errorType", laid_errors_errorType)], narrowed := true }
def EdnsWritesUptoSaid : Prop := ednsWritesUptoRow.holds Tryd.pinned (OpenSpec.upto ednsWritesSpec)

/-- 'hustingslaw06.EdnsBack', WHERE WHAT IT READS IS OF BULK AT MOST 1048576: true; the input reads as it did. -/
def ednsBackUptoRow : OpenClaim := { program := "ytlcggjaogbclkaadoor", sum := "5e4c326c65bc62fb3075c970353ed430edfc4fb69e504d46ed3d7911e5a6b5c5", func := "hustings/hustingslaw06.EdnsBack", spec := "ednsBack", inPlace := ["internal/reflectlite.ValueOf", "(internal/reflectlite.Value).Type", "(internal/reflectlite.Value).IsNil", "internal/reflectlite.TypeOf", "(internal/reflectlite.Value).Elem", "(internal/reflectlite.Value).Set"], unfollowed := true, recurses := true, named := ["errors.errorType"], apart := false, laid := [("errors.errorType", laid_errors_errorType)], narrowed := true }
def EdnsBackUptoSaid : Prop := ednsBackUptoRow.holds Tryd.pinned (OpenSpec.upto ednsBackSpec)

/-- 'hustingslaw06.EdnsBehind', WHERE WHAT IT READS IS OF BULK AT MOST 1048576: true; the input reads as it did. -/
def ednsBehindUptoRow : OpenClaim := { program := "ytlcggjaogbclkaadoor", sum := "5e4c326c65bc62fb3075c970353ed430edfc4fb69e504d46ed3d7911e5a6b5c5", func := "hustings/hustingslaw06.EdnsBehind", spec := "ednsBehind", inPlace := ["internal/reflectlite.ValueOf", "(internal/reflectlite.Value).Type", "(internal/reflectlite.Value).IsNil", "internal/reflectlite.TypeOf", "(internal/reflectlite.Value).Elem", "(internal/reflectlite.Value).Set"], unfollowed := true, recurses := true, named := ["errors.errorType"], apart := false, laid := [("errors.errorType", laid_errors_errorType)], narrowed := true }
def EdnsBehindUptoSaid : Prop := ednsBehindUptoRow.holds Tryd.pinned (OpenSpec.upto ednsBehindSpec)

/-- 'hustingslaw06.EdnsCodes', WHERE WHAT IT READS IS OF BULK AT MOST 1048576: true; the input reads as it did. -/
def ednsCodesUptoRow : OpenClaim := { program := "ytlcggjaogbclkaadoor", sum := "5e4c326c65bc62fb3075c970353ed430edfc4fb69e504d46ed3d7911e5a6b5c5", func := "hustings/hustingslaw06.EdnsCodes", spec := "ednsCodes", inPlace := ["internal/reflectlite.ValueOf", "(internal/reflectlite.Value).Type", "(internal/reflectlite.Value).IsNil", "internal/reflectlite.TypeOf", "(internal/reflectlite.Value).Elem", "(internal/reflectlite.Value).Set"], unfollowed := true, recurses := true, named := ["errors.errorType"], apart := false, laid := [("errors.errorType", laid_errors_errorType)], narrowed := true }
def EdnsCodesUptoSaid : Prop := ednsCodesUptoRow.holds Tryd.pinned (OpenSpec.upto ednsCodesSpec)

/-- 'hustingslaw06.EdnsParts', WHERE WHAT IT READS IS OF BULK AT MOST 1048576: true; the input reads as it did. -/
def ednsPartsUptoRow : OpenClaim := { program := "ytlcggjaogbclkaadoor", sum := "5e4c326c65bc62fb3075c970353ed430edfc4fb69e504d46ed3d7911e5a6b5c5", func := "hustings/hustingslaw06.EdnsParts", spec := "ednsParts", inPlace := ["internal/reflectlite.ValueOf", "(internal/reflectlite.Value).Type", "(internal/reflectlite.Value).IsNil", "internal/reflectlite.TypeOf", "(internal/reflectlite.Value).Elem", "(internal/reflectlite.Value).Set"], unfollowed := true, recurses := true, named := ["errors.errorType"], apart := false, laid := [("errors.errorType", laid_errors_errorType)], narrowed := true }
def EdnsPartsUptoSaid : Prop := ednsPartsUptoRow.holds Tryd.pinned (OpenSpec.upto ednsPartsSpec)

/-- 'hustingslaw13.SipParts', WHERE WHAT IT READS IS OF BULK AT MOST 1048576: true; the input reads as it did. -/
def sipPartsUptoRow : OpenClaim := { program := "ytlcggjaogbclkaadoor", sum := "5e4c326c65bc62fb3075c970353ed430edfc4fb69e504d46ed3d7911e5a6b5c5", func := "hustings/hustingslaw13.SipParts", spec := "sipParts", named := ["hustings/sip.masks"], apart := false, laid := [("hustings/sip.masks", laid_hustings_sip_masks)], narrowed := true }
def SipPartsUptoSaid : Prop := sipPartsUptoRow.holds Tryd.pinned (OpenSpec.upto sipPartsSpec)

end Rows
end Go.Proofs.YtlcggjaogbclkaaDoor
