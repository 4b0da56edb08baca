/-
  For every input hustings/hustingslaw25.IntakeNames returns true, and each argument reads afterwards as it read before; the listed package-level variables start as the program's text lays them (the card ties them).
-/
import Derived.Test.YtodbppopnfabeaaGreatDoorCloErr
import Derived.Test.YtodbppopnfabeaaGreatDoorCloze
import Derived.Test.YtodbppopnfabeaaGreatDoorCloMemo
import Derived.Test.YtodbppopnfabeaaGreatDoorCards
import Derived.Test.YtodbppopnfabeaaGreatDoorTie
import Derived.WalkKit
import Derived.ProofKit
import Derived.OpenShut
import Derived.ShutString
import Derived.ChangeOld
import Derived.Below
import Derived.SliceStrings
import Derived.ChangeSame
import Derived.ChangeVars
import Derived.JoinedOf
import Derived.RowKit
import Derived.RowKitTokens
import Derived.LaidLaws
import Derived.LaidHandle
import Derived.Stop.Joined
import Derived.SevenTiedAt
namespace Go.Proofs.YtodbppopnfabeaaGreatDoor.intakeNames
open Go.ChangeShapes Go.WideShapes Go.ChangeAt Go.RowKit
open Go.ChangeMaps (open_string shut_string)
set_option linter.unusedVariables false

theorem own : ownKnob Tryz.prog.godebug = none := by kernel_rfl
theorem laidOut : laidOutB Tryz.prog = true := by kernel_rfl

noncomputable def ty0 : TypeId := ((Tryz.prog.globals[6]?).map (·.type)).getD 0
noncomputable def cells0 : List Clo.AV := (Clo.flat Tryz.prog 1000 ty0 Rows.laid_hustings_head_bits).getD []
theorem glob0 : Tryz.prog.globalNamed "hustings/head.bits" = some 6 := by kernel_rfl
theorem type0 : (Tryz.prog.globals[6]?).map (·.type) = some ty0 := by kernel_rfl
theorem flat0 : Clo.flat Tryz.prog 1000 ty0 Rows.laid_hustings_head_bits = some cells0 := by kernel_rfl
theorem some0 : 0 < cells0.length := of_decide_eq_true (by kernel_rfl)
noncomputable def lays : List (Nat × List Clo.AV) := [Clo.errCells, (6, cells0)]

theorem laid_of {W : World} (h : laidMetH Tryz.prog Rows.intakeNamesRow.laid W) : ∀ g cs, (g, cs) ∈ lays → g < 1000 ∧ Clo.LaidAt W g cs := by
  have h' : laidMet Tryz.prog [("hustings/head.bits", Rows.laid_hustings_head_bits)] W ∧ handlesMet Tryz.prog [("errors.errorType", Rows.laid_errors_errorType)] W := h
  have hE : HG W := Clo.hg_of h'.2
  have hP := h'.1
  intro g cs hm
  simp only [lays, List.mem_cons, List.not_mem_nil, or_false] at hm
  rcases hm with hm | hm
  · rw [show g = Clo.errCells.1 from congrArg Prod.fst hm, show cs = Clo.errCells.2 from congrArg Prod.snd hm]
    exact ⟨by decide, Clo.errAt hE⟩
  · cases hm
    exact ⟨by decide, Clo.laid_flat hP (n := "hustings/head.bits") (d := Rows.laid_hustings_head_bits) (by simp) glob0 type0 flat0 some0⟩
/-- a world that meets the condition -/
noncomputable def laidWorld (os : Os) : World := Clo.layWorld (World.holding Tryz.prog os ⟨#[], #[], []⟩) lays
theorem laidWorld_met (os : Os) (args : Array Value) : laidMetH Tryz.prog Rows.intakeNamesRow.laid ((laidWorld os).forCall (fun _ _ => 0) ⟨#[], args, []⟩).memory :=
  laidMetH_of_parts (laidMet_of_run' 1000 (by kernel_rfl) (by kernel_rfl)) (by kernel_rfl)
def args0 : List Clo.AV := [.s 11 59465094267472765955289649]
def val0 : Clo.AV := (Clo.AV.ag [(Clo.AV.i Go.IntKind.u8 (Int.ofNat 1)), (Clo.AV.i Go.IntKind.i64 (Int.ofNat 0)), (Clo.AV.i Go.IntKind.u16 (Int.ofNat 0)), (Clo.AV.b Bool.false), (Clo.AV.i Go.IntKind.u8 (Int.ofNat 0)), (Clo.AV.b Bool.false), (Clo.AV.b Bool.false), (Clo.AV.b Bool.false), (Clo.AV.b Bool.false), (Clo.AV.b Bool.false), (Clo.AV.b Bool.false), (Clo.AV.b Bool.false), (Clo.AV.i Go.IntKind.u8 (Int.ofNat 0)), (Clo.AV.b Bool.false), (Clo.AV.s 0 0), (Clo.AV.i Go.IntKind.u16 (Int.ofNat 0)), (Clo.AV.i Go.IntKind.u16 (Int.ofNat 0)), (Clo.AV.b Bool.false), (Clo.AV.i Go.IntKind.i64 (Int.ofNat 0))])
set_option maxRecDepth 10000000 in
theorem mk0 : (Clo.layK lays .e fun h => Clo.runF Tryz.prog Clo.xErr 1000000 1000 14 args0 h 1000) = .ok val0 := by kernel_rfl
theorem fact0 : Clo.Fact Tryz.prog 14 lays args0 val0 := Clo.fact_of Clo.plain Clo.xErr_ok Clo.mixed mk0 (by kernel_rfl) (by kernel_rfl)
def args1 : List Clo.AV := [.s 12 0]
def val1 : Clo.AV := (Clo.AV.ag [(Clo.AV.i Go.IntKind.u8 (Int.ofNat 2)), (Clo.AV.i Go.IntKind.i64 (Int.ofNat 1)), (Clo.AV.i Go.IntKind.u16 (Int.ofNat 0)), (Clo.AV.b Bool.false), (Clo.AV.i Go.IntKind.u8 (Int.ofNat 0)), (Clo.AV.b Bool.false), (Clo.AV.b Bool.false), (Clo.AV.b Bool.false), (Clo.AV.b Bool.false), (Clo.AV.b Bool.false), (Clo.AV.b Bool.false), (Clo.AV.b Bool.false), (Clo.AV.i Go.IntKind.u8 (Int.ofNat 0)), (Clo.AV.b Bool.false), (Clo.AV.s 0 0), (Clo.AV.i Go.IntKind.u16 (Int.ofNat 0)), (Clo.AV.i Go.IntKind.u16 (Int.ofNat 0)), (Clo.AV.b Bool.false), (Clo.AV.i Go.IntKind.i64 (Int.ofNat 0))])
set_option maxRecDepth 10000000 in
theorem mk1 : (Clo.layK lays .e fun h => Clo.runF Tryz.prog Clo.xErr 1000000 1000 14 args1 h 1000) = .ok val1 := by kernel_rfl
theorem fact1 : Clo.Fact Tryz.prog 14 lays args1 val1 := Clo.fact_of Clo.plain Clo.xErr_ok Clo.mixed mk1 (by kernel_rfl) (by kernel_rfl)
def args2 : List Clo.AV := [.s 12 8388608]
def val2 : Clo.AV := (Clo.AV.ag [(Clo.AV.i Go.IntKind.u8 (Int.ofNat 1)), (Clo.AV.i Go.IntKind.i64 (Int.ofNat 0)), (Clo.AV.i Go.IntKind.u16 (Int.ofNat 0)), (Clo.AV.b Bool.false), (Clo.AV.i Go.IntKind.u8 (Int.ofNat 0)), (Clo.AV.b Bool.false), (Clo.AV.b Bool.false), (Clo.AV.b Bool.false), (Clo.AV.b Bool.false), (Clo.AV.b Bool.false), (Clo.AV.b Bool.false), (Clo.AV.b Bool.false), (Clo.AV.i Go.IntKind.u8 (Int.ofNat 0)), (Clo.AV.b Bool.false), (Clo.AV.s 0 0), (Clo.AV.i Go.IntKind.u16 (Int.ofNat 0)), (Clo.AV.i Go.IntKind.u16 (Int.ofNat 0)), (Clo.AV.b Bool.false), (Clo.AV.i Go.IntKind.i64 (Int.ofNat 0))])
set_option maxRecDepth 10000000 in
theorem mk2 : (Clo.layK lays .e fun h => Clo.runF Tryz.prog Clo.xErr 1000000 1000 14 args2 h 1000) = .ok val2 := by kernel_rfl
theorem fact2 : Clo.Fact Tryz.prog 14 lays args2 val2 := Clo.fact_of Clo.plain Clo.xErr_ok Clo.mixed mk2 (by kernel_rfl) (by kernel_rfl)
def args3 : List Clo.AV := [.s 12 1048576]
def val3 : Clo.AV := (Clo.AV.ag [(Clo.AV.i Go.IntKind.u8 (Int.ofNat 2)), (Clo.AV.i Go.IntKind.i64 (Int.ofNat 4)), (Clo.AV.i Go.IntKind.u16 (Int.ofNat 0)), (Clo.AV.b Bool.false), (Clo.AV.i Go.IntKind.u8 (Int.ofNat 2)), (Clo.AV.b Bool.false), (Clo.AV.b Bool.false), (Clo.AV.b Bool.false), (Clo.AV.b Bool.false), (Clo.AV.b Bool.false), (Clo.AV.b Bool.false), (Clo.AV.b Bool.false), (Clo.AV.i Go.IntKind.u8 (Int.ofNat 0)), (Clo.AV.b Bool.false), (Clo.AV.s 0 0), (Clo.AV.i Go.IntKind.u16 (Int.ofNat 0)), (Clo.AV.i Go.IntKind.u16 (Int.ofNat 0)), (Clo.AV.b Bool.false), (Clo.AV.i Go.IntKind.i64 (Int.ofNat 0))])
set_option maxRecDepth 10000000 in
theorem mk3 : (Clo.layK lays .e fun h => Clo.runF Tryz.prog Clo.xErr 1000000 1000 14 args3 h 1000) = .ok val3 := by kernel_rfl
theorem fact3 : Clo.Fact Tryz.prog 14 lays args3 val3 := Clo.fact_of Clo.plain Clo.xErr_ok Clo.mixed mk3 (by kernel_rfl) (by kernel_rfl)
def args4 : List Clo.AV := [.s 20 5709077883734895589330263664362637596679014144]
def val4 : Clo.AV := (Clo.AV.ag [(Clo.AV.i Go.IntKind.u8 (Int.ofNat 3)), (Clo.AV.i Go.IntKind.i64 (Int.ofNat 0)), (Clo.AV.i Go.IntKind.u16 (Int.ofNat 7)), (Clo.AV.b Bool.false), (Clo.AV.i Go.IntKind.u8 (Int.ofNat 0)), (Clo.AV.b Bool.false), (Clo.AV.b Bool.false), (Clo.AV.b Bool.true), (Clo.AV.b Bool.false), (Clo.AV.b Bool.false), (Clo.AV.b Bool.false), (Clo.AV.b Bool.false), (Clo.AV.i Go.IntKind.u8 (Int.ofNat 0)), (Clo.AV.b Bool.true), (Clo.AV.s 4 7890178), (Clo.AV.i Go.IntKind.u16 (Int.ofNat 1)), (Clo.AV.i Go.IntKind.u16 (Int.ofNat 1)), (Clo.AV.b Bool.false), (Clo.AV.i Go.IntKind.i64 (Int.ofNat 0))])
set_option maxRecDepth 10000000 in
theorem mk4 : (Clo.layK lays .e fun h => Clo.runF Tryz.prog Clo.xErr 1000000 1000 14 args4 h 1000) = .ok val4 := by kernel_rfl
theorem fact4 : Clo.Fact Tryz.prog 14 lays args4 val4 := Clo.fact_of Clo.plain Clo.xErr_ok Clo.mixed mk4 (by kernel_rfl) (by kernel_rfl)
def args5 : List Clo.AV := [.s 20 17127059425382574637796551419958598687740987136]
def val5 : Clo.AV := (Clo.AV.ag [(Clo.AV.i Go.IntKind.u8 (Int.ofNat 2)), (Clo.AV.i Go.IntKind.i64 (Int.ofNat 5)), (Clo.AV.i Go.IntKind.u16 (Int.ofNat 7)), (Clo.AV.b Bool.false), (Clo.AV.i Go.IntKind.u8 (Int.ofNat 0)), (Clo.AV.b Bool.false), (Clo.AV.b Bool.false), (Clo.AV.b Bool.true), (Clo.AV.b Bool.false), (Clo.AV.b Bool.false), (Clo.AV.b Bool.false), (Clo.AV.b Bool.false), (Clo.AV.i Go.IntKind.u8 (Int.ofNat 0)), (Clo.AV.b Bool.true), (Clo.AV.s 4 7890178), (Clo.AV.i Go.IntKind.u16 (Int.ofNat 1)), (Clo.AV.i Go.IntKind.u16 (Int.ofNat 3)), (Clo.AV.b Bool.false), (Clo.AV.i Go.IntKind.i64 (Int.ofNat 0))])
set_option maxRecDepth 10000000 in
theorem mk5 : (Clo.layK lays .e fun h => Clo.runF Tryz.prog Clo.xErr 1000000 1000 14 args5 h 1000) = .ok val5 := by kernel_rfl
theorem fact5 : Clo.Fact Tryz.prog 14 lays args5 val5 := Clo.fact_of Clo.plain Clo.xErr_ok Clo.mixed mk5 (by kernel_rfl) (by kernel_rfl)
def args6 : List Clo.AV := [.s 33 27025791210875323446211386448502647062457674554663468000287520262400]
def val6 : Clo.AV := (Clo.AV.ag [(Clo.AV.i Go.IntKind.u8 (Int.ofNat 1)), (Clo.AV.i Go.IntKind.i64 (Int.ofNat 0)), (Clo.AV.i Go.IntKind.u16 (Int.ofNat 0)), (Clo.AV.b Bool.false), (Clo.AV.i Go.IntKind.u8 (Int.ofNat 0)), (Clo.AV.b Bool.false), (Clo.AV.b Bool.false), (Clo.AV.b Bool.false), (Clo.AV.b Bool.false), (Clo.AV.b Bool.false), (Clo.AV.b Bool.false), (Clo.AV.b Bool.false), (Clo.AV.i Go.IntKind.u8 (Int.ofNat 0)), (Clo.AV.b Bool.false), (Clo.AV.s 0 0), (Clo.AV.i Go.IntKind.u16 (Int.ofNat 0)), (Clo.AV.i Go.IntKind.u16 (Int.ofNat 0)), (Clo.AV.b Bool.false), (Clo.AV.i Go.IntKind.i64 (Int.ofNat 0))])
set_option maxRecDepth 10000000 in
theorem mk6 : (Clo.layK lays .e fun h => Clo.runF Tryz.prog Clo.xErr 1000000 1000 14 args6 h 1000) = .ok val6 := by kernel_rfl
theorem fact6 : Clo.Fact Tryz.prog 14 lays args6 val6 := Clo.fact_of Clo.plain Clo.xErr_ok Clo.mixed mk6 (by kernel_rfl) (by kernel_rfl)
def args7 : List Clo.AV := [.s 33 27025791210875323446211386448502647062457674554663468000287511873792]
def val7 : Clo.AV := (Clo.AV.ag [(Clo.AV.i Go.IntKind.u8 (Int.ofNat 2)), (Clo.AV.i Go.IntKind.i64 (Int.ofNat 4)), (Clo.AV.i Go.IntKind.u16 (Int.ofNat 9)), (Clo.AV.b Bool.false), (Clo.AV.i Go.IntKind.u8 (Int.ofNat 5)), (Clo.AV.b Bool.false), (Clo.AV.b Bool.false), (Clo.AV.b Bool.true), (Clo.AV.b Bool.false), (Clo.AV.b Bool.false), (Clo.AV.b Bool.false), (Clo.AV.b Bool.false), (Clo.AV.i Go.IntKind.u8 (Int.ofNat 0)), (Clo.AV.b Bool.false), (Clo.AV.s 0 0), (Clo.AV.i Go.IntKind.u16 (Int.ofNat 0)), (Clo.AV.i Go.IntKind.u16 (Int.ofNat 0)), (Clo.AV.b Bool.false), (Clo.AV.i Go.IntKind.i64 (Int.ofNat 0))])
set_option maxRecDepth 10000000 in
theorem mk7 : (Clo.layK lays .e fun h => Clo.runF Tryz.prog Clo.xErr 1000000 1000 14 args7 h 1000) = .ok val7 := by kernel_rfl
theorem fact7 : Clo.Fact Tryz.prog 14 lays args7 val7 := Clo.fact_of Clo.plain Clo.xErr_ok Clo.mixed mk7 (by kernel_rfl) (by kernel_rfl)
def args8 : List Clo.AV := [.s 12 309485009821347267750725888]
def val8 : Clo.AV := (Clo.AV.ag [(Clo.AV.i Go.IntKind.u8 (Int.ofNat 2)), (Clo.AV.i Go.IntKind.i64 (Int.ofNat 4)), (Clo.AV.i Go.IntKind.u16 (Int.ofNat 9)), (Clo.AV.b Bool.false), (Clo.AV.i Go.IntKind.u8 (Int.ofNat 5)), (Clo.AV.b Bool.false), (Clo.AV.b Bool.false), (Clo.AV.b Bool.true), (Clo.AV.b Bool.false), (Clo.AV.b Bool.false), (Clo.AV.b Bool.false), (Clo.AV.b Bool.false), (Clo.AV.i Go.IntKind.u8 (Int.ofNat 0)), (Clo.AV.b Bool.false), (Clo.AV.s 0 0), (Clo.AV.i Go.IntKind.u16 (Int.ofNat 0)), (Clo.AV.i Go.IntKind.u16 (Int.ofNat 0)), (Clo.AV.b Bool.false), (Clo.AV.i Go.IntKind.i64 (Int.ofNat 0))])
set_option maxRecDepth 10000000 in
theorem mk8 : (Clo.layK lays .e fun h => Clo.runF Tryz.prog Clo.xErr 1000000 1000 14 args8 h 1000) = .ok val8 := by kernel_rfl
theorem fact8 : Clo.Fact Tryz.prog 14 lays args8 val8 := Clo.fact_of Clo.plain Clo.xErr_ok Clo.mixed mk8 (by kernel_rfl) (by kernel_rfl)
def args9 : List Clo.AV := [.s 11 2199025944832]
def val9 : Clo.AV := (Clo.AV.ag [(Clo.AV.i Go.IntKind.u8 (Int.ofNat 1)), (Clo.AV.i Go.IntKind.i64 (Int.ofNat 0)), (Clo.AV.i Go.IntKind.u16 (Int.ofNat 0)), (Clo.AV.b Bool.false), (Clo.AV.i Go.IntKind.u8 (Int.ofNat 0)), (Clo.AV.b Bool.false), (Clo.AV.b Bool.false), (Clo.AV.b Bool.false), (Clo.AV.b Bool.false), (Clo.AV.b Bool.false), (Clo.AV.b Bool.false), (Clo.AV.b Bool.false), (Clo.AV.i Go.IntKind.u8 (Int.ofNat 0)), (Clo.AV.b Bool.false), (Clo.AV.s 0 0), (Clo.AV.i Go.IntKind.u16 (Int.ofNat 0)), (Clo.AV.i Go.IntKind.u16 (Int.ofNat 0)), (Clo.AV.b Bool.false), (Clo.AV.i Go.IntKind.i64 (Int.ofNat 0))])
set_option maxRecDepth 10000000 in
theorem mk9 : (Clo.layK lays .e fun h => Clo.runF Tryz.prog Clo.xErr 1000000 1000 14 args9 h 1000) = .ok val9 := by kernel_rfl
theorem fact9 : Clo.Fact Tryz.prog 14 lays args9 val9 := Clo.fact_of Clo.plain Clo.xErr_ok Clo.mixed mk9 (by kernel_rfl) (by kernel_rfl)
def args10 : List Clo.AV := [.s 33 27025791210875323446211386448502647062457674554663468000287509252352]
def val10 : Clo.AV := (Clo.AV.ag [(Clo.AV.i Go.IntKind.u8 (Int.ofNat 2)), (Clo.AV.i Go.IntKind.i64 (Int.ofNat 1)), (Clo.AV.i Go.IntKind.u16 (Int.ofNat 9)), (Clo.AV.b Bool.false), (Clo.AV.i Go.IntKind.u8 (Int.ofNat 0)), (Clo.AV.b Bool.false), (Clo.AV.b Bool.false), (Clo.AV.b Bool.true), (Clo.AV.b Bool.false), (Clo.AV.b Bool.false), (Clo.AV.b Bool.false), (Clo.AV.b Bool.false), (Clo.AV.i Go.IntKind.u8 (Int.ofNat 0)), (Clo.AV.b Bool.false), (Clo.AV.s 0 0), (Clo.AV.i Go.IntKind.u16 (Int.ofNat 0)), (Clo.AV.i Go.IntKind.u16 (Int.ofNat 0)), (Clo.AV.b Bool.true), (Clo.AV.i Go.IntKind.i64 (Int.ofNat 4000))])
set_option maxRecDepth 10000000 in
theorem mk10 : (Clo.layK lays .e fun h => Clo.runF Tryz.prog Clo.xErr 1000000 1000 14 args10 h 1000) = .ok val10 := by kernel_rfl
theorem fact10 : Clo.Fact Tryz.prog 14 lays args10 val10 := Clo.fact_of Clo.plain Clo.xErr_ok Clo.mixed mk10 (by kernel_rfl) (by kernel_rfl)
def args11 : List Clo.AV := [.s 28 24579813917512478106755505376035652069567875185148758272]
def val11 : Clo.AV := (Clo.AV.ag [(Clo.AV.i Go.IntKind.u8 (Int.ofNat 2)), (Clo.AV.i Go.IntKind.i64 (Int.ofNat 16)), (Clo.AV.i Go.IntKind.u16 (Int.ofNat 9)), (Clo.AV.b Bool.false), (Clo.AV.i Go.IntKind.u8 (Int.ofNat 0)), (Clo.AV.b Bool.false), (Clo.AV.b Bool.false), (Clo.AV.b Bool.true), (Clo.AV.b Bool.false), (Clo.AV.b Bool.false), (Clo.AV.b Bool.false), (Clo.AV.b Bool.false), (Clo.AV.i Go.IntKind.u8 (Int.ofNat 0)), (Clo.AV.b Bool.true), (Clo.AV.s 1 0), (Clo.AV.i Go.IntKind.u16 (Int.ofNat 255)), (Clo.AV.i Go.IntKind.u16 (Int.ofNat 3)), (Clo.AV.b Bool.true), (Clo.AV.i Go.IntKind.i64 (Int.ofNat 4000))])
set_option maxRecDepth 10000000 in
theorem mk11 : (Clo.layK lays .e fun h => Clo.runF Tryz.prog Clo.xErr 1000000 1000 14 args11 h 1000) = .ok val11 := by kernel_rfl
theorem fact11 : Clo.Fact Tryz.prog 14 lays args11 val11 := Clo.fact_of Clo.plain Clo.xErr_ok Clo.mixed mk11 (by kernel_rfl) (by kernel_rfl)
def args12 : List Clo.AV := [.s 28 24579813917512477424871928132090878925171914253990430976]
def val12 : Clo.AV := (Clo.AV.ag [(Clo.AV.i Go.IntKind.u8 (Int.ofNat 2)), (Clo.AV.i Go.IntKind.i64 (Int.ofNat 16)), (Clo.AV.i Go.IntKind.u16 (Int.ofNat 9)), (Clo.AV.b Bool.false), (Clo.AV.i Go.IntKind.u8 (Int.ofNat 0)), (Clo.AV.b Bool.false), (Clo.AV.b Bool.false), (Clo.AV.b Bool.true), (Clo.AV.b Bool.false), (Clo.AV.b Bool.false), (Clo.AV.b Bool.false), (Clo.AV.b Bool.false), (Clo.AV.i Go.IntKind.u8 (Int.ofNat 0)), (Clo.AV.b Bool.true), (Clo.AV.s 1 0), (Clo.AV.i Go.IntKind.u16 (Int.ofNat 1)), (Clo.AV.i Go.IntKind.u16 (Int.ofNat 1)), (Clo.AV.b Bool.true), (Clo.AV.i Go.IntKind.i64 (Int.ofNat 4000))])
set_option maxRecDepth 10000000 in
theorem mk12 : (Clo.layK lays .e fun h => Clo.runF Tryz.prog Clo.xErr 1000000 1000 14 args12 h 1000) = .ok val12 := by kernel_rfl
theorem fact12 : Clo.Fact Tryz.prog 14 lays args12 val12 := Clo.fact_of Clo.plain Clo.xErr_ok Clo.mixed mk12 (by kernel_rfl) (by kernel_rfl)
def args13 : List Clo.AV := [.s 28 59885263658255691138375697685931987272088299052796160]
def val13 : Clo.AV := (Clo.AV.ag [(Clo.AV.i Go.IntKind.u8 (Int.ofNat 3)), (Clo.AV.i Go.IntKind.i64 (Int.ofNat 0)), (Clo.AV.i Go.IntKind.u16 (Int.ofNat 9)), (Clo.AV.b Bool.false), (Clo.AV.i Go.IntKind.u8 (Int.ofNat 0)), (Clo.AV.b Bool.false), (Clo.AV.b Bool.false), (Clo.AV.b Bool.true), (Clo.AV.b Bool.false), (Clo.AV.b Bool.false), (Clo.AV.b Bool.false), (Clo.AV.b Bool.false), (Clo.AV.i Go.IntKind.u8 (Int.ofNat 0)), (Clo.AV.b Bool.true), (Clo.AV.s 1 0), (Clo.AV.i Go.IntKind.u16 (Int.ofNat 1)), (Clo.AV.i Go.IntKind.u16 (Int.ofNat 1)), (Clo.AV.b Bool.true), (Clo.AV.i Go.IntKind.i64 (Int.ofNat 4000))])
set_option maxRecDepth 10000000 in
theorem mk13 : (Clo.layK lays .e fun h => Clo.runF Tryz.prog Clo.xErr 1000000 1000 14 args13 h 1000) = .ok val13 := by kernel_rfl
theorem fact13 : Clo.Fact Tryz.prog 14 lays args13 val13 := Clo.fact_of Clo.plain Clo.xErr_ok Clo.mixed mk13 (by kernel_rfl) (by kernel_rfl)
def args14 : List Clo.AV := [.s 29 3235193600058076835245305468698046819212155016636855969820732282702080]
def val14 : Clo.AV := (Clo.AV.ag [(Clo.AV.i Go.IntKind.u8 (Int.ofNat 2)), (Clo.AV.i Go.IntKind.i64 (Int.ofNat 1)), (Clo.AV.i Go.IntKind.u16 (Int.ofNat 9)), (Clo.AV.b Bool.false), (Clo.AV.i Go.IntKind.u8 (Int.ofNat 0)), (Clo.AV.b Bool.false), (Clo.AV.b Bool.false), (Clo.AV.b Bool.true), (Clo.AV.b Bool.false), (Clo.AV.b Bool.false), (Clo.AV.b Bool.false), (Clo.AV.b Bool.false), (Clo.AV.i Go.IntKind.u8 (Int.ofNat 0)), (Clo.AV.b Bool.false), (Clo.AV.s 0 0), (Clo.AV.i Go.IntKind.u16 (Int.ofNat 0)), (Clo.AV.i Go.IntKind.u16 (Int.ofNat 0)), (Clo.AV.b Bool.false), (Clo.AV.i Go.IntKind.i64 (Int.ofNat 0))])
set_option maxRecDepth 10000000 in
theorem mk14 : (Clo.layK lays .e fun h => Clo.runF Tryz.prog Clo.xErr 1000000 1000 14 args14 h 1000) = .ok val14 := by kernel_rfl
theorem fact14 : Clo.Fact Tryz.prog 14 lays args14 val14 := Clo.fact_of Clo.plain Clo.xErr_ok Clo.mixed mk14 (by kernel_rfl) (by kernel_rfl)
def args15 : List Clo.AV := [.s 17 340282366920938463463374608531279907072]
def val15 : Clo.AV := (Clo.AV.ag [(Clo.AV.i Go.IntKind.u8 (Int.ofNat 2)), (Clo.AV.i Go.IntKind.i64 (Int.ofNat 5)), (Clo.AV.i Go.IntKind.u16 (Int.ofNat 9)), (Clo.AV.b Bool.false), (Clo.AV.i Go.IntKind.u8 (Int.ofNat 0)), (Clo.AV.b Bool.false), (Clo.AV.b Bool.false), (Clo.AV.b Bool.true), (Clo.AV.b Bool.false), (Clo.AV.b Bool.false), (Clo.AV.b Bool.false), (Clo.AV.b Bool.false), (Clo.AV.i Go.IntKind.u8 (Int.ofNat 0)), (Clo.AV.b Bool.true), (Clo.AV.s 1 0), (Clo.AV.i Go.IntKind.u16 (Int.ofNat 0)), (Clo.AV.i Go.IntKind.u16 (Int.ofNat 1)), (Clo.AV.b Bool.false), (Clo.AV.i Go.IntKind.i64 (Int.ofNat 0))])
set_option maxRecDepth 10000000 in
theorem mk15 : (Clo.layK lays .e fun h => Clo.runF Tryz.prog Clo.xErr 1000000 1000 14 args15 h 1000) = .ok val15 := by kernel_rfl
theorem fact15 : Clo.Fact Tryz.prog 14 lays args15 val15 := Clo.fact_of Clo.plain Clo.xErr_ok Clo.mixed mk15 (by kernel_rfl) (by kernel_rfl)
def args16 : List Clo.AV := [.s 17 340287559217796998291003139027609127168]
def val16 : Clo.AV := (Clo.AV.ag [(Clo.AV.i Go.IntKind.u8 (Int.ofNat 3)), (Clo.AV.i Go.IntKind.i64 (Int.ofNat 0)), (Clo.AV.i Go.IntKind.u16 (Int.ofNat 9)), (Clo.AV.b Bool.false), (Clo.AV.i Go.IntKind.u8 (Int.ofNat 0)), (Clo.AV.b Bool.false), (Clo.AV.b Bool.false), (Clo.AV.b Bool.true), (Clo.AV.b Bool.false), (Clo.AV.b Bool.false), (Clo.AV.b Bool.false), (Clo.AV.b Bool.false), (Clo.AV.i Go.IntKind.u8 (Int.ofNat 0)), (Clo.AV.b Bool.true), (Clo.AV.s 1 0), (Clo.AV.i Go.IntKind.u16 (Int.ofNat 1)), (Clo.AV.i Go.IntKind.u16 (Int.ofNat 1)), (Clo.AV.b Bool.false), (Clo.AV.i Go.IntKind.i64 (Int.ofNat 0))])
set_option maxRecDepth 10000000 in
theorem mk16 : (Clo.layK lays .e fun h => Clo.runF Tryz.prog Clo.xErr 1000000 1000 14 args16 h 1000) = .ok val16 := by kernel_rfl
theorem fact16 : Clo.Fact Tryz.prog 14 lays args16 val16 := Clo.fact_of Clo.plain Clo.xErr_ok Clo.mixed mk16 (by kernel_rfl) (by kernel_rfl)
def args17 : List Clo.AV := [.s 17 340495251092138391396144358880777931008]
def val17 : Clo.AV := (Clo.AV.ag [(Clo.AV.i Go.IntKind.u8 (Int.ofNat 2)), (Clo.AV.i Go.IntKind.i64 (Int.ofNat 5)), (Clo.AV.i Go.IntKind.u16 (Int.ofNat 9)), (Clo.AV.b Bool.false), (Clo.AV.i Go.IntKind.u8 (Int.ofNat 0)), (Clo.AV.b Bool.false), (Clo.AV.b Bool.false), (Clo.AV.b Bool.true), (Clo.AV.b Bool.false), (Clo.AV.b Bool.false), (Clo.AV.b Bool.false), (Clo.AV.b Bool.false), (Clo.AV.i Go.IntKind.u8 (Int.ofNat 0)), (Clo.AV.b Bool.true), (Clo.AV.s 1 0), (Clo.AV.i Go.IntKind.u16 (Int.ofNat 41)), (Clo.AV.i Go.IntKind.u16 (Int.ofNat 1)), (Clo.AV.b Bool.false), (Clo.AV.i Go.IntKind.i64 (Int.ofNat 0))])
set_option maxRecDepth 10000000 in
theorem mk17 : (Clo.layK lays .e fun h => Clo.runF Tryz.prog Clo.xErr 1000000 1000 14 args17 h 1000) = .ok val17 := by kernel_rfl
theorem fact17 : Clo.Fact Tryz.prog 14 lays args17 val17 := Clo.fact_of Clo.plain Clo.xErr_ok Clo.mixed mk17 (by kernel_rfl) (by kernel_rfl)
def args18 : List Clo.AV := [.s 17 341570056541855100715250171620926490880]
def val18 : Clo.AV := (Clo.AV.ag [(Clo.AV.i Go.IntKind.u8 (Int.ofNat 3)), (Clo.AV.i Go.IntKind.i64 (Int.ofNat 0)), (Clo.AV.i Go.IntKind.u16 (Int.ofNat 9)), (Clo.AV.b Bool.false), (Clo.AV.i Go.IntKind.u8 (Int.ofNat 0)), (Clo.AV.b Bool.false), (Clo.AV.b Bool.false), (Clo.AV.b Bool.true), (Clo.AV.b Bool.false), (Clo.AV.b Bool.false), (Clo.AV.b Bool.false), (Clo.AV.b Bool.false), (Clo.AV.i Go.IntKind.u8 (Int.ofNat 0)), (Clo.AV.b Bool.true), (Clo.AV.s 1 0), (Clo.AV.i Go.IntKind.u16 (Int.ofNat 248)), (Clo.AV.i Go.IntKind.u16 (Int.ofNat 1)), (Clo.AV.b Bool.false), (Clo.AV.i Go.IntKind.i64 (Int.ofNat 0))])
set_option maxRecDepth 10000000 in
theorem mk18 : (Clo.layK lays .e fun h => Clo.runF Tryz.prog Clo.xErr 1000000 1000 14 args18 h 1000) = .ok val18 := by kernel_rfl
theorem fact18 : Clo.Fact Tryz.prog 14 lays args18 val18 := Clo.fact_of Clo.plain Clo.xErr_ok Clo.mixed mk18 (by kernel_rfl) (by kernel_rfl)
def args19 : List Clo.AV := [.s 17 341575248838713635542878702117255710976]
def val19 : Clo.AV := (Clo.AV.ag [(Clo.AV.i Go.IntKind.u8 (Int.ofNat 2)), (Clo.AV.i Go.IntKind.i64 (Int.ofNat 5)), (Clo.AV.i Go.IntKind.u16 (Int.ofNat 9)), (Clo.AV.b Bool.false), (Clo.AV.i Go.IntKind.u8 (Int.ofNat 0)), (Clo.AV.b Bool.false), (Clo.AV.b Bool.false), (Clo.AV.b Bool.true), (Clo.AV.b Bool.false), (Clo.AV.b Bool.false), (Clo.AV.b Bool.false), (Clo.AV.b Bool.false), (Clo.AV.i Go.IntKind.u8 (Int.ofNat 0)), (Clo.AV.b Bool.true), (Clo.AV.s 1 0), (Clo.AV.i Go.IntKind.u16 (Int.ofNat 249)), (Clo.AV.i Go.IntKind.u16 (Int.ofNat 1)), (Clo.AV.b Bool.false), (Clo.AV.i Go.IntKind.i64 (Int.ofNat 0))])
set_option maxRecDepth 10000000 in
theorem mk19 : (Clo.layK lays .e fun h => Clo.runF Tryz.prog Clo.xErr 1000000 1000 14 args19 h 1000) = .ok val19 := by kernel_rfl
theorem fact19 : Clo.Fact Tryz.prog 14 lays args19 val19 := Clo.fact_of Clo.plain Clo.xErr_ok Clo.mixed mk19 (by kernel_rfl) (by kernel_rfl)
def args20 : List Clo.AV := [.s 17 341606402619864844508649885095231031552]
def val20 : Clo.AV := (Clo.AV.ag [(Clo.AV.i Go.IntKind.u8 (Int.ofNat 2)), (Clo.AV.i Go.IntKind.i64 (Int.ofNat 5)), (Clo.AV.i Go.IntKind.u16 (Int.ofNat 9)), (Clo.AV.b Bool.false), (Clo.AV.i Go.IntKind.u8 (Int.ofNat 0)), (Clo.AV.b Bool.false), (Clo.AV.b Bool.false), (Clo.AV.b Bool.true), (Clo.AV.b Bool.false), (Clo.AV.b Bool.false), (Clo.AV.b Bool.false), (Clo.AV.b Bool.false), (Clo.AV.i Go.IntKind.u8 (Int.ofNat 0)), (Clo.AV.b Bool.true), (Clo.AV.s 1 0), (Clo.AV.i Go.IntKind.u16 (Int.ofNat 255)), (Clo.AV.i Go.IntKind.u16 (Int.ofNat 1)), (Clo.AV.b Bool.false), (Clo.AV.i Go.IntKind.i64 (Int.ofNat 0))])
set_option maxRecDepth 10000000 in
theorem mk20 : (Clo.layK lays .e fun h => Clo.runF Tryz.prog Clo.xErr 1000000 1000 14 args20 h 1000) = .ok val20 := by kernel_rfl
theorem fact20 : Clo.Fact Tryz.prog 14 lays args20 val20 := Clo.fact_of Clo.plain Clo.xErr_ok Clo.mixed mk20 (by kernel_rfl) (by kernel_rfl)
def args21 : List Clo.AV := [.s 17 340282387203348067115045032478531193088]
def val21 : Clo.AV := (Clo.AV.ag [(Clo.AV.i Go.IntKind.u8 (Int.ofNat 3)), (Clo.AV.i Go.IntKind.i64 (Int.ofNat 0)), (Clo.AV.i Go.IntKind.u16 (Int.ofNat 9)), (Clo.AV.b Bool.false), (Clo.AV.i Go.IntKind.u8 (Int.ofNat 0)), (Clo.AV.b Bool.false), (Clo.AV.b Bool.false), (Clo.AV.b Bool.true), (Clo.AV.b Bool.false), (Clo.AV.b Bool.false), (Clo.AV.b Bool.false), (Clo.AV.b Bool.false), (Clo.AV.i Go.IntKind.u8 (Int.ofNat 0)), (Clo.AV.b Bool.true), (Clo.AV.s 1 0), (Clo.AV.i Go.IntKind.u16 (Int.ofNat 256)), (Clo.AV.i Go.IntKind.u16 (Int.ofNat 1)), (Clo.AV.b Bool.false), (Clo.AV.i Go.IntKind.i64 (Int.ofNat 0))])
set_option maxRecDepth 10000000 in
theorem mk21 : (Clo.layK lays .e fun h => Clo.runF Tryz.prog Clo.xErr 1000000 1000 14 args21 h 1000) = .ok val21 := by kernel_rfl
theorem fact21 : Clo.Fact Tryz.prog 14 lays args21 val21 := Clo.fact_of Clo.plain Clo.xErr_ok Clo.mixed mk21 (by kernel_rfl) (by kernel_rfl)
def args22 : List Clo.AV := [.s 17 1020852293059673925217752353891145550080]
def val22 : Clo.AV := (Clo.AV.ag [(Clo.AV.i Go.IntKind.u8 (Int.ofNat 2)), (Clo.AV.i Go.IntKind.i64 (Int.ofNat 5)), (Clo.AV.i Go.IntKind.u16 (Int.ofNat 9)), (Clo.AV.b Bool.false), (Clo.AV.i Go.IntKind.u8 (Int.ofNat 0)), (Clo.AV.b Bool.false), (Clo.AV.b Bool.false), (Clo.AV.b Bool.true), (Clo.AV.b Bool.false), (Clo.AV.b Bool.false), (Clo.AV.b Bool.false), (Clo.AV.b Bool.false), (Clo.AV.i Go.IntKind.u8 (Int.ofNat 0)), (Clo.AV.b Bool.true), (Clo.AV.s 1 0), (Clo.AV.i Go.IntKind.u16 (Int.ofNat 1)), (Clo.AV.i Go.IntKind.u16 (Int.ofNat 3)), (Clo.AV.b Bool.false), (Clo.AV.i Go.IntKind.i64 (Int.ofNat 0))])
set_option maxRecDepth 10000000 in
theorem mk22 : (Clo.layK lays .e fun h => Clo.runF Tryz.prog Clo.xErr 1000000 1000 14 args22 h 1000) = .ok val22 := by kernel_rfl
theorem fact22 : Clo.Fact Tryz.prog 14 lays args22 val22 := Clo.fact_of Clo.plain Clo.xErr_ok Clo.mixed mk22 (by kernel_rfl) (by kernel_rfl)
def args23 : List Clo.AV := [.s 17 86772008757136166717988153426696734836992]
def val23 : Clo.AV := (Clo.AV.ag [(Clo.AV.i Go.IntKind.u8 (Int.ofNat 2)), (Clo.AV.i Go.IntKind.i64 (Int.ofNat 5)), (Clo.AV.i Go.IntKind.u16 (Int.ofNat 9)), (Clo.AV.b Bool.false), (Clo.AV.i Go.IntKind.u8 (Int.ofNat 0)), (Clo.AV.b Bool.false), (Clo.AV.b Bool.false), (Clo.AV.b Bool.true), (Clo.AV.b Bool.false), (Clo.AV.b Bool.false), (Clo.AV.b Bool.false), (Clo.AV.b Bool.false), (Clo.AV.i Go.IntKind.u8 (Int.ofNat 0)), (Clo.AV.b Bool.true), (Clo.AV.s 1 0), (Clo.AV.i Go.IntKind.u16 (Int.ofNat 1)), (Clo.AV.i Go.IntKind.u16 (Int.ofNat 255)), (Clo.AV.b Bool.false), (Clo.AV.i Go.IntKind.i64 (Int.ofNat 0))])
set_option maxRecDepth 10000000 in
theorem mk23 : (Clo.layK lays .e fun h => Clo.runF Tryz.prog Clo.xErr 1000000 1000 14 args23 h 1000) = .ok val23 := by kernel_rfl
theorem fact23 : Clo.Fact Tryz.prog 14 lays args23 val23 := Clo.fact_of Clo.plain Clo.xErr_ok Clo.mixed mk23 (by kernel_rfl) (by kernel_rfl)
def args24 : List Clo.AV := [.s 0 0]
def val24 : Clo.AV := (Clo.AV.ag [(Clo.AV.i Go.IntKind.u8 (Int.ofNat 1)), (Clo.AV.i Go.IntKind.i64 (Int.ofNat 0)), (Clo.AV.i Go.IntKind.u16 (Int.ofNat 0)), (Clo.AV.b Bool.false), (Clo.AV.i Go.IntKind.u8 (Int.ofNat 0)), (Clo.AV.b Bool.false), (Clo.AV.b Bool.false), (Clo.AV.b Bool.false), (Clo.AV.b Bool.false), (Clo.AV.b Bool.false), (Clo.AV.b Bool.false), (Clo.AV.b Bool.false), (Clo.AV.i Go.IntKind.u8 (Int.ofNat 0)), (Clo.AV.b Bool.false), (Clo.AV.s 0 0), (Clo.AV.i Go.IntKind.u16 (Int.ofNat 0)), (Clo.AV.i Go.IntKind.u16 (Int.ofNat 0)), (Clo.AV.b Bool.false), (Clo.AV.i Go.IntKind.i64 (Int.ofNat 0))])
set_option maxRecDepth 10000000 in
theorem mk24 : (Clo.layK lays .e fun h => Clo.runF Tryz.prog Clo.xErr 1000000 1000 14 args24 h 1000) = .ok val24 := by kernel_rfl
theorem fact24 : Clo.Fact Tryz.prog 14 lays args24 val24 := Clo.fact_of Clo.plain Clo.xErr_ok Clo.mixed mk24 (by kernel_rfl) (by kernel_rfl)
def tab : List (List Clo.AV × Clo.AV) := [(args0, val0), (args1, val1), (args2, val2), (args3, val3), (args4, val4), (args5, val5), (args6, val6), (args7, val7), (args8, val8), (args9, val9), (args10, val10), (args11, val11), (args12, val12), (args13, val13), (args14, val14), (args15, val15), (args16, val16), (args17, val17), (args18, val18), (args19, val19), (args20, val20), (args21, val21), (args22, val22), (args23, val23), (args24, val24)]
noncomputable def xMemo : Clo.XT := Clo.addB Clo.xErr 14 (Clo.memoH lays tab)
theorem xMemo_ok : Clo.XOK Tryz.prog xMemo := Clo.addB_ok Clo.xErr_ok (Clo.memo_ok (Clo.low_of (by kernel_rfl)) (Clo.facts_mem (show Clo.Facts _ _ _ tab from ⟨fact0, fact1, fact2, fact3, fact4, fact5, fact6, fact7, fact8, fact9, fact10, fact11, fact12, fact13, fact14, fact15, fact16, fact17, fact18, fact19, fact20, fact21, fact22, fact23, fact24, trivial⟩)))
set_option maxRecDepth 10000000 in
theorem runs : (Clo.layK lays .e fun h => Clo.runF Tryz.prog xMemo 1000000 1000 4 [] h 1000) = .ok (.b true) := by kernel_rfl
theorem walk (w : World) (hL : ∀ g cs, (g, cs) ∈ lays → g < 1000 ∧ Clo.LaidAt w g cs) :
    Calls Tryz.prog 4 #[] w fun e w' => e = .returned (.bool true) ∧ Below w.heap.size w w' :=
  Clo.calls_laid Clo.plain xMemo_ok Clo.mixed Tryz.func4 rfl runs hL

set_option maxRecDepth 100000 in
theorem lifted (os : Os) (started : os.Started) (H : Type) (enc : TypeId × Value → H) :
    ReturnsInHanded {} Tryz.checked os 4 .any (fun w args => (Rows.intakeNamesSpec.pre enc Tryz.prog Tryz.f4 [] false w args ∧ laidMetH Tryz.prog Rows.intakeNamesRow.laid w) ∧ sizedMet enc Tryz.prog Tryz.f4 (OpenSpec.ofChange Rows.intakeNamesSpec) false w args) (Rows.intakeNamesSpec.post enc Tryz.prog Tryz.f4 false true false false) := by
  refine returnsInHanded_of_change_and (C := Tryz.checked) (X := fun w _ => laidMetH Tryz.prog Rows.intakeNamesRow.laid w) (fun _ _ _ hh h => h.of_heap hh) own started (by kernel_rfl) Tryz.func4
    (ChangeSpec.witness_at (enc := enc) (C := Tryz.checked) (os := os) (X := fun w _ => laidMetH Tryz.prog Rows.intakeNamesRow.laid w) false (laidWorld os) #[] 8 rfl (by kernel_rfl) (by kernel_rfl) (by kernel_rfl) (by kernel_rfl) (by kernel_rfl) (laidWorld_met os _)) ?_
  intro W base args ds gs before hval0 hW _ _ hLaid _
  have hW' := hW
  obtain ⟨p, q, hA0, hV, rfl, hfz, hnd⟩ := hW
  have hA : DataW.TrodAll enc Tryz.prog W 0 (fun _ => true) true Tryz.f4.params.toList args.toList ds p := hA0
  rw [Tryz.params4] at hA
  obtain ⟨hargs, rfl, rfl⟩ := trodAll_nil hA
  obtain rfl : args = #[] := by cases args; simp_all
  obtain ⟨rfl, rfl⟩ := trodVars_none hV
  clear hA0 hval0
  refine (walk W (laid_of hLaid)).mono fun e W' ⟨he, bel⟩ => ?_
  subst he
  exact ⟨_, rfl, _, _, _, [], _, [], hW', trodAll_mk1 (shut_bool Tryz.underlying4 _), trodAll_mk0, rfl, bel.frame _, fun h => by cases h⟩

theorem over : Rows.intakeNamesRow.holds Tryz.pinned (OpenSpec.ofChange Rows.intakeNamesSpec) :=
  OpenClaim.holds_of_wide 4 Tryz.f4 rfl rfl rfl rfl rfl rfl rfl ⟨rfl, rfl, rfl, rfl, rfl⟩ rfl rfl rfl rfl rfl (by kernel_rfl) Tryz.func4 (by kernel_rfl)
    (of_decide_eq_true (by kernel_rfl)) (by unfold Func.isWrapper; first | (rw [if_pos (by decide +kernel)]; kernel_rfl) | (rw [if_neg (by decide +kernel)]; exact ⟨rfl, rfl⟩))
    (fun os started H enc _ => lifted os started H enc)

theorem plainly (f : FuncId) (fn : Func) (hf : Tryz.pinned.checked.prog.funcNamed "hustings/hustingslaw25.IntakeNames" = some f) (hfn : Tryz.pinned.checked.prog.funcs[f]? = some fn) :
    true = Tryz.pinned.checked.prog.looks [] ∧ ∀ (j : Nat) t, fn.params[j]? = some t → Tryz.pinned.checked.prog.wantsStandIn t = false := by
  obtain rfl : f = 4 := Option.some.inj ((show Tryz.prog.funcNamed "hustings/hustingslaw25.IntakeNames" = some 4 by kernel_rfl).symm.trans hf) |>.symm
  obtain rfl : fn = Tryz.f4 := (Option.some.inj (Tryz.func4.symm.trans hfn)).symm
  refine ⟨by kernel_rfl, fun j t ht => ?_⟩
  rw [Tryz.params4] at ht
  simp at ht

/-- the card -/
theorem proved : Rows.IntakeNamesCardSaid :=
  Claim7.holds_tied_plain_at .later [] _ _ _ _ over (fun _ h => by cases h) (by kernel_rfl) (fun _ h => by cases h) intakeNames_row_tie rfl ⟨rfl, rfl⟩ (by kernel_rfl) rfl plainly (by kernel_rfl)
#print axioms proved
end Go.Proofs.YtodbppopnfabeaaGreatDoor.intakeNames
