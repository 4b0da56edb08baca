/-
  IntakeTells: what its run begins with.
-/
import Derived.Test.YtgmkjmbfknhanaaGreatDoorCluze
import Derived.Test.YtgmkjmbfknhanaaGreatDoorCluO1
import Derived.Test.YtgmkjmbfknhanaaGreatDoorCluErr
import Derived.Test.YtgmkjmbfknhanaaGreatDoorCards
import Derived.Test.YtgmkjmbfknhanaaGreatDoorTie
import Derived.WalkKit
import Derived.ProofKit
import Derived.OpenShut
import Derived.ShutString
import Derived.ChangeOld
import Derived.Below
import Derived.SliceStrings
import Derived.ChangeSame
import Derived.ChangeVars
import Derived.JoinedOf
import Derived.RowKit
import Derived.RowKitTokens
import Derived.LaidLaws
import Derived.LaidHandle
import Derived.Stop.Joined
import Derived.SevenTiedAt
namespace Go.Proofs.YtgmkjmbfknhanaaGreatDoor.intakeTells
open Go.ChangeShapes Go.WideShapes Go.ChangeAt Go.RowKit
open Go.ChangeMaps (open_string shut_string)
set_option linter.unusedVariables false

theorem own : ownKnob Tryz.prog.godebug = none := by kernel_rfl
theorem laidOut : laidOutB Tryz.prog = true := by kernel_rfl

noncomputable def ty0 : TypeId := ((Tryz.prog.globals[0]?).map (·.type)).getD 0
noncomputable def cells0 : List Clu.AV := (Clu.flat Tryz.prog 1000 ty0 Rows.laid_hustings_head_bits).getD []
theorem glob0 : Tryz.prog.globalNamed "hustings/head.bits" = some 0 := by kernel_rfl
theorem type0 : (Tryz.prog.globals[0]?).map (·.type) = some ty0 := by kernel_rfl
theorem flat0 : Clu.flat Tryz.prog 1000 ty0 Rows.laid_hustings_head_bits = some cells0 := by kernel_rfl
theorem some0 : 0 < cells0.length := of_decide_eq_true (by kernel_rfl)
noncomputable def lays : List (Nat × List Clu.AV) := [Clu.errCells, (0, cells0)]

theorem laid_of {W : World} (h : laidMetH Tryz.prog Rows.intakeTellsRow.laid W) : ∀ g cs, (g, cs) ∈ lays → g < 1000 ∧ Clu.LaidAt W g cs := by
  have h' : laidMet Tryz.prog [("hustings/head.bits", Rows.laid_hustings_head_bits)] W ∧ handlesMet Tryz.prog [("errors.errorType", Rows.laid_errors_errorType)] W := h
  have hE : HG W := Clu.hg_of h'.2
  have hP := h'.1
  intro g cs hm
  simp only [lays, List.mem_cons, List.not_mem_nil, or_false] at hm
  rcases hm with hm | hm
  · rw [show g = Clu.errCells.1 from congrArg Prod.fst hm, show cs = Clu.errCells.2 from congrArg Prod.snd hm]
    exact ⟨by decide, Clu.errAt hE⟩
  · cases hm
    exact ⟨by decide, Clu.laid_flat hP (n := "hustings/head.bits") (d := Rows.laid_hustings_head_bits) (by simp) glob0 type0 flat0 some0⟩
/-- a world that meets the condition -/
noncomputable def laidWorld (os : Os) : World := Clu.layWorld (World.holding Tryz.prog os ⟨#[], #[], []⟩) lays
theorem laidWorld_met (os : Os) (args : Array Value) : laidMetH Tryz.prog Rows.intakeTellsRow.laid ((laidWorld os).forCall (fun _ _ => 0) ⟨#[], args, []⟩).memory :=
  laidMetH_of_parts (laidMet_of_run' 1000 (by kernel_rfl) (by kernel_rfl)) (by kernel_rfl)
set_option maxRecDepth 10000000 in
theorem runsA : (Clu.layK lays .e fun h => Clu.runF Tryz.prog Clu.xErr 1000000 1000 4 [] h 1000) = .ok (.b true) := by kernel_rfl
theorem factA : Clu.Fact Tryz.prog 4 lays [] (.b true) := Clu.fact_of Clu.plain Clu.xErr_ok Clu.mixed runsA (by kernel_rfl) (by kernel_rfl)
def tabA : List (List Clu.AV × Clu.AV) := [([], .b true)]
noncomputable def X : Clu.XT := Clu.addB Clu.xErr 4 (Clu.memoH lays tabA)
theorem X_ok : Clu.XOK Tryz.prog X := Clu.addB_ok Clu.xErr_ok (Clu.memo_ok (Clu.low_of (by kernel_rfl)) (Clu.facts_mem (show Clu.Facts _ _ _ tabA from ⟨factA, trivial⟩)))
end Go.Proofs.YtgmkjmbfknhanaaGreatDoor.intakeTells
