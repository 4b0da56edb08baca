/-
  CursorPuts: what its run begins with.
-/
import Derived.Test.YtdhhocmdolnfiaaDoorCluze
import Derived.Test.YtdhhocmdolnfiaaDoorCluO1
import Derived.Test.YtdhhocmdolnfiaaDoorCluG1
import Derived.Test.YtdhhocmdolnfiaaDoorCluErr
import Derived.Test.YtdhhocmdolnfiaaDoorCards
import Derived.Test.YtdhhocmdolnfiaaDoorTie
import Derived.WalkKit
import Derived.ProofKit
import Derived.OpenShut
import Derived.ShutString
import Derived.ChangeOld
import Derived.Below
import Derived.SliceStrings
import Derived.ChangeSame
import Derived.ChangeVars
import Derived.JoinedOf
import Derived.RowKit
import Derived.RowKitTokens
import Derived.LaidLaws
import Derived.LaidHandle
import Derived.Stop.Joined
import Derived.SevenTiedAt
namespace Go.Proofs.YtdhhocmdolnfiaaDoor.cursorPuts
open Go.ChangeShapes Go.WideShapes Go.ChangeAt Go.RowKit
open Go.ChangeMaps (open_string shut_string)
set_option linter.unusedVariables false

theorem own : ownKnob Tryd.prog.godebug = none := by kernel_rfl
theorem laidOut : laidOutB Tryd.prog = true := by kernel_rfl

noncomputable def lays : List (Nat × List Clu.AV) := [Clu.errCells]

theorem laid_of {W : World} (h : laidMetH Tryd.prog Rows.cursorPutsRow.laid W) : ∀ g cs, (g, cs) ∈ lays → g < 1000 ∧ Clu.LaidAt W g cs := by
  have h' : laidMet Tryd.prog [] W ∧ handlesMet Tryd.prog [("errors.errorType", Rows.laid_errors_errorType)] W := h
  have hE : HG W := Clu.hg_of h'.2
  have hP := h'.1
  intro g cs hm
  simp only [lays, List.mem_cons, List.not_mem_nil, or_false] at hm
  rcases hm with hm
  · rw [show g = Clu.errCells.1 from congrArg Prod.fst hm, show cs = Clu.errCells.2 from congrArg Prod.snd hm]
    exact ⟨by decide, Clu.errAt hE⟩
/-- a world that meets the condition -/
noncomputable def laidWorld (os : Os) : World := Clu.layWorld (World.holding Tryd.prog os ⟨#[], #[], []⟩) lays
theorem laidWorld_met (os : Os) (args : Array Value) : laidMetH Tryd.prog Rows.cursorPutsRow.laid ((laidWorld os).forCall (fun _ _ => 0) ⟨#[], args, []⟩).memory :=
  laidMetH_of_parts (laidMet_of_run' 1000 (by kernel_rfl) (by kernel_rfl)) (by kernel_rfl)
set_option maxRecDepth 10000000 in
theorem runsA : (Clu.layK lays .e fun h => Clu.runF Tryd.prog Clu.xErr 1000000 1000 19 [] h 1000) = .ok (.b true) := by kernel_rfl
theorem factA : Clu.Fact Tryd.prog 19 lays [] (.b true) := Clu.fact_of Clu.plain Clu.xErr_ok Clu.mixed runsA (by kernel_rfl) (by kernel_rfl)
def tabA : List (List Clu.AV × Clu.AV) := [([], .b true)]
noncomputable def X : Clu.XT := Clu.addB Clu.xErr 19 (Clu.memoH lays tabA)
theorem X_ok : Clu.XOK Tryd.prog X := Clu.addB_ok Clu.xErr_ok (Clu.memo_ok (Clu.low_of (by kernel_rfl)) (Clu.facts_mem (show Clu.Facts _ _ _ tabA from ⟨factA, trivial⟩)))
end Go.Proofs.YtdhhocmdolnfiaaDoor.cursorPuts
