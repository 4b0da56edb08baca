/-
  SipPlays: what its run begins with.
-/
import Derived.Test.YtdhhocmdolnfiaaDoorCluze
import Derived.Test.YtdhhocmdolnfiaaDoorCluO1
import Derived.Test.YtdhhocmdolnfiaaDoorCluG1
import Derived.Test.YtdhhocmdolnfiaaDoorCards
import Derived.Test.YtdhhocmdolnfiaaDoorTie
import Derived.WalkKit
import Derived.ProofKit
import Derived.OpenShut
import Derived.ShutString
import Derived.ChangeOld
import Derived.Below
import Derived.SliceStrings
import Derived.ChangeSame
import Derived.ChangeVars
import Derived.JoinedOf
import Derived.RowKit
import Derived.RowKitTokens
import Derived.LaidLaws
import Derived.LaidHandle
import Derived.Stop.Joined
import Derived.SevenTiedAt
namespace Go.Proofs.YtdhhocmdolnfiaaDoor.sipPlays
open Go.ChangeShapes Go.WideShapes Go.ChangeAt Go.RowKit
open Go.ChangeMaps (open_string shut_string)
set_option linter.unusedVariables false

theorem own : ownKnob Tryd.prog.godebug = none := by kernel_rfl
theorem laidOut : laidOutB Tryd.prog = true := by kernel_rfl

noncomputable def ty0 : TypeId := ((Tryd.prog.globals[0]?).map (·.type)).getD 0
noncomputable def cells0 : List Clu.AV := (Clu.flat Tryd.prog 1000 ty0 Rows.laid_hustings_sip_masks).getD []
theorem glob0 : Tryd.prog.globalNamed "hustings/sip.masks" = some 0 := by kernel_rfl
theorem type0 : (Tryd.prog.globals[0]?).map (·.type) = some ty0 := by kernel_rfl
theorem flat0 : Clu.flat Tryd.prog 1000 ty0 Rows.laid_hustings_sip_masks = some cells0 := by kernel_rfl
theorem some0 : 0 < cells0.length := of_decide_eq_true (by kernel_rfl)
noncomputable def lays : List (Nat × List Clu.AV) := [(0, cells0)]

theorem laid_of {W : World} (h : laidMetH Tryd.prog Rows.sipPlaysRow.laid W) : ∀ g cs, (g, cs) ∈ lays → g < 1000 ∧ Clu.LaidAt W g cs := by
  have hP : laidMet Tryd.prog [("hustings/sip.masks", Rows.laid_hustings_sip_masks)] W := h
  intro g cs hm
  simp only [lays, List.mem_cons, List.not_mem_nil, or_false] at hm
  rcases hm with hm
  · cases hm
    exact ⟨by decide, Clu.laid_flat hP (n := "hustings/sip.masks") (d := Rows.laid_hustings_sip_masks) (by simp) glob0 type0 flat0 some0⟩
/-- a world that meets the condition -/
noncomputable def laidWorld (os : Os) : World := Clu.layWorld (World.holding Tryd.prog os ⟨#[], #[], []⟩) lays
theorem laidWorld_met (os : Os) (args : Array Value) : laidMetH Tryd.prog Rows.sipPlaysRow.laid ((laidWorld os).forCall (fun _ _ => 0) ⟨#[], args, []⟩).memory :=
  laidMetH_of_parts (laidMet_of_run' 1000 (by kernel_rfl) (by kernel_rfl)) (by kernel_rfl)
set_option maxRecDepth 10000000 in
theorem runsA : (Clu.layK lays .e fun h => Clu.runF Tryd.prog Clu.noX 1000000 1000 10 [] h 1000) = .ok (.b true) := by kernel_rfl
theorem factA : Clu.Fact Tryd.prog 10 lays [] (.b true) := Clu.fact_of Clu.plain Clu.noX_ok Clu.mixed runsA (by kernel_rfl) (by kernel_rfl)
def tabA : List (List Clu.AV × Clu.AV) := [([], .b true)]
noncomputable def X : Clu.XT := Clu.addB Clu.noX 10 (Clu.memoH lays tabA)
theorem X_ok : Clu.XOK Tryd.prog X := Clu.addB_ok Clu.noX_ok (Clu.memo_ok (Clu.low_of (by kernel_rfl)) (Clu.facts_mem (show Clu.Facts _ _ _ tabA from ⟨factA, trivial⟩)))
end Go.Proofs.YtdhhocmdolnfiaaDoor.sipPlays
