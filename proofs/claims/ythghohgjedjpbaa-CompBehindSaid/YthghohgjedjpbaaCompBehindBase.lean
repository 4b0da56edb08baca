/-
  CompBehind: what its run begins with.
-/
import Derived.Test.YthghohgjedjpbaaCluze
import Derived.Test.YthghohgjedjpbaaCluT1
import Derived.WalkKit
import Derived.ProofKit
import Derived.OpenShut
import Derived.ShutString
import Derived.ChangeOld
import Derived.Below
import Derived.SliceStrings
import Derived.ChangeSame
import Derived.ChangeVars
import Derived.JoinedOf
import Derived.RowKit
import Derived.RowKitTokens
import Derived.LaidLaws
import Derived.LaidHandle
import Derived.Stop.Joined
import Derived.SevenTiedAt
namespace Go.Proofs.Ythghohgjedjpbaa.compBehind
open Go.ChangeShapes Go.WideShapes Go.ChangeAt Go.RowKit
open Go.ChangeMaps (open_string shut_string)
set_option linter.unusedVariables false

theorem own : ownKnob Try.prog.godebug = none := by kernel_rfl
theorem laidOut : laidOutB Try.prog = true := by kernel_rfl

noncomputable def lays : List (Nat × List Clu.AV) := []

noncomputable def X : Clu.XT := Clu.noX
theorem X_ok : Clu.XOK Try.prog X := Clu.noX_ok
end Go.Proofs.Ythghohgjedjpbaa.compBehind
