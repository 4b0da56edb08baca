import Derived.Test.YtdhhocmdolnfiaaDoorHit
namespace Go.Proofs.YtdhhocmdolnfiaaDoor
open Go.RowKit
set_option linter.unusedVariables false

set_option maxHeartbeats 400000 in
theorem errno_nil (w : World) :
    Calls Tryd.prog 48 #[.nilIface] w fun e w' => e = .returned (.int .i64 0) ∧ w.grownBy w' none := by
  go_enter Tryd.func48, Tryd.ntmps48
  go_wp2_with ((with_reducible refine (as_nil _ _).mono ?_); rintro e w' ⟨rfl, rfl⟩)
  go_ret
  exact ⟨rfl, World.grownBy_alloc _ _ _⟩

set_option maxHeartbeats 1000000 in
theorem errno_fail (n : Int) (w : World) (hg : HG w) :
    Calls Tryd.prog 48 #[.iface 97 (.agg #[.int .i64 n])] w fun e w' => e = .returned (.int .i64 n) ∧ w.grownBy w' none := by
  have hgA : HG (w.alloc (.cells #[.int .i64 0] 97)) := hg.grown (World.grownBy_alloc w _ none) (by simp)
  have HA := Lib.hid hgA
  clear hgA hg
  go_enter Tryd.func48, Tryd.ntmps48
  go_wp2_with fail
  refine (as_hit n w.heap.size (.int .i64 0) _ HA.out (by simp) (by simp)).mono ?_
  rintro e w' ⟨rfl, rfl⟩
  go_wp2
  go_ret
  exact ⟨rfl, grown_trans (grown_trans (grown_trans (grown_trans (World.grownBy_alloc _ _ _) (World.grownBy_alloc _ _ _)) (World.grownBy_alloc _ _ _)) (World.grownBy_alloc _ _ _)) (World.grownBy_alloc _ _ _)⟩
end Go.Proofs.YtdhhocmdolnfiaaDoor
