/-
  Sip: what stands for Write's rounds.
-/
import Derived.Test.YtdhhocmdolnfiaaDoorSipM
namespace Go.Proofs.YtdhhocmdolnfiaaDoor
open Go.RowKit
set_option linter.unusedVariables false
/-- what stands for Write's rounds -/
def FLoop (G : S13 → Nat → Nat → S13) (vs : List Clu.AV) (bl : List (Nat × Clu.Blk)) (nx : Nat) : Option (List Clu.AV × List (Nat × Clu.Blk) × Nat) := match vs, bl with
  | [p0, .s n N, z, p1, .i .i64 (.ofNat n1), i0], [(ida, .c [.i .u64 (.ofNat k0), .i .u64 (.ofNat k1), .i .u64 (.ofNat k2), .i .u64 (.ofNat k3), .i .u8 (.ofNat l0), .i .u8 (.ofNat l1), .i .u8 (.ofNat l2), .i .u8 (.ofNat l3), .i .u8 (.ofNat l4), .i .u8 (.ofNat l5), .i .u8 (.ofNat l6), .i .u8 (.ofNat l7), .i .i64 (.ofNat m)] fa oa pa), (idb, .c [.i .u64 (.ofNat v0), .i .u64 (.ofNat v1), .i .u64 (.ofNat v2), .i .u64 (.ofNat v3)] fb ob pb)] =>
    some ([p0, .s n N, z, p1, .i .i64 (.ofNat n1), .i .i64 (.ofNat n1)], [(ida, .c ((G ⟨v0, v1, v2, v3, l0, l1, l2, l3, l4, l5, l6, l7, m⟩ n N).hc k0 k1 k2 k3) fa oa pa), (idb, .c (G ⟨v0, v1, v2, v3, l0, l1, l2, l3, l4, l5, l6, l7, m⟩ n N).vc fb ob pb)], nx)
  | _, _ => none
noncomputable def wrL (G : S13 → Nat → Nat → S13) : Code → Option Clu.LT := Clu.addL Clu.noL (Clu.loopNo Tryd.f15 0) 5 (Clu.loopQ Tryd.prog (Clu.loopNo Tryd.f15 0) 2 [0, 1, 4, 5, 15, 16] [8, 17, 43] [0, 1, 4, 5, 15, 16] [0] [1000, 1003] (FLoop G))
theorem wrL_ok (G : S13 → Nat → Nat → S13) : Clu.LOK Tryd.prog (wrL G) := Clu.addL_ok Clu.noL_ok Clu.loopQ_ok
end Go.Proofs.YtdhhocmdolnfiaaDoor
