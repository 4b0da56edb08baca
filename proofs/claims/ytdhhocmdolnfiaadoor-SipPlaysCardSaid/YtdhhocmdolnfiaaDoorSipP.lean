/-
  Sip: what stands for its functions.
-/
import Derived.Test.YtdhhocmdolnfiaaDoorCluF3
import Derived.Test.YtdhhocmdolnfiaaDoorCluze
import Derived.Test.YtdhhocmdolnfiaaDoorCluN1
namespace Go.Proofs.YtdhhocmdolnfiaaDoor
open Go.RowKit
/-- what stands for half a round: the sum, the mixed number, by how many bits -/
def FHalf (s x13 x16 x21 x17 : Nat → Nat → Nat) : List Clu.AV → Option Clu.AV
  | [.i .u64 (.ofNat a), .i .u64 (.ofNat b), .i .i64 (.ofNat 13)] => some (.tu [.i .u64 (.ofNat (s a b)), .i .u64 (.ofNat (x13 a b))])
  | [.i .u64 (.ofNat a), .i .u64 (.ofNat b), .i .i64 (.ofNat 16)] => some (.tu [.i .u64 (.ofNat (s a b)), .i .u64 (.ofNat (x16 a b))])
  | [.i .u64 (.ofNat a), .i .u64 (.ofNat b), .i .i64 (.ofNat 21)] => some (.tu [.i .u64 (.ofNat (s a b)), .i .u64 (.ofNat (x21 a b))])
  | [.i .u64 (.ofNat a), .i .u64 (.ofNat b), .i .i64 (.ofNat 17)] => some (.tu [.i .u64 (.ofNat (s a b)), .i .u64 (.ofNat (x17 a b))])
  | _ => none
def FRot (r32 : Nat → Nat) : List Clu.AV → Option Clu.AV
  | [.i .u64 (.ofNat a), .i .i64 (.ofNat 32)] => some (.i .u64 (.ofNat (r32 a)))
  | _ => none
noncomputable def sipX1 (s x13 x16 x21 x17 : Nat → Nat → Nat) (r32 : Nat → Nat) : Clu.XT := Clu.addB (Clu.addB Clu.noX 44 (Clu.funH (FHalf s x13 x16 x21 x17))) 45 (Clu.funH (FRot r32))
/-- what stands for a round -/
def FRound (r0 r1 r2 r3 : Nat → Nat → Nat → Nat → Nat) (cs rest : List Clu.AV) : Option (Clu.AV × List Clu.AV) := match cs, rest with
  | [.i .u64 (.ofNat a), .i .u64 (.ofNat b), .i .u64 (.ofNat c), .i .u64 (.ofNat d)], [] => some (.tu [], [.i .u64 (.ofNat (r0 a b c d)), .i .u64 (.ofNat (r1 a b c d)), .i .u64 (.ofNat (r2 a b c d)), .i .u64 (.ofNat (r3 a b c d))])
  | _, _ => none
noncomputable def sipX2 (r0 r1 r2 r3 : Nat → Nat → Nat → Nat → Nat) : Clu.XT := Clu.addB Clu.noX 33 (Clu.ptrH 64 [] (FRound r0 r1 r2 r3))
/-- what stands for a block that is taken in -/
def FAdd (a0 a1 a2 a3 : Nat → Nat → Nat → Nat → Nat → Nat) (cs rest : List Clu.AV) : Option (Clu.AV × List Clu.AV) := match cs, rest with
  | [.i .u64 (.ofNat a), .i .u64 (.ofNat b), .i .u64 (.ofNat c), .i .u64 (.ofNat d)], [.i .u64 (.ofNat m)] => some (.tu [], [.i .u64 (.ofNat (a0 a b c d m)), .i .u64 (.ofNat (a1 a b c d m)), .i .u64 (.ofNat (a2 a b c d m)), .i .u64 (.ofNat (a3 a b c d m))])
  | _, _ => none
/-- what stands for eight bytes' number -/
def FNum (nu : Nat → Nat → Nat → Nat → Nat → Nat → Nat → Nat → Nat) : List Clu.AV → Option Clu.AV
  | [.ag [.i .u8 (.ofNat b0), .i .u8 (.ofNat b1), .i .u8 (.ofNat b2), .i .u8 (.ofNat b3), .i .u8 (.ofNat b4), .i .u8 (.ofNat b5), .i .u8 (.ofNat b6), .i .u8 (.ofNat b7)]] => some (.i .u64 (.ofNat (nu b0 b1 b2 b3 b4 b5 b6 b7)))
  | _ => none
noncomputable def sipX3 (r0 r1 r2 r3 : Nat → Nat → Nat → Nat → Nat) (a0 a1 a2 a3 : Nat → Nat → Nat → Nat → Nat → Nat) (nu : Nat → Nat → Nat → Nat → Nat → Nat → Nat → Nat → Nat) : Clu.XT := Clu.addB (Clu.addB (sipX2 r0 r1 r2 r3) 31 (Clu.ptrH 64 [] (FAdd a0 a1 a2 a3))) 32 (Clu.funH (FNum nu))
def masks : List (Nat × List Clu.AV) := [(0, [.i .u64 (.ofNat 8317987319222330741), .i .u64 (.ofNat 7237128888997146477), .i .u64 (.ofNat 7816392313619706465), .i .u64 (.ofNat 8387220255154660723)])]
end Go.Proofs.YtdhhocmdolnfiaaDoor
