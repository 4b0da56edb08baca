import Derived.Test.YthjoadiagnngiaaRows
import Derived.Test.YthjoadiagnngiaaMath
import Derived.WalkKit
import Derived.WalkSpells
import Derived.WalkLawsBesides
import Derived.Laws.Bits64
namespace Go.Proofs.Ythjoadiagnngiaa
open Go.RowKit

theorem step1 (n : Nat) (hn : n < 18446744073709551616) : IntKind.u64.wrap (bits BinOp.xor IntKind.u64 (↑n) (↑n / 1073741824) * 13787848793156543929) = ((xs 1073741824 n * c1 % 18446744073709551616 : Nat) : Int) :=
  mixStep_u64 n 1073741824 13787848793156543929 hn
theorem step2 (n : Nat) (hn : n < 18446744073709551616) : IntKind.u64.wrap (bits BinOp.xor IntKind.u64 (↑n) (↑n / 134217728) * 10723151780598845931) = ((xs 134217728 n * c2 % 18446744073709551616 : Nat) : Int) :=
  mixStep_u64 n 134217728 10723151780598845931 hn
theorem step3 (n : Nat) (hn : n < 18446744073709551616) : bits BinOp.xor IntKind.u64 (↑n) (↑n / 2147483648) = ((xs 2147483648 n : Nat) : Int) :=
  xorShift_u64 n 2147483648 hn

set_option maxHeartbeats 400000 in
theorem mix_any (n : Nat) (w : World) (hn : n < 18446744073709551616) :
    Calls Try.prog 27 #[.int .u64 (n : Int)] w fun e w' => e = .returned (.int .u64 (mixN n : Nat)) ∧ w = w' := by
  go_enter Try.func27, Try.ntmps27
  go_wp2
  go_ret
  refine ⟨?_, rfl⟩
  show Ending.returned (Value.int IntKind.u64 _) = _
  rw [step1 n hn, step2 _ (Nat.mod_lt _ (by decide)), step3 _ (Nat.mod_lt _ (by decide))]
  rfl
end Go.Proofs.Ythjoadiagnngiaa
