/-
  Runs of closed calls by the kernel: bits.
-/
import Derived.Test.YthghohgjedjpbaaCluD
namespace Go.Proofs.Ythghohgjedjpbaa
namespace Clu
theorem hasBit_eq (m i : Nat) : hasBit m i = m.testBit i := by
  unfold hasBit
  rw [Nat.testBit_eq_decide_div_mod_eq, show Nat.shiftRight m i = m / 2 ^ i from Nat.shiftRight_eq_div_pow m i]
  by_cases h : m / 2 ^ i % 2 = 1
  · rw [decide_eq_true h]; exact beq_iff.2 h
  · rw [decide_eq_false h]
    cases h' : Nat.beq (Nat.mod (m / 2 ^ i) 2) 1 with
    | false => rfl
    | true => exact absurd (beq_iff.1 h') h
end Clu
end Go.Proofs.Ythghohgjedjpbaa
