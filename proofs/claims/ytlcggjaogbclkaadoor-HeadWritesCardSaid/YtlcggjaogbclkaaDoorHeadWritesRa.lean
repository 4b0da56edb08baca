/-
  HeadWrites: what stands for small functions.
-/
import Derived.Test.YtlcggjaogbclkaaDoorHeadWritesBase
import Derived.Test.YtlcggjaogbclkaaDoorCluN1
namespace Go.Proofs.YtlcggjaogbclkaaDoor.headWrites
open Go.RowKit
set_option linter.unusedVariables false
set_option maxRecDepth 100000
/-- a truth as a number -/
noncomputable def nat (x : Bool) (n : Nat) : Nat := Bool.rec 0 n x
noncomputable def numF : List Clu.AV → Option Clu.AV := fun l => match l with
  | [.b x] => some (.i .u16 (.ofNat (nat x 1)))
  | _ => none
noncomputable def bitF : List Clu.AV → Option Clu.AV := fun l => match l with
  | [.b x, .i .i64 (.ofNat n)] => some (.i .i64 (.ofNat (nat x n)))
  | _ => none
theorem num_run (x : Bool) : (Clu.layK [] .e fun h => Clu.runF Tryd.prog Clu.noX 1000 1000 65 [.b x] h 1000) = .ok (.i .u16 (.ofNat (nat x 1))) := by cases x <;> kernel_rfl
theorem bit_run (x : Bool) (n : Nat) : (Clu.layK [] .e fun h => Clu.runF Tryd.prog Clu.noX 1000 1000 49 [.b x, .i .i64 (.ofNat n)] h 1000) = .ok (.i .i64 (.ofNat (nat x n))) := by cases x <;> kernel_rfl
theorem num_ok : Clu.HandOK Tryd.prog 65 (Clu.funH numF) := Clu.funH_ok fun l v h => by
  unfold numF at h
  split at h
  · cases h
    exact Clu.fact_of Clu.plain Clu.noX_ok Clu.mixed (num_run _) rfl rfl
  · cases h
theorem bit_ok : Clu.HandOK Tryd.prog 49 (Clu.funH bitF) := Clu.funH_ok fun l v h => by
  unfold bitF at h
  split at h
  · cases h
    exact Clu.fact_of Clu.plain Clu.noX_ok Clu.mixed (bit_run _ _) rfl rfl
  · cases h
noncomputable def X0 : Clu.XT := Clu.addB (Clu.addB X 65 (Clu.funH numF)) 49 (Clu.funH bitF)
theorem X0_ok : Clu.XOK Tryd.prog X0 := Clu.addB_ok (Clu.addB_ok X_ok num_ok) bit_ok
theorem nat_mul (x : Bool) (n : Nat) : nat x n = nat x 1 * n := by cases x <;> simp [nat]
theorem nat_le (x : Bool) (n : Nat) : nat x n ≤ n := by cases x <;> simp [nat]
theorem nat_one (x : Bool) : nat x 1 ≤ 1 := nat_le x 1
theorem flags_eq (x1 x3 x4 x5 x6 x7 x8 x9 op code : Nat) (h1 : x1 ≤ 1) (h3 : x3 ≤ 1) (h4 : x4 ≤ 1) (h5 : x5 ≤ 1) (h6 : x6 ≤ 1) (h7 : x7 ≤ 1) (h8 : x8 ≤ 1) (h9 : x9 ≤ 1) (hop : op ≤ 15) (hco : code ≤ 15) : Clu.wrapF .u16 (Int.ofNat (Nat.lor (Clu.modN (Clu.wrapF .u16 (Int.ofNat (Nat.lor (Clu.modN (Clu.wrapF .u16 (Int.ofNat (Nat.lor (Clu.modN (Clu.wrapF .u16 (Int.ofNat (Nat.lor (Clu.modN (Clu.wrapF .u16 (Int.ofNat (Nat.lor (Clu.modN (Clu.wrapF .u16 (Int.ofNat (Nat.lor (Clu.modN (Clu.wrapF .u16 (Int.ofNat (Nat.lor (Clu.modN (Clu.wrapF .u16 (Int.ofNat (Nat.lor (Clu.modN (Clu.wrapF .u16 (Int.ofNat (Nat.lor (Clu.modN (Clu.wrapF .u16 (Int.ofNat (Nat.lor 0 (Clu.modN (Clu.wrapF .u16 (Int.ofNat x1 * Int.ofNat 32768)) 65536)))) 65536) (Clu.modN (Clu.wrapF .u16 (Clu.wrapF .u16 (Int.ofNat op) * Int.ofNat 2048)) 65536)))) 65536) (Clu.modN (Clu.wrapF .u16 (Int.ofNat x3 * Int.ofNat 1024)) 65536)))) 65536) (Clu.modN (Clu.wrapF .u16 (Int.ofNat x4 * Int.ofNat 512)) 65536)))) 65536) (Clu.modN (Clu.wrapF .u16 (Int.ofNat x5 * Int.ofNat 256)) 65536)))) 65536) (Clu.modN (Clu.wrapF .u16 (Int.ofNat x6 * Int.ofNat 128)) 65536)))) 65536) (Clu.modN (Clu.wrapF .u16 (Int.ofNat x7 * Int.ofNat 64)) 65536)))) 65536) (Clu.modN (Clu.wrapF .u16 (Int.ofNat x8 * Int.ofNat 32)) 65536)))) 65536) (Clu.modN (Clu.wrapF .u16 (Int.ofNat x9 * Int.ofNat 16)) 65536)))) 65536) (Clu.modN (Clu.wrapF .u16 (Clu.wrapF .u16 (Int.ofNat code) * Int.ofNat 1)) 65536))) = Int.ofNat (x1 * 32768 + op * 2048 + x3 * 1024 + x4 * 512 + x5 * 256 + x6 * 128 + x7 * 64 + x8 * 32 + x9 * 16 + code) := by
  simp only [Clu.u16_nat, Clu.modN_nat, Clu.mul_nat, Nat.mod_mod, Clu.lor_0]
  rw [show x1 * 32768 % 65536 = x1 * 32768 by omega]
  rw [show op % 65536 * 2048 % 65536 = op * 2048 by omega]
  rw [show x3 * 1024 % 65536 = x3 * 1024 by omega]
  rw [show x4 * 512 % 65536 = x4 * 512 by omega]
  rw [show x5 * 256 % 65536 = x5 * 256 by omega]
  rw [show x6 * 128 % 65536 = x6 * 128 by omega]
  rw [show x7 * 64 % 65536 = x7 * 64 by omega]
  rw [show x8 * 32 % 65536 = x8 * 32 by omega]
  rw [show x9 * 16 % 65536 = x9 * 16 by omega]
  rw [show code % 65536 * 1 % 65536 = code by omega]
  rw [Clu.lor_two (x1 * 32768) (op * 2048) 15 32768 rfl (by omega) (by omega)]
  rw [show (x1 * 32768 + op * 2048) % 65536 = x1 * 32768 + op * 2048 by omega]
  rw [Clu.lor_two (x1 * 32768 + op * 2048) (x3 * 1024) 11 2048 rfl (by omega) (by omega)]
  rw [show (x1 * 32768 + op * 2048 + x3 * 1024) % 65536 = x1 * 32768 + op * 2048 + x3 * 1024 by omega]
  rw [Clu.lor_two (x1 * 32768 + op * 2048 + x3 * 1024) (x4 * 512) 10 1024 rfl (by omega) (by omega)]
  rw [show (x1 * 32768 + op * 2048 + x3 * 1024 + x4 * 512) % 65536 = x1 * 32768 + op * 2048 + x3 * 1024 + x4 * 512 by omega]
  rw [Clu.lor_two (x1 * 32768 + op * 2048 + x3 * 1024 + x4 * 512) (x5 * 256) 9 512 rfl (by omega) (by omega)]
  rw [show (x1 * 32768 + op * 2048 + x3 * 1024 + x4 * 512 + x5 * 256) % 65536 = x1 * 32768 + op * 2048 + x3 * 1024 + x4 * 512 + x5 * 256 by omega]
  rw [Clu.lor_two (x1 * 32768 + op * 2048 + x3 * 1024 + x4 * 512 + x5 * 256) (x6 * 128) 8 256 rfl (by omega) (by omega)]
  rw [show (x1 * 32768 + op * 2048 + x3 * 1024 + x4 * 512 + x5 * 256 + x6 * 128) % 65536 = x1 * 32768 + op * 2048 + x3 * 1024 + x4 * 512 + x5 * 256 + x6 * 128 by omega]
  rw [Clu.lor_two (x1 * 32768 + op * 2048 + x3 * 1024 + x4 * 512 + x5 * 256 + x6 * 128) (x7 * 64) 7 128 rfl (by omega) (by omega)]
  rw [show (x1 * 32768 + op * 2048 + x3 * 1024 + x4 * 512 + x5 * 256 + x6 * 128 + x7 * 64) % 65536 = x1 * 32768 + op * 2048 + x3 * 1024 + x4 * 512 + x5 * 256 + x6 * 128 + x7 * 64 by omega]
  rw [Clu.lor_two (x1 * 32768 + op * 2048 + x3 * 1024 + x4 * 512 + x5 * 256 + x6 * 128 + x7 * 64) (x8 * 32) 6 64 rfl (by omega) (by omega)]
  rw [show (x1 * 32768 + op * 2048 + x3 * 1024 + x4 * 512 + x5 * 256 + x6 * 128 + x7 * 64 + x8 * 32) % 65536 = x1 * 32768 + op * 2048 + x3 * 1024 + x4 * 512 + x5 * 256 + x6 * 128 + x7 * 64 + x8 * 32 by omega]
  rw [Clu.lor_two (x1 * 32768 + op * 2048 + x3 * 1024 + x4 * 512 + x5 * 256 + x6 * 128 + x7 * 64 + x8 * 32) (x9 * 16) 5 32 rfl (by omega) (by omega)]
  rw [show (x1 * 32768 + op * 2048 + x3 * 1024 + x4 * 512 + x5 * 256 + x6 * 128 + x7 * 64 + x8 * 32 + x9 * 16) % 65536 = x1 * 32768 + op * 2048 + x3 * 1024 + x4 * 512 + x5 * 256 + x6 * 128 + x7 * 64 + x8 * 32 + x9 * 16 by omega]
  rw [Clu.lor_two (x1 * 32768 + op * 2048 + x3 * 1024 + x4 * 512 + x5 * 256 + x6 * 128 + x7 * 64 + x8 * 32 + x9 * 16) (code) 4 16 rfl (by omega) (by omega)]
  rw [show (x1 * 32768 + op * 2048 + x3 * 1024 + x4 * 512 + x5 * 256 + x6 * 128 + x7 * 64 + x8 * 32 + x9 * 16 + code) % 65536 = x1 * 32768 + op * 2048 + x3 * 1024 + x4 * 512 + x5 * 256 + x6 * 128 + x7 * 64 + x8 * 32 + x9 * 16 + code by omega]
end Go.Proofs.YtlcggjaogbclkaaDoor.headWrites
