/-
  EdnsParts: what its run comes to.
-/
import Derived.Test.YtlcggjaogbclkaaDoorEdPc
namespace Go.Proofs.YtlcggjaogbclkaaDoor
namespace Clo
open Go.RowKit
set_option linter.unusedVariables false
set_option maxRecDepth 10000
set_option maxHeartbeats 64000000
variable {X : XT}
theorem or_u32 (x y : Nat) (hx : x < 4294967296) (hy : y < 4294967296) : bOr .u32 (x : Int) (y : Int) = ((x ||| y : Nat) : Int) := by
  have e1 : modN (x : Int) (fullN .u32) = x := by rw [modN_nonneg _ _ (by omega)]; exact Nat.mod_eq_of_lt hx
  have e2 : modN (y : Int) (fullN .u32) = y := by rw [modN_nonneg _ _ (by omega)]; exact Nat.mod_eq_of_lt hy
  have h : x ||| y < 2 ^ 32 := Nat.or_lt_two_pow hx hy
  unfold bOr
  rw [e1, e2, wrap_u32_id _ (by omega) (by omega)]
theorem and_u32 (x y : Nat) (hx : x < 4294967296) (hy : y < 4294967296) : bAnd .u32 (x : Int) (y : Int) = ((x &&& y : Nat) : Int) := by
  have e1 : modN (x : Int) (fullN .u32) = x := by rw [modN_nonneg _ _ (by omega)]; exact Nat.mod_eq_of_lt hx
  have e2 : modN (y : Int) (fullN .u32) = y := by rw [modN_nonneg _ _ (by omega)]; exact Nat.mod_eq_of_lt hy
  have h : x &&& y ≤ x := Nat.and_le_left
  unfold bAnd
  rw [e1, e2, wrap_u32_id _ (by omega) (by omega)]
/-- bits of a number, from the k-th on, w of them -/
def F (k w x : Nat) : Nat := (x >>> k) % 2 ^ w
theorem F_or (k w x y : Nat) : F k w (x ||| y) = F k w x ||| F k w y := by unfold F; rw [Nat.shiftRight_or_distrib, Nat.or_mod_two_pow]
theorem F_and (k w x y : Nat) : F k w (x &&& y) = F k w x &&& F k w y := by unfold F; rw [Nat.shiftRight_and_distrib, Nat.and_mod_two_pow]
theorem F_u8 (k x : Nat) : IntKind.u8.wrap ((x : Int).fdiv (2 ^ k)) = (F k 8 x : Nat) := by
  rw [IntKind.wrap_u8, Int.fdiv_eq_ediv_of_nonneg _ (Int.pow_nonneg (by decide))]
  unfold F
  rw [Nat.shiftRight_eq_div_pow]
  have : ((2 : Int) ^ k) = ((2 ^ k : Nat) : Int) := by simp
  rw [this]
  omega
theorem F_u16 (x : Nat) : IntKind.u16.wrap (x : Int) = (F 0 16 x : Nat) := by
  rw [IntKind.wrap_u16]
  unfold F
  rw [Nat.shiftRight_zero]
  omega
theorem F_lt (k w x : Nat) : F k w x < 2 ^ w := Nat.mod_lt _ (Nat.two_pow_pos w)
theorem and_255 (x : Nat) (h : x < 256) : x &&& 255 = x := by rw [show (255 : Nat) = 2 ^ 8 - 1 from rfl, Nat.and_two_pow_sub_one_eq_mod]; exact Nat.mod_eq_of_lt h
theorem and_65535 (x : Nat) (h : x < 65536) : x &&& 65535 = x := by rw [show (65535 : Nat) = 2 ^ 16 - 1 from rfl, Nat.and_two_pow_sub_one_eq_mod]; exact Nat.mod_eq_of_lt h
section
variable (ex ve fl ot : Nat) (he : ex < 256) (hv : ve < 256) (hf : fl < 65536) (ho : ot < 4294967296)
include he hv hf
set_option linter.unusedSectionVars false
def TT (ex ve fl : Nat) : Nat := (ex * 16777216 ||| ve * 65536) ||| fl
theorem TT_lt : TT ex ve fl < 4294967296 := Nat.or_lt_two_pow (n := 32) (Nat.or_lt_two_pow (n := 32) (by omega) (by omega)) (by omega)
theorem TT_eq : bOr .u32 (bOr .u32 (IntKind.u32.wrap (IntKind.u32.wrap (ex : Int) * 2 ^ 24)) (IntKind.u32.wrap (IntKind.u32.wrap (ve : Int) * 2 ^ 16))) (IntKind.u32.wrap (fl : Int)) = (TT ex ve fl : Nat) := by
  have e1 : IntKind.u32.wrap (IntKind.u32.wrap (ex : Int) * 2 ^ 24) = ((ex * 16777216 : Nat) : Int) := by
    rw [wrap_u32_id (ex : Int) (by omega) (by omega), show (2 : Int) ^ 24 = 16777216 from rfl, wrap_u32_id _ (by omega) (by omega)]; omega
  have e2 : IntKind.u32.wrap (IntKind.u32.wrap (ve : Int) * 2 ^ 16) = ((ve * 65536 : Nat) : Int) := by
    rw [wrap_u32_id (ve : Int) (by omega) (by omega), show (2 : Int) ^ 16 = 65536 from rfl, wrap_u32_id _ (by omega) (by omega)]; omega
  have e3 : IntKind.u32.wrap (fl : Int) = (fl : Int) := wrap_u32_id _ (by omega) (by omega)
  rw [e1, e2, e3, or_u32 _ _ (by omega) (by omega), or_u32 _ _ (Nat.or_lt_two_pow (n := 32) (by omega) (by omega)) (by omega)]
  rfl
theorem TT_24 : F 24 8 (TT ex ve fl) = ex := by
  have a : F 24 8 (ex * 16777216) = ex := by unfold F; rw [Nat.shiftRight_eq_div_pow]; omega
  have b : F 24 8 (ve * 65536) = 0 := by unfold F; rw [Nat.shiftRight_eq_div_pow]; omega
  have c : F 24 8 fl = 0 := by unfold F; rw [Nat.shiftRight_eq_div_pow]; omega
  rw [TT, F_or, F_or, a, b, c]; simp
theorem TT_16 : F 16 8 (TT ex ve fl) = ve := by
  have a : F 16 8 (ex * 16777216) = 0 := by unfold F; rw [Nat.shiftRight_eq_div_pow]; omega
  have b : F 16 8 (ve * 65536) = ve := by unfold F; rw [Nat.shiftRight_eq_div_pow]; omega
  have c : F 16 8 fl = 0 := by unfold F; rw [Nat.shiftRight_eq_div_pow]; omega
  rw [TT, F_or, F_or, a, b, c]; simp
theorem TT_0 : F 0 16 (TT ex ve fl) = fl := by
  have a : F 0 16 (ex * 16777216) = 0 := by unfold F; rw [Nat.shiftRight_zero]; omega
  have b : F 0 16 (ve * 65536) = 0 := by unfold F; rw [Nat.shiftRight_zero]; omega
  have c : F 0 16 fl = fl := by unfold F; rw [Nat.shiftRight_zero]; omega
  rw [TT, F_or, F_or, a, b, c]; simp
end
/-- bits of two numbers, told by a mask which -/
theorem mix_eq (x y m1 m2 : Nat) (hx : x < 4294967296) (hy : y < 4294967296) (h1 : m1 < 4294967296) (h2 : m2 < 4294967296) : bOr .u32 (bAnd .u32 (x : Int) (m1 : Int)) (bAnd .u32 (y : Int) (m2 : Int)) = (((x &&& m1) ||| (y &&& m2) : Nat) : Int) := by
  rw [and_u32 _ _ hx h1, and_u32 _ _ hy h2, or_u32 _ _ (Nat.lt_of_le_of_lt Nat.and_le_left hx) (Nat.lt_of_le_of_lt Nat.and_le_left hy)]
theorem mix_F (k w x y m1 m2 : Nat) : F k w ((x &&& m1) ||| (y &&& m2)) = (F k w x &&& F k w m1) ||| (F k w y &&& F k w m2) := by rw [F_or, F_and, F_and]
end Clo
end Go.Proofs.YtlcggjaogbclkaaDoor
