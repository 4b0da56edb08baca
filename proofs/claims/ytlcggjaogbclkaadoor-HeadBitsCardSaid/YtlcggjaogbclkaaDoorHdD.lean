/-
  HeadBits: what its run comes to.
-/
import Derived.Test.YtlcggjaogbclkaaDoorHdCA
import Derived.Test.YtlcggjaogbclkaaDoorHdCB
import Derived.Test.YtlcggjaogbclkaaDoorHdCC
import Derived.Test.YtlcggjaogbclkaaDoorHdCD
import Derived.Test.YtlcggjaogbclkaaDoorHdCE
import Derived.Test.YtlcggjaogbclkaaDoorHdCF
import Derived.Test.YtlcggjaogbclkaaDoorHdCG
import Derived.Test.YtlcggjaogbclkaaDoorHdCH
import Derived.Test.YtlcggjaogbclkaaDoorHdCI
import Derived.Test.YtlcggjaogbclkaaDoorHdCJ
namespace Go.Proofs.YtlcggjaogbclkaaDoor
namespace Clo
open Go.RowKit
set_option linter.unusedVariables false
set_option maxRecDepth 10000
set_option maxHeartbeats 64000000
variable {X : XT}
theorem fdiv_nat (m s : Nat) : (m : Int).fdiv (2 ^ s) = ((m >>> s : Nat) : Int) := by
  rw [Int.fdiv_eq_ediv_of_nonneg _ (Int.pow_nonneg (by decide)), Nat.shiftRight_eq_div_pow]
  have : ((2 : Int) ^ s) = ((2 ^ s : Nat) : Int) := by simp
  rw [this]
  rfl
theorem and_u16 (x y : Nat) (hx : x < 65536) (hy : y < 65536) : bAnd .u16 (x : Int) (y : Int) = ((x &&& y : Nat) : Int) := by
  have e1 : modN (x : Int) (fullN .u16) = x := by rw [modN_nonneg _ _ (by omega)]; exact Nat.mod_eq_of_lt hx
  have e2 : modN (y : Int) (fullN .u16) = y := by rw [modN_nonneg _ _ (by omega)]; exact Nat.mod_eq_of_lt hy
  have h : x &&& y ≤ x := Nat.and_le_left
  unfold bAnd
  rw [e1, e2, IntKind.wrap_u16]
  omega
theorem xor_u16 (x y : Nat) (hx : x < 65536) (hy : y < 65536) : bXor .u16 (x : Int) (y : Int) = ((x ^^^ y : Nat) : Int) := by
  have e1 : modN (x : Int) (fullN .u16) = x := by rw [modN_nonneg _ _ (by omega)]; exact Nat.mod_eq_of_lt hx
  have e2 : modN (y : Int) (fullN .u16) = y := by rw [modN_nonneg _ _ (by omega)]; exact Nat.mod_eq_of_lt hy
  have h : x ^^^ y < 2 ^ 16 := Nat.xor_lt_two_pow hx hy
  unfold bXor
  rw [e1, e2, IntKind.wrap_u16]
  omega
theorem shr_lt (m s : Nat) (hm : m < 65536) : m >>> s < 65536 := Nat.lt_of_le_of_lt (Nat.shiftRight_le m s) hm
theorem bit_B (m s : Nat) (hm : m < 65536) : (bAnd .u16 ((m : Int).fdiv (2 ^ s)) 1 != 0) = m.testBit s := by
  rw [fdiv_nat, show (1 : Int) = ((1 : Nat) : Int) from rfl, and_u16 _ _ (shr_lt m s hm) (by decide), Nat.and_one_is_mod, Nat.shiftRight_eq_div_pow, Nat.testBit_eq_decide_div_mod_eq]
  rcases Nat.mod_two_eq_zero_or_one (m / 2 ^ s) with h | h <;> rw [h] <;> rfl
theorem bit_N (m s : Nat) (hm : m < 65536) : IntKind.u8.wrap (bAnd .u16 ((m : Int).fdiv (2 ^ s)) 15) = ((m >>> s &&& 15 : Nat) : Int) := by
  rw [fdiv_nat, show (15 : Int) = ((15 : Nat) : Int) from rfl, and_u16 _ _ (shr_lt m s hm) (by decide), IntKind.wrap_u8]
  have : m >>> s &&& 15 ≤ 15 := Nat.and_le_right
  omega
theorem hd_eq (m : Nat) (hm : m < 65536) : hdCells (m : Int) = [.i .u16 0, .b (m.testBit 15), .i .u8 ((m >>> 11 &&& 15 : Nat) : Int), .b (m.testBit 10), .b (m.testBit 9), .b (m.testBit 8), .b (m.testBit 7), .b (m.testBit 6), .b (m.testBit 5), .b (m.testBit 4), .i .u8 ((m >>> 0 &&& 15 : Nat) : Int)] := by
  simp only [hdCells, bit_B m _ hm, bit_N m _ hm]
theorem xor_ne (x c : Nat) (hc : c ≠ 0) : ((x : Int) != ((x ^^^ c : Nat) : Int)) = true := by
  rw [bne_iff_ne]
  intro h
  have h : x = x ^^^ c := by exact_mod_cast h
  have h2 := congrArg (x ^^^ ·) h
  simp only [Nat.xor_self, ← Nat.xor_assoc, Nat.zero_xor] at h2
  exact hc h2.symm
theorem unlike_bits (hX : X 24 = none) (m k : Nat) (hm : m < 65536) (hk : k < 16) (lim : Nat) (h : T) (nx : Nat) (hlim : lim ≤ nx) :
    ∃ h', Cl Tryd.prog X lim 24 [.ag (hdCells (m : Int)), .ag (hdCells ((m ^^^ 2 ^ k : Nat) : Int))] h nx (.i .i64 1) h' (nx + 3) ∧ ∀ id, id < nx → h'.get id = h.get id := by
  have ho : m ^^^ 2 ^ k < 2 ^ 16 := Nat.xor_lt_two_pow hm (Nat.pow_lt_pow_right (by decide) hk)
  rw [hd_eq m hm, hd_eq _ ho]
  rcases (by omega : k = 0 ∨ k = 1 ∨ k = 2 ∨ k = 3 ∨ k = 4 ∨ k = 5 ∨ k = 6 ∨ k = 7 ∨ k = 8 ∨ k = 9 ∨ k = 10 ∨ k = 11 ∨ k = 12 ∨ k = 13 ∨ k = 14 ∨ k = 15) with rfl | rfl | rfl | rfl | rfl | rfl | rfl | rfl | rfl | rfl | rfl | rfl | rfl | rfl | rfl | rfl
  · have := unlike_10 hX 0 ((m >>> 11 &&& 15 : Nat) : Int) ((m >>> 0 &&& 15 : Nat) : Int) (((m >>> 0 &&& 15) ^^^ 1 : Nat) : Int) (m.testBit 15) (m.testBit 10) (m.testBit 9) (m.testBit 8) (m.testBit 7) (m.testBit 6) (m.testBit 5) (m.testBit 4) (xor_ne _ 1 (by decide)) lim h nx hlim
    simpa [Nat.testBit_xor, show Nat.testBit 1 15 = false from rfl, show Nat.testBit 1 10 = false from rfl, show Nat.testBit 1 9 = false from rfl, show Nat.testBit 1 8 = false from rfl, show Nat.testBit 1 7 = false from rfl, show Nat.testBit 1 6 = false from rfl, show Nat.testBit 1 5 = false from rfl, show Nat.testBit 1 4 = false from rfl, Nat.shiftRight_xor_distrib, Nat.and_xor_distrib_right] using this
  · have := unlike_10 hX 0 ((m >>> 11 &&& 15 : Nat) : Int) ((m >>> 0 &&& 15 : Nat) : Int) (((m >>> 0 &&& 15) ^^^ 2 : Nat) : Int) (m.testBit 15) (m.testBit 10) (m.testBit 9) (m.testBit 8) (m.testBit 7) (m.testBit 6) (m.testBit 5) (m.testBit 4) (xor_ne _ 2 (by decide)) lim h nx hlim
    simpa [Nat.testBit_xor, show Nat.testBit 2 15 = false from rfl, show Nat.testBit 2 10 = false from rfl, show Nat.testBit 2 9 = false from rfl, show Nat.testBit 2 8 = false from rfl, show Nat.testBit 2 7 = false from rfl, show Nat.testBit 2 6 = false from rfl, show Nat.testBit 2 5 = false from rfl, show Nat.testBit 2 4 = false from rfl, Nat.shiftRight_xor_distrib, Nat.and_xor_distrib_right] using this
  · have := unlike_10 hX 0 ((m >>> 11 &&& 15 : Nat) : Int) ((m >>> 0 &&& 15 : Nat) : Int) (((m >>> 0 &&& 15) ^^^ 4 : Nat) : Int) (m.testBit 15) (m.testBit 10) (m.testBit 9) (m.testBit 8) (m.testBit 7) (m.testBit 6) (m.testBit 5) (m.testBit 4) (xor_ne _ 4 (by decide)) lim h nx hlim
    simpa [Nat.testBit_xor, show Nat.testBit 4 15 = false from rfl, show Nat.testBit 4 10 = false from rfl, show Nat.testBit 4 9 = false from rfl, show Nat.testBit 4 8 = false from rfl, show Nat.testBit 4 7 = false from rfl, show Nat.testBit 4 6 = false from rfl, show Nat.testBit 4 5 = false from rfl, show Nat.testBit 4 4 = false from rfl, Nat.shiftRight_xor_distrib, Nat.and_xor_distrib_right] using this
  · have := unlike_10 hX 0 ((m >>> 11 &&& 15 : Nat) : Int) ((m >>> 0 &&& 15 : Nat) : Int) (((m >>> 0 &&& 15) ^^^ 8 : Nat) : Int) (m.testBit 15) (m.testBit 10) (m.testBit 9) (m.testBit 8) (m.testBit 7) (m.testBit 6) (m.testBit 5) (m.testBit 4) (xor_ne _ 8 (by decide)) lim h nx hlim
    simpa [Nat.testBit_xor, show Nat.testBit 8 15 = false from rfl, show Nat.testBit 8 10 = false from rfl, show Nat.testBit 8 9 = false from rfl, show Nat.testBit 8 8 = false from rfl, show Nat.testBit 8 7 = false from rfl, show Nat.testBit 8 6 = false from rfl, show Nat.testBit 8 5 = false from rfl, show Nat.testBit 8 4 = false from rfl, Nat.shiftRight_xor_distrib, Nat.and_xor_distrib_right] using this
  · have := unlike_9 hX 0 ((m >>> 11 &&& 15 : Nat) : Int) ((m >>> 0 &&& 15 : Nat) : Int) (m.testBit 15) (m.testBit 10) (m.testBit 9) (m.testBit 8) (m.testBit 7) (m.testBit 6) (m.testBit 5) (m.testBit 4) (m.testBit 4 ^^ true) (by cases m.testBit 4 <;> rfl) lim h nx hlim
    simpa [Nat.testBit_xor, show Nat.testBit 16 15 = false from rfl, show Nat.testBit 16 10 = false from rfl, show Nat.testBit 16 9 = false from rfl, show Nat.testBit 16 8 = false from rfl, show Nat.testBit 16 7 = false from rfl, show Nat.testBit 16 6 = false from rfl, show Nat.testBit 16 5 = false from rfl, show Nat.testBit 16 4 = true from rfl, Nat.shiftRight_xor_distrib, Nat.and_xor_distrib_right] using this
  · have := unlike_8 hX 0 ((m >>> 11 &&& 15 : Nat) : Int) ((m >>> 0 &&& 15 : Nat) : Int) (m.testBit 15) (m.testBit 10) (m.testBit 9) (m.testBit 8) (m.testBit 7) (m.testBit 6) (m.testBit 5) (m.testBit 4) (m.testBit 5 ^^ true) (by cases m.testBit 5 <;> rfl) lim h nx hlim
    simpa [Nat.testBit_xor, show Nat.testBit 32 15 = false from rfl, show Nat.testBit 32 10 = false from rfl, show Nat.testBit 32 9 = false from rfl, show Nat.testBit 32 8 = false from rfl, show Nat.testBit 32 7 = false from rfl, show Nat.testBit 32 6 = false from rfl, show Nat.testBit 32 5 = true from rfl, show Nat.testBit 32 4 = false from rfl, Nat.shiftRight_xor_distrib, Nat.and_xor_distrib_right] using this
  · have := unlike_7 hX 0 ((m >>> 11 &&& 15 : Nat) : Int) ((m >>> 0 &&& 15 : Nat) : Int) (m.testBit 15) (m.testBit 10) (m.testBit 9) (m.testBit 8) (m.testBit 7) (m.testBit 6) (m.testBit 5) (m.testBit 4) (m.testBit 6 ^^ true) (by cases m.testBit 6 <;> rfl) lim h nx hlim
    simpa [Nat.testBit_xor, show Nat.testBit 64 15 = false from rfl, show Nat.testBit 64 10 = false from rfl, show Nat.testBit 64 9 = false from rfl, show Nat.testBit 64 8 = false from rfl, show Nat.testBit 64 7 = false from rfl, show Nat.testBit 64 6 = true from rfl, show Nat.testBit 64 5 = false from rfl, show Nat.testBit 64 4 = false from rfl, Nat.shiftRight_xor_distrib, Nat.and_xor_distrib_right] using this
  · have := unlike_6 hX 0 ((m >>> 11 &&& 15 : Nat) : Int) ((m >>> 0 &&& 15 : Nat) : Int) (m.testBit 15) (m.testBit 10) (m.testBit 9) (m.testBit 8) (m.testBit 7) (m.testBit 6) (m.testBit 5) (m.testBit 4) (m.testBit 7 ^^ true) (by cases m.testBit 7 <;> rfl) lim h nx hlim
    simpa [Nat.testBit_xor, show Nat.testBit 128 15 = false from rfl, show Nat.testBit 128 10 = false from rfl, show Nat.testBit 128 9 = false from rfl, show Nat.testBit 128 8 = false from rfl, show Nat.testBit 128 7 = true from rfl, show Nat.testBit 128 6 = false from rfl, show Nat.testBit 128 5 = false from rfl, show Nat.testBit 128 4 = false from rfl, Nat.shiftRight_xor_distrib, Nat.and_xor_distrib_right] using this
  · have := unlike_5 hX 0 ((m >>> 11 &&& 15 : Nat) : Int) ((m >>> 0 &&& 15 : Nat) : Int) (m.testBit 15) (m.testBit 10) (m.testBit 9) (m.testBit 8) (m.testBit 7) (m.testBit 6) (m.testBit 5) (m.testBit 4) (m.testBit 8 ^^ true) (by cases m.testBit 8 <;> rfl) lim h nx hlim
    simpa [Nat.testBit_xor, show Nat.testBit 256 15 = false from rfl, show Nat.testBit 256 10 = false from rfl, show Nat.testBit 256 9 = false from rfl, show Nat.testBit 256 8 = true from rfl, show Nat.testBit 256 7 = false from rfl, show Nat.testBit 256 6 = false from rfl, show Nat.testBit 256 5 = false from rfl, show Nat.testBit 256 4 = false from rfl, Nat.shiftRight_xor_distrib, Nat.and_xor_distrib_right] using this
  · have := unlike_4 hX 0 ((m >>> 11 &&& 15 : Nat) : Int) ((m >>> 0 &&& 15 : Nat) : Int) (m.testBit 15) (m.testBit 10) (m.testBit 9) (m.testBit 8) (m.testBit 7) (m.testBit 6) (m.testBit 5) (m.testBit 4) (m.testBit 9 ^^ true) (by cases m.testBit 9 <;> rfl) lim h nx hlim
    simpa [Nat.testBit_xor, show Nat.testBit 512 15 = false from rfl, show Nat.testBit 512 10 = false from rfl, show Nat.testBit 512 9 = true from rfl, show Nat.testBit 512 8 = false from rfl, show Nat.testBit 512 7 = false from rfl, show Nat.testBit 512 6 = false from rfl, show Nat.testBit 512 5 = false from rfl, show Nat.testBit 512 4 = false from rfl, Nat.shiftRight_xor_distrib, Nat.and_xor_distrib_right] using this
  · have := unlike_3 hX 0 ((m >>> 11 &&& 15 : Nat) : Int) ((m >>> 0 &&& 15 : Nat) : Int) (m.testBit 15) (m.testBit 10) (m.testBit 9) (m.testBit 8) (m.testBit 7) (m.testBit 6) (m.testBit 5) (m.testBit 4) (m.testBit 10 ^^ true) (by cases m.testBit 10 <;> rfl) lim h nx hlim
    simpa [Nat.testBit_xor, show Nat.testBit 1024 15 = false from rfl, show Nat.testBit 1024 10 = true from rfl, show Nat.testBit 1024 9 = false from rfl, show Nat.testBit 1024 8 = false from rfl, show Nat.testBit 1024 7 = false from rfl, show Nat.testBit 1024 6 = false from rfl, show Nat.testBit 1024 5 = false from rfl, show Nat.testBit 1024 4 = false from rfl, Nat.shiftRight_xor_distrib, Nat.and_xor_distrib_right] using this
  · have := unlike_2 hX 0 ((m >>> 11 &&& 15 : Nat) : Int) ((m >>> 0 &&& 15 : Nat) : Int) (((m >>> 11 &&& 15) ^^^ 1 : Nat) : Int) (m.testBit 15) (m.testBit 10) (m.testBit 9) (m.testBit 8) (m.testBit 7) (m.testBit 6) (m.testBit 5) (m.testBit 4) (xor_ne _ 1 (by decide)) lim h nx hlim
    simpa [Nat.testBit_xor, show Nat.testBit 2048 15 = false from rfl, show Nat.testBit 2048 10 = false from rfl, show Nat.testBit 2048 9 = false from rfl, show Nat.testBit 2048 8 = false from rfl, show Nat.testBit 2048 7 = false from rfl, show Nat.testBit 2048 6 = false from rfl, show Nat.testBit 2048 5 = false from rfl, show Nat.testBit 2048 4 = false from rfl, Nat.shiftRight_xor_distrib, Nat.and_xor_distrib_right] using this
  · have := unlike_2 hX 0 ((m >>> 11 &&& 15 : Nat) : Int) ((m >>> 0 &&& 15 : Nat) : Int) (((m >>> 11 &&& 15) ^^^ 2 : Nat) : Int) (m.testBit 15) (m.testBit 10) (m.testBit 9) (m.testBit 8) (m.testBit 7) (m.testBit 6) (m.testBit 5) (m.testBit 4) (xor_ne _ 2 (by decide)) lim h nx hlim
    simpa [Nat.testBit_xor, show Nat.testBit 4096 15 = false from rfl, show Nat.testBit 4096 10 = false from rfl, show Nat.testBit 4096 9 = false from rfl, show Nat.testBit 4096 8 = false from rfl, show Nat.testBit 4096 7 = false from rfl, show Nat.testBit 4096 6 = false from rfl, show Nat.testBit 4096 5 = false from rfl, show Nat.testBit 4096 4 = false from rfl, Nat.shiftRight_xor_distrib, Nat.and_xor_distrib_right] using this
  · have := unlike_2 hX 0 ((m >>> 11 &&& 15 : Nat) : Int) ((m >>> 0 &&& 15 : Nat) : Int) (((m >>> 11 &&& 15) ^^^ 4 : Nat) : Int) (m.testBit 15) (m.testBit 10) (m.testBit 9) (m.testBit 8) (m.testBit 7) (m.testBit 6) (m.testBit 5) (m.testBit 4) (xor_ne _ 4 (by decide)) lim h nx hlim
    simpa [Nat.testBit_xor, show Nat.testBit 8192 15 = false from rfl, show Nat.testBit 8192 10 = false from rfl, show Nat.testBit 8192 9 = false from rfl, show Nat.testBit 8192 8 = false from rfl, show Nat.testBit 8192 7 = false from rfl, show Nat.testBit 8192 6 = false from rfl, show Nat.testBit 8192 5 = false from rfl, show Nat.testBit 8192 4 = false from rfl, Nat.shiftRight_xor_distrib, Nat.and_xor_distrib_right] using this
  · have := unlike_2 hX 0 ((m >>> 11 &&& 15 : Nat) : Int) ((m >>> 0 &&& 15 : Nat) : Int) (((m >>> 11 &&& 15) ^^^ 8 : Nat) : Int) (m.testBit 15) (m.testBit 10) (m.testBit 9) (m.testBit 8) (m.testBit 7) (m.testBit 6) (m.testBit 5) (m.testBit 4) (xor_ne _ 8 (by decide)) lim h nx hlim
    simpa [Nat.testBit_xor, show Nat.testBit 16384 15 = false from rfl, show Nat.testBit 16384 10 = false from rfl, show Nat.testBit 16384 9 = false from rfl, show Nat.testBit 16384 8 = false from rfl, show Nat.testBit 16384 7 = false from rfl, show Nat.testBit 16384 6 = false from rfl, show Nat.testBit 16384 5 = false from rfl, show Nat.testBit 16384 4 = false from rfl, Nat.shiftRight_xor_distrib, Nat.and_xor_distrib_right] using this
  · have := unlike_1 hX 0 ((m >>> 11 &&& 15 : Nat) : Int) ((m >>> 0 &&& 15 : Nat) : Int) (m.testBit 15) (m.testBit 10) (m.testBit 9) (m.testBit 8) (m.testBit 7) (m.testBit 6) (m.testBit 5) (m.testBit 4) (m.testBit 15 ^^ true) (by cases m.testBit 15 <;> rfl) lim h nx hlim
    simpa [Nat.testBit_xor, show Nat.testBit 32768 15 = true from rfl, show Nat.testBit 32768 10 = false from rfl, show Nat.testBit 32768 9 = false from rfl, show Nat.testBit 32768 8 = false from rfl, show Nat.testBit 32768 7 = false from rfl, show Nat.testBit 32768 6 = false from rfl, show Nat.testBit 32768 5 = false from rfl, show Nat.testBit 32768 4 = false from rfl, Nat.shiftRight_xor_distrib, Nat.and_xor_distrib_right] using this
theorem bin_rem_z {lim : Nat} {fr : Fr} {h : T} {nx : Nat} {a b : Operand} {t pos : TypeId} {kd : IntKind} {x y z : Int} (ha : ∀ k, opdK fr a k = k (.i kd x)) (hb : ∀ k, opdK fr b k = k (.i kd y)) (hy : y ≠ 0) (hz : x.tmod y = z) : Op1 Tryd.prog X lim (.binOp .rem t a b pos) fr h nx (.i kd z) h nx := hz ▸ bin_rem ha hb hy
theorem bin_shl_z {lim : Nat} {fr : Fr} {h : T} {nx : Nat} {a b : Operand} {t pos : TypeId} {ka kb : IntKind} {x y z : Int} (ha : ∀ k, opdK fr a k = k (.i ka x)) (hb : ∀ k, opdK fr b k = k (.i kb y)) (hy : 0 ≤ y) (hz : ka.wrap (x * 2 ^ (min y.toNat ka.bits)) = z) : Op1 Tryd.prog X lim (.binOp .shl t a b pos) fr h nx (.i ka z) h nx := hz ▸ bin_shl ha hb hy
theorem bin_xor_z {lim : Nat} {fr : Fr} {h : T} {nx : Nat} {a b : Operand} {t pos : TypeId} {kd : IntKind} {x y z : Int} (ha : ∀ k, opdK fr a k = k (.i kd x)) (hb : ∀ k, opdK fr b k = k (.i kd y)) (hz : bXor kd x y = z) : Op1 Tryd.prog X lim (.binOp .xor t a b pos) fr h nx (.i kd z) h nx := hz ▸ bin_xor ha hb
theorem sk_from (hX : X 22 = none) (hXs : X 50 = none) (lim : Nat) : ∃ s : Int → T → Nat → T, ∀ n h nx, lim ≤ nx → 0 < nx → h.get 0 = some (.c bitsCells 30 0 none) → Cl Tryd.prog X lim 22 [.i .u16 n] h nx (.ag (hdCells n)) (s n h nx) (nx + 32) ∧ ∀ id, id < nx → (s n h nx).get id = h.get id := by
  classical
  refine ⟨fun n h nx => if hl : lim ≤ nx ∧ 0 < nx ∧ h.get 0 = some (.c bitsCells 30 0 none) then (from_cl hX hXs n lim h nx hl.1 hl.2.1 hl.2.2).choose else h, fun n h nx h1 h2 h3 => ?_⟩
  have hl : lim ≤ nx ∧ 0 < nx ∧ h.get 0 = some (.c bitsCells 30 0 none) := ⟨h1, h2, h3⟩
  simp only [dif_pos hl]
  exact (from_cl hX hXs n lim h nx hl.1 hl.2.1 hl.2.2).choose_spec
theorem bits_cl (hX : X 6 = none) (hXf : X 22 = none) (hXs : X 50 = none) (hXu : X 24 = none)
    (m b : Nat) (hm : m < 65536) (lim : Nat) (h : T) (nx : Nat) (hlim : lim ≤ nx) (h1000 : 1000 ≤ lim) (hB : h.get 0 = some (.c bitsCells 30 0 none))
    (hawake : ∀ h' nx', (∀ id, id < 1000 → h'.get id = h.get id) → Cl Tryd.prog X lim 17 [] h' nx' (.b true) h' nx') : ∃ h' n', Cl Tryd.prog X lim 6 [.i .u16 m, .i .u8 b] h nx (.b true) h' n' := by
  obtain ⟨s, hs⟩ := sk_from (X := X) hXf hXs lim
  obtain ⟨u, hu⟩ := skolem (lim := lim) (R := fun h nx h' => _ ∧ _) fun h nx hl => unlike_bits (X := X) hXu m (b % 16) hm (Nat.mod_lt _ (by decide)) lim h nx hl
  have hr : ((b : Nat) : Int).tmod 16 = ((b % 16 : Nat) : Int) := rfl
  have hp : 2 ^ (b % 16) < 2 ^ 16 := Nat.pow_lt_pow_right (by decide) (Nat.mod_lt _ (by decide))
  have hsh : IntKind.u16.wrap (1 * 2 ^ (min (((b % 16 : Nat) : Int)).toNat (IntKind.bits .u16))) = ((2 ^ (b % 16) : Nat) : Int) := by
    have : b % 16 < 16 := Nat.mod_lt _ (by decide)
    rw [Int.toNat_natCast, show IntKind.bits .u16 = 16 from rfl, Nat.min_eq_left (by omega), IntKind.wrap_u16, Int.one_mul]
    have e : ((2 : Int) ^ (b % 16)) = ((2 ^ (b % 16) : Nat) : Int) := by simp
    rw [e]
    revert hp
    generalize 2 ^ (b % 16) = q
    intro hp
    omega
  have ho : bXor .u16 (m : Int) ((2 ^ (b % 16) : Nat) : Int) = ((m ^^^ 2 ^ (b % 16) : Nat) : Int) := xor_u16 _ _ hm hp
  apply Exists.intro
  apply Exists.intro
  apply Cl.eq
  case h.h.a =>
    apply Cl.body (m := 2) hX Tryd.func6 rfl (fun _ => rfl) rfl
    case hc =>
      repeat' (first
        | exact Ev.ret
        | apply Ev.loop_out
        | exact Ev.skip
        | exact Ev.exit
        | exact Ev.label
        | exact Ex.exi_ne
        | exact Ex.ret_ne
        | exact Ex.got_ne
        | exact Or.inl ⟨Ex.exi_ne, rfl, rfl, rfl, rfl⟩
        | exact Or.inl ⟨Ex.ret_ne, rfl, rfl, rfl, rfl⟩
        | exact Or.inl ⟨Ex.got_ne, rfl, rfl, rfl, rfl⟩
        | refine Or.inr ⟨rfl, ?_⟩
        | exact Or.inl ⟨rfl, rfl⟩
        | exact Or.inr ⟨Ex.nor_other, rfl⟩
        | exact Or.inr ⟨Ex.ret_other, rfl⟩
        | exact Or.inr ⟨Ex.exi_other rfl, rfl⟩
        | exact Or.inr ⟨Ex.got_other, rfl⟩
        | apply Ev.region rfl
        | apply Ev.seq2
        | apply Ev.block3
        | apply Ev.cond_t (fun _ => rfl) (by first | rfl | assumption | (simp [*]; done) | (simp; omega))
        | apply Ev.cond_f (fun _ => rfl) (by first | rfl | assumption | (simp [*]; done) | (simp; omega))
        | exact Sq.nil
        | exact Dr.nil
        | apply Sq.op (by first | rfl | (show (_ == _ : Bool) = true; first | rfl | (simp [*]; done) | (simp; omega))) (bin_rem_z (fun _ => rfl) c_int (by decide) hr) (fun _ => rfl)
        | apply Sq.op (by first | rfl | (show (_ == _ : Bool) = true; first | rfl | (simp [*]; done) | (simp; omega))) (bin_shl_z c_int (fun _ => rfl) (Int.natCast_nonneg _) hsh) (fun _ => rfl)
        | apply Sq.op (by first | rfl | (show (_ == _ : Bool) = true; first | rfl | (simp [*]; done) | (simp; omega))) (bin_xor_z (fun _ => rfl) (fun _ => rfl) ho) (fun _ => rfl)
        | apply Sq.op (by first | rfl | (show (_ == _ : Bool) = true; first | rfl | (simp [*]; done) | (simp; omega))) (Op1.call rfl (fun _ => rfl) (fun _ => rfl) (hawake _ _ (by intro id hid; repeat (first | rw [Tr.get_ne _ _ (by omega)] | rw [(hu _ _ (by omega)).2 _ (by omega)] | rw [(hs _ _ _ (by omega) (by omega) (by first | assumption | (rw [(hs _ _ _ (by omega) (by omega) (by assumption)).2 _ (by omega)]; assumption))).2 _ (by omega)])))) (fun _ => rfl)
        | apply Sq.op (by first | rfl | (show (_ == _ : Bool) = true; first | rfl | (simp [*]; done) | (simp; omega))) (Op1.call rfl (fun _ => rfl) (fun _ => rfl) (hs _ _ _ (by omega) (by omega) (by first | assumption | (rw [(hs _ _ _ (by omega) (by omega) (by assumption)).2 _ (by omega)]; assumption))).1) (fun _ => rfl)
        | apply Sq.op (by first | rfl | (show (_ == _ : Bool) = true; first | rfl | (simp [*]; done) | (simp; omega))) (Op1.call rfl (fun _ => rfl) (fun _ => rfl) (hu _ _ (by omega)).1) (fun _ => rfl)
        | (show Sq _ _ _ _ _ ({ dst := _, op := .load _ _, type := _, pos := _, after := _, guard := _ } :: _) _ _ _ _ _ _; apply Sq.op (by first | rfl | (show (_ == _ : Bool) = true; first | rfl | (simp [*]; done) | (simp; omega))) (Op1.load (fun _ => rfl) (by first | assumption | exact Tr.get_same _ _ _ | (rw [Tr.get_ne _ _ (by omega)]; first | assumption | exact Tr.get_same _ _ _ | (rw [Tr.get_ne _ _ (by omega)]; first | assumption | exact Tr.get_same _ _ _ | (rw [Tr.get_ne _ _ (by omega)]; first | assumption | exact Tr.get_same _ _ _ | (rw [Tr.get_ne _ _ (by omega)]; first | assumption | exact Tr.get_same _ _ _))))) (by exact fun _ => rfl)) (fun _ => rfl))
        | (show Sq _ _ _ _ _ ({ dst := _, op := .store _ _ _, type := _, pos := _, after := _, guard := _ } :: _) _ _ _ _ _ _; apply Sq.op (by first | rfl | (show (_ == _ : Bool) = true; first | rfl | (simp [*]; done) | (simp; omega))) (Op1.store (fun _ => rfl) (fun _ => rfl) (fun _ => rfl) rfl (by exact Nat.succ_pos _) (by omega) rfl (by first | assumption | exact Tr.get_same _ _ _ | (rw [Tr.get_ne _ _ (by omega)]; first | assumption | exact Tr.get_same _ _ _ | (rw [Tr.get_ne _ _ (by omega)]; first | assumption | exact Tr.get_same _ _ _ | (rw [Tr.get_ne _ _ (by omega)]; first | assumption | exact Tr.get_same _ _ _ | (rw [Tr.get_ne _ _ (by omega)]; first | assumption | exact Tr.get_same _ _ _))))) (by first | decide | omega) (by exact fun _ => rfl)) (fun _ => rfl))
        | apply Sq.op (by first | rfl | (show (_ == _ : Bool) = true; first | rfl | (simp [*]; done) | (simp; omega))) (Op1.alloc (fun _ => rfl)) (fun _ => rfl)
        | apply Sq.op (by first | rfl | (show (_ == _ : Bool) = true; first | rfl | (simp [*]; done) | (simp; omega))) (Op1.box (fun _ => rfl)) (fun _ => rfl)
        | apply Sq.out (by first | rfl | (show (_ == _ : Bool) = false; first | rfl | (simp [*]; done) | (simp; omega))) (fun _ => rfl)
        | apply Sq.op (by first | rfl | (show (_ == _ : Bool) = true; first | rfl | (simp [*]; done) | (simp; omega))) Op1.move_c (fun _ => rfl)
        | apply Sq.op (by first | rfl | (show (_ == _ : Bool) = true; first | rfl | (simp [*]; done) | (simp; omega))) Op1.assign_c (fun _ => rfl)
        | apply Sq.op (by first | rfl | (show (_ == _ : Bool) = true; first | rfl | (simp [*]; done) | (simp; omega))) (bin_add (by first | exact c_int | exact fun _ => rfl) (by first | exact c_int | exact fun _ => rfl)) (fun _ => rfl)
        | apply Sq.op (by first | rfl | (show (_ == _ : Bool) = true; first | rfl | (simp [*]; done) | (simp; omega))) (bin_sub (by first | exact c_int | exact fun _ => rfl) (by first | exact c_int | exact fun _ => rfl)) (fun _ => rfl)
        | apply Sq.op (by first | rfl | (show (_ == _ : Bool) = true; first | rfl | (simp [*]; done) | (simp; omega))) (bin_mul (by first | exact c_int | exact fun _ => rfl) (by first | exact c_int | exact fun _ => rfl)) (fun _ => rfl)
        | apply Sq.op (by first | rfl | (show (_ == _ : Bool) = true; first | rfl | (simp [*]; done) | (simp; omega))) (bin_and (by first | exact c_int | exact fun _ => rfl) (by first | exact c_int | exact fun _ => rfl)) (fun _ => rfl)
        | apply Sq.op (by first | rfl | (show (_ == _ : Bool) = true; first | rfl | (simp [*]; done) | (simp; omega))) (bin_or (by first | exact c_int | exact fun _ => rfl) (by first | exact c_int | exact fun _ => rfl)) (fun _ => rfl)
        | apply Sq.op (by first | rfl | (show (_ == _ : Bool) = true; first | rfl | (simp [*]; done) | (simp; omega))) (bin_xor (by first | exact c_int | exact fun _ => rfl) (by first | exact c_int | exact fun _ => rfl)) (fun _ => rfl)
        | apply Sq.op (by first | rfl | (show (_ == _ : Bool) = true; first | rfl | (simp [*]; done) | (simp; omega))) (bin_eql (by first | exact c_int | exact fun _ => rfl) (by first | exact c_int | exact fun _ => rfl)) (fun _ => rfl)
        | apply Sq.op (by first | rfl | (show (_ == _ : Bool) = true; first | rfl | (simp [*]; done) | (simp; omega))) (bin_neq (by first | exact c_int | exact fun _ => rfl) (by first | exact c_int | exact fun _ => rfl)) (fun _ => rfl)
        | apply Sq.op (by first | rfl | (show (_ == _ : Bool) = true; first | rfl | (simp [*]; done) | (simp; omega))) (bin_lss (by first | exact c_int | exact fun _ => rfl) (by first | exact c_int | exact fun _ => rfl)) (fun _ => rfl)
        | apply Sq.op (by first | rfl | (show (_ == _ : Bool) = true; first | rfl | (simp [*]; done) | (simp; omega))) (bin_gtr (by first | exact c_int | exact fun _ => rfl) (by first | exact c_int | exact fun _ => rfl)) (fun _ => rfl)
        | apply Sq.op (by first | rfl | (show (_ == _ : Bool) = true; first | rfl | (simp [*]; done) | (simp; omega))) (bin_leq (by first | exact c_int | exact fun _ => rfl) (by first | exact c_int | exact fun _ => rfl)) (fun _ => rfl)
        | apply Sq.op (by first | rfl | (show (_ == _ : Bool) = true; first | rfl | (simp [*]; done) | (simp; omega))) (bin_geq (by first | exact c_int | exact fun _ => rfl) (by first | exact c_int | exact fun _ => rfl)) (fun _ => rfl)
        | apply Sq.op (by first | rfl | (show (_ == _ : Bool) = true; first | rfl | (simp [*]; done) | (simp; omega))) (bin_quo (by first | exact c_int | exact fun _ => rfl) (by first | exact c_int | exact fun _ => rfl) (by decide)) (fun _ => rfl)
        | apply Sq.op (by first | rfl | (show (_ == _ : Bool) = true; first | rfl | (simp [*]; done) | (simp; omega))) (bin_rem (by first | exact c_int | exact fun _ => rfl) (by first | exact c_int | exact fun _ => rfl) (by decide)) (fun _ => rfl)
        | apply Sq.op (by first | rfl | (show (_ == _ : Bool) = true; first | rfl | (simp [*]; done) | (simp; omega))) (bin_shl (by first | exact c_int | exact fun _ => rfl) (by first | exact c_int | exact fun _ => rfl) (by decide)) (fun _ => rfl)
        | apply Sq.op (by first | rfl | (show (_ == _ : Bool) = true; first | rfl | (simp [*]; done) | (simp; omega))) (bin_shr (by first | exact c_int | exact fun _ => rfl) (by first | exact c_int | exact fun _ => rfl) (by decide)) (fun _ => rfl)
        | apply Sq.op (by first | rfl | (show (_ == _ : Bool) = true; first | rfl | (simp [*]; done) | (simp; omega))) (str_eql (by first | exact c_int | exact fun _ => rfl) (by first | exact c_int | exact fun _ => rfl)) (fun _ => rfl)
        | apply Sq.op (by first | rfl | (show (_ == _ : Bool) = true; first | rfl | (simp [*]; done) | (simp; omega))) (str_neq (by first | exact c_int | exact fun _ => rfl) (by first | exact c_int | exact fun _ => rfl)) (fun _ => rfl)
        | apply Sq.op (by first | rfl | (show (_ == _ : Bool) = true; first | rfl | (simp [*]; done) | (simp; omega))) (Op1.pure fun _ _ => rfl) (fun _ => rfl)
        | apply Sq.op (by first | rfl | (show (_ == _ : Bool) = true; first | rfl | (simp [*]; done) | (simp; omega))) (un_not (fun _ => rfl)) (fun _ => rfl)
        | apply Sq.op (by first | rfl | (show (_ == _ : Bool) = true; first | rfl | (simp [*]; done) | (simp; omega))) (Op1.pick_t (fun _ => rfl) (by first | rfl | assumption | (simp [*]; done) | (simp; omega)) (fun _ => rfl)) (fun _ => rfl)
        | apply Sq.op (by first | rfl | (show (_ == _ : Bool) = true; first | rfl | (simp [*]; done) | (simp; omega))) (Op1.pick_f (fun _ => rfl) (by first | rfl | assumption | (simp [*]; done) | (simp; omega)) (fun _ => rfl)) (fun _ => rfl))
    case he => exact .inr rfl
    case hr => exact res_tmp (fun _ => rfl) res_nil
    case ho => exact fun _ => rfl
  case h.h.hv => rfl
end Clo
end Go.Proofs.YtlcggjaogbclkaaDoor
