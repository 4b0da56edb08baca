/-
  Runs at whatever arguments: numbers that come up.
-/
import Derived.Test.YthghohgjedjpbaaCluO1
namespace Go.Proofs.Ythghohgjedjpbaa
namespace Clu
open Go.RowKit
set_option linter.unusedVariables false
set_option maxRecDepth 100000
theorem iLt_t {a b : Int} (h : a < b) : iLt a b = true := by rw [iLt_eq]; exact decide_eq_true h
theorem extI_min (b c : Int) : extI false b c = if b < c then b else c := by
  unfold extI; simp only [iLt_eq]; split
  · rename_i h; rw [decide_eq_true h]; rfl
  · rename_i h; rw [decide_eq_false h]; rfl
theorem extI_max (b c : Int) : extI true b c = if c < b then b else c := by
  unfold extI; simp only [iLt_eq]; split
  · rename_i h; rw [decide_eq_true h]; rfl
  · rename_i h; rw [decide_eq_false h]; rfl
theorem iLt_f {a b : Int} (h : b ≤ a) : iLt a b = false := by rw [iLt_eq]; exact decide_eq_false (by omega)
theorem inR_t {x : Int} (h1 : -9223372036854775808 ≤ x) (h2 : x < 9223372036854775808) : inR .i64 x = true := by
  cases x with
  | ofNat a => exact blt_iff.2 (show a < 9223372036854775808 by simp only [Int.ofNat_eq_natCast] at h2; omega)
  | negSucc a => exact blt_iff.2 (show a < 9223372036854775808 by omega)
theorem iEq_t {a b : Int} (h : a = b) : iEq a b = true := by rw [iEq_eq]; simpa using h
theorem iEq_f {a b : Int} (h : a ≠ b) : iEq a b = false := by rw [iEq_eq]; simpa using h
theorem byteN_lt (N i : Nat) : byteN N i < 256 := Nat.mod_lt _ (by decide)
theorem byteN_mask (N k s i j : Nat) (h : i < k) (hs : s + 8 * i = 8 * j) : byteN (maskN k (Nat.shiftRight N s)) i = byteN N j := by
  show ((N >>> s) % 2 ^ (8 * k)) >>> (8 * i) % 256 = N >>> (8 * j) % 256
  rw [← hs, Nat.shiftRight_add]
  generalize N >>> s = M
  have e : 2 ^ (8 * k) = 2 ^ (8 * i) * 2 ^ (8 * (k - i)) := by rw [← Nat.pow_add]; congr 1; omega
  rw [Nat.shiftRight_eq_div_pow, Nat.shiftRight_eq_div_pow, e, Nat.mod_mul_right_div_self, show 256 = 2 ^ 8 from rfl, Nat.mod_mod_of_dvd _ (Nat.pow_dvd_pow 2 (by omega))]
theorem byteN_cat (n N M i : Nat) (h : i < n) : byteN (catN n N M) i = byteN N i := by
  show ((N % 2 ^ (8 * n) ||| M <<< (8 * n)) >>> (8 * i)) % 256 = N >>> (8 * i) % 256
  have e : (N % 2 ^ (8 * n) ||| M <<< (8 * n)) = N % 2 ^ (8 * n) + M * 2 ^ (8 * n) := by
    have := Nat.shiftLeft_add_eq_or_of_lt (i := 8 * n) (b := N % 2 ^ (8 * n)) (Nat.mod_lt _ (Nat.two_pow_pos _)) M
    rw [Nat.shiftLeft_eq] at this ⊢
    rw [Nat.or_comm, ← this, Nat.add_comm]
  have k : 2 ^ (8 * n) = 2 ^ (8 * i) * 2 ^ (8 * (n - i)) := by rw [← Nat.pow_add]; congr 1; omega
  have d : (256 : Nat) ∣ 2 ^ (8 * (n - i)) := show 2 ^ 8 ∣ _ from Nat.pow_dvd_pow 2 (by omega)
  rw [e, Nat.shiftRight_eq_div_pow, Nat.shiftRight_eq_div_pow, k, ← Nat.mul_assoc, Nat.mul_comm M, Nat.mul_assoc, Nat.add_mul_div_left _ _ (Nat.two_pow_pos _), Nat.mod_mul_right_div_self, Nat.add_mod, Nat.mod_mod_of_dvd _ d, Nat.mod_eq_zero_of_dvd (Nat.dvd_mul_left_of_dvd d M), Nat.add_zero, Nat.mod_mod]
theorem u8_nat (x : Nat) : wrapF .u8 (Int.ofNat x) = Int.ofNat (x % 256) := rfl
theorem u16_nat (x : Nat) : wrapF .u16 (Int.ofNat x) = Int.ofNat (x % 65536) := rfl
theorem u32_nat (x : Nat) : wrapF .u32 (Int.ofNat x) = Int.ofNat (x % 4294967296) := rfl
theorem u64_nat (x : Nat) : wrapF .u64 (Int.ofNat x) = Int.ofNat (x % 18446744073709551616) := rfl
theorem modN_nat (x m : Nat) : modN (Int.ofNat x) m = x % m := rfl
theorem mul_nat (a b : Nat) : Int.ofNat a * Int.ofNat b = Int.ofNat (a * b) := rfl
theorem add_nat (a b : Nat) : Int.ofNat a + Int.ofNat b = Int.ofNat (a + b) := rfl
theorem tdiv_nat (a b : Nat) : Int.tdiv (Int.ofNat a) (Int.ofNat b) = Int.ofNat (a / b) := rfl
theorem tmod_nat (a b : Nat) : Int.tmod (Int.ofNat a) (Int.ofNat b) = Int.ofNat (a % b) := rfl
theorem fdiv_nat (a b : Nat) : Int.fdiv (Int.ofNat a) (Int.ofNat b) = Int.ofNat (a / b) := (Int.ofNat_fdiv a b).symm
theorem iEq_nat (a b : Nat) : iEq (Int.ofNat a) (Int.ofNat b) = (a == b) := by
  rw [iEq_eq, Bool.eq_iff_iff]; simp only [beq_iff_eq, Int.ofNat_eq_natCast]; omega
theorem beq_nat (a b : Nat) : (Int.ofNat a == Int.ofNat b) = (a == b) := by
  rw [Bool.eq_iff_iff]; simp only [beq_iff_eq, Int.ofNat_eq_natCast]; omega
theorem land_1 (x : Nat) : Nat.land x 1 = x % 2 := Nat.and_one_is_mod x
theorem land_15 (x : Nat) : Nat.land x 15 = x % 16 := Nat.and_two_pow_sub_one_eq_mod x 4
theorem lor_0 (x : Nat) : Nat.lor 0 x = x := Nat.zero_or x
theorem lor_256 (a b : Nat) (h : b < 256) : Nat.lor (a * 256) b = a * 256 + b := by
  have := Nat.shiftLeft_add_eq_or_of_lt (i := 8) (b := b) h a
  rw [Nat.shiftLeft_eq] at this
  exact this.symm
/-- truths held against each other -/
theorem bool_beq {a b : Bool} (h : a = true ↔ b = true) : (a == b) = true := by rw [beq_iff_eq, Bool.eq_iff_iff]; exact h
/-- two bytes, read as a number by the program -/
theorem two_eq (N M i j : Nat) : wrapF .u16 (wrapF .u32 (Int.ofNat (Nat.lor (modN (wrapF .u32 (wrapF .u32 (Int.ofNat (Nat.lor 0 (modN (wrapF .u32 (Int.ofNat (byteN N i))) 4294967296))) * Int.ofNat 256)) 4294967296) (modN (wrapF .u32 (Int.ofNat (byteN M j))) 4294967296)))) = Int.ofNat (byteN N i * 256 + byteN M j) := by
  have h1 := byteN_lt N i
  have h2 := byteN_lt M j
  simp only [u32_nat, modN_nat, lor_0, mul_nat, u16_nat]
  generalize byteN N i = a at *
  generalize byteN M j = b at *
  have e1 : a % 4294967296 % 4294967296 % 4294967296 = a := by omega
  have e2 : b % 4294967296 % 4294967296 = b := by omega
  have e3 : a * 256 % 4294967296 % 4294967296 = a * 256 := by omega
  rw [e1, e2, e3, lor_256 a b h2]
  congr 1
  omega
theorem pk_lt : ∀ l : List Nat, pk l < 2 ^ (8 * l.length)
  | [] => by decide
  | c :: l => by
    have h := pk_lt l
    have e : 2 ^ (8 * (c :: l).length) = 256 * 2 ^ (8 * l.length) := by rw [List.length_cons, Nat.mul_add, Nat.pow_add, Nat.mul_comm]
    rw [e]
    show c % 256 + 256 * pk l < _
    have : c % 256 < 256 := Nat.mod_lt _ (by decide)
    omega
theorem pk_app : ∀ l m : List Nat, pk (l ++ m) = pk l + 2 ^ (8 * l.length) * pk m
  | [], m => by simp [pk]
  | c :: l, m => by
    show c % 256 + 256 * pk (l ++ m) = c % 256 + 256 * pk l + _
    have e : 2 ^ (8 * (c :: l).length) = 256 * 2 ^ (8 * l.length) := by rw [List.length_cons, Nat.mul_add, Nat.pow_add, Nat.mul_comm]
    rw [pk_app l m, e, Nat.mul_add, Nat.mul_assoc, Nat.add_assoc]
theorem cat_pk (l m : List Nat) : catN l.length (pk l) (pk m) = pk (l ++ m) := by
  show (pk l % 2 ^ (8 * l.length) ||| pk m <<< (8 * l.length)) = _
  rw [Nat.mod_eq_of_lt (pk_lt l), pk_app, Nat.or_comm, ← Nat.shiftLeft_add_eq_or_of_lt (pk_lt l), Nat.shiftLeft_eq, Nat.add_comm, Nat.mul_comm]
theorem u8N_nat (c : Nat) : u8N (.i .u8 (Int.ofNat c)) = c := rfl
theorem eqNs_same (n N : Nat) : eqNs n N n N = true := by
  show @Bool.rec (fun _ => Bool) false (Nat.beq (maskN n N) (maskN n N)) (Nat.beq n n) = true
  rw [Nat.beq_refl, Nat.beq_refl]
theorem eqNs_pk {n : Nat} {l m : List Nat} (h : l = m) : eqNs n (pk l) n (pk m) = true := by rw [h]; exact eqNs_same _ _
theorem lor_up (a b k : Nat) (h : b < 2 ^ k) : Nat.lor (a * 2 ^ k) b = a * 2 ^ k + b := by
  have := Nat.shiftLeft_add_eq_or_of_lt (i := k) (b := b) h a
  rw [Nat.shiftLeft_eq] at this
  exact this.symm
theorem lor_two (S B k K : Nat) (hK : K = 2 ^ k) (hd : S % K = 0) (hB : B < K) : Nat.lor S B = S + B := by
  subst hK
  have e : S = S / 2 ^ k * 2 ^ k := by have := Nat.div_add_mod S (2 ^ k); rw [hd, Nat.add_zero, Nat.mul_comm] at this; exact this.symm
  rw [e]
  exact lor_up _ _ _ hB
theorem cat2 (a b : Nat) (m : List Nat) : catN 2 (pk [a, b]) (pk m) = pk (a :: b :: m) := cat_pk [a, b] m
theorem cat4 (a b c d : Nat) (m : List Nat) : catN 4 (pk [a, b, c, d]) (pk m) = pk (a :: b :: c :: d :: m) := cat_pk [a, b, c, d] m
theorem cat6 (a b c d e f : Nat) (m : List Nat) : catN 6 (pk [a, b, c, d, e, f]) (pk m) = pk (a :: b :: c :: d :: e :: f :: m) := cat_pk [a, b, c, d, e, f] m
theorem cat8 (a b c d e f g h : Nat) (m : List Nat) : catN 8 (pk [a, b, c, d, e, f, g, h]) (pk m) = pk (a :: b :: c :: d :: e :: f :: g :: h :: m) := cat_pk [a, b, c, d, e, f, g, h] m
theorem cat10 (a b c d e f g h i j : Nat) (m : List Nat) : catN 10 (pk [a, b, c, d, e, f, g, h, i, j]) (pk m) = pk (a :: b :: c :: d :: e :: f :: g :: h :: i :: j :: m) := cat_pk [a, b, c, d, e, f, g, h, i, j] m
theorem inR_two (N M i j : Nat) : inR .i64 (Int.ofNat (byteN N i * 256 + byteN M j)) = true := by
  have h1 := byteN_lt N i
  have h2 := byteN_lt M j
  exact inR_t (by simp only [Int.ofNat_eq_natCast]; omega) (by simp only [Int.ofNat_eq_natCast]; omega)
end Clu
end Go.Proofs.Ythghohgjedjpbaa
