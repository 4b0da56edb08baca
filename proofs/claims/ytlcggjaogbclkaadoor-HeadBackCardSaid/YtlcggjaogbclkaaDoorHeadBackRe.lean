/-
  HeadBack: what the functions answer.
-/
import Derived.Test.YtlcggjaogbclkaaDoorHeadBackRb
import Derived.Test.YtlcggjaogbclkaaDoorHeadBackRc
namespace Go.Proofs.YtlcggjaogbclkaaDoor.headBack
open Go.RowKit
set_option linter.unusedVariables false
set_option linter.unusedSimpArgs false
set_option maxRecDepth 100000
theorem byteN_pk0 (a : Nat) (l : List Nat) : Clu.byteN (Clu.pk (a :: l)) 0 = a % 256 := by
  show (a % 256 + 256 * Clu.pk l) >>> 0 % 256 = a % 256
  rw [Nat.shiftRight_zero]
  omega
theorem byteN_pkS (a : Nat) (l : List Nat) (i : Nat) : Clu.byteN (Clu.pk (a :: l)) (i + 1) = Clu.byteN (Clu.pk l) i := by
  show (a % 256 + 256 * Clu.pk l) >>> (8 * (i + 1)) % 256 = Clu.pk l >>> (8 * i) % 256
  rw [show 8 * (i + 1) = 8 + 8 * i by omega, Nat.shiftRight_add, Nat.shiftRight_eq_div_pow _ 8]
  rw [show (a % 256 + 256 * Clu.pk l) / 2 ^ 8 = Clu.pk l by show _ / 256 = _; omega]
noncomputable def bts : Nat → Nat → Nat → List Nat
  | 0, _, _ => []
  | k + 1, j, M => Clu.byteN M j :: bts k (j + 1) M
theorem bts_eq : ∀ (k j M : Nat), Clu.maskN k (Nat.shiftRight M (8 * j)) = Clu.pk (bts k j M)
  | 0, j, M => by show (M >>> (8 * j)) % 2 ^ 0 = 0; rw [Nat.pow_zero, Nat.mod_one]
  | k + 1, j, M => by
    have h := bts_eq k (j + 1) M
    show (M >>> (8 * j)) % 2 ^ (8 * (k + 1)) = (M >>> (8 * j) % 256) % 256 + 256 * Clu.pk (bts k (j + 1) M)
    rw [← h]
    show (M >>> (8 * j)) % 2 ^ (8 * (k + 1)) = (M >>> (8 * j) % 256) % 256 + 256 * ((M >>> (8 * (j + 1))) % 2 ^ (8 * k))
    rw [show 8 * (j + 1) = 8 * j + 8 by omega, Nat.shiftRight_add, Nat.shiftRight_eq_div_pow _ 8, show 8 * (k + 1) = 8 + 8 * k by omega, Nat.pow_add, Nat.mod_mul, Nat.mod_mod]
theorem nat_mul (x : Bool) (n : Nat) : nat x n = nat x 1 * n := by cases x <;> simp [nat]
theorem nat_le (x : Bool) (n : Nat) : nat x n ≤ n := by cases x <;> simp [nat]
theorem nat_one (x : Bool) : nat x 1 ≤ 1 := nat_le x 1
noncomputable def bitN (n k : Nat) : Bool := n / 2 ^ k % 2 == 1
noncomputable def opN (n : Nat) : Nat := n / 2048 % 16
noncomputable def codeN (n : Nat) : Nat := n % 16
theorem nat_bit (n k : Nat) : nat (bitN n k) 1 = n / 2 ^ k % 2 := by
  unfold bitN
  have : n / 2 ^ k % 2 < 2 := Nat.mod_lt _ (by decide)
  generalize n / 2 ^ k % 2 = x at *
  have : x = 0 ∨ x = 1 := by omega
  rcases this with rfl | rfl <;> rfl
theorem bit_of {n k : Nat} {b : Bool} (h : n / 2 ^ k % 2 = nat b 1) : bitN n k = b := by
  unfold bitN
  rw [h]
  cases b <;> rfl
theorem bit_eq (n d k : Nat) (h : 2 ^ k = d) (hb : d * 65536 ≠ 0) : (!Clu.iEq (Clu.wrapF .u16 (Int.ofNat (Nat.land (Clu.modN (Int.fdiv (Int.ofNat n) (Int.ofNat d)) 65536) 1))) (Int.ofNat 0)) = bitN n k := by
  subst h
  simp only [Clu.fdiv_nat, Clu.modN_nat, Clu.land_1, Clu.u16_nat, Clu.iEq_nat]
  unfold bitN
  generalize n / 2 ^ k = x
  rw [Bool.eq_iff_iff]
  simp only [Bool.not_eq_true', beq_eq_false_iff_ne, beq_iff_eq, ne_eq]
  omega
theorem from_fact (l : List Clu.AV) (v : Clu.AV) (h : fromF bitN opN codeN l = some v) : Clu.Fact Tryd.prog 22 lays l v := by
  unfold fromF at h
  split at h
  · cases h
    rename_i n
    have hr := q_from_raw n
    rw [bit_eq n 32768 15 rfl (by decide), bit_eq n 1024 10 rfl (by decide), bit_eq n 512 9 rfl (by decide), bit_eq n 256 8 rfl (by decide), bit_eq n 128 7 rfl (by decide), bit_eq n 64 6 rfl (by decide), bit_eq n 32 5 rfl (by decide), bit_eq n 16 4 rfl (by decide)] at hr
    simp only [Clu.fdiv_nat, Clu.modN_nat, Clu.land_15, Clu.u16_nat] at hr
    rw [show n / 2048 % 65536 % 16 % 65536 % 256 = opN n by unfold opN; omega, show n / 1 % 65536 % 16 % 65536 % 256 = codeN n by unfold codeN; omega] at hr
    exact Clu.fact_of Clu.plain X0_ok Clu.mixed hr rfl rfl
  · cases h
theorem flags_eq (x1 x3 x4 x5 x6 x7 x8 x9 op code : Nat) (h1 : x1 ≤ 1) (h3 : x3 ≤ 1) (h4 : x4 ≤ 1) (h5 : x5 ≤ 1) (h6 : x6 ≤ 1) (h7 : x7 ≤ 1) (h8 : x8 ≤ 1) (h9 : x9 ≤ 1) (hop : op ≤ 15) (hco : code ≤ 15) : Clu.wrapF .u16 (Int.ofNat (Nat.lor (Clu.modN (Clu.wrapF .u16 (Int.ofNat (Nat.lor (Clu.modN (Clu.wrapF .u16 (Int.ofNat (Nat.lor (Clu.modN (Clu.wrapF .u16 (Int.ofNat (Nat.lor (Clu.modN (Clu.wrapF .u16 (Int.ofNat (Nat.lor (Clu.modN (Clu.wrapF .u16 (Int.ofNat (Nat.lor (Clu.modN (Clu.wrapF .u16 (Int.ofNat (Nat.lor (Clu.modN (Clu.wrapF .u16 (Int.ofNat (Nat.lor (Clu.modN (Clu.wrapF .u16 (Int.ofNat (Nat.lor (Clu.modN (Clu.wrapF .u16 (Int.ofNat (Nat.lor 0 (Clu.modN (Clu.wrapF .u16 (Int.ofNat x1 * Int.ofNat 32768)) 65536)))) 65536) (Clu.modN (Clu.wrapF .u16 (Clu.wrapF .u16 (Int.ofNat op) * Int.ofNat 2048)) 65536)))) 65536) (Clu.modN (Clu.wrapF .u16 (Int.ofNat x3 * Int.ofNat 1024)) 65536)))) 65536) (Clu.modN (Clu.wrapF .u16 (Int.ofNat x4 * Int.ofNat 512)) 65536)))) 65536) (Clu.modN (Clu.wrapF .u16 (Int.ofNat x5 * Int.ofNat 256)) 65536)))) 65536) (Clu.modN (Clu.wrapF .u16 (Int.ofNat x6 * Int.ofNat 128)) 65536)))) 65536) (Clu.modN (Clu.wrapF .u16 (Int.ofNat x7 * Int.ofNat 64)) 65536)))) 65536) (Clu.modN (Clu.wrapF .u16 (Int.ofNat x8 * Int.ofNat 32)) 65536)))) 65536) (Clu.modN (Clu.wrapF .u16 (Int.ofNat x9 * Int.ofNat 16)) 65536)))) 65536) (Clu.modN (Clu.wrapF .u16 (Clu.wrapF .u16 (Int.ofNat code) * Int.ofNat 1)) 65536))) = Int.ofNat (x1 * 32768 + op * 2048 + x3 * 1024 + x4 * 512 + x5 * 256 + x6 * 128 + x7 * 64 + x8 * 32 + x9 * 16 + code) := by
  simp only [Clu.u16_nat, Clu.modN_nat, Clu.mul_nat, Nat.mod_mod, Clu.lor_0]
  rw [show x1 * 32768 % 65536 = x1 * 32768 by omega]
  rw [show op % 65536 * 2048 % 65536 = op * 2048 by omega]
  rw [show x3 * 1024 % 65536 = x3 * 1024 by omega]
  rw [show x4 * 512 % 65536 = x4 * 512 by omega]
  rw [show x5 * 256 % 65536 = x5 * 256 by omega]
  rw [show x6 * 128 % 65536 = x6 * 128 by omega]
  rw [show x7 * 64 % 65536 = x7 * 64 by omega]
  rw [show x8 * 32 % 65536 = x8 * 32 by omega]
  rw [show x9 * 16 % 65536 = x9 * 16 by omega]
  rw [show code % 65536 * 1 % 65536 = code by omega]
  rw [Clu.lor_two (x1 * 32768) (op * 2048) 15 32768 rfl (by omega) (by omega)]
  rw [show (x1 * 32768 + op * 2048) % 65536 = x1 * 32768 + op * 2048 by omega]
  rw [Clu.lor_two (x1 * 32768 + op * 2048) (x3 * 1024) 11 2048 rfl (by omega) (by omega)]
  rw [show (x1 * 32768 + op * 2048 + x3 * 1024) % 65536 = x1 * 32768 + op * 2048 + x3 * 1024 by omega]
  rw [Clu.lor_two (x1 * 32768 + op * 2048 + x3 * 1024) (x4 * 512) 10 1024 rfl (by omega) (by omega)]
  rw [show (x1 * 32768 + op * 2048 + x3 * 1024 + x4 * 512) % 65536 = x1 * 32768 + op * 2048 + x3 * 1024 + x4 * 512 by omega]
  rw [Clu.lor_two (x1 * 32768 + op * 2048 + x3 * 1024 + x4 * 512) (x5 * 256) 9 512 rfl (by omega) (by omega)]
  rw [show (x1 * 32768 + op * 2048 + x3 * 1024 + x4 * 512 + x5 * 256) % 65536 = x1 * 32768 + op * 2048 + x3 * 1024 + x4 * 512 + x5 * 256 by omega]
  rw [Clu.lor_two (x1 * 32768 + op * 2048 + x3 * 1024 + x4 * 512 + x5 * 256) (x6 * 128) 8 256 rfl (by omega) (by omega)]
  rw [show (x1 * 32768 + op * 2048 + x3 * 1024 + x4 * 512 + x5 * 256 + x6 * 128) % 65536 = x1 * 32768 + op * 2048 + x3 * 1024 + x4 * 512 + x5 * 256 + x6 * 128 by omega]
  rw [Clu.lor_two (x1 * 32768 + op * 2048 + x3 * 1024 + x4 * 512 + x5 * 256 + x6 * 128) (x7 * 64) 7 128 rfl (by omega) (by omega)]
  rw [show (x1 * 32768 + op * 2048 + x3 * 1024 + x4 * 512 + x5 * 256 + x6 * 128 + x7 * 64) % 65536 = x1 * 32768 + op * 2048 + x3 * 1024 + x4 * 512 + x5 * 256 + x6 * 128 + x7 * 64 by omega]
  rw [Clu.lor_two (x1 * 32768 + op * 2048 + x3 * 1024 + x4 * 512 + x5 * 256 + x6 * 128 + x7 * 64) (x8 * 32) 6 64 rfl (by omega) (by omega)]
  rw [show (x1 * 32768 + op * 2048 + x3 * 1024 + x4 * 512 + x5 * 256 + x6 * 128 + x7 * 64 + x8 * 32) % 65536 = x1 * 32768 + op * 2048 + x3 * 1024 + x4 * 512 + x5 * 256 + x6 * 128 + x7 * 64 + x8 * 32 by omega]
  rw [Clu.lor_two (x1 * 32768 + op * 2048 + x3 * 1024 + x4 * 512 + x5 * 256 + x6 * 128 + x7 * 64 + x8 * 32) (x9 * 16) 5 32 rfl (by omega) (by omega)]
  rw [show (x1 * 32768 + op * 2048 + x3 * 1024 + x4 * 512 + x5 * 256 + x6 * 128 + x7 * 64 + x8 * 32 + x9 * 16) % 65536 = x1 * 32768 + op * 2048 + x3 * 1024 + x4 * 512 + x5 * 256 + x6 * 128 + x7 * 64 + x8 * 32 + x9 * 16 by omega]
  rw [Clu.lor_two (x1 * 32768 + op * 2048 + x3 * 1024 + x4 * 512 + x5 * 256 + x6 * 128 + x7 * 64 + x8 * 32 + x9 * 16) (code) 4 16 rfl (by omega) (by omega)]
  rw [show (x1 * 32768 + op * 2048 + x3 * 1024 + x4 * 512 + x5 * 256 + x6 * 128 + x7 * 64 + x8 * 32 + x9 * 16 + code) % 65536 = x1 * 32768 + op * 2048 + x3 * 1024 + x4 * 512 + x5 * 256 + x6 * 128 + x7 * 64 + x8 * 32 + x9 * 16 + code by omega]
noncomputable def fN (b1 : Bool) (op : Nat) (b3 b4 b5 b6 b7 b8 b9 : Bool) (code : Nat) : Nat := if op ≤ 15 ∧ code ≤ 15 then nat b1 32768 + op * 2048 + nat b3 1024 + nat b4 512 + nat b5 256 + nat b6 128 + nat b7 64 + nat b8 32 + nat b9 16 + code else 0
noncomputable def fE (op code : Nat) : Nat := if op ≤ 15 ∧ code ≤ 15 then 0 else 1
theorem fN_ok {b1 : Bool} {op : Nat} {b3 b4 b5 b6 b7 b8 b9 : Bool} {code : Nat} (h : op ≤ 15 ∧ code ≤ 15) : fN b1 op b3 b4 b5 b6 b7 b8 b9 code = nat b1 32768 + op * 2048 + nat b3 1024 + nat b4 512 + nat b5 256 + nat b6 128 + nat b7 64 + nat b8 32 + nat b9 16 + code := if_pos h
theorem fE_ok {op code : Nat} (h : op ≤ 15 ∧ code ≤ 15) : fE op code = 0 := if_pos h
theorem fN_no {b1 : Bool} {op : Nat} {b3 b4 b5 b6 b7 b8 b9 : Bool} {code : Nat} (h : ¬ (op ≤ 15 ∧ code ≤ 15)) : fN b1 op b3 b4 b5 b6 b7 b8 b9 code = 0 := if_neg h
theorem fE_no {op code : Nat} (h : ¬ (op ≤ 15 ∧ code ≤ 15)) : fE op code = 1 := if_neg h
theorem flags_fact (l : List Clu.AV) (v : Clu.AV) (h : flagsF fN fE l = some v) : Clu.Fact Tryd.prog 20 lays l v := by
  unfold flagsF at h
  split at h
  · cases h
    rename_i id b1 op b3 b4 b5 b6 b7 b8 b9 code
    by_cases hop : op ≤ 15
    · by_cases hco : code ≤ 15
      · have hr := q_fvalid_raw id op code b1 b3 b4 b5 b6 b7 b8 b9
        rw [Clu.needF_eq (Clu.iLt_f (by simp only [Int.ofNat_eq_natCast]; omega)), Clu.needF_eq (Clu.iLt_f (by simp only [Int.ofNat_eq_natCast]; omega))] at hr
        have hf := flags_eq (nat b1 1) (nat b3 1) (nat b4 1) (nat b5 1) (nat b6 1) (nat b7 1) (nat b8 1) (nat b9 1) op code (nat_one _) (nat_one _) (nat_one _) (nat_one _) (nat_one _) (nat_one _) (nat_one _) (nat_one _) hop hco
        rw [Clu.u16_nat] at hf
        have hf := Int.ofNat.inj hf
        rw [Clu.modN_nat, hf] at hr
        rw [fN_ok ⟨hop, hco⟩, fE_ok ⟨hop, hco⟩]
        rw [nat_mul b1 32768]; rw [nat_mul b3 1024]; rw [nat_mul b4 512]; rw [nat_mul b5 256]; rw [nat_mul b6 128]; rw [nat_mul b7 64]; rw [nat_mul b8 32]; rw [nat_mul b9 16]; exact Clu.fact_of Clu.plain (Clu.tell_ok X0_ok) Clu.mixed hr rfl rfl
      · have hr := q_fbigcode_raw id op code b1 b3 b4 b5 b6 b7 b8 b9
        rw [Clu.needF_eq (Clu.iLt_f (by simp only [Int.ofNat_eq_natCast]; omega)), Clu.needT_eq (Clu.iLt_t (by simp only [Int.ofNat_eq_natCast]; omega))] at hr
        rw [fN_no (by omega), fE_no (by omega)]
        exact Clu.fact_of Clu.plain (Clu.tell_ok X0_ok) Clu.mixed hr rfl rfl
    · have hr := q_fbigop_raw id op code b1 b3 b4 b5 b6 b7 b8 b9
      rw [Clu.needT_eq (Clu.iLt_t (by simp only [Int.ofNat_eq_natCast]; omega))] at hr
      rw [fN_no (by omega), fE_no (by omega)]
      exact Clu.fact_of Clu.plain (Clu.tell_ok X0_ok) Clu.mixed hr rfl rfl
  · cases h
end Go.Proofs.YtlcggjaogbclkaaDoor.headBack
