/-
  Plain arithmetic of the draws: mixing is one-to-one.
-/
namespace Go.Proofs.Ythjoadiagnngiaa
abbrev M : Nat := 18446744073709551616
def c1 : Nat := 13787848793156543929
def c2 : Nat := 10723151780598845931
def st : Nat := 11400714819323198485
def xs (s n : Nat) : Nat := n ^^^ n / s
def mixN (n : Nat) : Nat := xs 2147483648 (xs 134217728 (xs 1073741824 n * c1 % 18446744073709551616) * c2 % 18446744073709551616)

theorem xs_lt (k n : Nat) (h : n < 2 ^ 64) : xs k n < 2 ^ 64 := by
  unfold xs
  exact Nat.xor_lt_two_pow h (Nat.lt_of_le_of_lt (Nat.div_le_self _ _) h)

theorem xs_inj (k a b : Nat) (hk : 0 < k) (ha : a < 2 ^ 64) (hb : b < 2 ^ 64) (h : xs (2 ^ k) a = xs (2 ^ k) b) : a = b := by
  have key : ∀ m i, 64 ≤ i + m → a.testBit i = b.testBit i := by
    intro m
    induction m with
    | zero =>
      intro i hi
      rw [Nat.testBit_lt_two_pow (Nat.lt_of_lt_of_le ha (Nat.pow_le_pow_right (by decide) (by omega))), Nat.testBit_lt_two_pow (Nat.lt_of_lt_of_le hb (Nat.pow_le_pow_right (by decide) (by omega)))]
    | succ m ih =>
      intro i hi
      have e := congrArg (fun z => Nat.testBit z i) h
      simp only [xs, Nat.testBit_xor, Nat.testBit_div_two_pow] at e
      have e2 := ih (i + k) (by omega)
      rw [e2] at e
      revert e
      cases a.testBit i <;> cases b.testBit i <;> cases b.testBit (i + k) <;> simp
  exact Nat.eq_of_testBit_eq fun i => key 64 i (by omega)

theorem mul_inj (c d a b : Nat) (hc : c * d % 18446744073709551616 = 1) (ha : a < 18446744073709551616) (hb : b < 18446744073709551616)
    (h : a * c % 18446744073709551616 = b * c % 18446744073709551616) : a = b := by
  have k : ∀ x, x < 18446744073709551616 → x * c % 18446744073709551616 * d % 18446744073709551616 = x := by
    intro x hx
    rw [Nat.mod_mul_mod, Nat.mul_assoc, Nat.mul_mod, hc, Nat.mul_one, Nat.mod_mod, Nat.mod_eq_of_lt hx]
  rw [← k a ha, ← k b hb, h]

theorem mixN_lt (n : Nat) : mixN n < 18446744073709551616 := xs_lt _ _ (Nat.mod_lt _ (by decide))

theorem mixN_inj (a b : Nat) (ha : a < 18446744073709551616) (hb : b < 18446744073709551616) (h : mixN a = mixN b) : a = b := by
  unfold mixN at h
  have h1 := xs_inj 31 _ _ (by decide) (Nat.mod_lt _ (by decide)) (Nat.mod_lt _ (by decide)) h
  have h2 := mul_inj c2 3573116690164977347 _ _ (by decide) (xs_lt _ _ (Nat.mod_lt _ (by decide))) (xs_lt _ _ (Nat.mod_lt _ (by decide))) h1
  have h3 := xs_inj 27 _ _ (by decide) (Nat.mod_lt _ (by decide)) (Nat.mod_lt _ (by decide)) h2
  have h4 := mul_inj c1 10871156337175269513 _ _ (by decide) (xs_lt _ _ ha) (xs_lt _ _ hb) h3
  exact xs_inj 30 _ _ (by decide) ha hb h4
end Go.Proofs.Ythjoadiagnngiaa
