/-
  Sip: what is written in parts is written at once.
-/
import Derived.Test.YtdhhocmdolnfiaaDoorSipD
namespace Go.Proofs.YtdhhocmdolnfiaaDoor
open Go.RowKit
set_option linter.unusedVariables false
/-! words below 2^64; masks are their own undoing -/
theorem modN_of (a m : Nat) : Clu.modN (Int.ofNat a) m = a % m := rfl
theorem xorU_lt (x y : Nat) : xorU x y < 18446744073709551616 := Nat.mod_lt _ (by decide)
theorem xorU_eq (x y : Nat) : xorU x y = (x % 18446744073709551616) ^^^ (y % 18446744073709551616) := by
  show ((x % 18446744073709551616) ^^^ (y % 18446744073709551616)) % 18446744073709551616 = _
  exact Nat.mod_eq_of_lt (Nat.xor_lt_two_pow (n := 64) (Nat.mod_lt _ (by decide)) (Nat.mod_lt _ (by decide)))
theorem xorU_xorU {x : Nat} (y : Nat) (h : x < 18446744073709551616) : xorU (xorU x y) y = x := by
  rw [xorU_eq (xorU x y), Nat.mod_eq_of_lt (xorU_lt x y), xorU_eq, Nat.xor_assoc, Nat.xor_self, Nat.xor_zero, Nat.mod_eq_of_lt h]
structure S13.Ok (s : S13) : Prop where
  h0 : s.v0 < 18446744073709551616
  h1 : s.v1 < 18446744073709551616
  h2 : s.v2 < 18446744073709551616
  h3 : s.v3 < 18446744073709551616
theorem step_ok (s : S13) (c : Nat) (h : s.Ok) : (s.step pAd0 pAd1 pAd2 pAd3 pNum c).Ok := by
  unfold S13.step
  split
  · exact ⟨h.h0, h.h1, h.h2, h.h3⟩
  split
  · exact ⟨h.h0, h.h1, h.h2, h.h3⟩
  split
  · exact ⟨h.h0, h.h1, h.h2, h.h3⟩
  split
  · exact ⟨h.h0, h.h1, h.h2, h.h3⟩
  split
  · exact ⟨h.h0, h.h1, h.h2, h.h3⟩
  split
  · exact ⟨h.h0, h.h1, h.h2, h.h3⟩
  split
  · exact ⟨h.h0, h.h1, h.h2, h.h3⟩
  exact ⟨Nat.mod_lt _ (by decide), Nat.mod_lt _ (by decide), Nat.mod_lt _ (by decide), Nat.mod_lt _ (by decide)⟩
/-- the bytes, one by one -/
noncomputable abbrev pStep (s : S13) (c : Nat) : S13 := s.step pAd0 pAd1 pAd2 pAd3 pNum c
theorem go_range (N : Nat) : ∀ (f at_ : Nat) (s : S13), S13.go pAd0 pAd1 pAd2 pAd3 pNum N f at_ s = ((List.range' at_ f).map (Clu.byteN N)).foldl pStep s
  | 0, _, _ => rfl
  | f + 1, at_, s => by rw [S13.go, go_range N f, List.range'_succ]; rfl
theorem pG_eq (s : S13) (n N : Nat) : pG s n N = (Clu.lst n N).foldl pStep s := by
  unfold pG
  rw [go_range, ← List.range_eq_range']
  rfl
theorem fold_ok : ∀ (l : List Nat) (s : S13), s.Ok → (l.foldl pStep s).Ok
  | [], _, h => h
  | c :: l, s, h => fold_ok l _ (step_ok s c h)
theorem open_ok (s : H13) : s.open_.Ok := ⟨xorU_lt _ _, xorU_lt _ _, xorU_lt _ _, xorU_lt _ _⟩
theorem open_shut {g : S13} (h : g.Ok) : g.shut.open_ = g := by
  obtain ⟨v0, v1, v2, v3, l0, l1, l2, l3, l4, l5, l6, l7, m⟩ := g
  unfold S13.shut H13.open_ maskQ
  simp only
  rw [xorU_xorU _ h.h0, xorU_xorU _ h.h1, xorU_xorU _ h.h2, xorU_xorU _ h.h3]
theorem pW_eq (s : H13) (n N : Nat) : pW s n N = ((Clu.lst n N).foldl pStep s.open_).shut := by
  rw [← pG_eq]; rfl
theorem pW_m (s : H13) (n N : Nat) : (pW s n N).m = s.m + n := go_m _ _ _ _ _ _ _ _ _
theorem pW_app (s : H13) (n N m M : Nat) : pW (pW s n N) m M = pW s (n + m) (Clu.catN n N M) := by
  rw [pW_eq, pW_eq, pW_eq, open_shut (fold_ok _ _ (open_ok s)), Clu.lst_cat, List.foldl_append]
end Go.Proofs.YtdhhocmdolnfiaaDoor
