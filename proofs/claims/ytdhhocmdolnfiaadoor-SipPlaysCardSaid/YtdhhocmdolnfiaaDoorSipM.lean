/-
  Sip: all rounds of Write.
-/
import Derived.Test.YtdhhocmdolnfiaaDoorSipW
namespace Go.Proofs.YtdhhocmdolnfiaaDoor
open Go.RowKit
set_option linter.unusedVariables false
/-- what a Hash holds: its numbers, masked; bytes that are left; how many bytes there were -/
structure H13 where
  (k0 k1 k2 k3 l0 l1 l2 l3 l4 l5 l6 l7 m : Nat)
def H13.cells (s : H13) : List Clu.AV := [.i .u64 (.ofNat s.k0), .i .u64 (.ofNat s.k1), .i .u64 (.ofNat s.k2), .i .u64 (.ofNat s.k3), .i .u8 (.ofNat s.l0), .i .u8 (.ofNat s.l1), .i .u8 (.ofNat s.l2), .i .u8 (.ofNat s.l3), .i .u8 (.ofNat s.l4), .i .u8 (.ofNat s.l5), .i .u8 (.ofNat s.l6), .i .u8 (.ofNat s.l7), .i .i64 (.ofNat s.m)]
/-- .. while it is written: with the four numbers, unmasked -/
structure S13 where
  (v0 v1 v2 v3 l0 l1 l2 l3 l4 l5 l6 l7 m : Nat)
def S13.vc (s : S13) : List Clu.AV := [.i .u64 (.ofNat s.v0), .i .u64 (.ofNat s.v1), .i .u64 (.ofNat s.v2), .i .u64 (.ofNat s.v3)]
def S13.hc (s : S13) (k0 k1 k2 k3 : Nat) : List Clu.AV := H13.cells ⟨k0, k1, k2, k3, s.l0, s.l1, s.l2, s.l3, s.l4, s.l5, s.l6, s.l7, s.m⟩
/-- a byte -/
def S13.step (a0 a1 a2 a3 : Nat → Nat → Nat → Nat → Nat → Nat) (nu : Nat → Nat → Nat → Nat → Nat → Nat → Nat → Nat → Nat) (s : S13) (c : Nat) : S13 :=
  if s.m % 8 = 0 then { s with l0 := c, m := s.m + 1 }
  else if s.m % 8 = 1 then { s with l1 := c, m := s.m + 1 }
  else if s.m % 8 = 2 then { s with l2 := c, m := s.m + 1 }
  else if s.m % 8 = 3 then { s with l3 := c, m := s.m + 1 }
  else if s.m % 8 = 4 then { s with l4 := c, m := s.m + 1 }
  else if s.m % 8 = 5 then { s with l5 := c, m := s.m + 1 }
  else if s.m % 8 = 6 then { s with l6 := c, m := s.m + 1 }
  else
    let b := nu s.l0 s.l1 s.l2 s.l3 s.l4 s.l5 s.l6 c
    ⟨a0 s.v0 s.v1 s.v2 s.v3 b, a1 s.v0 s.v1 s.v2 s.v3 b, a2 s.v0 s.v1 s.v2 s.v3 b, a3 s.v0 s.v1 s.v2 s.v3 b, 0, 0, 0, 0, 0, 0, 0, 0, s.m + 1⟩
/-- so many bytes of a text, from a place on -/
def S13.go (a0 a1 a2 a3 : Nat → Nat → Nat → Nat → Nat → Nat) (nu : Nat → Nat → Nat → Nat → Nat → Nat → Nat → Nat → Nat) (N : Nat) : Nat → Nat → S13 → S13
  | 0, _, s => s
  | f + 1, at_, s => S13.go a0 a1 a2 a3 nu N f (at_ + 1) (s.step a0 a1 a2 a3 nu (Clu.byteN N at_))
theorem wr_one {r0 r1 r2 r3 : Nat → Nat → Nat → Nat → Nat} {a0 a1 a2 a3 : Nat → Nat → Nat → Nat → Nat → Nat} {nu : Nat → Nat → Nat → Nat → Nat → Nat → Nat → Nat → Nat} (hX : Clu.XOK Tryd.prog (sipX3 r0 r1 r2 r3 a0 a1 a2 a3 nu)) {n N at_ k0 k1 k2 k3 : Nat} (s : S13) (hn : n ≤ 140737488351232) (hm : s.m ≤ 4611686018427387904) (h1 : at_ < n) (os : Nat → Option Clu.AV) (hos : ∀ t, Clu.flatB (os t) = true) :
    ∃ os' : Nat → Option Clu.AV, (∀ t, Clu.flatB (os' t) = true) ∧ Clu.RunE Tryd.prog 50 (Clu.loopNo Tryd.f15 0) 60 1000 (Clu.mkFr 60 (Clu.std [0, 1, 4, 5, 15, 16] [.p 1000 0, .s n N, .i .i64 (.ofNat 0), .p 1003 0, .i .i64 (.ofNat n), .i .i64 (.ofNat at_)] [8, 17, 43] os)) (Clu.mkH .e ([(1000, .c (s.hc k0 k1 k2 k3) 0 0 (some 67)), (1003, .c s.vc 0 0 (some 64))] ++ Clu.layB masks)) 1004 (Clu.exOf 0)
      (Clu.mkFr 60 (Clu.std [0, 1, 4, 5, 15, 16] [.p 1000 0, .s n N, .i .i64 (.ofNat 0), .p 1003 0, .i .i64 (.ofNat n), .i .i64 (.ofNat (at_ + 1))] [8, 17, 43] os')) (Clu.mkH .e ([(1000, .c ((s.step a0 a1 a2 a3 nu (Clu.byteN N at_)).hc k0 k1 k2 k3) 0 0 (some 67)), (1003, .c (s.step a0 a1 a2 a3 nu (Clu.byteN N at_)).vc 0 0 (some 64))] ++ Clu.layB masks)) 1004 := by
  obtain ⟨v0, v1, v2, v3, l0, l1, l2, l3, l4, l5, l6, l7, m⟩ := s
  unfold S13.step
  simp only at hm ⊢
  by_cases e0 : m % 8 = 0
  · rw [if_pos e0]; exact wr_0 _ _ _ _ _ _ _ _ _ _ _ _ _ _ _ _ _ _ _ _ _ _ _ _ _ _ _ _ _ hX hn hm h1 e0 os hos
  rw [if_neg e0]
  by_cases e1 : m % 8 = 1
  · rw [if_pos e1]; exact wr_1 _ _ _ _ _ _ _ _ _ _ _ _ _ _ _ _ _ _ _ _ _ _ _ _ _ _ _ _ _ hX hn hm h1 e1 os hos
  rw [if_neg e1]
  by_cases e2 : m % 8 = 2
  · rw [if_pos e2]; exact wr_2 _ _ _ _ _ _ _ _ _ _ _ _ _ _ _ _ _ _ _ _ _ _ _ _ _ _ _ _ _ hX hn hm h1 e2 os hos
  rw [if_neg e2]
  by_cases e3 : m % 8 = 3
  · rw [if_pos e3]; exact wr_3 _ _ _ _ _ _ _ _ _ _ _ _ _ _ _ _ _ _ _ _ _ _ _ _ _ _ _ _ _ hX hn hm h1 e3 os hos
  rw [if_neg e3]
  by_cases e4 : m % 8 = 4
  · rw [if_pos e4]; exact wr_4 _ _ _ _ _ _ _ _ _ _ _ _ _ _ _ _ _ _ _ _ _ _ _ _ _ _ _ _ _ hX hn hm h1 e4 os hos
  rw [if_neg e4]
  by_cases e5 : m % 8 = 5
  · rw [if_pos e5]; exact wr_5 _ _ _ _ _ _ _ _ _ _ _ _ _ _ _ _ _ _ _ _ _ _ _ _ _ _ _ _ _ hX hn hm h1 e5 os hos
  rw [if_neg e5]
  by_cases e6 : m % 8 = 6
  · rw [if_pos e6]; exact wr_6 _ _ _ _ _ _ _ _ _ _ _ _ _ _ _ _ _ _ _ _ _ _ _ _ _ _ _ _ _ hX hn hm h1 e6 os hos
  rw [if_neg e6]
  exact wr_7 _ _ _ _ _ _ _ _ _ _ _ _ _ _ _ _ _ _ _ _ _ _ _ _ _ _ _ _ _ hX hn hm h1 (by omega) os hos
theorem step_m (a0 a1 a2 a3 : Nat → Nat → Nat → Nat → Nat → Nat) (nu : Nat → Nat → Nat → Nat → Nat → Nat → Nat → Nat → Nat) (s : S13) (c : Nat) : (s.step a0 a1 a2 a3 nu c).m = s.m + 1 := by
  unfold S13.step
  split
  · rfl
  split
  · rfl
  split
  · rfl
  split
  · rfl
  split
  · rfl
  split
  · rfl
  split
  · rfl
  rfl
theorem go_m (a0 a1 a2 a3 : Nat → Nat → Nat → Nat → Nat → Nat) (nu : Nat → Nat → Nat → Nat → Nat → Nat → Nat → Nat → Nat) (N : Nat) : ∀ (f at_ : Nat) (s : S13), (S13.go a0 a1 a2 a3 nu N f at_ s).m = s.m + f
  | 0, _, s => rfl
  | f + 1, at_, s => by rw [S13.go, go_m a0 a1 a2 a3 nu N f, step_m]; omega
/-- all rounds of Write -/
theorem wr_loop {r0 r1 r2 r3 : Nat → Nat → Nat → Nat → Nat} {a0 a1 a2 a3 : Nat → Nat → Nat → Nat → Nat → Nat} {nu : Nat → Nat → Nat → Nat → Nat → Nat → Nat → Nat → Nat} (hX : Clu.XOK Tryd.prog (sipX3 r0 r1 r2 r3 a0 a1 a2 a3 nu)) {n N k0 k1 k2 k3 : Nat} (hn : n ≤ 140737488351232) : ∀ (f at_ : Nat) (s : S13), at_ + f = n → s.m + f ≤ 4611686018427387904 →
    Clu.LoopQ Tryd.prog (Clu.loopNo Tryd.f15 0) (51 + f) 60 1000 ([(1000, .c (s.hc k0 k1 k2 k3) 0 0 (some 67)), (1003, .c s.vc 0 0 (some 64))] ++ Clu.layB masks) 1004 2 [0, 1, 4, 5, 15, 16] [.p 1000 0, .s n N, .i .i64 (.ofNat 0), .p 1003 0, .i .i64 (.ofNat n), .i .i64 (.ofNat at_)] [8, 17, 43] [0, 1, 4, 5, 15, 16] [.p 1000 0, .s n N, .i .i64 (.ofNat 0), .p 1003 0, .i .i64 (.ofNat n), .i .i64 (.ofNat n)]
      ([(1000, .c ((S13.go a0 a1 a2 a3 nu N f at_ s).hc k0 k1 k2 k3) 0 0 (some 67)), (1003, .c (S13.go a0 a1 a2 a3 nu N f at_ s).vc 0 0 (some 64))] ++ Clu.layB masks) 1004
  | 0, at_, s, hf, hm => by
    obtain rfl : at_ = n := by omega
    exact Clu.LoopQ.out (n := 50) (by simp [Clu.exOf]) (by omega) fun os ho => wr_end _ _ _ _ _ _ _ _ _ _ _ _ _ _ _ _ _ _ _ _ _ _ _ _ _ _ _ _ _ hX hn (by omega) (Nat.le_refl _) os ho
  | f + 1, at_, s, hf, hm => by
    exact Clu.LoopQ.more (show 50 ≤ 51 + f by omega) (fun os ho => wr_one hX s hn (by omega) (by omega) os ho) (wr_loop hX hn f (at_ + 1) _ (by omega) (by rw [step_m]; omega))
end Go.Proofs.YtdhhocmdolnfiaaDoor
