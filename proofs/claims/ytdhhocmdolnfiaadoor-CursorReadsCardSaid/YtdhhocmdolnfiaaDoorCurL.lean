/-
  CursorReads: all rounds.
-/
import Derived.Test.YtdhhocmdolnfiaaDoorCurR
namespace Go.Proofs.YtdhhocmdolnfiaaDoor
open Go.RowKit
set_option linter.unusedVariables false
set_option linter.unusedSimpArgs false
/-- so many acts are behind it -/
def CurLoop (fuel n N : Nat) (L : List Clu.AV) (len cap i a e : Nat) : Prop := Clu.LoopQ Tryd.prog (Clu.loopNo Tryd.f7 0) fuel 67 1001 ([(1001, .c [.s n N, .i .i64 (.ofNat a)] 0 0 (some 81)), (1002, .c [.s n N, .i .i64 (.ofNat a)] 0 0 (some 46))] ++ (Clu.argB [(1000, L)] ++ Clu.layB [Clu.errCells])) 1003 2 [0, 1, 4, 5, 6, 7] [.s n N, .sl 1000 0 len cap, .b false, .p 1001 0, .p 1002 0, .i .i64 (.ofNat i)] [10, 11, 14, 15, 25, 34, 35, 36, 43, 44, 45, 55, 56] [0, 1, 4, 5, 6, 7] [.s n N, .sl 1000 0 len cap, .b false, .p 1001 0, .p 1002 0, .i .i64 (.ofNat len)] ([(1001, .c [.s n N, .i .i64 (.ofNat e)] 0 0 (some 81)), (1002, .c [.s n N, .i .i64 (.ofNat e)] 0 0 (some 46))] ++ (Clu.argB [(1000, L)] ++ Clu.layB [Clu.errCells])) 1003
def CurStep (n N : Nat) (L : List Clu.AV) (len cap i a e : Nat) : Prop := ∀ os : Nat → Option Clu.AV, (∀ t, Clu.flatB (os t) = true) → ∃ os' : Nat → Option Clu.AV, (∀ t, Clu.flatB (os' t) = true) ∧ Clu.RunE Tryd.prog 50 (Clu.loopNo Tryd.f7 0) 67 1001 (Clu.mkFr 67 (Clu.std [0, 1, 4, 5, 6, 7] [.s n N, .sl 1000 0 len cap, .b false, .p 1001 0, .p 1002 0, .i .i64 (.ofNat i)] [10, 11, 14, 15, 25, 34, 35, 36, 43, 44, 45, 55, 56] os)) (Clu.mkH .e ([(1001, .c [.s n N, .i .i64 (.ofNat a)] 0 0 (some 81)), (1002, .c [.s n N, .i .i64 (.ofNat a)] 0 0 (some 46))] ++ (Clu.argB [(1000, L)] ++ Clu.layB [Clu.errCells]))) 1003 (Clu.exOf 0)
  (Clu.mkFr 67 (Clu.std [0, 1, 4, 5, 6, 7] [.s n N, .sl 1000 0 len cap, .b false, .p 1001 0, .p 1002 0, .i .i64 (.ofNat (i + 1))] [10, 11, 14, 15, 25, 34, 35, 36, 43, 44, 45, 55, 56] os')) (Clu.mkH .e ([(1001, .c [.s n N, .i .i64 (.ofNat e)] 0 0 (some 81)), (1002, .c [.s n N, .i .i64 (.ofNat e)] 0 0 (some 46))] ++ (Clu.argB [(1000, L)] ++ Clu.layB [Clu.errCells]))) 1003
theorem cr_step (n N : Nat) (L : List Clu.AV) (len cap i a : Nat) (hU : Clu.AV.flts L = true) (hl : len ≤ 9223372036854775807) (hn : n ≤ 20000) (ha : a ≤ n) (hw : Clu.isU .u8 (Clu.getL L (Nat.add 0 (Nat.mul i 2))) = true) (hi : Clu.isI .i64 (Clu.getL L (Nat.succ (Nat.add 0 (Nat.mul i 2)))) = true) (h1 : i < len) : ∃ e, e ≤ n ∧ CurStep n N L len cap i a e := by
  rcases (show Clu.iN (Clu.getL L (Nat.add 0 (Nat.mul i 2))) = 0 ∨ Clu.iN (Clu.getL L (Nat.add 0 (Nat.mul i 2))) = 1 ∨ Clu.iN (Clu.getL L (Nat.add 0 (Nat.mul i 2))) = 2 ∨ Clu.iN (Clu.getL L (Nat.add 0 (Nat.mul i 2))) = 3 ∨ 4 ≤ Clu.iN (Clu.getL L (Nat.add 0 (Nat.mul i 2))) by omega) with hk | hk | hk | hk | hk
  · by_cases h2 : a + 1 ≤ n
    · exact ⟨_, h2, fun os hos => cr_0b n N L len cap i a hU hl hn ha hw hi h1 hk h2 os hos⟩
    · exact ⟨_, ha, fun os hos => cr_0a n N L len cap i a hU hl hn ha hw hi h1 hk (by omega) os hos⟩
  · by_cases h2 : a + 2 ≤ n
    · exact ⟨_, h2, fun os hos => cr_1b n N L len cap i a hU hl hn ha hw hi h1 hk h2 os hos⟩
    · exact ⟨_, ha, fun os hos => cr_1a n N L len cap i a hU hl hn ha hw hi h1 hk (by omega) os hos⟩
  · by_cases h2 : a + 4 ≤ n
    · exact ⟨_, h2, fun os hos => cr_2b n N L len cap i a hU hl hn ha hw hi h1 hk h2 os hos⟩
    · exact ⟨_, ha, fun os hos => cr_2a n N L len cap i a hU hl hn ha hw hi h1 hk (by omega) os hos⟩
  · by_cases h2 : Clu.iZ (Clu.getL L (Nat.succ (Nat.add 0 (Nat.mul i 2)))) < 0
    · exact ⟨_, ha, fun os hos => cr_3a n N L len cap i a hU hl hn ha hw hi h1 hk h2 os hos⟩
    · by_cases h3 : (n : Int) - a < Clu.iZ (Clu.getL L (Nat.succ (Nat.add 0 (Nat.mul i 2))))
      · exact ⟨_, ha, fun os hos => cr_3b n N L len cap i a hU hl hn ha hw hi h1 hk (by omega) h3 os hos⟩
      · exact ⟨_, by omega, fun os hos => cr_3c Int.toNat pTk n N L len cap i a tkX_ok hU hl hn ha hw hi h1 hk (by simp only [Int.ofNat_eq_natCast]; omega) (by omega) os hos⟩
  · by_cases h2 : Clu.iZ (Clu.getL L (Nat.succ (Nat.add 0 (Nat.mul i 2)))) < 0
    · exact ⟨_, ha, fun os hos => cr_4a n N L len cap i a hU hl hn ha hw hi h1 hk h2 os hos⟩
    · by_cases h3 : (n : Int) < Clu.iZ (Clu.getL L (Nat.succ (Nat.add 0 (Nat.mul i 2))))
      · exact ⟨_, ha, fun os hos => cr_4b n N L len cap i a hU hl hn ha hw hi h1 hk (by omega) h3 os hos⟩
      · obtain ⟨m, hm⟩ := Int.eq_ofNat_of_zero_le (Int.not_lt.1 h2)
        exact ⟨m, by omega, fun os hos => by
          have := cr_4c n N L len cap i a hU hl hn ha hw hi h1 hk (by omega) (by omega) os hos
          rw [hm] at this
          exact this⟩
/-- each element is an act -/
def Acts (L : List Clu.AV) (len : Nat) : Prop := ∀ i, i < len → Clu.isU .u8 (Clu.getL L (Nat.add 0 (Nat.mul i 2))) = true ∧ Clu.isI .i64 (Clu.getL L (Nat.succ (Nat.add 0 (Nat.mul i 2)))) = true
theorem cr_loop (n N : Nat) (L : List Clu.AV) (len cap : Nat) (hU : Clu.AV.flts L = true) (hl : len ≤ 9223372036854775807) (hn : n ≤ 20000) (hT : Acts L len) : ∀ f i a, i + f = len → a ≤ n → ∃ e, e ≤ n ∧ CurLoop (51 + f) n N L len cap i a e
  | 0, i, a, hf, ha => by
    obtain rfl : i = len := by omega
    exact ⟨a, ha, Clu.LoopQ.out (n := 50) (by simp [Clu.exOf]) (by omega) fun os ho => cr_end n N L i cap i a hU hl hn ha (Nat.le_refl _) os ho⟩
  | f + 1, i, a, hf, ha => by
    have h1 : i < len := by omega
    obtain ⟨e1, q1, q2⟩ := cr_step n N L len cap i a hU hl hn ha (hT i h1).1 (hT i h1).2 h1
    obtain ⟨e, q3, q4⟩ := cr_loop n N L len cap hU hl hn hT f (i + 1) e1 (by omega) q1
    exact ⟨e, q3, Clu.LoopQ.more (show 50 ≤ 51 + f by omega) (fun os ho => q2 os ho) q4⟩
/-- what the rounds come to -/
def FCur (E : Nat) (vs : List Clu.AV) (bl : List (Nat × Clu.Blk)) (nx : Nat) : Option (List Clu.AV × List (Nat × Clu.Blk) × Nat) := match vs, bl with
  | [a, .sl id o len cap, c, d, x, _], [(id1, .c [.s n N, _] f1 o1 p1), (id2, .c [.s n2 N2, _] f2 o2 p2)] =>
    some ([a, .sl id o len cap, c, d, x, .i .i64 (.ofNat len)], [(id1, .c [.s n N, .i .i64 (.ofNat E)] f1 o1 p1), (id2, .c [.s n2 N2, .i .i64 (.ofNat E)] f2 o2 p2)], nx)
  | _, _ => none
noncomputable def partC (ks : List Nat) (E : Nat) : Code → Option Clu.LT := Clu.addL Clu.noL (Clu.loopNo Tryd.f7 0) 5 (Clu.loopK ks Tryd.prog (Clu.loopNo Tryd.f7 0) 2 [0, 1, 4, 5, 6, 7] [10, 11, 14, 15, 25, 34, 35, 36, 43, 44, 45, 55, 56] [0, 1, 4, 5, 6, 7] [1000, 1] [1001, 1002] (FCur E))
theorem partC_ok (ks : List Nat) (E : Nat) : Clu.LOK Tryd.prog (partC ks E) := Clu.addL_ok Clu.noL_ok Clu.loopK_ok
end Go.Proofs.YtdhhocmdolnfiaaDoor
