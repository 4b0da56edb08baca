/-
  CursorReads: its run, at whatever arguments.
-/
import Derived.Test.YtdhhocmdolnfiaaDoorCursorReadsBase
import Derived.Test.YtdhhocmdolnfiaaDoorCurL
namespace Go.Proofs.YtdhhocmdolnfiaaDoor.cursorReads
open Go.RowKit
set_option linter.unusedVariables false
set_option linter.unusedSimpArgs false
set_option maxRecDepth 100000

set_option maxRecDepth 10000000 in
theorem law_a_raw (n N : Nat) (L : List Clu.AV) (len cap : Nat) : (Clu.runL (Clu.noL) Tryd.prog (Clu.tell (X) 7 1000020) 1000000 1001 7 [.s n N, .sl 1000 0 len cap] (Clu.mkH .e (Clu.argB [(1000, L)] ++ Clu.layB lays)) 1001) = Clu.needT (Clu.iLt (Int.ofNat 20000) (Int.ofNat n)) (.err 42 1) (Clu.Out.ok (Clu.AV.b true)) := by kernel_rfl
set_option maxHeartbeats 4000000 in
set_option linter.unusedSimpArgs false in
theorem law_a (n N : Nat) (L : List Clu.AV) (len cap : Nat) (hl : len ≤ 9223372036854775807) (hn : n ≤ 140737488351232) (h1 : 20000 < n) : (Clu.runL (Clu.noL) Tryd.prog (Clu.tell (X) 7 1000020) 1000000 1001 7 [.s n N, .sl 1000 0 len cap] (Clu.mkH .e (Clu.argB [(1000, L)] ++ Clu.layB lays)) 1001) = Clu.Out.ok (Clu.AV.b true) := by
  rw [law_a_raw]
  refine (Clu.needT_eq (show _ = true by exact Clu.iLt_t (by (try simp only [Int.ofNat_eq_natCast, Nat.add_eq, Nat.sub_eq, Nat.mul_eq, Nat.succ_eq_add_one]); omega)) _ _).trans ?_
  rfl

set_option maxRecDepth 10000000 in
theorem law_b_raw (n N : Nat) (L : List Clu.AV) (len cap : Nat) : (Clu.runL (Clu.noL) Tryd.prog (Clu.tell (X) 7 10000281000021) 1000000 1001 7 [.s n N, .sl 1000 0 len cap] (Clu.mkH .e (Clu.argB [(1000, L)] ++ Clu.layB lays)) 1001) = Clu.needF (Clu.iLt (Int.ofNat 20000) (Int.ofNat n)) (.err 42 2) (Clu.needT (Clu.iLt (Int.ofNat 500) (Int.ofNat len)) (.err 42 1) (Clu.Out.ok (Clu.AV.b true))) := by kernel_rfl
set_option maxHeartbeats 4000000 in
set_option linter.unusedSimpArgs false in
theorem law_b (n N : Nat) (L : List Clu.AV) (len cap : Nat) (hl : len ≤ 9223372036854775807) (hn : n ≤ 140737488351232) (h1 : n ≤ 20000) (h2 : 500 < len) : (Clu.runL (Clu.noL) Tryd.prog (Clu.tell (X) 7 10000281000021) 1000000 1001 7 [.s n N, .sl 1000 0 len cap] (Clu.mkH .e (Clu.argB [(1000, L)] ++ Clu.layB lays)) 1001) = Clu.Out.ok (Clu.AV.b true) := by
  rw [law_b_raw]
  refine (Clu.needF_eq (show _ = false by exact Clu.iLt_f (by (try simp only [Int.ofNat_eq_natCast, Nat.add_eq, Nat.sub_eq, Nat.mul_eq, Nat.succ_eq_add_one]); omega)) _ _).trans ?_
  refine (Clu.needT_eq (show _ = true by exact Clu.iLt_t (by (try simp only [Int.ofNat_eq_natCast, Nat.add_eq, Nat.sub_eq, Nat.mul_eq, Nat.succ_eq_add_one]); omega)) _ _).trans ?_
  rfl

set_option maxRecDepth 10000000 in
theorem law_c_raw (n N : Nat) (L : List Clu.AV) (len cap : Nat) (E : Nat) : (Clu.runL (partC [1000126] E) Tryd.prog (Clu.tell (X) 7 100012610000291000021) 1000000 1001 7 [.s n N, .sl 1000 0 len cap] (Clu.mkH .e (Clu.argB [(1000, L)] ++ Clu.layB lays)) 1001) = Clu.needF (Clu.iLt (Int.ofNat 20000) (Int.ofNat n)) (.err 42 2) (Clu.needF (Clu.iLt (Int.ofNat 500) (Int.ofNat len)) (.err 42 2) (Clu.needP (Clu.loopNo Go.Proofs.Tryd.f7 0 = Clu.loopNo Go.Proofs.Tryd.f7 0) (fun _ => .err 91 0) (fun h398 => Clu.needP (Clu.LoopQ (Go.Proofs.Tryd.prog) (Clu.loopNo Go.Proofs.Tryd.f7 0) (999994) (67) (1001) ([(Prod.mk 1001 (Clu.Blk.c [(Clu.AV.s (n) (N)), (Clu.AV.i IntKind.i64 (Int.ofNat 0))] 0 0 (Option.some 81))), (Prod.mk 1002 (Clu.Blk.c [(Clu.AV.s (n) (N)), (Clu.AV.i IntKind.i64 (Int.ofNat 0))] 0 0 (Option.some 46))), (Prod.mk 1000 (Clu.Blk.c L 1000000000000000000000 0 Option.none)), (Prod.mk 1 (Clu.Blk.c [(Clu.AV.fa 113 (Clu.AV.ag [(Clu.AV.p 2 92)]))] 1 0 Option.none))]) (1003) (2) ([0, 1, 4, 5, 6, 7]) ([(Clu.AV.s (n) (N)), (Clu.AV.sl 1000 0 (len) (cap)), (Clu.AV.b false), (Clu.AV.p 1001 0), (Clu.AV.p 1002 0), (Clu.AV.i IntKind.i64 (Int.ofNat 0))]) ([10, 11, 14, 15, 25, 34, 35, 36, 43, 44, 45, 55, 56]) ([0, 1, 4, 5, 6, 7]) ([(Clu.AV.s (n) (N)), (Clu.AV.sl 1000 0 (len) (cap)), (Clu.AV.b false), (Clu.AV.p 1001 0), (Clu.AV.p 1002 0), (Clu.AV.i IntKind.i64 (Int.ofNat (len)))]) ([(Prod.mk 1001 (Clu.Blk.c [(Clu.AV.s (n) (N)), (Clu.AV.i IntKind.i64 (Int.ofNat (E)))] 0 0 (Option.some 81))), (Prod.mk 1002 (Clu.Blk.c [(Clu.AV.s (n) (N)), (Clu.AV.i IntKind.i64 (Int.ofNat (E)))] 0 0 (Option.some 46))), (Prod.mk 1000 (Clu.Blk.c L 1000000000000000000000 0 Option.none)), (Prod.mk 1 (Clu.Blk.c [(Clu.AV.fa 113 (Clu.AV.ag [(Clu.AV.p 2 92)]))] 1 0 Option.none))]) (1003)) (fun _ => .err 93 1) (fun h397 => Clu.needT (Clu.iEq (Int.ofNat E) (Int.ofNat E)) (.err 42 1) (Clu.Out.ok (Clu.AV.b true)))))) := by kernel_rfl
set_option maxHeartbeats 4000000 in
set_option linter.unusedSimpArgs false in
theorem law_c (n N : Nat) (L : List Clu.AV) (len cap : Nat) (E : Nat) (hl : len ≤ 9223372036854775807) (hn : n ≤ 140737488351232) (hP : CurLoop (51 + len) n N L len cap 0 0 E) (h1 : n ≤ 20000) (h2 : len ≤ 500) : (Clu.runL (partC [1000126] E) Tryd.prog (Clu.tell (X) 7 100012610000291000021) 1000000 1001 7 [.s n N, .sl 1000 0 len cap] (Clu.mkH .e (Clu.argB [(1000, L)] ++ Clu.layB lays)) 1001) = Clu.Out.ok (Clu.AV.b true) := by
  rw [law_c_raw]
  refine (Clu.needF_eq (show _ = false by first | (first | exact Clu.iEq_t rfl) | (exact Clu.iLt_f (by (try simp only [Int.ofNat_eq_natCast, Nat.add_eq, Nat.sub_eq, Nat.mul_eq, Nat.succ_eq_add_one]); omega))) _ _).trans ?_
  refine (Clu.needF_eq (show _ = false by first | (first | exact Clu.iEq_t rfl) | (exact Clu.iLt_f (by (try simp only [Int.ofNat_eq_natCast, Nat.add_eq, Nat.sub_eq, Nat.mul_eq, Nat.succ_eq_add_one]); omega))) _ _).trans ?_
  refine (Clu.needP_eq (show _ by first | rfl | exact Clu.LoopQ.upto hP (by omega)) _ _).trans ?_
  refine (Clu.needP_eq (by exact Clu.LoopQ.upto hP (by omega)) _ _).trans ?_
  refine (Clu.needT_eq (show _ = true by first | (first | exact Clu.iEq_t rfl) | (exact Clu.iEq_t (by (try simp only [Int.ofNat_eq_natCast, Nat.add_eq, Nat.sub_eq, Nat.mul_eq, Nat.succ_eq_add_one]); omega))) _ _).trans ?_
  rfl

set_option maxRecDepth 10000000 in
theorem law_n_raw (n N : Nat) : (Clu.runL (Clu.noL) Tryd.prog (Clu.tell (X) 7 10001261000021) 1000000 1000 7 [.s n N, .sn] (Clu.mkH .e (Clu.argB [] ++ Clu.layB lays)) 1000) = Clu.needF (Clu.iLt (Int.ofNat 20000) (Int.ofNat n)) (.err 42 2) (Clu.Out.ok (Clu.AV.b true)) := by kernel_rfl
set_option maxHeartbeats 4000000 in
set_option linter.unusedSimpArgs false in
theorem law_n (n N : Nat) (hn : n ≤ 140737488351232) (h1 : n ≤ 20000) : (Clu.runL (Clu.noL) Tryd.prog (Clu.tell (X) 7 10001261000021) 1000000 1000 7 [.s n N, .sn] (Clu.mkH .e (Clu.argB [] ++ Clu.layB lays)) 1000) = Clu.Out.ok (Clu.AV.b true) := by
  rw [law_n_raw]
  refine (Clu.needF_eq (show _ = false by first | (first | exact Clu.iEq_t rfl) | (exact Clu.iLt_f (by (try simp only [Int.ofNat_eq_natCast, Nat.add_eq, Nat.sub_eq, Nat.mul_eq, Nat.succ_eq_add_one]); omega))) _ _).trans ?_
  rfl

set_option maxRecDepth 10000000 in
theorem law_m_raw (n N : Nat) : (Clu.runL (Clu.noL) Tryd.prog (Clu.tell (X) 7 1000020) 1000000 1000 7 [.s n N, .sn] (Clu.mkH .e (Clu.argB [] ++ Clu.layB lays)) 1000) = Clu.needT (Clu.iLt (Int.ofNat 20000) (Int.ofNat n)) (.err 42 1) (Clu.Out.ok (Clu.AV.b true)) := by kernel_rfl
set_option maxHeartbeats 4000000 in
set_option linter.unusedSimpArgs false in
theorem law_m (n N : Nat) (hn : n ≤ 140737488351232) (h1 : 20000 < n) : (Clu.runL (Clu.noL) Tryd.prog (Clu.tell (X) 7 1000020) 1000000 1000 7 [.s n N, .sn] (Clu.mkH .e (Clu.argB [] ++ Clu.layB lays)) 1000) = Clu.Out.ok (Clu.AV.b true) := by
  rw [law_m_raw]
  refine (Clu.needT_eq (show _ = true by exact Clu.iLt_t (by (try simp only [Int.ofNat_eq_natCast, Nat.add_eq, Nat.sub_eq, Nat.mul_eq, Nat.succ_eq_add_one]); omega)) _ _).trans ?_
  rfl

theorem run_n (n N : Nat) (hn : n ≤ 140737488351232) : ∃ LT, Clu.LOK Tryd.prog LT ∧ ∃ Y, Clu.XOK Tryd.prog Y ∧ Clu.runL LT Tryd.prog Y 1000000 1000 7 [.s n N, .sn] (Clu.mkH .e (Clu.argB [] ++ Clu.layB lays)) 1000 = .ok (.b true) := by
  by_cases h1 : n ≤ 20000
  · exact ⟨_, Clu.noL_ok, _, Clu.tell_ok X_ok, law_n n N hn h1⟩
  · exact ⟨_, Clu.noL_ok, _, Clu.tell_ok X_ok, law_m n N hn (by omega)⟩
theorem run_r (n N : Nat) (hn : n ≤ 140737488351232) (L : List Clu.AV) (len cap : Nat) (h1 : len ≤ cap) (h2 : cap ≤ maxLen) (h3 : L.length = len * 2) (hU : Clu.AV.flts L = true) (hE : ∀ j, j < len → (∃ z : Int, Clu.getL L (j * 2 + 0) = some (.i .u8 z) ∧ (Lit.int .u8 z).wf = true) ∧ (∃ z : Int, Clu.getL L (j * 2 + 1) = some (.i .i64 z) ∧ (Lit.int .i64 z).wf = true)) :
    ∃ LT, Clu.LOK Tryd.prog LT ∧ ∃ Y, Clu.XOK Tryd.prog Y ∧ Clu.runL LT Tryd.prog Y 1000000 1001 7 [.s n N, .sl 1000 0 len cap] (Clu.mkH .e (Clu.argB [(1000, L)] ++ Clu.layB lays)) 1001 = .ok (.b true) := by
  have hmax : maxLen = 9223372036854775807 := rfl
  have hl : len ≤ 9223372036854775807 := by omega
  by_cases q1 : n ≤ 20000
  · by_cases q2 : len ≤ 500
    · have hT : Acts L len := fun i hi => by
        obtain ⟨⟨z, e1, e2⟩, ⟨y, e3, e4⟩⟩ := hE i hi
        have e1' : Clu.getL L (Nat.add 0 (Nat.mul i 2)) = some (.i .u8 z) := by
          rw [show Nat.add 0 (Nat.mul i 2) = i * 2 + 0 by simp]
          exact e1
        have e3' : Clu.getL L (Nat.succ (Nat.add 0 (Nat.mul i 2))) = some (.i .i64 y) := by
          rw [show Nat.succ (Nat.add 0 (Nat.mul i 2)) = i * 2 + 1 by simp]
          exact e3
        rw [e1', e3']
        refine ⟨?_, rfl⟩
        have hz : 0 ≤ z := by
          simp only [Lit.wf, Bool.and_eq_true, decide_eq_true_eq] at e2
          exact Int.le_trans (show (0 : Int) ≤ IntKind.u8.min by decide) e2.1
        obtain ⟨m, rfl⟩ := Int.eq_ofNat_of_zero_le hz
        rfl
      obtain ⟨E, _, hP⟩ := cr_loop n N L len cap hU hl q1 hT len 0 0 (by omega) (Nat.zero_le _)
      exact ⟨_, partC_ok _ E, _, Clu.tell_ok X_ok, law_c n N L len cap E hl hn hP q1 q2⟩
    · exact ⟨_, Clu.noL_ok, _, Clu.tell_ok X_ok, law_b n N L len cap hl hn q1 (by omega)⟩
  · exact ⟨_, Clu.noL_ok, _, Clu.tell_ok X_ok, law_a n N L len cap hl hn (by omega)⟩
end Go.Proofs.YtdhhocmdolnfiaaDoor.cursorReads
