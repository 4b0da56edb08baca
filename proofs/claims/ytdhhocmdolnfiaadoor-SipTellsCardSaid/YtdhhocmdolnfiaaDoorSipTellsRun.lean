/-
  SipTells: its run, at whatever arguments.
-/
import Derived.Test.YtdhhocmdolnfiaaDoorSipTellsBase
import Derived.Test.YtdhhocmdolnfiaaDoorSipY
namespace Go.Proofs.YtdhhocmdolnfiaaDoor.sipTells
open Go.RowKit
set_option linter.unusedVariables false
set_option linter.unusedSimpArgs false
set_option maxRecDepth 100000
def FRS (rsm : Nat → Nat → Nat → Nat → Nat) : List Clu.AV → Option Clu.AV
  | [.i .u64 (.ofNat a), .i .u64 (.ofNat b), .s n N] => some (.i .u64 (.ofNat (rsm a b n N)))
  | _ => none
def BRS : List Clu.AV → List Bool
  | [_, _, .s n _] => [Nat.ble n 100000]
  | _ => [false]
noncomputable def Xt (w : H13 → Nat → Nat → H13) (sm : H13 → Nat) (rsm : Nat → Nat → Nat → Nat → Nat) : Clu.XT := Clu.addB (Clu.addB (Clu.addB X 15 (Clu.ptrB BWrite 67 masks (FWrite w))) 17 (Clu.ptrH 67 masks (FSum sm))) 12 (Clu.funB BRS (FRS rsm))
theorem Xt_ok : Clu.XOK Tryd.prog (Xt pW pSum rSum) := Clu.addB_ok (Clu.addB_ok (Clu.addB_ok X_ok writeH_ok) sumH_ok) (Clu.funB_ok fun l v h hb => by
    unfold FRS at h
    split at h
    · cases h; exact rsum _ _ (Clu.ble_iff.1 (hb _ (List.mem_cons_self ..)))
    · cases h)

set_option maxRecDepth 10000000 in
theorem te_a_raw (w : H13 → Nat → Nat → H13) (sm : H13 → Nat) (rsm : Nat → Nat → Nat → Nat → Nat) (k0 k1 n N : Nat) : (Clu.layK lays .e fun h => Clu.runF Tryd.prog (Clu.tell (Xt w sm rsm) 3 1000018) 1000000 1000 3 [.i .u64 (.ofNat k0), .i .u64 (.ofNat k1), .s n N] h 1000) = Clu.needT (Clu.iLt (Int.ofNat 5000) (Int.ofNat n)) (.err 42 1) (Clu.Out.ok (Clu.AV.b true)) := by kernel_rfl
set_option maxHeartbeats 4000000 in
set_option linter.unusedSimpArgs false in
theorem te_a (w : H13 → Nat → Nat → H13) (sm : H13 → Nat) (rsm : Nat → Nat → Nat → Nat → Nat) (k0 k1 n N : Nat) (hn : n ≤ 140737488351232) (h1 : 5000 < n) : (Clu.layK lays .e fun h => Clu.runF Tryd.prog (Clu.tell (Xt w sm rsm) 3 1000018) 1000000 1000 3 [.i .u64 (.ofNat k0), .i .u64 (.ofNat k1), .s n N] h 1000) = Clu.Out.ok (Clu.AV.b true) := by
  rw [te_a_raw]
  refine (Clu.needT_eq (show _ = true by exact Clu.iLt_t (by (try simp only [Int.ofNat_eq_natCast, Nat.add_eq, Nat.sub_eq, Nat.mul_eq, Nat.succ_eq_add_one]); omega)) _ _).trans ?_
  rfl

set_option maxRecDepth 10000000 in
theorem te_c_raw (w : H13 → Nat → Nat → H13) (sm : H13 → Nat) (rsm : Nat → Nat → Nat → Nat → Nat) (k0 k1 n N : Nat) : (Clu.layK lays .e fun h => Clu.runF Tryd.prog (Clu.tell (Xt w sm rsm) 3 10000381000019) 1000000 1000 3 [.i .u64 (.ofNat k0), .i .u64 (.ofNat k1), .s n N] h 1000) = Clu.needF (Clu.iLt (Int.ofNat 5000) (Int.ofNat n)) (.err 42 2) (Clu.needT (Nat.ble n 100000) (.err 95 4) (Clu.needT (Nat.ble n 100000) (.err 95 4) (Clu.needT (Clu.iEq (Int.ofNat (sm (H13.mk (H13.k0 (w (H13.mk k0 k1 k0 k1 0 0 0 0 0 0 0 0 0) n N)) (H13.k1 (w (H13.mk k0 k1 k0 k1 0 0 0 0 0 0 0 0 0) n N)) (H13.k2 (w (H13.mk k0 k1 k0 k1 0 0 0 0 0 0 0 0 0) n N)) (H13.k3 (w (H13.mk k0 k1 k0 k1 0 0 0 0 0 0 0 0 0) n N)) (H13.l0 (w (H13.mk k0 k1 k0 k1 0 0 0 0 0 0 0 0 0) n N)) (H13.l1 (w (H13.mk k0 k1 k0 k1 0 0 0 0 0 0 0 0 0) n N)) (H13.l2 (w (H13.mk k0 k1 k0 k1 0 0 0 0 0 0 0 0 0) n N)) (H13.l3 (w (H13.mk k0 k1 k0 k1 0 0 0 0 0 0 0 0 0) n N)) (H13.l4 (w (H13.mk k0 k1 k0 k1 0 0 0 0 0 0 0 0 0) n N)) (H13.l5 (w (H13.mk k0 k1 k0 k1 0 0 0 0 0 0 0 0 0) n N)) (H13.l6 (w (H13.mk k0 k1 k0 k1 0 0 0 0 0 0 0 0 0) n N)) (H13.l7 (w (H13.mk k0 k1 k0 k1 0 0 0 0 0 0 0 0 0) n N)) (H13.m (w (H13.mk k0 k1 k0 k1 0 0 0 0 0 0 0 0 0) n N))))) (Int.ofNat (rsm k0 k1 n N))) (.err 42 1) (Clu.Out.ok (Clu.AV.b true))))) := by kernel_rfl
set_option maxHeartbeats 4000000 in
set_option linter.unusedSimpArgs false in
theorem te_c (w : H13 → Nat → Nat → H13) (sm : H13 → Nat) (rsm : Nat → Nat → Nat → Nat → Nat) (k0 k1 n N : Nat) (hn : n ≤ 140737488351232) (ht : sm (w ⟨k0, k1, k0, k1, 0, 0, 0, 0, 0, 0, 0, 0, 0⟩ n N) = rsm k0 k1 n N) (h1 : n ≤ 5000) : (Clu.layK lays .e fun h => Clu.runF Tryd.prog (Clu.tell (Xt w sm rsm) 3 10000381000019) 1000000 1000 3 [.i .u64 (.ofNat k0), .i .u64 (.ofNat k1), .s n N] h 1000) = Clu.Out.ok (Clu.AV.b true) := by
  rw [te_c_raw]
  refine (Clu.needF_eq (show _ = false by first | (first | exact Clu.iEq_t (congrArg Int.ofNat ht) | exact Clu.ble_iff.2 (by omega)) | (exact Clu.iLt_f (by (try simp only [Int.ofNat_eq_natCast, Nat.add_eq, Nat.sub_eq, Nat.mul_eq, Nat.succ_eq_add_one]); omega))) _ _).trans ?_
  refine (Clu.needT_eq (show _ = true by first | (first | exact Clu.iEq_t (congrArg Int.ofNat ht) | exact Clu.ble_iff.2 (by omega)) | (exact Clu.ble_iff.2 (by (try simp only [Int.ofNat_eq_natCast, Nat.add_eq, Nat.sub_eq, Nat.mul_eq, Nat.succ_eq_add_one]); omega))) _ _).trans ?_
  refine (Clu.needT_eq (show _ = true by first | (first | exact Clu.iEq_t (congrArg Int.ofNat ht) | exact Clu.ble_iff.2 (by omega)) | (exact Clu.ble_iff.2 (by (try simp only [Int.ofNat_eq_natCast, Nat.add_eq, Nat.sub_eq, Nat.mul_eq, Nat.succ_eq_add_one]); omega))) _ _).trans ?_
  refine (Clu.needT_eq (show _ = true by first | (first | exact Clu.iEq_t (congrArg Int.ofNat ht) | exact Clu.ble_iff.2 (by omega)) | (exact Clu.iEq_t (by (try simp only [Int.ofNat_eq_natCast, Nat.add_eq, Nat.sub_eq, Nat.mul_eq, Nat.succ_eq_add_one]); omega))) _ _).trans ?_
  rfl

theorem run_ok (a0 : Int) (l0 : 0 ≤ a0) (u0 : a0 ≤ 18446744073709551615) (a1 : Int) (l1 : 0 ≤ a1) (u1 : a1 ≤ 18446744073709551615) (n N : Nat) (hn : n ≤ 140737488351232) : ∃ Y, Clu.XOK Tryd.prog Y ∧ (Clu.layK lays .e fun h => Clu.runF Tryd.prog Y 1000000 1000 3 [.i .u64 a0, .i .u64 a1, .s n N] h 1000) = .ok (.b true) := by
  obtain ⟨k0, rfl⟩ := Int.eq_ofNat_of_zero_le l0
  obtain ⟨k1, rfl⟩ := Int.eq_ofNat_of_zero_le l1
  by_cases h1 : n ≤ 5000
  · exact ⟨_, Clu.tell_ok Xt_ok, te_c pW pSum rSum k0 k1 n N hn (tells k0 k1 n N) h1⟩
  · exact ⟨_, Clu.tell_ok Xt_ok, te_a pW pSum rSum k0 k1 n N hn (by omega)⟩
end Go.Proofs.YtdhhocmdolnfiaaDoor.sipTells
