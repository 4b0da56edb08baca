/-
  IntakeRoom: its run, at whatever arguments.
-/
import Derived.Test.YtabhfjbgoppgmaaGreatDoorIntakeRoomBase
import Derived.Test.YtabhfjbgoppgmaaGreatDoorCluN1
namespace Go.Proofs.YtabhfjbgoppgmaaGreatDoor.intakeRoom
open Go.RowKit
set_option linter.unusedVariables false
set_option maxRecDepth 100000
set_option maxRecDepth 10000000 in
theorem p_room_raw (a b : Nat) (c : Int) : (Clu.layK lays .e fun h => Clu.runF Tryz.prog (Clu.tell X 3 10001081000096100008610000721000060) 1000 1000 3 [.i .u16 (.ofNat a), .i .u16 (.ofNat b), .i .i64 c] h 1000) = Clu.needT (Clu.inR IntKind.i64 (Int.ofNat a)) (.err 10 20) (Clu.needT (Clu.inR IntKind.i64 (Int.ofNat b)) (.err 10 20) (Clu.needT (Clu.inR IntKind.i64 (Int.ofNat a + Int.ofNat b)) (.err 10 20) (Clu.needT (!Clu.iLt (Clu.extI true (Clu.extI false c (Int.ofNat a)) (Int.ofNat 512)) (Int.ofNat 512)) (.err 42 1) (Clu.needT (!Clu.iLt (Clu.extI true c (Int.ofNat 512)) (Clu.extI true (Clu.extI false c (Int.ofNat a)) (Int.ofNat 512))) (.err 42 1) (Clu.needT (Clu.inR IntKind.i64 (Int.ofNat a)) (.err 10 20) (Clu.needT (!Clu.iLt (Clu.extI true (Int.ofNat a) (Int.ofNat 512)) (Clu.extI true (Clu.extI false c (Int.ofNat a)) (Int.ofNat 512))) (.err 42 1) (Clu.needT (!Clu.iLt (Clu.extI true (Clu.extI false c (Int.ofNat a + Int.ofNat b)) (Int.ofNat 512)) (Clu.extI true (Clu.extI false c (Int.ofNat a)) (Int.ofNat 512))) (.err 42 1) (Clu.Out.ok (Clu.AV.b true))))))))) := by kernel_rfl
set_option maxHeartbeats 4000000 in
set_option linter.unusedSimpArgs false in
theorem p_room (a b : Nat) (c : Int) (ha : a ≤ 65535) (hb : b ≤ 65535) : (Clu.layK lays .e fun h => Clu.runF Tryz.prog (Clu.tell X 3 10001081000096100008610000721000060) 1000 1000 3 [.i .u16 (.ofNat a), .i .u16 (.ofNat b), .i .i64 c] h 1000) = Clu.Out.ok (Clu.AV.b true) := by
  rw [p_room_raw]
  refine (Clu.needT_eq (show _ = true by exact Clu.inR_t (by (try simp only [Int.ofNat_eq_natCast, Nat.add_eq, Nat.sub_eq, Nat.mul_eq, Nat.succ_eq_add_one]); omega) (by (try simp only [Int.ofNat_eq_natCast, Nat.add_eq, Nat.sub_eq, Nat.mul_eq, Nat.succ_eq_add_one]); omega)) _ _).trans ?_
  refine (Clu.needT_eq (show _ = true by exact Clu.inR_t (by (try simp only [Int.ofNat_eq_natCast, Nat.add_eq, Nat.sub_eq, Nat.mul_eq, Nat.succ_eq_add_one]); omega) (by (try simp only [Int.ofNat_eq_natCast, Nat.add_eq, Nat.sub_eq, Nat.mul_eq, Nat.succ_eq_add_one]); omega)) _ _).trans ?_
  refine (Clu.needT_eq (show _ = true by exact Clu.inR_t (by (try simp only [Int.ofNat_eq_natCast, Nat.add_eq, Nat.sub_eq, Nat.mul_eq, Nat.succ_eq_add_one]); omega) (by (try simp only [Int.ofNat_eq_natCast, Nat.add_eq, Nat.sub_eq, Nat.mul_eq, Nat.succ_eq_add_one]); omega)) _ _).trans ?_
  refine (Clu.needT_eq (show _ = true by rw [Clu.iLt_f (by (try simp only [Clu.extI_min, Clu.extI_max, Int.ofNat_eq_natCast]); (repeat' split) <;> omega)]; rfl) _ _).trans ?_
  refine (Clu.needT_eq (show _ = true by rw [Clu.iLt_f (by (try simp only [Clu.extI_min, Clu.extI_max, Int.ofNat_eq_natCast]); (repeat' split) <;> omega)]; rfl) _ _).trans ?_
  refine (Clu.needT_eq (show _ = true by exact Clu.inR_t (by (try simp only [Int.ofNat_eq_natCast, Nat.add_eq, Nat.sub_eq, Nat.mul_eq, Nat.succ_eq_add_one]); omega) (by (try simp only [Int.ofNat_eq_natCast, Nat.add_eq, Nat.sub_eq, Nat.mul_eq, Nat.succ_eq_add_one]); omega)) _ _).trans ?_
  refine (Clu.needT_eq (show _ = true by rw [Clu.iLt_f (by (try simp only [Clu.extI_min, Clu.extI_max, Int.ofNat_eq_natCast]); (repeat' split) <;> omega)]; rfl) _ _).trans ?_
  refine (Clu.needT_eq (show _ = true by rw [Clu.iLt_f (by (try simp only [Clu.extI_min, Clu.extI_max, Int.ofNat_eq_natCast]); (repeat' split) <;> omega)]; rfl) _ _).trans ?_
  rfl
theorem run_ok (a0 : Int) (i0 : 0 ≤ a0) (j0 : a0 ≤ 65535) (a1 : Int) (i1 : 0 ≤ a1) (j1 : a1 ≤ 65535) (a2 : Int) (i2 : -9223372036854775808 ≤ a2) (j2 : a2 ≤ 9223372036854775807) : ∃ Y, Clu.XOK Tryz.prog Y ∧ (Clu.layK lays .e fun h => Clu.runF Tryz.prog Y 1000 1000 3 [.i .u16 a0, .i .u16 a1, .i .i64 a2] h 1000) = .ok (.b true) := by
  obtain ⟨a, rfl⟩ := Int.eq_ofNat_of_zero_le i0
  obtain ⟨b, rfl⟩ := Int.eq_ofNat_of_zero_le i1
  exact ⟨_, Clu.tell_ok X_ok, p_room a b a2 (by omega) (by omega)⟩
end Go.Proofs.YtabhfjbgoppgmaaGreatDoor.intakeRoom
