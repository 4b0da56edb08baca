/-
  IntakeTells: its run, at whatever arguments.
-/
import Derived.Test.YtgmkjmbfknhanaaGreatDoorIntakeTellsBase
import Derived.Test.YtgmkjmbfknhanaaGreatDoorCluN1
namespace Go.Proofs.YtgmkjmbfknhanaaGreatDoor.intakeTells
open Go.RowKit
set_option linter.unusedVariables false
set_option linter.unusedSimpArgs false
set_option maxRecDepth 100000
theorem land12 (x : Nat) : Nat.land x 4095 = x % 4096 := Nat.and_two_pow_sub_one_eq_mod x 12
theorem w64 (x : Int) : Clu.wrapF .u64 x = Int.ofNat (Clu.modN x 18446744073709551616) := rfl
theorem w16 (x : Int) : Clu.wrapF .u16 x = Int.ofNat (Clu.modN x 65536) := rfl
theorem c1 (C : Nat) : Clu.inR IntKind.i64 (Int.ofNat (Nat.land C 4095)) = true := Clu.inR_t (by simp only [Int.ofNat_eq_natCast]; omega) (by simp only [land12, Int.ofNat_eq_natCast]; omega)
theorem c2 (C : Nat) : Clu.inR IntKind.i64 (Int.ofNat (Nat.land (Clu.modN (Int.ofNat (Nat.land C 4095)) 18446744073709551616) 15)) = true := Clu.inR_t (by simp only [Int.ofNat_eq_natCast]; omega) (by simp only [Clu.land_15, Int.ofNat_eq_natCast]; omega)
theorem c3 (x : Int) : Clu.inR IntKind.i64 (Int.tmod (Clu.wrapF .u64 x) (Int.ofNat 4096)) = true := by
  rw [w64, Clu.tmod_nat]
  exact Clu.inR_t (by simp only [Int.ofNat_eq_natCast]; omega) (by simp only [Int.ofNat_eq_natCast]; omega)
theorem c4 (x : Int) : Clu.inR IntKind.i64 (Int.tdiv (Int.tmod (Clu.wrapF .u64 x) (Int.ofNat 4096)) (Int.ofNat 16)) = true := by
  rw [w64, Clu.tmod_nat, Clu.tdiv_nat]
  exact Clu.inR_t (by simp only [Int.ofNat_eq_natCast]; omega) (by simp only [Int.ofNat_eq_natCast]; omega)
theorem c5 (id op code : Int) (b5 b9 : Bool) : (id == id && (true && (op == op && (true && (true && (b5 == b5 && (true && (true && (true && (b9 == b9 && (Clu.wrapF IntKind.u8 (Int.ofNat (Nat.land (Clu.modN (Int.ofNat (Nat.land (Clu.modN code 18446744073709551616) 4095)) 18446744073709551616) 15)) == Clu.wrapF IntKind.u8 (Int.tmod (Int.tmod (Clu.wrapF IntKind.u64 code) (Int.ofNat 4096)) (Int.ofNat 16)) && true))))))))))) = true := by
  simp only [beq_self_eq_true, Bool.true_and, Bool.and_true, w64, land12, Clu.land_15, Clu.modN_nat, Clu.tmod_nat, Clu.u8_nat, beq_iff_eq]
  congr 1
  omega
theorem c6 (code : Int) : (!Clu.iEq (Clu.wrapF IntKind.u8 (Int.fdiv (Int.ofNat (Nat.land (Clu.modN code 18446744073709551616) 4095)) (Int.ofNat 16))) (Clu.wrapF IntKind.u8 (Int.tdiv (Int.tmod (Clu.wrapF IntKind.u64 code) (Int.ofNat 4096)) (Int.ofNat 16)))) = false := by
  simp only [w64, land12, Clu.modN_nat, Clu.tmod_nat, Clu.tdiv_nat, Clu.fdiv_nat, Clu.u8_nat]
  rw [Clu.iEq_t rfl]; rfl
theorem c7 (size : Int) : (!Clu.iEq (Clu.wrapF IntKind.u16 size) (Clu.wrapF IntKind.u16 (Int.tmod (Clu.wrapF IntKind.u64 size) (Int.ofNat 65536)))) = false := by
  rw [w64, Clu.tmod_nat, Clu.u16_nat, w16]
  have h1 := Clu.modN_eq size 65536 (by decide)
  have h2 := Clu.modN_eq size 18446744073709551616 (by decide)
  rw [Clu.iEq_t (by congr 1; omega)]; rfl
theorem c8 (n M : Nat) (ty cl : Int) : (!(Clu.eqNs n M n M && (ty == ty && (cl == cl && true)))) = false := by
  rw [Clu.eqNs_same]; simp
set_option maxRecDepth 10000000 in
theorem q_far_raw (kd cd id op hc ty cl sz most code size : Int) (b1 b3 b4 b5 b6 b7 b8 b9 : Bool) (n N : Nat) (hq he : Bool) : (Clu.layK lays .e fun h => Clu.runF Tryz.prog (Clu.tell X 3 1000028) 1000 1000 3 [.ag [.i .u8 kd, .i .i64 cd, .i .u16 id, .b b1, .i .u8 op, .b b3, .b b4, .b b5, .b b6, .b b7, .b b8, .b b9, .i .u8 hc, .b hq, .s n N, .i .u16 ty, .i .u16 cl, .b he, .i .i64 sz], .i .i64 most, .i .i64 code, .i .i64 size] h 1000) = Clu.needT (Clu.iLt (Int.ofNat 1000) (Int.ofNat n)) (.err 42 1) (Clu.Out.ok (Clu.AV.b true)) := by kernel_rfl
theorem p_far (kd cd id op hc ty cl sz most code size : Int) (b1 b3 b4 b5 b6 b7 b8 b9 : Bool) (n N : Nat) (hq he : Bool) (hn : 1000 < n) : (Clu.layK lays .e fun h => Clu.runF Tryz.prog (Clu.tell X 3 1000028) 1000 1000 3 [.ag [.i .u8 kd, .i .i64 cd, .i .u16 id, .b b1, .i .u8 op, .b b3, .b b4, .b b5, .b b6, .b b7, .b b8, .b b9, .i .u8 hc, .b hq, .s n N, .i .u16 ty, .i .u16 cl, .b he, .i .i64 sz], .i .i64 most, .i .i64 code, .i .i64 size] h 1000) = .ok (.b true) := by
  refine (q_far_raw kd cd id op hc ty cl sz most code size b1 b3 b4 b5 b6 b7 b8 b9 n N hq he).trans ?_
  refine (Clu.needT_eq (Clu.iLt_t (by simp only [Int.ofNat_eq_natCast]; omega)) _ _).trans ?_
  rfl
set_option maxRecDepth 10000000 in
theorem q_q0_raw (kd cd id op hc ty cl sz most code size : Int) (b1 b3 b4 b5 b6 b7 b8 b9 : Bool) (n N : Nat) (hq he : Bool) : (Clu.layK lays .e fun h => Clu.runF Tryz.prog (Clu.tell (Clu.tell (Clu.tell (Clu.tell X 7 100009010000761000062100004810000341000020) 11 1000051) 13 1000065100005110000371000023) 3 100007010000481000029) 1000 1000 3 [.ag [.i .u8 kd, .i .i64 cd, .i .u16 id, .b b1, .i .u8 op, .b b3, .b b4, .b b5, .b b6, .b b7, .b b8, .b b9, .i .u8 hc, .b true, .s n N, .i .u16 ty, .i .u16 cl, .b false, .i .i64 sz], .i .i64 most, .i .i64 code, .i .i64 size] h 1000) = Clu.needF (Clu.iLt (Int.ofNat 1000) (Int.ofNat n)) (.err 42 2) (Clu.needT (Clu.inR IntKind.i64 (Int.ofNat (Nat.land (Clu.modN code 18446744073709551616) 4095))) (.err 10 20) (Clu.needT (Clu.inR IntKind.i64 (Int.ofNat (Nat.land (Clu.modN (Int.ofNat (Nat.land (Clu.modN code 18446744073709551616) 4095)) 18446744073709551616) 15))) (.err 10 20) (Clu.needT (Clu.inR IntKind.i64 (Int.tmod (Clu.wrapF IntKind.u64 code) (Int.ofNat 4096))) (.err 10 20) (Clu.needT (id == id && (true && (op == op && (true && (true && (b5 == b5 && (true && (true && (true && (b9 == b9 && (Clu.wrapF IntKind.u8 (Int.ofNat (Nat.land (Clu.modN (Int.ofNat (Nat.land (Clu.modN code 18446744073709551616) 4095)) 18446744073709551616) 15)) == Clu.wrapF IntKind.u8 (Int.tmod (Int.tmod (Clu.wrapF IntKind.u64 code) (Int.ofNat 4096)) (Int.ofNat 16)) && true))))))))))) (.err 42 1) (Clu.needF (!(Clu.eqNs n N n N && (ty == ty && (cl == cl && true)))) (.err 42 2) (Clu.Out.ok (Clu.AV.b true))))))) := by kernel_rfl
theorem p_q0 (kd cd id op hc ty cl sz most code size : Int) (b1 b3 b4 b5 b6 b7 b8 b9 : Bool) (n N : Nat) (hq he : Bool) (hn : n ≤ 1000)  : (Clu.layK lays .e fun h => Clu.runF Tryz.prog (Clu.tell (Clu.tell (Clu.tell (Clu.tell X 7 100009010000761000062100004810000341000020) 11 1000051) 13 1000065100005110000371000023) 3 100007010000481000029) 1000 1000 3 [.ag [.i .u8 kd, .i .i64 cd, .i .u16 id, .b b1, .i .u8 op, .b b3, .b b4, .b b5, .b b6, .b b7, .b b8, .b b9, .i .u8 hc, .b true, .s n N, .i .u16 ty, .i .u16 cl, .b false, .i .i64 sz], .i .i64 most, .i .i64 code, .i .i64 size] h 1000) = .ok (.b true) := by
  refine (q_q0_raw kd cd id op hc ty cl sz most code size b1 b3 b4 b5 b6 b7 b8 b9 n N hq he).trans ?_
  refine (Clu.needF_eq (Clu.iLt_f (by simp only [Int.ofNat_eq_natCast]; omega)) _ _).trans ?_
  refine (Clu.needT_eq (c1 _) _ _).trans ?_
  refine (Clu.needT_eq (c2 _) _ _).trans ?_
  refine (Clu.needT_eq (c3 _) _ _).trans ?_
  refine (Clu.needT_eq (c5 _ _ _ _ _) _ _).trans ?_
  refine (Clu.needF_eq (c8 _ _ _ _) _ _).trans ?_
  rfl
set_option maxRecDepth 10000000 in
theorem q_q1_raw (kd cd id op hc ty cl sz most code size : Int) (b1 b3 b4 b5 b6 b7 b8 b9 : Bool) (n N : Nat) (hq he : Bool) : (Clu.layK lays .e fun h => Clu.runF Tryz.prog (Clu.tell (Clu.tell (Clu.tell (Clu.tell (Clu.tell X 7 100009010000761000062100004810000341000020) 11 1000051) 13 1000065100005110000371000023) 3 100007010000481000029) 6 1000025) 1000 1000 3 [.ag [.i .u8 kd, .i .i64 cd, .i .u16 id, .b b1, .i .u8 op, .b b3, .b b4, .b b5, .b b6, .b b7, .b b8, .b b9, .i .u8 hc, .b true, .s n N, .i .u16 ty, .i .u16 cl, .b true, .i .i64 sz], .i .i64 most, .i .i64 code, .i .i64 size] h 1000) = Clu.needF (Clu.iLt (Int.ofNat 1000) (Int.ofNat n)) (.err 42 2) (Clu.needF (Clu.iLt (Int.ofNat 512) sz) (.err 42 2) (Clu.needT (Clu.iEq (Clu.extI true (Clu.extI false most sz) (Int.ofNat 512)) (Int.ofNat 512)) (.err 42 1) (Clu.needT (Clu.inR IntKind.i64 (Int.ofNat (Nat.land (Clu.modN code 18446744073709551616) 4095))) (.err 10 20) (Clu.needT (Clu.inR IntKind.i64 (Int.ofNat (Nat.land (Clu.modN (Int.ofNat (Nat.land (Clu.modN code 18446744073709551616) 4095)) 18446744073709551616) 15))) (.err 10 20) (Clu.needT (Clu.inR IntKind.i64 (Int.tmod (Clu.wrapF IntKind.u64 code) (Int.ofNat 4096))) (.err 10 20) (Clu.needT (Clu.inR IntKind.i64 (Int.tdiv (Int.tmod (Clu.wrapF IntKind.u64 code) (Int.ofNat 4096)) (Int.ofNat 16))) (.err 10 20) (Clu.needT (id == id && (true && (op == op && (true && (true && (b5 == b5 && (true && (true && (true && (b9 == b9 && (Clu.wrapF IntKind.u8 (Int.ofNat (Nat.land (Clu.modN (Int.ofNat (Nat.land (Clu.modN code 18446744073709551616) 4095)) 18446744073709551616) 15)) == Clu.wrapF IntKind.u8 (Int.tmod (Int.tmod (Clu.wrapF IntKind.u64 code) (Int.ofNat 4096)) (Int.ofNat 16)) && true))))))))))) (.err 42 1) (Clu.needF (!(Clu.eqNs n N n N && (ty == ty && (cl == cl && true)))) (.err 42 2) (Clu.needF (!Clu.iEq (Clu.wrapF IntKind.u16 size) (Clu.wrapF IntKind.u16 (Int.tmod (Clu.wrapF IntKind.u64 size) (Int.ofNat 65536)))) (.err 42 2) (Clu.needF (!Clu.iEq (Clu.wrapF IntKind.u8 (Int.fdiv (Int.ofNat (Nat.land (Clu.modN code 18446744073709551616) 4095)) (Int.ofNat 16))) (Clu.wrapF IntKind.u8 (Int.tdiv (Int.tmod (Clu.wrapF IntKind.u64 code) (Int.ofNat 4096)) (Int.ofNat 16)))) (.err 42 2) (Clu.Out.ok (Clu.AV.b true)))))))))))) := by kernel_rfl
theorem p_q1 (kd cd id op hc ty cl sz most code size : Int) (b1 b3 b4 b5 b6 b7 b8 b9 : Bool) (n N : Nat) (hq he : Bool) (hn : n ≤ 1000) (h : sz ≤ 512) : (Clu.layK lays .e fun h => Clu.runF Tryz.prog (Clu.tell (Clu.tell (Clu.tell (Clu.tell (Clu.tell X 7 100009010000761000062100004810000341000020) 11 1000051) 13 1000065100005110000371000023) 3 100007010000481000029) 6 1000025) 1000 1000 3 [.ag [.i .u8 kd, .i .i64 cd, .i .u16 id, .b b1, .i .u8 op, .b b3, .b b4, .b b5, .b b6, .b b7, .b b8, .b b9, .i .u8 hc, .b true, .s n N, .i .u16 ty, .i .u16 cl, .b true, .i .i64 sz], .i .i64 most, .i .i64 code, .i .i64 size] h 1000) = .ok (.b true) := by
  refine (q_q1_raw kd cd id op hc ty cl sz most code size b1 b3 b4 b5 b6 b7 b8 b9 n N hq he).trans ?_
  refine (Clu.needF_eq (Clu.iLt_f (by simp only [Int.ofNat_eq_natCast]; omega)) _ _).trans ?_
  refine (Clu.needF_eq (Clu.iLt_f (by simp only [Int.ofNat_eq_natCast]; omega)) _ _).trans ?_
  refine (Clu.needT_eq (Clu.iEq_t (by simp only [Clu.extI_min, Clu.extI_max, Int.ofNat_eq_natCast]; (repeat' split) <;> omega)) _ _).trans ?_
  refine (Clu.needT_eq (c1 _) _ _).trans ?_
  refine (Clu.needT_eq (c2 _) _ _).trans ?_
  refine (Clu.needT_eq (c3 _) _ _).trans ?_
  refine (Clu.needT_eq (c4 _) _ _).trans ?_
  refine (Clu.needT_eq (c5 _ _ _ _ _) _ _).trans ?_
  refine (Clu.needF_eq (c8 _ _ _ _) _ _).trans ?_
  refine (Clu.needF_eq (c7 _) _ _).trans ?_
  refine (Clu.needF_eq (c6 _) _ _).trans ?_
  rfl
set_option maxRecDepth 10000000 in
theorem q_q2_raw (kd cd id op hc ty cl sz most code size : Int) (b1 b3 b4 b5 b6 b7 b8 b9 : Bool) (n N : Nat) (hq he : Bool) : (Clu.layK lays .e fun h => Clu.runF Tryz.prog (Clu.tell (Clu.tell (Clu.tell (Clu.tell (Clu.tell X 7 100009010000761000062100004810000341000020) 11 1000051) 13 1000065100005110000371000023) 3 100007010000481000029) 6 10000311000024) 1000 1000 3 [.ag [.i .u8 kd, .i .i64 cd, .i .u16 id, .b b1, .i .u8 op, .b b3, .b b4, .b b5, .b b6, .b b7, .b b8, .b b9, .i .u8 hc, .b true, .s n N, .i .u16 ty, .i .u16 cl, .b true, .i .i64 sz], .i .i64 most, .i .i64 code, .i .i64 size] h 1000) = Clu.needF (Clu.iLt (Int.ofNat 1000) (Int.ofNat n)) (.err 42 2) (Clu.needT (Clu.iLt (Int.ofNat 512) sz) (.err 42 1) (Clu.needF (Clu.iLt (Int.ofNat 512) most) (.err 42 2) (Clu.needT (Clu.iEq (Clu.extI true (Clu.extI false most sz) (Int.ofNat 512)) (Int.ofNat 512)) (.err 42 1) (Clu.needT (Clu.inR IntKind.i64 (Int.ofNat (Nat.land (Clu.modN code 18446744073709551616) 4095))) (.err 10 20) (Clu.needT (Clu.inR IntKind.i64 (Int.ofNat (Nat.land (Clu.modN (Int.ofNat (Nat.land (Clu.modN code 18446744073709551616) 4095)) 18446744073709551616) 15))) (.err 10 20) (Clu.needT (Clu.inR IntKind.i64 (Int.tmod (Clu.wrapF IntKind.u64 code) (Int.ofNat 4096))) (.err 10 20) (Clu.needT (Clu.inR IntKind.i64 (Int.tdiv (Int.tmod (Clu.wrapF IntKind.u64 code) (Int.ofNat 4096)) (Int.ofNat 16))) (.err 10 20) (Clu.needT (id == id && (true && (op == op && (true && (true && (b5 == b5 && (true && (true && (true && (b9 == b9 && (Clu.wrapF IntKind.u8 (Int.ofNat (Nat.land (Clu.modN (Int.ofNat (Nat.land (Clu.modN code 18446744073709551616) 4095)) 18446744073709551616) 15)) == Clu.wrapF IntKind.u8 (Int.tmod (Int.tmod (Clu.wrapF IntKind.u64 code) (Int.ofNat 4096)) (Int.ofNat 16)) && true))))))))))) (.err 42 1) (Clu.needF (!(Clu.eqNs n N n N && (ty == ty && (cl == cl && true)))) (.err 42 2) (Clu.needF (!Clu.iEq (Clu.wrapF IntKind.u16 size) (Clu.wrapF IntKind.u16 (Int.tmod (Clu.wrapF IntKind.u64 size) (Int.ofNat 65536)))) (.err 42 2) (Clu.needF (!Clu.iEq (Clu.wrapF IntKind.u8 (Int.fdiv (Int.ofNat (Nat.land (Clu.modN code 18446744073709551616) 4095)) (Int.ofNat 16))) (Clu.wrapF IntKind.u8 (Int.tdiv (Int.tmod (Clu.wrapF IntKind.u64 code) (Int.ofNat 4096)) (Int.ofNat 16)))) (.err 42 2) (Clu.Out.ok (Clu.AV.b true))))))))))))) := by kernel_rfl
theorem p_q2 (kd cd id op hc ty cl sz most code size : Int) (b1 b3 b4 b5 b6 b7 b8 b9 : Bool) (n N : Nat) (hq he : Bool) (hn : n ≤ 1000) (h : 512 < sz) (g : most ≤ 512) : (Clu.layK lays .e fun h => Clu.runF Tryz.prog (Clu.tell (Clu.tell (Clu.tell (Clu.tell (Clu.tell X 7 100009010000761000062100004810000341000020) 11 1000051) 13 1000065100005110000371000023) 3 100007010000481000029) 6 10000311000024) 1000 1000 3 [.ag [.i .u8 kd, .i .i64 cd, .i .u16 id, .b b1, .i .u8 op, .b b3, .b b4, .b b5, .b b6, .b b7, .b b8, .b b9, .i .u8 hc, .b true, .s n N, .i .u16 ty, .i .u16 cl, .b true, .i .i64 sz], .i .i64 most, .i .i64 code, .i .i64 size] h 1000) = .ok (.b true) := by
  refine (q_q2_raw kd cd id op hc ty cl sz most code size b1 b3 b4 b5 b6 b7 b8 b9 n N hq he).trans ?_
  refine (Clu.needF_eq (Clu.iLt_f (by simp only [Int.ofNat_eq_natCast]; omega)) _ _).trans ?_
  refine (Clu.needT_eq (Clu.iLt_t (by simp only [Int.ofNat_eq_natCast]; omega)) _ _).trans ?_
  refine (Clu.needF_eq (Clu.iLt_f (by simp only [Int.ofNat_eq_natCast]; omega)) _ _).trans ?_
  refine (Clu.needT_eq (Clu.iEq_t (by simp only [Clu.extI_min, Clu.extI_max, Int.ofNat_eq_natCast]; (repeat' split) <;> omega)) _ _).trans ?_
  refine (Clu.needT_eq (c1 _) _ _).trans ?_
  refine (Clu.needT_eq (c2 _) _ _).trans ?_
  refine (Clu.needT_eq (c3 _) _ _).trans ?_
  refine (Clu.needT_eq (c4 _) _ _).trans ?_
  refine (Clu.needT_eq (c5 _ _ _ _ _) _ _).trans ?_
  refine (Clu.needF_eq (c8 _ _ _ _) _ _).trans ?_
  refine (Clu.needF_eq (c7 _) _ _).trans ?_
  refine (Clu.needF_eq (c6 _) _ _).trans ?_
  rfl
set_option maxRecDepth 10000000 in
theorem q_q3_raw (kd cd id op hc ty cl sz most code size : Int) (b1 b3 b4 b5 b6 b7 b8 b9 : Bool) (n N : Nat) (hq he : Bool) : (Clu.layK lays .e fun h => Clu.runF Tryz.prog (Clu.tell (Clu.tell (Clu.tell (Clu.tell (Clu.tell X 7 100009010000761000062100004810000341000020) 11 1000051) 13 1000065100005110000371000023) 3 100007010000481000029) 6 10000301000024) 1000 1000 3 [.ag [.i .u8 kd, .i .i64 cd, .i .u16 id, .b b1, .i .u8 op, .b b3, .b b4, .b b5, .b b6, .b b7, .b b8, .b b9, .i .u8 hc, .b true, .s n N, .i .u16 ty, .i .u16 cl, .b true, .i .i64 sz], .i .i64 most, .i .i64 code, .i .i64 size] h 1000) = Clu.needF (Clu.iLt (Int.ofNat 1000) (Int.ofNat n)) (.err 42 2) (Clu.needT (Clu.iLt (Int.ofNat 512) sz) (.err 42 1) (Clu.needT (Clu.iLt (Int.ofNat 512) most) (.err 42 1) (Clu.needT (Clu.iEq (Clu.extI true (Clu.extI false most sz) (Int.ofNat 512)) (Clu.extI false most sz)) (.err 42 1) (Clu.needT (Clu.inR IntKind.i64 (Int.ofNat (Nat.land (Clu.modN code 18446744073709551616) 4095))) (.err 10 20) (Clu.needT (Clu.inR IntKind.i64 (Int.ofNat (Nat.land (Clu.modN (Int.ofNat (Nat.land (Clu.modN code 18446744073709551616) 4095)) 18446744073709551616) 15))) (.err 10 20) (Clu.needT (Clu.inR IntKind.i64 (Int.tmod (Clu.wrapF IntKind.u64 code) (Int.ofNat 4096))) (.err 10 20) (Clu.needT (Clu.inR IntKind.i64 (Int.tdiv (Int.tmod (Clu.wrapF IntKind.u64 code) (Int.ofNat 4096)) (Int.ofNat 16))) (.err 10 20) (Clu.needT (id == id && (true && (op == op && (true && (true && (b5 == b5 && (true && (true && (true && (b9 == b9 && (Clu.wrapF IntKind.u8 (Int.ofNat (Nat.land (Clu.modN (Int.ofNat (Nat.land (Clu.modN code 18446744073709551616) 4095)) 18446744073709551616) 15)) == Clu.wrapF IntKind.u8 (Int.tmod (Int.tmod (Clu.wrapF IntKind.u64 code) (Int.ofNat 4096)) (Int.ofNat 16)) && true))))))))))) (.err 42 1) (Clu.needF (!(Clu.eqNs n N n N && (ty == ty && (cl == cl && true)))) (.err 42 2) (Clu.needF (!Clu.iEq (Clu.wrapF IntKind.u16 size) (Clu.wrapF IntKind.u16 (Int.tmod (Clu.wrapF IntKind.u64 size) (Int.ofNat 65536)))) (.err 42 2) (Clu.needF (!Clu.iEq (Clu.wrapF IntKind.u8 (Int.fdiv (Int.ofNat (Nat.land (Clu.modN code 18446744073709551616) 4095)) (Int.ofNat 16))) (Clu.wrapF IntKind.u8 (Int.tdiv (Int.tmod (Clu.wrapF IntKind.u64 code) (Int.ofNat 4096)) (Int.ofNat 16)))) (.err 42 2) (Clu.Out.ok (Clu.AV.b true))))))))))))) := by kernel_rfl
theorem p_q3 (kd cd id op hc ty cl sz most code size : Int) (b1 b3 b4 b5 b6 b7 b8 b9 : Bool) (n N : Nat) (hq he : Bool) (hn : n ≤ 1000) (h : 512 < sz) (g : 512 < most) : (Clu.layK lays .e fun h => Clu.runF Tryz.prog (Clu.tell (Clu.tell (Clu.tell (Clu.tell (Clu.tell X 7 100009010000761000062100004810000341000020) 11 1000051) 13 1000065100005110000371000023) 3 100007010000481000029) 6 10000301000024) 1000 1000 3 [.ag [.i .u8 kd, .i .i64 cd, .i .u16 id, .b b1, .i .u8 op, .b b3, .b b4, .b b5, .b b6, .b b7, .b b8, .b b9, .i .u8 hc, .b true, .s n N, .i .u16 ty, .i .u16 cl, .b true, .i .i64 sz], .i .i64 most, .i .i64 code, .i .i64 size] h 1000) = .ok (.b true) := by
  refine (q_q3_raw kd cd id op hc ty cl sz most code size b1 b3 b4 b5 b6 b7 b8 b9 n N hq he).trans ?_
  refine (Clu.needF_eq (Clu.iLt_f (by simp only [Int.ofNat_eq_natCast]; omega)) _ _).trans ?_
  refine (Clu.needT_eq (Clu.iLt_t (by simp only [Int.ofNat_eq_natCast]; omega)) _ _).trans ?_
  refine (Clu.needT_eq (Clu.iLt_t (by simp only [Int.ofNat_eq_natCast]; omega)) _ _).trans ?_
  refine (Clu.needT_eq (Clu.iEq_t (by simp only [Clu.extI_min, Clu.extI_max, Int.ofNat_eq_natCast]; (repeat' split) <;> omega)) _ _).trans ?_
  refine (Clu.needT_eq (c1 _) _ _).trans ?_
  refine (Clu.needT_eq (c2 _) _ _).trans ?_
  refine (Clu.needT_eq (c3 _) _ _).trans ?_
  refine (Clu.needT_eq (c4 _) _ _).trans ?_
  refine (Clu.needT_eq (c5 _ _ _ _ _) _ _).trans ?_
  refine (Clu.needF_eq (c8 _ _ _ _) _ _).trans ?_
  refine (Clu.needF_eq (c7 _) _ _).trans ?_
  refine (Clu.needF_eq (c6 _) _ _).trans ?_
  rfl
set_option maxRecDepth 10000000 in
theorem q_n0_raw (kd cd id op hc ty cl sz most code size : Int) (b1 b3 b4 b5 b6 b7 b8 b9 : Bool) (n N : Nat) (hq he : Bool) : (Clu.layK lays .e fun h => Clu.runF Tryz.prog (Clu.tell (Clu.tell (Clu.tell (Clu.tell X 7 100009010000761000062100004810000341000020) 11 1000051) 13 1000065100005110000371000023) 3 100007010000481000029) 1000 1000 3 [.ag [.i .u8 kd, .i .i64 cd, .i .u16 id, .b b1, .i .u8 op, .b b3, .b b4, .b b5, .b b6, .b b7, .b b8, .b b9, .i .u8 hc, .b false, .s n N, .i .u16 ty, .i .u16 cl, .b false, .i .i64 sz], .i .i64 most, .i .i64 code, .i .i64 size] h 1000) = Clu.needF (Clu.iLt (Int.ofNat 1000) (Int.ofNat n)) (.err 42 2) (Clu.needT (Clu.inR IntKind.i64 (Int.ofNat (Nat.land (Clu.modN code 18446744073709551616) 4095))) (.err 10 20) (Clu.needT (Clu.inR IntKind.i64 (Int.ofNat (Nat.land (Clu.modN (Int.ofNat (Nat.land (Clu.modN code 18446744073709551616) 4095)) 18446744073709551616) 15))) (.err 10 20) (Clu.needT (Clu.inR IntKind.i64 (Int.tmod (Clu.wrapF IntKind.u64 code) (Int.ofNat 4096))) (.err 10 20) (Clu.needT (id == id && (true && (op == op && (true && (true && (b5 == b5 && (true && (true && (true && (b9 == b9 && (Clu.wrapF IntKind.u8 (Int.ofNat (Nat.land (Clu.modN (Int.ofNat (Nat.land (Clu.modN code 18446744073709551616) 4095)) 18446744073709551616) 15)) == Clu.wrapF IntKind.u8 (Int.tmod (Int.tmod (Clu.wrapF IntKind.u64 code) (Int.ofNat 4096)) (Int.ofNat 16)) && true))))))))))) (.err 42 1) (Clu.Out.ok (Clu.AV.b true)))))) := by kernel_rfl
theorem p_n0 (kd cd id op hc ty cl sz most code size : Int) (b1 b3 b4 b5 b6 b7 b8 b9 : Bool) (n N : Nat) (hq he : Bool) (hn : n ≤ 1000)  : (Clu.layK lays .e fun h => Clu.runF Tryz.prog (Clu.tell (Clu.tell (Clu.tell (Clu.tell X 7 100009010000761000062100004810000341000020) 11 1000051) 13 1000065100005110000371000023) 3 100007010000481000029) 1000 1000 3 [.ag [.i .u8 kd, .i .i64 cd, .i .u16 id, .b b1, .i .u8 op, .b b3, .b b4, .b b5, .b b6, .b b7, .b b8, .b b9, .i .u8 hc, .b false, .s n N, .i .u16 ty, .i .u16 cl, .b false, .i .i64 sz], .i .i64 most, .i .i64 code, .i .i64 size] h 1000) = .ok (.b true) := by
  refine (q_n0_raw kd cd id op hc ty cl sz most code size b1 b3 b4 b5 b6 b7 b8 b9 n N hq he).trans ?_
  refine (Clu.needF_eq (Clu.iLt_f (by simp only [Int.ofNat_eq_natCast]; omega)) _ _).trans ?_
  refine (Clu.needT_eq (c1 _) _ _).trans ?_
  refine (Clu.needT_eq (c2 _) _ _).trans ?_
  refine (Clu.needT_eq (c3 _) _ _).trans ?_
  refine (Clu.needT_eq (c5 _ _ _ _ _) _ _).trans ?_
  rfl
set_option maxRecDepth 10000000 in
theorem q_n1_raw (kd cd id op hc ty cl sz most code size : Int) (b1 b3 b4 b5 b6 b7 b8 b9 : Bool) (n N : Nat) (hq he : Bool) : (Clu.layK lays .e fun h => Clu.runF Tryz.prog (Clu.tell (Clu.tell (Clu.tell (Clu.tell (Clu.tell X 7 100009010000761000062100004810000341000020) 11 1000051) 13 1000065100005110000371000023) 3 100007010000481000029) 6 1000025) 1000 1000 3 [.ag [.i .u8 kd, .i .i64 cd, .i .u16 id, .b b1, .i .u8 op, .b b3, .b b4, .b b5, .b b6, .b b7, .b b8, .b b9, .i .u8 hc, .b false, .s n N, .i .u16 ty, .i .u16 cl, .b true, .i .i64 sz], .i .i64 most, .i .i64 code, .i .i64 size] h 1000) = Clu.needF (Clu.iLt (Int.ofNat 1000) (Int.ofNat n)) (.err 42 2) (Clu.needF (Clu.iLt (Int.ofNat 512) sz) (.err 42 2) (Clu.needT (Clu.iEq (Clu.extI true (Clu.extI false most sz) (Int.ofNat 512)) (Int.ofNat 512)) (.err 42 1) (Clu.needT (Clu.inR IntKind.i64 (Int.ofNat (Nat.land (Clu.modN code 18446744073709551616) 4095))) (.err 10 20) (Clu.needT (Clu.inR IntKind.i64 (Int.ofNat (Nat.land (Clu.modN (Int.ofNat (Nat.land (Clu.modN code 18446744073709551616) 4095)) 18446744073709551616) 15))) (.err 10 20) (Clu.needT (Clu.inR IntKind.i64 (Int.tmod (Clu.wrapF IntKind.u64 code) (Int.ofNat 4096))) (.err 10 20) (Clu.needT (Clu.inR IntKind.i64 (Int.tdiv (Int.tmod (Clu.wrapF IntKind.u64 code) (Int.ofNat 4096)) (Int.ofNat 16))) (.err 10 20) (Clu.needT (id == id && (true && (op == op && (true && (true && (b5 == b5 && (true && (true && (true && (b9 == b9 && (Clu.wrapF IntKind.u8 (Int.ofNat (Nat.land (Clu.modN (Int.ofNat (Nat.land (Clu.modN code 18446744073709551616) 4095)) 18446744073709551616) 15)) == Clu.wrapF IntKind.u8 (Int.tmod (Int.tmod (Clu.wrapF IntKind.u64 code) (Int.ofNat 4096)) (Int.ofNat 16)) && true))))))))))) (.err 42 1) (Clu.needF (!Clu.iEq (Clu.wrapF IntKind.u16 size) (Clu.wrapF IntKind.u16 (Int.tmod (Clu.wrapF IntKind.u64 size) (Int.ofNat 65536)))) (.err 42 2) (Clu.needF (!Clu.iEq (Clu.wrapF IntKind.u8 (Int.fdiv (Int.ofNat (Nat.land (Clu.modN code 18446744073709551616) 4095)) (Int.ofNat 16))) (Clu.wrapF IntKind.u8 (Int.tdiv (Int.tmod (Clu.wrapF IntKind.u64 code) (Int.ofNat 4096)) (Int.ofNat 16)))) (.err 42 2) (Clu.Out.ok (Clu.AV.b true))))))))))) := by kernel_rfl
theorem p_n1 (kd cd id op hc ty cl sz most code size : Int) (b1 b3 b4 b5 b6 b7 b8 b9 : Bool) (n N : Nat) (hq he : Bool) (hn : n ≤ 1000) (h : sz ≤ 512) : (Clu.layK lays .e fun h => Clu.runF Tryz.prog (Clu.tell (Clu.tell (Clu.tell (Clu.tell (Clu.tell X 7 100009010000761000062100004810000341000020) 11 1000051) 13 1000065100005110000371000023) 3 100007010000481000029) 6 1000025) 1000 1000 3 [.ag [.i .u8 kd, .i .i64 cd, .i .u16 id, .b b1, .i .u8 op, .b b3, .b b4, .b b5, .b b6, .b b7, .b b8, .b b9, .i .u8 hc, .b false, .s n N, .i .u16 ty, .i .u16 cl, .b true, .i .i64 sz], .i .i64 most, .i .i64 code, .i .i64 size] h 1000) = .ok (.b true) := by
  refine (q_n1_raw kd cd id op hc ty cl sz most code size b1 b3 b4 b5 b6 b7 b8 b9 n N hq he).trans ?_
  refine (Clu.needF_eq (Clu.iLt_f (by simp only [Int.ofNat_eq_natCast]; omega)) _ _).trans ?_
  refine (Clu.needF_eq (Clu.iLt_f (by simp only [Int.ofNat_eq_natCast]; omega)) _ _).trans ?_
  refine (Clu.needT_eq (Clu.iEq_t (by simp only [Clu.extI_min, Clu.extI_max, Int.ofNat_eq_natCast]; (repeat' split) <;> omega)) _ _).trans ?_
  refine (Clu.needT_eq (c1 _) _ _).trans ?_
  refine (Clu.needT_eq (c2 _) _ _).trans ?_
  refine (Clu.needT_eq (c3 _) _ _).trans ?_
  refine (Clu.needT_eq (c4 _) _ _).trans ?_
  refine (Clu.needT_eq (c5 _ _ _ _ _) _ _).trans ?_
  refine (Clu.needF_eq (c7 _) _ _).trans ?_
  refine (Clu.needF_eq (c6 _) _ _).trans ?_
  rfl
set_option maxRecDepth 10000000 in
theorem q_n2_raw (kd cd id op hc ty cl sz most code size : Int) (b1 b3 b4 b5 b6 b7 b8 b9 : Bool) (n N : Nat) (hq he : Bool) : (Clu.layK lays .e fun h => Clu.runF Tryz.prog (Clu.tell (Clu.tell (Clu.tell (Clu.tell (Clu.tell X 7 100009010000761000062100004810000341000020) 11 1000051) 13 1000065100005110000371000023) 3 100007010000481000029) 6 10000311000024) 1000 1000 3 [.ag [.i .u8 kd, .i .i64 cd, .i .u16 id, .b b1, .i .u8 op, .b b3, .b b4, .b b5, .b b6, .b b7, .b b8, .b b9, .i .u8 hc, .b false, .s n N, .i .u16 ty, .i .u16 cl, .b true, .i .i64 sz], .i .i64 most, .i .i64 code, .i .i64 size] h 1000) = Clu.needF (Clu.iLt (Int.ofNat 1000) (Int.ofNat n)) (.err 42 2) (Clu.needT (Clu.iLt (Int.ofNat 512) sz) (.err 42 1) (Clu.needF (Clu.iLt (Int.ofNat 512) most) (.err 42 2) (Clu.needT (Clu.iEq (Clu.extI true (Clu.extI false most sz) (Int.ofNat 512)) (Int.ofNat 512)) (.err 42 1) (Clu.needT (Clu.inR IntKind.i64 (Int.ofNat (Nat.land (Clu.modN code 18446744073709551616) 4095))) (.err 10 20) (Clu.needT (Clu.inR IntKind.i64 (Int.ofNat (Nat.land (Clu.modN (Int.ofNat (Nat.land (Clu.modN code 18446744073709551616) 4095)) 18446744073709551616) 15))) (.err 10 20) (Clu.needT (Clu.inR IntKind.i64 (Int.tmod (Clu.wrapF IntKind.u64 code) (Int.ofNat 4096))) (.err 10 20) (Clu.needT (Clu.inR IntKind.i64 (Int.tdiv (Int.tmod (Clu.wrapF IntKind.u64 code) (Int.ofNat 4096)) (Int.ofNat 16))) (.err 10 20) (Clu.needT (id == id && (true && (op == op && (true && (true && (b5 == b5 && (true && (true && (true && (b9 == b9 && (Clu.wrapF IntKind.u8 (Int.ofNat (Nat.land (Clu.modN (Int.ofNat (Nat.land (Clu.modN code 18446744073709551616) 4095)) 18446744073709551616) 15)) == Clu.wrapF IntKind.u8 (Int.tmod (Int.tmod (Clu.wrapF IntKind.u64 code) (Int.ofNat 4096)) (Int.ofNat 16)) && true))))))))))) (.err 42 1) (Clu.needF (!Clu.iEq (Clu.wrapF IntKind.u16 size) (Clu.wrapF IntKind.u16 (Int.tmod (Clu.wrapF IntKind.u64 size) (Int.ofNat 65536)))) (.err 42 2) (Clu.needF (!Clu.iEq (Clu.wrapF IntKind.u8 (Int.fdiv (Int.ofNat (Nat.land (Clu.modN code 18446744073709551616) 4095)) (Int.ofNat 16))) (Clu.wrapF IntKind.u8 (Int.tdiv (Int.tmod (Clu.wrapF IntKind.u64 code) (Int.ofNat 4096)) (Int.ofNat 16)))) (.err 42 2) (Clu.Out.ok (Clu.AV.b true)))))))))))) := by kernel_rfl
theorem p_n2 (kd cd id op hc ty cl sz most code size : Int) (b1 b3 b4 b5 b6 b7 b8 b9 : Bool) (n N : Nat) (hq he : Bool) (hn : n ≤ 1000) (h : 512 < sz) (g : most ≤ 512) : (Clu.layK lays .e fun h => Clu.runF Tryz.prog (Clu.tell (Clu.tell (Clu.tell (Clu.tell (Clu.tell X 7 100009010000761000062100004810000341000020) 11 1000051) 13 1000065100005110000371000023) 3 100007010000481000029) 6 10000311000024) 1000 1000 3 [.ag [.i .u8 kd, .i .i64 cd, .i .u16 id, .b b1, .i .u8 op, .b b3, .b b4, .b b5, .b b6, .b b7, .b b8, .b b9, .i .u8 hc, .b false, .s n N, .i .u16 ty, .i .u16 cl, .b true, .i .i64 sz], .i .i64 most, .i .i64 code, .i .i64 size] h 1000) = .ok (.b true) := by
  refine (q_n2_raw kd cd id op hc ty cl sz most code size b1 b3 b4 b5 b6 b7 b8 b9 n N hq he).trans ?_
  refine (Clu.needF_eq (Clu.iLt_f (by simp only [Int.ofNat_eq_natCast]; omega)) _ _).trans ?_
  refine (Clu.needT_eq (Clu.iLt_t (by simp only [Int.ofNat_eq_natCast]; omega)) _ _).trans ?_
  refine (Clu.needF_eq (Clu.iLt_f (by simp only [Int.ofNat_eq_natCast]; omega)) _ _).trans ?_
  refine (Clu.needT_eq (Clu.iEq_t (by simp only [Clu.extI_min, Clu.extI_max, Int.ofNat_eq_natCast]; (repeat' split) <;> omega)) _ _).trans ?_
  refine (Clu.needT_eq (c1 _) _ _).trans ?_
  refine (Clu.needT_eq (c2 _) _ _).trans ?_
  refine (Clu.needT_eq (c3 _) _ _).trans ?_
  refine (Clu.needT_eq (c4 _) _ _).trans ?_
  refine (Clu.needT_eq (c5 _ _ _ _ _) _ _).trans ?_
  refine (Clu.needF_eq (c7 _) _ _).trans ?_
  refine (Clu.needF_eq (c6 _) _ _).trans ?_
  rfl
set_option maxRecDepth 10000000 in
theorem q_n3_raw (kd cd id op hc ty cl sz most code size : Int) (b1 b3 b4 b5 b6 b7 b8 b9 : Bool) (n N : Nat) (hq he : Bool) : (Clu.layK lays .e fun h => Clu.runF Tryz.prog (Clu.tell (Clu.tell (Clu.tell (Clu.tell (Clu.tell X 7 100009010000761000062100004810000341000020) 11 1000051) 13 1000065100005110000371000023) 3 100007010000481000029) 6 10000301000024) 1000 1000 3 [.ag [.i .u8 kd, .i .i64 cd, .i .u16 id, .b b1, .i .u8 op, .b b3, .b b4, .b b5, .b b6, .b b7, .b b8, .b b9, .i .u8 hc, .b false, .s n N, .i .u16 ty, .i .u16 cl, .b true, .i .i64 sz], .i .i64 most, .i .i64 code, .i .i64 size] h 1000) = Clu.needF (Clu.iLt (Int.ofNat 1000) (Int.ofNat n)) (.err 42 2) (Clu.needT (Clu.iLt (Int.ofNat 512) sz) (.err 42 1) (Clu.needT (Clu.iLt (Int.ofNat 512) most) (.err 42 1) (Clu.needT (Clu.iEq (Clu.extI true (Clu.extI false most sz) (Int.ofNat 512)) (Clu.extI false most sz)) (.err 42 1) (Clu.needT (Clu.inR IntKind.i64 (Int.ofNat (Nat.land (Clu.modN code 18446744073709551616) 4095))) (.err 10 20) (Clu.needT (Clu.inR IntKind.i64 (Int.ofNat (Nat.land (Clu.modN (Int.ofNat (Nat.land (Clu.modN code 18446744073709551616) 4095)) 18446744073709551616) 15))) (.err 10 20) (Clu.needT (Clu.inR IntKind.i64 (Int.tmod (Clu.wrapF IntKind.u64 code) (Int.ofNat 4096))) (.err 10 20) (Clu.needT (Clu.inR IntKind.i64 (Int.tdiv (Int.tmod (Clu.wrapF IntKind.u64 code) (Int.ofNat 4096)) (Int.ofNat 16))) (.err 10 20) (Clu.needT (id == id && (true && (op == op && (true && (true && (b5 == b5 && (true && (true && (true && (b9 == b9 && (Clu.wrapF IntKind.u8 (Int.ofNat (Nat.land (Clu.modN (Int.ofNat (Nat.land (Clu.modN code 18446744073709551616) 4095)) 18446744073709551616) 15)) == Clu.wrapF IntKind.u8 (Int.tmod (Int.tmod (Clu.wrapF IntKind.u64 code) (Int.ofNat 4096)) (Int.ofNat 16)) && true))))))))))) (.err 42 1) (Clu.needF (!Clu.iEq (Clu.wrapF IntKind.u16 size) (Clu.wrapF IntKind.u16 (Int.tmod (Clu.wrapF IntKind.u64 size) (Int.ofNat 65536)))) (.err 42 2) (Clu.needF (!Clu.iEq (Clu.wrapF IntKind.u8 (Int.fdiv (Int.ofNat (Nat.land (Clu.modN code 18446744073709551616) 4095)) (Int.ofNat 16))) (Clu.wrapF IntKind.u8 (Int.tdiv (Int.tmod (Clu.wrapF IntKind.u64 code) (Int.ofNat 4096)) (Int.ofNat 16)))) (.err 42 2) (Clu.Out.ok (Clu.AV.b true)))))))))))) := by kernel_rfl
theorem p_n3 (kd cd id op hc ty cl sz most code size : Int) (b1 b3 b4 b5 b6 b7 b8 b9 : Bool) (n N : Nat) (hq he : Bool) (hn : n ≤ 1000) (h : 512 < sz) (g : 512 < most) : (Clu.layK lays .e fun h => Clu.runF Tryz.prog (Clu.tell (Clu.tell (Clu.tell (Clu.tell (Clu.tell X 7 100009010000761000062100004810000341000020) 11 1000051) 13 1000065100005110000371000023) 3 100007010000481000029) 6 10000301000024) 1000 1000 3 [.ag [.i .u8 kd, .i .i64 cd, .i .u16 id, .b b1, .i .u8 op, .b b3, .b b4, .b b5, .b b6, .b b7, .b b8, .b b9, .i .u8 hc, .b false, .s n N, .i .u16 ty, .i .u16 cl, .b true, .i .i64 sz], .i .i64 most, .i .i64 code, .i .i64 size] h 1000) = .ok (.b true) := by
  refine (q_n3_raw kd cd id op hc ty cl sz most code size b1 b3 b4 b5 b6 b7 b8 b9 n N hq he).trans ?_
  refine (Clu.needF_eq (Clu.iLt_f (by simp only [Int.ofNat_eq_natCast]; omega)) _ _).trans ?_
  refine (Clu.needT_eq (Clu.iLt_t (by simp only [Int.ofNat_eq_natCast]; omega)) _ _).trans ?_
  refine (Clu.needT_eq (Clu.iLt_t (by simp only [Int.ofNat_eq_natCast]; omega)) _ _).trans ?_
  refine (Clu.needT_eq (Clu.iEq_t (by simp only [Clu.extI_min, Clu.extI_max, Int.ofNat_eq_natCast]; (repeat' split) <;> omega)) _ _).trans ?_
  refine (Clu.needT_eq (c1 _) _ _).trans ?_
  refine (Clu.needT_eq (c2 _) _ _).trans ?_
  refine (Clu.needT_eq (c3 _) _ _).trans ?_
  refine (Clu.needT_eq (c4 _) _ _).trans ?_
  refine (Clu.needT_eq (c5 _ _ _ _ _) _ _).trans ?_
  refine (Clu.needF_eq (c7 _) _ _).trans ?_
  refine (Clu.needF_eq (c6 _) _ _).trans ?_
  rfl
theorem run_ok (c0_0 : Int) (x0 : 0 ≤ c0_0) (y0 : c0_0 ≤ 255) (c0_1 : Int) (x1 : -9223372036854775808 ≤ c0_1) (y1 : c0_1 ≤ 9223372036854775807) (c0_2 : Int) (x2 : 0 ≤ c0_2) (y2 : c0_2 ≤ 65535) (c0_3 : Bool) (c0_4 : Int) (x4 : 0 ≤ c0_4) (y4 : c0_4 ≤ 255) (c0_5 : Bool) (c0_6 : Bool) (c0_7 : Bool) (c0_8 : Bool) (c0_9 : Bool) (c0_10 : Bool) (c0_11 : Bool) (c0_12 : Int) (x12 : 0 ≤ c0_12) (y12 : c0_12 ≤ 255) (c0_13 : Bool) (n N : Nat) (hn : n ≤ Go.maxLen) (c0_15 : Int) (x15 : 0 ≤ c0_15) (y15 : c0_15 ≤ 65535) (c0_16 : Int) (x16 : 0 ≤ c0_16) (y16 : c0_16 ≤ 65535) (c0_17 : Bool) (c0_18 : Int) (x18 : -9223372036854775808 ≤ c0_18) (y18 : c0_18 ≤ 9223372036854775807) (a1 : Int) (u1 : -9223372036854775808 ≤ a1) (v1 : a1 ≤ 9223372036854775807) (a2 : Int) (u2 : -9223372036854775808 ≤ a2) (v2 : a2 ≤ 9223372036854775807) (a3 : Int) (u3 : -9223372036854775808 ≤ a3) (v3 : a3 ≤ 9223372036854775807) : ∃ Y, Clu.XOK Tryz.prog Y ∧ (Clu.layK lays .e fun h => Clu.runF Tryz.prog Y 1000 1000 3 [.ag [.i .u8 c0_0, .i .i64 c0_1, .i .u16 c0_2, .b c0_3, .i .u8 c0_4, .b c0_5, .b c0_6, .b c0_7, .b c0_8, .b c0_9, .b c0_10, .b c0_11, .i .u8 c0_12, .b c0_13, .s n N, .i .u16 c0_15, .i .u16 c0_16, .b c0_17, .i .i64 c0_18], .i .i64 a1, .i .i64 a2, .i .i64 a3] h 1000) = .ok (.b true) := by
  by_cases hs : n ≤ 1000
  case neg =>
    exact ⟨_, (Clu.tell_ok X_ok), p_far c0_0 c0_1 c0_2 c0_4 c0_12 c0_15 c0_16 c0_18 a1 a2 a3 c0_3 c0_5 c0_6 c0_7 c0_8 c0_9 c0_10 c0_11 n N c0_13 c0_17 (by omega)⟩
  cases c0_13 with
  | false =>
    cases c0_17 with
    | false => exact ⟨_, (Clu.tell_ok (Clu.tell_ok (Clu.tell_ok (Clu.tell_ok X_ok)))), p_n0 c0_0 c0_1 c0_2 c0_4 c0_12 c0_15 c0_16 c0_18 a1 a2 a3 c0_3 c0_5 c0_6 c0_7 c0_8 c0_9 c0_10 c0_11 n N true true hs⟩
    | true =>
      by_cases h1 : c0_18 ≤ 512
      · exact ⟨_, (Clu.tell_ok (Clu.tell_ok (Clu.tell_ok (Clu.tell_ok (Clu.tell_ok X_ok))))), p_n1 c0_0 c0_1 c0_2 c0_4 c0_12 c0_15 c0_16 c0_18 a1 a2 a3 c0_3 c0_5 c0_6 c0_7 c0_8 c0_9 c0_10 c0_11 n N true true hs h1⟩
      · by_cases h2 : a1 ≤ 512
        · exact ⟨_, (Clu.tell_ok (Clu.tell_ok (Clu.tell_ok (Clu.tell_ok (Clu.tell_ok X_ok))))), p_n2 c0_0 c0_1 c0_2 c0_4 c0_12 c0_15 c0_16 c0_18 a1 a2 a3 c0_3 c0_5 c0_6 c0_7 c0_8 c0_9 c0_10 c0_11 n N true true hs (by omega) h2⟩
        · exact ⟨_, (Clu.tell_ok (Clu.tell_ok (Clu.tell_ok (Clu.tell_ok (Clu.tell_ok X_ok))))), p_n3 c0_0 c0_1 c0_2 c0_4 c0_12 c0_15 c0_16 c0_18 a1 a2 a3 c0_3 c0_5 c0_6 c0_7 c0_8 c0_9 c0_10 c0_11 n N true true hs (by omega) (by omega)⟩
  | true =>
    cases c0_17 with
    | false => exact ⟨_, (Clu.tell_ok (Clu.tell_ok (Clu.tell_ok (Clu.tell_ok X_ok)))), p_q0 c0_0 c0_1 c0_2 c0_4 c0_12 c0_15 c0_16 c0_18 a1 a2 a3 c0_3 c0_5 c0_6 c0_7 c0_8 c0_9 c0_10 c0_11 n N true true hs⟩
    | true =>
      by_cases h1 : c0_18 ≤ 512
      · exact ⟨_, (Clu.tell_ok (Clu.tell_ok (Clu.tell_ok (Clu.tell_ok (Clu.tell_ok X_ok))))), p_q1 c0_0 c0_1 c0_2 c0_4 c0_12 c0_15 c0_16 c0_18 a1 a2 a3 c0_3 c0_5 c0_6 c0_7 c0_8 c0_9 c0_10 c0_11 n N true true hs h1⟩
      · by_cases h2 : a1 ≤ 512
        · exact ⟨_, (Clu.tell_ok (Clu.tell_ok (Clu.tell_ok (Clu.tell_ok (Clu.tell_ok X_ok))))), p_q2 c0_0 c0_1 c0_2 c0_4 c0_12 c0_15 c0_16 c0_18 a1 a2 a3 c0_3 c0_5 c0_6 c0_7 c0_8 c0_9 c0_10 c0_11 n N true true hs (by omega) h2⟩
        · exact ⟨_, (Clu.tell_ok (Clu.tell_ok (Clu.tell_ok (Clu.tell_ok (Clu.tell_ok X_ok))))), p_q3 c0_0 c0_1 c0_2 c0_4 c0_12 c0_15 c0_16 c0_18 a1 a2 a3 c0_3 c0_5 c0_6 c0_7 c0_8 c0_9 c0_10 c0_11 n N true true hs (by omega) (by omega)⟩
end Go.Proofs.YtgmkjmbfknhanaaGreatDoor.intakeTells
