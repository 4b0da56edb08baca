/-
  name.lower: what it comes to.
-/
import Derived.Test.YtmokdhmicdmgfaaCluze
import Derived.Test.YtmokdhmicdmgfaaNmTh
namespace Go.Proofs.Ytmokdhmicdmgfaa
open Go.RowKit
set_option linter.unusedVariables false
set_option linter.unusedSimpArgs false
set_option maxRecDepth 100000
set_option maxRecDepth 10000000 in
theorem lowA_raw (n N i : Nat) (os : Nat → Option Clu.AV) : Clu.evL (Clu.noL) Try.prog (Clu.noX) 50 35 1000 (Clu.loopNo Try.f35 0) (Clu.tellF [3000018, 3000032, 3000038, 3000042, 3000062] (Clu.mkFr 35 (Clu.std [0, 3, 7, 8] [.s n N, .sn, .i .i64 (.ofNat n), .i .i64 (.ofNat i)] [9, 15, 16, 18, 19, 21, 31] os))) (Clu.mkH (Clu.mkH .e (Clu.layB [])) []) 1000 (Clu.finM 35 1000 [9, 15, 16, 18, 19, 21, 31] 0 [(0, [0, 3, 7, 8], [(1000, 0, 1, none)], some 1001), (0, [0, 3, 7, 8], [], none), (2, [0, 3], [], none)]) = Clu.forkB ((Clu.iLt (Int.ofNat i) (Int.ofNat n))) (Clu.needT ((Clu.flatB (os 15))) (.err 90 1) (Clu.needT ((Clu.flatB (os 16))) (.err 90 1) (Clu.needT ((Clu.flatB (os 18))) (.err 90 1) (Clu.needT ((Clu.flatB (os 19))) (.err 90 1) (Clu.needT ((Clu.flatB (os 21))) (.err 90 1) (Clu.needT ((Clu.flatB (os 31))) (.err 90 1) ((Clu.Out.ok (Clu.AV.tu [(Clu.AV.i IntKind.i64 (Int.ofNat 2)), (Clu.AV.s n N), Clu.AV.sn]))))))))) (Clu.needT ((Nat.blt i n)) (.err 22 6) (Clu.forkB ((Bool.not (Clu.iLt (Int.ofNat (Clu.byteN N i)) (Int.ofNat 65)))) (Clu.needT ((Clu.inR IntKind.i64 (Int.ofNat (i + 1)))) (.err 10 20) (Clu.needT ((Clu.flatB (os 21))) (.err 90 1) (Clu.needT ((Clu.flatB (os 31))) (.err 90 1) ((Clu.Out.ok (Clu.AV.tu [(Clu.AV.i IntKind.i64 (Int.ofNat 1)), (Clu.AV.s n N), Clu.AV.sn, (Clu.AV.i IntKind.i64 (Int.ofNat n)), (Clu.AV.i IntKind.i64 (Int.ofNat (i + 1)))])))))) (Clu.forkB ((Bool.not (Clu.iLt (Int.ofNat 90) (Int.ofNat (Clu.byteN N i))))) (Clu.needT ((Clu.inR IntKind.i64 (Int.ofNat (i + 1)))) (.err 10 20) (Clu.needT ((Clu.flatB (os 21))) (.err 90 1) (Clu.needT ((Clu.flatB (os 31))) (.err 90 1) ((Clu.Out.ok (Clu.AV.tu [(Clu.AV.i IntKind.i64 (Int.ofNat 1)), (Clu.AV.s n N), Clu.AV.sn, (Clu.AV.i IntKind.i64 (Int.ofNat n)), (Clu.AV.i IntKind.i64 (Int.ofNat (i + 1)))])))))) (Clu.needT ((Nat.blt i n)) (.err 22 0) (Clu.needT ((Nat.ble ((0 + (i * 1)) + 1) (List.length (HAppend.hAppend (List.map (fun (i_x : Nat) => (Clu.AV.i IntKind.u8 (Int.ofNat (Clu.byteN N i_x)))) (List.range n)) [])))) (.err 7 0) (Clu.needT ((Clu.inR IntKind.i64 (Int.ofNat (i + 1)))) (.err 10 20) (Clu.needT ((Clu.flatB (os 31))) (.err 90 1) ((Clu.Out.ok (Clu.AV.tu [(Clu.AV.i IntKind.i64 (Int.ofNat 0)), (Clu.AV.s n N), (Clu.AV.so 1000 0 1 n), (Clu.AV.i IntKind.i64 (Int.ofNat n)), (Clu.AV.i IntKind.i64 (Int.ofNat (i + 1))), (Clu.AV.ag (Clu.splice (HAppend.hAppend (List.map (fun (i_x : Nat) => (Clu.AV.i IntKind.u8 (Int.ofNat (Clu.byteN N i_x)))) (List.range n)) []) (0 + (i * 1)) [(Clu.AV.i IntKind.u8 (Int.ofNat (Clu.modN (Int.ofNat ((Clu.byteN N i) + 32)) 256)))]))])))))))))) := by kernel_rfl
set_option linter.unusedVariables false in
theorem lowA_0 (n N i : Nat) (os : Nat → Option Clu.AV) (hos : ∀ t, Clu.flatB (os t) = true)  (c1 : n ≤ i) : ∃ os' : Nat → Option Clu.AV, (∀ t, Clu.flatB (os' t) = true) ∧ Clu.RunE Try.prog 50 (Clu.loopNo Try.f35 0) 35 1000 (Clu.mkFr 35 (Clu.std [0, 3, 7, 8] [.s n N, .sn, .i .i64 (.ofNat n), .i .i64 (.ofNat i)] [9, 15, 16, 18, 19, 21, 31] os)) (Clu.mkH .e ([] ++ (Clu.layB []))) 1000 (Clu.exOf 2) (Clu.mkFr 35 (Clu.std [0, 3] [(Clu.AV.s n N), Clu.AV.sn] [9, 15, 16, 18, 19, 21, 31] os')) (Clu.mkH .e ([] ++ (Clu.layB []))) 1000 :=
  Clu.segM (vs := [(Clu.AV.s n N), Clu.AV.sn]) (cs := []) 2 2 [0, 3] [] (Clu.evL_ok Clu.plain (Clu.noX_ok) (Clu.drK_ok Clu.mixed) (Clu.noL_ok) 50) (Clu.layB_bs rfl (by decide) (by decide)) hos (((((((((lowA_raw n N i os)).trans (Clu.forkB_f (Clu.iLt_f (Int.ofNat_le.2 c1)) _ _)).trans (Clu.needT_eq (hos _) _ _)).trans (Clu.needT_eq (hos _) _ _)).trans (Clu.needT_eq (hos _) _ _)).trans (Clu.needT_eq (hos _) _ _)).trans (Clu.needT_eq (hos _) _ _)).trans (Clu.needT_eq (hos _) _ _)) rfl rfl rfl (by decide) rfl (by simp [Clu.Blk.und, Clu.AV.und, Clu.AV.unds]) rfl (Clu.newH_ro rfl) (by simp [Clu.AV.und, Clu.AV.unds, Clu.AV.cells, Clu.unds_splice])
set_option linter.unusedVariables false in
theorem lowA_1 (n N i : Nat) (os : Nat → Option Clu.AV) (hos : ∀ t, Clu.flatB (os t) = true)  (c1 : i < n) (n1 : i < n := by omega) (c2 : (Clu.byteN N i) < 65) (n2 : (i + 1) < 9223372036854775808 := by omega) : ∃ os' : Nat → Option Clu.AV, (∀ t, Clu.flatB (os' t) = true) ∧ Clu.RunE Try.prog 50 (Clu.loopNo Try.f35 0) 35 1000 (Clu.mkFr 35 (Clu.std [0, 3, 7, 8] [.s n N, .sn, .i .i64 (.ofNat n), .i .i64 (.ofNat i)] [9, 15, 16, 18, 19, 21, 31] os)) (Clu.mkH .e ([] ++ (Clu.layB []))) 1000 (Clu.exOf 0) (Clu.mkFr 35 (Clu.std [0, 3, 7, 8] [(Clu.AV.s n N), Clu.AV.sn, (Clu.AV.i IntKind.i64 (Int.ofNat n)), (Clu.AV.i IntKind.i64 (Int.ofNat (i + 1)))] [9, 15, 16, 18, 19, 21, 31] os')) (Clu.mkH .e ([] ++ (Clu.layB []))) 1000 :=
  Clu.segM (vs := [(Clu.AV.s n N), Clu.AV.sn, (Clu.AV.i IntKind.i64 (Int.ofNat n)), (Clu.AV.i IntKind.i64 (Int.ofNat (i + 1)))]) (cs := []) 1 0 [0, 3, 7, 8] [] (Clu.evL_ok Clu.plain (Clu.noX_ok) (Clu.drK_ok Clu.mixed) (Clu.noL_ok) 50) (Clu.layB_bs rfl (by decide) (by decide)) hos ((((((((lowA_raw n N i os)).trans (Clu.forkB_t (Clu.iLt_t (Int.ofNat_lt.2 c1)) _ _)).trans (Clu.needT_eq (Clu.blt_iff.2 n1) _ _)).trans (Clu.forkB_f (congrArg not (Clu.iLt_t (Int.ofNat_lt.2 c2))) _ _)).trans (Clu.needT_eq (Clu.inR_nat (k := .i64) n2) _ _)).trans (Clu.needT_eq (hos _) _ _)).trans (Clu.needT_eq (hos _) _ _)) rfl rfl rfl (by decide) rfl (by simp [Clu.Blk.und, Clu.AV.und, Clu.AV.unds]) rfl (Clu.newH_ro rfl) (by simp [Clu.AV.und, Clu.AV.unds, Clu.AV.cells, Clu.unds_splice])
set_option linter.unusedVariables false in
theorem lowA_2 (n N i : Nat) (os : Nat → Option Clu.AV) (hos : ∀ t, Clu.flatB (os t) = true)  (c1 : i < n) (n1 : i < n := by omega) (c2 : 65 ≤ (Clu.byteN N i)) (c3 : 90 < (Clu.byteN N i)) (n2 : (i + 1) < 9223372036854775808 := by omega) : ∃ os' : Nat → Option Clu.AV, (∀ t, Clu.flatB (os' t) = true) ∧ Clu.RunE Try.prog 50 (Clu.loopNo Try.f35 0) 35 1000 (Clu.mkFr 35 (Clu.std [0, 3, 7, 8] [.s n N, .sn, .i .i64 (.ofNat n), .i .i64 (.ofNat i)] [9, 15, 16, 18, 19, 21, 31] os)) (Clu.mkH .e ([] ++ (Clu.layB []))) 1000 (Clu.exOf 0) (Clu.mkFr 35 (Clu.std [0, 3, 7, 8] [(Clu.AV.s n N), Clu.AV.sn, (Clu.AV.i IntKind.i64 (Int.ofNat n)), (Clu.AV.i IntKind.i64 (Int.ofNat (i + 1)))] [9, 15, 16, 18, 19, 21, 31] os')) (Clu.mkH .e ([] ++ (Clu.layB []))) 1000 :=
  Clu.segM (vs := [(Clu.AV.s n N), Clu.AV.sn, (Clu.AV.i IntKind.i64 (Int.ofNat n)), (Clu.AV.i IntKind.i64 (Int.ofNat (i + 1)))]) (cs := []) 1 0 [0, 3, 7, 8] [] (Clu.evL_ok Clu.plain (Clu.noX_ok) (Clu.drK_ok Clu.mixed) (Clu.noL_ok) 50) (Clu.layB_bs rfl (by decide) (by decide)) hos (((((((((lowA_raw n N i os)).trans (Clu.forkB_t (Clu.iLt_t (Int.ofNat_lt.2 c1)) _ _)).trans (Clu.needT_eq (Clu.blt_iff.2 n1) _ _)).trans (Clu.forkB_t (congrArg not (Clu.iLt_f (Int.ofNat_le.2 c2))) _ _)).trans (Clu.forkB_f (congrArg not (Clu.iLt_t (Int.ofNat_lt.2 c3))) _ _)).trans (Clu.needT_eq (Clu.inR_nat (k := .i64) n2) _ _)).trans (Clu.needT_eq (hos _) _ _)).trans (Clu.needT_eq (hos _) _ _)) rfl rfl rfl (by decide) rfl (by simp [Clu.Blk.und, Clu.AV.und, Clu.AV.unds]) rfl (Clu.newH_ro rfl) (by simp [Clu.AV.und, Clu.AV.unds, Clu.AV.cells, Clu.unds_splice])
set_option linter.unusedVariables false in
theorem lowA_3 (n N i : Nat) (os : Nat → Option Clu.AV) (hos : ∀ t, Clu.flatB (os t) = true)  (c1 : i < n) (n1 : i < n := by omega) (c2 : 65 ≤ (Clu.byteN N i)) (c3 : (Clu.byteN N i) ≤ 90) (n2 : i < n := by omega) (n3 : ((0 + (i * 1)) + 1) ≤ (List.length (HAppend.hAppend (List.map (fun (i_x : Nat) => (Clu.AV.i IntKind.u8 (Int.ofNat (Clu.byteN N i_x)))) (List.range n)) [])) := by first | omega | (simp; omega)) (n4 : (i + 1) < 9223372036854775808 := by omega) : ∃ os' : Nat → Option Clu.AV, (∀ t, Clu.flatB (os' t) = true) ∧ Clu.RunE Try.prog 50 (Clu.loopNo Try.f35 0) 35 1000 (Clu.mkFr 35 (Clu.std [0, 3, 7, 8] [.s n N, .sn, .i .i64 (.ofNat n), .i .i64 (.ofNat i)] [9, 15, 16, 18, 19, 21, 31] os)) (Clu.mkH .e ([] ++ (Clu.layB []))) 1000 (Clu.exOf 0) (Clu.mkFr 35 (Clu.std [0, 3, 7, 8] [(Clu.AV.s n N), (Clu.AV.so 1000 0 1 n), (Clu.AV.i IntKind.i64 (Int.ofNat n)), (Clu.AV.i IntKind.i64 (Int.ofNat (i + 1)))] [9, 15, 16, 18, 19, 21, 31] os')) (Clu.mkH .e ([(1000, .c (Clu.splice (HAppend.hAppend (List.map (fun (i_x : Nat) => (Clu.AV.i IntKind.u8 (Int.ofNat (Clu.byteN N i_x)))) (List.range n)) []) (0 + (i * 1)) [(Clu.AV.i IntKind.u8 (Int.ofNat (Clu.modN (Int.ofNat ((Clu.byteN N i) + 32)) 256)))]) 0 1 none)] ++ (Clu.layB []))) 1001 :=
  Clu.segMN (vs := [(Clu.AV.s n N), (Clu.AV.so 1000 0 1 n), (Clu.AV.i IntKind.i64 (Int.ofNat n)), (Clu.AV.i IntKind.i64 (Int.ofNat (i + 1)))]) (cs := [(Clu.splice (HAppend.hAppend (List.map (fun (i_x : Nat) => (Clu.AV.i IntKind.u8 (Int.ofNat (Clu.byteN N i_x)))) (List.range n)) []) (0 + (i * 1)) [(Clu.AV.i IntKind.u8 (Int.ofNat (Clu.modN (Int.ofNat ((Clu.byteN N i) + 32)) 256)))])]) 0 0 [0, 3, 7, 8] [(1000, 0, 1, none)] (Clu.evL_ok Clu.plain (Clu.noX_ok) (Clu.drK_ok Clu.mixed) (Clu.noL_ok) 50) (Clu.layB_bs rfl (by decide) (by decide)) hos ((((((((((lowA_raw n N i os)).trans (Clu.forkB_t (Clu.iLt_t (Int.ofNat_lt.2 c1)) _ _)).trans (Clu.needT_eq (Clu.blt_iff.2 n1) _ _)).trans (Clu.forkB_t (congrArg not (Clu.iLt_f (Int.ofNat_le.2 c2))) _ _)).trans (Clu.forkB_t (congrArg not (Clu.iLt_f (Int.ofNat_le.2 c3))) _ _)).trans (Clu.needT_eq (Clu.blt_iff.2 n2) _ _)).trans (Clu.needT_eq (Clu.ble_iff.2 n3) _ _)).trans (Clu.needT_eq (Clu.inR_nat (k := .i64) n4) _ _)).trans (Clu.needT_eq (hos _) _ _)) rfl rfl rfl (by simp) (by simp)
set_option maxRecDepth 10000000 in
theorem lowB_raw (n N i : Nat) (cs : List Clu.AV) (os : Nat → Option Clu.AV) : Clu.evL (Clu.noL) Try.prog (Clu.noX) 50 35 1000 (Clu.loopNo Try.f35 0) (Clu.tellF [3000018, 3000032, 3000038, 3000042, 3000062] (Clu.mkFr 35 (Clu.std [0, 3, 7, 8] [.s n N, .so 1000 0 1 n, .i .i64 (.ofNat n), .i .i64 (.ofNat i)] [9, 15, 16, 18, 19, 21, 31] os))) (Clu.mkH (Clu.mkH .e (Clu.layB [])) [(1000, .c cs 0 1 none)]) 1001 (Clu.finM 35 1001 [9, 15, 16, 18, 19, 21, 31] 0 [(0, [0, 3, 7, 8], [(1000, 0, 1, none)], none), (2, [0, 3], [(1000, 0, 1, none)], none)]) = Clu.forkB ((Clu.iLt (Int.ofNat i) (Int.ofNat n))) (Clu.needT ((Clu.flatB (os 15))) (.err 90 1) (Clu.needT ((Clu.flatB (os 16))) (.err 90 1) (Clu.needT ((Clu.flatB (os 18))) (.err 90 1) (Clu.needT ((Clu.flatB (os 19))) (.err 90 1) (Clu.needT ((Clu.flatB (os 21))) (.err 90 1) (Clu.needT ((Clu.flatB (os 31))) (.err 90 1) ((Clu.Out.ok (Clu.AV.tu [(Clu.AV.i IntKind.i64 (Int.ofNat 1)), (Clu.AV.s n N), (Clu.AV.so 1000 0 1 n), (Clu.AV.ag cs)]))))))))) (Clu.needT ((Nat.blt i n)) (.err 22 6) (Clu.forkB ((Bool.not (Clu.iLt (Int.ofNat (Clu.byteN N i)) (Int.ofNat 65)))) (Clu.needT ((Clu.inR IntKind.i64 (Int.ofNat (i + 1)))) (.err 10 20) (Clu.needT ((Clu.flatB (os 21))) (.err 90 1) (Clu.needT ((Clu.flatB (os 31))) (.err 90 1) ((Clu.Out.ok (Clu.AV.tu [(Clu.AV.i IntKind.i64 (Int.ofNat 0)), (Clu.AV.s n N), (Clu.AV.so 1000 0 1 n), (Clu.AV.i IntKind.i64 (Int.ofNat n)), (Clu.AV.i IntKind.i64 (Int.ofNat (i + 1))), (Clu.AV.ag cs)])))))) (Clu.forkB ((Bool.not (Clu.iLt (Int.ofNat 90) (Int.ofNat (Clu.byteN N i))))) (Clu.needT ((Clu.inR IntKind.i64 (Int.ofNat (i + 1)))) (.err 10 20) (Clu.needT ((Clu.flatB (os 21))) (.err 90 1) (Clu.needT ((Clu.flatB (os 31))) (.err 90 1) ((Clu.Out.ok (Clu.AV.tu [(Clu.AV.i IntKind.i64 (Int.ofNat 0)), (Clu.AV.s n N), (Clu.AV.so 1000 0 1 n), (Clu.AV.i IntKind.i64 (Int.ofNat n)), (Clu.AV.i IntKind.i64 (Int.ofNat (i + 1))), (Clu.AV.ag cs)])))))) (Clu.needT ((Nat.blt i n)) (.err 22 0) (Clu.needT ((Nat.ble ((0 + (i * 1)) + 1) (List.length cs))) (.err 7 0) (Clu.needT ((Clu.inR IntKind.i64 (Int.ofNat (i + 1)))) (.err 10 20) (Clu.needT ((Clu.flatB (os 31))) (.err 90 1) ((Clu.Out.ok (Clu.AV.tu [(Clu.AV.i IntKind.i64 (Int.ofNat 0)), (Clu.AV.s n N), (Clu.AV.so 1000 0 1 n), (Clu.AV.i IntKind.i64 (Int.ofNat n)), (Clu.AV.i IntKind.i64 (Int.ofNat (i + 1))), (Clu.AV.ag (Clu.splice cs (0 + (i * 1)) [(Clu.AV.i IntKind.u8 (Int.ofNat (Clu.modN (Int.ofNat ((Clu.byteN N i) + 32)) 256)))]))])))))))))) := by kernel_rfl
set_option linter.unusedVariables false in
theorem lowB_0 (n N i : Nat) (cs : List Clu.AV) (os : Nat → Option Clu.AV) (hos : ∀ t, Clu.flatB (os t) = true) (hu : Clu.AV.unds 1001 cs = true) (c1 : n ≤ i) : ∃ os' : Nat → Option Clu.AV, (∀ t, Clu.flatB (os' t) = true) ∧ Clu.RunE Try.prog 50 (Clu.loopNo Try.f35 0) 35 1000 (Clu.mkFr 35 (Clu.std [0, 3, 7, 8] [.s n N, .so 1000 0 1 n, .i .i64 (.ofNat n), .i .i64 (.ofNat i)] [9, 15, 16, 18, 19, 21, 31] os)) (Clu.mkH .e ([(1000, .c cs 0 1 none)] ++ (Clu.layB []))) 1001 (Clu.exOf 2) (Clu.mkFr 35 (Clu.std [0, 3] [(Clu.AV.s n N), (Clu.AV.so 1000 0 1 n)] [9, 15, 16, 18, 19, 21, 31] os')) (Clu.mkH .e ([(1000, .c cs 0 1 none)] ++ (Clu.layB []))) 1001 :=
  Clu.segM (vs := [(Clu.AV.s n N), (Clu.AV.so 1000 0 1 n)]) (cs := [cs]) 1 2 [0, 3] [(1000, 0, 1, none)] (Clu.evL_ok Clu.plain (Clu.noX_ok) (Clu.drK_ok Clu.mixed) (Clu.noL_ok) 50) (Clu.layB_bs rfl (by decide) (by decide)) hos (((((((((lowB_raw n N i cs os)).trans (Clu.forkB_f (Clu.iLt_f (Int.ofNat_le.2 c1)) _ _)).trans (Clu.needT_eq (hos _) _ _)).trans (Clu.needT_eq (hos _) _ _)).trans (Clu.needT_eq (hos _) _ _)).trans (Clu.needT_eq (hos _) _ _)).trans (Clu.needT_eq (hos _) _ _)).trans (Clu.needT_eq (hos _) _ _)) rfl rfl rfl (by decide) rfl (by simp [Clu.Blk.und, Clu.AV.und, Clu.AV.unds, hu]) rfl (Clu.newH_ro rfl) (by simp [Clu.AV.und, Clu.AV.unds, Clu.AV.cells, Clu.unds_splice, hu])
set_option linter.unusedVariables false in
theorem lowB_1 (n N i : Nat) (cs : List Clu.AV) (os : Nat → Option Clu.AV) (hos : ∀ t, Clu.flatB (os t) = true) (hu : Clu.AV.unds 1001 cs = true) (c1 : i < n) (n1 : i < n := by omega) (c2 : (Clu.byteN N i) < 65) (n2 : (i + 1) < 9223372036854775808 := by omega) : ∃ os' : Nat → Option Clu.AV, (∀ t, Clu.flatB (os' t) = true) ∧ Clu.RunE Try.prog 50 (Clu.loopNo Try.f35 0) 35 1000 (Clu.mkFr 35 (Clu.std [0, 3, 7, 8] [.s n N, .so 1000 0 1 n, .i .i64 (.ofNat n), .i .i64 (.ofNat i)] [9, 15, 16, 18, 19, 21, 31] os)) (Clu.mkH .e ([(1000, .c cs 0 1 none)] ++ (Clu.layB []))) 1001 (Clu.exOf 0) (Clu.mkFr 35 (Clu.std [0, 3, 7, 8] [(Clu.AV.s n N), (Clu.AV.so 1000 0 1 n), (Clu.AV.i IntKind.i64 (Int.ofNat n)), (Clu.AV.i IntKind.i64 (Int.ofNat (i + 1)))] [9, 15, 16, 18, 19, 21, 31] os')) (Clu.mkH .e ([(1000, .c cs 0 1 none)] ++ (Clu.layB []))) 1001 :=
  Clu.segM (vs := [(Clu.AV.s n N), (Clu.AV.so 1000 0 1 n), (Clu.AV.i IntKind.i64 (Int.ofNat n)), (Clu.AV.i IntKind.i64 (Int.ofNat (i + 1)))]) (cs := [cs]) 0 0 [0, 3, 7, 8] [(1000, 0, 1, none)] (Clu.evL_ok Clu.plain (Clu.noX_ok) (Clu.drK_ok Clu.mixed) (Clu.noL_ok) 50) (Clu.layB_bs rfl (by decide) (by decide)) hos ((((((((lowB_raw n N i cs os)).trans (Clu.forkB_t (Clu.iLt_t (Int.ofNat_lt.2 c1)) _ _)).trans (Clu.needT_eq (Clu.blt_iff.2 n1) _ _)).trans (Clu.forkB_f (congrArg not (Clu.iLt_t (Int.ofNat_lt.2 c2))) _ _)).trans (Clu.needT_eq (Clu.inR_nat (k := .i64) n2) _ _)).trans (Clu.needT_eq (hos _) _ _)).trans (Clu.needT_eq (hos _) _ _)) rfl rfl rfl (by decide) rfl (by simp [Clu.Blk.und, Clu.AV.und, Clu.AV.unds, hu]) rfl (Clu.newH_ro rfl) (by simp [Clu.AV.und, Clu.AV.unds, Clu.AV.cells, Clu.unds_splice, hu])
set_option linter.unusedVariables false in
theorem lowB_2 (n N i : Nat) (cs : List Clu.AV) (os : Nat → Option Clu.AV) (hos : ∀ t, Clu.flatB (os t) = true) (hu : Clu.AV.unds 1001 cs = true) (c1 : i < n) (n1 : i < n := by omega) (c2 : 65 ≤ (Clu.byteN N i)) (c3 : 90 < (Clu.byteN N i)) (n2 : (i + 1) < 9223372036854775808 := by omega) : ∃ os' : Nat → Option Clu.AV, (∀ t, Clu.flatB (os' t) = true) ∧ Clu.RunE Try.prog 50 (Clu.loopNo Try.f35 0) 35 1000 (Clu.mkFr 35 (Clu.std [0, 3, 7, 8] [.s n N, .so 1000 0 1 n, .i .i64 (.ofNat n), .i .i64 (.ofNat i)] [9, 15, 16, 18, 19, 21, 31] os)) (Clu.mkH .e ([(1000, .c cs 0 1 none)] ++ (Clu.layB []))) 1001 (Clu.exOf 0) (Clu.mkFr 35 (Clu.std [0, 3, 7, 8] [(Clu.AV.s n N), (Clu.AV.so 1000 0 1 n), (Clu.AV.i IntKind.i64 (Int.ofNat n)), (Clu.AV.i IntKind.i64 (Int.ofNat (i + 1)))] [9, 15, 16, 18, 19, 21, 31] os')) (Clu.mkH .e ([(1000, .c cs 0 1 none)] ++ (Clu.layB []))) 1001 :=
  Clu.segM (vs := [(Clu.AV.s n N), (Clu.AV.so 1000 0 1 n), (Clu.AV.i IntKind.i64 (Int.ofNat n)), (Clu.AV.i IntKind.i64 (Int.ofNat (i + 1)))]) (cs := [cs]) 0 0 [0, 3, 7, 8] [(1000, 0, 1, none)] (Clu.evL_ok Clu.plain (Clu.noX_ok) (Clu.drK_ok Clu.mixed) (Clu.noL_ok) 50) (Clu.layB_bs rfl (by decide) (by decide)) hos (((((((((lowB_raw n N i cs os)).trans (Clu.forkB_t (Clu.iLt_t (Int.ofNat_lt.2 c1)) _ _)).trans (Clu.needT_eq (Clu.blt_iff.2 n1) _ _)).trans (Clu.forkB_t (congrArg not (Clu.iLt_f (Int.ofNat_le.2 c2))) _ _)).trans (Clu.forkB_f (congrArg not (Clu.iLt_t (Int.ofNat_lt.2 c3))) _ _)).trans (Clu.needT_eq (Clu.inR_nat (k := .i64) n2) _ _)).trans (Clu.needT_eq (hos _) _ _)).trans (Clu.needT_eq (hos _) _ _)) rfl rfl rfl (by decide) rfl (by simp [Clu.Blk.und, Clu.AV.und, Clu.AV.unds, hu]) rfl (Clu.newH_ro rfl) (by simp [Clu.AV.und, Clu.AV.unds, Clu.AV.cells, Clu.unds_splice, hu])
set_option linter.unusedVariables false in
theorem lowB_3 (n N i : Nat) (cs : List Clu.AV) (os : Nat → Option Clu.AV) (hos : ∀ t, Clu.flatB (os t) = true) (hu : Clu.AV.unds 1001 cs = true) (c1 : i < n) (n1 : i < n := by omega) (c2 : 65 ≤ (Clu.byteN N i)) (c3 : (Clu.byteN N i) ≤ 90) (n2 : i < n := by omega) (n3 : ((0 + (i * 1)) + 1) ≤ (List.length cs) := by first | omega | (simp; omega)) (n4 : (i + 1) < 9223372036854775808 := by omega) : ∃ os' : Nat → Option Clu.AV, (∀ t, Clu.flatB (os' t) = true) ∧ Clu.RunE Try.prog 50 (Clu.loopNo Try.f35 0) 35 1000 (Clu.mkFr 35 (Clu.std [0, 3, 7, 8] [.s n N, .so 1000 0 1 n, .i .i64 (.ofNat n), .i .i64 (.ofNat i)] [9, 15, 16, 18, 19, 21, 31] os)) (Clu.mkH .e ([(1000, .c cs 0 1 none)] ++ (Clu.layB []))) 1001 (Clu.exOf 0) (Clu.mkFr 35 (Clu.std [0, 3, 7, 8] [(Clu.AV.s n N), (Clu.AV.so 1000 0 1 n), (Clu.AV.i IntKind.i64 (Int.ofNat n)), (Clu.AV.i IntKind.i64 (Int.ofNat (i + 1)))] [9, 15, 16, 18, 19, 21, 31] os')) (Clu.mkH .e ([(1000, .c (Clu.splice cs (0 + (i * 1)) [(Clu.AV.i IntKind.u8 (Int.ofNat (Clu.modN (Int.ofNat ((Clu.byteN N i) + 32)) 256)))]) 0 1 none)] ++ (Clu.layB []))) 1001 :=
  Clu.segM (vs := [(Clu.AV.s n N), (Clu.AV.so 1000 0 1 n), (Clu.AV.i IntKind.i64 (Int.ofNat n)), (Clu.AV.i IntKind.i64 (Int.ofNat (i + 1)))]) (cs := [(Clu.splice cs (0 + (i * 1)) [(Clu.AV.i IntKind.u8 (Int.ofNat (Clu.modN (Int.ofNat ((Clu.byteN N i) + 32)) 256)))])]) 0 0 [0, 3, 7, 8] [(1000, 0, 1, none)] (Clu.evL_ok Clu.plain (Clu.noX_ok) (Clu.drK_ok Clu.mixed) (Clu.noL_ok) 50) (Clu.layB_bs rfl (by decide) (by decide)) hos ((((((((((lowB_raw n N i cs os)).trans (Clu.forkB_t (Clu.iLt_t (Int.ofNat_lt.2 c1)) _ _)).trans (Clu.needT_eq (Clu.blt_iff.2 n1) _ _)).trans (Clu.forkB_t (congrArg not (Clu.iLt_f (Int.ofNat_le.2 c2))) _ _)).trans (Clu.forkB_t (congrArg not (Clu.iLt_f (Int.ofNat_le.2 c3))) _ _)).trans (Clu.needT_eq (Clu.blt_iff.2 n2) _ _)).trans (Clu.needT_eq (Clu.ble_iff.2 n3) _ _)).trans (Clu.needT_eq (Clu.inR_nat (k := .i64) n4) _ _)).trans (Clu.needT_eq (hos _) _ _)) rfl rfl rfl (by decide) rfl (by simp [Clu.Blk.und, Clu.AV.und, Clu.AV.unds, hu]) rfl (Clu.newH_ro rfl) (by simp [Clu.AV.und, Clu.AV.unds, Clu.AV.cells, Clu.unds_splice, hu])
set_option maxRecDepth 10000000 in
theorem lowF_raw (n N : Nat) (up : Bool) (cs : List Clu.AV) : (Clu.layK [] .e fun h => Clu.runL (Clu.addL (Clu.noL) (Clu.loopNo Try.f35 0) 3 (Clu.loopM [3000018, 3000032, 3000038, 3000042, 3000062] Try.prog (Clu.loopNo Try.f35 0) [0, 3, 7, 8] [9, 15, 16, 18, 19, 21, 31] [] [] (fun _ _ _ => .fork up (.leaf (2, [0, 3], [.s n N, .sn], [], 1000)) (.leaf (2, [0, 3], [.s n N, .so 1000 0 1 n], [(1000, .c cs 0 1 none)], 1001))))) Try.prog (Clu.tell (Clu.noX) 35 30000623000042300003830000323000018) (n + 1000) 1000 35 [.s n N] h 1000) = Clu.needP ((Clu.loopNo Try.f35 0) = (Clu.loopNo Try.f35 0)) (fun _ => .err 91 0) (fun h600 => Clu.forkB (up) (Clu.needP (Clu.LoopQ (Try.prog) ((Clu.loopNo Try.f35 0)) ((n + 995)) (35) (1000) ([]) (1000) (2) ([0, 3, 7, 8]) ([(Clu.AV.s n N), Clu.AV.sn, (Clu.AV.i IntKind.i64 (Int.ofNat n)), (Clu.AV.i IntKind.i64 (Int.ofNat 0))]) ([9, 15, 16, 18, 19, 21, 31]) ([0, 3]) ([(Clu.AV.s n N), Clu.AV.sn]) ([]) (1000)) (fun _ => .err 93 1) (fun h598 => (Clu.Out.ok (Clu.AV.s n N)))) (Clu.needP (Clu.LoopQ (Try.prog) ((Clu.loopNo Try.f35 0)) ((n + 995)) (35) (1000) ([]) (1000) (2) ([0, 3, 7, 8]) ([(Clu.AV.s n N), Clu.AV.sn, (Clu.AV.i IntKind.i64 (Int.ofNat n)), (Clu.AV.i IntKind.i64 (Int.ofNat 0))]) ([9, 15, 16, 18, 19, 21, 31]) ([0, 3]) ([(Clu.AV.s n N), (Clu.AV.so 1000 0 1 n)]) ([(1000, (Clu.Blk.c cs 0 1 Option.none))]) (1001)) (fun _ => .err 93 1) (fun h598 => Clu.needT ((Nat.ble n (List.length (List.drop 0 cs)))) (.err 1 0) (Clu.needT ((List.all (List.take n (List.drop 0 cs)) Clu.isU8)) (.err 3 0) ((Clu.Out.ok (Clu.AV.s (List.length (List.take n (List.drop 0 cs))) (Clu.pk (List.map Clu.u8N (List.take n (List.drop 0 cs))))))))))) := by kernel_rfl
set_option linter.unusedVariables false in
theorem lowF_0 (n N : Nat) (up : Bool) (cs : List Clu.AV)  (c1 : up = false) (p_h598 : Clu.LoopQ (Try.prog) ((Clu.loopNo Try.f35 0)) ((n + 995)) (35) (1000) ([]) (1000) (2) ([0, 3, 7, 8]) ([(Clu.AV.s n N), Clu.AV.sn, (Clu.AV.i IntKind.i64 (Int.ofNat n)), (Clu.AV.i IntKind.i64 (Int.ofNat 0))]) ([9, 15, 16, 18, 19, 21, 31]) ([0, 3]) ([(Clu.AV.s n N), Clu.AV.sn]) ([]) (1000)) : Clu.Fact Try.prog 35 [] [.s n N] (Clu.AV.s n N) :=
  Clu.factL Clu.plain (Clu.tell_ok (Clu.noX_ok)) Clu.mixed (Clu.addL_ok (Clu.noL_ok) Clu.loopM_ok) (((((lowF_raw n N up cs)).trans (Clu.needP_eq rfl _ _)).trans (Clu.forkB_f (c1) _ _)).trans (Clu.needP_eq p_h598 _ _)) rfl (rfl)
set_option linter.unusedVariables false in
theorem lowF_1 (n N : Nat) (up : Bool) (cs : List Clu.AV)  (c1 : up = true) (p_h598 : Clu.LoopQ (Try.prog) ((Clu.loopNo Try.f35 0)) ((n + 995)) (35) (1000) ([]) (1000) (2) ([0, 3, 7, 8]) ([(Clu.AV.s n N), Clu.AV.sn, (Clu.AV.i IntKind.i64 (Int.ofNat n)), (Clu.AV.i IntKind.i64 (Int.ofNat 0))]) ([9, 15, 16, 18, 19, 21, 31]) ([0, 3]) ([(Clu.AV.s n N), (Clu.AV.so 1000 0 1 n)]) ([(1000, (Clu.Blk.c cs 0 1 Option.none))]) (1001)) (n1 : n ≤ (List.length (List.drop 0 cs)) := by first | omega | (simp; omega)) (n2 : (List.all (List.take n (List.drop 0 cs)) Clu.isU8) = true) : Clu.Fact Try.prog 35 [] [.s n N] (Clu.AV.s (List.length (List.take n (List.drop 0 cs))) (Clu.pk (List.map Clu.u8N (List.take n (List.drop 0 cs))))) :=
  Clu.factL Clu.plain (Clu.tell_ok (Clu.noX_ok)) Clu.mixed (Clu.addL_ok (Clu.noL_ok) Clu.loopM_ok) (((((((lowF_raw n N up cs)).trans (Clu.needP_eq rfl _ _)).trans (Clu.forkB_t (c1) _ _)).trans (Clu.needP_eq p_h598 _ _)).trans (Clu.needT_eq (Clu.ble_iff.2 n1) _ _)).trans (Clu.needT_eq (n2) _ _)) rfl (rfl)
/-! the loop -/
def lowMid (l : List Nat) (i : Nat) : List Nat := low (l.take i) ++ l.drop i
theorem lowMid_length (l : List Nat) (i : Nat) : (lowMid l i).length = l.length := by unfold lowMid; rw [List.length_append, low_length, List.length_take, List.length_drop]; omega
theorem lowMid_set {l : List Nat} {i : Nat} (h : i < l.length) : (lowMid l i).set i (lowB (l.getD i 0)) = lowMid l (i + 1) := by
  unfold lowMid
  have hl : (low (l.take i)).length = i := by rw [low_length, List.length_take]; omega
  rw [List.set_append_right _ _ (by omega), hl, Nat.sub_self, getD_drop h, List.set_cons_zero, take_succ' h]
  unfold low
  rw [List.map_append, List.append_assoc]
  rfl
theorem lowMid_on {l : List Nat} {i : Nat} (h : i < l.length) (hu : upB (l.getD i 0) = false) : lowMid l i = lowMid l (i + 1) := by
  rw [← lowMid_set h, lowB_not hu]
  unfold lowMid
  have hl : (low (l.take i)).length = i := by rw [low_length, List.length_take]; omega
  rw [List.set_append_right _ _ (by omega), hl, Nat.sub_self, getD_drop h, List.set_cons_zero]
theorem lowMid_end {l : List Nat} {i : Nat} (h : l.length ≤ i) : lowMid l i = low l := by
  unfold lowMid
  rw [List.take_of_length_le h, List.drop_eq_nil_of_le h, List.append_nil]
def LowB (l : List Nat) (fuel i : Nat) : Prop := Clu.LoopQ Try.prog (Clu.loopNo Try.f35 0) fuel 35 1000 ([(1000, .c (Clu.U8 (lowMid l i)) 0 1 none)] ++ Clu.layB []) 1001 2 [0, 3, 7, 8] [.s l.length (Clu.pk l), .so 1000 0 1 l.length, .i .i64 (.ofNat l.length), .i .i64 (.ofNat i)] [9, 15, 16, 18, 19, 21, 31] [0, 3] [.s l.length (Clu.pk l), .so 1000 0 1 l.length] ([(1000, .c (Clu.U8 (low l)) 0 1 none)] ++ Clu.layB []) 1001
theorem low_B {l : List Nat} (hB : Clu.B8 l) (hl : l.length < 9000000000000000000) : ∀ (f i : Nat), l.length ≤ i + f → LowB l (51 + f) i
  | 0, i, hf => by
    refine Clu.LoopQ.out (n := 50) (by simp [Clu.exOf]) (by omega) fun os ho => ?_
    have := lowB_0 l.length (Clu.pk l) i (Clu.U8 (lowMid l i)) os ho (Clu.U8_und _ _) (by omega)
    rw [lowMid_end (by omega)] at this ⊢
    exact this
  | f + 1, i, hf => by
    by_cases h : i < l.length
    · have hb := Clu.byteN_pk hB i
      have ih := low_B hB hl f (i + 1) (by omega)
      by_cases h1 : l.getD i 0 < 65
      · refine Clu.LoopQ.more (show 50 ≤ 51 + f by omega) (fun os ho => lowB_1 _ _ i _ os ho (Clu.U8_und _ _) h (c2 := by rw [hb]; exact h1)) ?_
        have hu : upB (l.getD i 0) = false := by unfold upB; rw [decide_eq_false (by omega)]; rfl
        rw [lowMid_on h hu]; exact ih
      · by_cases h2 : 90 < l.getD i 0
        · refine Clu.LoopQ.more (show 50 ≤ 51 + f by omega) (fun os ho => lowB_2 _ _ i _ os ho (Clu.U8_und _ _) h (c2 := by rw [hb]; omega) (c3 := by rw [hb]; exact h2)) ?_
          have hu : upB (l.getD i 0) = false := by unfold upB; rw [decide_eq_false (show ¬ l.getD i 0 ≤ 90 by omega), Bool.and_false]
          rw [lowMid_on h hu]; exact ih
        · have e : Clu.splice (Clu.U8 (lowMid l i)) (0 + i * 1) [Clu.AV.i IntKind.u8 (Int.ofNat (Clu.modN (Int.ofNat (Clu.byteN (Clu.pk l) i + 32)) 256))] = Clu.U8 (lowMid l (i + 1)) := by
            rw [hb, Nat.zero_add, Nat.mul_one]
            show Clu.splice (Clu.U8 (lowMid l i)) i [.i .u8 (.ofNat ((l.getD i 0 + 32) % 256))] = _
            rw [Clu.U8_splice (by rw [lowMid_length]; exact h), ← lowMid_set h]
            congr 2
            unfold lowB
            rw [if_pos (by omega)]
            omega
          refine Clu.LoopQ.more (show 50 ≤ 51 + f by omega) (fun os ho => lowB_3 _ _ i _ os ho (Clu.U8_und _ _) h (c2 := by rw [hb]; omega) (c3 := by rw [hb]; omega) (n3 := by rw [Clu.U8_length, lowMid_length]; omega)) ?_
          rw [e]; exact ih
    · refine Clu.LoopQ.out (n := 50) (by simp [Clu.exOf]) (by omega) fun os ho => ?_
      have := lowB_0 l.length (Clu.pk l) i (Clu.U8 (lowMid l i)) os ho (Clu.U8_und _ _) (by omega)
      rw [lowMid_end (by omega)] at this ⊢
      exact this
def LowN (l : List Nat) (fuel i : Nat) : Prop := Clu.LoopQ Try.prog (Clu.loopNo Try.f35 0) fuel 35 1000 ([] ++ Clu.layB []) 1000 2 [0, 3, 7, 8] [.s l.length (Clu.pk l), .sn, .i .i64 (.ofNat l.length), .i .i64 (.ofNat i)] [9, 15, 16, 18, 19, 21, 31] [0, 3] [.s l.length (Clu.pk l), .sn] ([] ++ Clu.layB []) 1000
def LowS (l : List Nat) (fuel i : Nat) : Prop := Clu.LoopQ Try.prog (Clu.loopNo Try.f35 0) fuel 35 1000 ([] ++ Clu.layB []) 1000 2 [0, 3, 7, 8] [.s l.length (Clu.pk l), .sn, .i .i64 (.ofNat l.length), .i .i64 (.ofNat i)] [9, 15, 16, 18, 19, 21, 31] [0, 3] [.s l.length (Clu.pk l), .so 1000 0 1 l.length] ([(1000, .c (Clu.U8 (low l)) 0 1 none)] ++ Clu.layB []) 1001
theorem low_N {l : List Nat} (hB : Clu.B8 l) (hl : l.length < 9000000000000000000) : ∀ (f i : Nat), l.length ≤ i + f → (l.drop i).any upB = false → LowN l (51 + f) i
  | 0, i, hf, hu => Clu.LoopQ.out (n := 50) (by simp [Clu.exOf]) (by omega) fun os ho => lowA_0 _ _ i os ho (by omega)
  | f + 1, i, hf, hu => by
    by_cases h : i < l.length
    · have hb := Clu.byteN_pk hB i
      rw [getD_drop h, List.any_cons, Bool.or_eq_false_iff] at hu
      have ih := low_N hB hl f (i + 1) (by omega) hu.2
      rcases upB_cases.2 hu.1 with h1 | h1
      · exact Clu.LoopQ.more (show 50 ≤ 51 + f by omega) (fun os ho => lowA_1 _ _ i os ho h (c2 := by rw [hb]; exact h1)) ih
      · exact Clu.LoopQ.more (show 50 ≤ 51 + f by omega) (fun os ho => lowA_2 _ _ i os ho h (c2 := by rw [hb]; omega) (c3 := by rw [hb]; exact h1)) ih
    · exact Clu.LoopQ.out (n := 50) (by simp [Clu.exOf]) (by omega) fun os ho => lowA_0 _ _ i os ho (by omega)
theorem low_S {l : List Nat} (hB : Clu.B8 l) (hl : l.length < 9000000000000000000) : ∀ (f i : Nat), l.length ≤ i + f → (l.take i).any upB = false → (l.drop i).any upB = true → LowS l (51 + f) i
  | 0, i, hf, h0, hu => by
    rw [List.drop_eq_nil_of_le (by omega)] at hu
    cases hu
  | f + 1, i, hf, h0, hu => by
    by_cases h : i < l.length
    · have hb := Clu.byteN_pk hB i
      cases hc : upB (l.getD i 0) with
      | false =>
        rw [getD_drop h, List.any_cons, hc, Bool.false_or] at hu
        have ih := low_S hB hl f (i + 1) (by omega) (by rw [take_succ' h, List.any_append, h0, List.any_cons, hc]; rfl) hu
        rcases upB_cases.2 hc with h1 | h1
        · exact Clu.LoopQ.more (show 50 ≤ 51 + f by omega) (fun os ho => lowA_1 _ _ i os ho h (c2 := by rw [hb]; exact h1)) ih
        · exact Clu.LoopQ.more (show 50 ≤ 51 + f by omega) (fun os ho => lowA_2 _ _ i os ho h (c2 := by rw [hb]; omega) (c3 := by rw [hb]; exact h1)) ih
      | true =>
        obtain ⟨h1, h2⟩ := upB_cases.1 hc
        have e : Clu.splice (HAppend.hAppend (List.map (fun (i_x : Nat) => (Clu.AV.i IntKind.u8 (Int.ofNat (Clu.byteN (Clu.pk l) i_x)))) (List.range l.length)) []) (0 + i * 1) [Clu.AV.i IntKind.u8 (Int.ofNat (Clu.modN (Int.ofNat (Clu.byteN (Clu.pk l) i + 32)) 256))] = Clu.U8 (lowMid l (i + 1)) := by
          rw [Clu.U8_pk hB, hb, Nat.zero_add, Nat.mul_one]
          show Clu.splice (Clu.U8 l) i [.i .u8 (.ofNat ((l.getD i 0 + 32) % 256))] = _
          rw [Clu.U8_splice h, ← lowMid_set h]
          have e2 : lowMid l i = l := by unfold lowMid; rw [low_not h0, List.take_append_drop]
          rw [e2]
          congr 2
          unfold lowB
          rw [if_pos (by omega)]
          omega
        refine Clu.LoopQ.more (show 50 ≤ 51 + f by omega) (fun os ho => lowA_3 _ _ i os ho h (c2 := by rw [hb]; omega) (c3 := by rw [hb]; omega)) ?_
        rw [e]
        exact low_B hB hl f (i + 1) (by omega)
    · rw [List.drop_eq_nil_of_le (by omega)] at hu
      cases hu
/-! the function -/
theorem lower_fact {l : List Nat} (hB : Clu.B8 l) (hl : l.length < 9000000000000000000) : Clu.Fact Try.prog 35 [] [.s l.length (Clu.pk l)] (.s (low l).length (Clu.pk (low l))) := by
  cases hu : l.any upB with
  | false =>
    have := lowF_0 l.length (Clu.pk l) false [] rfl (by
      have := low_N hB hl (l.length + 944) 0 (by omega) hu
      rw [show 51 + (l.length + 944) = l.length + 995 by omega] at this
      exact this)
    rw [low_not hu]
    exact this
  | true =>
    have := lowF_1 l.length (Clu.pk l) true (Clu.U8 (low l)) rfl (by
      have := low_S hB hl (l.length + 944) 0 (by omega) rfl hu
      rw [show 51 + (l.length + 944) = l.length + 995 by omega] at this
      exact this) (by rw [List.drop_zero, Clu.U8_length, low_length]; exact Nat.le_refl _) (by rw [List.drop_zero, Clu.U8_take]; exact Clu.U8_all _)
    rw [List.drop_zero, Clu.U8_take, Clu.U8_num, Clu.U8_length, List.take_of_length_le (by rw [low_length]; exact Nat.le_refl _)] at this
    exact this

end Go.Proofs.Ytmokdhmicdmgfaa
