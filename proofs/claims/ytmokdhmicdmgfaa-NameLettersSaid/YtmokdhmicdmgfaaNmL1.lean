/-
  names: letters turned.
-/
import Derived.Test.YtmokdhmicdmgfaaCluze
import Derived.Test.YtmokdhmicdmgfaaNmAB
namespace Go.Proofs.Ytmokdhmicdmgfaa
open Go.RowKit
set_option linter.unusedVariables false
set_option linter.unusedSimpArgs false
set_option maxRecDepth 100000

noncomputable def tuH (uk : List Clu.AV → Nat → Bool) (tN : Nat → Nat → List Clu.AV → Nat → Nat) : List Clu.AV → List (List Clu.AV) → Clu.Dec (Clu.AV × List Clu.NB) := fun args css => match args with
  | [.s n N, .sl a o k _] => (match css with
    | [cs] => .need (Nat.beq a 1000) (.need (Nat.beq o 0) (.need (Nat.blt n 1000001) (.need (Nat.blt k 1000001) (.need (uk cs k) (.leaf (.s n (tN n N cs k), []))))))
    | _ => .fail)
  | [.s n N, .sn] => (match css with
    | [] => .need (Nat.blt n 1000001) (.leaf (.s n (tN n N [] 0), []))
    | _ => .fail)
  | _ => .fail

set_option maxRecDepth 10000000 in
theorem tuS_raw (k cap n i : Nat) (cs bs : List Clu.AV) (os : Nat → Option Clu.AV) : Clu.evL (Clu.noL) Try.prog (Clu.noX) 50 55 1001 (Clu.loopNo Try.f32 0) (Clu.tellF [3000030, 3000038, 3000072, 3000080, 3000086, 3000094] (Clu.mkFr 55 (Clu.std [1, 5, 6] [.sl 1000 0 k cap, .so 1001 0 1 n, .i .i64 (.ofNat i)] [14, 15, 18, 19, 35, 36, 38, 39, 40, 42, 43, 45, 46, 47] os))) (Clu.mkH (Clu.mkH .e (Clu.argB (Clu.rowsAt 1000 [cs]) ++ Clu.layB [])) [(1001, .c bs 0 1 none)]) 1002 (Clu.finM 55 1002 [14, 15, 18, 19, 35, 36, 38, 39, 40, 42, 43, 45, 46, 47] 0 [(0, [1, 5, 6], [(1001, 0, 1, none)], none), (2, [5], [(1001, 0, 1, none)], none)]) = Clu.forkB ((Clu.iLt (Int.ofNat i) (Int.ofNat k))) (Clu.needT ((Clu.flatB (os 35))) (.err 90 1) (Clu.needT ((Clu.flatB (os 36))) (.err 90 1) (Clu.needT ((Clu.flatB (os 38))) (.err 90 1) (Clu.needT ((Clu.flatB (os 39))) (.err 90 1) (Clu.needT ((Clu.flatB (os 40))) (.err 90 1) (Clu.needT ((Clu.flatB (os 42))) (.err 90 1) (Clu.needT ((Clu.flatB (os 43))) (.err 90 1) (Clu.needT ((Clu.flatB (os 45))) (.err 90 1) (Clu.needT ((Clu.flatB (os 46))) (.err 90 1) (Clu.needT ((Clu.flatB (os 47))) (.err 90 1) ((Clu.Out.ok (Clu.AV.tu [(Clu.AV.i IntKind.i64 (Int.ofNat 1)), (Clu.AV.so 1001 0 1 n), (Clu.AV.ag bs)]))))))))))))) (Clu.forkB ((Clu.iLt (Int.ofNat 0) (Int.ofNat n))) (Clu.needT ((Clu.flatB (os 35))) (.err 90 1) (Clu.needT ((Clu.flatB (os 36))) (.err 90 1) (Clu.needT ((Clu.flatB (os 38))) (.err 90 1) (Clu.needT ((Clu.flatB (os 39))) (.err 90 1) (Clu.needT ((Clu.flatB (os 40))) (.err 90 1) (Clu.needT ((Clu.flatB (os 42))) (.err 90 1) (Clu.needT ((Clu.flatB (os 43))) (.err 90 1) (Clu.needT ((Clu.flatB (os 45))) (.err 90 1) (Clu.needT ((Clu.flatB (os 46))) (.err 90 1) (Clu.needT ((Clu.flatB (os 47))) (.err 90 1) ((Clu.Out.ok (Clu.AV.tu [(Clu.AV.i IntKind.i64 (Int.ofNat 1)), (Clu.AV.so 1001 0 1 n), (Clu.AV.ag bs)]))))))))))))) (Clu.needT ((Nat.blt i k)) (.err 22 0) (Clu.needT ((Clu.isU IntKind.u8 (Clu.getL cs (0 + (i * 1))))) (.err 8 4) (Clu.needT ((Clu.inR IntKind.i64 (Int.ofNat (Clu.iN (Clu.getL cs (0 + (i * 1))))))) (.err 10 20) (Clu.needF ((Clu.iEq (Int.ofNat n) (Int.ofNat 0))) (.err 10 2) (Clu.needT ((Nat.blt ((Clu.iN (Clu.getL cs (0 + (i * 1)))) % n) n)) (.err 22 0) (Clu.needT ((Clu.isU IntKind.u8 (Clu.getL bs (0 + (((Clu.iN (Clu.getL cs (0 + (i * 1)))) % n) * 1))))) (.err 8 4) (Clu.forkB ((Bool.not (Clu.iLt (Int.ofNat (Clu.iN (Clu.getL bs (0 + (((Clu.iN (Clu.getL cs (0 + (i * 1)))) % n) * 1))))) (Int.ofNat 97)))) (Clu.forkB ((Bool.not (Clu.iLt (Int.ofNat (Clu.iN (Clu.getL bs (0 + (((Clu.iN (Clu.getL cs (0 + (i * 1)))) % n) * 1))))) (Int.ofNat 65)))) (Clu.needT ((Clu.inR IntKind.i64 (Int.ofNat (i + 1)))) (.err 10 20) ((Clu.Out.ok (Clu.AV.tu [(Clu.AV.i IntKind.i64 (Int.ofNat 0)), (Clu.AV.sl 1000 0 k cap), (Clu.AV.so 1001 0 1 n), (Clu.AV.i IntKind.i64 (Int.ofNat (i + 1))), (Clu.AV.ag bs)])))) (Clu.forkB ((Bool.not (Clu.iLt (Int.ofNat 90) (Int.ofNat (Clu.iN (Clu.getL bs (0 + (((Clu.iN (Clu.getL cs (0 + (i * 1)))) % n) * 1)))))))) (Clu.needT ((Clu.inR IntKind.i64 (Int.ofNat (i + 1)))) (.err 10 20) ((Clu.Out.ok (Clu.AV.tu [(Clu.AV.i IntKind.i64 (Int.ofNat 0)), (Clu.AV.sl 1000 0 k cap), (Clu.AV.so 1001 0 1 n), (Clu.AV.i IntKind.i64 (Int.ofNat (i + 1))), (Clu.AV.ag bs)])))) (Clu.needT ((Nat.blt ((Clu.iN (Clu.getL cs (0 + (i * 1)))) % n) n)) (.err 22 0) (Clu.needT ((Nat.ble ((0 + (((Clu.iN (Clu.getL cs (0 + (i * 1)))) % n) * 1)) + 1) (List.length bs))) (.err 7 0) (Clu.needT ((Clu.inR IntKind.i64 (Int.ofNat (i + 1)))) (.err 10 20) ((Clu.Out.ok (Clu.AV.tu [(Clu.AV.i IntKind.i64 (Int.ofNat 0)), (Clu.AV.sl 1000 0 k cap), (Clu.AV.so 1001 0 1 n), (Clu.AV.i IntKind.i64 (Int.ofNat (i + 1))), (Clu.AV.ag (Clu.splice bs (0 + (((Clu.iN (Clu.getL cs (0 + (i * 1)))) % n) * 1)) [(Clu.AV.i IntKind.u8 (Int.ofNat (Clu.modN (Int.ofNat (Nat.xor (Clu.modN (Int.ofNat (Clu.iN (Clu.getL bs (0 + (((Clu.iN (Clu.getL cs (0 + (i * 1)))) % n) * 1))))) 256) 32)) 256)))]))])))))))) (Clu.forkB ((Bool.not (Clu.iLt (Int.ofNat 122) (Int.ofNat (Clu.iN (Clu.getL bs (0 + (((Clu.iN (Clu.getL cs (0 + (i * 1)))) % n) * 1)))))))) (Clu.forkB ((Bool.not (Clu.iLt (Int.ofNat (Clu.iN (Clu.getL bs (0 + (((Clu.iN (Clu.getL cs (0 + (i * 1)))) % n) * 1))))) (Int.ofNat 65)))) (Clu.needT ((Clu.inR IntKind.i64 (Int.ofNat (i + 1)))) (.err 10 20) ((Clu.Out.ok (Clu.AV.tu [(Clu.AV.i IntKind.i64 (Int.ofNat 0)), (Clu.AV.sl 1000 0 k cap), (Clu.AV.so 1001 0 1 n), (Clu.AV.i IntKind.i64 (Int.ofNat (i + 1))), (Clu.AV.ag bs)])))) (Clu.forkB ((Bool.not (Clu.iLt (Int.ofNat 90) (Int.ofNat (Clu.iN (Clu.getL bs (0 + (((Clu.iN (Clu.getL cs (0 + (i * 1)))) % n) * 1)))))))) (Clu.needT ((Clu.inR IntKind.i64 (Int.ofNat (i + 1)))) (.err 10 20) ((Clu.Out.ok (Clu.AV.tu [(Clu.AV.i IntKind.i64 (Int.ofNat 0)), (Clu.AV.sl 1000 0 k cap), (Clu.AV.so 1001 0 1 n), (Clu.AV.i IntKind.i64 (Int.ofNat (i + 1))), (Clu.AV.ag bs)])))) (Clu.needT ((Nat.blt ((Clu.iN (Clu.getL cs (0 + (i * 1)))) % n) n)) (.err 22 0) (Clu.needT ((Nat.ble ((0 + (((Clu.iN (Clu.getL cs (0 + (i * 1)))) % n) * 1)) + 1) (List.length bs))) (.err 7 0) (Clu.needT ((Clu.inR IntKind.i64 (Int.ofNat (i + 1)))) (.err 10 20) ((Clu.Out.ok (Clu.AV.tu [(Clu.AV.i IntKind.i64 (Int.ofNat 0)), (Clu.AV.sl 1000 0 k cap), (Clu.AV.so 1001 0 1 n), (Clu.AV.i IntKind.i64 (Int.ofNat (i + 1))), (Clu.AV.ag (Clu.splice bs (0 + (((Clu.iN (Clu.getL cs (0 + (i * 1)))) % n) * 1)) [(Clu.AV.i IntKind.u8 (Int.ofNat (Clu.modN (Int.ofNat (Nat.xor (Clu.modN (Int.ofNat (Clu.iN (Clu.getL bs (0 + (((Clu.iN (Clu.getL cs (0 + (i * 1)))) % n) * 1))))) 256) 32)) 256)))]))])))))))) (Clu.needT ((Nat.blt ((Clu.iN (Clu.getL cs (0 + (i * 1)))) % n) n)) (.err 22 0) (Clu.needT ((Nat.ble ((0 + (((Clu.iN (Clu.getL cs (0 + (i * 1)))) % n) * 1)) + 1) (List.length bs))) (.err 7 0) (Clu.needT ((Clu.inR IntKind.i64 (Int.ofNat (i + 1)))) (.err 10 20) ((Clu.Out.ok (Clu.AV.tu [(Clu.AV.i IntKind.i64 (Int.ofNat 0)), (Clu.AV.sl 1000 0 k cap), (Clu.AV.so 1001 0 1 n), (Clu.AV.i IntKind.i64 (Int.ofNat (i + 1))), (Clu.AV.ag (Clu.splice bs (0 + (((Clu.iN (Clu.getL cs (0 + (i * 1)))) % n) * 1)) [(Clu.AV.i IntKind.u8 (Int.ofNat (Clu.modN (Int.ofNat (Nat.xor (Clu.modN (Int.ofNat (Clu.iN (Clu.getL bs (0 + (((Clu.iN (Clu.getL cs (0 + (i * 1)))) % n) * 1))))) 256) 32)) 256)))]))]))))))))))))))) := by kernel_rfl
set_option linter.unusedVariables false in
theorem tuS_0 (k cap n i : Nat) (cs bs : List Clu.AV) (os : Nat → Option Clu.AV) (hos : ∀ t, Clu.flatB (os t) = true) (hu : Clu.AV.flts cs = true) (hb : Clu.AV.unds 1002 bs = true) (c1 : k ≤ i) : ∃ os' : Nat → Option Clu.AV, (∀ t, Clu.flatB (os' t) = true) ∧ Clu.RunE Try.prog 50 (Clu.loopNo Try.f32 0) 55 1001 (Clu.mkFr 55 (Clu.std [1, 5, 6] [.sl 1000 0 k cap, .so 1001 0 1 n, .i .i64 (.ofNat i)] [14, 15, 18, 19, 35, 36, 38, 39, 40, 42, 43, 45, 46, 47] os)) (Clu.mkH .e ([(1001, .c bs 0 1 none)] ++ (Clu.argB (Clu.rowsAt 1000 [cs]) ++ Clu.layB []))) 1002 (Clu.exOf 2) (Clu.mkFr 55 (Clu.std [5] [(Clu.AV.so 1001 0 1 n)] [14, 15, 18, 19, 35, 36, 38, 39, 40, 42, 43, 45, 46, 47] os')) (Clu.mkH .e ([(1001, .c bs 0 1 none)] ++ (Clu.argB (Clu.rowsAt 1000 [cs]) ++ Clu.layB []))) 1002 :=
  Clu.segM (vs := [(Clu.AV.so 1001 0 1 n)]) (cs := [bs]) 1 2 [5] [(1001, 0, 1, none)] (Clu.evL_ok Clu.plain (Clu.noX_ok) (Clu.drK_ok Clu.mixed) (Clu.noL_ok) 50) (Clu.argB_bs rfl (by simp [Clu.rowsAt, hu]) (by decide) (by decide)) hos (((((((((((((tuS_raw k cap n i cs bs os)).trans (Clu.forkB_f (Clu.iLt_f (Int.ofNat_le.2 c1)) _ _)).trans (Clu.needT_eq (hos _) _ _)).trans (Clu.needT_eq (hos _) _ _)).trans (Clu.needT_eq (hos _) _ _)).trans (Clu.needT_eq (hos _) _ _)).trans (Clu.needT_eq (hos _) _ _)).trans (Clu.needT_eq (hos _) _ _)).trans (Clu.needT_eq (hos _) _ _)).trans (Clu.needT_eq (hos _) _ _)).trans (Clu.needT_eq (hos _) _ _)).trans (Clu.needT_eq (hos _) _ _)) rfl rfl rfl (by decide) rfl (by simp [Clu.Blk.und, Clu.AV.und, Clu.AV.unds, hb]) rfl (Clu.newH_ro rfl) (by simp [Clu.AV.und, Clu.AV.unds, Clu.AV.cells, Clu.unds_splice, hb])
set_option linter.unusedVariables false in
theorem tuS_1 (k cap n i : Nat) (cs bs : List Clu.AV) (os : Nat → Option Clu.AV) (hos : ∀ t, Clu.flatB (os t) = true) (hu : Clu.AV.flts cs = true) (hb : Clu.AV.unds 1002 bs = true) (c1 : i < k) (c2 : n ≤ 0) : ∃ os' : Nat → Option Clu.AV, (∀ t, Clu.flatB (os' t) = true) ∧ Clu.RunE Try.prog 50 (Clu.loopNo Try.f32 0) 55 1001 (Clu.mkFr 55 (Clu.std [1, 5, 6] [.sl 1000 0 k cap, .so 1001 0 1 n, .i .i64 (.ofNat i)] [14, 15, 18, 19, 35, 36, 38, 39, 40, 42, 43, 45, 46, 47] os)) (Clu.mkH .e ([(1001, .c bs 0 1 none)] ++ (Clu.argB (Clu.rowsAt 1000 [cs]) ++ Clu.layB []))) 1002 (Clu.exOf 2) (Clu.mkFr 55 (Clu.std [5] [(Clu.AV.so 1001 0 1 n)] [14, 15, 18, 19, 35, 36, 38, 39, 40, 42, 43, 45, 46, 47] os')) (Clu.mkH .e ([(1001, .c bs 0 1 none)] ++ (Clu.argB (Clu.rowsAt 1000 [cs]) ++ Clu.layB []))) 1002 :=
  Clu.segM (vs := [(Clu.AV.so 1001 0 1 n)]) (cs := [bs]) 1 2 [5] [(1001, 0, 1, none)] (Clu.evL_ok Clu.plain (Clu.noX_ok) (Clu.drK_ok Clu.mixed) (Clu.noL_ok) 50) (Clu.argB_bs rfl (by simp [Clu.rowsAt, hu]) (by decide) (by decide)) hos ((((((((((((((tuS_raw k cap n i cs bs os)).trans (Clu.forkB_t (Clu.iLt_t (Int.ofNat_lt.2 c1)) _ _)).trans (Clu.forkB_f (Clu.iLt_f (Int.ofNat_le.2 c2)) _ _)).trans (Clu.needT_eq (hos _) _ _)).trans (Clu.needT_eq (hos _) _ _)).trans (Clu.needT_eq (hos _) _ _)).trans (Clu.needT_eq (hos _) _ _)).trans (Clu.needT_eq (hos _) _ _)).trans (Clu.needT_eq (hos _) _ _)).trans (Clu.needT_eq (hos _) _ _)).trans (Clu.needT_eq (hos _) _ _)).trans (Clu.needT_eq (hos _) _ _)).trans (Clu.needT_eq (hos _) _ _)) rfl rfl rfl (by decide) rfl (by simp [Clu.Blk.und, Clu.AV.und, Clu.AV.unds, hb]) rfl (Clu.newH_ro rfl) (by simp [Clu.AV.und, Clu.AV.unds, Clu.AV.cells, Clu.unds_splice, hb])
set_option linter.unusedVariables false in
theorem tuS_2 (k cap n i : Nat) (cs bs : List Clu.AV) (os : Nat → Option Clu.AV) (hos : ∀ t, Clu.flatB (os t) = true) (hu : Clu.AV.flts cs = true) (hb : Clu.AV.unds 1002 bs = true) (c1 : i < k) (c2 : 0 < n) (n1 : i < k := by omega) (n2 : (Clu.isU IntKind.u8 (Clu.getL cs (0 + (i * 1)))) = true) (n3 : (Clu.iN (Clu.getL cs (0 + (i * 1)))) < 9223372036854775808 := by omega) (n4 : n ≠ 0 := by omega) (n5 : ((Clu.iN (Clu.getL cs (0 + (i * 1)))) % n) < n := by omega) (n6 : (Clu.isU IntKind.u8 (Clu.getL bs (0 + (((Clu.iN (Clu.getL cs (0 + (i * 1)))) % n) * 1)))) = true) (c3 : (Clu.iN (Clu.getL bs (0 + (((Clu.iN (Clu.getL cs (0 + (i * 1)))) % n) * 1)))) < 97) (c4 : (Clu.iN (Clu.getL bs (0 + (((Clu.iN (Clu.getL cs (0 + (i * 1)))) % n) * 1)))) < 65) (n7 : (i + 1) < 9223372036854775808 := by omega) : ∃ os' : Nat → Option Clu.AV, (∀ t, Clu.flatB (os' t) = true) ∧ Clu.RunE Try.prog 50 (Clu.loopNo Try.f32 0) 55 1001 (Clu.mkFr 55 (Clu.std [1, 5, 6] [.sl 1000 0 k cap, .so 1001 0 1 n, .i .i64 (.ofNat i)] [14, 15, 18, 19, 35, 36, 38, 39, 40, 42, 43, 45, 46, 47] os)) (Clu.mkH .e ([(1001, .c bs 0 1 none)] ++ (Clu.argB (Clu.rowsAt 1000 [cs]) ++ Clu.layB []))) 1002 (Clu.exOf 0) (Clu.mkFr 55 (Clu.std [1, 5, 6] [(Clu.AV.sl 1000 0 k cap), (Clu.AV.so 1001 0 1 n), (Clu.AV.i IntKind.i64 (Int.ofNat (i + 1)))] [14, 15, 18, 19, 35, 36, 38, 39, 40, 42, 43, 45, 46, 47] os')) (Clu.mkH .e ([(1001, .c bs 0 1 none)] ++ (Clu.argB (Clu.rowsAt 1000 [cs]) ++ Clu.layB []))) 1002 :=
  Clu.segM (vs := [(Clu.AV.sl 1000 0 k cap), (Clu.AV.so 1001 0 1 n), (Clu.AV.i IntKind.i64 (Int.ofNat (i + 1)))]) (cs := [bs]) 0 0 [1, 5, 6] [(1001, 0, 1, none)] (Clu.evL_ok Clu.plain (Clu.noX_ok) (Clu.drK_ok Clu.mixed) (Clu.noL_ok) 50) (Clu.argB_bs rfl (by simp [Clu.rowsAt, hu]) (by decide) (by decide)) hos (((((((((((((tuS_raw k cap n i cs bs os)).trans (Clu.forkB_t (Clu.iLt_t (Int.ofNat_lt.2 c1)) _ _)).trans (Clu.forkB_t (Clu.iLt_t (Int.ofNat_lt.2 c2)) _ _)).trans (Clu.needT_eq (Clu.blt_iff.2 n1) _ _)).trans (Clu.needT_eq (n2) _ _)).trans (Clu.needT_eq (Clu.inR_nat (k := .i64) n3) _ _)).trans (Clu.needF_eq (Clu.iEq_f (fun hh => n4 (Int.ofNat.inj hh))) _ _)).trans (Clu.needT_eq (Clu.blt_iff.2 n5) _ _)).trans (Clu.needT_eq (n6) _ _)).trans (Clu.forkB_f (congrArg not (Clu.iLt_t (Int.ofNat_lt.2 c3))) _ _)).trans (Clu.forkB_f (congrArg not (Clu.iLt_t (Int.ofNat_lt.2 c4))) _ _)).trans (Clu.needT_eq (Clu.inR_nat (k := .i64) n7) _ _)) rfl rfl rfl (by decide) rfl (by simp [Clu.Blk.und, Clu.AV.und, Clu.AV.unds, hb]) rfl (Clu.newH_ro rfl) (by simp [Clu.AV.und, Clu.AV.unds, Clu.AV.cells, Clu.unds_splice, hb])
set_option linter.unusedVariables false in
theorem tuS_3 (k cap n i : Nat) (cs bs : List Clu.AV) (os : Nat → Option Clu.AV) (hos : ∀ t, Clu.flatB (os t) = true) (hu : Clu.AV.flts cs = true) (hb : Clu.AV.unds 1002 bs = true) (c1 : i < k) (c2 : 0 < n) (n1 : i < k := by omega) (n2 : (Clu.isU IntKind.u8 (Clu.getL cs (0 + (i * 1)))) = true) (n3 : (Clu.iN (Clu.getL cs (0 + (i * 1)))) < 9223372036854775808 := by omega) (n4 : n ≠ 0 := by omega) (n5 : ((Clu.iN (Clu.getL cs (0 + (i * 1)))) % n) < n := by omega) (n6 : (Clu.isU IntKind.u8 (Clu.getL bs (0 + (((Clu.iN (Clu.getL cs (0 + (i * 1)))) % n) * 1)))) = true) (c3 : (Clu.iN (Clu.getL bs (0 + (((Clu.iN (Clu.getL cs (0 + (i * 1)))) % n) * 1)))) < 97) (c4 : 65 ≤ (Clu.iN (Clu.getL bs (0 + (((Clu.iN (Clu.getL cs (0 + (i * 1)))) % n) * 1))))) (c5 : 90 < (Clu.iN (Clu.getL bs (0 + (((Clu.iN (Clu.getL cs (0 + (i * 1)))) % n) * 1))))) (n7 : (i + 1) < 9223372036854775808 := by omega) : ∃ os' : Nat → Option Clu.AV, (∀ t, Clu.flatB (os' t) = true) ∧ Clu.RunE Try.prog 50 (Clu.loopNo Try.f32 0) 55 1001 (Clu.mkFr 55 (Clu.std [1, 5, 6] [.sl 1000 0 k cap, .so 1001 0 1 n, .i .i64 (.ofNat i)] [14, 15, 18, 19, 35, 36, 38, 39, 40, 42, 43, 45, 46, 47] os)) (Clu.mkH .e ([(1001, .c bs 0 1 none)] ++ (Clu.argB (Clu.rowsAt 1000 [cs]) ++ Clu.layB []))) 1002 (Clu.exOf 0) (Clu.mkFr 55 (Clu.std [1, 5, 6] [(Clu.AV.sl 1000 0 k cap), (Clu.AV.so 1001 0 1 n), (Clu.AV.i IntKind.i64 (Int.ofNat (i + 1)))] [14, 15, 18, 19, 35, 36, 38, 39, 40, 42, 43, 45, 46, 47] os')) (Clu.mkH .e ([(1001, .c bs 0 1 none)] ++ (Clu.argB (Clu.rowsAt 1000 [cs]) ++ Clu.layB []))) 1002 :=
  Clu.segM (vs := [(Clu.AV.sl 1000 0 k cap), (Clu.AV.so 1001 0 1 n), (Clu.AV.i IntKind.i64 (Int.ofNat (i + 1)))]) (cs := [bs]) 0 0 [1, 5, 6] [(1001, 0, 1, none)] (Clu.evL_ok Clu.plain (Clu.noX_ok) (Clu.drK_ok Clu.mixed) (Clu.noL_ok) 50) (Clu.argB_bs rfl (by simp [Clu.rowsAt, hu]) (by decide) (by decide)) hos ((((((((((((((tuS_raw k cap n i cs bs os)).trans (Clu.forkB_t (Clu.iLt_t (Int.ofNat_lt.2 c1)) _ _)).trans (Clu.forkB_t (Clu.iLt_t (Int.ofNat_lt.2 c2)) _ _)).trans (Clu.needT_eq (Clu.blt_iff.2 n1) _ _)).trans (Clu.needT_eq (n2) _ _)).trans (Clu.needT_eq (Clu.inR_nat (k := .i64) n3) _ _)).trans (Clu.needF_eq (Clu.iEq_f (fun hh => n4 (Int.ofNat.inj hh))) _ _)).trans (Clu.needT_eq (Clu.blt_iff.2 n5) _ _)).trans (Clu.needT_eq (n6) _ _)).trans (Clu.forkB_f (congrArg not (Clu.iLt_t (Int.ofNat_lt.2 c3))) _ _)).trans (Clu.forkB_t (congrArg not (Clu.iLt_f (Int.ofNat_le.2 c4))) _ _)).trans (Clu.forkB_f (congrArg not (Clu.iLt_t (Int.ofNat_lt.2 c5))) _ _)).trans (Clu.needT_eq (Clu.inR_nat (k := .i64) n7) _ _)) rfl rfl rfl (by decide) rfl (by simp [Clu.Blk.und, Clu.AV.und, Clu.AV.unds, hb]) rfl (Clu.newH_ro rfl) (by simp [Clu.AV.und, Clu.AV.unds, Clu.AV.cells, Clu.unds_splice, hb])
set_option linter.unusedVariables false in
theorem tuS_4 (k cap n i : Nat) (cs bs : List Clu.AV) (os : Nat → Option Clu.AV) (hos : ∀ t, Clu.flatB (os t) = true) (hu : Clu.AV.flts cs = true) (hb : Clu.AV.unds 1002 bs = true) (c1 : i < k) (c2 : 0 < n) (n1 : i < k := by omega) (n2 : (Clu.isU IntKind.u8 (Clu.getL cs (0 + (i * 1)))) = true) (n3 : (Clu.iN (Clu.getL cs (0 + (i * 1)))) < 9223372036854775808 := by omega) (n4 : n ≠ 0 := by omega) (n5 : ((Clu.iN (Clu.getL cs (0 + (i * 1)))) % n) < n := by omega) (n6 : (Clu.isU IntKind.u8 (Clu.getL bs (0 + (((Clu.iN (Clu.getL cs (0 + (i * 1)))) % n) * 1)))) = true) (c3 : (Clu.iN (Clu.getL bs (0 + (((Clu.iN (Clu.getL cs (0 + (i * 1)))) % n) * 1)))) < 97) (c4 : 65 ≤ (Clu.iN (Clu.getL bs (0 + (((Clu.iN (Clu.getL cs (0 + (i * 1)))) % n) * 1))))) (c5 : (Clu.iN (Clu.getL bs (0 + (((Clu.iN (Clu.getL cs (0 + (i * 1)))) % n) * 1)))) ≤ 90) (n7 : ((Clu.iN (Clu.getL cs (0 + (i * 1)))) % n) < n := by omega) (n8 : ((0 + (((Clu.iN (Clu.getL cs (0 + (i * 1)))) % n) * 1)) + 1) ≤ (List.length bs) := by first | omega | (simp; omega)) (n9 : (i + 1) < 9223372036854775808 := by omega) : ∃ os' : Nat → Option Clu.AV, (∀ t, Clu.flatB (os' t) = true) ∧ Clu.RunE Try.prog 50 (Clu.loopNo Try.f32 0) 55 1001 (Clu.mkFr 55 (Clu.std [1, 5, 6] [.sl 1000 0 k cap, .so 1001 0 1 n, .i .i64 (.ofNat i)] [14, 15, 18, 19, 35, 36, 38, 39, 40, 42, 43, 45, 46, 47] os)) (Clu.mkH .e ([(1001, .c bs 0 1 none)] ++ (Clu.argB (Clu.rowsAt 1000 [cs]) ++ Clu.layB []))) 1002 (Clu.exOf 0) (Clu.mkFr 55 (Clu.std [1, 5, 6] [(Clu.AV.sl 1000 0 k cap), (Clu.AV.so 1001 0 1 n), (Clu.AV.i IntKind.i64 (Int.ofNat (i + 1)))] [14, 15, 18, 19, 35, 36, 38, 39, 40, 42, 43, 45, 46, 47] os')) (Clu.mkH .e ([(1001, .c (Clu.splice bs (0 + (((Clu.iN (Clu.getL cs (0 + (i * 1)))) % n) * 1)) [(Clu.AV.i IntKind.u8 (Int.ofNat (Clu.modN (Int.ofNat (Nat.xor (Clu.modN (Int.ofNat (Clu.iN (Clu.getL bs (0 + (((Clu.iN (Clu.getL cs (0 + (i * 1)))) % n) * 1))))) 256) 32)) 256)))]) 0 1 none)] ++ (Clu.argB (Clu.rowsAt 1000 [cs]) ++ Clu.layB []))) 1002 :=
  Clu.segM (vs := [(Clu.AV.sl 1000 0 k cap), (Clu.AV.so 1001 0 1 n), (Clu.AV.i IntKind.i64 (Int.ofNat (i + 1)))]) (cs := [(Clu.splice bs (0 + (((Clu.iN (Clu.getL cs (0 + (i * 1)))) % n) * 1)) [(Clu.AV.i IntKind.u8 (Int.ofNat (Clu.modN (Int.ofNat (Nat.xor (Clu.modN (Int.ofNat (Clu.iN (Clu.getL bs (0 + (((Clu.iN (Clu.getL cs (0 + (i * 1)))) % n) * 1))))) 256) 32)) 256)))])]) 0 0 [1, 5, 6] [(1001, 0, 1, none)] (Clu.evL_ok Clu.plain (Clu.noX_ok) (Clu.drK_ok Clu.mixed) (Clu.noL_ok) 50) (Clu.argB_bs rfl (by simp [Clu.rowsAt, hu]) (by decide) (by decide)) hos ((((((((((((((((tuS_raw k cap n i cs bs os)).trans (Clu.forkB_t (Clu.iLt_t (Int.ofNat_lt.2 c1)) _ _)).trans (Clu.forkB_t (Clu.iLt_t (Int.ofNat_lt.2 c2)) _ _)).trans (Clu.needT_eq (Clu.blt_iff.2 n1) _ _)).trans (Clu.needT_eq (n2) _ _)).trans (Clu.needT_eq (Clu.inR_nat (k := .i64) n3) _ _)).trans (Clu.needF_eq (Clu.iEq_f (fun hh => n4 (Int.ofNat.inj hh))) _ _)).trans (Clu.needT_eq (Clu.blt_iff.2 n5) _ _)).trans (Clu.needT_eq (n6) _ _)).trans (Clu.forkB_f (congrArg not (Clu.iLt_t (Int.ofNat_lt.2 c3))) _ _)).trans (Clu.forkB_t (congrArg not (Clu.iLt_f (Int.ofNat_le.2 c4))) _ _)).trans (Clu.forkB_t (congrArg not (Clu.iLt_f (Int.ofNat_le.2 c5))) _ _)).trans (Clu.needT_eq (Clu.blt_iff.2 n7) _ _)).trans (Clu.needT_eq (Clu.ble_iff.2 n8) _ _)).trans (Clu.needT_eq (Clu.inR_nat (k := .i64) n9) _ _)) rfl rfl rfl (by decide) rfl (by simp [Clu.Blk.und, Clu.AV.und, Clu.AV.unds, hb]) rfl (Clu.newH_ro rfl) (by simp [Clu.AV.und, Clu.AV.unds, Clu.AV.cells, Clu.unds_splice, hb])
set_option linter.unusedVariables false in
theorem tuS_6 (k cap n i : Nat) (cs bs : List Clu.AV) (os : Nat → Option Clu.AV) (hos : ∀ t, Clu.flatB (os t) = true) (hu : Clu.AV.flts cs = true) (hb : Clu.AV.unds 1002 bs = true) (c1 : i < k) (c2 : 0 < n) (n1 : i < k := by omega) (n2 : (Clu.isU IntKind.u8 (Clu.getL cs (0 + (i * 1)))) = true) (n3 : (Clu.iN (Clu.getL cs (0 + (i * 1)))) < 9223372036854775808 := by omega) (n4 : n ≠ 0 := by omega) (n5 : ((Clu.iN (Clu.getL cs (0 + (i * 1)))) % n) < n := by omega) (n6 : (Clu.isU IntKind.u8 (Clu.getL bs (0 + (((Clu.iN (Clu.getL cs (0 + (i * 1)))) % n) * 1)))) = true) (c3 : 97 ≤ (Clu.iN (Clu.getL bs (0 + (((Clu.iN (Clu.getL cs (0 + (i * 1)))) % n) * 1))))) (c4 : 122 < (Clu.iN (Clu.getL bs (0 + (((Clu.iN (Clu.getL cs (0 + (i * 1)))) % n) * 1))))) (c5 : 65 ≤ (Clu.iN (Clu.getL bs (0 + (((Clu.iN (Clu.getL cs (0 + (i * 1)))) % n) * 1))))) (c6 : 90 < (Clu.iN (Clu.getL bs (0 + (((Clu.iN (Clu.getL cs (0 + (i * 1)))) % n) * 1))))) (n7 : (i + 1) < 9223372036854775808 := by omega) : ∃ os' : Nat → Option Clu.AV, (∀ t, Clu.flatB (os' t) = true) ∧ Clu.RunE Try.prog 50 (Clu.loopNo Try.f32 0) 55 1001 (Clu.mkFr 55 (Clu.std [1, 5, 6] [.sl 1000 0 k cap, .so 1001 0 1 n, .i .i64 (.ofNat i)] [14, 15, 18, 19, 35, 36, 38, 39, 40, 42, 43, 45, 46, 47] os)) (Clu.mkH .e ([(1001, .c bs 0 1 none)] ++ (Clu.argB (Clu.rowsAt 1000 [cs]) ++ Clu.layB []))) 1002 (Clu.exOf 0) (Clu.mkFr 55 (Clu.std [1, 5, 6] [(Clu.AV.sl 1000 0 k cap), (Clu.AV.so 1001 0 1 n), (Clu.AV.i IntKind.i64 (Int.ofNat (i + 1)))] [14, 15, 18, 19, 35, 36, 38, 39, 40, 42, 43, 45, 46, 47] os')) (Clu.mkH .e ([(1001, .c bs 0 1 none)] ++ (Clu.argB (Clu.rowsAt 1000 [cs]) ++ Clu.layB []))) 1002 :=
  Clu.segM (vs := [(Clu.AV.sl 1000 0 k cap), (Clu.AV.so 1001 0 1 n), (Clu.AV.i IntKind.i64 (Int.ofNat (i + 1)))]) (cs := [bs]) 0 0 [1, 5, 6] [(1001, 0, 1, none)] (Clu.evL_ok Clu.plain (Clu.noX_ok) (Clu.drK_ok Clu.mixed) (Clu.noL_ok) 50) (Clu.argB_bs rfl (by simp [Clu.rowsAt, hu]) (by decide) (by decide)) hos (((((((((((((((tuS_raw k cap n i cs bs os)).trans (Clu.forkB_t (Clu.iLt_t (Int.ofNat_lt.2 c1)) _ _)).trans (Clu.forkB_t (Clu.iLt_t (Int.ofNat_lt.2 c2)) _ _)).trans (Clu.needT_eq (Clu.blt_iff.2 n1) _ _)).trans (Clu.needT_eq (n2) _ _)).trans (Clu.needT_eq (Clu.inR_nat (k := .i64) n3) _ _)).trans (Clu.needF_eq (Clu.iEq_f (fun hh => n4 (Int.ofNat.inj hh))) _ _)).trans (Clu.needT_eq (Clu.blt_iff.2 n5) _ _)).trans (Clu.needT_eq (n6) _ _)).trans (Clu.forkB_t (congrArg not (Clu.iLt_f (Int.ofNat_le.2 c3))) _ _)).trans (Clu.forkB_f (congrArg not (Clu.iLt_t (Int.ofNat_lt.2 c4))) _ _)).trans (Clu.forkB_t (congrArg not (Clu.iLt_f (Int.ofNat_le.2 c5))) _ _)).trans (Clu.forkB_f (congrArg not (Clu.iLt_t (Int.ofNat_lt.2 c6))) _ _)).trans (Clu.needT_eq (Clu.inR_nat (k := .i64) n7) _ _)) rfl rfl rfl (by decide) rfl (by simp [Clu.Blk.und, Clu.AV.und, Clu.AV.unds, hb]) rfl (Clu.newH_ro rfl) (by simp [Clu.AV.und, Clu.AV.unds, Clu.AV.cells, Clu.unds_splice, hb])
set_option linter.unusedVariables false in
theorem tuS_8 (k cap n i : Nat) (cs bs : List Clu.AV) (os : Nat → Option Clu.AV) (hos : ∀ t, Clu.flatB (os t) = true) (hu : Clu.AV.flts cs = true) (hb : Clu.AV.unds 1002 bs = true) (c1 : i < k) (c2 : 0 < n) (n1 : i < k := by omega) (n2 : (Clu.isU IntKind.u8 (Clu.getL cs (0 + (i * 1)))) = true) (n3 : (Clu.iN (Clu.getL cs (0 + (i * 1)))) < 9223372036854775808 := by omega) (n4 : n ≠ 0 := by omega) (n5 : ((Clu.iN (Clu.getL cs (0 + (i * 1)))) % n) < n := by omega) (n6 : (Clu.isU IntKind.u8 (Clu.getL bs (0 + (((Clu.iN (Clu.getL cs (0 + (i * 1)))) % n) * 1)))) = true) (c3 : 97 ≤ (Clu.iN (Clu.getL bs (0 + (((Clu.iN (Clu.getL cs (0 + (i * 1)))) % n) * 1))))) (c4 : (Clu.iN (Clu.getL bs (0 + (((Clu.iN (Clu.getL cs (0 + (i * 1)))) % n) * 1)))) ≤ 122) (n7 : ((Clu.iN (Clu.getL cs (0 + (i * 1)))) % n) < n := by omega) (n8 : ((0 + (((Clu.iN (Clu.getL cs (0 + (i * 1)))) % n) * 1)) + 1) ≤ (List.length bs) := by first | omega | (simp; omega)) (n9 : (i + 1) < 9223372036854775808 := by omega) : ∃ os' : Nat → Option Clu.AV, (∀ t, Clu.flatB (os' t) = true) ∧ Clu.RunE Try.prog 50 (Clu.loopNo Try.f32 0) 55 1001 (Clu.mkFr 55 (Clu.std [1, 5, 6] [.sl 1000 0 k cap, .so 1001 0 1 n, .i .i64 (.ofNat i)] [14, 15, 18, 19, 35, 36, 38, 39, 40, 42, 43, 45, 46, 47] os)) (Clu.mkH .e ([(1001, .c bs 0 1 none)] ++ (Clu.argB (Clu.rowsAt 1000 [cs]) ++ Clu.layB []))) 1002 (Clu.exOf 0) (Clu.mkFr 55 (Clu.std [1, 5, 6] [(Clu.AV.sl 1000 0 k cap), (Clu.AV.so 1001 0 1 n), (Clu.AV.i IntKind.i64 (Int.ofNat (i + 1)))] [14, 15, 18, 19, 35, 36, 38, 39, 40, 42, 43, 45, 46, 47] os')) (Clu.mkH .e ([(1001, .c (Clu.splice bs (0 + (((Clu.iN (Clu.getL cs (0 + (i * 1)))) % n) * 1)) [(Clu.AV.i IntKind.u8 (Int.ofNat (Clu.modN (Int.ofNat (Nat.xor (Clu.modN (Int.ofNat (Clu.iN (Clu.getL bs (0 + (((Clu.iN (Clu.getL cs (0 + (i * 1)))) % n) * 1))))) 256) 32)) 256)))]) 0 1 none)] ++ (Clu.argB (Clu.rowsAt 1000 [cs]) ++ Clu.layB []))) 1002 :=
  Clu.segM (vs := [(Clu.AV.sl 1000 0 k cap), (Clu.AV.so 1001 0 1 n), (Clu.AV.i IntKind.i64 (Int.ofNat (i + 1)))]) (cs := [(Clu.splice bs (0 + (((Clu.iN (Clu.getL cs (0 + (i * 1)))) % n) * 1)) [(Clu.AV.i IntKind.u8 (Int.ofNat (Clu.modN (Int.ofNat (Nat.xor (Clu.modN (Int.ofNat (Clu.iN (Clu.getL bs (0 + (((Clu.iN (Clu.getL cs (0 + (i * 1)))) % n) * 1))))) 256) 32)) 256)))])]) 0 0 [1, 5, 6] [(1001, 0, 1, none)] (Clu.evL_ok Clu.plain (Clu.noX_ok) (Clu.drK_ok Clu.mixed) (Clu.noL_ok) 50) (Clu.argB_bs rfl (by simp [Clu.rowsAt, hu]) (by decide) (by decide)) hos (((((((((((((((tuS_raw k cap n i cs bs os)).trans (Clu.forkB_t (Clu.iLt_t (Int.ofNat_lt.2 c1)) _ _)).trans (Clu.forkB_t (Clu.iLt_t (Int.ofNat_lt.2 c2)) _ _)).trans (Clu.needT_eq (Clu.blt_iff.2 n1) _ _)).trans (Clu.needT_eq (n2) _ _)).trans (Clu.needT_eq (Clu.inR_nat (k := .i64) n3) _ _)).trans (Clu.needF_eq (Clu.iEq_f (fun hh => n4 (Int.ofNat.inj hh))) _ _)).trans (Clu.needT_eq (Clu.blt_iff.2 n5) _ _)).trans (Clu.needT_eq (n6) _ _)).trans (Clu.forkB_t (congrArg not (Clu.iLt_f (Int.ofNat_le.2 c3))) _ _)).trans (Clu.forkB_t (congrArg not (Clu.iLt_f (Int.ofNat_le.2 c4))) _ _)).trans (Clu.needT_eq (Clu.blt_iff.2 n7) _ _)).trans (Clu.needT_eq (Clu.ble_iff.2 n8) _ _)).trans (Clu.needT_eq (Clu.inR_nat (k := .i64) n9) _ _)) rfl rfl rfl (by decide) rfl (by simp [Clu.Blk.und, Clu.AV.und, Clu.AV.unds, hb]) rfl (Clu.newH_ro rfl) (by simp [Clu.AV.und, Clu.AV.unds, Clu.AV.cells, Clu.unds_splice, hb])
set_option maxRecDepth 10000000 in
theorem tuF_raw (n N k cap : Nat) (cs bs : List Clu.AV) : (Clu.runV (Clu.addL (Clu.noL) (Clu.loopNo Try.f32 0) 3 (Clu.loopM [3000030, 3000038, 3000072, 3000080, 3000086, 3000094] Try.prog (Clu.loopNo Try.f32 0) [1, 5, 6] [14, 15, 18, 19, 35, 36, 38, 39, 40, 42, 43, 45, 46, 47] [1000] [1001] (fun _ _ _ => .leaf (2, [5], [.so 1001 0 1 n], [(1001, .c bs 0 1 none)], 1002)))) Try.prog (Clu.tell (Clu.noX) 32 300009430000863000080300007230000383000030) ((k + 1000)) 1001 32 [.s n N, .sl 1000 0 k cap] (Clu.mkH .e (Clu.argB (Clu.rowsAt 1000 [cs]) ++ Clu.layB [])) 1001 [[]]) = Clu.needP ((Clu.loopNo Try.f32 0) = (Clu.loopNo Try.f32 0)) (fun _ => .err 91 0) (fun h600 => Clu.needP (Clu.LoopQ (Try.prog) ((Clu.loopNo Try.f32 0)) ((k + 995)) (55) (1001) (([(1001, (Clu.Blk.c ((List.map (fun (i_x : Nat) => (Clu.AV.i IntKind.u8 (Int.ofNat (Clu.byteN N i_x)))) (List.range n)) ++ []) 0 1 Option.none))] ++ [(1000, (Clu.Blk.c cs 1000000000000000000000 0 Option.none))])) (1002) (2) ([1, 5, 6]) ([(Clu.AV.sl 1000 0 k cap), (Clu.AV.so 1001 0 1 n), (Clu.AV.i IntKind.i64 (Int.ofNat 0))]) ([14, 15, 18, 19, 35, 36, 38, 39, 40, 42, 43, 45, 46, 47]) ([5]) ([(Clu.AV.so 1001 0 1 n)]) (([(1001, (Clu.Blk.c bs 0 1 Option.none))] ++ [(1000, (Clu.Blk.c cs 1000000000000000000000 0 Option.none))])) (1002)) (fun _ => .err 93 1) (fun h599 => Clu.needT ((Nat.ble n (List.length (List.drop 0 bs)))) (.err 1 0) (Clu.needT ((List.all (List.take n (List.drop 0 bs)) Clu.isU8)) (.err 3 0) ((Clu.Out.ok (Clu.AV.tu [(Clu.AV.i IntKind.i64 (Int.ofNat 0)), (Clu.AV.s (List.length (List.take n (List.drop 0 bs))) (Clu.pk (List.map Clu.u8N (List.take n (List.drop 0 bs)))))])))))) := by kernel_rfl
set_option linter.unusedVariables false in
theorem tuF_0 (n N k cap : Nat) (cs bs : List Clu.AV) (hu : Clu.AV.flts cs = true) (q1 : Clu.LoopQ (Try.prog) ((Clu.loopNo Try.f32 0)) ((k + 995)) (55) (1001) (([(1001, (Clu.Blk.c ((List.map (fun (i_x : Nat) => (Clu.AV.i IntKind.u8 (Int.ofNat (Clu.byteN N i_x)))) (List.range n)) ++ []) 0 1 Option.none))] ++ [(1000, (Clu.Blk.c cs 1000000000000000000000 0 Option.none))])) (1002) (2) ([1, 5, 6]) ([(Clu.AV.sl 1000 0 k cap), (Clu.AV.so 1001 0 1 n), (Clu.AV.i IntKind.i64 (Int.ofNat 0))]) ([14, 15, 18, 19, 35, 36, 38, 39, 40, 42, 43, 45, 46, 47]) ([5]) ([(Clu.AV.so 1001 0 1 n)]) (([(1001, (Clu.Blk.c bs 0 1 Option.none))] ++ [(1000, (Clu.Blk.c cs 1000000000000000000000 0 Option.none))])) (1002)) (n1 : n ≤ (List.length (List.drop 0 bs)) := by first | omega | (simp; omega)) (n2 : (List.all (List.take n (List.drop 0 bs)) Clu.isU8) = true) : Clu.RowOK Try.prog 32 [] [.s n N, .sl 1000 0 k cap] [cs] (Clu.AV.s (List.length (List.take n (List.drop 0 bs))) (Clu.pk (List.map Clu.u8N (List.take n (List.drop 0 bs))))) [] :=
  ⟨by simp [hu], (by simp [Clu.AV.flts, Clu.AV.flt]), (fun x h => by cases h), Clu.con_new (v := (Clu.AV.s (List.length (List.take n (List.drop 0 bs))) (Clu.pk (List.map Clu.u8N (List.take n (List.drop 0 bs)))))) (cs := []) (alts := [[]]) (gl := Clu.argB (Clu.rowsAt 1000 [cs]) ++ Clu.layB []) Clu.plain (Clu.tell_ok (Clu.noX_ok)) (Clu.drK_ok Clu.mixed) (Clu.addL_ok (Clu.noL_ok) Clu.loopM_ok) 0 [] (Clu.AV.s (List.length (List.take n (List.drop 0 bs))) (Clu.pk (List.map Clu.u8N (List.take n (List.drop 0 bs))))) ((((((tuF_raw n N k cap cs bs)).trans (Clu.needP_eq rfl _ _)).trans (Clu.needP_eq q1 _ _)).trans (Clu.needT_eq (Clu.ble_iff.2 n1) _ _)).trans (Clu.needT_eq (n2) _ _)) rfl (Clu.argB_bs rfl (by simp [Clu.rowsAt, hu]) (by first | decide | simp) (by first | decide | simp)) (by first | decide | simp) rfl rfl rfl (fun x h => by cases h) (by simp [Clu.AV.flts, Clu.AV.flt]) rfl (by decide) (by simp)⟩
set_option maxRecDepth 10000000 in
theorem tuZ_raw (n i : Nat) (bs : List Clu.AV) (os : Nat → Option Clu.AV) : Clu.evL (Clu.noL) Try.prog (Clu.noX) 50 55 1000 (Clu.loopNo Try.f32 0) (Clu.tellF [3000030, 3000038, 3000072, 3000080, 3000086, 3000094] (Clu.mkFr 55 (Clu.std [1, 5, 6] [.sn, .so 1000 0 1 n, .i .i64 (.ofNat i)] [14, 15, 18, 19, 35, 36, 38, 39, 40, 42, 43, 45, 46, 47] os))) (Clu.mkH (Clu.mkH .e (Clu.layB [])) [(1000, .c bs 0 1 none)]) 1001 (Clu.finM 55 1001 [14, 15, 18, 19, 35, 36, 38, 39, 40, 42, 43, 45, 46, 47] 0 [(0, [1, 5, 6], [(1000, 0, 1, none)], none), (2, [5], [(1000, 0, 1, none)], none)]) = Clu.needT ((Clu.flatB (os 35))) (.err 90 1) (Clu.needT ((Clu.flatB (os 36))) (.err 90 1) (Clu.needT ((Clu.flatB (os 38))) (.err 90 1) (Clu.needT ((Clu.flatB (os 39))) (.err 90 1) (Clu.needT ((Clu.flatB (os 40))) (.err 90 1) (Clu.needT ((Clu.flatB (os 42))) (.err 90 1) (Clu.needT ((Clu.flatB (os 43))) (.err 90 1) (Clu.needT ((Clu.flatB (os 45))) (.err 90 1) (Clu.needT ((Clu.flatB (os 46))) (.err 90 1) (Clu.needT ((Clu.flatB (os 47))) (.err 90 1) ((Clu.Out.ok (Clu.AV.tu [(Clu.AV.i IntKind.i64 (Int.ofNat 1)), (Clu.AV.so 1000 0 1 n), (Clu.AV.ag bs)])))))))))))) := by kernel_rfl
set_option linter.unusedVariables false in
theorem tuZ_0 (n i : Nat) (bs : List Clu.AV) (os : Nat → Option Clu.AV) (hos : ∀ t, Clu.flatB (os t) = true) (hb : Clu.AV.unds 1001 bs = true)  : ∃ os' : Nat → Option Clu.AV, (∀ t, Clu.flatB (os' t) = true) ∧ Clu.RunE Try.prog 50 (Clu.loopNo Try.f32 0) 55 1000 (Clu.mkFr 55 (Clu.std [1, 5, 6] [.sn, .so 1000 0 1 n, .i .i64 (.ofNat i)] [14, 15, 18, 19, 35, 36, 38, 39, 40, 42, 43, 45, 46, 47] os)) (Clu.mkH .e ([(1000, .c bs 0 1 none)] ++ (Clu.layB []))) 1001 (Clu.exOf 2) (Clu.mkFr 55 (Clu.std [5] [(Clu.AV.so 1000 0 1 n)] [14, 15, 18, 19, 35, 36, 38, 39, 40, 42, 43, 45, 46, 47] os')) (Clu.mkH .e ([(1000, .c bs 0 1 none)] ++ (Clu.layB []))) 1001 :=
  Clu.segM (vs := [(Clu.AV.so 1000 0 1 n)]) (cs := [bs]) 1 2 [5] [(1000, 0, 1, none)] (Clu.evL_ok Clu.plain (Clu.noX_ok) (Clu.drK_ok Clu.mixed) (Clu.noL_ok) 50) (Clu.layB_bs rfl (by decide) (by decide)) hos ((((((((((((tuZ_raw n i bs os)).trans (Clu.needT_eq (hos _) _ _)).trans (Clu.needT_eq (hos _) _ _)).trans (Clu.needT_eq (hos _) _ _)).trans (Clu.needT_eq (hos _) _ _)).trans (Clu.needT_eq (hos _) _ _)).trans (Clu.needT_eq (hos _) _ _)).trans (Clu.needT_eq (hos _) _ _)).trans (Clu.needT_eq (hos _) _ _)).trans (Clu.needT_eq (hos _) _ _)).trans (Clu.needT_eq (hos _) _ _)) rfl rfl rfl (by decide) rfl (by simp [Clu.Blk.und, Clu.AV.und, Clu.AV.unds, hb]) rfl (Clu.newH_ro rfl) (by simp [Clu.AV.und, Clu.AV.unds, Clu.AV.cells, Clu.unds_splice, hb])
set_option maxRecDepth 10000000 in
theorem tuG_raw (n N : Nat) (bs : List Clu.AV) : (Clu.runV (Clu.addL (Clu.noL) (Clu.loopNo Try.f32 0) 3 (Clu.loopM [3000030, 3000038, 3000072, 3000080, 3000086, 3000094] Try.prog (Clu.loopNo Try.f32 0) [1, 5, 6] [14, 15, 18, 19, 35, 36, 38, 39, 40, 42, 43, 45, 46, 47] [] [1000] (fun _ _ _ => .leaf (2, [5], [.so 1000 0 1 n], [(1000, .c bs 0 1 none)], 1001)))) Try.prog (Clu.tell (Clu.noX) 32 300009430000863000080300007230000383000030) (1000) 1000 32 [.s n N, .sn] (Clu.mkH .e (Clu.argB (Clu.rowsAt 1000 []) ++ Clu.layB [])) 1000 [[]]) = Clu.needP ((Clu.loopNo Try.f32 0) = (Clu.loopNo Try.f32 0)) (fun _ => .err 91 0) (fun h600 => Clu.needP (Clu.LoopQ (Try.prog) ((Clu.loopNo Try.f32 0)) (995) (55) (1000) (([(1000, (Clu.Blk.c ((List.map (fun (i_x : Nat) => (Clu.AV.i IntKind.u8 (Int.ofNat (Clu.byteN N i_x)))) (List.range n)) ++ []) 0 1 Option.none))] ++ [])) (1001) (2) ([1, 5, 6]) ([Clu.AV.sn, (Clu.AV.so 1000 0 1 n), (Clu.AV.i IntKind.i64 (Int.ofNat 0))]) ([14, 15, 18, 19, 35, 36, 38, 39, 40, 42, 43, 45, 46, 47]) ([5]) ([(Clu.AV.so 1000 0 1 n)]) (([(1000, (Clu.Blk.c bs 0 1 Option.none))] ++ [])) (1001)) (fun _ => .err 93 1) (fun h599 => Clu.needT ((Nat.ble n (List.length (List.drop 0 bs)))) (.err 1 0) (Clu.needT ((List.all (List.take n (List.drop 0 bs)) Clu.isU8)) (.err 3 0) ((Clu.Out.ok (Clu.AV.tu [(Clu.AV.i IntKind.i64 (Int.ofNat 0)), (Clu.AV.s (List.length (List.take n (List.drop 0 bs))) (Clu.pk (List.map Clu.u8N (List.take n (List.drop 0 bs)))))])))))) := by kernel_rfl
set_option linter.unusedVariables false in
theorem tuG_0 (n N : Nat) (bs : List Clu.AV)  (q1 : Clu.LoopQ (Try.prog) ((Clu.loopNo Try.f32 0)) (995) (55) (1000) (([(1000, (Clu.Blk.c ((List.map (fun (i_x : Nat) => (Clu.AV.i IntKind.u8 (Int.ofNat (Clu.byteN N i_x)))) (List.range n)) ++ []) 0 1 Option.none))] ++ [])) (1001) (2) ([1, 5, 6]) ([Clu.AV.sn, (Clu.AV.so 1000 0 1 n), (Clu.AV.i IntKind.i64 (Int.ofNat 0))]) ([14, 15, 18, 19, 35, 36, 38, 39, 40, 42, 43, 45, 46, 47]) ([5]) ([(Clu.AV.so 1000 0 1 n)]) (([(1000, (Clu.Blk.c bs 0 1 Option.none))] ++ [])) (1001)) (n1 : n ≤ (List.length (List.drop 0 bs)) := by first | omega | (simp; omega)) (n2 : (List.all (List.take n (List.drop 0 bs)) Clu.isU8) = true) : Clu.RowOK Try.prog 32 [] [.s n N, .sn] [] (Clu.AV.s (List.length (List.take n (List.drop 0 bs))) (Clu.pk (List.map Clu.u8N (List.take n (List.drop 0 bs))))) [] :=
  ⟨by simp, (by simp [Clu.AV.flts, Clu.AV.flt]), (fun x h => by cases h), Clu.con_new (v := (Clu.AV.s (List.length (List.take n (List.drop 0 bs))) (Clu.pk (List.map Clu.u8N (List.take n (List.drop 0 bs)))))) (cs := []) (alts := [[]]) (gl := Clu.argB (Clu.rowsAt 1000 []) ++ Clu.layB []) Clu.plain (Clu.tell_ok (Clu.noX_ok)) (Clu.drK_ok Clu.mixed) (Clu.addL_ok (Clu.noL_ok) Clu.loopM_ok) 0 [] (Clu.AV.s (List.length (List.take n (List.drop 0 bs))) (Clu.pk (List.map Clu.u8N (List.take n (List.drop 0 bs))))) ((((((tuG_raw n N bs)).trans (Clu.needP_eq rfl _ _)).trans (Clu.needP_eq q1 _ _)).trans (Clu.needT_eq (Clu.ble_iff.2 n1) _ _)).trans (Clu.needT_eq (n2) _ _)) rfl (Clu.argB_bs rfl (by simp [Clu.rowsAt]) (by first | decide | simp) (by first | decide | simp)) (by first | decide | simp) rfl rfl rfl (fun x h => by cases h) (by simp [Clu.AV.flts, Clu.AV.flt]) rfl (by decide) (by simp)⟩
/-! letters turned -/
def isLet (c : Nat) : Bool := (decide (97 ≤ c) && decide (c ≤ 122)) || (decide (65 ≤ c) && decide (c ≤ 90))
def turn1 (l : List Nat) (a : Nat) : List Nat := if l.length = 0 then l else (if isLet (l.getD (a % l.length) 0) = true then l.set (a % l.length) (Nat.xor (l.getD (a % l.length) 0) 32) else l)
def turnG (l xs : List Nat) : List Nat := xs.foldl turn1 l
/-- one byte may stand for the other -/
def Twin (a b : Nat) : Prop := lowB b = lowB a ∧ (a < 65 → b = a) ∧ b < 256
def Twins (l c : List Nat) : Prop := c.length = l.length ∧ ∀ j, j < l.length → Twin (l.getD j 0) (c.getD j 0)
theorem xor_let : ∀ c : Nat, c < 123 → isLet c = true → Nat.xor c 32 < 256 ∧ lowB (Nat.xor c 32) = lowB c ∧ 65 ≤ c := by
  set_option maxRecDepth 10000 in decide
theorem isLet_lt {c : Nat} (h : isLet c = true) : c < 123 := by
  unfold isLet at h
  simp only [Bool.or_eq_true, Bool.and_eq_true, decide_eq_true_iff] at h
  omega
theorem Twins.refl {l : List Nat} (h : Clu.B8 l) : Twins l l := ⟨rfl, fun j _ => ⟨rfl, fun _ => rfl, h.getD j⟩⟩
theorem Twins.turn1 {l c : List Nat} (h : Twins l c) (a : Nat) : Twins l (turn1 c a) := by
  unfold Go.Proofs.Ytmokdhmicdmgfaa.turn1
  split
  · exact h
  · rename_i h0
    split
    · rename_i hl
      refine ⟨by rw [List.length_set]; exact h.1, fun j hj => ?_⟩
      have h1 := h.2 j hj
      by_cases e : j = a % c.length
      · subst e
        obtain ⟨x1, x2, x3⟩ := xor_let _ (isLet_lt hl) hl
        have : (c.set (a % c.length) (Nat.xor (c.getD (a % c.length) 0) 32)).getD (a % c.length) 0 = Nat.xor (c.getD (a % c.length) 0) 32 := by
          rw [List.getD_eq_getElem?_getD, List.getElem?_set_self (by have h9 := h.1; generalize a % c.length = z at *; omega)]; rfl
        rw [this]
        refine ⟨x2.trans h1.1, fun k => ?_, x1⟩
        have := h1.2.1 k
        omega
      · have : (c.set (a % c.length) (Nat.xor (c.getD (a % c.length) 0) 32)).getD j 0 = c.getD j 0 := by
          rw [List.getD_eq_getElem?_getD, List.getElem?_set_ne (fun z => e z.symm), ← List.getD_eq_getElem?_getD]
        rw [this]; exact h1
    · exact h
theorem Twins.turnG {l : List Nat} (xs : List Nat) : ∀ {c : List Nat}, Twins l c → Twins l (turnG c xs) := by
  induction xs with
  | nil => exact fun h => h
  | cons a xs ih => exact fun h => ih (h.turn1 a)
theorem Twins.b8 {l c : List Nat} (h : Twins l c) : Clu.B8 c := fun x hx => by
  obtain ⟨j, hj, rfl⟩ := List.getElem_of_mem hx
  have := (h.2 j (by rw [← h.1]; exact hj)).2.2
  rw [List.getD_eq_getElem?_getD, List.getElem?_eq_getElem hj] at this
  exact this
theorem Twins.nil {c : List Nat} (h : Twins [] c) : c = [] := List.length_eq_zero_iff.1 h.1
theorem Twins.cons {a : Nat} {l c : List Nat} (h : Twins (a :: l) c) : ∃ b d, c = b :: d ∧ Twin a b ∧ Twins l d := by
  cases c with
  | nil => exact absurd h.1 (fun z => by cases z)
  | cons b d =>
    refine ⟨b, d, rfl, h.2 0 (Nat.succ_pos _), Nat.succ.inj h.1, fun j hj => ?_⟩
    have := h.2 (j + 1) (Nat.succ_lt_succ hj)
    simpa using this
theorem Twins.app : ∀ {x w c : List Nat}, Twins (x ++ w) c → ∃ y v, c = y ++ v ∧ Twins x y ∧ Twins w v
  | [], w, c, h => ⟨[], c, rfl, ⟨rfl, fun j hj => absurd hj (Nat.not_lt_zero _)⟩, h⟩
  | a :: x, w, c, h => by
    obtain ⟨b, d, rfl, h1, h2⟩ := Twins.cons (l := x ++ w) h
    obtain ⟨y, v, rfl, h3, h4⟩ := Twins.app h2
    refine ⟨b :: y, v, rfl, ⟨congrArg Nat.succ h3.1, fun j hj => ?_⟩, h4⟩
    cases j with
    | zero => exact h1
    | succ j =>
      have := h3.2 j (Nat.lt_of_succ_lt_succ hj)
      simpa using this
theorem Twins.low : ∀ {l c : List Nat}, Twins l c → Go.Proofs.Ytmokdhmicdmgfaa.low c = Go.Proofs.Ytmokdhmicdmgfaa.low l
  | [], c, h => by rw [h.nil]
  | a :: l, c, h => by
    obtain ⟨b, d, rfl, h1, h2⟩ := h.cons
    show lowB b :: Go.Proofs.Ytmokdhmicdmgfaa.low d = lowB a :: Go.Proofs.Ytmokdhmicdmgfaa.low l
    rw [h1.1, h2.low]
theorem Twins.wire : ∀ {L : List (List Nat)} {c : List Nat}, LabOk L → Twins (Go.Proofs.Ytmokdhmicdmgfaa.wire L) c → ∃ M, c = Go.Proofs.Ytmokdhmicdmgfaa.wire M ∧ LabOk M ∧ M.map Go.Proofs.Ytmokdhmicdmgfaa.low = L.map Go.Proofs.Ytmokdhmicdmgfaa.low
  | [], c, h, t => by
    obtain ⟨b, d, rfl, h1, h2⟩ := Twins.cons (a := 0) (l := []) t
    rw [h2.nil, h1.2.1 (by omega)]
    exact ⟨[], rfl, h, rfl⟩
  | x :: L, c, h, t => by
    obtain ⟨b, d, rfl, h1, h2⟩ := Twins.cons (a := x.length) (l := x ++ Go.Proofs.Ytmokdhmicdmgfaa.wire L) t
    obtain ⟨y, v, rfl, h3, h4⟩ := Twins.app h2
    obtain ⟨M, rfl, h5, h6⟩ := Twins.wire h.tail h4
    have hx := h.head
    have e : b = y.length := by rw [h1.2.1 (by omega), h3.1]
    refine ⟨y :: M, by rw [e]; rfl, fun z hz => ?_, ?_⟩
    · rcases List.mem_cons.1 hz with rfl | hz
      · rw [h3.1]; exact hx
      · exact h5 z hz
    · rw [List.map_cons, List.map_cons, h3.low, h6]
/-! what turned comes to -/
noncomputable def atL (cs : List Clu.AV) (k : Nat) : List Nat := (List.range k).map fun j => Clu.iN (Clu.getL cs j)
theorem atL_succ (cs : List Clu.AV) (k : Nat) : atL cs (k + 1) = atL cs k ++ [Clu.iN (Clu.getL cs k)] := by
  unfold atL; rw [List.range_succ, List.map_append]; rfl
theorem turnG_succ (l : List Nat) (cs : List Clu.AV) (k : Nat) : turnG l (atL cs (k + 1)) = turn1 (turnG l (atL cs k)) (Clu.iN (Clu.getL cs k)) := by
  unfold turnG; rw [atL_succ, List.foldl_append]; rfl
theorem tu_L {l : List Nat} {cs : List Clu.AV} {k cap : Nat} (hB : Clu.B8 l) (hn : l.length ≤ 1000000) (hk : k ≤ 1000000) (hu : Clu.AV.flts cs = true) (hc : ∀ j, j < k → Clu.isU .u8 (Clu.getL cs j) = true ∧ Clu.iN (Clu.getL cs j) < 256) : ∀ (f i : Nat), i + f = k → Clu.LoopQ Try.prog (Clu.loopNo Try.f32 0) (51 + f) 55 1001 ([(1001, .c (Clu.U8 (turnG l (atL cs i))) 0 1 none)] ++ (Clu.argB (Clu.rowsAt 1000 [cs]) ++ Clu.layB [])) 1002 2 [1, 5, 6] [.sl 1000 0 k cap, .so 1001 0 1 l.length, .i .i64 (.ofNat i)] [14, 15, 18, 19, 35, 36, 38, 39, 40, 42, 43, 45, 46, 47] [5] [.so 1001 0 1 l.length] ([(1001, .c (Clu.U8 (turnG l (atL cs k))) 0 1 none)] ++ (Clu.argB (Clu.rowsAt 1000 [cs]) ++ Clu.layB [])) 1002
  | 0, i, hf => by
    obtain rfl : i = k := by omega
    exact Clu.LoopQ.out (n := 50) (by simp [Clu.exOf]) (by omega) fun os ho => tuS_0 _ _ _ _ _ _ os ho hu (Clu.U8_und _ _) (c1 := by omega)
  | f + 1, i, hf => by
    have hT : Twins l (turnG l (atL cs i)) := (Twins.refl hB).turnG _
    have hl := hT.1
    have h8 := hT.b8
    by_cases h0 : l.length = 0
    · have e : ∀ m, turnG l (atL cs m) = [] := fun m => List.length_eq_zero_iff.1 (by rw [((Twins.refl hB).turnG (atL cs m)).1]; exact h0)
      rw [e k, e i]
      exact Clu.LoopQ.out (n := 50) (by simp [Clu.exOf]) (by omega) fun os ho => tuS_1 _ _ _ _ _ _ os ho hu (Clu.U8_und _ _) (c1 := by omega) (c2 := by omega)
    · have hi : i < k := by omega
      have ei : 0 + i * 1 = i := by omega
      obtain ⟨u1, u2⟩ := hc i hi
      rw [← ei] at u1 u2
      have hlt : Clu.iN (Clu.getL cs (0 + i * 1)) % l.length < (turnG l (atL cs i)).length := by rw [hl]; exact Nat.mod_lt _ (by omega)
      have ek : 0 + Clu.iN (Clu.getL cs (0 + i * 1)) % l.length * 1 = Clu.iN (Clu.getL cs (0 + i * 1)) % l.length := by omega
      have b1 : Clu.isU .u8 (Clu.getL (Clu.U8 (turnG l (atL cs i))) (0 + Clu.iN (Clu.getL cs (0 + i * 1)) % l.length * 1)) = true := by rw [ek]; exact Clu.U8_isU hlt
      have b2 : Clu.iN (Clu.getL (Clu.U8 (turnG l (atL cs i))) (0 + Clu.iN (Clu.getL cs (0 + i * 1)) % l.length * 1)) = (turnG l (atL cs i)).getD (Clu.iN (Clu.getL cs (0 + i * 1)) % l.length) 0 := by rw [ek]; exact Clu.U8_iN hlt
      have b3 := h8.getD (Clu.iN (Clu.getL cs (0 + i * 1)) % l.length)
      have eg : turnG l (atL cs (i + 1)) = if isLet ((turnG l (atL cs i)).getD (Clu.iN (Clu.getL cs (0 + i * 1)) % l.length) 0) = true then (turnG l (atL cs i)).set (Clu.iN (Clu.getL cs (0 + i * 1)) % l.length) (Nat.xor ((turnG l (atL cs i)).getD (Clu.iN (Clu.getL cs (0 + i * 1)) % l.length) 0) 32) else turnG l (atL cs i) := by
        rw [turnG_succ, ei]
        unfold Go.Proofs.Ytmokdhmicdmgfaa.turn1
        rw [if_neg (by omega), hl]
      have hlen := Clu.U8_length (turnG l (atL cs i))
      generalize hg : (turnG l (atL cs i)).getD (Clu.iN (Clu.getL cs (0 + i * 1)) % l.length) 0 = c at *
      have es : isLet c = true → Clu.splice (Clu.U8 (turnG l (atL cs i))) (0 + Clu.iN (Clu.getL cs (0 + i * 1)) % l.length * 1) [.i .u8 (.ofNat (Clu.modN (.ofNat (Nat.xor (Clu.modN (.ofNat c) 256) 32)) 256))] = Clu.U8 (turnG l (atL cs (i + 1))) := fun hl2 => by
        rw [eg, if_pos hl2, ek]
        simp only [Clu.modN_nat]
        rw [Nat.mod_eq_of_lt b3, Nat.mod_eq_of_lt (xor_let _ (isLet_lt hl2) hl2).1]
        exact Clu.U8_splice hlt
      refine Clu.LoopQ.more (vs1 := [.sl 1000 0 k cap, .so 1001 0 1 l.length, .i .i64 (.ofNat (i + 1))]) (bl1 := [(1001, .c (Clu.U8 (turnG l (atL cs (i + 1)))) 0 1 none)] ++ (Clu.argB (Clu.rowsAt 1000 [cs]) ++ Clu.layB [])) (nx1 := 1002) (show 50 ≤ 51 + f by omega) (fun os ho => ?_) (tu_L hB hn hk hu hc f (i + 1) (by omega))
      have hr : 0 + i * 1 < 1000000 := by omega
      by_cases c97 : c < 97
      · by_cases c65 : c < 65
        · have el : isLet c = false := by unfold isLet; rw [decide_eq_false (show ¬ 97 ≤ c by omega), decide_eq_false (show ¬ 65 ≤ c by omega)]; rfl
          rw [eg, if_neg (by rw [el]; exact fun z => by cases z)]
          exact tuS_2 _ _ _ _ _ _ os ho hu (Clu.U8_und _ _) (c1 := hi) (c2 := by omega) (n2 := u1) (n6 := b1) (c3 := by omega) (c4 := by omega)
        · by_cases c90 : 90 < c
          · have el : isLet c = false := by unfold isLet; rw [decide_eq_false (show ¬ 97 ≤ c by omega), decide_eq_false (show ¬ c ≤ 90 by omega), Bool.and_false]; rfl
            rw [eg, if_neg (by rw [el]; exact fun z => by cases z)]
            exact tuS_3 _ _ _ _ _ _ os ho hu (Clu.U8_und _ _) (c1 := hi) (c2 := by omega) (n2 := u1) (n6 := b1) (c3 := by omega) (c4 := by omega) (c5 := by omega)
          · have el : isLet c = true := by unfold isLet; rw [decide_eq_true (show 65 ≤ c by omega), decide_eq_true (show c ≤ 90 by omega)]; simp
            have := tuS_4 k cap l.length i cs (Clu.U8 (turnG l (atL cs i))) os ho hu (Clu.U8_und _ _) (c1 := hi) (c2 := by omega) (n2 := u1) (n6 := b1) (c3 := by omega) (c4 := by omega) (c5 := by omega)
            rw [b2, es el] at this
            exact this
      · by_cases c122 : 122 < c
        · have el : isLet c = false := by unfold isLet; rw [decide_eq_false (show ¬ c ≤ 122 by omega), decide_eq_false (show ¬ c ≤ 90 by omega), Bool.and_false, Bool.and_false]; rfl
          rw [eg, if_neg (by rw [el]; exact fun z => by cases z)]
          exact tuS_6 _ _ _ _ _ _ os ho hu (Clu.U8_und _ _) (c1 := hi) (c2 := by omega) (n2 := u1) (n6 := b1) (c3 := by omega) (c4 := by omega) (c5 := by omega) (c6 := by omega)
        · have el : isLet c = true := by unfold isLet; rw [decide_eq_true (show 97 ≤ c by omega), decide_eq_true (show c ≤ 122 by omega)]; rfl
          have := tuS_8 k cap l.length i cs (Clu.U8 (turnG l (atL cs i))) os ho hu (Clu.U8_und _ _) (c1 := hi) (c2 := by omega) (n2 := u1) (n6 := b1) (c3 := by omega) (c4 := by omega)
          rw [b2, es el] at this
          exact this
noncomputable def ukF (cs : List Clu.AV) (k : Nat) : Bool := @decide (Clu.AV.flts cs = true ∧ ∀ j, j < k → Clu.isU .u8 (Clu.getL cs j) = true ∧ Clu.iN (Clu.getL cs j) < 256) (Classical.propDecidable _)
noncomputable def tNF (n N : Nat) (cs : List Clu.AV) (k : Nat) : Nat := Clu.pk (turnG (Clu.lst n N) (atL cs k))
theorem turned_row {l : List Nat} {cs : List Clu.AV} {k cap : Nat} (hB : Clu.B8 l) (hn : l.length ≤ 1000000) (hk : k ≤ 1000000) (h : ukF cs k = true) : Clu.RowOK Try.prog 32 [] [.s l.length (Clu.pk l), .sl 1000 0 k cap] [cs] (.s l.length (Clu.pk (turnG l (atL cs k)))) [] := by
  obtain ⟨hu, hc⟩ := @of_decide_eq_true _ (Classical.propDecidable _) h
  have hT : Twins l (turnG l (atL cs k)) := (Twins.refl hB).turnG _
  have K := (tu_L (cap := cap) hB hn hk hu hc k 0 (by omega)).upto (show 51 + k ≤ k + 995 by omega)
  have e0 : turnG l (atL cs 0) = l := rfl
  have e1 := Clu.U8_pk hB
  rw [e0, ← e1] at K
  have hlen := Clu.U8_length (turnG l (atL cs k))
  have e2 : (Clu.U8 (turnG l (atL cs k))).take l.length = Clu.U8 (turnG l (atL cs k)) := List.take_of_length_le (by rw [hlen, hT.1]; omega)
  have hT1 := hT.1
  have := tuF_0 l.length (Clu.pk l) k cap cs (Clu.U8 (turnG l (atL cs k))) hu K (n1 := by show l.length ≤ (Clu.U8 (turnG l (atL cs k))).length; omega) (n2 := by rw [List.drop_zero, e2]; exact Clu.U8_all _)
  rw [List.drop_zero, e2, hlen, hT1, Clu.U8_num] at this
  exact this
theorem turned_nil {l : List Nat} (hB : Clu.B8 l) (hn : l.length ≤ 1000000) : Clu.RowOK Try.prog 32 [] [.s l.length (Clu.pk l), .sn] [] (.s l.length (Clu.pk l)) [] := by
  have e1 := Clu.U8_pk hB
  have hlen := Clu.U8_length l
  have e2 : (Clu.U8 l).take l.length = Clu.U8 l := List.take_of_length_le (by rw [hlen]; omega)
  have := tuG_0 l.length (Clu.pk l) (Clu.U8 l) (by
    rw [e1]
    exact Clu.LoopQ.out (n := 50) (by simp [Clu.exOf]) (by omega) fun os ho => tuZ_0 _ _ _ os ho (Clu.U8_und _ _)) (n1 := by show l.length ≤ (Clu.U8 l).length; omega) (n2 := by rw [List.drop_zero, e2]; exact Clu.U8_all _)
  rw [List.drop_zero, e2, hlen, Clu.U8_num] at this
  exact this
theorem row_s {f : FuncId} {n N : Nat} {rest : List Clu.AV} {css : List (List Clu.AV)} {v : Clu.AV} {o : List Clu.NB} (h : Clu.RowOK Try.prog f [] (.s (Clu.lst n N).length (Clu.pk (Clu.lst n N)) :: rest) css v o) : Clu.RowOK Try.prog f [] (.s n N :: rest) css v o := by
  obtain ⟨a, b, c, C⟩ := h
  exact ⟨a, b, c, ⟨C.lim, C.dom, C.dom', C.ua, C.ua', C.keep, fun p r w xs h0 h1 hx => C.sem p r w xs h0 h1 (by obtain ⟨x, ys, h1, h2, h3⟩ := hx; exact ⟨x, ys, h1, Clu.VR.lst.1 h2, h3⟩)⟩⟩
theorem tuH_ok : Clu.HandOK Try.prog 32 (Clu.rowH [] (tuH ukF tNF)) := Clu.rowH_ok rfl fun args css o h => by
  unfold tuH at h
  split at h
  · rename_i n N a o1 k cap
    split at h
    · rename_i cs
      obtain ⟨h1, h2, h3, h4, h5, h⟩ := h
      have h : (_, _) = _ := h
      subst h
      cases Clu.beq_iff.1 h1
      cases Clu.beq_iff.1 h2
      have h3 := Clu.blt_iff.1 h3
      have h4 := Clu.blt_iff.1 h4
      have := turned_row (cap := cap) (Clu.lst_b8 n N) (by rw [Clu.lst_length]; omega) (show k ≤ 1000000 by omega) h5
      have hl := Clu.lst_length n N
      have e : Clu.AV.s (Clu.lst n N).length (Clu.pk (turnG (Clu.lst n N) (atL cs k))) = .s n (tNF n N cs k) := by rw [hl]; rfl
      rw [e] at this
      exact row_s this
    · exact h.elim
  · rename_i n N
    split at h
    · obtain ⟨h3, h⟩ := h
      have h : (_, _) = _ := h
      subst h
      have h3 := Clu.blt_iff.1 h3
      have := turned_nil (Clu.lst_b8 n N) (by rw [Clu.lst_length]; omega)
      have hl := Clu.lst_length n N
      have e : Clu.AV.s (Clu.lst n N).length (Clu.pk (Clu.lst n N)) = .s n (tNF n N [] 0) := by rw [hl]; rfl
      rw [e] at this
      rw [← e] at this
      have := row_s this
      rw [e] at this
      exact this
    · exact h.elim
  · exact h.elim

end Go.Proofs.Ytmokdhmicdmgfaa
