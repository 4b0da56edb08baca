/-
  names: places, Compare.
-/
import Derived.Test.YtmokdhmicdmgfaaCluze
import Derived.Test.YtmokdhmicdmgfaaNmFn
namespace Go.Proofs.Ytmokdhmicdmgfaa
open Go.RowKit
set_option linter.unusedVariables false
set_option linter.unusedSimpArgs false
set_option maxRecDepth 100000

noncomputable def plH (my : Nat → Nat → Bool) (pl : Nat → Nat → List Clu.AV) : List Clu.AV → Clu.Dec Clu.AV := fun args => match args with
  | [.s n N] => .need (my n N) (.leaf (.ag (pl n N)))
  | _ => .fail
noncomputable def sgH (sg : Int → Int) : List Clu.AV → Clu.Dec Clu.AV := fun args => match args with
  | [.i .i64 z] => .leaf (.i .i64 (sg z))
  | _ => .fail
noncomputable def feF (fl fb : List Clu.AV → Nat → Nat → Nat → Nat) : List Clu.AV → List Clu.AV → Option (Clu.AV × List Clu.AV) := fun cs rest => match rest with
  | [.s n N, .i .i64 (.ofNat i)] => some (.s (fl cs n N i) (fb cs n N i), cs)
  | _ => none
noncomputable def feB (fo : List Clu.AV → Nat → Nat → Nat → Bool) : List Clu.AV → List Clu.AV → List Bool := fun cs rest => match rest with
  | [.s n N, .i .i64 (.ofNat i)] => [fo cs n N i]
  | _ => [false]

set_option maxRecDepth 10000000 in
theorem plR_raw (n N at_ : Nat) (rs cs : List Clu.AV) (os : Nat → Option Clu.AV) : Clu.evL (Clu.noL) Try.prog (Clu.noX) 50 27 1000 (Clu.loopNo Try.f42 0) (Clu.tellF [3000016] (Clu.mkFr 27 (Clu.std [0, 2, 3, 4] [.s n N, .p 1000 0, .p 1001 0, .i .i64 (.ofNat at_)] [8] os))) (Clu.mkH (Clu.mkH .e (Clu.layB [])) [(1000, .c rs 0 0 (some 57)), (1001, .c cs 0 0 (some 57))]) 1002 (Clu.finM 27 1002 [8] 0 [(0, [0, 2, 3, 4], [(1000, 0, 0, (some 57)), (1001, 0, 0, (some 57))], none), (2, [2, 3], [(1000, 0, 0, (some 57)), (1001, 0, 0, (some 57))], none)]) = Clu.needT ((Nat.blt at_ n)) (.err 22 6) (Clu.forkB ((Bool.not (Clu.iEq (Int.ofNat (Clu.byteN N at_)) (Int.ofNat 0)))) ((Clu.Out.ok (Clu.AV.tu [(Clu.AV.i IntKind.i64 (Int.ofNat 1)), (Clu.AV.p 1000 0), (Clu.AV.p 1001 0), (Clu.AV.ag rs), (Clu.AV.ag cs)]))) (Clu.needT ((Clu.isI IntKind.i64 (Clu.getL cs 127))) (.err 8 3) (Clu.needI ((Clu.iZ (Clu.getL cs 127))) (fun _ => .err 22 1) (fun n597 => Clu.needT ((Nat.blt n597 127)) (.err 22 0) (Clu.needT ((Nat.ble ((0 + (n597 * 1)) + 1) (List.length cs))) (.err 7 0) (Clu.needT ((Clu.isI IntKind.i64 (Clu.getL (Clu.splice cs (0 + (n597 * 1)) [(Clu.AV.i IntKind.u8 (Int.ofNat (Clu.modN (Int.ofNat at_) 256)))]) 127))) (.err 8 3) (Clu.needT ((Clu.inR IntKind.i64 ((Clu.iZ (Clu.getL (Clu.splice cs (0 + (n597 * 1)) [(Clu.AV.i IntKind.u8 (Int.ofNat (Clu.modN (Int.ofNat at_) 256)))]) 127)) + (Int.ofNat 1)))) (.err 10 20) (Clu.needT ((Nat.ble (127 + 1) (List.length (Clu.splice cs (0 + (n597 * 1)) [(Clu.AV.i IntKind.u8 (Int.ofNat (Clu.modN (Int.ofNat at_) 256)))])))) (.err 7 0) (Clu.needT ((Nat.blt at_ n)) (.err 22 6) (Clu.needT ((Clu.inR IntKind.i64 (Int.ofNat (Clu.byteN N at_)))) (.err 10 20) (Clu.needT ((Clu.inR IntKind.i64 (Int.ofNat (1 + (Clu.byteN N at_))))) (.err 10 20) (Clu.needT ((Clu.inR IntKind.i64 (Int.ofNat (at_ + (1 + (Clu.byteN N at_)))))) (.err 10 20) ((Clu.Out.ok (Clu.AV.tu [(Clu.AV.i IntKind.i64 (Int.ofNat 0)), (Clu.AV.s n N), (Clu.AV.p 1000 0), (Clu.AV.p 1001 0), (Clu.AV.i IntKind.i64 (Int.ofNat (at_ + (1 + (Clu.byteN N at_))))), (Clu.AV.ag rs), (Clu.AV.ag (Clu.splice (Clu.splice cs (0 + (n597 * 1)) [(Clu.AV.i IntKind.u8 (Int.ofNat (Clu.modN (Int.ofNat at_) 256)))]) 127 [(Clu.AV.i IntKind.i64 ((Clu.iZ (Clu.getL (Clu.splice cs (0 + (n597 * 1)) [(Clu.AV.i IntKind.u8 (Int.ofNat (Clu.modN (Int.ofNat at_) 256)))]) 127)) + (Int.ofNat 1)))]))]))))))))))))))) := by kernel_rfl
set_option linter.unusedVariables false in
theorem plR_0 (n N at_ : Nat) (rs cs : List Clu.AV) (os : Nat → Option Clu.AV) (hos : ∀ t, Clu.flatB (os t) = true) (hr : Clu.AV.unds 1002 rs = true) (hu : Clu.AV.unds 1002 cs = true) (n1 : at_ < n := by omega) (c1 : (Clu.byteN N at_) = 0) : ∃ os' : Nat → Option Clu.AV, (∀ t, Clu.flatB (os' t) = true) ∧ Clu.RunE Try.prog 50 (Clu.loopNo Try.f42 0) 27 1000 (Clu.mkFr 27 (Clu.std [0, 2, 3, 4] [.s n N, .p 1000 0, .p 1001 0, .i .i64 (.ofNat at_)] [8] os)) (Clu.mkH .e ([(1000, .c rs 0 0 (some 57)), (1001, .c cs 0 0 (some 57))] ++ (Clu.layB []))) 1002 (Clu.exOf 2) (Clu.mkFr 27 (Clu.std [2, 3] [(Clu.AV.p 1000 0), (Clu.AV.p 1001 0)] [8] os')) (Clu.mkH .e ([(1000, .c rs 0 0 (some 57)), (1001, .c cs 0 0 (some 57))] ++ (Clu.layB []))) 1002 :=
  Clu.segM (vs := [(Clu.AV.p 1000 0), (Clu.AV.p 1001 0)]) (cs := [rs, cs]) 1 2 [2, 3] [(1000, 0, 0, (some 57)), (1001, 0, 0, (some 57))] (Clu.evL_ok Clu.plain (Clu.noX_ok) (Clu.drK_ok Clu.mixed) (Clu.noL_ok) 50) (Clu.layB_bs rfl (by decide) (by decide)) hos ((((plR_raw n N at_ rs cs os)).trans (Clu.needT_eq (Clu.blt_iff.2 n1) _ _)).trans (Clu.forkB_f (congrArg not (Clu.iEq_t (congrArg Int.ofNat c1))) _ _)) rfl rfl rfl (by decide) rfl (by simp [Clu.Blk.und, Clu.AV.und, Clu.AV.unds, hr, hu]) rfl (Clu.newH_ro rfl) (by simp [Clu.AV.und, Clu.AV.unds, Clu.AV.cells, Clu.unds_splice, hr, hu])
set_option linter.unusedVariables false in
theorem plR_1 (n N at_ : Nat) (rs cs : List Clu.AV) (os : Nat → Option Clu.AV) (hos : ∀ t, Clu.flatB (os t) = true) (hr : Clu.AV.unds 1002 rs = true) (hu : Clu.AV.unds 1002 cs = true) (n1 : at_ < n := by omega) (c1 : (Clu.byteN N at_) ≠ 0) (n2 : (Clu.isI IntKind.i64 (Clu.getL cs 127)) = true) (n597 : Nat) (e_n597 : (Clu.iZ (Clu.getL cs 127)) = Int.ofNat n597) (n3 : n597 < 127 := by omega) (n4 : ((0 + (n597 * 1)) + 1) ≤ (List.length cs) := by first | omega | (simp; omega)) (n5 : (Clu.isI IntKind.i64 (Clu.getL (Clu.splice cs (0 + (n597 * 1)) [(Clu.AV.i IntKind.u8 (Int.ofNat (Clu.modN (Int.ofNat at_) 256)))]) 127)) = true) (n6 : -9223372036854775808 ≤ ((Clu.iZ (Clu.getL (Clu.splice cs (0 + (n597 * 1)) [(Clu.AV.i IntKind.u8 (Int.ofNat (Clu.modN (Int.ofNat at_) 256)))]) 127)) + ((1 : Nat) : Int)) ∧ ((Clu.iZ (Clu.getL (Clu.splice cs (0 + (n597 * 1)) [(Clu.AV.i IntKind.u8 (Int.ofNat (Clu.modN (Int.ofNat at_) 256)))]) 127)) + ((1 : Nat) : Int)) < 9223372036854775808 := by omega) (n7 : (127 + 1) ≤ (List.length (Clu.splice cs (0 + (n597 * 1)) [(Clu.AV.i IntKind.u8 (Int.ofNat (Clu.modN (Int.ofNat at_) 256)))])) := by first | omega | (simp; omega)) (n8 : at_ < n := by omega) (n9 : (Clu.byteN N at_) < 9223372036854775808 := by omega) (n10 : (1 + (Clu.byteN N at_)) < 9223372036854775808 := by omega) (n11 : (at_ + (1 + (Clu.byteN N at_))) < 9223372036854775808 := by omega) : ∃ os' : Nat → Option Clu.AV, (∀ t, Clu.flatB (os' t) = true) ∧ Clu.RunE Try.prog 50 (Clu.loopNo Try.f42 0) 27 1000 (Clu.mkFr 27 (Clu.std [0, 2, 3, 4] [.s n N, .p 1000 0, .p 1001 0, .i .i64 (.ofNat at_)] [8] os)) (Clu.mkH .e ([(1000, .c rs 0 0 (some 57)), (1001, .c cs 0 0 (some 57))] ++ (Clu.layB []))) 1002 (Clu.exOf 0) (Clu.mkFr 27 (Clu.std [0, 2, 3, 4] [(Clu.AV.s n N), (Clu.AV.p 1000 0), (Clu.AV.p 1001 0), (Clu.AV.i IntKind.i64 (Int.ofNat (at_ + (1 + (Clu.byteN N at_)))))] [8] os')) (Clu.mkH .e ([(1000, .c rs 0 0 (some 57)), (1001, .c (Clu.splice (Clu.splice cs (0 + (n597 * 1)) [(Clu.AV.i IntKind.u8 (Int.ofNat (Clu.modN (Int.ofNat at_) 256)))]) 127 [(Clu.AV.i IntKind.i64 ((Clu.iZ (Clu.getL (Clu.splice cs (0 + (n597 * 1)) [(Clu.AV.i IntKind.u8 (Int.ofNat (Clu.modN (Int.ofNat at_) 256)))]) 127)) + (Int.ofNat 1)))]) 0 0 (some 57))] ++ (Clu.layB []))) 1002 :=
  Clu.segM (vs := [(Clu.AV.s n N), (Clu.AV.p 1000 0), (Clu.AV.p 1001 0), (Clu.AV.i IntKind.i64 (Int.ofNat (at_ + (1 + (Clu.byteN N at_)))))]) (cs := [rs, (Clu.splice (Clu.splice cs (0 + (n597 * 1)) [(Clu.AV.i IntKind.u8 (Int.ofNat (Clu.modN (Int.ofNat at_) 256)))]) 127 [(Clu.AV.i IntKind.i64 ((Clu.iZ (Clu.getL (Clu.splice cs (0 + (n597 * 1)) [(Clu.AV.i IntKind.u8 (Int.ofNat (Clu.modN (Int.ofNat at_) 256)))]) 127)) + (Int.ofNat 1)))])]) 0 0 [0, 2, 3, 4] [(1000, 0, 0, (some 57)), (1001, 0, 0, (some 57))] (Clu.evL_ok Clu.plain (Clu.noX_ok) (Clu.drK_ok Clu.mixed) (Clu.noL_ok) 50) (Clu.layB_bs rfl (by decide) (by decide)) hos (((((((((((((((plR_raw n N at_ rs cs os)).trans (Clu.needT_eq (Clu.blt_iff.2 n1) _ _)).trans (Clu.forkB_t (congrArg not (Clu.iEq_f (fun hh => c1 (Int.ofNat.inj hh)))) _ _)).trans (Clu.needT_eq (n2) _ _)).trans (Clu.needI_eq e_n597 _ _)).trans (Clu.needT_eq (Clu.blt_iff.2 n3) _ _)).trans (Clu.needT_eq (Clu.ble_iff.2 n4) _ _)).trans (Clu.needT_eq (n5) _ _)).trans (Clu.needT_eq (Clu.inR_int (k := .i64) (half := 9223372036854775808) rfl n6) _ _)).trans (Clu.needT_eq (Clu.ble_iff.2 n7) _ _)).trans (Clu.needT_eq (Clu.blt_iff.2 n8) _ _)).trans (Clu.needT_eq (Clu.inR_nat (k := .i64) n9) _ _)).trans (Clu.needT_eq (Clu.inR_nat (k := .i64) n10) _ _)).trans (Clu.needT_eq (Clu.inR_nat (k := .i64) n11) _ _)) rfl rfl rfl (by decide) rfl (by simp [Clu.Blk.und, Clu.AV.und, Clu.AV.unds, hr, hu]) rfl (Clu.newH_ro rfl) (by simp [Clu.AV.und, Clu.AV.unds, Clu.AV.cells, Clu.unds_splice, hr, hu])
set_option maxRecDepth 10000000 in
theorem plF_raw (n N : Nat) (cs : List Clu.AV) : (Clu.layK [] .e fun h => Clu.runL (Clu.addL (Clu.noL) (Clu.loopNo Try.f42 0) 3 (Clu.loopM [3000016] Try.prog (Clu.loopNo Try.f42 0) [0, 2, 3, 4] [8] [] [1000, 1001] (fun _ bl _ => match bl with | [(1000, .c rs 0 0 (some 57)), _] => .leaf (2, [2, 3], [.p 1000 0, .p 1001 0], [(1000, .c rs 0 0 (some 57)), (1001, .c cs 0 0 (some 57))], 1002) | _ => .fail))) Try.prog (Clu.tell (Clu.noX) 42 3000016) (1000) 1000 42 [.s n N] h 1000) = Clu.needP ((Clu.loopNo Try.f42 0) = (Clu.loopNo Try.f42 0)) (fun _ => .err 91 0) (fun h600 => Clu.needP (Clu.LoopQ (Try.prog) ((Clu.loopNo Try.f42 0)) (995) (27) (1000) ([(1000, (Clu.Blk.c ((List.replicate 127 (Clu.AV.i IntKind.u8 (Int.ofNat 0))) ++ [(Clu.AV.i IntKind.i64 (Int.ofNat 0))]) 0 0 (Option.some 57))), (1001, (Clu.Blk.c ((List.replicate 127 (Clu.AV.i IntKind.u8 (Int.ofNat 0))) ++ [(Clu.AV.i IntKind.i64 (Int.ofNat 0))]) 0 0 (Option.some 57)))]) (1002) (2) ([0, 2, 3, 4]) ([(Clu.AV.s n N), (Clu.AV.p 1000 0), (Clu.AV.p 1001 0), (Clu.AV.i IntKind.i64 (Int.ofNat 0))]) ([8]) ([2, 3]) ([(Clu.AV.p 1000 0), (Clu.AV.p 1001 0)]) ([(1000, (Clu.Blk.c ((List.replicate 127 (Clu.AV.i IntKind.u8 (Int.ofNat 0))) ++ [(Clu.AV.i IntKind.i64 (Int.ofNat 0))]) 0 0 (Option.some 57))), (1001, (Clu.Blk.c cs 0 0 (Option.some 57)))]) (1002)) (fun _ => .err 93 1) (fun h599 => Clu.needT ((Nat.ble 128 (List.length (List.drop 0 cs)))) (.err 1 0) (Clu.needT ((Nat.beq ((List.length (List.take 128 (List.drop 0 cs))) + 0) 128)) (.err 40 1) (Clu.needT ((Clu.allOne (List.take 128 (List.drop 0 cs)))) (.err 13 1) (Clu.needT ((Nat.ble (0 + (List.length (List.take 128 (List.drop 0 cs)))) 128)) (.err 7 0) (Clu.needT ((Nat.ble 128 (List.length (List.drop 0 (Clu.splice ((List.replicate 127 (Clu.AV.i IntKind.u8 (Int.ofNat 0))) ++ [(Clu.AV.i IntKind.i64 (Int.ofNat 0))]) 0 (List.take 128 (List.drop 0 cs))))))) (.err 1 0) ((Clu.Out.ok (Clu.AV.ag (List.take 128 (List.drop 0 (Clu.splice ((List.replicate 127 (Clu.AV.i IntKind.u8 (Int.ofNat 0))) ++ [(Clu.AV.i IntKind.i64 (Int.ofNat 0))]) 0 (List.take 128 (List.drop 0 cs)))))))))))))) := by kernel_rfl
set_option linter.unusedVariables false in
theorem plF_0 (n N : Nat) (cs : List Clu.AV) (hf : Clu.AV.flts cs = true) (p_h599 : Clu.LoopQ (Try.prog) ((Clu.loopNo Try.f42 0)) (995) (27) (1000) ([(1000, (Clu.Blk.c ((List.replicate 127 (Clu.AV.i IntKind.u8 (Int.ofNat 0))) ++ [(Clu.AV.i IntKind.i64 (Int.ofNat 0))]) 0 0 (Option.some 57))), (1001, (Clu.Blk.c ((List.replicate 127 (Clu.AV.i IntKind.u8 (Int.ofNat 0))) ++ [(Clu.AV.i IntKind.i64 (Int.ofNat 0))]) 0 0 (Option.some 57)))]) (1002) (2) ([0, 2, 3, 4]) ([(Clu.AV.s n N), (Clu.AV.p 1000 0), (Clu.AV.p 1001 0), (Clu.AV.i IntKind.i64 (Int.ofNat 0))]) ([8]) ([2, 3]) ([(Clu.AV.p 1000 0), (Clu.AV.p 1001 0)]) ([(1000, (Clu.Blk.c ((List.replicate 127 (Clu.AV.i IntKind.u8 (Int.ofNat 0))) ++ [(Clu.AV.i IntKind.i64 (Int.ofNat 0))]) 0 0 (Option.some 57))), (1001, (Clu.Blk.c cs 0 0 (Option.some 57)))]) (1002)) (n1 : 128 ≤ (List.length (List.drop 0 cs)) := by first | omega | (simp; omega)) (n2 : ((List.length (List.take 128 (List.drop 0 cs))) + 0) = 128 := by first | omega | (simp; omega)) (n3 : (Clu.allOne (List.take 128 (List.drop 0 cs))) = true) (n4 : (0 + (List.length (List.take 128 (List.drop 0 cs)))) ≤ 128 := by first | omega | (simp; omega)) (n5 : 128 ≤ (List.length (List.drop 0 (Clu.splice ((List.replicate 127 (Clu.AV.i IntKind.u8 (Int.ofNat 0))) ++ [(Clu.AV.i IntKind.i64 (Int.ofNat 0))]) 0 (List.take 128 (List.drop 0 cs))))) := by first | omega | (simp; omega)) : Clu.Fact Try.prog 42 [] [.s n N] (Clu.AV.ag (List.take 128 (List.drop 0 (Clu.splice ((List.replicate 127 (Clu.AV.i IntKind.u8 (Int.ofNat 0))) ++ [(Clu.AV.i IntKind.i64 (Int.ofNat 0))]) 0 (List.take 128 (List.drop 0 cs)))))) :=
  Clu.factL Clu.plain (Clu.tell_ok (Clu.noX_ok)) Clu.mixed (Clu.addL_ok (Clu.noL_ok) Clu.loopM_ok) (((((((((plF_raw n N cs)).trans (Clu.needP_eq rfl _ _)).trans (Clu.needP_eq p_h599 _ _)).trans (Clu.needT_eq (Clu.ble_iff.2 n1) _ _)).trans (Clu.needT_eq (Clu.beq_iff.2 n2) _ _)).trans (Clu.needT_eq (n3) _ _)).trans (Clu.needT_eq (Clu.ble_iff.2 n4) _ _)).trans (Clu.needT_eq (Clu.ble_iff.2 n5) _ _)) rfl (show Clu.AV.flts _ = true from Clu.flts_take _ (Clu.flts_drop _ (Clu.flts_splice (by decide) (Clu.flts_take _ (Clu.flts_drop _ hf)))))
set_option maxRecDepth 10000000 in
theorem feC_raw (n N i : Nat) (cs : List Clu.AV) : (Clu.runC (Clu.noL) Try.prog (Clu.tell (Clu.noX) 44 0) (1000) 1000 44 (.p 1000 0 :: [.s n N, .i .i64 (.ofNat i)]) (Clu.mkH (Clu.mkH .e (Clu.layB [])) [(1000, .c (cs) 0 0 (some 57))]) 1001 [(1000, 0, 0, some 57)]) = Clu.needT ((Clu.isI IntKind.i64 (Clu.getL cs 127))) (.err 8 3) (Clu.needT ((Clu.inR IntKind.i64 ((Clu.iZ (Clu.getL cs 127)) - (Int.ofNat i)))) (.err 10 20) (Clu.needI (((Clu.iZ (Clu.getL cs 127)) - (Int.ofNat i))) (fun _ => .err 22 1) (fun n598 => Clu.needT ((Nat.blt n598 127)) (.err 22 0) (Clu.needT ((Clu.isU IntKind.u8 (Clu.getL cs (0 + (n598 * 1))))) (.err 8 4) (Clu.needT ((Clu.inR IntKind.i64 (Int.ofNat (Clu.iN (Clu.getL cs (0 + (n598 * 1))))))) (.err 10 20) (Clu.needT ((Clu.inR IntKind.i64 (Int.ofNat ((Clu.iN (Clu.getL cs (0 + (n598 * 1)))) + 1)))) (.err 10 20) (Clu.needT ((Clu.inR IntKind.i64 (Int.ofNat ((Clu.iN (Clu.getL cs (0 + (n598 * 1)))) + 1)))) (.err 10 20) (Clu.needT ((Nat.blt (Clu.iN (Clu.getL cs (0 + (n598 * 1)))) n)) (.err 22 6) (Clu.needT ((Clu.inR IntKind.i64 (Int.ofNat (Clu.byteN N (Clu.iN (Clu.getL cs (0 + (n598 * 1)))))))) (.err 10 20) (Clu.needT ((Clu.inR IntKind.i64 (Int.ofNat (((Clu.iN (Clu.getL cs (0 + (n598 * 1)))) + 1) + (Clu.byteN N (Clu.iN (Clu.getL cs (0 + (n598 * 1))))))))) (.err 10 20) (Clu.needT ((Nat.ble (((Clu.iN (Clu.getL cs (0 + (n598 * 1)))) + 1) + (Clu.byteN N (Clu.iN (Clu.getL cs (0 + (n598 * 1)))))) n)) (.err 20 0) (Clu.needT ((Nat.ble ((Clu.iN (Clu.getL cs (0 + (n598 * 1)))) + 1) (((Clu.iN (Clu.getL cs (0 + (n598 * 1)))) + 1) + (Clu.byteN N (Clu.iN (Clu.getL cs (0 + (n598 * 1)))))))) (.err 20 0) ((Clu.Out.ok (Clu.AV.tu [(Clu.AV.s ((((Clu.iN (Clu.getL cs (0 + (n598 * 1)))) + 1) + (Clu.byteN N (Clu.iN (Clu.getL cs (0 + (n598 * 1)))))) - ((Clu.iN (Clu.getL cs (0 + (n598 * 1)))) + 1)) (Clu.maskN ((((Clu.iN (Clu.getL cs (0 + (n598 * 1)))) + 1) + (Clu.byteN N (Clu.iN (Clu.getL cs (0 + (n598 * 1)))))) - ((Clu.iN (Clu.getL cs (0 + (n598 * 1)))) + 1)) (Nat.shiftRight N (8 * ((Clu.iN (Clu.getL cs (0 + (n598 * 1)))) + 1))))), (Clu.AV.ag cs)]))))))))))))))) := by kernel_rfl
set_option linter.unusedVariables false in
theorem feC_0 (n N i : Nat) (cs : List Clu.AV) (hf : Clu.AV.flts cs = true) (n1 : (Clu.isI IntKind.i64 (Clu.getL cs 127)) = true) (n2 : -9223372036854775808 ≤ ((Clu.iZ (Clu.getL cs 127)) - ((i : Nat) : Int)) ∧ ((Clu.iZ (Clu.getL cs 127)) - ((i : Nat) : Int)) < 9223372036854775808 := by omega) (n598 : Nat) (e_n598 : ((Clu.iZ (Clu.getL cs 127)) - (Int.ofNat i)) = Int.ofNat n598) (n3 : n598 < 127 := by omega) (n4 : (Clu.isU IntKind.u8 (Clu.getL cs (0 + (n598 * 1)))) = true) (n5 : (Clu.iN (Clu.getL cs (0 + (n598 * 1)))) < 9223372036854775808 := by omega) (n6 : ((Clu.iN (Clu.getL cs (0 + (n598 * 1)))) + 1) < 9223372036854775808 := by omega) (n7 : ((Clu.iN (Clu.getL cs (0 + (n598 * 1)))) + 1) < 9223372036854775808 := by omega) (n8 : (Clu.iN (Clu.getL cs (0 + (n598 * 1)))) < n := by omega) (n9 : (Clu.byteN N (Clu.iN (Clu.getL cs (0 + (n598 * 1))))) < 9223372036854775808 := by omega) (n10 : (((Clu.iN (Clu.getL cs (0 + (n598 * 1)))) + 1) + (Clu.byteN N (Clu.iN (Clu.getL cs (0 + (n598 * 1)))))) < 9223372036854775808 := by omega) (n11 : (((Clu.iN (Clu.getL cs (0 + (n598 * 1)))) + 1) + (Clu.byteN N (Clu.iN (Clu.getL cs (0 + (n598 * 1)))))) ≤ n := by omega) (n12 : ((Clu.iN (Clu.getL cs (0 + (n598 * 1)))) + 1) ≤ (((Clu.iN (Clu.getL cs (0 + (n598 * 1)))) + 1) + (Clu.byteN N (Clu.iN (Clu.getL cs (0 + (n598 * 1)))))) := by omega) : Clu.PtrOK Try.prog 44 57 [] (cs) [.s n N, .i .i64 (.ofNat i)] (Clu.AV.s ((((Clu.iN (Clu.getL cs (0 + (n598 * 1)))) + 1) + (Clu.byteN N (Clu.iN (Clu.getL cs (0 + (n598 * 1)))))) - ((Clu.iN (Clu.getL cs (0 + (n598 * 1)))) + 1)) (Clu.maskN ((((Clu.iN (Clu.getL cs (0 + (n598 * 1)))) + 1) + (Clu.byteN N (Clu.iN (Clu.getL cs (0 + (n598 * 1)))))) - ((Clu.iN (Clu.getL cs (0 + (n598 * 1)))) + 1)) (Nat.shiftRight N (8 * ((Clu.iN (Clu.getL cs (0 + (n598 * 1)))) + 1))))) (cs) :=
  have h := Clu.con_of (v := (Clu.AV.s ((((Clu.iN (Clu.getL cs (0 + (n598 * 1)))) + 1) + (Clu.byteN N (Clu.iN (Clu.getL cs (0 + (n598 * 1)))))) - ((Clu.iN (Clu.getL cs (0 + (n598 * 1)))) + 1)) (Clu.maskN ((((Clu.iN (Clu.getL cs (0 + (n598 * 1)))) + 1) + (Clu.byteN N (Clu.iN (Clu.getL cs (0 + (n598 * 1)))))) - ((Clu.iN (Clu.getL cs (0 + (n598 * 1)))) + 1)) (Nat.shiftRight N (8 * ((Clu.iN (Clu.getL cs (0 + (n598 * 1)))) + 1)))))) (cs := [cs]) (hs := [(1000, 0, 0, some 57)]) (bl0 := [(1000, .c (cs) 0 0 (some 57))]) (gl := Clu.layB []) Clu.plain (Clu.tell_ok (Clu.noX_ok)) (Clu.drK_ok Clu.mixed) (Clu.noL_ok) (((((((((((((((feC_raw n N i cs)).trans (Clu.needT_eq (n1) _ _)).trans (Clu.needT_eq (Clu.inR_int (k := .i64) (half := 9223372036854775808) rfl n2) _ _)).trans (Clu.needI_eq e_n598 _ _)).trans (Clu.needT_eq (Clu.blt_iff.2 n3) _ _)).trans (Clu.needT_eq (n4) _ _)).trans (Clu.needT_eq (Clu.inR_nat (k := .i64) n5) _ _)).trans (Clu.needT_eq (Clu.inR_nat (k := .i64) n6) _ _)).trans (Clu.needT_eq (Clu.inR_nat (k := .i64) n7) _ _)).trans (Clu.needT_eq (Clu.blt_iff.2 n8) _ _)).trans (Clu.needT_eq (Clu.inR_nat (k := .i64) n9) _ _)).trans (Clu.needT_eq (Clu.inR_nat (k := .i64) n10) _ _)).trans (Clu.needT_eq (Clu.ble_iff.2 n11) _ _)).trans (Clu.needT_eq (Clu.ble_iff.2 n12) _ _)) (Clu.layB_bs rfl (by decide) (by decide)) (by decide) rfl (by simp [Clu.Blk.und, Clu.AV.und, Clu.AV.unds, Clu.flts_unds, hf]) rfl (Clu.newH_ro rfl) (by simp [Clu.AV.und, Clu.AV.unds, Clu.unds_splice, Clu.flts_unds, hf])
  ⟨rfl, by first | exact hf | simp [Clu.AV.flts, Clu.AV.flt, hf], by first | exact hf | simp [Clu.AV.flts, Clu.AV.flt, Clu.flts_splice, hf], h.1, h.2⟩
set_option maxRecDepth 10000000 in
theorem cmR_raw (fo : List Clu.AV → Nat → Nat → Nat → Bool) (fl fb : List Clu.AV → Nat → Nat → Nat → Nat) (n N m M i : Nat) (cp cq : List Clu.AV) (os : Nat → Option Clu.AV) : Clu.evL (Clu.noL) Try.prog (Clu.tell (Clu.tell (Clu.addB Clu.noX 44 (Clu.ptrB (feB fo) 57 [] (feF fl fb))) 43 0) 51 0) 50 53 1000 (Clu.loopNo Try.f26 0) (Clu.tellF [3000024, 3000032, 3000058, 3000068, 3000090] (Clu.mkFr 53 (Clu.std [0, 1, 5, 6, 7] [.s n N, .s m M, .p 1000 0, .p 1001 0, .i .i64 (.ofNat i)] [10, 11, 12, 14, 15, 16, 28, 29, 33, 34, 45] os))) (Clu.mkH (Clu.mkH .e (Clu.layB [])) [(1000, .c cp 0 0 (some 57)), (1001, .c cq 0 0 (some 57))]) 1002 (Clu.finM 53 1002 [10, 11, 12, 14, 15, 16, 28, 29, 33, 34, 45] 0 [(0, [0, 1, 5, 6, 7], [(1000, 0, 0, (some 57)), (1001, 0, 0, (some 57))], none), (1, [4], [(1000, 0, 0, (some 57)), (1001, 0, 0, (some 57))], none), (2, [5, 6], [(1000, 0, 0, (some 57)), (1001, 0, 0, (some 57))], none)]) = Clu.needT ((Clu.isI IntKind.i64 (Clu.getL cp 127))) (.err 8 3) (Clu.forkB ((Bool.not (Clu.iLt (Clu.iZ (Clu.getL cp 127)) (Int.ofNat i)))) (Clu.needT ((Clu.flatB (os 10))) (.err 90 1) (Clu.needT ((Clu.flatB (os 11))) (.err 90 1) (Clu.needT ((Clu.flatB (os 12))) (.err 90 1) (Clu.needT ((Clu.flatB (os 14))) (.err 90 1) (Clu.needT ((Clu.flatB (os 15))) (.err 90 1) (Clu.needT ((Clu.flatB (os 16))) (.err 90 1) (Clu.needT ((Clu.flatB (os 45))) (.err 90 1) ((Clu.Out.ok (Clu.AV.tu [(Clu.AV.i IntKind.i64 (Int.ofNat 2)), (Clu.AV.p 1000 0), (Clu.AV.p 1001 0), (Clu.AV.ag cp), (Clu.AV.ag cq)])))))))))) (Clu.needT ((Clu.isI IntKind.i64 (Clu.getL cq 127))) (.err 8 3) (Clu.forkB ((Bool.not (Clu.iLt (Clu.iZ (Clu.getL cq 127)) (Int.ofNat i)))) (Clu.needT ((Clu.flatB (os 10))) (.err 90 1) (Clu.needT ((Clu.flatB (os 11))) (.err 90 1) (Clu.needT ((Clu.flatB (os 12))) (.err 90 1) (Clu.needT ((Clu.flatB (os 14))) (.err 90 1) (Clu.needT ((Clu.flatB (os 15))) (.err 90 1) (Clu.needT ((Clu.flatB (os 16))) (.err 90 1) (Clu.needT ((Clu.flatB (os 45))) (.err 90 1) ((Clu.Out.ok (Clu.AV.tu [(Clu.AV.i IntKind.i64 (Int.ofNat 2)), (Clu.AV.p 1000 0), (Clu.AV.p 1001 0), (Clu.AV.ag cp), (Clu.AV.ag cq)])))))))))) (Clu.needT ((fo cp n N i)) (.err 95 4) (Clu.needT ((fo cq m M i)) (.err 95 4) (Clu.forkB ((Clu.eqNs (fl cp n N i) (fb cp n N i) (fl cq m M i) (fb cq m M i))) (Clu.forkB ((Clu.ltS (fl cp n N i) (fb cp n N i) (fl cq m M i) (fb cq m M i))) (Clu.needT ((Clu.flatB (os 10))) (.err 90 1) (Clu.needT ((Clu.flatB (os 11))) (.err 90 1) (Clu.needT ((Clu.flatB (os 12))) (.err 90 1) (Clu.needT ((Clu.flatB (os 14))) (.err 90 1) (Clu.needT ((Clu.flatB (os 15))) (.err 90 1) (Clu.needT ((Clu.flatB (os 16))) (.err 90 1) ((Clu.Out.ok (Clu.AV.tu [(Clu.AV.i IntKind.i64 (Int.ofNat 1)), (Clu.AV.i IntKind.i64 (Int.ofNat 1)), (Clu.AV.ag cp), (Clu.AV.ag cq)]))))))))) (Clu.needT ((Clu.flatB (os 10))) (.err 90 1) (Clu.needT ((Clu.flatB (os 11))) (.err 90 1) (Clu.needT ((Clu.flatB (os 12))) (.err 90 1) (Clu.needT ((Clu.flatB (os 14))) (.err 90 1) (Clu.needT ((Clu.flatB (os 15))) (.err 90 1) (Clu.needT ((Clu.flatB (os 16))) (.err 90 1) ((Clu.Out.ok (Clu.AV.tu [(Clu.AV.i IntKind.i64 (Int.ofNat 1)), (Clu.AV.i IntKind.i64 (Int.negSucc 0)), (Clu.AV.ag cp), (Clu.AV.ag cq)])))))))))) (Clu.needT ((Clu.inR IntKind.i64 (Int.ofNat (i + 1)))) (.err 10 20) (Clu.needT ((Clu.flatB (os 10))) (.err 90 1) (Clu.needT ((Clu.flatB (os 11))) (.err 90 1) (Clu.needT ((Clu.flatB (os 12))) (.err 90 1) (Clu.needT ((Clu.flatB (os 14))) (.err 90 1) (Clu.needT ((Clu.flatB (os 15))) (.err 90 1) (Clu.needT ((Clu.flatB (os 16))) (.err 90 1) ((Clu.Out.ok (Clu.AV.tu [(Clu.AV.i IntKind.i64 (Int.ofNat 0)), (Clu.AV.s n N), (Clu.AV.s m M), (Clu.AV.p 1000 0), (Clu.AV.p 1001 0), (Clu.AV.i IntKind.i64 (Int.ofNat (i + 1))), (Clu.AV.ag cp), (Clu.AV.ag cq)])))))))))))))))) := by kernel_rfl
set_option linter.unusedVariables false in
theorem cmR_0 (fo : List Clu.AV → Nat → Nat → Nat → Bool) (fl fb : List Clu.AV → Nat → Nat → Nat → Nat) (n N m M i : Nat) (cp cq : List Clu.AV) (os : Nat → Option Clu.AV) (hos : ∀ t, Clu.flatB (os t) = true) (hX : Clu.XOK Try.prog (Clu.addB Clu.noX 44 (Clu.ptrB (feB fo) 57 [] (feF fl fb)))) (hp : Clu.AV.unds 1002 cp = true) (hq : Clu.AV.unds 1002 cq = true) (n1 : (Clu.isI IntKind.i64 (Clu.getL cp 127)) = true) (c1 : (Clu.iZ (Clu.getL cp 127)) < ((i : Nat) : Int)) : ∃ os' : Nat → Option Clu.AV, (∀ t, Clu.flatB (os' t) = true) ∧ Clu.RunE Try.prog 50 (Clu.loopNo Try.f26 0) 53 1000 (Clu.mkFr 53 (Clu.std [0, 1, 5, 6, 7] [.s n N, .s m M, .p 1000 0, .p 1001 0, .i .i64 (.ofNat i)] [10, 11, 12, 14, 15, 16, 28, 29, 33, 34, 45] os)) (Clu.mkH .e ([(1000, .c cp 0 0 (some 57)), (1001, .c cq 0 0 (some 57))] ++ (Clu.layB []))) 1002 (Clu.exOf 2) (Clu.mkFr 53 (Clu.std [5, 6] [(Clu.AV.p 1000 0), (Clu.AV.p 1001 0)] [10, 11, 12, 14, 15, 16, 28, 29, 33, 34, 45] os')) (Clu.mkH .e ([(1000, .c cp 0 0 (some 57)), (1001, .c cq 0 0 (some 57))] ++ (Clu.layB []))) 1002 :=
  Clu.segM (vs := [(Clu.AV.p 1000 0), (Clu.AV.p 1001 0)]) (cs := [cp, cq]) 2 2 [5, 6] [(1000, 0, 0, (some 57)), (1001, 0, 0, (some 57))] (Clu.evL_ok Clu.plain (Clu.tell_ok (Clu.tell_ok (hX))) (Clu.drK_ok Clu.mixed) (Clu.noL_ok) 50) (Clu.layB_bs rfl (by decide) (by decide)) hos (((((((((((cmR_raw fo fl fb n N m M i cp cq os)).trans (Clu.needT_eq (n1) _ _)).trans (Clu.forkB_f (congrArg not (Clu.iLt_t c1)) _ _)).trans (Clu.needT_eq (hos _) _ _)).trans (Clu.needT_eq (hos _) _ _)).trans (Clu.needT_eq (hos _) _ _)).trans (Clu.needT_eq (hos _) _ _)).trans (Clu.needT_eq (hos _) _ _)).trans (Clu.needT_eq (hos _) _ _)).trans (Clu.needT_eq (hos _) _ _)) rfl rfl rfl (by decide) rfl (by simp [Clu.Blk.und, Clu.AV.und, Clu.AV.unds, hp, hq]) rfl (Clu.newH_ro rfl) (by simp [Clu.AV.und, Clu.AV.unds, Clu.AV.cells, Clu.unds_splice, hp, hq])
set_option linter.unusedVariables false in
theorem cmR_1 (fo : List Clu.AV → Nat → Nat → Nat → Bool) (fl fb : List Clu.AV → Nat → Nat → Nat → Nat) (n N m M i : Nat) (cp cq : List Clu.AV) (os : Nat → Option Clu.AV) (hos : ∀ t, Clu.flatB (os t) = true) (hX : Clu.XOK Try.prog (Clu.addB Clu.noX 44 (Clu.ptrB (feB fo) 57 [] (feF fl fb)))) (hp : Clu.AV.unds 1002 cp = true) (hq : Clu.AV.unds 1002 cq = true) (n1 : (Clu.isI IntKind.i64 (Clu.getL cp 127)) = true) (c1 : ((i : Nat) : Int) ≤ (Clu.iZ (Clu.getL cp 127))) (n2 : (Clu.isI IntKind.i64 (Clu.getL cq 127)) = true) (c2 : (Clu.iZ (Clu.getL cq 127)) < ((i : Nat) : Int)) : ∃ os' : Nat → Option Clu.AV, (∀ t, Clu.flatB (os' t) = true) ∧ Clu.RunE Try.prog 50 (Clu.loopNo Try.f26 0) 53 1000 (Clu.mkFr 53 (Clu.std [0, 1, 5, 6, 7] [.s n N, .s m M, .p 1000 0, .p 1001 0, .i .i64 (.ofNat i)] [10, 11, 12, 14, 15, 16, 28, 29, 33, 34, 45] os)) (Clu.mkH .e ([(1000, .c cp 0 0 (some 57)), (1001, .c cq 0 0 (some 57))] ++ (Clu.layB []))) 1002 (Clu.exOf 2) (Clu.mkFr 53 (Clu.std [5, 6] [(Clu.AV.p 1000 0), (Clu.AV.p 1001 0)] [10, 11, 12, 14, 15, 16, 28, 29, 33, 34, 45] os')) (Clu.mkH .e ([(1000, .c cp 0 0 (some 57)), (1001, .c cq 0 0 (some 57))] ++ (Clu.layB []))) 1002 :=
  Clu.segM (vs := [(Clu.AV.p 1000 0), (Clu.AV.p 1001 0)]) (cs := [cp, cq]) 2 2 [5, 6] [(1000, 0, 0, (some 57)), (1001, 0, 0, (some 57))] (Clu.evL_ok Clu.plain (Clu.tell_ok (Clu.tell_ok (hX))) (Clu.drK_ok Clu.mixed) (Clu.noL_ok) 50) (Clu.layB_bs rfl (by decide) (by decide)) hos (((((((((((((cmR_raw fo fl fb n N m M i cp cq os)).trans (Clu.needT_eq (n1) _ _)).trans (Clu.forkB_t (congrArg not (Clu.iLt_f c1)) _ _)).trans (Clu.needT_eq (n2) _ _)).trans (Clu.forkB_f (congrArg not (Clu.iLt_t c2)) _ _)).trans (Clu.needT_eq (hos _) _ _)).trans (Clu.needT_eq (hos _) _ _)).trans (Clu.needT_eq (hos _) _ _)).trans (Clu.needT_eq (hos _) _ _)).trans (Clu.needT_eq (hos _) _ _)).trans (Clu.needT_eq (hos _) _ _)).trans (Clu.needT_eq (hos _) _ _)) rfl rfl rfl (by decide) rfl (by simp [Clu.Blk.und, Clu.AV.und, Clu.AV.unds, hp, hq]) rfl (Clu.newH_ro rfl) (by simp [Clu.AV.und, Clu.AV.unds, Clu.AV.cells, Clu.unds_splice, hp, hq])
set_option linter.unusedVariables false in
theorem cmR_2 (fo : List Clu.AV → Nat → Nat → Nat → Bool) (fl fb : List Clu.AV → Nat → Nat → Nat → Nat) (n N m M i : Nat) (cp cq : List Clu.AV) (os : Nat → Option Clu.AV) (hos : ∀ t, Clu.flatB (os t) = true) (hX : Clu.XOK Try.prog (Clu.addB Clu.noX 44 (Clu.ptrB (feB fo) 57 [] (feF fl fb)))) (hp : Clu.AV.unds 1002 cp = true) (hq : Clu.AV.unds 1002 cq = true) (n1 : (Clu.isI IntKind.i64 (Clu.getL cp 127)) = true) (c1 : ((i : Nat) : Int) ≤ (Clu.iZ (Clu.getL cp 127))) (n2 : (Clu.isI IntKind.i64 (Clu.getL cq 127)) = true) (c2 : ((i : Nat) : Int) ≤ (Clu.iZ (Clu.getL cq 127))) (n3 : (fo cp n N i) = true) (n4 : (fo cq m M i) = true) (c3 : (Clu.eqNs (fl cp n N i) (fb cp n N i) (fl cq m M i) (fb cq m M i)) = false) (c4 : (Clu.ltS (fl cp n N i) (fb cp n N i) (fl cq m M i) (fb cq m M i)) = false) : ∃ os' : Nat → Option Clu.AV, (∀ t, Clu.flatB (os' t) = true) ∧ Clu.RunE Try.prog 50 (Clu.loopNo Try.f26 0) 53 1000 (Clu.mkFr 53 (Clu.std [0, 1, 5, 6, 7] [.s n N, .s m M, .p 1000 0, .p 1001 0, .i .i64 (.ofNat i)] [10, 11, 12, 14, 15, 16, 28, 29, 33, 34, 45] os)) (Clu.mkH .e ([(1000, .c cp 0 0 (some 57)), (1001, .c cq 0 0 (some 57))] ++ (Clu.layB []))) 1002 (Clu.exOf 1) (Clu.mkFr 53 (Clu.std [4] [(Clu.AV.i IntKind.i64 (Int.ofNat 1))] [10, 11, 12, 14, 15, 16, 28, 29, 33, 34, 45] os')) (Clu.mkH .e ([(1000, .c cp 0 0 (some 57)), (1001, .c cq 0 0 (some 57))] ++ (Clu.layB []))) 1002 :=
  Clu.segM (vs := [(Clu.AV.i IntKind.i64 (Int.ofNat 1))]) (cs := [cp, cq]) 1 1 [4] [(1000, 0, 0, (some 57)), (1001, 0, 0, (some 57))] (Clu.evL_ok Clu.plain (Clu.tell_ok (Clu.tell_ok (hX))) (Clu.drK_ok Clu.mixed) (Clu.noL_ok) 50) (Clu.layB_bs rfl (by decide) (by decide)) hos ((((((((((((((((cmR_raw fo fl fb n N m M i cp cq os)).trans (Clu.needT_eq (n1) _ _)).trans (Clu.forkB_t (congrArg not (Clu.iLt_f c1)) _ _)).trans (Clu.needT_eq (n2) _ _)).trans (Clu.forkB_t (congrArg not (Clu.iLt_f c2)) _ _)).trans (Clu.needT_eq (n3) _ _)).trans (Clu.needT_eq (n4) _ _)).trans (Clu.forkB_f (c3) _ _)).trans (Clu.forkB_f (c4) _ _)).trans (Clu.needT_eq (hos _) _ _)).trans (Clu.needT_eq (hos _) _ _)).trans (Clu.needT_eq (hos _) _ _)).trans (Clu.needT_eq (hos _) _ _)).trans (Clu.needT_eq (hos _) _ _)).trans (Clu.needT_eq (hos _) _ _)) rfl rfl rfl (by decide) rfl (by simp [Clu.Blk.und, Clu.AV.und, Clu.AV.unds, hp, hq]) rfl (Clu.newH_ro rfl) (by simp [Clu.AV.und, Clu.AV.unds, Clu.AV.cells, Clu.unds_splice, hp, hq])
set_option linter.unusedVariables false in
theorem cmR_3 (fo : List Clu.AV → Nat → Nat → Nat → Bool) (fl fb : List Clu.AV → Nat → Nat → Nat → Nat) (n N m M i : Nat) (cp cq : List Clu.AV) (os : Nat → Option Clu.AV) (hos : ∀ t, Clu.flatB (os t) = true) (hX : Clu.XOK Try.prog (Clu.addB Clu.noX 44 (Clu.ptrB (feB fo) 57 [] (feF fl fb)))) (hp : Clu.AV.unds 1002 cp = true) (hq : Clu.AV.unds 1002 cq = true) (n1 : (Clu.isI IntKind.i64 (Clu.getL cp 127)) = true) (c1 : ((i : Nat) : Int) ≤ (Clu.iZ (Clu.getL cp 127))) (n2 : (Clu.isI IntKind.i64 (Clu.getL cq 127)) = true) (c2 : ((i : Nat) : Int) ≤ (Clu.iZ (Clu.getL cq 127))) (n3 : (fo cp n N i) = true) (n4 : (fo cq m M i) = true) (c3 : (Clu.eqNs (fl cp n N i) (fb cp n N i) (fl cq m M i) (fb cq m M i)) = false) (c4 : (Clu.ltS (fl cp n N i) (fb cp n N i) (fl cq m M i) (fb cq m M i)) = true) : ∃ os' : Nat → Option Clu.AV, (∀ t, Clu.flatB (os' t) = true) ∧ Clu.RunE Try.prog 50 (Clu.loopNo Try.f26 0) 53 1000 (Clu.mkFr 53 (Clu.std [0, 1, 5, 6, 7] [.s n N, .s m M, .p 1000 0, .p 1001 0, .i .i64 (.ofNat i)] [10, 11, 12, 14, 15, 16, 28, 29, 33, 34, 45] os)) (Clu.mkH .e ([(1000, .c cp 0 0 (some 57)), (1001, .c cq 0 0 (some 57))] ++ (Clu.layB []))) 1002 (Clu.exOf 1) (Clu.mkFr 53 (Clu.std [4] [(Clu.AV.i IntKind.i64 (Int.negSucc 0))] [10, 11, 12, 14, 15, 16, 28, 29, 33, 34, 45] os')) (Clu.mkH .e ([(1000, .c cp 0 0 (some 57)), (1001, .c cq 0 0 (some 57))] ++ (Clu.layB []))) 1002 :=
  Clu.segM (vs := [(Clu.AV.i IntKind.i64 (Int.negSucc 0))]) (cs := [cp, cq]) 1 1 [4] [(1000, 0, 0, (some 57)), (1001, 0, 0, (some 57))] (Clu.evL_ok Clu.plain (Clu.tell_ok (Clu.tell_ok (hX))) (Clu.drK_ok Clu.mixed) (Clu.noL_ok) 50) (Clu.layB_bs rfl (by decide) (by decide)) hos ((((((((((((((((cmR_raw fo fl fb n N m M i cp cq os)).trans (Clu.needT_eq (n1) _ _)).trans (Clu.forkB_t (congrArg not (Clu.iLt_f c1)) _ _)).trans (Clu.needT_eq (n2) _ _)).trans (Clu.forkB_t (congrArg not (Clu.iLt_f c2)) _ _)).trans (Clu.needT_eq (n3) _ _)).trans (Clu.needT_eq (n4) _ _)).trans (Clu.forkB_f (c3) _ _)).trans (Clu.forkB_t (c4) _ _)).trans (Clu.needT_eq (hos _) _ _)).trans (Clu.needT_eq (hos _) _ _)).trans (Clu.needT_eq (hos _) _ _)).trans (Clu.needT_eq (hos _) _ _)).trans (Clu.needT_eq (hos _) _ _)).trans (Clu.needT_eq (hos _) _ _)) rfl rfl rfl (by decide) rfl (by simp [Clu.Blk.und, Clu.AV.und, Clu.AV.unds, hp, hq]) rfl (Clu.newH_ro rfl) (by simp [Clu.AV.und, Clu.AV.unds, Clu.AV.cells, Clu.unds_splice, hp, hq])
set_option linter.unusedVariables false in
theorem cmR_4 (fo : List Clu.AV → Nat → Nat → Nat → Bool) (fl fb : List Clu.AV → Nat → Nat → Nat → Nat) (n N m M i : Nat) (cp cq : List Clu.AV) (os : Nat → Option Clu.AV) (hos : ∀ t, Clu.flatB (os t) = true) (hX : Clu.XOK Try.prog (Clu.addB Clu.noX 44 (Clu.ptrB (feB fo) 57 [] (feF fl fb)))) (hp : Clu.AV.unds 1002 cp = true) (hq : Clu.AV.unds 1002 cq = true) (n1 : (Clu.isI IntKind.i64 (Clu.getL cp 127)) = true) (c1 : ((i : Nat) : Int) ≤ (Clu.iZ (Clu.getL cp 127))) (n2 : (Clu.isI IntKind.i64 (Clu.getL cq 127)) = true) (c2 : ((i : Nat) : Int) ≤ (Clu.iZ (Clu.getL cq 127))) (n3 : (fo cp n N i) = true) (n4 : (fo cq m M i) = true) (c3 : (Clu.eqNs (fl cp n N i) (fb cp n N i) (fl cq m M i) (fb cq m M i)) = true) (n5 : (i + 1) < 9223372036854775808 := by omega) : ∃ os' : Nat → Option Clu.AV, (∀ t, Clu.flatB (os' t) = true) ∧ Clu.RunE Try.prog 50 (Clu.loopNo Try.f26 0) 53 1000 (Clu.mkFr 53 (Clu.std [0, 1, 5, 6, 7] [.s n N, .s m M, .p 1000 0, .p 1001 0, .i .i64 (.ofNat i)] [10, 11, 12, 14, 15, 16, 28, 29, 33, 34, 45] os)) (Clu.mkH .e ([(1000, .c cp 0 0 (some 57)), (1001, .c cq 0 0 (some 57))] ++ (Clu.layB []))) 1002 (Clu.exOf 0) (Clu.mkFr 53 (Clu.std [0, 1, 5, 6, 7] [(Clu.AV.s n N), (Clu.AV.s m M), (Clu.AV.p 1000 0), (Clu.AV.p 1001 0), (Clu.AV.i IntKind.i64 (Int.ofNat (i + 1)))] [10, 11, 12, 14, 15, 16, 28, 29, 33, 34, 45] os')) (Clu.mkH .e ([(1000, .c cp 0 0 (some 57)), (1001, .c cq 0 0 (some 57))] ++ (Clu.layB []))) 1002 :=
  Clu.segM (vs := [(Clu.AV.s n N), (Clu.AV.s m M), (Clu.AV.p 1000 0), (Clu.AV.p 1001 0), (Clu.AV.i IntKind.i64 (Int.ofNat (i + 1)))]) (cs := [cp, cq]) 0 0 [0, 1, 5, 6, 7] [(1000, 0, 0, (some 57)), (1001, 0, 0, (some 57))] (Clu.evL_ok Clu.plain (Clu.tell_ok (Clu.tell_ok (hX))) (Clu.drK_ok Clu.mixed) (Clu.noL_ok) 50) (Clu.layB_bs rfl (by decide) (by decide)) hos ((((((((((((((((cmR_raw fo fl fb n N m M i cp cq os)).trans (Clu.needT_eq (n1) _ _)).trans (Clu.forkB_t (congrArg not (Clu.iLt_f c1)) _ _)).trans (Clu.needT_eq (n2) _ _)).trans (Clu.forkB_t (congrArg not (Clu.iLt_f c2)) _ _)).trans (Clu.needT_eq (n3) _ _)).trans (Clu.needT_eq (n4) _ _)).trans (Clu.forkB_t (c3) _ _)).trans (Clu.needT_eq (Clu.inR_nat (k := .i64) n5) _ _)).trans (Clu.needT_eq (hos _) _ _)).trans (Clu.needT_eq (hos _) _ _)).trans (Clu.needT_eq (hos _) _ _)).trans (Clu.needT_eq (hos _) _ _)).trans (Clu.needT_eq (hos _) _ _)).trans (Clu.needT_eq (hos _) _ _)) rfl rfl rfl (by decide) rfl (by simp [Clu.Blk.und, Clu.AV.und, Clu.AV.unds, hp, hq]) rfl (Clu.newH_ro rfl) (by simp [Clu.AV.und, Clu.AV.unds, Clu.AV.cells, Clu.unds_splice, hp, hq])
set_option maxRecDepth 10000000 in
theorem cmF_raw (lw : Nat → Nat → Nat) (my : Nat → Nat → Bool) (pl : Nat → Nat → List Clu.AV) (sg : Int → Int) (n N m M : Nat) (done : Bool) (z : Int) : (Clu.layK [] .e fun h => Clu.runL (Clu.addL (Clu.noL) (Clu.loopNo Try.f26 0) 6 (Clu.loopM [3000024, 3000032, 3000058, 3000068, 3000090] Try.prog (Clu.loopNo Try.f26 0) [0, 1, 5, 6, 7] [10, 11, 12, 14, 15, 16, 28, 29, 33, 34, 45] [] [1000, 1001] (fun _ bl _ => .fork done (.leaf (2, [5, 6], [.p 1000 0, .p 1001 0], bl, 1002)) (.leaf (1, [4], [.i .i64 z], bl, 1002))))) Try.prog (Clu.tell (Clu.addB (Clu.addB (Clu.addB (Clu.addB Clu.noX 35 (Clu.decH (lowH lw))) 17 (Clu.decH (mayH my))) 42 (Clu.decH (plH my pl))) 45 (Clu.decH (sgH sg))) 26 30000903000068300005830000323000024) (1000) 1000 26 [.s n N, .s m M] h 1000) = Clu.needT ((Nat.blt n 9000000000000000000)) (.err 96 1) (Clu.forkB ((Bool.not (my n N))) (Clu.needT ((Nat.blt m 9000000000000000000)) (.err 96 1) (Clu.forkB ((Bool.not (my m M))) (Clu.needT ((Nat.blt n 9000000000000000000)) (.err 96 1) (Clu.needT ((Nat.blt m 9000000000000000000)) (.err 96 1) (Clu.needT ((my n (lw n N))) (.err 96 1) (Clu.needT ((my m (lw m M))) (.err 96 1) (Clu.needT ((Nat.beq ((List.length (pl n (lw n N))) + 0) 128)) (.err 40 1) (Clu.needT ((Clu.allOne (pl n (lw n N)))) (.err 13 1) (Clu.needT ((Nat.ble (0 + (List.length (pl n (lw n N)))) 128)) (.err 7 0) (Clu.needT ((Nat.beq ((List.length (pl m (lw m M))) + 0) 128)) (.err 40 1) (Clu.needT ((Clu.allOne (pl m (lw m M)))) (.err 13 1) (Clu.needT ((Nat.ble (0 + (List.length (pl m (lw m M)))) 128)) (.err 7 0) (Clu.needP ((Clu.loopNo Try.f26 0) = (Clu.loopNo Try.f26 0)) (fun _ => .err 91 0) (fun h586 => Clu.forkB (done) (Clu.needP (Clu.LoopQ (Try.prog) ((Clu.loopNo Try.f26 0)) (993) (53) (1000) ([(1000, (Clu.Blk.c (Clu.splice ((List.replicate 127 (Clu.AV.i IntKind.u8 (Int.ofNat 0))) ++ [(Clu.AV.i IntKind.i64 (Int.ofNat 0))]) 0 (pl n (lw n N))) 0 0 (Option.some 57))), (1001, (Clu.Blk.c (Clu.splice ((List.replicate 127 (Clu.AV.i IntKind.u8 (Int.ofNat 0))) ++ [(Clu.AV.i IntKind.i64 (Int.ofNat 0))]) 0 (pl m (lw m M))) 0 0 (Option.some 57)))]) (1002) (2) ([0, 1, 5, 6, 7]) ([(Clu.AV.s n (lw n N)), (Clu.AV.s m (lw m M)), (Clu.AV.p 1000 0), (Clu.AV.p 1001 0), (Clu.AV.i IntKind.i64 (Int.ofNat 1))]) ([10, 11, 12, 14, 15, 16, 28, 29, 33, 34, 45]) ([5, 6]) ([(Clu.AV.p 1000 0), (Clu.AV.p 1001 0)]) ([(1000, (Clu.Blk.c (Clu.splice ((List.replicate 127 (Clu.AV.i IntKind.u8 (Int.ofNat 0))) ++ [(Clu.AV.i IntKind.i64 (Int.ofNat 0))]) 0 (pl n (lw n N))) 0 0 (Option.some 57))), (1001, (Clu.Blk.c (Clu.splice ((List.replicate 127 (Clu.AV.i IntKind.u8 (Int.ofNat 0))) ++ [(Clu.AV.i IntKind.i64 (Int.ofNat 0))]) 0 (pl m (lw m M))) 0 0 (Option.some 57)))]) (1002)) (fun _ => .err 93 1) (fun h584 => Clu.needT ((Clu.isI IntKind.i64 (Clu.getL (Clu.splice ((List.replicate 127 (Clu.AV.i IntKind.u8 (Int.ofNat 0))) ++ [(Clu.AV.i IntKind.i64 (Int.ofNat 0))]) 0 (pl n (lw n N))) 127))) (.err 8 3) (Clu.needT ((Clu.isI IntKind.i64 (Clu.getL (Clu.splice ((List.replicate 127 (Clu.AV.i IntKind.u8 (Int.ofNat 0))) ++ [(Clu.AV.i IntKind.i64 (Int.ofNat 0))]) 0 (pl m (lw m M))) 127))) (.err 8 3) (Clu.needT ((Clu.inR IntKind.i64 ((Clu.iZ (Clu.getL (Clu.splice ((List.replicate 127 (Clu.AV.i IntKind.u8 (Int.ofNat 0))) ++ [(Clu.AV.i IntKind.i64 (Int.ofNat 0))]) 0 (pl n (lw n N))) 127)) - (Clu.iZ (Clu.getL (Clu.splice ((List.replicate 127 (Clu.AV.i IntKind.u8 (Int.ofNat 0))) ++ [(Clu.AV.i IntKind.i64 (Int.ofNat 0))]) 0 (pl m (lw m M))) 127))))) (.err 10 20) ((Clu.Out.ok (Clu.AV.i IntKind.i64 (sg ((Clu.iZ (Clu.getL (Clu.splice ((List.replicate 127 (Clu.AV.i IntKind.u8 (Int.ofNat 0))) ++ [(Clu.AV.i IntKind.i64 (Int.ofNat 0))]) 0 (pl n (lw n N))) 127)) - (Clu.iZ (Clu.getL (Clu.splice ((List.replicate 127 (Clu.AV.i IntKind.u8 (Int.ofNat 0))) ++ [(Clu.AV.i IntKind.i64 (Int.ofNat 0))]) 0 (pl m (lw m M))) 127))))))))))) (Clu.needP (Clu.LoopQ (Try.prog) ((Clu.loopNo Try.f26 0)) (993) (53) (1000) ([(1000, (Clu.Blk.c (Clu.splice ((List.replicate 127 (Clu.AV.i IntKind.u8 (Int.ofNat 0))) ++ [(Clu.AV.i IntKind.i64 (Int.ofNat 0))]) 0 (pl n (lw n N))) 0 0 (Option.some 57))), (1001, (Clu.Blk.c (Clu.splice ((List.replicate 127 (Clu.AV.i IntKind.u8 (Int.ofNat 0))) ++ [(Clu.AV.i IntKind.i64 (Int.ofNat 0))]) 0 (pl m (lw m M))) 0 0 (Option.some 57)))]) (1002) (1) ([0, 1, 5, 6, 7]) ([(Clu.AV.s n (lw n N)), (Clu.AV.s m (lw m M)), (Clu.AV.p 1000 0), (Clu.AV.p 1001 0), (Clu.AV.i IntKind.i64 (Int.ofNat 1))]) ([10, 11, 12, 14, 15, 16, 28, 29, 33, 34, 45]) ([4]) ([(Clu.AV.i IntKind.i64 z)]) ([(1000, (Clu.Blk.c (Clu.splice ((List.replicate 127 (Clu.AV.i IntKind.u8 (Int.ofNat 0))) ++ [(Clu.AV.i IntKind.i64 (Int.ofNat 0))]) 0 (pl n (lw n N))) 0 0 (Option.some 57))), (1001, (Clu.Blk.c (Clu.splice ((List.replicate 127 (Clu.AV.i IntKind.u8 (Int.ofNat 0))) ++ [(Clu.AV.i IntKind.i64 (Int.ofNat 0))]) 0 (pl m (lw m M))) 0 0 (Option.some 57)))]) (1002)) (fun _ => .err 93 1) (fun h584 => (Clu.Out.ok (Clu.AV.i IntKind.i64 z)))))))))))))))) ((Clu.Out.ok (Clu.AV.i IntKind.i64 (Int.ofNat 0)))))) ((Clu.Out.ok (Clu.AV.i IntKind.i64 (Int.ofNat 0))))) := by kernel_rfl
set_option linter.unusedVariables false in
theorem cmF_0 (lw : Nat → Nat → Nat) (my : Nat → Nat → Bool) (pl : Nat → Nat → List Clu.AV) (sg : Int → Int) (n N m M : Nat) (done : Bool) (z : Int) (hX : Clu.XOK Try.prog (Clu.addB (Clu.addB (Clu.addB (Clu.addB Clu.noX 35 (Clu.decH (lowH lw))) 17 (Clu.decH (mayH my))) 42 (Clu.decH (plH my pl))) 45 (Clu.decH (sgH sg))))  (n1 : n < 9000000000000000000 := by omega) (c1 : (my n N) = true) (n2 : m < 9000000000000000000 := by omega) (c2 : (my m M) = true) (n3 : n < 9000000000000000000 := by omega) (n4 : m < 9000000000000000000 := by omega) (n5 : (my n (lw n N)) = true) (n6 : (my m (lw m M)) = true) (n7 : ((List.length (pl n (lw n N))) + 0) = 128 := by first | omega | (simp; omega)) (n8 : (Clu.allOne (pl n (lw n N))) = true) (n9 : (0 + (List.length (pl n (lw n N)))) ≤ 128 := by first | omega | (simp; omega)) (n10 : ((List.length (pl m (lw m M))) + 0) = 128 := by first | omega | (simp; omega)) (n11 : (Clu.allOne (pl m (lw m M))) = true) (n12 : (0 + (List.length (pl m (lw m M)))) ≤ 128 := by first | omega | (simp; omega)) (c3 : done = false) (p_h584 : Clu.LoopQ (Try.prog) ((Clu.loopNo Try.f26 0)) (993) (53) (1000) ([(1000, (Clu.Blk.c (Clu.splice ((List.replicate 127 (Clu.AV.i IntKind.u8 (Int.ofNat 0))) ++ [(Clu.AV.i IntKind.i64 (Int.ofNat 0))]) 0 (pl n (lw n N))) 0 0 (Option.some 57))), (1001, (Clu.Blk.c (Clu.splice ((List.replicate 127 (Clu.AV.i IntKind.u8 (Int.ofNat 0))) ++ [(Clu.AV.i IntKind.i64 (Int.ofNat 0))]) 0 (pl m (lw m M))) 0 0 (Option.some 57)))]) (1002) (2) ([0, 1, 5, 6, 7]) ([(Clu.AV.s n (lw n N)), (Clu.AV.s m (lw m M)), (Clu.AV.p 1000 0), (Clu.AV.p 1001 0), (Clu.AV.i IntKind.i64 (Int.ofNat 1))]) ([10, 11, 12, 14, 15, 16, 28, 29, 33, 34, 45]) ([5, 6]) ([(Clu.AV.p 1000 0), (Clu.AV.p 1001 0)]) ([(1000, (Clu.Blk.c (Clu.splice ((List.replicate 127 (Clu.AV.i IntKind.u8 (Int.ofNat 0))) ++ [(Clu.AV.i IntKind.i64 (Int.ofNat 0))]) 0 (pl n (lw n N))) 0 0 (Option.some 57))), (1001, (Clu.Blk.c (Clu.splice ((List.replicate 127 (Clu.AV.i IntKind.u8 (Int.ofNat 0))) ++ [(Clu.AV.i IntKind.i64 (Int.ofNat 0))]) 0 (pl m (lw m M))) 0 0 (Option.some 57)))]) (1002)) (n13 : (Clu.isI IntKind.i64 (Clu.getL (Clu.splice ((List.replicate 127 (Clu.AV.i IntKind.u8 (Int.ofNat 0))) ++ [(Clu.AV.i IntKind.i64 (Int.ofNat 0))]) 0 (pl n (lw n N))) 127)) = true) (n14 : (Clu.isI IntKind.i64 (Clu.getL (Clu.splice ((List.replicate 127 (Clu.AV.i IntKind.u8 (Int.ofNat 0))) ++ [(Clu.AV.i IntKind.i64 (Int.ofNat 0))]) 0 (pl m (lw m M))) 127)) = true) (n15 : -9223372036854775808 ≤ ((Clu.iZ (Clu.getL (Clu.splice ((List.replicate 127 (Clu.AV.i IntKind.u8 (Int.ofNat 0))) ++ [(Clu.AV.i IntKind.i64 (Int.ofNat 0))]) 0 (pl n (lw n N))) 127)) - (Clu.iZ (Clu.getL (Clu.splice ((List.replicate 127 (Clu.AV.i IntKind.u8 (Int.ofNat 0))) ++ [(Clu.AV.i IntKind.i64 (Int.ofNat 0))]) 0 (pl m (lw m M))) 127))) ∧ ((Clu.iZ (Clu.getL (Clu.splice ((List.replicate 127 (Clu.AV.i IntKind.u8 (Int.ofNat 0))) ++ [(Clu.AV.i IntKind.i64 (Int.ofNat 0))]) 0 (pl n (lw n N))) 127)) - (Clu.iZ (Clu.getL (Clu.splice ((List.replicate 127 (Clu.AV.i IntKind.u8 (Int.ofNat 0))) ++ [(Clu.AV.i IntKind.i64 (Int.ofNat 0))]) 0 (pl m (lw m M))) 127))) < 9223372036854775808 := by first | omega | (simp; omega)) : Clu.Fact Try.prog 26 [] [.s n N, .s m M] (Clu.AV.i IntKind.i64 (sg ((Clu.iZ (Clu.getL (Clu.splice ((List.replicate 127 (Clu.AV.i IntKind.u8 (Int.ofNat 0))) ++ [(Clu.AV.i IntKind.i64 (Int.ofNat 0))]) 0 (pl n (lw n N))) 127)) - (Clu.iZ (Clu.getL (Clu.splice ((List.replicate 127 (Clu.AV.i IntKind.u8 (Int.ofNat 0))) ++ [(Clu.AV.i IntKind.i64 (Int.ofNat 0))]) 0 (pl m (lw m M))) 127))))) :=
  Clu.factL Clu.plain (Clu.tell_ok (hX)) Clu.mixed (Clu.addL_ok (Clu.noL_ok) Clu.loopM_ok) ((((((((((((((((((((((cmF_raw lw my pl sg n N m M done z)).trans (Clu.needT_eq (Clu.blt_iff.2 n1) _ _)).trans (Clu.forkB_f (congrArg not (c1)) _ _)).trans (Clu.needT_eq (Clu.blt_iff.2 n2) _ _)).trans (Clu.forkB_f (congrArg not (c2)) _ _)).trans (Clu.needT_eq (Clu.blt_iff.2 n3) _ _)).trans (Clu.needT_eq (Clu.blt_iff.2 n4) _ _)).trans (Clu.needT_eq (n5) _ _)).trans (Clu.needT_eq (n6) _ _)).trans (Clu.needT_eq (Clu.beq_iff.2 n7) _ _)).trans (Clu.needT_eq (n8) _ _)).trans (Clu.needT_eq (Clu.ble_iff.2 n9) _ _)).trans (Clu.needT_eq (Clu.beq_iff.2 n10) _ _)).trans (Clu.needT_eq (n11) _ _)).trans (Clu.needT_eq (Clu.ble_iff.2 n12) _ _)).trans (Clu.needP_eq rfl _ _)).trans (Clu.forkB_f (c3) _ _)).trans (Clu.needP_eq p_h584 _ _)).trans (Clu.needT_eq (n13) _ _)).trans (Clu.needT_eq (n14) _ _)).trans (Clu.needT_eq (Clu.inR_int (k := .i64) (half := 9223372036854775808) rfl n15) _ _)) rfl (rfl)
set_option linter.unusedVariables false in
theorem cmF_1 (lw : Nat → Nat → Nat) (my : Nat → Nat → Bool) (pl : Nat → Nat → List Clu.AV) (sg : Int → Int) (n N m M : Nat) (done : Bool) (z : Int) (hX : Clu.XOK Try.prog (Clu.addB (Clu.addB (Clu.addB (Clu.addB Clu.noX 35 (Clu.decH (lowH lw))) 17 (Clu.decH (mayH my))) 42 (Clu.decH (plH my pl))) 45 (Clu.decH (sgH sg))))  (n1 : n < 9000000000000000000 := by omega) (c1 : (my n N) = true) (n2 : m < 9000000000000000000 := by omega) (c2 : (my m M) = true) (n3 : n < 9000000000000000000 := by omega) (n4 : m < 9000000000000000000 := by omega) (n5 : (my n (lw n N)) = true) (n6 : (my m (lw m M)) = true) (n7 : ((List.length (pl n (lw n N))) + 0) = 128 := by first | omega | (simp; omega)) (n8 : (Clu.allOne (pl n (lw n N))) = true) (n9 : (0 + (List.length (pl n (lw n N)))) ≤ 128 := by first | omega | (simp; omega)) (n10 : ((List.length (pl m (lw m M))) + 0) = 128 := by first | omega | (simp; omega)) (n11 : (Clu.allOne (pl m (lw m M))) = true) (n12 : (0 + (List.length (pl m (lw m M)))) ≤ 128 := by first | omega | (simp; omega)) (c3 : done = true) (p_h584 : Clu.LoopQ (Try.prog) ((Clu.loopNo Try.f26 0)) (993) (53) (1000) ([(1000, (Clu.Blk.c (Clu.splice ((List.replicate 127 (Clu.AV.i IntKind.u8 (Int.ofNat 0))) ++ [(Clu.AV.i IntKind.i64 (Int.ofNat 0))]) 0 (pl n (lw n N))) 0 0 (Option.some 57))), (1001, (Clu.Blk.c (Clu.splice ((List.replicate 127 (Clu.AV.i IntKind.u8 (Int.ofNat 0))) ++ [(Clu.AV.i IntKind.i64 (Int.ofNat 0))]) 0 (pl m (lw m M))) 0 0 (Option.some 57)))]) (1002) (1) ([0, 1, 5, 6, 7]) ([(Clu.AV.s n (lw n N)), (Clu.AV.s m (lw m M)), (Clu.AV.p 1000 0), (Clu.AV.p 1001 0), (Clu.AV.i IntKind.i64 (Int.ofNat 1))]) ([10, 11, 12, 14, 15, 16, 28, 29, 33, 34, 45]) ([4]) ([(Clu.AV.i IntKind.i64 z)]) ([(1000, (Clu.Blk.c (Clu.splice ((List.replicate 127 (Clu.AV.i IntKind.u8 (Int.ofNat 0))) ++ [(Clu.AV.i IntKind.i64 (Int.ofNat 0))]) 0 (pl n (lw n N))) 0 0 (Option.some 57))), (1001, (Clu.Blk.c (Clu.splice ((List.replicate 127 (Clu.AV.i IntKind.u8 (Int.ofNat 0))) ++ [(Clu.AV.i IntKind.i64 (Int.ofNat 0))]) 0 (pl m (lw m M))) 0 0 (Option.some 57)))]) (1002)) : Clu.Fact Try.prog 26 [] [.s n N, .s m M] (Clu.AV.i IntKind.i64 z) :=
  Clu.factL Clu.plain (Clu.tell_ok (hX)) Clu.mixed (Clu.addL_ok (Clu.noL_ok) Clu.loopM_ok) (((((((((((((((((((cmF_raw lw my pl sg n N m M done z)).trans (Clu.needT_eq (Clu.blt_iff.2 n1) _ _)).trans (Clu.forkB_f (congrArg not (c1)) _ _)).trans (Clu.needT_eq (Clu.blt_iff.2 n2) _ _)).trans (Clu.forkB_f (congrArg not (c2)) _ _)).trans (Clu.needT_eq (Clu.blt_iff.2 n3) _ _)).trans (Clu.needT_eq (Clu.blt_iff.2 n4) _ _)).trans (Clu.needT_eq (n5) _ _)).trans (Clu.needT_eq (n6) _ _)).trans (Clu.needT_eq (Clu.beq_iff.2 n7) _ _)).trans (Clu.needT_eq (n8) _ _)).trans (Clu.needT_eq (Clu.ble_iff.2 n9) _ _)).trans (Clu.needT_eq (Clu.beq_iff.2 n10) _ _)).trans (Clu.needT_eq (n11) _ _)).trans (Clu.needT_eq (Clu.ble_iff.2 n12) _ _)).trans (Clu.needP_eq rfl _ _)).trans (Clu.forkB_t (c3) _ _)).trans (Clu.needP_eq p_h584 _ _)) rfl (rfl)
set_option linter.unusedVariables false in
theorem cmF_2 (lw : Nat → Nat → Nat) (my : Nat → Nat → Bool) (pl : Nat → Nat → List Clu.AV) (sg : Int → Int) (n N m M : Nat) (done : Bool) (z : Int) (hX : Clu.XOK Try.prog (Clu.addB (Clu.addB (Clu.addB (Clu.addB Clu.noX 35 (Clu.decH (lowH lw))) 17 (Clu.decH (mayH my))) 42 (Clu.decH (plH my pl))) 45 (Clu.decH (sgH sg))))  (n1 : n < 9000000000000000000 := by omega) (c1 : (my n N) = true) (n2 : m < 9000000000000000000 := by omega) (c2 : (my m M) = false) : Clu.Fact Try.prog 26 [] [.s n N, .s m M] (Clu.AV.i IntKind.i64 (Int.ofNat 0)) :=
  Clu.factL Clu.plain (Clu.tell_ok (hX)) Clu.mixed (Clu.addL_ok (Clu.noL_ok) Clu.loopM_ok) ((((((cmF_raw lw my pl sg n N m M done z)).trans (Clu.needT_eq (Clu.blt_iff.2 n1) _ _)).trans (Clu.forkB_f (congrArg not (c1)) _ _)).trans (Clu.needT_eq (Clu.blt_iff.2 n2) _ _)).trans (Clu.forkB_t (congrArg not (c2)) _ _)) rfl (rfl)
set_option linter.unusedVariables false in
theorem cmF_3 (lw : Nat → Nat → Nat) (my : Nat → Nat → Bool) (pl : Nat → Nat → List Clu.AV) (sg : Int → Int) (n N m M : Nat) (done : Bool) (z : Int) (hX : Clu.XOK Try.prog (Clu.addB (Clu.addB (Clu.addB (Clu.addB Clu.noX 35 (Clu.decH (lowH lw))) 17 (Clu.decH (mayH my))) 42 (Clu.decH (plH my pl))) 45 (Clu.decH (sgH sg))))  (n1 : n < 9000000000000000000 := by omega) (c1 : (my n N) = false) : Clu.Fact Try.prog 26 [] [.s n N, .s m M] (Clu.AV.i IntKind.i64 (Int.ofNat 0)) :=
  Clu.factL Clu.plain (Clu.tell_ok (hX)) Clu.mixed (Clu.addL_ok (Clu.noL_ok) Clu.loopM_ok) ((((cmF_raw lw my pl sg n N m M done z)).trans (Clu.needT_eq (Clu.blt_iff.2 n1) _ _)).trans (Clu.forkB_t (congrArg not (c1)) _ _)) rfl (rfl)
set_option maxRecDepth 10000000 in
theorem sgF_raw (z : Int) : (Clu.layK [] .e fun h => Clu.runL (Clu.noL) Try.prog (Clu.tell (Clu.noX) 45 30000123000006) (1000) 1000 45 [.i .i64 z] h 1000) = Clu.forkB ((Clu.iLt z (Int.ofNat 0))) (Clu.forkB ((Clu.iLt (Int.ofNat 0) z)) ((Clu.Out.ok (Clu.AV.i IntKind.i64 (Int.ofNat 0)))) ((Clu.Out.ok (Clu.AV.i IntKind.i64 (Int.ofNat 1))))) ((Clu.Out.ok (Clu.AV.i IntKind.i64 (Int.negSucc 0)))) := by kernel_rfl
set_option linter.unusedVariables false in
theorem sgF_0 (z : Int)  (c1 : ((0 : Nat) : Int) ≤ z) (c2 : z ≤ ((0 : Nat) : Int)) : Clu.Fact Try.prog 45 [] [.i .i64 z] (Clu.AV.i IntKind.i64 (Int.ofNat 0)) :=
  Clu.factL Clu.plain (Clu.tell_ok (Clu.noX_ok)) Clu.mixed (Clu.noL_ok) ((((sgF_raw z)).trans (Clu.forkB_f (Clu.iLt_f c1) _ _)).trans (Clu.forkB_f (Clu.iLt_f c2) _ _)) rfl (rfl)
set_option linter.unusedVariables false in
theorem sgF_1 (z : Int)  (c1 : ((0 : Nat) : Int) ≤ z) (c2 : ((0 : Nat) : Int) < z) : Clu.Fact Try.prog 45 [] [.i .i64 z] (Clu.AV.i IntKind.i64 (Int.ofNat 1)) :=
  Clu.factL Clu.plain (Clu.tell_ok (Clu.noX_ok)) Clu.mixed (Clu.noL_ok) ((((sgF_raw z)).trans (Clu.forkB_f (Clu.iLt_f c1) _ _)).trans (Clu.forkB_t (Clu.iLt_t c2) _ _)) rfl (rfl)
set_option linter.unusedVariables false in
theorem sgF_2 (z : Int)  (c1 : z < ((0 : Nat) : Int)) : Clu.Fact Try.prog 45 [] [.i .i64 z] (Clu.AV.i IntKind.i64 (Int.negSucc 0)) :=
  Clu.factL Clu.plain (Clu.tell_ok (Clu.noX_ok)) Clu.mixed (Clu.noL_ok) (((sgF_raw z)).trans (Clu.forkB_t (Clu.iLt_t c1) _ _)) rfl (rfl)
/-! places -/
def starts : Nat → List (List Nat) → List Nat
  | _, [] => []
  | a, x :: L => a :: starts (a + (1 + x.length)) L
theorem starts_length : ∀ (a : Nat) (L : List (List Nat)), (starts a L).length = L.length
  | _, [] => rfl
  | a, x :: L => by rw [starts, List.length_cons, starts_length, List.length_cons]
theorem starts_app : ∀ (a : Nat) (K L : List (List Nat)), starts a (K ++ L) = starts a K ++ starts (a + ((wire K).length - 1)) L
  | a, [], L => by rw [List.nil_append]; rfl
  | a, x :: K, L => by
    rw [List.cons_append, starts, starts, starts_app, List.cons_append]
    have := wire_pos K
    have e : (wire (x :: K)).length = x.length + 1 + (wire K).length := by simp [wire]; omega
    rw [e]
    congr 3
    omega
def PC (A : List Nat) (k : Nat) : List Clu.AV := Clu.U8 A ++ [.i .i64 (.ofNat k)]
theorem PC_length (A : List Nat) (k : Nat) : (PC A k).length = A.length + 1 := by unfold PC; rw [List.length_append, Clu.U8_length]; rfl
theorem PC_flts (A : List Nat) (k : Nat) : Clu.AV.flts (PC A k) = true := Clu.flts_all.2 fun a ha => by
  rcases List.mem_append.1 ha with h | h
  · obtain ⟨c, _, rfl⟩ := List.mem_map.1 h; rfl
  · obtain rfl := List.mem_singleton.1 h; rfl
theorem PC_one (A : List Nat) (k : Nat) : Clu.allOne (PC A k) = true := by
  induction A with
  | nil => rfl
  | cons a A ih => exact ih
theorem PC_end {A : List Nat} {k n : Nat} (h : A.length = n) : Clu.getL (PC A k) n = some (.i .i64 (.ofNat k)) := by
  rw [Clu.getL_some]
  unfold PC
  rw [List.getElem?_append_right (by rw [Clu.U8_length]; omega), Clu.U8_length, h, Nat.sub_self]
  rfl
theorem PC_at {A : List Nat} {k i : Nat} (h : i < A.length) : Clu.getL (PC A k) i = some (.i .u8 (.ofNat (A.getD i 0))) := by
  rw [← Clu.U8_get h, Clu.getL_some, Clu.getL_some]
  unfold PC
  rw [List.getElem?_append_left (by rw [Clu.U8_length]; exact h)]
theorem PC_set {A : List Nat} {k i c : Nat} (h : i < A.length) : Clu.splice (PC A k) i [.i .u8 (.ofNat c)] = PC (A.set i c) k := by
  unfold PC
  rw [← Clu.U8_splice h]
  unfold Clu.splice
  rw [List.take_append_of_le_length (by rw [Clu.U8_length]; omega), List.drop_append_of_le_length (by rw [Clu.U8_length]; simp; omega)]
  simp
theorem PC_count {A : List Nat} {k m n : Nat} (h : A.length = n) : Clu.splice (PC A k) n [.i .i64 (.ofNat m)] = PC A m := by
  unfold Clu.splice
  rw [List.drop_eq_nil_of_le (by rw [PC_length]; simp; omega)]
  unfold PC
  rw [List.take_left' (by rw [Clu.U8_length]; exact h), List.append_nil]
def placesN (L : List (List Nat)) : List Nat := starts 0 L ++ List.replicate (127 - L.length) 0
theorem labs_many {L : List (List Nat)} (h : LabOk L) : 2 * L.length + 1 ≤ (wire L).length := by
  induction L with
  | nil => exact Nat.le_refl _
  | cons x L ih =>
    have := ih h.tail
    have := h.head
    simp only [wire, List.length_cons, List.length_append]; omega
theorem placesN_length {L : List (List Nat)} (h : L.length ≤ 127) : (placesN L).length = 127 := by unfold placesN; rw [List.length_append, starts_length, List.length_replicate]; omega
theorem wire_at {L K p : List (List Nat)} {x : List Nat} (he : L = p ++ x :: K) : (wire L).getD ((wire p).length - 1) 0 = x.length ∧ (wire L).drop ((wire p).length - 1 + 1) = x ++ wire K := by
  obtain ⟨q, h1, h2⟩ := wire_app p (x :: K)
  rw [← he] at h1
  rw [h1, ← h2]
  constructor
  · rw [List.getD_eq_getElem?_getD, List.getElem?_append_right (Nat.le_refl _), Nat.sub_self]; rfl
  · rw [List.drop_append, List.drop_eq_nil_of_le (by omega), show q.length + 1 - q.length = 1 by omega]; rfl
theorem pl_A {L : List (List Nat)} (hB : Clu.B8 (wire L)) (hn : (wire L).length ≤ 255) (rs : List Clu.AV) (hr : Clu.AV.unds 1002 rs = true) (hLk : LabOk L) : ∀ (K p : List (List Nat)), L = p ++ K → Clu.LoopQ Try.prog (Clu.loopNo Try.f42 0) (51 + K.length) 27 1000 ([(1000, .c rs 0 0 (some 57)), (1001, .c (PC (starts 0 p ++ List.replicate (127 - p.length) 0) p.length) 0 0 (some 57))] ++ Clu.layB []) 1002 2 [0, 2, 3, 4] [.s (wire L).length (Clu.pk (wire L)), .p 1000 0, .p 1001 0, .i .i64 (.ofNat ((wire p).length - 1))] [8] [2, 3] [.p 1000 0, .p 1001 0] ([(1000, .c rs 0 0 (some 57)), (1001, .c (PC (placesN L) L.length) 0 0 (some 57))] ++ Clu.layB []) 1002
  | [], p, he => by
    rw [List.append_nil] at he
    subst he
    have hp := wire_pos L
    have hb : Clu.byteN (Clu.pk (wire L)) ((wire L).length - 1) = 0 := by
      rw [Clu.byteN_pk hB]
      obtain ⟨q, h1, h2⟩ := wire_app L []
      rw [List.append_nil] at h1
      rw [h1, List.length_append, show wire [] = [0] from rfl, List.length_singleton, Nat.add_sub_cancel, List.getD_eq_getElem?_getD, List.getElem?_append_right (Nat.le_refl _), Nat.sub_self]
      rfl
    exact Clu.LoopQ.out (n := 50) (by simp [Clu.exOf]) (by omega) fun os ho => plR_0 _ _ _ rs (PC (placesN L) L.length) os ho hr (Clu.flts_unds (PC_flts _ _)) (n1 := by omega) (c1 := hb)
  | x :: K, p, he => by
    have hm := labs_many hLk
    have hpl : p.length + 1 + K.length = L.length := by rw [he]; simp; omega
    have hwl : (wire L).length = (wire p).length - 1 + (wire (x :: K)).length := by rw [he, wire_app_length]
    have hpp := wire_pos p
    have hw : (wire (x :: K)).length = x.length + 1 + (wire K).length := by simp [wire]; omega
    have hx := hLk x (by rw [he]; simp)
    have hkp := wire_pos K
    have hb : Clu.byteN (Clu.pk (wire L)) ((wire p).length - 1) = x.length := by rw [Clu.byteN_pk hB]; exact (wire_at he).1
    have hA : (starts 0 p ++ List.replicate (127 - p.length) 0).length = 127 := by rw [List.length_append, starts_length, List.length_replicate]; omega
    have e1 : Clu.splice (PC (starts 0 p ++ List.replicate (127 - p.length) 0) p.length) (0 + p.length * 1) [.i .u8 (.ofNat (Clu.modN (Int.ofNat ((wire p).length - 1)) 256))] = PC (starts 0 (p ++ [x]) ++ List.replicate (127 - (p ++ [x]).length) 0) p.length := by
      rw [Nat.zero_add, Nat.mul_one, PC_set (by omega)]
      congr 1
      have e : (wire p).length - 1 = Clu.modN (Int.ofNat ((wire p).length - 1)) 256 := (Nat.mod_eq_of_lt (by omega)).symm
      rw [← e, List.set_append_right _ _ (by rw [starts_length]; exact Nat.le_refl _), starts_length, Nat.sub_self, starts_app, List.append_assoc]
      congr 1
      rw [Nat.zero_add, show 127 - p.length = (127 - (p ++ [x]).length) + 1 by rw [List.length_append, List.length_singleton]; omega, List.replicate_succ, List.set_cons_zero]
      rfl
    have hA2 : (starts 0 (p ++ [x]) ++ List.replicate (127 - (p ++ [x]).length) 0).length = 127 := by rw [List.length_append, starts_length, List.length_replicate, List.length_append, List.length_singleton]; omega
    have g1 := PC_end (k := p.length) hA
    have g2 := PC_end (k := p.length) hA2
    have hpx : (p ++ [x]).length = p.length + 1 := by rw [List.length_append]; rfl
    have ih := pl_A hB hn rs hr hLk K (p ++ [x]) (by rw [he, List.append_assoc]; rfl)
    refine Clu.LoopQ.more (show 50 ≤ 51 + K.length by omega) (fun os ho => plR_1 _ _ ((wire p).length - 1) rs _ os ho hr (Clu.flts_unds (PC_flts _ _)) (n1 := by omega) (c1 := by rw [hb]; omega) (n2 := by rw [g1]; rfl) (n597 := p.length) (e_n597 := by rw [g1]; rfl) (n3 := by omega) (n4 := by rw [PC_length]; omega) (n5 := by rw [e1, g2]; rfl) (n6 := by rw [e1, g2]; show -9223372036854775808 ≤ (p.length : Int) + 1 ∧ (p.length : Int) + 1 < 9223372036854775808; omega) (n7 := by rw [e1, PC_length, hA2]; omega) (n8 := by omega) (n9 := by rw [hb]; omega) (n10 := by rw [hb]; omega) (n11 := by rw [hb]; omega)) ?_
    have e2 : (wire (p ++ [x])).length - 1 = (wire p).length - 1 + (1 + x.length) := by
      have := wire_app_length p [x]
      rw [this]
      simp [wire]; omega
    rw [hb, e1, g2]
    show Clu.LoopQ _ _ _ _ _ ([_, (1001, .c (Clu.splice (PC _ p.length) 127 [.i .i64 (.ofNat (p.length + 1))]) 0 0 (some 57))] ++ _) _ _ _ _ _ _ _ _ _
    rw [PC_count hA2, ← e2, ← hpx]
    exact ih
noncomputable def plFn (n N : Nat) : List Clu.AV := match labs (Clu.lst n N) with
  | some L => PC (placesN L) L.length
  | none => []
theorem plFn_wire {L : List (List Nat)} (h : LabOk L) (hB : Clu.B8 (wire L)) : plFn (wire L).length (Clu.pk (wire L)) = PC (placesN L) L.length := by unfold plFn; rw [Clu.lst_pk hB, labs_wire h]
theorem placesOf_fact {L : List (List Nat)} (h : LabOk L) (hB : Clu.B8 (wire L)) (hn : (wire L).length ≤ 255) : Clu.Fact Try.prog 42 [] [.s (wire L).length (Clu.pk (wire L))] (.ag (PC (placesN L) L.length)) := by
  have hm := labs_many h
  have hP := placesN_length (L := L) (by omega)
  have hl := PC_length (placesN L) L.length
  have z0 : Clu.AV.unds 1002 (List.replicate 127 (Clu.AV.i IntKind.u8 (Int.ofNat 0)) ++ [(Clu.AV.i IntKind.i64 (Int.ofNat 0))]) = true := by decide
  have e1 : List.take 128 (List.drop 0 (PC (placesN L) L.length)) = PC (placesN L) L.length := by rw [List.drop_zero, List.take_of_length_le (by omega)]
  have e2 : Clu.splice (List.replicate 127 (Clu.AV.i IntKind.u8 (Int.ofNat 0)) ++ [(Clu.AV.i IntKind.i64 (Int.ofNat 0))]) 0 (List.take 128 (List.drop 0 (PC (placesN L) L.length))) = PC (placesN L) L.length := by
    rw [e1]; exact Clu.splice_full (by rw [hl, hP]; rfl)
  have := plF_0 (wire L).length (Clu.pk (wire L)) (PC (placesN L) L.length) (PC_flts _ _) (p_h599 := (pl_A hB hn _ z0 h L [] rfl).upto (by omega)) (n1 := by rw [List.drop_zero, hl, hP]; exact Nat.le_refl _) (n2 := by rw [e1, hl, hP]) (n3 := by rw [e1]; exact PC_one _ _) (n4 := by rw [e1, hl, hP]; exact Nat.le_refl _) (n5 := by
    have e2' := e2
    rw [e2', List.drop_zero, hl, hP]; exact Nat.le_refl _)
  rw [e2, List.drop_zero, List.take_of_length_le (by omega)] at this
  exact this
/-! a label from the end -/
noncomputable def labAt (n N i : Nat) : List Nat := ((labs (Clu.lst n N)).getD []).getD (((labs (Clu.lst n N)).getD []).length - i) []
open Classical in
noncomputable def foF (cs : List Clu.AV) (n N i : Nat) : Bool := decide (∃ L, LabOk L ∧ Clu.B8 (wire L) ∧ (wire L).length ≤ 255 ∧ n = (wire L).length ∧ N = Clu.pk (wire L) ∧ cs = PC (placesN L) L.length ∧ 1 ≤ i ∧ i ≤ L.length)
noncomputable def flF (cs : List Clu.AV) (n N i : Nat) : Nat := (labAt n N i).length
noncomputable def fbF (cs : List Clu.AV) (n N i : Nat) : Nat := Clu.pk (labAt n N i)
theorem fromEnd_ok : Clu.HandOK Try.prog 44 (Clu.ptrB (feB foF) 57 [] (feF flF fbF)) := Clu.ptrB_ok rfl fun cs rest v cs' hF hB => by
  unfold feF at hF
  split at hF
  case h_2 => cases hF
  rename_i n N i
  simp only [Option.some.injEq, Prod.mk.injEq] at hF
  obtain ⟨rfl, rfl⟩ := hF
  have hB := hB (foF cs n N i) (by simp [feB])
  unfold foF at hB
  have hB := @of_decide_eq_true _ (Classical.propDecidable _) hB
  obtain ⟨L, h, hB8, hn, rfl, rfl, rfl, h1, h2⟩ := hB
  have hm := labs_many h
  have hP := placesN_length (L := L) (by omega)
  have g1 := PC_end (k := L.length) hP
  obtain ⟨p, x, K, he, hpl⟩ : ∃ p x K, L = p ++ x :: K ∧ p.length = L.length - i := by
    refine ⟨L.take (L.length - i), L[L.length - i]'(by omega), L.drop (L.length - i + 1), ?_, by rw [List.length_take]; omega⟩
    rw [← List.drop_eq_getElem_cons]; exact (List.take_append_drop _ _).symm
  have hx := h x (by rw [he]; simp)
  have hlab : labAt (wire L).length (Clu.pk (wire L)) i = x := by
    unfold labAt
    rw [Clu.lst_pk hB8, labs_wire h]
    show L.getD (L.length - i) [] = x
    rw [List.getD_eq_getElem?_getD, ← hpl, he, List.getElem?_append_right (Nat.le_refl _), Nat.sub_self]
    rfl
  have hat : (placesN L).getD (L.length - i) 0 = (wire p).length - 1 := by
    unfold placesN
    rw [List.getD_eq_getElem?_getD, List.getElem?_append_left (by rw [starts_length]; omega), he, starts_app, ← he, ← hpl, List.getElem?_append_right (by rw [starts_length]; exact Nat.le_refl _), starts_length, Nat.sub_self]
    show 0 + ((wire p).length - 1) = _
    omega
  have hwl : (wire L).length = (wire p).length - 1 + (wire (x :: K)).length := by rw [he, wire_app_length]
  have hpp := wire_pos p
  have hw : (wire (x :: K)).length = x.length + 1 + (wire K).length := by simp [wire]; omega
  have hkp := wire_pos K
  obtain ⟨w1, w2⟩ := wire_at he
  have hb : Clu.byteN (Clu.pk (wire L)) ((wire p).length - 1) = x.length := by rw [Clu.byteN_pk hB8]; exact w1
  have gi : Clu.getL (PC (placesN L) L.length) (0 + (L.length - i) * 1) = some (.i .u8 (.ofNat ((wire p).length - 1))) := by
    rw [Nat.zero_add, Nat.mul_one, PC_at (by omega), hat]
  have iz : Clu.iZ (Clu.getL (PC (placesN L) L.length) 127) = Int.ofNat L.length := by rw [g1]; rfl
  have iv : Clu.iN (Clu.getL (PC (placesN L) L.length) (0 + (L.length - i) * 1)) = (wire p).length - 1 := by rw [gi]; rfl
  have := feC_0 (wire L).length (Clu.pk (wire L)) i (PC (placesN L) L.length) (PC_flts _ _) (n1 := by rw [g1]; rfl) (n2 := by rw [iz]; show -9223372036854775808 ≤ (L.length : Int) - i ∧ (L.length : Int) - i < 9223372036854775808; omega) (n598 := L.length - i) (e_n598 := by rw [iz]; show (L.length : Int) - i = ((L.length - i : Nat) : Int); omega) (n3 := by omega) (n4 := by rw [gi]; rfl) (n5 := by rw [iv]; omega) (n6 := by rw [iv]; omega) (n7 := by rw [iv]; omega) (n8 := by rw [iv]; omega) (n9 := by rw [iv, hb]; omega) (n10 := by rw [iv, hb]; omega) (n11 := by rw [iv, hb]; omega) (n12 := by omega)
  rw [iv, hb, Clu.pk_part, w2, show (wire p).length - 1 + 1 + x.length - ((wire p).length - 1 + 1) = x.length by omega, List.take_left] at this
  unfold flF fbF
  rw [hlab]
  exact this
/-! Compare -/
theorem ltNs_cmp : ∀ {l m : List Nat}, Clu.B8 l → Clu.B8 m → l ≠ m → cmpS l m = if Clu.ltNs l m = true then -1 else 1
  | [], [], _, _, h => absurd rfl h
  | [], b :: m, _, _, _ => by
    show (-1 : Int) = _
    rfl
  | a :: l, [], _, _, _ => by
    show (1 : Int) = _
    rfl
  | a :: l, b :: m, h, k, hne => by
    have ha := h.head
    have hb := k.head
    unfold cmpS lexC Clu.ltNs
    by_cases h1 : a < b
    · have e1 : Nat.blt (Nat.mod a 256) (Nat.mod b 256) = true := Clu.blt_iff.2 (by show a % 256 < b % 256; omega)
      rw [e1]
      have e2 : cmpN a b = -1 := by unfold cmpN; rw [if_pos h1]
      rw [e2]; rfl
    · have e1 : Nat.blt (Nat.mod a 256) (Nat.mod b 256) = false := Clu.blt_f (by show b % 256 ≤ a % 256; omega)
      rw [e1]
      by_cases h2 : b < a
      · have e2 : cmpN a b = 1 := by unfold cmpN; rw [if_neg h1, if_pos h2]
        have e3 : Nat.beq (Nat.mod a 256) (Nat.mod b 256) = false := Clu.beq_f (by show a % 256 ≠ b % 256; omega)
        rw [e2, e3]; rfl
      · have e : a = b := by omega
        subst e
        have e2 : cmpN a a = 0 := by unfold cmpN; rw [if_neg h1, if_neg h2]
        have e3 : Nat.beq (Nat.mod a 256) (Nat.mod a 256) = true := Clu.beq_iff.2 rfl
        rw [e2, e3]
        simp only [if_true]
        exact ltNs_cmp h.tail k.tail (fun e => hne (by rw [e]))
/-- the first difference -/
def cmpGo : List (List Nat) → List (List Nat) → Option Int
  | a :: R, b :: S => if a = b then cmpGo R S else some (if Clu.ltNs a b = true then -1 else 1)
  | _, _ => none
def sgn (z : Int) : Int := if z < 0 then -1 else if 0 < z then 1 else 0
theorem cmpGo_W : ∀ {R S : List (List Nat)}, (∀ x ∈ R, Clu.B8 x) → (∀ x ∈ S, Clu.B8 x) → cmpW R S = (cmpGo R S).getD (sgn ((R.length : Int) - S.length))
  | [], [], _, _ => rfl
  | [], b :: S, _, _ => by
    show (-1 : Int) = sgn (0 - ((S.length + 1 : Nat) : Int))
    unfold sgn; rw [if_pos (by omega)]
  | a :: R, [], _, _ => by
    show (1 : Int) = sgn (((R.length + 1 : Nat) : Int) - 0)
    unfold sgn; rw [if_neg (by omega), if_pos (by omega)]
  | a :: R, b :: S, h, k => by
    unfold cmpW lexC cmpGo
    by_cases e : a = b
    · rw [if_pos e, if_pos ((cmpS_ord.zero a b).2 e)]
      have ih := cmpGo_W (R := R) (S := S) (fun x hx => h x (List.mem_cons_of_mem _ hx)) (fun x hx => k x (List.mem_cons_of_mem _ hx))
      have e2 : ((a :: R).length : Int) - (b :: S).length = (R.length : Int) - S.length := by simp only [List.length_cons]; omega
      rw [e2]
      exact ih
    · rw [if_neg e, if_neg (fun z => e ((cmpS_ord.zero a b).1 z))]
      exact ltNs_cmp (h a (List.mem_cons_self ..)) (k b (List.mem_cons_self ..)) e
theorem foF_ok {L : List (List Nat)} {i : Nat} (h : LabOk L) (hB : Clu.B8 (wire L)) (hn : (wire L).length ≤ 255) (h1 : 1 ≤ i) (h2 : i ≤ L.length) : foF (PC (placesN L) L.length) (wire L).length (Clu.pk (wire L)) i = true := by
  unfold foF; exact @decide_eq_true _ (Classical.propDecidable _) ⟨L, h, hB, hn, rfl, rfl, rfl, h1, h2⟩
theorem labAt_rev {L p R : List (List Nat)} {a : List Nat} (h : LabOk L) (hB : Clu.B8 (wire L)) (he : L.reverse = p ++ a :: R) : labAt (wire L).length (Clu.pk (wire L)) (p.length + 1) = a := by
  unfold labAt
  rw [Clu.lst_pk hB, labs_wire h]
  show L.getD (L.length - (p.length + 1)) [] = a
  have hl : L.length = p.length + (R.length + 1) := by have := congrArg List.length he; simpa using this
  have e : L = (p ++ a :: R).reverse := by rw [← he, List.reverse_reverse]
  rw [List.getD_eq_getElem?_getD, hl, e, List.reverse_append, List.reverse_cons, List.append_assoc, List.getElem?_append_right (by simp; omega), List.length_reverse, show p.length + (R.length + 1) - (p.length + 1) - R.length = 0 by omega]
  rfl
theorem fo_XOK : Clu.XOK Try.prog (Clu.addB Clu.noX 44 (Clu.ptrB (feB foF) 57 [] (feF flF fbF))) := Clu.addB_ok Clu.noX_ok fromEnd_ok
def CmLoop (L M : List (List Nat)) (fuel i ec : Nat) (ts : List Nat) (vs : List Clu.AV) : Prop := Clu.LoopQ Try.prog (Clu.loopNo Try.f26 0) fuel 53 1000 ([(1000, .c (PC (placesN L) L.length) 0 0 (some 57)), (1001, .c (PC (placesN M) M.length) 0 0 (some 57))] ++ Clu.layB []) 1002 ec [0, 1, 5, 6, 7] [.s (wire L).length (Clu.pk (wire L)), .s (wire M).length (Clu.pk (wire M)), .p 1000 0, .p 1001 0, .i .i64 (.ofNat i)] [10, 11, 12, 14, 15, 16, 28, 29, 33, 34, 45] ts vs ([(1000, .c (PC (placesN L) L.length) 0 0 (some 57)), (1001, .c (PC (placesN M) M.length) 0 0 (some 57))] ++ Clu.layB []) 1002
theorem cm_A {L M : List (List Nat)} (hL : LabOk L) (hM : LabOk M) (bL : Clu.B8 (wire L)) (bM : Clu.B8 (wire M)) (nL : (wire L).length ≤ 255) (nM : (wire M).length ≤ 255) : ∀ (R S p q : List (List Nat)), L.reverse = p ++ R → M.reverse = q ++ S → p.length = q.length → match cmpGo R S with
    | none => CmLoop L M (51 + R.length) (p.length + 1) 2 [5, 6] [.p 1000 0, .p 1001 0]
    | some z => CmLoop L M (51 + R.length) (p.length + 1) 1 [4] [.i .i64 z]
  | [], S, p, q, hp, hq, hpq => by
    have hPL := placesN_length (L := L) (by have := labs_many hL; omega)
    have hPM := placesN_length (L := M) (by have := labs_many hM; omega)
    have g1 := PC_end (k := L.length) hPL
    have hl : L.length = p.length := by have := congrArg List.length hp; simpa using this
    show CmLoop L M (51 + 0) (p.length + 1) 2 [5, 6] _
    refine Clu.LoopQ.out (n := 50) (by simp [Clu.exOf]) (by omega) fun os ho => cmR_0 foF flF fbF _ _ _ _ _ _ _ os ho fo_XOK (Clu.flts_unds (PC_flts _ _)) (Clu.flts_unds (PC_flts _ _)) (n1 := by rw [g1]; rfl) (c1 := ?_)
    rw [g1]
    show (L.length : Int) < ((p.length + 1 : Nat) : Int)
    omega
  | a :: R, [], p, q, hp, hq, hpq => by
    have hPL := placesN_length (L := L) (by have := labs_many hL; omega)
    have hPM := placesN_length (L := M) (by have := labs_many hM; omega)
    have g1 := PC_end (k := L.length) hPL
    have g2 := PC_end (k := M.length) hPM
    have hl : L.length = p.length + (R.length + 1) := by have := congrArg List.length hp; simpa using this
    have hm : M.length = q.length := by have := congrArg List.length hq; simpa using this
    show CmLoop L M (51 + (R.length + 1)) (p.length + 1) 2 [5, 6] _
    refine Clu.LoopQ.out (n := 50) (by simp [Clu.exOf]) (by omega) fun os ho => cmR_1 foF flF fbF _ _ _ _ _ _ _ os ho fo_XOK (Clu.flts_unds (PC_flts _ _)) (Clu.flts_unds (PC_flts _ _)) (n1 := by rw [g1]; rfl) (c1 := ?_) (n2 := by rw [g2]; rfl) (c2 := ?_)
    · rw [g1]
      show ((p.length + 1 : Nat) : Int) ≤ (L.length : Int)
      omega
    · rw [g2]
      show (M.length : Int) < ((p.length + 1 : Nat) : Int)
      omega
  | a :: R, b :: S, p, q, hp, hq, hpq => by
    have mL := labs_many hL
    have mM := labs_many hM
    have hPL := placesN_length (L := L) (by omega)
    have hPM := placesN_length (L := M) (by omega)
    have g1 := PC_end (k := L.length) hPL
    have g2 := PC_end (k := M.length) hPM
    have hl : L.length = p.length + (R.length + 1) := by have := congrArg List.length hp; simpa using this
    have hm : M.length = q.length + (S.length + 1) := by have := congrArg List.length hq; simpa using this
    have la := labAt_rev hL bL hp
    have lb := labAt_rev hM bM hq
    rw [← hpq] at lb
    have ma : a ∈ L := by rw [← List.mem_reverse, hp]; simp
    have mb : b ∈ M := by rw [← List.mem_reverse, hq]; simp
    have ba := wire_b8 bL a ma
    have bb := wire_b8 bM b mb
    have ee : Clu.eqNs (flF (PC (placesN L) L.length) (wire L).length (Clu.pk (wire L)) (p.length + 1)) (fbF (PC (placesN L) L.length) (wire L).length (Clu.pk (wire L)) (p.length + 1)) (flF (PC (placesN M) M.length) (wire M).length (Clu.pk (wire M)) (p.length + 1)) (fbF (PC (placesN M) M.length) (wire M).length (Clu.pk (wire M)) (p.length + 1)) = decide (a = b) := by
      unfold flF fbF
      rw [la, lb]
      exact Clu.eqNs_iff ba bb
    have el : Clu.ltS (flF (PC (placesN L) L.length) (wire L).length (Clu.pk (wire L)) (p.length + 1)) (fbF (PC (placesN L) L.length) (wire L).length (Clu.pk (wire L)) (p.length + 1)) (flF (PC (placesN M) M.length) (wire M).length (Clu.pk (wire M)) (p.length + 1)) (fbF (PC (placesN M) M.length) (wire M).length (Clu.pk (wire M)) (p.length + 1)) = Clu.ltNs a b := by
      unfold flF fbF Clu.ltS
      rw [la, lb, Clu.lst_pk ba, Clu.lst_pk bb]
    have c1 : (((p.length + 1 : Nat) : Int)) ≤ Clu.iZ (Clu.getL (PC (placesN L) L.length) 127) := by
      rw [g1]
      show ((p.length + 1 : Nat) : Int) ≤ (L.length : Int)
      omega
    have c2 : (((p.length + 1 : Nat) : Int)) ≤ Clu.iZ (Clu.getL (PC (placesN M) M.length) 127) := by
      rw [g2]
      show ((p.length + 1 : Nat) : Int) ≤ (M.length : Int)
      omega
    have n1 : Clu.isI IntKind.i64 (Clu.getL (PC (placesN L) L.length) 127) = true := by rw [g1]; rfl
    have n2 : Clu.isI IntKind.i64 (Clu.getL (PC (placesN M) M.length) 127) = true := by rw [g2]; rfl
    have n3 := foF_ok hL bL nL (i := p.length + 1) (by omega) (by omega)
    have n4 := foF_ok hM bM nM (i := p.length + 1) (by omega) (by omega)
    unfold cmpGo
    by_cases h : a = b
    · rw [if_pos h]
      have ih := cm_A hL hM bL bM nL nM R S (p ++ [a]) (q ++ [b]) (by rw [hp, List.append_assoc]; rfl) (by rw [hq, List.append_assoc]; rfl) (by simp [hpq])
      have e : (p ++ [a]).length = p.length + 1 := by simp
      rw [e] at ih
      have key : ∀ ec ts vs, CmLoop L M (51 + R.length) (p.length + 1 + 1) ec ts vs → CmLoop L M (51 + (R.length + 1)) (p.length + 1) ec ts vs := fun ec ts vs hh =>
        Clu.LoopQ.more (show 50 ≤ 51 + R.length by omega) (fun os ho => cmR_4 foF flF fbF _ _ _ _ (p.length + 1) _ _ os ho fo_XOK (Clu.flts_unds (PC_flts _ _)) (Clu.flts_unds (PC_flts _ _)) (n1 := n1) (c1 := c1) (n2 := n2) (c2 := c2) (n3 := n3) (n4 := n4) (c3 := by rw [ee]; exact decide_eq_true h) (n5 := by omega)) hh
      cases hc : cmpGo R S with
      | none => rw [hc] at ih; exact key _ _ _ ih
      | some z => rw [hc] at ih; exact key _ _ _ ih
    · rw [if_neg h]
      cases hlt : Clu.ltNs a b with
      | true =>
        show CmLoop L M (51 + (R.length + 1)) (p.length + 1) 1 [4] [.i .i64 (-1)]
        exact Clu.LoopQ.out (n := 50) (by simp [Clu.exOf]) (by omega) fun os ho => cmR_3 foF flF fbF _ _ _ _ _ _ _ os ho fo_XOK (Clu.flts_unds (PC_flts _ _)) (Clu.flts_unds (PC_flts _ _)) (n1 := n1) (c1 := c1) (n2 := n2) (c2 := c2) (n3 := n3) (n4 := n4) (c3 := by rw [ee]; exact decide_eq_false h) (c4 := by rw [el]; exact hlt)
      | false =>
        show CmLoop L M (51 + (R.length + 1)) (p.length + 1) 1 [4] [.i .i64 1]
        exact Clu.LoopQ.out (n := 50) (by simp [Clu.exOf]) (by omega) fun os ho => cmR_2 foF flF fbF _ _ _ _ _ _ _ os ho fo_XOK (Clu.flts_unds (PC_flts _ _)) (Clu.flts_unds (PC_flts _ _)) (n1 := n1) (c1 := c1) (n2 := n2) (c2 := c2) (n3 := n3) (n4 := n4) (c3 := by rw [ee]; exact decide_eq_false h) (c4 := by rw [el]; exact hlt)
theorem plH_ok : Clu.HandOK Try.prog 42 (Clu.decH (plH myF plFn)) := Clu.decH_ok fun args v h => by
  unfold plH at h
  split at h
  · rename_i n N
    obtain ⟨h1, h2⟩ := h
    have h2 : Clu.AV.ag (plFn n N) = v := h2
    subst h2
    unfold myF at h1
    obtain ⟨L, e, oL, hL⟩ := mayB_iff.1 h1
    refine Clu.Fact.s1 ?_
    have hb := Clu.lst_b8 n N
    unfold plFn
    rw [e] at hb hL ⊢
    rw [labs_wire oL]
    exact placesOf_fact oL hb hL
  · exact h.elim
theorem sgH_ok : Clu.HandOK Try.prog 45 (Clu.decH (sgH sgn)) := Clu.decH_ok fun args v h => by
  unfold sgH at h
  split at h
  · rename_i z
    have h2 : Clu.AV.i .i64 (sgn z) = v := h
    subst h2
    unfold sgn
    by_cases h1 : z < 0
    · rw [if_pos h1]; exact sgF_2 z h1
    · rw [if_neg h1]
      by_cases h2 : 0 < z
      · rw [if_pos h2]; exact sgF_1 z (by simpa using h1) h2
      · rw [if_neg h2]; exact sgF_0 z (by simpa using h1) (by simpa using h2)
  · exact h.elim
theorem cmX_ok : Clu.XOK Try.prog (Clu.addB (Clu.addB (Clu.addB (Clu.addB Clu.noX 35 (Clu.decH (lowH lwF))) 17 (Clu.decH (mayH myF))) 42 (Clu.decH (plH myF plFn))) 45 (Clu.decH (sgH sgn))) := Clu.addB_ok (Clu.addB_ok nmX_ok plH_ok) sgH_ok
/-- the order of bytes that are names; 0 where one is none -/
def cmpB (l m : List Nat) : Int := match mayB l && mayB m, labs l, labs m with
  | true, some L, some M => cmpL L M
  | _, _, _ => 0
theorem spl {l : List Clu.AV} (h : l.length = 128) : Clu.splice ((List.replicate 127 (Clu.AV.i IntKind.u8 (Int.ofNat 0))) ++ [(Clu.AV.i IntKind.i64 (Int.ofNat 0))]) 0 l = l := Clu.splice_full (by rw [h]; rfl)
theorem compare_core {n N m M : Nat} {L K : List (List Nat)} (hn : n = (wire L).length) (hm : m = (wire K).length) (eL : lwF n N = Clu.pk (wire L)) (eK : lwF m M = Clu.pk (wire K)) (mL : myF n N = true) (mK : myF m M = true) (oL : LabOk L) (oK : LabOk K) (bL : Clu.B8 (wire L)) (bK : Clu.B8 (wire K)) (nL : (wire L).length ≤ 255) (nK : (wire K).length ≤ 255) :
    Clu.Fact Try.prog 26 [] [.s n N, .s m M] (.i .i64 (cmpW L.reverse K.reverse)) := by
  subst hn
  subst hm
  have hPL := placesN_length (L := L) (by have := labs_many oL; omega)
  have hPK := placesN_length (L := K) (by have := labs_many oK; omega)
  have lL := PC_length (placesN L) L.length
  have lK := PC_length (placesN K) K.length
  have pL := plFn_wire oL bL
  have pK := plFn_wire oK bK
  have g1 := PC_end (k := L.length) hPL
  have g2 := PC_end (k := K.length) hPK
  have sL := spl (l := PC (placesN L) L.length) (by omega)
  have sK := spl (l := PC (placesN K) K.length) (by omega)
  have yL : myF (wire L).length (lwF (wire L).length N) = true := by rw [eL, myF_pk bL]; exact mayB_iff.2 ⟨L, rfl, oL, nL⟩
  have yK : myF (wire K).length (lwF (wire K).length M) = true := by rw [eK, myF_pk bK]; exact mayB_iff.2 ⟨K, rfl, oK, nK⟩
  have mmL := labs_many oL
  have mmK := labs_many oK
  have hc := cm_A oL oK bL bK nL nK L.reverse K.reverse [] [] rfl rfl rfl
  have hW := cmpGo_W (R := L.reverse) (S := K.reverse) (fun x hx => wire_b8 bL x (List.mem_reverse.1 hx)) (fun x hx => wire_b8 bK x (List.mem_reverse.1 hx))
  have fuel : 51 + L.reverse.length ≤ 993 := by rw [List.length_reverse]; omega
  rw [hW]
  cases hg : cmpGo L.reverse K.reverse with
  | some z =>
    rw [hg] at hc
    exact cmF_1 lwF myF plFn sgn (wire L).length N (wire K).length M true z cmX_ok (by omega) mL (by omega) mK (by omega) (by omega) yL yK (by rw [eL, pL, lL, hPL]) (by rw [eL, pL]; exact PC_one _ _) (by rw [eL, pL, lL, hPL]; exact Nat.le_refl _) (by rw [eK, pK, lK, hPK]) (by rw [eK, pK]; exact PC_one _ _) (by rw [eK, pK, lK, hPK]; exact Nat.le_refl _) rfl (by rw [eL, eK, pL, pK, sL, sK]; exact Clu.LoopQ.upto hc fuel)
  | none =>
    rw [hg] at hc
    have iL : Clu.iZ (Clu.getL (PC (placesN L) L.length) 127) = Int.ofNat L.length := by rw [g1]; rfl
    have iK : Clu.iZ (Clu.getL (PC (placesN K) K.length) 127) = Int.ofNat K.length := by rw [g2]; rfl
    have := cmF_0 lwF myF plFn sgn (wire L).length N (wire K).length M false 0 cmX_ok (by omega) mL (by omega) mK (by omega) (by omega) yL yK (by rw [eL, pL, lL, hPL]) (by rw [eL, pL]; exact PC_one _ _) (by rw [eL, pL, lL, hPL]; exact Nat.le_refl _) (by rw [eK, pK, lK, hPK]) (by rw [eK, pK]; exact PC_one _ _) (by rw [eK, pK, lK, hPK]; exact Nat.le_refl _) rfl (by rw [eL, eK, pL, pK, sL, sK]; exact Clu.LoopQ.upto hc fuel) (by rw [eL, pL]; show Clu.isI _ (Clu.getL (Clu.splice ((List.replicate 127 (Clu.AV.i IntKind.u8 (Int.ofNat 0))) ++ [(Clu.AV.i IntKind.i64 (Int.ofNat 0))]) 0 _) 127) = true; rw [sL, g1]; rfl) (by rw [eK, pK]; show Clu.isI _ (Clu.getL (Clu.splice ((List.replicate 127 (Clu.AV.i IntKind.u8 (Int.ofNat 0))) ++ [(Clu.AV.i IntKind.i64 (Int.ofNat 0))]) 0 _) 127) = true; rw [sK, g2]; rfl) (by
      rw [eL, pL, eK, pK]
      show -9223372036854775808 ≤ Clu.iZ (Clu.getL (Clu.splice ((List.replicate 127 (Clu.AV.i IntKind.u8 (Int.ofNat 0))) ++ [(Clu.AV.i IntKind.i64 (Int.ofNat 0))]) 0 _) 127) - Clu.iZ (Clu.getL (Clu.splice ((List.replicate 127 (Clu.AV.i IntKind.u8 (Int.ofNat 0))) ++ [(Clu.AV.i IntKind.i64 (Int.ofNat 0))]) 0 _) 127) ∧ Clu.iZ (Clu.getL (Clu.splice ((List.replicate 127 (Clu.AV.i IntKind.u8 (Int.ofNat 0))) ++ [(Clu.AV.i IntKind.i64 (Int.ofNat 0))]) 0 _) 127) - Clu.iZ (Clu.getL (Clu.splice ((List.replicate 127 (Clu.AV.i IntKind.u8 (Int.ofNat 0))) ++ [(Clu.AV.i IntKind.i64 (Int.ofNat 0))]) 0 _) 127) < 9223372036854775808
      rw [sL, sK, iL, iK]
      simp only [Int.ofNat_eq_natCast]
      omega)
    rw [eL, pL, eK, pK, sL, sK, iL, iK] at this
    rw [List.length_reverse, List.length_reverse]
    exact this
theorem compare_fact {l m : List Nat} (h : Clu.B8 l) (k : Clu.B8 m) (hl : l.length < 9000000000000000000) (hm : m.length < 9000000000000000000) : Clu.Fact Try.prog 26 [] [.s l.length (Clu.pk l), .s m.length (Clu.pk m)] (.i .i64 (cmpB l m)) := by
  have el := myF_pk h
  have em := myF_pk k
  unfold cmpB
  cases h1 : mayB l with
  | false => exact cmF_3 lwF myF plFn sgn l.length (Clu.pk l) m.length (Clu.pk m) false 0 cmX_ok (by omega) (by rw [el]; exact h1)
  | true =>
    cases h2 : mayB m with
    | false => exact cmF_2 lwF myF plFn sgn l.length (Clu.pk l) m.length (Clu.pk m) false 0 cmX_ok (by omega) (by rw [el]; exact h1) (by omega) (by rw [em]; exact h2)
    | true =>
      obtain ⟨L, rfl, oL, hL⟩ := mayB_iff.1 h1
      obtain ⟨K, rfl, oK, hK⟩ := mayB_iff.1 h2
      rw [labs_wire oL, labs_wire oK]
      have bL := low_b8 h
      have bK := low_b8 k
      rw [low_wire oL] at bL
      rw [low_wire oK] at bK
      have wL := wire_low_length L
      have wK := wire_low_length K
      exact compare_core wL.symm wK.symm (by rw [lwF_pk h, low_wire oL]) (by rw [lwF_pk k, low_wire oK]) (by rw [el]; exact h1) (by rw [em]; exact h2) oL.low oK.low bL bK (by omega) (by omega)

end Go.Proofs.Ytmokdhmicdmgfaa
