/-
  NmR2, NmR3, NmR4, NmR5, NmO1 in one.
-/
import Derived.Test.YtmokdhmicdmgfaaCluze
import Derived.Test.YtmokdhmicdmgfaaNmAA
namespace Go.Proofs.Ytmokdhmicdmgfaa
open Go.RowKit
set_option linter.unusedVariables false
set_option linter.unusedSimpArgs false
set_option maxRecDepth 100000

noncomputable def labH (is em : Nat → Nat → Bool) (kk : Nat → Nat → Nat) (ls : Nat → Nat → List Clu.AV) : List Clu.AV → List (List Clu.AV) → Clu.Dec (Clu.AV × List Clu.NB) := fun args css => match args with
  | [.s n N] => (match css with
    | [] => .need (Nat.blt n 1000001) (.fork (is n N) (.leaf (.tu [.sn, .b false], [])) (.fork (em n N) (.leaf (.tu [.so 1000 0 1 (kk n N), .b true], [(ls n N, 1, some 9)])) (.leaf (.tu [.sn, .b true], []))))
    | _ => .fail)
  | _ => .fail
noncomputable def rlH (lw : Nat → Nat → Nat) : List Clu.AV → Clu.Dec Clu.AV := fun args => match args with
  | [.s n N] => .need (Nat.blt n 1000001) (.leaf (.s n (lw n N)))
  | _ => .fail
noncomputable def byH (bk : List Clu.AV → Nat → Nat → Bool) (bn bN : List Clu.AV → Nat → Nat) : List Clu.AV → List (List Clu.AV) → Clu.Dec (Clu.AV × List Clu.NB) := fun args css => match args with
  | [.so a d w k] => (match css with
    | [cs] => .need (Nat.beq a 1000) (.need (Nat.beq w 1) (.need (bk cs d k) (.leaf (.s (bn cs d) (bN cs d), []))))
    | _ => .fail)
  | [.sn] => (match css with
    | [] => .leaf (.s 1 0, [])
    | _ => .fail)
  | [.se] => (match css with
    | [] => .leaf (.s 1 0, [])
    | _ => .fail)
  | _ => .fail

set_option maxRecDepth 10000000 in
theorem rlowS_raw (n N i m M : Nat) (os : Nat → Option Clu.AV) : Clu.evL (Clu.noL) Try.prog (Clu.noX) 50 29 1000 (Clu.loopNo Try.f36 0) (Clu.tellF [3000018, 3000034, 3000040] (Clu.mkFr 29 (Clu.std [0, 3, 4] [.s n N, .s m M, .i .i64 (.ofNat i)] [9, 16, 17, 19, 20] os))) (Clu.mkH (Clu.mkH .e (Clu.layB [])) []) 1000 (Clu.finM 29 1000 [9, 16, 17, 19, 20] 0 [(0, [0, 3, 4], [], none), (2, [3], [], none)]) = Clu.forkB ((Clu.iLt (Int.ofNat i) (Int.ofNat n))) (Clu.needT ((Clu.flatB (os 16))) (.err 90 1) (Clu.needT ((Clu.flatB (os 17))) (.err 90 1) (Clu.needT ((Clu.flatB (os 19))) (.err 90 1) (Clu.needT ((Clu.flatB (os 20))) (.err 90 1) ((Clu.Out.ok (Clu.AV.tu [(Clu.AV.i IntKind.i64 (Int.ofNat 1)), (Clu.AV.s m M)]))))))) (Clu.needT ((Nat.blt i n)) (.err 22 6) (Clu.forkB ((Bool.not (Clu.iLt (Int.ofNat (Clu.byteN N i)) (Int.ofNat 65)))) (Clu.needT ((Nat.blt (m + 1) 9223372036854775808)) (.err 10 5) (Clu.needT ((Clu.inR IntKind.i64 (Int.ofNat (i + 1)))) (.err 10 20) ((Clu.Out.ok (Clu.AV.tu [(Clu.AV.i IntKind.i64 (Int.ofNat 0)), (Clu.AV.s n N), (Clu.AV.s (m + 1) (Clu.catN m M (Clu.pk (List.map Clu.u8N (List.take 1 (List.drop 0 (Clu.splice (HAppend.hAppend (List.flatten (List.replicate 1 [(Clu.AV.i IntKind.u8 (Int.ofNat 0))])) []) 0 [(Clu.AV.i IntKind.u8 (Int.ofNat (Clu.byteN N i)))]))))))), (Clu.AV.i IntKind.i64 (Int.ofNat (i + 1)))]))))) (Clu.forkB ((Bool.not (Clu.iLt (Int.ofNat 90) (Int.ofNat (Clu.byteN N i))))) (Clu.needT ((Nat.blt (m + 1) 9223372036854775808)) (.err 10 5) (Clu.needT ((Clu.inR IntKind.i64 (Int.ofNat (i + 1)))) (.err 10 20) ((Clu.Out.ok (Clu.AV.tu [(Clu.AV.i IntKind.i64 (Int.ofNat 0)), (Clu.AV.s n N), (Clu.AV.s (m + 1) (Clu.catN m M (Clu.pk (List.map Clu.u8N (List.take 1 (List.drop 0 (Clu.splice (HAppend.hAppend (List.flatten (List.replicate 1 [(Clu.AV.i IntKind.u8 (Int.ofNat 0))])) []) 0 [(Clu.AV.i IntKind.u8 (Int.ofNat (Clu.byteN N i)))]))))))), (Clu.AV.i IntKind.i64 (Int.ofNat (i + 1)))]))))) (Clu.needT ((Nat.blt (m + 1) 9223372036854775808)) (.err 10 5) (Clu.needT ((Clu.inR IntKind.i64 (Int.ofNat (i + 1)))) (.err 10 20) ((Clu.Out.ok (Clu.AV.tu [(Clu.AV.i IntKind.i64 (Int.ofNat 0)), (Clu.AV.s n N), (Clu.AV.s (m + 1) (Clu.catN m M (Clu.pk (List.map Clu.u8N (List.take 1 (List.drop 0 (Clu.splice (HAppend.hAppend (List.flatten (List.replicate 1 [(Clu.AV.i IntKind.u8 (Int.ofNat 0))])) []) 0 [(Clu.AV.i IntKind.u8 (Int.ofNat (Clu.modN (Int.ofNat ((Clu.byteN N i) + 32)) 256)))]))))))), (Clu.AV.i IntKind.i64 (Int.ofNat (i + 1)))])))))))) := by kernel_rfl
set_option linter.unusedVariables false in
theorem rlowS_0 (n N i m M : Nat) (os : Nat → Option Clu.AV) (hos : ∀ t, Clu.flatB (os t) = true)  (c1 : n ≤ i) : ∃ os' : Nat → Option Clu.AV, (∀ t, Clu.flatB (os' t) = true) ∧ Clu.RunE Try.prog 50 (Clu.loopNo Try.f36 0) 29 1000 (Clu.mkFr 29 (Clu.std [0, 3, 4] [.s n N, .s m M, .i .i64 (.ofNat i)] [9, 16, 17, 19, 20] os)) (Clu.mkH .e ([] ++ (Clu.layB []))) 1000 (Clu.exOf 2) (Clu.mkFr 29 (Clu.std [3] [(Clu.AV.s m M)] [9, 16, 17, 19, 20] os')) (Clu.mkH .e ([] ++ (Clu.layB []))) 1000 :=
  Clu.segM (vs := [(Clu.AV.s m M)]) (cs := []) 1 2 [3] [] (Clu.evL_ok Clu.plain (Clu.noX_ok) (Clu.drK_ok Clu.mixed) (Clu.noL_ok) 50) (Clu.layB_bs rfl (by decide) (by decide)) hos (((((((rlowS_raw n N i m M os)).trans (Clu.forkB_f (Clu.iLt_f (Int.ofNat_le.2 c1)) _ _)).trans (Clu.needT_eq (hos _) _ _)).trans (Clu.needT_eq (hos _) _ _)).trans (Clu.needT_eq (hos _) _ _)).trans (Clu.needT_eq (hos _) _ _)) rfl rfl rfl (by decide) rfl (by simp [Clu.Blk.und, Clu.AV.und, Clu.AV.unds]) rfl (Clu.newH_ro rfl) (by simp [Clu.AV.und, Clu.AV.unds, Clu.AV.cells, Clu.unds_splice])
set_option linter.unusedVariables false in
theorem rlowS_1 (n N i m M : Nat) (os : Nat → Option Clu.AV) (hos : ∀ t, Clu.flatB (os t) = true)  (c1 : i < n) (n1 : i < n := by omega) (c2 : (Clu.byteN N i) < 65) (n2 : (m + 1) < 9223372036854775808 := by omega) (n3 : (i + 1) < 9223372036854775808 := by omega) : ∃ os' : Nat → Option Clu.AV, (∀ t, Clu.flatB (os' t) = true) ∧ Clu.RunE Try.prog 50 (Clu.loopNo Try.f36 0) 29 1000 (Clu.mkFr 29 (Clu.std [0, 3, 4] [.s n N, .s m M, .i .i64 (.ofNat i)] [9, 16, 17, 19, 20] os)) (Clu.mkH .e ([] ++ (Clu.layB []))) 1000 (Clu.exOf 0) (Clu.mkFr 29 (Clu.std [0, 3, 4] [(Clu.AV.s n N), (Clu.AV.s (m + 1) (Clu.catN m M (Clu.pk (List.map Clu.u8N (List.take 1 (List.drop 0 (Clu.splice (HAppend.hAppend (List.flatten (List.replicate 1 [(Clu.AV.i IntKind.u8 (Int.ofNat 0))])) []) 0 [(Clu.AV.i IntKind.u8 (Int.ofNat (Clu.byteN N i)))]))))))), (Clu.AV.i IntKind.i64 (Int.ofNat (i + 1)))] [9, 16, 17, 19, 20] os')) (Clu.mkH .e ([] ++ (Clu.layB []))) 1000 :=
  Clu.segM (vs := [(Clu.AV.s n N), (Clu.AV.s (m + 1) (Clu.catN m M (Clu.pk (List.map Clu.u8N (List.take 1 (List.drop 0 (Clu.splice (HAppend.hAppend (List.flatten (List.replicate 1 [(Clu.AV.i IntKind.u8 (Int.ofNat 0))])) []) 0 [(Clu.AV.i IntKind.u8 (Int.ofNat (Clu.byteN N i)))]))))))), (Clu.AV.i IntKind.i64 (Int.ofNat (i + 1)))]) (cs := []) 0 0 [0, 3, 4] [] (Clu.evL_ok Clu.plain (Clu.noX_ok) (Clu.drK_ok Clu.mixed) (Clu.noL_ok) 50) (Clu.layB_bs rfl (by decide) (by decide)) hos (((((((rlowS_raw n N i m M os)).trans (Clu.forkB_t (Clu.iLt_t (Int.ofNat_lt.2 c1)) _ _)).trans (Clu.needT_eq (Clu.blt_iff.2 n1) _ _)).trans (Clu.forkB_f (congrArg not (Clu.iLt_t (Int.ofNat_lt.2 c2))) _ _)).trans (Clu.needT_eq (Clu.blt_iff.2 n2) _ _)).trans (Clu.needT_eq (Clu.inR_nat (k := .i64) n3) _ _)) rfl rfl rfl (by decide) rfl (by simp [Clu.Blk.und, Clu.AV.und, Clu.AV.unds]) rfl (Clu.newH_ro rfl) (by simp [Clu.AV.und, Clu.AV.unds, Clu.AV.cells, Clu.unds_splice])
set_option linter.unusedVariables false in
theorem rlowS_2 (n N i m M : Nat) (os : Nat → Option Clu.AV) (hos : ∀ t, Clu.flatB (os t) = true)  (c1 : i < n) (n1 : i < n := by omega) (c2 : 65 ≤ (Clu.byteN N i)) (c3 : 90 < (Clu.byteN N i)) (n2 : (m + 1) < 9223372036854775808 := by omega) (n3 : (i + 1) < 9223372036854775808 := by omega) : ∃ os' : Nat → Option Clu.AV, (∀ t, Clu.flatB (os' t) = true) ∧ Clu.RunE Try.prog 50 (Clu.loopNo Try.f36 0) 29 1000 (Clu.mkFr 29 (Clu.std [0, 3, 4] [.s n N, .s m M, .i .i64 (.ofNat i)] [9, 16, 17, 19, 20] os)) (Clu.mkH .e ([] ++ (Clu.layB []))) 1000 (Clu.exOf 0) (Clu.mkFr 29 (Clu.std [0, 3, 4] [(Clu.AV.s n N), (Clu.AV.s (m + 1) (Clu.catN m M (Clu.pk (List.map Clu.u8N (List.take 1 (List.drop 0 (Clu.splice (HAppend.hAppend (List.flatten (List.replicate 1 [(Clu.AV.i IntKind.u8 (Int.ofNat 0))])) []) 0 [(Clu.AV.i IntKind.u8 (Int.ofNat (Clu.byteN N i)))]))))))), (Clu.AV.i IntKind.i64 (Int.ofNat (i + 1)))] [9, 16, 17, 19, 20] os')) (Clu.mkH .e ([] ++ (Clu.layB []))) 1000 :=
  Clu.segM (vs := [(Clu.AV.s n N), (Clu.AV.s (m + 1) (Clu.catN m M (Clu.pk (List.map Clu.u8N (List.take 1 (List.drop 0 (Clu.splice (HAppend.hAppend (List.flatten (List.replicate 1 [(Clu.AV.i IntKind.u8 (Int.ofNat 0))])) []) 0 [(Clu.AV.i IntKind.u8 (Int.ofNat (Clu.byteN N i)))]))))))), (Clu.AV.i IntKind.i64 (Int.ofNat (i + 1)))]) (cs := []) 0 0 [0, 3, 4] [] (Clu.evL_ok Clu.plain (Clu.noX_ok) (Clu.drK_ok Clu.mixed) (Clu.noL_ok) 50) (Clu.layB_bs rfl (by decide) (by decide)) hos ((((((((rlowS_raw n N i m M os)).trans (Clu.forkB_t (Clu.iLt_t (Int.ofNat_lt.2 c1)) _ _)).trans (Clu.needT_eq (Clu.blt_iff.2 n1) _ _)).trans (Clu.forkB_t (congrArg not (Clu.iLt_f (Int.ofNat_le.2 c2))) _ _)).trans (Clu.forkB_f (congrArg not (Clu.iLt_t (Int.ofNat_lt.2 c3))) _ _)).trans (Clu.needT_eq (Clu.blt_iff.2 n2) _ _)).trans (Clu.needT_eq (Clu.inR_nat (k := .i64) n3) _ _)) rfl rfl rfl (by decide) rfl (by simp [Clu.Blk.und, Clu.AV.und, Clu.AV.unds]) rfl (Clu.newH_ro rfl) (by simp [Clu.AV.und, Clu.AV.unds, Clu.AV.cells, Clu.unds_splice])
set_option linter.unusedVariables false in
theorem rlowS_3 (n N i m M : Nat) (os : Nat → Option Clu.AV) (hos : ∀ t, Clu.flatB (os t) = true)  (c1 : i < n) (n1 : i < n := by omega) (c2 : 65 ≤ (Clu.byteN N i)) (c3 : (Clu.byteN N i) ≤ 90) (n2 : (m + 1) < 9223372036854775808 := by omega) (n3 : (i + 1) < 9223372036854775808 := by omega) : ∃ os' : Nat → Option Clu.AV, (∀ t, Clu.flatB (os' t) = true) ∧ Clu.RunE Try.prog 50 (Clu.loopNo Try.f36 0) 29 1000 (Clu.mkFr 29 (Clu.std [0, 3, 4] [.s n N, .s m M, .i .i64 (.ofNat i)] [9, 16, 17, 19, 20] os)) (Clu.mkH .e ([] ++ (Clu.layB []))) 1000 (Clu.exOf 0) (Clu.mkFr 29 (Clu.std [0, 3, 4] [(Clu.AV.s n N), (Clu.AV.s (m + 1) (Clu.catN m M (Clu.pk (List.map Clu.u8N (List.take 1 (List.drop 0 (Clu.splice (HAppend.hAppend (List.flatten (List.replicate 1 [(Clu.AV.i IntKind.u8 (Int.ofNat 0))])) []) 0 [(Clu.AV.i IntKind.u8 (Int.ofNat (Clu.modN (Int.ofNat ((Clu.byteN N i) + 32)) 256)))]))))))), (Clu.AV.i IntKind.i64 (Int.ofNat (i + 1)))] [9, 16, 17, 19, 20] os')) (Clu.mkH .e ([] ++ (Clu.layB []))) 1000 :=
  Clu.segM (vs := [(Clu.AV.s n N), (Clu.AV.s (m + 1) (Clu.catN m M (Clu.pk (List.map Clu.u8N (List.take 1 (List.drop 0 (Clu.splice (HAppend.hAppend (List.flatten (List.replicate 1 [(Clu.AV.i IntKind.u8 (Int.ofNat 0))])) []) 0 [(Clu.AV.i IntKind.u8 (Int.ofNat (Clu.modN (Int.ofNat ((Clu.byteN N i) + 32)) 256)))]))))))), (Clu.AV.i IntKind.i64 (Int.ofNat (i + 1)))]) (cs := []) 0 0 [0, 3, 4] [] (Clu.evL_ok Clu.plain (Clu.noX_ok) (Clu.drK_ok Clu.mixed) (Clu.noL_ok) 50) (Clu.layB_bs rfl (by decide) (by decide)) hos ((((((((rlowS_raw n N i m M os)).trans (Clu.forkB_t (Clu.iLt_t (Int.ofNat_lt.2 c1)) _ _)).trans (Clu.needT_eq (Clu.blt_iff.2 n1) _ _)).trans (Clu.forkB_t (congrArg not (Clu.iLt_f (Int.ofNat_le.2 c2))) _ _)).trans (Clu.forkB_t (congrArg not (Clu.iLt_f (Int.ofNat_le.2 c3))) _ _)).trans (Clu.needT_eq (Clu.blt_iff.2 n2) _ _)).trans (Clu.needT_eq (Clu.inR_nat (k := .i64) n3) _ _)) rfl rfl rfl (by decide) rfl (by simp [Clu.Blk.und, Clu.AV.und, Clu.AV.unds]) rfl (Clu.newH_ro rfl) (by simp [Clu.AV.und, Clu.AV.unds, Clu.AV.cells, Clu.unds_splice])
set_option maxRecDepth 10000000 in
theorem rlowF_raw (n N m M : Nat) : (Clu.layK [] .e fun h => Clu.runL (Clu.addL (Clu.noL) (Clu.loopNo Try.f36 0) 3 (Clu.loopM [3000018, 3000034, 3000040] Try.prog (Clu.loopNo Try.f36 0) [0, 3, 4] [9, 16, 17, 19, 20] [] [] (fun _ _ _ => .leaf (2, [3], [.s m M], [], 1000)))) Try.prog (Clu.tell (Clu.noX) 36 300004030000343000018) ((n + 1000)) 1000 36 [.s n N] h 1000) = Clu.needP ((Clu.loopNo Try.f36 0) = (Clu.loopNo Try.f36 0)) (fun _ => .err 91 0) (fun h600 => Clu.needP (Clu.LoopQ (Try.prog) ((Clu.loopNo Try.f36 0)) ((n + 995)) (29) (1000) ([]) (1000) (2) ([0, 3, 4]) ([(Clu.AV.s n N), (Clu.AV.s 0 0), (Clu.AV.i IntKind.i64 (Int.ofNat 0))]) ([9, 16, 17, 19, 20]) ([3]) ([(Clu.AV.s m M)]) ([]) (1000)) (fun _ => .err 93 1) (fun h599 => (Clu.Out.ok (Clu.AV.s m M)))) := by kernel_rfl
set_option linter.unusedVariables false in
theorem rlowF_0 (n N m M : Nat)  (p_h599 : Clu.LoopQ (Try.prog) ((Clu.loopNo Try.f36 0)) ((n + 995)) (29) (1000) ([]) (1000) (2) ([0, 3, 4]) ([(Clu.AV.s n N), (Clu.AV.s 0 0), (Clu.AV.i IntKind.i64 (Int.ofNat 0))]) ([9, 16, 17, 19, 20]) ([3]) ([(Clu.AV.s m M)]) ([]) (1000)) : Clu.Fact Try.prog 36 [] [.s n N] (Clu.AV.s m M) :=
  Clu.factL Clu.plain (Clu.tell_ok (Clu.noX_ok)) Clu.mixed (Clu.addL_ok (Clu.noL_ok) Clu.loopM_ok) ((((rlowF_raw n N m M)).trans (Clu.needP_eq rfl _ _)).trans (Clu.needP_eq p_h599 _ _)) rfl (rfl)
set_option maxRecDepth 10000000 in
theorem bytS_raw (d k i m M : Nat) (cs : List Clu.AV) (os : Nat → Option Clu.AV) : Clu.evL (Clu.noL) Try.prog (Clu.noX) 50 28 1001 (Clu.loopNo Try.f34 0) (Clu.tellF [3000016] (Clu.mkFr 28 (Clu.std [0, 3, 4] [.so 1000 d 1 k, .s m M, .i .i64 (.ofNat i)] [8] os))) (Clu.mkH (Clu.mkH .e (Clu.argB (Clu.rowsAt 1000 [cs]) ++ Clu.layB [])) []) 1001 (Clu.finM 28 1001 [8] 0 [(0, [0, 3, 4], [], none), (2, [3], [], none)]) = Clu.forkB ((Clu.iLt (Int.ofNat i) (Int.ofNat k))) ((Clu.Out.ok (Clu.AV.tu [(Clu.AV.i IntKind.i64 (Int.ofNat 1)), (Clu.AV.s m M)]))) (Clu.needT ((Nat.blt i k)) (.err 22 0) (Clu.needT ((Clu.isS (Clu.getL cs ((d * 1) + (i * 1))))) (.err 8 2) (Clu.needT ((Nat.blt (m + 1) 9223372036854775808)) (.err 10 5) (Clu.needT ((Nat.blt i k)) (.err 22 0) (Clu.needT ((Clu.isS (Clu.getL cs ((d * 1) + (i * 1))))) (.err 8 2) (Clu.needT ((Nat.blt ((m + 1) + (Clu.sN (Clu.getL cs ((d * 1) + (i * 1))))) 9223372036854775808)) (.err 10 5) (Clu.needT ((Clu.inR IntKind.i64 (Int.ofNat (i + 1)))) (.err 10 20) ((Clu.Out.ok (Clu.AV.tu [(Clu.AV.i IntKind.i64 (Int.ofNat 0)), (Clu.AV.so 1000 d 1 k), (Clu.AV.s ((m + 1) + (Clu.sN (Clu.getL cs ((d * 1) + (i * 1))))) (Clu.catN (m + 1) (Clu.catN m M (Clu.pk (List.map Clu.u8N (List.take 1 (List.drop 0 (Clu.splice (HAppend.hAppend (List.flatten (List.replicate 1 [(Clu.AV.i IntKind.u8 (Int.ofNat 0))])) []) 0 [(Clu.AV.i IntKind.u8 (Int.ofNat (Clu.modN (Int.ofNat (Clu.sN (Clu.getL cs ((d * 1) + (i * 1))))) 256)))])))))) (Clu.sNN (Clu.getL cs ((d * 1) + (i * 1)))))), (Clu.AV.i IntKind.i64 (Int.ofNat (i + 1)))])))))))))) := by kernel_rfl
set_option linter.unusedVariables false in
theorem bytS_0 (d k i m M : Nat) (cs : List Clu.AV) (os : Nat → Option Clu.AV) (hos : ∀ t, Clu.flatB (os t) = true) (hu : Clu.AV.flts cs = true) (c1 : k ≤ i) : ∃ os' : Nat → Option Clu.AV, (∀ t, Clu.flatB (os' t) = true) ∧ Clu.RunE Try.prog 50 (Clu.loopNo Try.f34 0) 28 1001 (Clu.mkFr 28 (Clu.std [0, 3, 4] [.so 1000 d 1 k, .s m M, .i .i64 (.ofNat i)] [8] os)) (Clu.mkH .e ([] ++ (Clu.argB (Clu.rowsAt 1000 [cs]) ++ Clu.layB []))) 1001 (Clu.exOf 2) (Clu.mkFr 28 (Clu.std [3] [(Clu.AV.s m M)] [8] os')) (Clu.mkH .e ([] ++ (Clu.argB (Clu.rowsAt 1000 [cs]) ++ Clu.layB []))) 1001 :=
  Clu.segM (vs := [(Clu.AV.s m M)]) (cs := []) 1 2 [3] [] (Clu.evL_ok Clu.plain (Clu.noX_ok) (Clu.drK_ok Clu.mixed) (Clu.noL_ok) 50) (Clu.argB_bs rfl (by simp [Clu.rowsAt, hu]) (by decide) (by decide)) hos (((bytS_raw d k i m M cs os)).trans (Clu.forkB_f (Clu.iLt_f (Int.ofNat_le.2 c1)) _ _)) rfl rfl rfl (by decide) rfl (by simp [Clu.Blk.und, Clu.AV.und, Clu.AV.unds]) rfl (Clu.newH_ro rfl) (by simp [Clu.AV.und, Clu.AV.unds, Clu.AV.cells, Clu.unds_splice])
set_option linter.unusedVariables false in
theorem bytS_1 (d k i m M : Nat) (cs : List Clu.AV) (os : Nat → Option Clu.AV) (hos : ∀ t, Clu.flatB (os t) = true) (hu : Clu.AV.flts cs = true) (c1 : i < k) (n1 : i < k := by omega) (n2 : (Clu.isS (Clu.getL cs ((d * 1) + (i * 1)))) = true) (n3 : (m + 1) < 9223372036854775808 := by omega) (n4 : i < k := by omega) (n5 : (Clu.isS (Clu.getL cs ((d * 1) + (i * 1)))) = true) (n6 : ((m + 1) + (Clu.sN (Clu.getL cs ((d * 1) + (i * 1))))) < 9223372036854775808 := by omega) (n7 : (i + 1) < 9223372036854775808 := by omega) : ∃ os' : Nat → Option Clu.AV, (∀ t, Clu.flatB (os' t) = true) ∧ Clu.RunE Try.prog 50 (Clu.loopNo Try.f34 0) 28 1001 (Clu.mkFr 28 (Clu.std [0, 3, 4] [.so 1000 d 1 k, .s m M, .i .i64 (.ofNat i)] [8] os)) (Clu.mkH .e ([] ++ (Clu.argB (Clu.rowsAt 1000 [cs]) ++ Clu.layB []))) 1001 (Clu.exOf 0) (Clu.mkFr 28 (Clu.std [0, 3, 4] [(Clu.AV.so 1000 d 1 k), (Clu.AV.s ((m + 1) + (Clu.sN (Clu.getL cs ((d * 1) + (i * 1))))) (Clu.catN (m + 1) (Clu.catN m M (Clu.pk (List.map Clu.u8N (List.take 1 (List.drop 0 (Clu.splice (HAppend.hAppend (List.flatten (List.replicate 1 [(Clu.AV.i IntKind.u8 (Int.ofNat 0))])) []) 0 [(Clu.AV.i IntKind.u8 (Int.ofNat (Clu.modN (Int.ofNat (Clu.sN (Clu.getL cs ((d * 1) + (i * 1))))) 256)))])))))) (Clu.sNN (Clu.getL cs ((d * 1) + (i * 1)))))), (Clu.AV.i IntKind.i64 (Int.ofNat (i + 1)))] [8] os')) (Clu.mkH .e ([] ++ (Clu.argB (Clu.rowsAt 1000 [cs]) ++ Clu.layB []))) 1001 :=
  Clu.segM (vs := [(Clu.AV.so 1000 d 1 k), (Clu.AV.s ((m + 1) + (Clu.sN (Clu.getL cs ((d * 1) + (i * 1))))) (Clu.catN (m + 1) (Clu.catN m M (Clu.pk (List.map Clu.u8N (List.take 1 (List.drop 0 (Clu.splice (HAppend.hAppend (List.flatten (List.replicate 1 [(Clu.AV.i IntKind.u8 (Int.ofNat 0))])) []) 0 [(Clu.AV.i IntKind.u8 (Int.ofNat (Clu.modN (Int.ofNat (Clu.sN (Clu.getL cs ((d * 1) + (i * 1))))) 256)))])))))) (Clu.sNN (Clu.getL cs ((d * 1) + (i * 1)))))), (Clu.AV.i IntKind.i64 (Int.ofNat (i + 1)))]) (cs := []) 0 0 [0, 3, 4] [] (Clu.evL_ok Clu.plain (Clu.noX_ok) (Clu.drK_ok Clu.mixed) (Clu.noL_ok) 50) (Clu.argB_bs rfl (by simp [Clu.rowsAt, hu]) (by decide) (by decide)) hos ((((((((((bytS_raw d k i m M cs os)).trans (Clu.forkB_t (Clu.iLt_t (Int.ofNat_lt.2 c1)) _ _)).trans (Clu.needT_eq (Clu.blt_iff.2 n1) _ _)).trans (Clu.needT_eq (n2) _ _)).trans (Clu.needT_eq (Clu.blt_iff.2 n3) _ _)).trans (Clu.needT_eq (Clu.blt_iff.2 n4) _ _)).trans (Clu.needT_eq (n5) _ _)).trans (Clu.needT_eq (Clu.blt_iff.2 n6) _ _)).trans (Clu.needT_eq (Clu.inR_nat (k := .i64) n7) _ _)) rfl rfl rfl (by decide) rfl (by simp [Clu.Blk.und, Clu.AV.und, Clu.AV.unds]) rfl (Clu.newH_ro rfl) (by simp [Clu.AV.und, Clu.AV.unds, Clu.AV.cells, Clu.unds_splice])
set_option maxRecDepth 10000000 in
theorem bytZ_raw (i m M : Nat) (os : Nat → Option Clu.AV) : Clu.evL (Clu.noL) Try.prog (Clu.noX) 50 28 1000 (Clu.loopNo Try.f34 0) (Clu.tellF [3000016] (Clu.mkFr 28 (Clu.std [0, 3, 4] [.sn, .s m M, .i .i64 (.ofNat i)] [8] os))) (Clu.mkH (Clu.mkH .e (Clu.layB [])) []) 1000 (Clu.finM 28 1000 [8] 0 [(0, [0, 3, 4], [], none), (2, [3], [], none)]) = (Clu.Out.ok (Clu.AV.tu [(Clu.AV.i IntKind.i64 (Int.ofNat 1)), (Clu.AV.s m M)])) := by kernel_rfl
set_option linter.unusedVariables false in
theorem bytZ_0 (i m M : Nat) (os : Nat → Option Clu.AV) (hos : ∀ t, Clu.flatB (os t) = true)   : ∃ os' : Nat → Option Clu.AV, (∀ t, Clu.flatB (os' t) = true) ∧ Clu.RunE Try.prog 50 (Clu.loopNo Try.f34 0) 28 1000 (Clu.mkFr 28 (Clu.std [0, 3, 4] [.sn, .s m M, .i .i64 (.ofNat i)] [8] os)) (Clu.mkH .e ([] ++ (Clu.layB []))) 1000 (Clu.exOf 2) (Clu.mkFr 28 (Clu.std [3] [(Clu.AV.s m M)] [8] os')) (Clu.mkH .e ([] ++ (Clu.layB []))) 1000 :=
  Clu.segM (vs := [(Clu.AV.s m M)]) (cs := []) 1 2 [3] [] (Clu.evL_ok Clu.plain (Clu.noX_ok) (Clu.drK_ok Clu.mixed) (Clu.noL_ok) 50) (Clu.layB_bs rfl (by decide) (by decide)) hos ((bytZ_raw i m M os)) rfl rfl rfl (by decide) rfl (by simp [Clu.Blk.und, Clu.AV.und, Clu.AV.unds]) rfl (Clu.newH_ro rfl) (by simp [Clu.AV.und, Clu.AV.unds, Clu.AV.cells, Clu.unds_splice])
set_option maxRecDepth 10000000 in
theorem bytF_raw (d k m M : Nat) (cs : List Clu.AV) : (Clu.runV (Clu.addL (Clu.noL) (Clu.loopNo Try.f34 0) 3 (Clu.loopM [3000016] Try.prog (Clu.loopNo Try.f34 0) [0, 3, 4] [8] [1000] [] (fun _ _ _ => .leaf (2, [3], [.s m M], [], 1001)))) Try.prog (Clu.tell (Clu.noX) 34 3000016) ((k + 1000)) 1001 34 [.so 1000 d 1 k] (Clu.mkH .e (Clu.argB (Clu.rowsAt 1000 [cs]) ++ Clu.layB [])) 1001 [[]]) = Clu.needP ((Clu.loopNo Try.f34 0) = (Clu.loopNo Try.f34 0)) (fun _ => .err 91 0) (fun h600 => Clu.needP (Clu.LoopQ (Try.prog) ((Clu.loopNo Try.f34 0)) ((k + 995)) (28) (1001) (([] ++ [(1000, (Clu.Blk.c cs 1000000000000000000000 0 Option.none))])) (1001) (2) ([0, 3, 4]) ([(Clu.AV.so 1000 d 1 k), (Clu.AV.s 0 0), (Clu.AV.i IntKind.i64 (Int.ofNat 0))]) ([8]) ([3]) ([(Clu.AV.s m M)]) (([] ++ [(1000, (Clu.Blk.c cs 1000000000000000000000 0 Option.none))])) (1001)) (fun _ => .err 93 1) (fun h599 => Clu.needT ((Nat.blt (m + 1) 9223372036854775808)) (.err 10 5) ((Clu.Out.ok (Clu.AV.tu [(Clu.AV.i IntKind.i64 (Int.ofNat 0)), (Clu.AV.s (m + 1) (Clu.catN m M 0))]))))) := by kernel_rfl
set_option linter.unusedVariables false in
theorem bytF_0 (d k m M : Nat) (cs : List Clu.AV) (hu : Clu.AV.flts cs = true) (p_h599 : Clu.LoopQ (Try.prog) ((Clu.loopNo Try.f34 0)) ((k + 995)) (28) (1001) (([] ++ [(1000, (Clu.Blk.c cs 1000000000000000000000 0 Option.none))])) (1001) (2) ([0, 3, 4]) ([(Clu.AV.so 1000 d 1 k), (Clu.AV.s 0 0), (Clu.AV.i IntKind.i64 (Int.ofNat 0))]) ([8]) ([3]) ([(Clu.AV.s m M)]) (([] ++ [(1000, (Clu.Blk.c cs 1000000000000000000000 0 Option.none))])) (1001)) (n1 : (m + 1) < 9223372036854775808 := by omega) : Clu.RowOK Try.prog 34 [] [.so 1000 d 1 k] [cs] (Clu.AV.s (m + 1) (Clu.catN m M 0)) [] :=
  ⟨by simp [hu], (by simp [Clu.AV.flts, Clu.AV.flt]), (fun x h => by cases h), Clu.con_new (v := (Clu.AV.s (m + 1) (Clu.catN m M 0))) (cs := []) (alts := [[]]) (gl := Clu.argB (Clu.rowsAt 1000 [cs]) ++ Clu.layB []) Clu.plain (Clu.tell_ok (Clu.noX_ok)) (Clu.drK_ok Clu.mixed) (Clu.addL_ok (Clu.noL_ok) Clu.loopM_ok) 0 [] (Clu.AV.s (m + 1) (Clu.catN m M 0)) (((((bytF_raw d k m M cs)).trans (Clu.needP_eq rfl _ _)).trans (Clu.needP_eq p_h599 _ _)).trans (Clu.needT_eq (Clu.blt_iff.2 n1) _ _)) rfl (Clu.argB_bs rfl (by simp [Clu.rowsAt, hu]) (by first | decide | simp) (by first | decide | simp)) (by first | decide | simp) rfl rfl rfl (fun x h => by cases h) (by simp [Clu.AV.flts, Clu.AV.flt]) rfl (by decide) (by simp)⟩
set_option maxRecDepth 10000000 in
theorem bytG_raw (m M : Nat) : (Clu.runV (Clu.addL (Clu.noL) (Clu.loopNo Try.f34 0) 3 (Clu.loopM [3000016] Try.prog (Clu.loopNo Try.f34 0) [0, 3, 4] [8] [] [] (fun _ _ _ => .leaf (2, [3], [.s m M], [], 1000)))) Try.prog (Clu.tell (Clu.noX) 34 3000016) (1000) 1000 34 [.sn] (Clu.mkH .e (Clu.argB (Clu.rowsAt 1000 []) ++ Clu.layB [])) 1000 [[]]) = Clu.needP ((Clu.loopNo Try.f34 0) = (Clu.loopNo Try.f34 0)) (fun _ => .err 91 0) (fun h600 => Clu.needP (Clu.LoopQ (Try.prog) ((Clu.loopNo Try.f34 0)) (995) (28) (1000) ([]) (1000) (2) ([0, 3, 4]) ([Clu.AV.sn, (Clu.AV.s 0 0), (Clu.AV.i IntKind.i64 (Int.ofNat 0))]) ([8]) ([3]) ([(Clu.AV.s m M)]) ([]) (1000)) (fun _ => .err 93 1) (fun h599 => Clu.needT ((Nat.blt (m + 1) 9223372036854775808)) (.err 10 5) ((Clu.Out.ok (Clu.AV.tu [(Clu.AV.i IntKind.i64 (Int.ofNat 0)), (Clu.AV.s (m + 1) (Clu.catN m M 0))]))))) := by kernel_rfl
set_option linter.unusedVariables false in
theorem bytG_0 (m M : Nat)  (p_h599 : Clu.LoopQ (Try.prog) ((Clu.loopNo Try.f34 0)) (995) (28) (1000) ([]) (1000) (2) ([0, 3, 4]) ([Clu.AV.sn, (Clu.AV.s 0 0), (Clu.AV.i IntKind.i64 (Int.ofNat 0))]) ([8]) ([3]) ([(Clu.AV.s m M)]) ([]) (1000)) (n1 : (m + 1) < 9223372036854775808 := by omega) : Clu.RowOK Try.prog 34 [] [.sn] [] (Clu.AV.s (m + 1) (Clu.catN m M 0)) [] :=
  ⟨by simp, (by simp [Clu.AV.flts, Clu.AV.flt]), (fun x h => by cases h), Clu.con_new (v := (Clu.AV.s (m + 1) (Clu.catN m M 0))) (cs := []) (alts := [[]]) (gl := Clu.argB (Clu.rowsAt 1000 []) ++ Clu.layB []) Clu.plain (Clu.tell_ok (Clu.noX_ok)) (Clu.drK_ok Clu.mixed) (Clu.addL_ok (Clu.noL_ok) Clu.loopM_ok) 0 [] (Clu.AV.s (m + 1) (Clu.catN m M 0)) (((((bytG_raw m M)).trans (Clu.needP_eq rfl _ _)).trans (Clu.needP_eq p_h599 _ _)).trans (Clu.needT_eq (Clu.blt_iff.2 n1) _ _)) rfl (Clu.argB_bs rfl (by simp [Clu.rowsAt]) (by first | decide | simp) (by first | decide | simp)) (by first | decide | simp) rfl rfl rfl (fun x h => by cases h) (by simp [Clu.AV.flts, Clu.AV.flt]) rfl (by decide) (by simp)⟩
set_option maxRecDepth 10000000 in
theorem bytE_raw (i m M : Nat) (os : Nat → Option Clu.AV) : Clu.evL (Clu.noL) Try.prog (Clu.noX) 50 28 1000 (Clu.loopNo Try.f34 0) (Clu.tellF [3000016] (Clu.mkFr 28 (Clu.std [0, 3, 4] [.se, .s m M, .i .i64 (.ofNat i)] [8] os))) (Clu.mkH (Clu.mkH .e (Clu.layB [])) []) 1000 (Clu.finM 28 1000 [8] 0 [(0, [0, 3, 4], [], none), (2, [3], [], none)]) = (Clu.Out.ok (Clu.AV.tu [(Clu.AV.i IntKind.i64 (Int.ofNat 1)), (Clu.AV.s m M)])) := by kernel_rfl
set_option linter.unusedVariables false in
theorem bytE_0 (i m M : Nat) (os : Nat → Option Clu.AV) (hos : ∀ t, Clu.flatB (os t) = true)   : ∃ os' : Nat → Option Clu.AV, (∀ t, Clu.flatB (os' t) = true) ∧ Clu.RunE Try.prog 50 (Clu.loopNo Try.f34 0) 28 1000 (Clu.mkFr 28 (Clu.std [0, 3, 4] [.se, .s m M, .i .i64 (.ofNat i)] [8] os)) (Clu.mkH .e ([] ++ (Clu.layB []))) 1000 (Clu.exOf 2) (Clu.mkFr 28 (Clu.std [3] [(Clu.AV.s m M)] [8] os')) (Clu.mkH .e ([] ++ (Clu.layB []))) 1000 :=
  Clu.segM (vs := [(Clu.AV.s m M)]) (cs := []) 1 2 [3] [] (Clu.evL_ok Clu.plain (Clu.noX_ok) (Clu.drK_ok Clu.mixed) (Clu.noL_ok) 50) (Clu.layB_bs rfl (by decide) (by decide)) hos ((bytE_raw i m M os)) rfl rfl rfl (by decide) rfl (by simp [Clu.Blk.und, Clu.AV.und, Clu.AV.unds]) rfl (Clu.newH_ro rfl) (by simp [Clu.AV.und, Clu.AV.unds, Clu.AV.cells, Clu.unds_splice])
set_option maxRecDepth 10000000 in
theorem bytH_raw (m M : Nat) : (Clu.runV (Clu.addL (Clu.noL) (Clu.loopNo Try.f34 0) 3 (Clu.loopM [3000016] Try.prog (Clu.loopNo Try.f34 0) [0, 3, 4] [8] [] [] (fun _ _ _ => .leaf (2, [3], [.s m M], [], 1000)))) Try.prog (Clu.tell (Clu.noX) 34 3000016) (1000) 1000 34 [.se] (Clu.mkH .e (Clu.argB (Clu.rowsAt 1000 []) ++ Clu.layB [])) 1000 [[]]) = Clu.needP ((Clu.loopNo Try.f34 0) = (Clu.loopNo Try.f34 0)) (fun _ => .err 91 0) (fun h600 => Clu.needP (Clu.LoopQ (Try.prog) ((Clu.loopNo Try.f34 0)) (995) (28) (1000) ([]) (1000) (2) ([0, 3, 4]) ([Clu.AV.se, (Clu.AV.s 0 0), (Clu.AV.i IntKind.i64 (Int.ofNat 0))]) ([8]) ([3]) ([(Clu.AV.s m M)]) ([]) (1000)) (fun _ => .err 93 1) (fun h599 => Clu.needT ((Nat.blt (m + 1) 9223372036854775808)) (.err 10 5) ((Clu.Out.ok (Clu.AV.tu [(Clu.AV.i IntKind.i64 (Int.ofNat 0)), (Clu.AV.s (m + 1) (Clu.catN m M 0))]))))) := by kernel_rfl
set_option linter.unusedVariables false in
theorem bytH_0 (m M : Nat)  (p_h599 : Clu.LoopQ (Try.prog) ((Clu.loopNo Try.f34 0)) (995) (28) (1000) ([]) (1000) (2) ([0, 3, 4]) ([Clu.AV.se, (Clu.AV.s 0 0), (Clu.AV.i IntKind.i64 (Int.ofNat 0))]) ([8]) ([3]) ([(Clu.AV.s m M)]) ([]) (1000)) (n1 : (m + 1) < 9223372036854775808 := by omega) : Clu.RowOK Try.prog 34 [] [.se] [] (Clu.AV.s (m + 1) (Clu.catN m M 0)) [] :=
  ⟨by simp, (by simp [Clu.AV.flts, Clu.AV.flt]), (fun x h => by cases h), Clu.con_new (v := (Clu.AV.s (m + 1) (Clu.catN m M 0))) (cs := []) (alts := [[]]) (gl := Clu.argB (Clu.rowsAt 1000 []) ++ Clu.layB []) Clu.plain (Clu.tell_ok (Clu.noX_ok)) (Clu.drK_ok Clu.mixed) (Clu.addL_ok (Clu.noL_ok) Clu.loopM_ok) 0 [] (Clu.AV.s (m + 1) (Clu.catN m M 0)) (((((bytH_raw m M)).trans (Clu.needP_eq rfl _ _)).trans (Clu.needP_eq p_h599 _ _)).trans (Clu.needT_eq (Clu.blt_iff.2 n1) _ _)) rfl (Clu.argB_bs rfl (by simp [Clu.rowsAt]) (by first | decide | simp) (by first | decide | simp)) (by first | decide | simp) rfl rfl rfl (fun x h => by cases h) (by simp [Clu.AV.flts, Clu.AV.flt]) rfl (by decide) (by simp)⟩
set_option maxRecDepth 10000000 in
theorem rmayF_raw (is em : Nat → Nat → Bool) (kk : Nat → Nat → Nat) (ls : Nat → Nat → List Clu.AV) (n N : Nat) : (Clu.layK [] .e fun h => Clu.runL (Clu.noL) Try.prog (Clu.tell (Clu.addB (Clu.noX) 12 (Clu.rowH [] (labH is em kk ls))) 41 0) (1000) 1000 41 [.s n N] h 1000) = Clu.needT ((Nat.blt n 1000001)) (.err 96 1) (Clu.forkB ((is n N)) ((Clu.Out.ok (Clu.AV.b false))) (Clu.forkB ((em n N)) ((Clu.Out.ok (Clu.AV.b true))) ((Clu.Out.ok (Clu.AV.b true))))) := by kernel_rfl
set_option linter.unusedVariables false in
theorem rmayF_0 (is em : Nat → Nat → Bool) (kk : Nat → Nat → Nat) (ls : Nat → Nat → List Clu.AV) (n N : Nat) (hX : Clu.XOK Try.prog (Clu.addB (Clu.noX) 12 (Clu.rowH [] (labH is em kk ls))))  (n1 : n < 1000001 := by omega) (c1 : (is n N) = false) : Clu.Fact Try.prog 41 [] [.s n N] (Clu.AV.b false) :=
  Clu.factL Clu.plain (Clu.tell_ok (hX)) Clu.mixed (Clu.noL_ok) ((((rmayF_raw is em kk ls n N)).trans (Clu.needT_eq (Clu.blt_iff.2 n1) _ _)).trans (Clu.forkB_f (c1) _ _)) rfl (rfl)
set_option linter.unusedVariables false in
theorem rmayF_1 (is em : Nat → Nat → Bool) (kk : Nat → Nat → Nat) (ls : Nat → Nat → List Clu.AV) (n N : Nat) (hX : Clu.XOK Try.prog (Clu.addB (Clu.noX) 12 (Clu.rowH [] (labH is em kk ls))))  (n1 : n < 1000001 := by omega) (c1 : (is n N) = true) (c2 : (em n N) = false) : Clu.Fact Try.prog 41 [] [.s n N] (Clu.AV.b true) :=
  Clu.factL Clu.plain (Clu.tell_ok (hX)) Clu.mixed (Clu.noL_ok) (((((rmayF_raw is em kk ls n N)).trans (Clu.needT_eq (Clu.blt_iff.2 n1) _ _)).trans (Clu.forkB_t (c1) _ _)).trans (Clu.forkB_f (c2) _ _)) rfl (rfl)
set_option linter.unusedVariables false in
theorem rmayF_2 (is em : Nat → Nat → Bool) (kk : Nat → Nat → Nat) (ls : Nat → Nat → List Clu.AV) (n N : Nat) (hX : Clu.XOK Try.prog (Clu.addB (Clu.noX) 12 (Clu.rowH [] (labH is em kk ls))))  (n1 : n < 1000001 := by omega) (c1 : (is n N) = true) (c2 : (em n N) = true) : Clu.Fact Try.prog 41 [] [.s n N] (Clu.AV.b true) :=
  Clu.factL Clu.plain (Clu.tell_ok (hX)) Clu.mixed (Clu.noL_ok) (((((rmayF_raw is em kk ls n N)).trans (Clu.needT_eq (Clu.blt_iff.2 n1) _ _)).trans (Clu.forkB_t (c1) _ _)).trans (Clu.forkB_t (c2) _ _)) rfl (rfl)
set_option maxRecDepth 10000000 in
theorem rparF_raw (is em : Nat → Nat → Bool) (kk : Nat → Nat → Nat) (ls : Nat → Nat → List Clu.AV) (lw : Nat → Nat → Nat) (bk : List Clu.AV → Nat → Nat → Bool) (bn bN : List Clu.AV → Nat → Nat) (n N : Nat) : (Clu.layK [] .e fun h => Clu.runL (Clu.noL) Try.prog (Clu.tell (Clu.addB (Clu.addB (Clu.addB (Clu.noX) 12 (Clu.rowH [] (labH is em kk ls))) 36 (Clu.decH (rlH lw))) 34 (Clu.rowH [] (byH bk bn bN))) 16 30000343000026) (1000) 1000 16 [.s n N] h 1000) = Clu.needT ((Nat.blt n 1000001)) (.err 96 1) (Clu.forkB ((is n N)) ((Clu.Out.ok (Clu.AV.tu [(Clu.AV.s 0 0), (Clu.AV.b false)]))) (Clu.forkB ((em n N)) (Clu.forkB ((Clu.iEq (Int.ofNat (kk n N)) (Int.ofNat 0))) (Clu.needT ((Nat.ble 1 (kk n N))) (.err 20 0) (Clu.needT ((Nat.ble ((0 + (kk n N)) * 1) ((List.length (ls n N)) + 0))) (.err 21 4) (Clu.forkB ((Nat.blt 1 ((List.length (ls n N)) + 0))) (Clu.needT ((Nat.beq (kk n N) 1)) (.err 21 5) ((Clu.Out.ok (Clu.AV.tu [(Clu.AV.s 1 0), (Clu.AV.b true)])))) (Clu.needT ((bk (ls n N) 1 ((kk n N) - 1))) (.err 96 1) (Clu.needT ((Nat.ble (List.length (ls n N)) 1000000000000000000000)) (.err 95 4) ((Clu.Out.ok (Clu.AV.tu [(Clu.AV.s (bn (ls n N) 1) (bN (ls n N) 1)), (Clu.AV.b true)])))))))) ((Clu.Out.ok (Clu.AV.tu [(Clu.AV.s 0 0), (Clu.AV.b false)])))) ((Clu.Out.ok (Clu.AV.tu [(Clu.AV.s 0 0), (Clu.AV.b false)]))))) := by kernel_rfl
set_option linter.unusedVariables false in
theorem rparF_0 (is em : Nat → Nat → Bool) (kk : Nat → Nat → Nat) (ls : Nat → Nat → List Clu.AV) (lw : Nat → Nat → Nat) (bk : List Clu.AV → Nat → Nat → Bool) (bn bN : List Clu.AV → Nat → Nat) (n N : Nat) (hX : Clu.XOK Try.prog (Clu.addB (Clu.addB (Clu.addB (Clu.noX) 12 (Clu.rowH [] (labH is em kk ls))) 36 (Clu.decH (rlH lw))) 34 (Clu.rowH [] (byH bk bn bN))))  (n1 : n < 1000001 := by omega) (c1 : (is n N) = false) : Clu.Fact Try.prog 16 [] [.s n N] (Clu.AV.tu [(Clu.AV.s 0 0), (Clu.AV.b false)]) :=
  Clu.factL Clu.plain (Clu.tell_ok (hX)) Clu.mixed (Clu.noL_ok) ((((rparF_raw is em kk ls lw bk bn bN n N)).trans (Clu.needT_eq (Clu.blt_iff.2 n1) _ _)).trans (Clu.forkB_f (c1) _ _)) rfl (rfl)
set_option linter.unusedVariables false in
theorem rparF_1 (is em : Nat → Nat → Bool) (kk : Nat → Nat → Nat) (ls : Nat → Nat → List Clu.AV) (lw : Nat → Nat → Nat) (bk : List Clu.AV → Nat → Nat → Bool) (bn bN : List Clu.AV → Nat → Nat) (n N : Nat) (hX : Clu.XOK Try.prog (Clu.addB (Clu.addB (Clu.addB (Clu.noX) 12 (Clu.rowH [] (labH is em kk ls))) 36 (Clu.decH (rlH lw))) 34 (Clu.rowH [] (byH bk bn bN))))  (n1 : n < 1000001 := by omega) (c1 : (is n N) = true) (c2 : (em n N) = false) (c3 : (kk n N) ≠ 0) (n2 : 1 ≤ (kk n N) := by omega) (n3 : ((0 + (kk n N)) * 1) ≤ ((List.length (ls n N)) + 0) := by first | omega | (simp; omega)) (c4 : ((List.length (ls n N)) + 0) ≤ 1) (n4 : (kk n N) = 1 := by omega) : Clu.Fact Try.prog 16 [] [.s n N] (Clu.AV.tu [(Clu.AV.s 1 0), (Clu.AV.b true)]) :=
  Clu.factL Clu.plain (Clu.tell_ok (hX)) Clu.mixed (Clu.noL_ok) ((((((((((rparF_raw is em kk ls lw bk bn bN n N)).trans (Clu.needT_eq (Clu.blt_iff.2 n1) _ _)).trans (Clu.forkB_t (c1) _ _)).trans (Clu.forkB_f (c2) _ _)).trans (Clu.forkB_f (Clu.iEq_f (fun hh => c3 (Int.ofNat.inj hh))) _ _)).trans (Clu.needT_eq (Clu.ble_iff.2 n2) _ _)).trans (Clu.needT_eq (Clu.ble_iff.2 n3) _ _)).trans (Clu.forkB_f (Clu.blt_f c4) _ _)).trans (Clu.needT_eq (Clu.beq_iff.2 n4) _ _)) rfl (rfl)
set_option linter.unusedVariables false in
theorem rparF_2 (is em : Nat → Nat → Bool) (kk : Nat → Nat → Nat) (ls : Nat → Nat → List Clu.AV) (lw : Nat → Nat → Nat) (bk : List Clu.AV → Nat → Nat → Bool) (bn bN : List Clu.AV → Nat → Nat) (n N : Nat) (hX : Clu.XOK Try.prog (Clu.addB (Clu.addB (Clu.addB (Clu.noX) 12 (Clu.rowH [] (labH is em kk ls))) 36 (Clu.decH (rlH lw))) 34 (Clu.rowH [] (byH bk bn bN))))  (n1 : n < 1000001 := by omega) (c1 : (is n N) = true) (c2 : (em n N) = false) (c3 : (kk n N) ≠ 0) (n2 : 1 ≤ (kk n N) := by omega) (n3 : ((0 + (kk n N)) * 1) ≤ ((List.length (ls n N)) + 0) := by first | omega | (simp; omega)) (c4 : 1 < ((List.length (ls n N)) + 0)) (n4 : (bk (ls n N) 1 ((kk n N) - 1)) = true) (n5 : (List.length (ls n N)) ≤ 1000000000000000000000 := by first | omega | (simp; omega)) : Clu.Fact Try.prog 16 [] [.s n N] (Clu.AV.tu [(Clu.AV.s (bn (ls n N) 1) (bN (ls n N) 1)), (Clu.AV.b true)]) :=
  Clu.factL Clu.plain (Clu.tell_ok (hX)) Clu.mixed (Clu.noL_ok) (((((((((((rparF_raw is em kk ls lw bk bn bN n N)).trans (Clu.needT_eq (Clu.blt_iff.2 n1) _ _)).trans (Clu.forkB_t (c1) _ _)).trans (Clu.forkB_f (c2) _ _)).trans (Clu.forkB_f (Clu.iEq_f (fun hh => c3 (Int.ofNat.inj hh))) _ _)).trans (Clu.needT_eq (Clu.ble_iff.2 n2) _ _)).trans (Clu.needT_eq (Clu.ble_iff.2 n3) _ _)).trans (Clu.forkB_t (Clu.blt_iff.2 c4) _ _)).trans (Clu.needT_eq (n4) _ _)).trans (Clu.needT_eq (Clu.ble_iff.2 n5) _ _)) rfl (rfl)
set_option linter.unusedVariables false in
theorem rparF_4 (is em : Nat → Nat → Bool) (kk : Nat → Nat → Nat) (ls : Nat → Nat → List Clu.AV) (lw : Nat → Nat → Nat) (bk : List Clu.AV → Nat → Nat → Bool) (bn bN : List Clu.AV → Nat → Nat) (n N : Nat) (hX : Clu.XOK Try.prog (Clu.addB (Clu.addB (Clu.addB (Clu.noX) 12 (Clu.rowH [] (labH is em kk ls))) 36 (Clu.decH (rlH lw))) 34 (Clu.rowH [] (byH bk bn bN))))  (n1 : n < 1000001 := by omega) (c1 : (is n N) = true) (c2 : (em n N) = true) : Clu.Fact Try.prog 16 [] [.s n N] (Clu.AV.tu [(Clu.AV.s 0 0), (Clu.AV.b false)]) :=
  Clu.factL Clu.plain (Clu.tell_ok (hX)) Clu.mixed (Clu.noL_ok) (((((rparF_raw is em kk ls lw bk bn bN n N)).trans (Clu.needT_eq (Clu.blt_iff.2 n1) _ _)).trans (Clu.forkB_t (c1) _ _)).trans (Clu.forkB_t (c2) _ _)) rfl (rfl)
theorem pk_lt (l : List Nat) : Clu.pk l < 2 ^ (8 * l.length) := by
  have h := Clu.pk_take l l.length
  rw [List.take_length] at h
  have h : Clu.pk l % 2 ^ (8 * l.length) = Clu.pk l := h
  rw [← h]
  exact Nat.mod_lt _ (Nat.two_pow_pos _)
theorem pk_app : ∀ l m : List Nat, Clu.pk (l ++ m) = Clu.pk m * 2 ^ (8 * l.length) + Clu.pk l
  | [], m => by rw [List.nil_append, Clu.pk_nil]; simp
  | c :: l, m => by
    rw [List.cons_append, Clu.pk_cons, Clu.pk_cons, pk_app l m, List.length_cons, show 8 * (l.length + 1) = 8 * l.length + 8 by omega, Nat.pow_add, ← Nat.mul_assoc]
    generalize Clu.pk m * 2 ^ (8 * l.length) = z
    omega
theorem catN_pk (l m : List Nat) : Clu.catN l.length (Clu.pk l) (Clu.pk m) = Clu.pk (l ++ m) := by
  have h1 : Clu.maskN l.length (Clu.pk l) = Clu.pk l := by rw [Clu.pk_take, List.take_length]
  unfold Clu.catN
  rw [h1, pk_app]
  have h := Nat.shiftLeft_add_eq_or_of_lt (pk_lt l) (Clu.pk m)
  rw [Nat.shiftLeft_eq] at h
  rw [h]
  show Clu.pk l ||| Clu.pk m <<< (8 * l.length) = _
  rw [Nat.or_comm, Nat.shiftLeft_eq]
theorem cat_pk (l m : List Nat) : Clu.AV.s (l.length + m.length) (Clu.catN l.length (Clu.pk l) (Clu.pk m)) = .s (l ++ m).length (Clu.pk (l ++ m)) := by rw [catN_pk, List.length_append]
theorem cat_one (l : List Nat) (c : Nat) : Clu.AV.s (l.length + 1) (Clu.catN l.length (Clu.pk l) (Clu.pk [c])) = .s (l ++ [c]).length (Clu.pk (l ++ [c])) := cat_pk l [c]
theorem pk_mod (c : Nat) : Clu.pk [c % 256] = Clu.pk [c] := by
  rw [Clu.pk_cons, Clu.pk_cons, Nat.mod_mod]
/-! Low -/
theorem rlow_L {l : List Nat} (hB : Clu.B8 l) (hn : l.length ≤ 1000000) : ∀ (f i : Nat), i + f = l.length → Clu.LoopQ Try.prog (Clu.loopNo Try.f36 0) (51 + f) 29 1000 ([] ++ Clu.layB []) 1000 2 [0, 3, 4] [.s l.length (Clu.pk l), .s (low (l.take i)).length (Clu.pk (low (l.take i))), .i .i64 (.ofNat i)] [9, 16, 17, 19, 20] [3] [.s (low l).length (Clu.pk (low l))] ([] ++ Clu.layB []) 1000
  | 0, i, hf => by
    obtain rfl : i = l.length := by omega
    rw [List.take_length]
    exact Clu.LoopQ.out (n := 50) (by simp [Clu.exOf]) (by omega) fun os ho => rlowS_0 _ _ _ _ _ os ho (by omega)
  | f + 1, i, hf => by
    have h : i < l.length := by omega
    have hb := Clu.byteN_pk hB i
    have hm : (low (l.take i)).length = i := by rw [low_length, List.length_take]; omega
    refine Clu.LoopQ.more (vs1 := [.s l.length (Clu.pk l), .s (low (l.take (i + 1))).length (Clu.pk (low (l.take (i + 1)))), .i .i64 (.ofNat (i + 1))]) (bl1 := [] ++ Clu.layB []) (nx1 := 1000) (show 50 ≤ 51 + f by omega) (fun os ho => ?_) (rlow_L hB hn f (i + 1) (by omega))
    have e1 : low (l.take (i + 1)) = low (l.take i) ++ [lowB (l.getD i 0)] := by rw [take_succ' h, low_app]; rfl
    rw [e1, ← cat_one]
    by_cases h1 : l.getD i 0 < 65
    · have := rlowS_1 l.length (Clu.pk l) i (low (l.take i)).length (Clu.pk (low (l.take i))) os ho h (c2 := by omega)
      rw [hb] at this
      rw [lowB_not (by unfold upB; rw [decide_eq_false (by omega)]; rfl)]
      exact this
    · by_cases h2 : 90 < l.getD i 0
      · have := rlowS_2 l.length (Clu.pk l) i (low (l.take i)).length (Clu.pk (low (l.take i))) os ho h (c2 := by omega) (c3 := by omega)
        rw [hb] at this
        rw [lowB_not (by unfold upB; rw [decide_eq_false (show ¬ l.getD i 0 ≤ 90 by omega), Bool.and_false])]
        exact this
      · have := rlowS_3 l.length (Clu.pk l) i (low (l.take i)).length (Clu.pk (low (l.take i))) os ho h (c2 := by omega) (c3 := by omega)
        rw [hb, Clu.modN_nat, show (l.getD i 0 + 32) % 256 = lowB (l.getD i 0) by unfold lowB; rw [if_pos (by omega)]; omega] at this
        exact this
theorem rlow_fact {l : List Nat} (hB : Clu.B8 l) (hn : l.length ≤ 1000000) : Clu.Fact Try.prog 36 [] [.s l.length (Clu.pk l)] (.s (low l).length (Clu.pk (low l))) :=
  rlowF_0 _ _ _ _ ((rlow_L hB hn l.length 0 (by omega)).upto (by omega))
/-! Bytes -/
/-- the bytes of labels, without the last one -/
def enc : List (List Nat) → List Nat
  | [] => []
  | x :: L => x.length :: (x ++ enc L)
theorem enc_app : ∀ K L : List (List Nat), enc (K ++ L) = enc K ++ enc L
  | [], L => rfl
  | x :: K, L => by
    show x.length :: (x ++ enc (K ++ L)) = x.length :: (x ++ enc K) ++ enc L
    rw [enc_app K L, List.cons_append, List.append_assoc]
theorem wire_enc : ∀ L : List (List Nat), wire L = enc L ++ [0]
  | [] => rfl
  | x :: L => by
    show x.length :: (x ++ wire L) = x.length :: (x ++ enc L) ++ [0]
    rw [wire_enc L, List.cons_append, List.append_assoc]
theorem enc_le (K L : List (List Nat)) : (enc K).length ≤ (enc (K ++ L)).length := by rw [enc_app, List.length_append]; omega
theorem byt_L {L : List (List Nat)} {d : Nat} (hd : d ≤ L.length) (hL : L.length ≤ 1000000) (hn : (enc (L.drop d)).length ≤ 1000000) : ∀ (f i : Nat), i + f = (L.drop d).length → Clu.LoopQ Try.prog (Clu.loopNo Try.f34 0) (51 + f) 28 1001 ([] ++ (Clu.argB (Clu.rowsAt 1000 [Clu.S1 L]) ++ Clu.layB [])) 1001 2 [0, 3, 4] [.so 1000 d 1 (L.drop d).length, .s (enc ((L.drop d).take i)).length (Clu.pk (enc ((L.drop d).take i))), .i .i64 (.ofNat i)] [8] [3] [.s (enc (L.drop d)).length (Clu.pk (enc (L.drop d)))] ([] ++ (Clu.argB (Clu.rowsAt 1000 [Clu.S1 L]) ++ Clu.layB [])) 1001
  | 0, i, hf => by
    obtain rfl : i = (L.drop d).length := by omega
    rw [List.take_length]
    exact Clu.LoopQ.out (n := 50) (by simp [Clu.exOf]) (by omega) fun os ho => bytS_0 _ _ _ _ _ _ os ho (Clu.S1_flts _) (by omega)
  | f + 1, i, hf => by
    have h : i < (L.drop d).length := by omega
    have hl : d + i < L.length := by rw [List.length_drop] at h; omega
    have ei : d * 1 + i * 1 = d + i := by omega
    have e0 : Clu.isS (Clu.getL (Clu.S1 L) (d * 1 + i * 1)) = true := by rw [ei]; exact Clu.S1_isS hl
    have e1 : Clu.sN (Clu.getL (Clu.S1 L) (d * 1 + i * 1)) = (L.getD (d + i) []).length := by rw [ei]; exact Clu.S1_sN hl
    have e2 : Clu.sNN (Clu.getL (Clu.S1 L) (d * 1 + i * 1)) = Clu.pk (L.getD (d + i) []) := by rw [ei]; exact Clu.S1_sNN hl
    have et : (L.drop d).take (i + 1) = (L.drop d).take i ++ [L.getD (d + i) []] := by
      rw [List.take_add_one, List.getElem?_drop, List.getElem?_eq_getElem hl, List.getD_eq_getElem?_getD, List.getElem?_eq_getElem hl]
      rfl
    have en : enc ((L.drop d).take (i + 1)) = enc ((L.drop d).take i) ++ [(L.getD (d + i) []).length] ++ L.getD (d + i) [] := by
      rw [et, enc_app, List.append_assoc]
      show _ ++ (_ :: (L.getD (d + i) [] ++ [])) = _
      rw [List.append_nil]; rfl
    have hk : (enc ((L.drop d).take (i + 1))).length ≤ 1000000 := by
      have := enc_le ((L.drop d).take (i + 1)) ((L.drop d).drop (i + 1))
      rw [List.take_append_drop] at this
      omega
    refine Clu.LoopQ.more (vs1 := [.so 1000 d 1 (L.drop d).length, .s (enc ((L.drop d).take (i + 1))).length (Clu.pk (enc ((L.drop d).take (i + 1)))), .i .i64 (.ofNat (i + 1))]) (bl1 := [] ++ (Clu.argB (Clu.rowsAt 1000 [Clu.S1 L]) ++ Clu.layB [])) (nx1 := 1001) (show 50 ≤ 51 + f by omega) (fun os ho => ?_) (byt_L hd hL hn f (i + 1) (by omega))
    rw [en, List.length_append, List.length_append] at hk
    simp only [List.length_cons, List.length_nil] at hk
    have := bytS_1 d (L.drop d).length i (enc ((L.drop d).take i)).length (Clu.pk (enc ((L.drop d).take i))) (Clu.S1 L) os ho (Clu.S1_flts _) h (n2 := e0) (n5 := e0)
    rw [e1, e2, Clu.modN_nat] at this
    rw [en, ← cat_pk, List.length_append, ← catN_pk, ← pk_mod]
    exact this
/-- what bytes of labels a row is asked for -/
noncomputable def bokF (cs : List Clu.AV) (d k : Nat) : Bool := @decide (∃ L : List (List Nat), cs = Clu.S1 L ∧ (∀ x ∈ L, Clu.B8 x) ∧ d ≤ L.length ∧ k = L.length - d ∧ L.length ≤ 1000000 ∧ (enc (L.drop d)).length ≤ 1000000) (Classical.propDecidable _)
def rowL (cs : List Clu.AV) : List (List Nat) := cs.map fun a => match a with
  | .s n N => Clu.lst n N
  | _ => []
theorem rowL_S1 {L : List (List Nat)} (h : ∀ x ∈ L, Clu.B8 x) : rowL (Clu.S1 L) = L := by
  unfold rowL Clu.S1
  rw [List.map_map]
  conv => rhs; rw [← List.map_id L]
  exact List.map_congr_left fun x hx => Clu.lst_pk (h x hx)
def bnF (cs : List Clu.AV) (d : Nat) : Nat := (wire ((rowL cs).drop d)).length
def bNF (cs : List Clu.AV) (d : Nat) : Nat := Clu.pk (wire ((rowL cs).drop d))
theorem byt_row {cs : List Clu.AV} {d k : Nat} (h : bokF cs d k = true) : Clu.RowOK Try.prog 34 [] [.so 1000 d 1 k] [cs] (.s (bnF cs d) (bNF cs d)) [] := by
  obtain ⟨L, rfl, h8, hd, rfl, hL, hn⟩ := @of_decide_eq_true _ (Classical.propDecidable _) h
  unfold bnF bNF
  rw [rowL_S1 h8, wire_enc, List.length_append, ← catN_pk]
  have e : L.length - d = (L.drop d).length := (List.length_drop ..).symm
  rw [e]
  exact bytF_0 _ _ _ _ _ (Clu.S1_flts _) ((byt_L hd hL hn (L.drop d).length 0 (by omega)).upto (by omega))
theorem byt_nil : Clu.RowOK Try.prog 34 [] [.sn] [] (.s 1 0) [] :=
  bytG_0 0 0 (Clu.LoopQ.out (n := 50) (by simp [Clu.exOf]) (by omega) fun os ho => bytZ_0 _ _ _ os ho)
theorem byt_end : Clu.RowOK Try.prog 34 [] [.se] [] (.s 1 0) [] :=
  bytH_0 0 0 (Clu.LoopQ.out (n := 50) (by simp [Clu.exOf]) (by omega) fun os ho => bytE_0 _ _ _ os ho)
/-! what stands for them -/
noncomputable def isF (n N : Nat) : Bool := (labN (Clu.lst n N)).isSome
noncomputable def emF (n N : Nat) : Bool := match labN (Clu.lst n N) with
  | some (_ :: _) => false
  | _ => true
noncomputable def kkF (n N : Nat) : Nat := ((labN (Clu.lst n N)).getD []).length
noncomputable def lsF (n N : Nat) : List Clu.AV := Clu.S1 ((labN (Clu.lst n N)).getD [])
noncomputable def rwF (n N : Nat) : Nat := Clu.pk (low (Clu.lst n N))
theorem row_s1 {f : FuncId} {n N : Nat} {v : Clu.AV} {o : List Clu.NB} (h : Clu.RowOK Try.prog f [] [.s (Clu.lst n N).length (Clu.pk (Clu.lst n N))] [] v o) : Clu.RowOK Try.prog f [] [.s n N] [] v o := by
  obtain ⟨a, b, c, C⟩ := h
  exact ⟨a, b, c, ⟨C.lim, C.dom, C.dom', rfl, C.ua', C.keep, fun p r w xs h0 h1 hx => C.sem p r w xs h0 h1 (by obtain ⟨x, ys, h1, h2, h3⟩ := hx; exact ⟨x, ys, h1, Clu.VR.lst.1 h2, h3⟩)⟩⟩
theorem labH_ok : Clu.HandOK Try.prog 12 (Clu.rowH [] (labH isF emF kkF lsF)) := Clu.rowH_ok rfl fun args css o h => by
  unfold labH at h
  split at h
  · rename_i n N
    split at h
    · skip
      obtain ⟨h1, h⟩ := h
      have h1 := Clu.blt_iff.1 h1
      have R := row_s1 (labels_row (Clu.lst_b8 n N) (by rw [Clu.lst_length]; omega))
      unfold isF emF kkF lsF at h
      cases hl : labN (Clu.lst n N) with
      | none =>
        rw [hl] at h R
        rcases h with ⟨_, h⟩ | ⟨k, _⟩
        · have h : (_, _) = o := h
          subst h; exact R
        · cases k
      | some L =>
        rw [hl] at h R
        cases L with
        | nil =>
          rcases h with ⟨k, _⟩ | ⟨_, ⟨k, _⟩ | ⟨_, h⟩⟩
          · cases k
          · cases k
          · have h : (_, _) = o := h
            subst h; exact R
        | cons x L =>
          rcases h with ⟨k, _⟩ | ⟨_, ⟨_, h⟩ | ⟨k, _⟩⟩
          · cases k
          · have h : (_, _) = o := h
            subst h; exact R
          · cases k
    · exact h.elim
  · exact h.elim
theorem rlH_ok : Clu.HandOK Try.prog 36 (Clu.decH (rlH rwF)) := Clu.decH_ok fun args v h => by
  unfold rlH at h
  split at h
  · rename_i n N
    obtain ⟨h1, h2⟩ := h
    have h2 : Clu.AV.s n (rwF n N) = v := h2
    subst h2
    refine Clu.Fact.s1 ?_
    have := rlow_fact (Clu.lst_b8 n N) (by rw [Clu.lst_length]; have := Clu.blt_iff.1 h1; omega)
    rw [low_length, Clu.lst_length] at this
    rw [Clu.lst_length]
    exact this
  · exact h.elim
theorem byH_ok : Clu.HandOK Try.prog 34 (Clu.rowH [] (byH bokF bnF bNF)) := Clu.rowH_ok rfl fun args css o h => by
  unfold byH at h
  split at h
  · split at h
    · obtain ⟨h1, h2, h3, h⟩ := h
      have h : (_, _) = o := h
      subst h
      cases Clu.beq_iff.1 h1
      cases Clu.beq_iff.1 h2
      exact byt_row h3
    · exact h.elim
  · split at h
    · have h : (_, _) = o := h
      subst h; exact byt_nil
    · exact h.elim
  · split at h
    · have h : (_, _) = o := h
      subst h; exact byt_end
    · exact h.elim
  · exact h.elim
theorem rX_ok : Clu.XOK Try.prog (Clu.addB (Clu.addB (Clu.addB (Clu.noX) 12 (Clu.rowH [] (labH isF emF kkF lsF))) 36 (Clu.decH (rlH rwF))) 34 (Clu.rowH [] (byH bokF bnF bNF))) := Clu.addB_ok (Clu.addB_ok (Clu.addB_ok Clu.noX_ok labH_ok) rlH_ok) byH_ok
theorem rXL_ok : Clu.XOK Try.prog (Clu.addB (Clu.noX) 12 (Clu.rowH [] (labH isF emF kkF lsF))) := Clu.addB_ok Clu.noX_ok labH_ok
theorem isF_pk {l : List Nat} (h : Clu.B8 l) : isF l.length (Clu.pk l) = (labN l).isSome := by unfold isF; rw [Clu.lst_pk h]
theorem emF_pk {l : List Nat} (h : Clu.B8 l) : emF l.length (Clu.pk l) = match labN l with
  | some (_ :: _) => false
  | _ => true := by unfold emF; rw [Clu.lst_pk h]
theorem kkF_pk {l : List Nat} (h : Clu.B8 l) : kkF l.length (Clu.pk l) = ((labN l).getD []).length := by unfold kkF; rw [Clu.lst_pk h]
theorem lsF_pk {l : List Nat} (h : Clu.B8 l) : lsF l.length (Clu.pk l) = Clu.S1 ((labN l).getD []) := by unfold lsF; rw [Clu.lst_pk h]
theorem rwF_pk {l : List Nat} (h : Clu.B8 l) : rwF l.length (Clu.pk l) = Clu.pk (low l) := by unfold rwF; rw [Clu.lst_pk h]
theorem rmay_fact {l : List Nat} (hB : Clu.B8 l) (hn : l.length ≤ 1000000) : Clu.Fact Try.prog 41 [] [.s l.length (Clu.pk l)] (.b (mayB l)) := by
  rw [← labN_may]
  cases hl : labN l with
  | none => exact rmayF_0 isF emF kkF lsF _ _ rXL_ok (c1 := by rw [isF_pk hB, hl]; rfl)
  | some L =>
    cases L with
    | nil => exact rmayF_2 isF emF kkF lsF _ _ rXL_ok (c1 := by rw [isF_pk hB, hl]; rfl) (c2 := by rw [emF_pk hB, hl])
    | cons x L => exact rmayF_1 isF emF kkF lsF _ _ rXL_ok (c1 := by rw [isF_pk hB, hl]; rfl) (c2 := by rw [emF_pk hB, hl])
/-- the name without its first label -/
def parL (l : List Nat) : List Nat × Bool := match labN l with
  | some (_ :: K) => (wire K, true)
  | _ => ([], false)
theorem labN_wire {l : List Nat} {L : List (List Nat)} (h : labN l = some L) : wire L = l ∧ LabOk L ∧ l.length ≤ 255 := by
  unfold labN at h
  split at h
  · rename_i hn
    have := wire_labs (l.length + 1) (Nat.lt_succ_self _) h
    exact ⟨this.1, this.2, hn⟩
  · cases h
theorem enc_many (L : List (List Nat)) : L.length ≤ (enc L).length := by
  induction L with
  | nil => exact Nat.le_refl _
  | cons x L ih =>
    show L.length + 1 ≤ (x ++ enc L).length + 1
    rw [List.length_append]; omega
theorem bok_drop {L : List (List Nat)} (h8 : ∀ x ∈ L, Clu.B8 x) (hn : (wire L).length ≤ 1000000) {d : Nat} (hd : d ≤ L.length) : bokF (Clu.S1 L) d (L.length - d) = true := by
  rw [wire_enc, List.length_append] at hn
  have h1 := enc_many L
  have h2 := enc_app (L.take d) (L.drop d)
  rw [List.take_append_drop] at h2
  rw [h2, List.length_append] at hn
  have h3 := enc_many L
  rw [h2, List.length_append] at h3
  exact @decide_eq_true _ (Classical.propDecidable _) ⟨L, rfl, h8, hd, rfl, by omega, by omega⟩
theorem rpar_fact {l : List Nat} (hB : Clu.B8 l) (hn : l.length ≤ 1000000) : Clu.Fact Try.prog 16 [] [.s l.length (Clu.pk l)] (.tu [.s (parL l).1.length (Clu.pk (parL l).1), .b (parL l).2]) := by
  unfold parL
  cases hl : labN l with
  | none => exact rparF_0 isF emF kkF lsF rwF bokF bnF bNF _ _ rX_ok (c1 := by rw [isF_pk hB, hl]; rfl)
  | some L =>
    cases L with
    | nil => exact rparF_4 isF emF kkF lsF rwF bokF bnF bNF _ _ rX_ok (c1 := by rw [isF_pk hB, hl]; rfl) (c2 := by rw [emF_pk hB, hl])
    | cons x K =>
      obtain ⟨hw, hL, hn2⟩ := labN_wire hl
      have h8 : ∀ y ∈ x :: K, Clu.B8 y := wire_b8 (by rw [hw]; exact hB)
      have ek := kkF_pk hB
      have el := lsF_pk hB
      rw [hl] at ek el
      have ek : kkF l.length (Clu.pk l) = K.length + 1 := ek
      have el : lsF l.length (Clu.pk l) = Clu.S1 (x :: K) := el
      have ell : (lsF l.length (Clu.pk l)).length = K.length + 1 := by rw [el, Clu.S1_length]; rfl
      have hm := labs_many hL
      rw [hw] at hm
      simp only [List.length_cons] at hm
      cases K with
      | nil => exact rparF_1 isF emF kkF lsF rwF bokF bnF bNF _ _ rX_ok (c1 := by rw [isF_pk hB, hl]; rfl) (c2 := by rw [emF_pk hB, hl]) (c3 := by omega) (c4 := by simp only [List.length_nil] at ell; omega)
      | cons y K => 
        have hb := bok_drop h8 (by rw [hw]; omega) (d := 1) (by simp only [List.length_cons]; omega)
        have e1 : (wire (y :: K)).length = bnF (lsF l.length (Clu.pk l)) 1 := by rw [el]; unfold bnF; rw [rowL_S1 h8]; rfl
        have e2 : Clu.pk (wire (y :: K)) = bNF (lsF l.length (Clu.pk l)) 1 := by rw [el]; unfold bNF; rw [rowL_S1 h8]; rfl
        show Clu.Fact _ _ _ _ (.tu [.s (wire (y :: K)).length (Clu.pk (wire (y :: K))), .b true])
        rw [e1, e2]
        exact rparF_2 isF emF kkF lsF rwF bokF bnF bNF _ _ rX_ok (c1 := by rw [isF_pk hB, hl]; rfl) (c2 := by rw [emF_pk hB, hl]) (c3 := by omega) (c4 := by simp only [List.length_cons] at ell; omega) (n4 := by rw [ek, el]; exact hb)

end Go.Proofs.Ytmokdhmicdmgfaa

namespace Go.Proofs.Ytmokdhmicdmgfaa
open Go.RowKit
set_option linter.unusedVariables false
set_option linter.unusedSimpArgs false
set_option maxRecDepth 100000

noncomputable def r1b (f : Nat → Nat → Bool) : List Clu.AV → Clu.Dec Clu.AV := fun args => match args with
  | [.s n N] => .need (Nat.blt n 1000001) (.leaf (.b (f n N)))
  | _ => .fail
noncomputable def r1s (f : Nat → Nat → Nat × Nat) : List Clu.AV → Clu.Dec Clu.AV := fun args => match args with
  | [.s n N] => .need (Nat.blt n 1000001) (.leaf (.s (f n N).1 (f n N).2))
  | _ => .fail
noncomputable def r1p (f : Nat → Nat → Nat × Nat) (b : Nat → Nat → Bool) : List Clu.AV → Clu.Dec Clu.AV := fun args => match args with
  | [.s n N] => .need (Nat.blt n 1000001) (.leaf (.tu [.s (f n N).1 (f n N).2, .b (b n N)]))
  | _ => .fail
noncomputable def r2b (f : Nat → Nat → Nat → Nat → Bool) : List Clu.AV → Clu.Dec Clu.AV := fun args => match args with
  | [.s n N, .s m M] => .need (Nat.blt n 1000001) (.need (Nat.blt m 1000001) (.leaf (.b (f n N m M))))
  | _ => .fail

set_option maxRecDepth 10000000 in
theorem rfoA_raw (lw : Nat → Nat → Nat) (k i : Nat) (lc : List Clu.AV) (os : Nat → Option Clu.AV) : Clu.evL (Clu.noL) Try.prog (Clu.addB (Clu.noX) 36 (Clu.decH (rlH lw))) 50 30 1000 (Clu.loopNo Try.f19 0) (Clu.tellF [3000026, 3000034] (Clu.mkFr 30 (Clu.std [3, 5, 6] [.so 1000 0 1 k, .sn, .i .i64 (.ofNat i)] [4, 11, 12, 13, 17] os))) (Clu.mkH (Clu.mkH .e (Clu.layB [])) [(1000, .c lc 0 1 (some 9))]) 1001 (Clu.finM 30 1001 [4, 11, 12, 13, 17] 0 [(0, [3, 5, 6], [(1002, 0, 1, (some 9)), (1000, 0, 1, (some 9))], some 1003), (2, [5], [(1000, 0, 1, (some 9))], none)]) = Clu.forkB ((Clu.iLt (Int.ofNat i) (Int.ofNat k))) (Clu.needT ((Clu.flatB (os 4))) (.err 90 1) (Clu.needT ((Clu.flatB (os 11))) (.err 90 1) (Clu.needT ((Clu.flatB (os 12))) (.err 90 1) (Clu.needT ((Clu.flatB (os 13))) (.err 90 1) ((Clu.Out.ok (Clu.AV.tu [(Clu.AV.i IntKind.i64 (Int.ofNat 1)), Clu.AV.sn, (Clu.AV.ag lc)]))))))) (Clu.needT ((Nat.blt i k)) (.err 22 0) (Clu.needT ((Clu.isS (Clu.getL lc (0 + (i * 1))))) (.err 8 2) (Clu.needT ((Nat.blt (Clu.sN (Clu.getL lc (0 + (i * 1)))) 1000001)) (.err 96 1) (Clu.needT ((Clu.inR IntKind.i64 (Int.ofNat (i + 1)))) (.err 10 20) (Clu.needT ((Clu.flatB (os 4))) (.err 90 1) (Clu.needT ((Clu.flatB (os 11))) (.err 90 1) (Clu.needT ((Clu.flatB (os 12))) (.err 90 1) (Clu.needT ((Clu.flatB (os 13))) (.err 90 1) ((Clu.Out.ok (Clu.AV.tu [(Clu.AV.i IntKind.i64 (Int.ofNat 0)), (Clu.AV.so 1000 0 1 k), (Clu.AV.so 1002 0 1 1), (Clu.AV.i IntKind.i64 (Int.ofNat (i + 1))), (Clu.AV.ag ([] ++ [(Clu.AV.s (Clu.sN (Clu.getL lc (0 + (i * 1)))) (lw (Clu.sN (Clu.getL lc (0 + (i * 1)))) (Clu.sNN (Clu.getL lc (0 + (i * 1))))))])), (Clu.AV.ag lc)]))))))))))) := by kernel_rfl
set_option linter.unusedVariables false in
theorem rfoA_1 (lw : Nat → Nat → Nat) (k i : Nat) (lc : List Clu.AV) (os : Nat → Option Clu.AV) (hos : ∀ t, Clu.flatB (os t) = true) (hX : Clu.XOK Try.prog (Clu.addB (Clu.noX) 36 (Clu.decH (rlH lw)))) (hl : Clu.AV.flts lc = true)  (c1 : i < k) (n1 : i < k := by omega) (n2 : (Clu.isS (Clu.getL lc (0 + (i * 1)))) = true) (n3 : (Clu.sN (Clu.getL lc (0 + (i * 1)))) < 1000001 := by omega) (n4 : (i + 1) < 9223372036854775808 := by omega) : ∃ os' : Nat → Option Clu.AV, (∀ t, Clu.flatB (os' t) = true) ∧ Clu.RunE Try.prog 50 (Clu.loopNo Try.f19 0) 30 1000 (Clu.mkFr 30 (Clu.std [3, 5, 6] [.so 1000 0 1 k, .sn, .i .i64 (.ofNat i)] [4, 11, 12, 13, 17] os)) (Clu.mkH .e ([(1000, .c lc 0 1 (some 9))] ++ (Clu.layB []))) 1001 (Clu.exOf 0) (Clu.mkFr 30 (Clu.std [3, 5, 6] [(Clu.AV.so 1000 0 1 k), (Clu.AV.so 1002 0 1 1), (Clu.AV.i IntKind.i64 (Int.ofNat (i + 1)))] [4, 11, 12, 13, 17] os')) (Clu.mkH .e ([(1002, .c ([] ++ [(Clu.AV.s (Clu.sN (Clu.getL lc (0 + (i * 1)))) (lw (Clu.sN (Clu.getL lc (0 + (i * 1)))) (Clu.sNN (Clu.getL lc (0 + (i * 1))))))]) 0 1 (some 9)), (1000, .c lc 0 1 (some 9))] ++ (Clu.layB []))) 1003 :=
  Clu.segMN (vs := [(Clu.AV.so 1000 0 1 k), (Clu.AV.so 1002 0 1 1), (Clu.AV.i IntKind.i64 (Int.ofNat (i + 1)))]) (cs := [([] ++ [(Clu.AV.s (Clu.sN (Clu.getL lc (0 + (i * 1)))) (lw (Clu.sN (Clu.getL lc (0 + (i * 1)))) (Clu.sNN (Clu.getL lc (0 + (i * 1))))))]), lc]) 0 0 [3, 5, 6] [(1002, 0, 1, (some 9)), (1000, 0, 1, (some 9))] (Clu.evL_ok Clu.plain (hX) (Clu.drK_ok Clu.mixed) (Clu.noL_ok) 50) (Clu.layB_bs rfl (by decide) (by decide)) hos (((((((((((rfoA_raw lw k i lc os)).trans (Clu.forkB_t (Clu.iLt_t (Int.ofNat_lt.2 c1)) _ _)).trans (Clu.needT_eq (Clu.blt_iff.2 n1) _ _)).trans (Clu.needT_eq (n2) _ _)).trans (Clu.needT_eq (Clu.blt_iff.2 n3) _ _)).trans (Clu.needT_eq (Clu.inR_nat (k := .i64) n4) _ _)).trans (Clu.needT_eq (hos _) _ _)).trans (Clu.needT_eq (hos _) _ _)).trans (Clu.needT_eq (hos _) _ _)).trans (Clu.needT_eq (hos _) _ _)) rfl rfl rfl (by simp) (by simp)
set_option maxRecDepth 10000000 in
theorem rfoB_raw (lw : Nat → Nat → Nat) (k i p : Nat) (lc cs : List Clu.AV) (os : Nat → Option Clu.AV) : Clu.evL (Clu.noL) Try.prog (Clu.addB (Clu.noX) 36 (Clu.decH (rlH lw))) 50 30 1000 (Clu.loopNo Try.f19 0) (Clu.tellF [3000026, 3000034] (Clu.mkFr 30 (Clu.std [3, 5, 6] [.so 1000 0 1 k, .so 1001 0 1 p, .i .i64 (.ofNat i)] [4, 11, 12, 13, 17] os))) (Clu.mkH (Clu.mkH .e (Clu.layB [])) [(1001, .c cs 0 1 (some 9)), (1000, .c lc 0 1 (some 9))]) 1002 (Clu.finM 30 1002 [4, 11, 12, 13, 17] 0 [(0, [3, 5, 6], [(1003, 0, 1, (some 9)), (1000, 0, 1, (some 9))], some 1004), (2, [5], [(1001, 0, 1, (some 9)), (1000, 0, 1, (some 9))], none)]) = Clu.forkB ((Clu.iLt (Int.ofNat i) (Int.ofNat k))) (Clu.needT ((Clu.flatB (os 4))) (.err 90 1) (Clu.needT ((Clu.flatB (os 11))) (.err 90 1) (Clu.needT ((Clu.flatB (os 12))) (.err 90 1) (Clu.needT ((Clu.flatB (os 13))) (.err 90 1) ((Clu.Out.ok (Clu.AV.tu [(Clu.AV.i IntKind.i64 (Int.ofNat 1)), (Clu.AV.so 1001 0 1 p), (Clu.AV.ag cs), (Clu.AV.ag lc)]))))))) (Clu.needT ((Nat.blt i k)) (.err 22 0) (Clu.needT ((Clu.isS (Clu.getL lc (0 + (i * 1))))) (.err 8 2) (Clu.needT ((Nat.blt (Clu.sN (Clu.getL lc (0 + (i * 1)))) 1000001)) (.err 96 1) (Clu.forkB ((Nat.ble ((0 + (p + 1)) * 1) ((List.length cs) + 0))) (Clu.needT ((Bool.and (Nat.beq ((0 + p) * 1) ((List.length cs) + 0)) true)) (.err 31 6) (Clu.needT ((Nat.ble (((2 * (p + 1)) + 1000) * 16) 281474976710656)) (.err 31 1) (Clu.needT ((Nat.ble (p + 1) 4294967296)) (.err 31 1) (Clu.needT ((Clu.inR IntKind.i64 (Int.ofNat (i + 1)))) (.err 10 20) (Clu.needT ((Clu.flatB (os 4))) (.err 90 1) (Clu.needT ((Clu.flatB (os 11))) (.err 90 1) (Clu.needT ((Clu.flatB (os 12))) (.err 90 1) (Clu.needT ((Clu.flatB (os 13))) (.err 90 1) ((Clu.Out.ok (Clu.AV.tu [(Clu.AV.i IntKind.i64 (Int.ofNat 0)), (Clu.AV.so 1000 0 1 k), (Clu.AV.so 1003 0 1 (p + 1)), (Clu.AV.i IntKind.i64 (Int.ofNat (i + 1))), (Clu.AV.ag (cs ++ [(Clu.AV.s (Clu.sN (Clu.getL lc (0 + (i * 1)))) (lw (Clu.sN (Clu.getL lc (0 + (i * 1)))) (Clu.sNN (Clu.getL lc (0 + (i * 1))))))])), (Clu.AV.ag lc)]))))))))))) (Clu.needT ((Nat.ble (((0 + p) * 1) + 1) (List.length cs))) (.err 7 0) (Clu.needT ((Clu.inR IntKind.i64 (Int.ofNat (i + 1)))) (.err 10 20) (.err 97 1))))))) := by kernel_rfl
set_option linter.unusedVariables false in
theorem rfoB_0 (lw : Nat → Nat → Nat) (k i p : Nat) (lc cs : List Clu.AV) (os : Nat → Option Clu.AV) (hos : ∀ t, Clu.flatB (os t) = true) (hX : Clu.XOK Try.prog (Clu.addB (Clu.noX) 36 (Clu.decH (rlH lw)))) (hl : Clu.AV.flts lc = true) (hu : Clu.AV.flts cs = true)  (c1 : k ≤ i) : ∃ os' : Nat → Option Clu.AV, (∀ t, Clu.flatB (os' t) = true) ∧ Clu.RunE Try.prog 50 (Clu.loopNo Try.f19 0) 30 1000 (Clu.mkFr 30 (Clu.std [3, 5, 6] [.so 1000 0 1 k, .so 1001 0 1 p, .i .i64 (.ofNat i)] [4, 11, 12, 13, 17] os)) (Clu.mkH .e ([(1001, .c cs 0 1 (some 9)), (1000, .c lc 0 1 (some 9))] ++ (Clu.layB []))) 1002 (Clu.exOf 2) (Clu.mkFr 30 (Clu.std [5] [(Clu.AV.so 1001 0 1 p)] [4, 11, 12, 13, 17] os')) (Clu.mkH .e ([(1001, .c cs 0 1 (some 9)), (1000, .c lc 0 1 (some 9))] ++ (Clu.layB []))) 1002 :=
  Clu.segM (vs := [(Clu.AV.so 1001 0 1 p)]) (cs := [cs, lc]) 1 2 [5] [(1001, 0, 1, (some 9)), (1000, 0, 1, (some 9))] (Clu.evL_ok Clu.plain (hX) (Clu.drK_ok Clu.mixed) (Clu.noL_ok) 50) (Clu.layB_bs rfl (by decide) (by decide)) hos (((((((rfoB_raw lw k i p lc cs os)).trans (Clu.forkB_f (Clu.iLt_f (Int.ofNat_le.2 c1)) _ _)).trans (Clu.needT_eq (hos _) _ _)).trans (Clu.needT_eq (hos _) _ _)).trans (Clu.needT_eq (hos _) _ _)).trans (Clu.needT_eq (hos _) _ _)) rfl rfl rfl (by decide) rfl (by simp [Clu.Blk.und, Clu.AV.und, Clu.AV.unds, Clu.flts_unds hl, Clu.flts_unds hu]) rfl (Clu.newH_ro rfl) (by simp [Clu.AV.und, Clu.AV.unds, Clu.AV.cells, Clu.unds_splice, Clu.flts_unds hl, Clu.flts_unds hu])
set_option linter.unusedVariables false in
theorem rfoB_1 (lw : Nat → Nat → Nat) (k i p : Nat) (lc cs : List Clu.AV) (os : Nat → Option Clu.AV) (hos : ∀ t, Clu.flatB (os t) = true) (hX : Clu.XOK Try.prog (Clu.addB (Clu.noX) 36 (Clu.decH (rlH lw)))) (hl : Clu.AV.flts lc = true) (hu : Clu.AV.flts cs = true)  (c1 : i < k) (n1 : i < k := by omega) (n2 : (Clu.isS (Clu.getL lc (0 + (i * 1)))) = true) (n3 : (Clu.sN (Clu.getL lc (0 + (i * 1)))) < 1000001 := by omega) (c2 : ((List.length cs) + 0) < ((0 + (p + 1)) * 1)) (n4 : ((0 + p) * 1) = ((List.length cs) + 0) := by first | omega | (simp; omega)) (n5 : (((2 * (p + 1)) + 1000) * 16) ≤ 281474976710656 := by omega) (n6 : (p + 1) ≤ 4294967296 := by omega) (n7 : (i + 1) < 9223372036854775808 := by omega) : ∃ os' : Nat → Option Clu.AV, (∀ t, Clu.flatB (os' t) = true) ∧ Clu.RunE Try.prog 50 (Clu.loopNo Try.f19 0) 30 1000 (Clu.mkFr 30 (Clu.std [3, 5, 6] [.so 1000 0 1 k, .so 1001 0 1 p, .i .i64 (.ofNat i)] [4, 11, 12, 13, 17] os)) (Clu.mkH .e ([(1001, .c cs 0 1 (some 9)), (1000, .c lc 0 1 (some 9))] ++ (Clu.layB []))) 1002 (Clu.exOf 0) (Clu.mkFr 30 (Clu.std [3, 5, 6] [(Clu.AV.so 1000 0 1 k), (Clu.AV.so 1003 0 1 (p + 1)), (Clu.AV.i IntKind.i64 (Int.ofNat (i + 1)))] [4, 11, 12, 13, 17] os')) (Clu.mkH .e ([(1003, .c (cs ++ [(Clu.AV.s (Clu.sN (Clu.getL lc (0 + (i * 1)))) (lw (Clu.sN (Clu.getL lc (0 + (i * 1)))) (Clu.sNN (Clu.getL lc (0 + (i * 1))))))]) 0 1 (some 9)), (1000, .c lc 0 1 (some 9))] ++ (Clu.layB []))) 1004 :=
  Clu.segMN (vs := [(Clu.AV.so 1000 0 1 k), (Clu.AV.so 1003 0 1 (p + 1)), (Clu.AV.i IntKind.i64 (Int.ofNat (i + 1)))]) (cs := [(cs ++ [(Clu.AV.s (Clu.sN (Clu.getL lc (0 + (i * 1)))) (lw (Clu.sN (Clu.getL lc (0 + (i * 1)))) (Clu.sNN (Clu.getL lc (0 + (i * 1))))))]), lc]) 0 0 [3, 5, 6] [(1003, 0, 1, (some 9)), (1000, 0, 1, (some 9))] (Clu.evL_ok Clu.plain (hX) (Clu.drK_ok Clu.mixed) (Clu.noL_ok) 50) (Clu.layB_bs rfl (by decide) (by decide)) hos (((((((((((((((rfoB_raw lw k i p lc cs os)).trans (Clu.forkB_t (Clu.iLt_t (Int.ofNat_lt.2 c1)) _ _)).trans (Clu.needT_eq (Clu.blt_iff.2 n1) _ _)).trans (Clu.needT_eq (n2) _ _)).trans (Clu.needT_eq (Clu.blt_iff.2 n3) _ _)).trans (Clu.forkB_f (Clu.ble_f c2) _ _)).trans (Clu.needT_eq ((congrArg (fun z => Bool.and z Bool.true) (Clu.beq_iff.2 n4)).trans rfl) _ _)).trans (Clu.needT_eq (Clu.ble_iff.2 n5) _ _)).trans (Clu.needT_eq (Clu.ble_iff.2 n6) _ _)).trans (Clu.needT_eq (Clu.inR_nat (k := .i64) n7) _ _)).trans (Clu.needT_eq (hos _) _ _)).trans (Clu.needT_eq (hos _) _ _)).trans (Clu.needT_eq (hos _) _ _)).trans (Clu.needT_eq (hos _) _ _)) rfl rfl rfl (by simp) (by simp)
set_option maxRecDepth 10000000 in
theorem rfoZ_raw (i : Nat) (os : Nat → Option Clu.AV) : Clu.evL (Clu.noL) Try.prog (Clu.noX) 50 30 1000 (Clu.loopNo Try.f19 0) (Clu.tellF [3000026, 3000034] (Clu.mkFr 30 (Clu.std [3, 5, 6] [.sn, .sn, .i .i64 (.ofNat i)] [4, 11, 12, 13, 17] os))) (Clu.mkH (Clu.mkH .e (Clu.layB [])) []) 1000 (Clu.finM 30 1000 [4, 11, 12, 13, 17] 0 [(0, [3, 5, 6], [], none), (2, [5], [], none)]) = Clu.needT ((Clu.flatB (os 4))) (.err 90 1) (Clu.needT ((Clu.flatB (os 11))) (.err 90 1) (Clu.needT ((Clu.flatB (os 12))) (.err 90 1) (Clu.needT ((Clu.flatB (os 13))) (.err 90 1) ((Clu.Out.ok (Clu.AV.tu [(Clu.AV.i IntKind.i64 (Int.ofNat 1)), Clu.AV.sn])))))) := by kernel_rfl
set_option linter.unusedVariables false in
theorem rfoZ_0 (i : Nat) (os : Nat → Option Clu.AV) (hos : ∀ t, Clu.flatB (os t) = true)   : ∃ os' : Nat → Option Clu.AV, (∀ t, Clu.flatB (os' t) = true) ∧ Clu.RunE Try.prog 50 (Clu.loopNo Try.f19 0) 30 1000 (Clu.mkFr 30 (Clu.std [3, 5, 6] [.sn, .sn, .i .i64 (.ofNat i)] [4, 11, 12, 13, 17] os)) (Clu.mkH .e ([] ++ (Clu.layB []))) 1000 (Clu.exOf 2) (Clu.mkFr 30 (Clu.std [5] [Clu.AV.sn] [4, 11, 12, 13, 17] os')) (Clu.mkH .e ([] ++ (Clu.layB []))) 1000 :=
  Clu.segM (vs := [Clu.AV.sn]) (cs := []) 1 2 [5] [] (Clu.evL_ok Clu.plain (Clu.noX_ok) (Clu.drK_ok Clu.mixed) (Clu.noL_ok) 50) (Clu.layB_bs rfl (by decide) (by decide)) hos ((((((rfoZ_raw i os)).trans (Clu.needT_eq (hos _) _ _)).trans (Clu.needT_eq (hos _) _ _)).trans (Clu.needT_eq (hos _) _ _)).trans (Clu.needT_eq (hos _) _ _)) rfl rfl rfl (by decide) rfl (by simp [Clu.Blk.und, Clu.AV.und, Clu.AV.unds]) rfl (Clu.newH_ro rfl) (by simp [Clu.AV.und, Clu.AV.unds, Clu.AV.cells, Clu.unds_splice])
set_option maxRecDepth 10000000 in
theorem rfoF_raw (is em : Nat → Nat → Bool) (kk : Nat → Nat → Nat) (ls : Nat → Nat → List Clu.AV) (lw : Nat → Nat → Nat) (bk : List Clu.AV → Nat → Nat → Bool) (bn bN : List Clu.AV → Nat → Nat) (n N p : Nat) (cs : List Clu.AV) : (Clu.layK [] .e fun h => Clu.runL (Clu.addL (Clu.noL) (Clu.loopNo Try.f19 0) 6 (Clu.loopM [3000026, 3000034] Try.prog (Clu.loopNo Try.f19 0) [3, 5, 6] [4, 11, 12, 13, 17] [1000] [] (fun vs _ _ => match vs with | .sn :: _ => .leaf (2, [5], [.sn], [], 1000) | _ => .leaf (2, [5], [.so 1001 0 1 p], [(1001, .c cs 0 1 (some 9))], 1004)))) Try.prog (Clu.tell (Clu.addB (Clu.addB (Clu.addB (Clu.noX) 12 (Clu.rowH [] (labH is em kk ls))) 36 (Clu.decH (rlH lw))) 34 (Clu.rowH [] (byH bk bn bN))) 19 30000343000026) ((n + 1000)) 1000 19 [.s n N] h 1000) = Clu.needT ((Nat.blt n 1000001)) (.err 96 1) (Clu.forkB ((is n N)) ((Clu.Out.ok (Clu.AV.s 0 0))) (Clu.forkB ((em n N)) (Clu.needP ((Clu.loopNo Try.f19 0) = (Clu.loopNo Try.f19 0)) (fun _ => .err 91 0) (fun h597 => Clu.needP (Clu.LoopQ (Try.prog) ((Clu.loopNo Try.f19 0)) ((n + 993)) (30) (1000) (([] ++ [(1000, (Clu.Blk.c (ls n N) 0 1 (Option.some 9)))])) (1001) (2) ([3, 5, 6]) ([(Clu.AV.so (Clu.backN (Clu.dedupN (Clu.AV.idsL (HAppend.hAppend [] (HAppend.hAppend [(Clu.AV.s n N)] [])))) 1000 1000) 0 1 (kk n N)), Clu.AV.sn, (Clu.AV.i IntKind.i64 (Int.ofNat 0))]) ([4, 11, 12, 13, 17]) ([5]) ([(Clu.AV.so 1001 0 1 p)]) (([(1001, (Clu.Blk.c cs 0 1 (Option.some 9)))] ++ [(1000, (Clu.Blk.c (ls n N) 0 1 (Option.some 9)))])) (1004)) (fun _ => .err 93 1) (fun h596 => Clu.needT ((bk cs 0 p)) (.err 96 1) (Clu.needT ((Nat.ble (List.length cs) 1000000000000000000000)) (.err 95 4) ((Clu.Out.ok (Clu.AV.s (bn cs 0) (bN cs 0)))))))) (Clu.needP ((Clu.loopNo Try.f19 0) = (Clu.loopNo Try.f19 0)) (fun _ => .err 91 0) (fun h597 => Clu.needP (Clu.LoopQ (Try.prog) ((Clu.loopNo Try.f19 0)) ((n + 993)) (30) (1000) ([]) (1000) (2) ([3, 5, 6]) ([Clu.AV.sn, Clu.AV.sn, (Clu.AV.i IntKind.i64 (Int.ofNat 0))]) ([4, 11, 12, 13, 17]) ([5]) ([Clu.AV.sn]) ([]) (1000)) (fun _ => .err 93 1) (fun h596 => (Clu.Out.ok (Clu.AV.s 1 0))))))) := by kernel_rfl
set_option linter.unusedVariables false in
theorem rfoF_0 (is em : Nat → Nat → Bool) (kk : Nat → Nat → Nat) (ls : Nat → Nat → List Clu.AV) (lw : Nat → Nat → Nat) (bk : List Clu.AV → Nat → Nat → Bool) (bn bN : List Clu.AV → Nat → Nat) (n N p : Nat) (cs : List Clu.AV) (hX : Clu.XOK Try.prog (Clu.addB (Clu.addB (Clu.addB (Clu.noX) 12 (Clu.rowH [] (labH is em kk ls))) 36 (Clu.decH (rlH lw))) 34 (Clu.rowH [] (byH bk bn bN)))) (hu : Clu.AV.flts cs = true)  (n1 : n < 1000001 := by omega) (c1 : (is n N) = false) : Clu.Fact Try.prog 19 [] [.s n N] (Clu.AV.s 0 0) :=
  Clu.factL Clu.plain (Clu.tell_ok (hX)) Clu.mixed (Clu.addL_ok (Clu.noL_ok) Clu.loopM_ok) ((((rfoF_raw is em kk ls lw bk bn bN n N p cs)).trans (Clu.needT_eq (Clu.blt_iff.2 n1) _ _)).trans (Clu.forkB_f (c1) _ _)) rfl (rfl)
set_option linter.unusedVariables false in
theorem rfoF_1 (is em : Nat → Nat → Bool) (kk : Nat → Nat → Nat) (ls : Nat → Nat → List Clu.AV) (lw : Nat → Nat → Nat) (bk : List Clu.AV → Nat → Nat → Bool) (bn bN : List Clu.AV → Nat → Nat) (n N p : Nat) (cs : List Clu.AV) (hX : Clu.XOK Try.prog (Clu.addB (Clu.addB (Clu.addB (Clu.noX) 12 (Clu.rowH [] (labH is em kk ls))) 36 (Clu.decH (rlH lw))) 34 (Clu.rowH [] (byH bk bn bN)))) (hu : Clu.AV.flts cs = true)  (n1 : n < 1000001 := by omega) (c1 : (is n N) = true) (c2 : (em n N) = false) (q1 : Clu.LoopQ (Try.prog) ((Clu.loopNo Try.f19 0)) ((n + 993)) (30) (1000) (([] ++ [(1000, (Clu.Blk.c (ls n N) 0 1 (Option.some 9)))])) (1001) (2) ([3, 5, 6]) ([(Clu.AV.so (Clu.backN (Clu.dedupN (Clu.AV.idsL (HAppend.hAppend [] (HAppend.hAppend [(Clu.AV.s n N)] [])))) 1000 1000) 0 1 (kk n N)), Clu.AV.sn, (Clu.AV.i IntKind.i64 (Int.ofNat 0))]) ([4, 11, 12, 13, 17]) ([5]) ([(Clu.AV.so 1001 0 1 p)]) (([(1001, (Clu.Blk.c cs 0 1 (Option.some 9)))] ++ [(1000, (Clu.Blk.c (ls n N) 0 1 (Option.some 9)))])) (1004)) (n2 : (bk cs 0 p) = true) (n3 : (List.length cs) ≤ 1000000000000000000000 := by first | omega | (simp; omega)) : Clu.Fact Try.prog 19 [] [.s n N] (Clu.AV.s (bn cs 0) (bN cs 0)) :=
  Clu.factL Clu.plain (Clu.tell_ok (hX)) Clu.mixed (Clu.addL_ok (Clu.noL_ok) Clu.loopM_ok) (((((((((rfoF_raw is em kk ls lw bk bn bN n N p cs)).trans (Clu.needT_eq (Clu.blt_iff.2 n1) _ _)).trans (Clu.forkB_t (c1) _ _)).trans (Clu.forkB_f (c2) _ _)).trans (Clu.needP_eq rfl _ _)).trans (Clu.needP_eq q1 _ _)).trans (Clu.needT_eq (n2) _ _)).trans (Clu.needT_eq (Clu.ble_iff.2 n3) _ _)) rfl (rfl)
set_option linter.unusedVariables false in
theorem rfoF_2 (is em : Nat → Nat → Bool) (kk : Nat → Nat → Nat) (ls : Nat → Nat → List Clu.AV) (lw : Nat → Nat → Nat) (bk : List Clu.AV → Nat → Nat → Bool) (bn bN : List Clu.AV → Nat → Nat) (n N p : Nat) (cs : List Clu.AV) (hX : Clu.XOK Try.prog (Clu.addB (Clu.addB (Clu.addB (Clu.noX) 12 (Clu.rowH [] (labH is em kk ls))) 36 (Clu.decH (rlH lw))) 34 (Clu.rowH [] (byH bk bn bN)))) (hu : Clu.AV.flts cs = true)  (n1 : n < 1000001 := by omega) (c1 : (is n N) = true) (c2 : (em n N) = true) (q1 : Clu.LoopQ (Try.prog) ((Clu.loopNo Try.f19 0)) ((n + 993)) (30) (1000) ([]) (1000) (2) ([3, 5, 6]) ([Clu.AV.sn, Clu.AV.sn, (Clu.AV.i IntKind.i64 (Int.ofNat 0))]) ([4, 11, 12, 13, 17]) ([5]) ([Clu.AV.sn]) ([]) (1000)) : Clu.Fact Try.prog 19 [] [.s n N] (Clu.AV.s 1 0) :=
  Clu.factL Clu.plain (Clu.tell_ok (hX)) Clu.mixed (Clu.addL_ok (Clu.noL_ok) Clu.loopM_ok) (((((((rfoF_raw is em kk ls lw bk bn bN n N p cs)).trans (Clu.needT_eq (Clu.blt_iff.2 n1) _ _)).trans (Clu.forkB_t (c1) _ _)).trans (Clu.forkB_t (c2) _ _)).trans (Clu.needP_eq rfl _ _)).trans (Clu.needP_eq q1 _ _)) rfl (rfl)
def FoR (L A : List (List Nat)) (i fuel : Nat) : Prop := Clu.LoopR Try.prog (Clu.loopNo Try.f19 0) fuel 30 1000 1001 ([(1001, .c (Clu.S1 A) 0 1 (some 9))] ++ ([(1000, .c (Clu.S1 L) 0 1 (some 9))] ++ Clu.layB [])) 1002 2 [3, 5, 6] [.so 1000 0 1 L.length, .so 1001 0 1 A.length, .i .i64 (.ofNat i)] [4, 11, 12, 13, 17] [5] [.so 1001 0 1 L.length] ([(1001, .c (Clu.S1 (L.map low)) 0 1 (some 9))] ++ ([(1000, .c (Clu.S1 L) 0 1 (some 9))] ++ Clu.layB [])) 1002 1004
theorem gl_low {L : List (List Nat)} : ∀ x ∈ ([(1000, .c (Clu.S1 L) 0 1 (some 9))] ++ Clu.layB [] : List (Nat × Clu.Blk)), x.1 < 1001 ∧ x.2.und 1001 = true := fun x hx => by
  obtain rfl := List.mem_singleton.1 hx
  exact ⟨(show 1000 < 1001 by omega), Clu.flts_unds (Clu.S1_flts _)⟩
theorem lowcell {x : List Nat} (h : Clu.B8 x) : Clu.AV.s x.length (rwF x.length (Clu.pk x)) = .s (low x).length (Clu.pk (low x)) := by rw [rwF_pk h, low_length]
theorem rlX_ok : Clu.XOK Try.prog (Clu.addB (Clu.noX) 36 (Clu.decH (rlH rwF))) := Clu.addB_ok Clu.noX_ok rlH_ok
theorem at_i {L : List (List Nat)} {i : Nat} (h : i < L.length) : Clu.isS (Clu.getL (Clu.S1 L) (0 + i * 1)) = true ∧ Clu.sN (Clu.getL (Clu.S1 L) (0 + i * 1)) = (L.getD i []).length ∧ Clu.sNN (Clu.getL (Clu.S1 L) (0 + i * 1)) = Clu.pk (L.getD i []) := by
  have e : 0 + i * 1 = i := by omega
  rw [e]
  exact ⟨Clu.S1_isS h, Clu.S1_sN h, Clu.S1_sNN h⟩
theorem getD_mem' {L : List (List Nat)} {i : Nat} (h : i < L.length) : L.getD i [] ∈ L := by
  rw [List.getD_eq_getElem?_getD, List.getElem?_eq_getElem h]
  exact List.getElem_mem h
theorem take_map {L : List (List Nat)} {i : Nat} (h : i < L.length) : (L.take (i + 1)).map low = (L.take i).map low ++ [low (L.getD i [])] := by
  rw [List.take_add_one, List.map_append, List.getD_eq_getElem?_getD, List.getElem?_eq_getElem h]
  rfl
theorem rfo_B {L : List (List Nat)} (h8 : ∀ x ∈ L, Clu.B8 x) (hx : ∀ x ∈ L, x.length ≤ 1000000) (hn : L.length ≤ 1000000) : ∀ (f i : Nat), i + f = L.length → FoR L ((L.take i).map low) i (51 + f)
  | 0, i, hf => by
    obtain rfl : i = L.length := by omega
    unfold FoR
    rw [List.take_length, List.length_map]
    exact Clu.LoopR.out (n := 50) (by simp [Clu.exOf]) (by omega) (by omega) (by omega) fun os ho => rfoB_0 rwF _ _ _ _ _ os ho rlX_ok (Clu.S1_flts _) (Clu.S1_flts _) (by omega)
  | f + 1, i, hf => by
    have h : i < L.length := by omega
    obtain ⟨e0, e1, e2⟩ := at_i h
    have hm := hx _ (getD_mem' h)
    have hl : ((L.take i).map low).length = i := by rw [List.length_map, List.length_take]; omega
    have hs := Clu.S1_length ((L.take i).map low)
    unfold FoR
    refine Clu.LoopR.app (nx1 := 1004) (c1 := Clu.S1 ((L.take (i + 1)).map low)) (vs1 := [.so 1000 0 1 L.length, .so 1003 0 1 (((L.take i).map low).length + 1), .i .i64 (.ofNat (i + 1))]) 2 (show 50 ≤ 51 + f by omega) (fun os ho => ?_) (by omega) (by omega) (by omega) (by omega) ?_ rfl gl_low (Clu.S1_flts _) (rfo_B h8 hx hn f (i + 1) (by omega))
    · have := rfoB_1 rwF L.length i ((L.take i).map low).length (Clu.S1 L) (Clu.S1 ((L.take i).map low)) os ho rlX_ok (Clu.S1_flts _) (Clu.S1_flts _) h (n2 := e0) (n3 := by omega) (c2 := by omega)
      rw [e1, e2, lowcell (h8 _ (getD_mem' h)), Clu.S1_app, ← take_map h] at this
      exact this
    · rw [take_map h, List.length_append]
      rfl
theorem rfo_A {L : List (List Nat)} (h8 : ∀ x ∈ L, Clu.B8 x) (hx : ∀ x ∈ L, x.length ≤ 1000000) (hn : L.length ≤ 1000000) (hL : 0 < L.length) : Clu.LoopQ Try.prog (Clu.loopNo Try.f19 0) (51 + L.length) 30 1000 ([] ++ ([(1000, .c (Clu.S1 L) 0 1 (some 9))] ++ Clu.layB [])) 1001 2 [3, 5, 6] [.so 1000 0 1 L.length, .sn, .i .i64 (.ofNat 0)] [4, 11, 12, 13, 17] [5] [.so 1001 0 1 L.length] ([(1001, .c (Clu.S1 (L.map low)) 0 1 (some 9))] ++ ([(1000, .c (Clu.S1 L) 0 1 (some 9))] ++ Clu.layB [])) 1004 := by
  have K := rfo_B h8 hx hn (L.length - 1) 1 (by omega)
  obtain ⟨e0, e1, e2⟩ := at_i hL
  have hm := hx _ (getD_mem' hL)
  have e3 : (L.take 1).map low = [low (L.getD 0 [])] := by
    have := take_map hL
    rw [this]; rfl
  rw [e3] at K
  unfold FoR at K
  have e4 : 51 + L.length = 51 + (L.length - 1) + 1 := by omega
  rw [e4]
  refine Clu.LoopR.come (Clu.LoopR.app (nx1 := 1003) (c1 := Clu.S1 [low (L.getD 0 [])]) (vs1 := [.so 1000 0 1 L.length, .so 1002 0 1 1, .i .i64 (.ofNat (0 + 1))]) 1 (show 50 ≤ 51 + (L.length - 1) by omega) (fun os ho => ?_) (by omega) (by omega) (by omega) (by omega) rfl rfl gl_low (Clu.S1_flts _) K) (by omega) (by omega) gl_low (Clu.S1_flts _) rfl
  have := rfoA_1 rwF L.length 0 (Clu.S1 L) os ho rlX_ok (Clu.S1_flts _) hL (n2 := e0) (n3 := by omega)
  rw [e1, e2, lowcell (h8 _ (getD_mem' hL))] at this
  exact this
theorem foldL_wire {l : List Nat} {L : List (List Nat)} (h : labN l = some L) : foldL l = wire (L.map low) := by
  obtain ⟨h1, h2, h3⟩ := labN_wire h
  have hm := labN_may l
  rw [h] at hm
  have hm : true = mayB l := hm
  unfold foldL
  rw [if_pos hm.symm, ← h1, low_wire h2]
theorem foldL_none {l : List Nat} (h : labN l = none) : foldL l = [] := by
  have hm := labN_may l
  rw [h] at hm
  unfold foldL
  rw [← hm]; rfl
theorem rfo_fact {l : List Nat} (hB : Clu.B8 l) (hn : l.length ≤ 1000000) : Clu.Fact Try.prog 19 [] [.s l.length (Clu.pk l)] (.s (foldL l).length (Clu.pk (foldL l))) := by
  cases hl : labN l with
  | none =>
    rw [foldL_none hl]
    exact rfoF_0 isF emF kkF lsF rwF bokF bnF bNF _ _ 0 [] rX_ok rfl (c1 := by rw [isF_pk hB, hl]; rfl)
  | some L =>
    rw [foldL_wire hl]
    cases L with
    | nil => exact rfoF_2 isF emF kkF lsF rwF bokF bnF bNF _ _ 0 [] rX_ok rfl (c1 := by rw [isF_pk hB, hl]; rfl) (c2 := by rw [emF_pk hB, hl]) (q1 := Clu.LoopQ.out (n := 50) (by simp [Clu.exOf]) (show 50 < l.length + 993 by omega) fun os ho => rfoZ_0 _ os ho)
    | cons x K =>
      obtain ⟨hw, hL, hn2⟩ := labN_wire hl
      have h8 : ∀ y ∈ x :: K, Clu.B8 y := wire_b8 (by rw [hw]; exact hB)
      have ek := kkF_pk hB
      have el := lsF_pk hB
      rw [hl] at ek el
      have ek : kkF l.length (Clu.pk l) = (x :: K).length := ek
      have el : lsF l.length (Clu.pk l) = Clu.S1 (x :: K) := el
      have hm := labs_many hL
      rw [hw] at hm
      have h8l : ∀ y ∈ (x :: K).map low, Clu.B8 y := fun y hy => by
        obtain ⟨z, hz, rfl⟩ := List.mem_map.1 hy
        exact low_b8 (h8 z hz)
      have hb := bok_drop (L := (x :: K).map low) h8l (by rw [wire_low_length, hw]; omega) (d := 0) (by omega)
      rw [Nat.sub_zero, List.length_map] at hb
      have Q := (rfo_A h8 (fun y hy => by have := hL y hy; omega) (by omega) (by simp only [List.length_cons]; omega)).upto (show 51 + (x :: K).length ≤ l.length + 993 by omega)
      have e1 : (wire ((x :: K).map low)).length = bnF (Clu.S1 ((x :: K).map low)) 0 := by unfold bnF; rw [rowL_S1 h8l]; rfl
      have e2 : Clu.pk (wire ((x :: K).map low)) = bNF (Clu.S1 ((x :: K).map low)) 0 := by unfold bNF; rw [rowL_S1 h8l]; rfl
      rw [e1, e2]
      refine rfoF_1 isF emF kkF lsF rwF bokF bnF bNF l.length (Clu.pk l) (x :: K).length _ rX_ok (Clu.S1_flts _) (c1 := by rw [isF_pk hB, hl]; rfl) (c2 := by rw [emF_pk hB, hl]) (q1 := ?_) (n2 := hb) (n3 := by rw [Clu.S1_length, List.length_map]; omega)
      rw [ek, el]
      exact Q

end Go.Proofs.Ytmokdhmicdmgfaa

namespace Go.Proofs.Ytmokdhmicdmgfaa
open Go.RowKit
set_option linter.unusedVariables false
set_option linter.unusedSimpArgs false
set_option maxRecDepth 100000
set_option maxRecDepth 10000000 in
theorem rsaF_raw (my : Nat → Nat → Bool) (fo : Nat → Nat → Nat × Nat) (n N m M : Nat) : (Clu.layK [] .e fun h => Clu.runL (Clu.noL) Try.prog (Clu.tell (Clu.addB (Clu.addB (Clu.noX) 41 (Clu.decH (r1b my))) 19 (Clu.decH (r1s fo))) 23 30000223000014) (1000) 1000 23 [.s n N, .s m M] h 1000) = Clu.needT ((Nat.blt n 1000001)) (.err 96 1) (Clu.forkB ((my n N)) ((Clu.Out.ok (Clu.AV.b false))) (Clu.needT ((Nat.blt m 1000001)) (.err 96 1) (Clu.forkB ((my m M)) ((Clu.Out.ok (Clu.AV.b false))) (Clu.needT ((Nat.blt n 1000001)) (.err 96 1) (Clu.needT ((Nat.blt m 1000001)) (.err 96 1) ((Clu.Out.ok (Clu.AV.b (Clu.eqNs ((fo n N)).1 ((fo n N)).2 ((fo m M)).1 ((fo m M)).2))))))))) := by kernel_rfl
set_option linter.unusedVariables false in
theorem rsaF_0 (my : Nat → Nat → Bool) (fo : Nat → Nat → Nat × Nat) (n N m M : Nat) (hX : Clu.XOK Try.prog (Clu.addB (Clu.addB (Clu.noX) 41 (Clu.decH (r1b my))) 19 (Clu.decH (r1s fo))))  (n1 : n < 1000001 := by omega) (c1 : (my n N) = false) : Clu.Fact Try.prog 23 [] [.s n N, .s m M] (Clu.AV.b false) :=
  Clu.factL Clu.plain (Clu.tell_ok (hX)) Clu.mixed (Clu.noL_ok) ((((rsaF_raw my fo n N m M)).trans (Clu.needT_eq (Clu.blt_iff.2 n1) _ _)).trans (Clu.forkB_f (c1) _ _)) rfl (rfl)
set_option linter.unusedVariables false in
theorem rsaF_1 (my : Nat → Nat → Bool) (fo : Nat → Nat → Nat × Nat) (n N m M : Nat) (hX : Clu.XOK Try.prog (Clu.addB (Clu.addB (Clu.noX) 41 (Clu.decH (r1b my))) 19 (Clu.decH (r1s fo))))  (n1 : n < 1000001 := by omega) (c1 : (my n N) = true) (n2 : m < 1000001 := by omega) (c2 : (my m M) = false) : Clu.Fact Try.prog 23 [] [.s n N, .s m M] (Clu.AV.b false) :=
  Clu.factL Clu.plain (Clu.tell_ok (hX)) Clu.mixed (Clu.noL_ok) ((((((rsaF_raw my fo n N m M)).trans (Clu.needT_eq (Clu.blt_iff.2 n1) _ _)).trans (Clu.forkB_t (c1) _ _)).trans (Clu.needT_eq (Clu.blt_iff.2 n2) _ _)).trans (Clu.forkB_f (c2) _ _)) rfl (rfl)
set_option linter.unusedVariables false in
theorem rsaF_2 (my : Nat → Nat → Bool) (fo : Nat → Nat → Nat × Nat) (n N m M : Nat) (hX : Clu.XOK Try.prog (Clu.addB (Clu.addB (Clu.noX) 41 (Clu.decH (r1b my))) 19 (Clu.decH (r1s fo))))  (n1 : n < 1000001 := by omega) (c1 : (my n N) = true) (n2 : m < 1000001 := by omega) (c2 : (my m M) = true) (n3 : n < 1000001 := by omega) (n4 : m < 1000001 := by omega) : Clu.Fact Try.prog 23 [] [.s n N, .s m M] (Clu.AV.b (Clu.eqNs ((fo n N)).1 ((fo n N)).2 ((fo m M)).1 ((fo m M)).2)) :=
  Clu.factL Clu.plain (Clu.tell_ok (hX)) Clu.mixed (Clu.noL_ok) ((((((((rsaF_raw my fo n N m M)).trans (Clu.needT_eq (Clu.blt_iff.2 n1) _ _)).trans (Clu.forkB_t (c1) _ _)).trans (Clu.needT_eq (Clu.blt_iff.2 n2) _ _)).trans (Clu.forkB_t (c2) _ _)).trans (Clu.needT_eq (Clu.blt_iff.2 n3) _ _)).trans (Clu.needT_eq (Clu.blt_iff.2 n4) _ _)) rfl (rfl)
set_option maxRecDepth 10000000 in
theorem rwiS_raw (my : Nat → Nat → Bool) (sa : Nat → Nat → Nat → Nat → Bool) (pa : Nat → Nat → Nat × Nat) (pb : Nat → Nat → Bool) (n N m M : Nat) (os : Nat → Option Clu.AV) : Clu.evL (Clu.noL) Try.prog (Clu.addB (Clu.addB (Clu.addB (Clu.noX) 41 (Clu.decH (r1b my))) 23 (Clu.decH (r2b sa))) 16 (Clu.decH (r1p pa pb))) 50 26 1000 (Clu.loopNo Try.f25 0) (Clu.tellF [3000020, 3000028, 3000034, 3000048] (Clu.mkFr 26 (Clu.std [0, 1] [.s n N, .s m M] [4, 6, 8, 9, 10, 12, 13, 14, 17, 22, 23, 24] os))) (Clu.mkH (Clu.mkH .e (Clu.layB [])) []) 1000 (Clu.finM 26 1000 [4, 6, 8, 9, 10, 12, 13, 14, 17, 22, 23, 24] 0 [(0, [0, 1], [], none), (1, [4], [], none)]) = Clu.needT ((Nat.blt n 1000001)) (.err 96 1) (Clu.needT ((Nat.blt m 1000001)) (.err 96 1) (Clu.forkB ((sa n N m M)) (Clu.needT ((Nat.blt n 1000001)) (.err 96 1) (Clu.forkB ((Bool.not (pb n N))) (Clu.needT ((Clu.flatB (os 4))) (.err 90 1) (Clu.needT ((Clu.flatB (os 8))) (.err 90 1) (Clu.needT ((Clu.flatB (os 9))) (.err 90 1) (Clu.needT ((Clu.flatB (os 10))) (.err 90 1) (Clu.needT ((Clu.flatB (os 12))) (.err 90 1) (Clu.needT ((Clu.flatB (os 13))) (.err 90 1) (Clu.needT ((Clu.flatB (os 14))) (.err 90 1) ((Clu.Out.ok (Clu.AV.tu [(Clu.AV.i IntKind.i64 (Int.ofNat 0)), (Clu.AV.s ((pa n N)).1 ((pa n N)).2), (Clu.AV.s m M)])))))))))) (Clu.needT ((Clu.flatB (os 8))) (.err 90 1) (Clu.needT ((Clu.flatB (os 9))) (.err 90 1) (Clu.needT ((Clu.flatB (os 10))) (.err 90 1) (Clu.needT ((Clu.flatB (os 12))) (.err 90 1) (Clu.needT ((Clu.flatB (os 13))) (.err 90 1) (Clu.needT ((Clu.flatB (os 14))) (.err 90 1) ((Clu.Out.ok (Clu.AV.tu [(Clu.AV.i IntKind.i64 (Int.ofNat 1)), (Clu.AV.b false)]))))))))))) (Clu.needT ((Clu.flatB (os 6))) (.err 90 1) (Clu.needT ((Clu.flatB (os 8))) (.err 90 1) (Clu.needT ((Clu.flatB (os 9))) (.err 90 1) (Clu.needT ((Clu.flatB (os 10))) (.err 90 1) (Clu.needT ((Clu.flatB (os 12))) (.err 90 1) (Clu.needT ((Clu.flatB (os 13))) (.err 90 1) (Clu.needT ((Clu.flatB (os 14))) (.err 90 1) (Clu.needT ((Clu.flatB (os 22))) (.err 90 1) (Clu.needT ((Clu.flatB (os 23))) (.err 90 1) (Clu.needT ((Clu.flatB (os 24))) (.err 90 1) ((Clu.Out.ok (Clu.AV.tu [(Clu.AV.i IntKind.i64 (Int.ofNat 1)), (Clu.AV.b true)]))))))))))))))) := by kernel_rfl
set_option linter.unusedVariables false in
theorem rwiS_0 (my : Nat → Nat → Bool) (sa : Nat → Nat → Nat → Nat → Bool) (pa : Nat → Nat → Nat × Nat) (pb : Nat → Nat → Bool) (n N m M : Nat) (os : Nat → Option Clu.AV) (hos : ∀ t, Clu.flatB (os t) = true) (hX : Clu.XOK Try.prog (Clu.addB (Clu.addB (Clu.addB (Clu.noX) 41 (Clu.decH (r1b my))) 23 (Clu.decH (r2b sa))) 16 (Clu.decH (r1p pa pb))))  (n1 : n < 1000001 := by omega) (n2 : m < 1000001 := by omega) (c1 : (sa n N m M) = false) (n3 : n < 1000001 := by omega) (c2 : (pb n N) = true) : ∃ os' : Nat → Option Clu.AV, (∀ t, Clu.flatB (os' t) = true) ∧ Clu.RunE Try.prog 50 (Clu.loopNo Try.f25 0) 26 1000 (Clu.mkFr 26 (Clu.std [0, 1] [.s n N, .s m M] [4, 6, 8, 9, 10, 12, 13, 14, 17, 22, 23, 24] os)) (Clu.mkH .e ([] ++ (Clu.layB []))) 1000 (Clu.exOf 0) (Clu.mkFr 26 (Clu.std [0, 1] [(Clu.AV.s ((pa n N)).1 ((pa n N)).2), (Clu.AV.s m M)] [4, 6, 8, 9, 10, 12, 13, 14, 17, 22, 23, 24] os')) (Clu.mkH .e ([] ++ (Clu.layB []))) 1000 :=
  Clu.segM (vs := [(Clu.AV.s ((pa n N)).1 ((pa n N)).2), (Clu.AV.s m M)]) (cs := []) 0 0 [0, 1] [] (Clu.evL_ok Clu.plain (hX) (Clu.drK_ok Clu.mixed) (Clu.noL_ok) 50) (Clu.layB_bs rfl (by decide) (by decide)) hos ((((((((((((((rwiS_raw my sa pa pb n N m M os)).trans (Clu.needT_eq (Clu.blt_iff.2 n1) _ _)).trans (Clu.needT_eq (Clu.blt_iff.2 n2) _ _)).trans (Clu.forkB_f (c1) _ _)).trans (Clu.needT_eq (Clu.blt_iff.2 n3) _ _)).trans (Clu.forkB_f (congrArg not (c2)) _ _)).trans (Clu.needT_eq (hos _) _ _)).trans (Clu.needT_eq (hos _) _ _)).trans (Clu.needT_eq (hos _) _ _)).trans (Clu.needT_eq (hos _) _ _)).trans (Clu.needT_eq (hos _) _ _)).trans (Clu.needT_eq (hos _) _ _)).trans (Clu.needT_eq (hos _) _ _)) rfl rfl rfl (by decide) rfl (by simp [Clu.Blk.und, Clu.AV.und, Clu.AV.unds]) rfl (Clu.newH_ro rfl) (by simp [Clu.AV.und, Clu.AV.unds, Clu.AV.cells, Clu.unds_splice])
set_option linter.unusedVariables false in
theorem rwiS_1 (my : Nat → Nat → Bool) (sa : Nat → Nat → Nat → Nat → Bool) (pa : Nat → Nat → Nat × Nat) (pb : Nat → Nat → Bool) (n N m M : Nat) (os : Nat → Option Clu.AV) (hos : ∀ t, Clu.flatB (os t) = true) (hX : Clu.XOK Try.prog (Clu.addB (Clu.addB (Clu.addB (Clu.noX) 41 (Clu.decH (r1b my))) 23 (Clu.decH (r2b sa))) 16 (Clu.decH (r1p pa pb))))  (n1 : n < 1000001 := by omega) (n2 : m < 1000001 := by omega) (c1 : (sa n N m M) = false) (n3 : n < 1000001 := by omega) (c2 : (pb n N) = false) : ∃ os' : Nat → Option Clu.AV, (∀ t, Clu.flatB (os' t) = true) ∧ Clu.RunE Try.prog 50 (Clu.loopNo Try.f25 0) 26 1000 (Clu.mkFr 26 (Clu.std [0, 1] [.s n N, .s m M] [4, 6, 8, 9, 10, 12, 13, 14, 17, 22, 23, 24] os)) (Clu.mkH .e ([] ++ (Clu.layB []))) 1000 (Clu.exOf 1) (Clu.mkFr 26 (Clu.std [4] [(Clu.AV.b false)] [4, 6, 8, 9, 10, 12, 13, 14, 17, 22, 23, 24] os')) (Clu.mkH .e ([] ++ (Clu.layB []))) 1000 :=
  Clu.segM (vs := [(Clu.AV.b false)]) (cs := []) 1 1 [4] [] (Clu.evL_ok Clu.plain (hX) (Clu.drK_ok Clu.mixed) (Clu.noL_ok) 50) (Clu.layB_bs rfl (by decide) (by decide)) hos (((((((((((((rwiS_raw my sa pa pb n N m M os)).trans (Clu.needT_eq (Clu.blt_iff.2 n1) _ _)).trans (Clu.needT_eq (Clu.blt_iff.2 n2) _ _)).trans (Clu.forkB_f (c1) _ _)).trans (Clu.needT_eq (Clu.blt_iff.2 n3) _ _)).trans (Clu.forkB_t (congrArg not (c2)) _ _)).trans (Clu.needT_eq (hos _) _ _)).trans (Clu.needT_eq (hos _) _ _)).trans (Clu.needT_eq (hos _) _ _)).trans (Clu.needT_eq (hos _) _ _)).trans (Clu.needT_eq (hos _) _ _)).trans (Clu.needT_eq (hos _) _ _)) rfl rfl rfl (by decide) rfl (by simp [Clu.Blk.und, Clu.AV.und, Clu.AV.unds]) rfl (Clu.newH_ro rfl) (by simp [Clu.AV.und, Clu.AV.unds, Clu.AV.cells, Clu.unds_splice])
set_option linter.unusedVariables false in
theorem rwiS_2 (my : Nat → Nat → Bool) (sa : Nat → Nat → Nat → Nat → Bool) (pa : Nat → Nat → Nat × Nat) (pb : Nat → Nat → Bool) (n N m M : Nat) (os : Nat → Option Clu.AV) (hos : ∀ t, Clu.flatB (os t) = true) (hX : Clu.XOK Try.prog (Clu.addB (Clu.addB (Clu.addB (Clu.noX) 41 (Clu.decH (r1b my))) 23 (Clu.decH (r2b sa))) 16 (Clu.decH (r1p pa pb))))  (n1 : n < 1000001 := by omega) (n2 : m < 1000001 := by omega) (c1 : (sa n N m M) = true) : ∃ os' : Nat → Option Clu.AV, (∀ t, Clu.flatB (os' t) = true) ∧ Clu.RunE Try.prog 50 (Clu.loopNo Try.f25 0) 26 1000 (Clu.mkFr 26 (Clu.std [0, 1] [.s n N, .s m M] [4, 6, 8, 9, 10, 12, 13, 14, 17, 22, 23, 24] os)) (Clu.mkH .e ([] ++ (Clu.layB []))) 1000 (Clu.exOf 1) (Clu.mkFr 26 (Clu.std [4] [(Clu.AV.b true)] [4, 6, 8, 9, 10, 12, 13, 14, 17, 22, 23, 24] os')) (Clu.mkH .e ([] ++ (Clu.layB []))) 1000 :=
  Clu.segM (vs := [(Clu.AV.b true)]) (cs := []) 1 1 [4] [] (Clu.evL_ok Clu.plain (hX) (Clu.drK_ok Clu.mixed) (Clu.noL_ok) 50) (Clu.layB_bs rfl (by decide) (by decide)) hos (((((((((((((((rwiS_raw my sa pa pb n N m M os)).trans (Clu.needT_eq (Clu.blt_iff.2 n1) _ _)).trans (Clu.needT_eq (Clu.blt_iff.2 n2) _ _)).trans (Clu.forkB_t (c1) _ _)).trans (Clu.needT_eq (hos _) _ _)).trans (Clu.needT_eq (hos _) _ _)).trans (Clu.needT_eq (hos _) _ _)).trans (Clu.needT_eq (hos _) _ _)).trans (Clu.needT_eq (hos _) _ _)).trans (Clu.needT_eq (hos _) _ _)).trans (Clu.needT_eq (hos _) _ _)).trans (Clu.needT_eq (hos _) _ _)).trans (Clu.needT_eq (hos _) _ _)).trans (Clu.needT_eq (hos _) _ _)) rfl rfl rfl (by decide) rfl (by simp [Clu.Blk.und, Clu.AV.und, Clu.AV.unds]) rfl (Clu.newH_ro rfl) (by simp [Clu.AV.und, Clu.AV.unds, Clu.AV.cells, Clu.unds_splice])
set_option maxRecDepth 10000000 in
theorem rwiF_raw (my : Nat → Nat → Bool) (sa : Nat → Nat → Nat → Nat → Bool) (pa : Nat → Nat → Nat × Nat) (pb : Nat → Nat → Bool) (n N m M : Nat) (w : Bool) : (Clu.layK [] .e fun h => Clu.runL (Clu.addL (Clu.noL) (Clu.loopNo Try.f25 0) 3 (Clu.loopM [3000020, 3000028, 3000034, 3000048] Try.prog (Clu.loopNo Try.f25 0) [0, 1] [4, 6, 8, 9, 10, 12, 13, 14, 17, 22, 23, 24] [] [] (fun _ _ _ => .leaf (1, [4], [.b w], [], 1000)))) Try.prog (Clu.tell (Clu.addB (Clu.addB (Clu.addB (Clu.noX) 41 (Clu.decH (r1b my))) 23 (Clu.decH (r2b sa))) 16 (Clu.decH (r1p pa pb))) 25 3000048300003430000283000020) ((n + 1000)) 1000 25 [.s n N, .s m M] h 1000) = Clu.needT ((Nat.blt n 1000001)) (.err 96 1) (Clu.forkB ((Bool.not (my n N))) (Clu.needT ((Nat.blt m 1000001)) (.err 96 1) (Clu.forkB ((Bool.not (my m M))) (Clu.needP ((Clu.loopNo Try.f25 0) = (Clu.loopNo Try.f25 0)) (fun _ => .err 91 0) (fun h596 => Clu.needP (Clu.LoopQ (Try.prog) ((Clu.loopNo Try.f25 0)) ((n + 997)) (26) (1000) ([]) (1000) (1) ([0, 1]) ([(Clu.AV.s n N), (Clu.AV.s m M)]) ([4, 6, 8, 9, 10, 12, 13, 14, 17, 22, 23, 24]) ([4]) ([(Clu.AV.b w)]) ([]) (1000)) (fun _ => .err 93 1) (fun h595 => (Clu.Out.ok (Clu.AV.b w))))) ((Clu.Out.ok (Clu.AV.b false))))) ((Clu.Out.ok (Clu.AV.b false)))) := by kernel_rfl
set_option linter.unusedVariables false in
theorem rwiF_0 (my : Nat → Nat → Bool) (sa : Nat → Nat → Nat → Nat → Bool) (pa : Nat → Nat → Nat × Nat) (pb : Nat → Nat → Bool) (n N m M : Nat) (w : Bool) (hX : Clu.XOK Try.prog (Clu.addB (Clu.addB (Clu.addB (Clu.noX) 41 (Clu.decH (r1b my))) 23 (Clu.decH (r2b sa))) 16 (Clu.decH (r1p pa pb))))  (n1 : n < 1000001 := by omega) (c1 : (my n N) = true) (n2 : m < 1000001 := by omega) (c2 : (my m M) = true) (q1 : Clu.LoopQ (Try.prog) ((Clu.loopNo Try.f25 0)) ((n + 997)) (26) (1000) ([]) (1000) (1) ([0, 1]) ([(Clu.AV.s n N), (Clu.AV.s m M)]) ([4, 6, 8, 9, 10, 12, 13, 14, 17, 22, 23, 24]) ([4]) ([(Clu.AV.b w)]) ([]) (1000)) : Clu.Fact Try.prog 25 [] [.s n N, .s m M] (Clu.AV.b w) :=
  Clu.factL Clu.plain (Clu.tell_ok (hX)) Clu.mixed (Clu.addL_ok (Clu.noL_ok) Clu.loopM_ok) ((((((((rwiF_raw my sa pa pb n N m M w)).trans (Clu.needT_eq (Clu.blt_iff.2 n1) _ _)).trans (Clu.forkB_f (congrArg not (c1)) _ _)).trans (Clu.needT_eq (Clu.blt_iff.2 n2) _ _)).trans (Clu.forkB_f (congrArg not (c2)) _ _)).trans (Clu.needP_eq rfl _ _)).trans (Clu.needP_eq q1 _ _)) rfl (rfl)
set_option linter.unusedVariables false in
theorem rwiF_1 (my : Nat → Nat → Bool) (sa : Nat → Nat → Nat → Nat → Bool) (pa : Nat → Nat → Nat × Nat) (pb : Nat → Nat → Bool) (n N m M : Nat) (w : Bool) (hX : Clu.XOK Try.prog (Clu.addB (Clu.addB (Clu.addB (Clu.noX) 41 (Clu.decH (r1b my))) 23 (Clu.decH (r2b sa))) 16 (Clu.decH (r1p pa pb))))  (n1 : n < 1000001 := by omega) (c1 : (my n N) = true) (n2 : m < 1000001 := by omega) (c2 : (my m M) = false) : Clu.Fact Try.prog 25 [] [.s n N, .s m M] (Clu.AV.b false) :=
  Clu.factL Clu.plain (Clu.tell_ok (hX)) Clu.mixed (Clu.addL_ok (Clu.noL_ok) Clu.loopM_ok) ((((((rwiF_raw my sa pa pb n N m M w)).trans (Clu.needT_eq (Clu.blt_iff.2 n1) _ _)).trans (Clu.forkB_f (congrArg not (c1)) _ _)).trans (Clu.needT_eq (Clu.blt_iff.2 n2) _ _)).trans (Clu.forkB_t (congrArg not (c2)) _ _)) rfl (rfl)
set_option linter.unusedVariables false in
theorem rwiF_2 (my : Nat → Nat → Bool) (sa : Nat → Nat → Nat → Nat → Bool) (pa : Nat → Nat → Nat × Nat) (pb : Nat → Nat → Bool) (n N m M : Nat) (w : Bool) (hX : Clu.XOK Try.prog (Clu.addB (Clu.addB (Clu.addB (Clu.noX) 41 (Clu.decH (r1b my))) 23 (Clu.decH (r2b sa))) 16 (Clu.decH (r1p pa pb))))  (n1 : n < 1000001 := by omega) (c1 : (my n N) = false) : Clu.Fact Try.prog 25 [] [.s n N, .s m M] (Clu.AV.b false) :=
  Clu.factL Clu.plain (Clu.tell_ok (hX)) Clu.mixed (Clu.addL_ok (Clu.noL_ok) Clu.loopM_ok) ((((rwiF_raw my sa pa pb n N m M w)).trans (Clu.needT_eq (Clu.blt_iff.2 n1) _ _)).trans (Clu.forkB_t (congrArg not (c1)) _ _)) rfl (rfl)
set_option maxRecDepth 10000000 in
theorem rcoS_raw (lw : Nat → Nat → Nat) (a b k : Nat) (lc ld : List Clu.AV) (os : Nat → Option Clu.AV) : Clu.evL (Clu.noL) Try.prog (Clu.addB (Clu.noX) 36 (Clu.decH (rlH lw))) 50 72 1000 (Clu.loopNo Try.f27 0) (Clu.tellF [3000048, 3000054, 3000064, 3000074, 3000116, 3000122, 3000132, 3000142] (Clu.mkFr 72 (Clu.std [5, 7, 9] [.so 1000 0 1 a, .so 1001 0 1 b, .i .i64 (.ofNat k)] [6, 8, 16, 21, 22, 23, 24, 25, 26, 27, 31, 32, 36, 37, 58, 61, 66, 71] os))) (Clu.mkH (Clu.mkH .e (Clu.layB [])) [(1000, .c lc 0 1 (some 9)), (1001, .c ld 0 1 (some 9))]) 1002 (Clu.finM 72 1002 [6, 8, 16, 21, 22, 23, 24, 25, 26, 27, 31, 32, 36, 37, 58, 61, 66, 71] 0 [(0, [5, 7, 9], [(1000, 0, 1, (some 9)), (1001, 0, 1, (some 9))], none), (1, [4], [(1000, 0, 1, (some 9)), (1001, 0, 1, (some 9))], none), (2, [5, 7], [(1000, 0, 1, (some 9)), (1001, 0, 1, (some 9))], none)]) = Clu.forkB ((Bool.not (Clu.iLt (Int.ofNat a) (Int.ofNat k)))) (Clu.needT ((Clu.flatB (os 6))) (.err 90 1) (Clu.needT ((Clu.flatB (os 8))) (.err 90 1) (Clu.needT ((Clu.flatB (os 16))) (.err 90 1) (Clu.needT ((Clu.flatB (os 21))) (.err 90 1) (Clu.needT ((Clu.flatB (os 22))) (.err 90 1) (Clu.needT ((Clu.flatB (os 23))) (.err 90 1) (Clu.needT ((Clu.flatB (os 24))) (.err 90 1) (Clu.needT ((Clu.flatB (os 25))) (.err 90 1) (Clu.needT ((Clu.flatB (os 26))) (.err 90 1) (Clu.needT ((Clu.flatB (os 27))) (.err 90 1) (Clu.needT ((Clu.flatB (os 58))) (.err 90 1) (Clu.needT ((Clu.flatB (os 61))) (.err 90 1) (Clu.needT ((Clu.flatB (os 66))) (.err 90 1) (Clu.needT ((Clu.flatB (os 71))) (.err 90 1) ((Clu.Out.ok (Clu.AV.tu [(Clu.AV.i IntKind.i64 (Int.ofNat 2)), (Clu.AV.so 1000 0 1 a), (Clu.AV.so 1001 0 1 b), (Clu.AV.ag lc), (Clu.AV.ag ld)]))))))))))))))))) (Clu.forkB ((Bool.not (Clu.iLt (Int.ofNat b) (Int.ofNat k)))) (Clu.needT ((Clu.flatB (os 6))) (.err 90 1) (Clu.needT ((Clu.flatB (os 8))) (.err 90 1) (Clu.needT ((Clu.flatB (os 16))) (.err 90 1) (Clu.needT ((Clu.flatB (os 21))) (.err 90 1) (Clu.needT ((Clu.flatB (os 22))) (.err 90 1) (Clu.needT ((Clu.flatB (os 23))) (.err 90 1) (Clu.needT ((Clu.flatB (os 24))) (.err 90 1) (Clu.needT ((Clu.flatB (os 25))) (.err 90 1) (Clu.needT ((Clu.flatB (os 26))) (.err 90 1) (Clu.needT ((Clu.flatB (os 27))) (.err 90 1) (Clu.needT ((Clu.flatB (os 58))) (.err 90 1) (Clu.needT ((Clu.flatB (os 61))) (.err 90 1) (Clu.needT ((Clu.flatB (os 66))) (.err 90 1) (Clu.needT ((Clu.flatB (os 71))) (.err 90 1) ((Clu.Out.ok (Clu.AV.tu [(Clu.AV.i IntKind.i64 (Int.ofNat 2)), (Clu.AV.so 1000 0 1 a), (Clu.AV.so 1001 0 1 b), (Clu.AV.ag lc), (Clu.AV.ag ld)]))))))))))))))))) (Clu.needT ((Clu.inR IntKind.i64 ((Int.ofNat a) - (Int.ofNat k)))) (.err 10 20) (Clu.needI (((Int.ofNat a) - (Int.ofNat k))) (fun _ => .err 22 1) (fun n597 => Clu.needT ((Nat.blt n597 a)) (.err 22 0) (Clu.needT ((Clu.isS (Clu.getL lc (0 + (n597 * 1))))) (.err 8 2) (Clu.needT ((Clu.inR IntKind.i64 ((Int.ofNat b) - (Int.ofNat k)))) (.err 10 20) (Clu.needI (((Int.ofNat b) - (Int.ofNat k))) (fun _ => .err 22 1) (fun n593 => Clu.needT ((Nat.blt n593 b)) (.err 22 0) (Clu.needT ((Clu.isS (Clu.getL ld (0 + (n593 * 1))))) (.err 8 2) (Clu.needT ((Nat.blt (Clu.sN (Clu.getL lc (0 + (n597 * 1)))) 1000001)) (.err 96 1) (Clu.needT ((Nat.blt (Clu.sN (Clu.getL ld (0 + (n593 * 1)))) 1000001)) (.err 96 1) (Clu.forkB ((Clu.ltS (Clu.sN (Clu.getL lc (0 + (n597 * 1)))) (lw (Clu.sN (Clu.getL lc (0 + (n597 * 1)))) (Clu.sNN (Clu.getL lc (0 + (n597 * 1))))) (Clu.sN (Clu.getL ld (0 + (n593 * 1)))) (lw (Clu.sN (Clu.getL ld (0 + (n593 * 1)))) (Clu.sNN (Clu.getL ld (0 + (n593 * 1))))))) (Clu.forkB ((Bool.not (Bool.or (Clu.ltS (Clu.sN (Clu.getL lc (0 + (n597 * 1)))) (lw (Clu.sN (Clu.getL lc (0 + (n597 * 1)))) (Clu.sNN (Clu.getL lc (0 + (n597 * 1))))) (Clu.sN (Clu.getL ld (0 + (n593 * 1)))) (lw (Clu.sN (Clu.getL ld (0 + (n593 * 1)))) (Clu.sNN (Clu.getL ld (0 + (n593 * 1)))))) (Clu.eqNs (Clu.sN (Clu.getL lc (0 + (n597 * 1)))) (lw (Clu.sN (Clu.getL lc (0 + (n597 * 1)))) (Clu.sNN (Clu.getL lc (0 + (n597 * 1))))) (Clu.sN (Clu.getL ld (0 + (n593 * 1)))) (lw (Clu.sN (Clu.getL ld (0 + (n593 * 1)))) (Clu.sNN (Clu.getL ld (0 + (n593 * 1))))))))) (Clu.needT ((Clu.inR IntKind.i64 (Int.ofNat (k + 1)))) (.err 10 20) (Clu.needT ((Clu.flatB (os 6))) (.err 90 1) (Clu.needT ((Clu.flatB (os 8))) (.err 90 1) (Clu.needT ((Clu.flatB (os 16))) (.err 90 1) (Clu.needT ((Clu.flatB (os 21))) (.err 90 1) (Clu.needT ((Clu.flatB (os 22))) (.err 90 1) (Clu.needT ((Clu.flatB (os 23))) (.err 90 1) (Clu.needT ((Clu.flatB (os 24))) (.err 90 1) (Clu.needT ((Clu.flatB (os 25))) (.err 90 1) (Clu.needT ((Clu.flatB (os 26))) (.err 90 1) (Clu.needT ((Clu.flatB (os 27))) (.err 90 1) (Clu.needT ((Clu.flatB (os 66))) (.err 90 1) (Clu.needT ((Clu.flatB (os 71))) (.err 90 1) ((Clu.Out.ok (Clu.AV.tu [(Clu.AV.i IntKind.i64 (Int.ofNat 0)), (Clu.AV.so 1000 0 1 a), (Clu.AV.so 1001 0 1 b), (Clu.AV.i IntKind.i64 (Int.ofNat (k + 1))), (Clu.AV.ag lc), (Clu.AV.ag ld)])))))))))))))))) (Clu.needT ((Clu.flatB (os 6))) (.err 90 1) (Clu.needT ((Clu.flatB (os 8))) (.err 90 1) (Clu.needT ((Clu.flatB (os 16))) (.err 90 1) (Clu.needT ((Clu.flatB (os 21))) (.err 90 1) (Clu.needT ((Clu.flatB (os 22))) (.err 90 1) (Clu.needT ((Clu.flatB (os 23))) (.err 90 1) (Clu.needT ((Clu.flatB (os 24))) (.err 90 1) (Clu.needT ((Clu.flatB (os 25))) (.err 90 1) (Clu.needT ((Clu.flatB (os 26))) (.err 90 1) (Clu.needT ((Clu.flatB (os 27))) (.err 90 1) (Clu.needT ((Clu.flatB (os 66))) (.err 90 1) (Clu.needT ((Clu.flatB (os 71))) (.err 90 1) ((Clu.Out.ok (Clu.AV.tu [(Clu.AV.i IntKind.i64 (Int.ofNat 1)), (Clu.AV.i IntKind.i64 (Int.ofNat 1)), (Clu.AV.ag lc), (Clu.AV.ag ld)])))))))))))))))) (Clu.needT ((Clu.flatB (os 6))) (.err 90 1) (Clu.needT ((Clu.flatB (os 8))) (.err 90 1) (Clu.needT ((Clu.flatB (os 16))) (.err 90 1) (Clu.needT ((Clu.flatB (os 21))) (.err 90 1) (Clu.needT ((Clu.flatB (os 22))) (.err 90 1) (Clu.needT ((Clu.flatB (os 23))) (.err 90 1) (Clu.needT ((Clu.flatB (os 24))) (.err 90 1) (Clu.needT ((Clu.flatB (os 25))) (.err 90 1) (Clu.needT ((Clu.flatB (os 26))) (.err 90 1) (Clu.needT ((Clu.flatB (os 27))) (.err 90 1) (Clu.needT ((Clu.flatB (os 61))) (.err 90 1) (Clu.needT ((Clu.flatB (os 66))) (.err 90 1) (Clu.needT ((Clu.flatB (os 71))) (.err 90 1) ((Clu.Out.ok (Clu.AV.tu [(Clu.AV.i IntKind.i64 (Int.ofNat 1)), (Clu.AV.i IntKind.i64 (Int.negSucc 0)), (Clu.AV.ag lc), (Clu.AV.ag ld)])))))))))))))))))))))))))))) := by kernel_rfl
set_option linter.unusedVariables false in
theorem rcoS_0 (lw : Nat → Nat → Nat) (a b k : Nat) (lc ld : List Clu.AV) (os : Nat → Option Clu.AV) (hos : ∀ t, Clu.flatB (os t) = true) (hX : Clu.XOK Try.prog (Clu.addB (Clu.noX) 36 (Clu.decH (rlH lw)))) (hl : Clu.AV.flts lc = true) (hl2 : Clu.AV.flts ld = true)  (c1 : a < k) : ∃ os' : Nat → Option Clu.AV, (∀ t, Clu.flatB (os' t) = true) ∧ Clu.RunE Try.prog 50 (Clu.loopNo Try.f27 0) 72 1000 (Clu.mkFr 72 (Clu.std [5, 7, 9] [.so 1000 0 1 a, .so 1001 0 1 b, .i .i64 (.ofNat k)] [6, 8, 16, 21, 22, 23, 24, 25, 26, 27, 31, 32, 36, 37, 58, 61, 66, 71] os)) (Clu.mkH .e ([(1000, .c lc 0 1 (some 9)), (1001, .c ld 0 1 (some 9))] ++ (Clu.layB []))) 1002 (Clu.exOf 2) (Clu.mkFr 72 (Clu.std [5, 7] [(Clu.AV.so 1000 0 1 a), (Clu.AV.so 1001 0 1 b)] [6, 8, 16, 21, 22, 23, 24, 25, 26, 27, 31, 32, 36, 37, 58, 61, 66, 71] os')) (Clu.mkH .e ([(1000, .c lc 0 1 (some 9)), (1001, .c ld 0 1 (some 9))] ++ (Clu.layB []))) 1002 :=
  Clu.segM (vs := [(Clu.AV.so 1000 0 1 a), (Clu.AV.so 1001 0 1 b)]) (cs := [lc, ld]) 2 2 [5, 7] [(1000, 0, 1, (some 9)), (1001, 0, 1, (some 9))] (Clu.evL_ok Clu.plain (hX) (Clu.drK_ok Clu.mixed) (Clu.noL_ok) 50) (Clu.layB_bs rfl (by decide) (by decide)) hos (((((((((((((((((rcoS_raw lw a b k lc ld os)).trans (Clu.forkB_f (congrArg not (Clu.iLt_t (Int.ofNat_lt.2 c1))) _ _)).trans (Clu.needT_eq (hos _) _ _)).trans (Clu.needT_eq (hos _) _ _)).trans (Clu.needT_eq (hos _) _ _)).trans (Clu.needT_eq (hos _) _ _)).trans (Clu.needT_eq (hos _) _ _)).trans (Clu.needT_eq (hos _) _ _)).trans (Clu.needT_eq (hos _) _ _)).trans (Clu.needT_eq (hos _) _ _)).trans (Clu.needT_eq (hos _) _ _)).trans (Clu.needT_eq (hos _) _ _)).trans (Clu.needT_eq (hos _) _ _)).trans (Clu.needT_eq (hos _) _ _)).trans (Clu.needT_eq (hos _) _ _)).trans (Clu.needT_eq (hos _) _ _)) rfl rfl rfl (by decide) rfl (by simp [Clu.Blk.und, Clu.AV.und, Clu.AV.unds, Clu.flts_unds hl, Clu.flts_unds hl2]) rfl (Clu.newH_ro rfl) (by simp [Clu.AV.und, Clu.AV.unds, Clu.AV.cells, Clu.unds_splice, Clu.flts_unds hl, Clu.flts_unds hl2])
set_option linter.unusedVariables false in
theorem rcoS_1 (lw : Nat → Nat → Nat) (a b k : Nat) (lc ld : List Clu.AV) (os : Nat → Option Clu.AV) (hos : ∀ t, Clu.flatB (os t) = true) (hX : Clu.XOK Try.prog (Clu.addB (Clu.noX) 36 (Clu.decH (rlH lw)))) (hl : Clu.AV.flts lc = true) (hl2 : Clu.AV.flts ld = true)  (c1 : k ≤ a) (c2 : b < k) : ∃ os' : Nat → Option Clu.AV, (∀ t, Clu.flatB (os' t) = true) ∧ Clu.RunE Try.prog 50 (Clu.loopNo Try.f27 0) 72 1000 (Clu.mkFr 72 (Clu.std [5, 7, 9] [.so 1000 0 1 a, .so 1001 0 1 b, .i .i64 (.ofNat k)] [6, 8, 16, 21, 22, 23, 24, 25, 26, 27, 31, 32, 36, 37, 58, 61, 66, 71] os)) (Clu.mkH .e ([(1000, .c lc 0 1 (some 9)), (1001, .c ld 0 1 (some 9))] ++ (Clu.layB []))) 1002 (Clu.exOf 2) (Clu.mkFr 72 (Clu.std [5, 7] [(Clu.AV.so 1000 0 1 a), (Clu.AV.so 1001 0 1 b)] [6, 8, 16, 21, 22, 23, 24, 25, 26, 27, 31, 32, 36, 37, 58, 61, 66, 71] os')) (Clu.mkH .e ([(1000, .c lc 0 1 (some 9)), (1001, .c ld 0 1 (some 9))] ++ (Clu.layB []))) 1002 :=
  Clu.segM (vs := [(Clu.AV.so 1000 0 1 a), (Clu.AV.so 1001 0 1 b)]) (cs := [lc, ld]) 2 2 [5, 7] [(1000, 0, 1, (some 9)), (1001, 0, 1, (some 9))] (Clu.evL_ok Clu.plain (hX) (Clu.drK_ok Clu.mixed) (Clu.noL_ok) 50) (Clu.layB_bs rfl (by decide) (by decide)) hos ((((((((((((((((((rcoS_raw lw a b k lc ld os)).trans (Clu.forkB_t (congrArg not (Clu.iLt_f (Int.ofNat_le.2 c1))) _ _)).trans (Clu.forkB_f (congrArg not (Clu.iLt_t (Int.ofNat_lt.2 c2))) _ _)).trans (Clu.needT_eq (hos _) _ _)).trans (Clu.needT_eq (hos _) _ _)).trans (Clu.needT_eq (hos _) _ _)).trans (Clu.needT_eq (hos _) _ _)).trans (Clu.needT_eq (hos _) _ _)).trans (Clu.needT_eq (hos _) _ _)).trans (Clu.needT_eq (hos _) _ _)).trans (Clu.needT_eq (hos _) _ _)).trans (Clu.needT_eq (hos _) _ _)).trans (Clu.needT_eq (hos _) _ _)).trans (Clu.needT_eq (hos _) _ _)).trans (Clu.needT_eq (hos _) _ _)).trans (Clu.needT_eq (hos _) _ _)).trans (Clu.needT_eq (hos _) _ _)) rfl rfl rfl (by decide) rfl (by simp [Clu.Blk.und, Clu.AV.und, Clu.AV.unds, Clu.flts_unds hl, Clu.flts_unds hl2]) rfl (Clu.newH_ro rfl) (by simp [Clu.AV.und, Clu.AV.unds, Clu.AV.cells, Clu.unds_splice, Clu.flts_unds hl, Clu.flts_unds hl2])
set_option linter.unusedVariables false in
theorem rcoS_2 (lw : Nat → Nat → Nat) (a b k : Nat) (lc ld : List Clu.AV) (os : Nat → Option Clu.AV) (hos : ∀ t, Clu.flatB (os t) = true) (hX : Clu.XOK Try.prog (Clu.addB (Clu.noX) 36 (Clu.decH (rlH lw)))) (hl : Clu.AV.flts lc = true) (hl2 : Clu.AV.flts ld = true)  (c1 : k ≤ a) (c2 : k ≤ b) (n1 : -9223372036854775808 ≤ (((a : Nat) : Int) - ((k : Nat) : Int)) ∧ (((a : Nat) : Int) - ((k : Nat) : Int)) < 9223372036854775808 := by omega) (n597 : Nat) (e_n597 : ((Int.ofNat a) - (Int.ofNat k)) = Int.ofNat n597) (n2 : n597 < a := by omega) (n3 : (Clu.isS (Clu.getL lc (0 + (n597 * 1)))) = true) (n4 : -9223372036854775808 ≤ (((b : Nat) : Int) - ((k : Nat) : Int)) ∧ (((b : Nat) : Int) - ((k : Nat) : Int)) < 9223372036854775808 := by omega) (n593 : Nat) (e_n593 : ((Int.ofNat b) - (Int.ofNat k)) = Int.ofNat n593) (n5 : n593 < b := by omega) (n6 : (Clu.isS (Clu.getL ld (0 + (n593 * 1)))) = true) (n7 : (Clu.sN (Clu.getL lc (0 + (n597 * 1)))) < 1000001 := by omega) (n8 : (Clu.sN (Clu.getL ld (0 + (n593 * 1)))) < 1000001 := by omega) (c3 : (Clu.ltS (Clu.sN (Clu.getL lc (0 + (n597 * 1)))) (lw (Clu.sN (Clu.getL lc (0 + (n597 * 1)))) (Clu.sNN (Clu.getL lc (0 + (n597 * 1))))) (Clu.sN (Clu.getL ld (0 + (n593 * 1)))) (lw (Clu.sN (Clu.getL ld (0 + (n593 * 1)))) (Clu.sNN (Clu.getL ld (0 + (n593 * 1)))))) = false) (c4 : (Bool.or (Clu.ltS (Clu.sN (Clu.getL lc (0 + (n597 * 1)))) (lw (Clu.sN (Clu.getL lc (0 + (n597 * 1)))) (Clu.sNN (Clu.getL lc (0 + (n597 * 1))))) (Clu.sN (Clu.getL ld (0 + (n593 * 1)))) (lw (Clu.sN (Clu.getL ld (0 + (n593 * 1)))) (Clu.sNN (Clu.getL ld (0 + (n593 * 1)))))) (Clu.eqNs (Clu.sN (Clu.getL lc (0 + (n597 * 1)))) (lw (Clu.sN (Clu.getL lc (0 + (n597 * 1)))) (Clu.sNN (Clu.getL lc (0 + (n597 * 1))))) (Clu.sN (Clu.getL ld (0 + (n593 * 1)))) (lw (Clu.sN (Clu.getL ld (0 + (n593 * 1)))) (Clu.sNN (Clu.getL ld (0 + (n593 * 1))))))) = true) (n9 : (k + 1) < 9223372036854775808 := by omega) : ∃ os' : Nat → Option Clu.AV, (∀ t, Clu.flatB (os' t) = true) ∧ Clu.RunE Try.prog 50 (Clu.loopNo Try.f27 0) 72 1000 (Clu.mkFr 72 (Clu.std [5, 7, 9] [.so 1000 0 1 a, .so 1001 0 1 b, .i .i64 (.ofNat k)] [6, 8, 16, 21, 22, 23, 24, 25, 26, 27, 31, 32, 36, 37, 58, 61, 66, 71] os)) (Clu.mkH .e ([(1000, .c lc 0 1 (some 9)), (1001, .c ld 0 1 (some 9))] ++ (Clu.layB []))) 1002 (Clu.exOf 0) (Clu.mkFr 72 (Clu.std [5, 7, 9] [(Clu.AV.so 1000 0 1 a), (Clu.AV.so 1001 0 1 b), (Clu.AV.i IntKind.i64 (Int.ofNat (k + 1)))] [6, 8, 16, 21, 22, 23, 24, 25, 26, 27, 31, 32, 36, 37, 58, 61, 66, 71] os')) (Clu.mkH .e ([(1000, .c lc 0 1 (some 9)), (1001, .c ld 0 1 (some 9))] ++ (Clu.layB []))) 1002 :=
  Clu.segM (vs := [(Clu.AV.so 1000 0 1 a), (Clu.AV.so 1001 0 1 b), (Clu.AV.i IntKind.i64 (Int.ofNat (k + 1)))]) (cs := [lc, ld]) 0 0 [5, 7, 9] [(1000, 0, 1, (some 9)), (1001, 0, 1, (some 9))] (Clu.evL_ok Clu.plain (hX) (Clu.drK_ok Clu.mixed) (Clu.noL_ok) 50) (Clu.layB_bs rfl (by decide) (by decide)) hos (((((((((((((((((((((((((((((rcoS_raw lw a b k lc ld os)).trans (Clu.forkB_t (congrArg not (Clu.iLt_f (Int.ofNat_le.2 c1))) _ _)).trans (Clu.forkB_t (congrArg not (Clu.iLt_f (Int.ofNat_le.2 c2))) _ _)).trans (Clu.needT_eq (Clu.inR_int (k := .i64) (half := 9223372036854775808) rfl n1) _ _)).trans (Clu.needI_eq e_n597 _ _)).trans (Clu.needT_eq (Clu.blt_iff.2 n2) _ _)).trans (Clu.needT_eq (n3) _ _)).trans (Clu.needT_eq (Clu.inR_int (k := .i64) (half := 9223372036854775808) rfl n4) _ _)).trans (Clu.needI_eq e_n593 _ _)).trans (Clu.needT_eq (Clu.blt_iff.2 n5) _ _)).trans (Clu.needT_eq (n6) _ _)).trans (Clu.needT_eq (Clu.blt_iff.2 n7) _ _)).trans (Clu.needT_eq (Clu.blt_iff.2 n8) _ _)).trans (Clu.forkB_f (c3) _ _)).trans (Clu.forkB_f (congrArg not (c4)) _ _)).trans (Clu.needT_eq (Clu.inR_nat (k := .i64) n9) _ _)).trans (Clu.needT_eq (hos _) _ _)).trans (Clu.needT_eq (hos _) _ _)).trans (Clu.needT_eq (hos _) _ _)).trans (Clu.needT_eq (hos _) _ _)).trans (Clu.needT_eq (hos _) _ _)).trans (Clu.needT_eq (hos _) _ _)).trans (Clu.needT_eq (hos _) _ _)).trans (Clu.needT_eq (hos _) _ _)).trans (Clu.needT_eq (hos _) _ _)).trans (Clu.needT_eq (hos _) _ _)).trans (Clu.needT_eq (hos _) _ _)).trans (Clu.needT_eq (hos _) _ _)) rfl rfl rfl (by decide) rfl (by simp [Clu.Blk.und, Clu.AV.und, Clu.AV.unds, Clu.flts_unds hl, Clu.flts_unds hl2]) rfl (Clu.newH_ro rfl) (by simp [Clu.AV.und, Clu.AV.unds, Clu.AV.cells, Clu.unds_splice, Clu.flts_unds hl, Clu.flts_unds hl2])
set_option linter.unusedVariables false in
theorem rcoS_3 (lw : Nat → Nat → Nat) (a b k : Nat) (lc ld : List Clu.AV) (os : Nat → Option Clu.AV) (hos : ∀ t, Clu.flatB (os t) = true) (hX : Clu.XOK Try.prog (Clu.addB (Clu.noX) 36 (Clu.decH (rlH lw)))) (hl : Clu.AV.flts lc = true) (hl2 : Clu.AV.flts ld = true)  (c1 : k ≤ a) (c2 : k ≤ b) (n1 : -9223372036854775808 ≤ (((a : Nat) : Int) - ((k : Nat) : Int)) ∧ (((a : Nat) : Int) - ((k : Nat) : Int)) < 9223372036854775808 := by omega) (n597 : Nat) (e_n597 : ((Int.ofNat a) - (Int.ofNat k)) = Int.ofNat n597) (n2 : n597 < a := by omega) (n3 : (Clu.isS (Clu.getL lc (0 + (n597 * 1)))) = true) (n4 : -9223372036854775808 ≤ (((b : Nat) : Int) - ((k : Nat) : Int)) ∧ (((b : Nat) : Int) - ((k : Nat) : Int)) < 9223372036854775808 := by omega) (n593 : Nat) (e_n593 : ((Int.ofNat b) - (Int.ofNat k)) = Int.ofNat n593) (n5 : n593 < b := by omega) (n6 : (Clu.isS (Clu.getL ld (0 + (n593 * 1)))) = true) (n7 : (Clu.sN (Clu.getL lc (0 + (n597 * 1)))) < 1000001 := by omega) (n8 : (Clu.sN (Clu.getL ld (0 + (n593 * 1)))) < 1000001 := by omega) (c3 : (Clu.ltS (Clu.sN (Clu.getL lc (0 + (n597 * 1)))) (lw (Clu.sN (Clu.getL lc (0 + (n597 * 1)))) (Clu.sNN (Clu.getL lc (0 + (n597 * 1))))) (Clu.sN (Clu.getL ld (0 + (n593 * 1)))) (lw (Clu.sN (Clu.getL ld (0 + (n593 * 1)))) (Clu.sNN (Clu.getL ld (0 + (n593 * 1)))))) = false) (c4 : (Bool.or (Clu.ltS (Clu.sN (Clu.getL lc (0 + (n597 * 1)))) (lw (Clu.sN (Clu.getL lc (0 + (n597 * 1)))) (Clu.sNN (Clu.getL lc (0 + (n597 * 1))))) (Clu.sN (Clu.getL ld (0 + (n593 * 1)))) (lw (Clu.sN (Clu.getL ld (0 + (n593 * 1)))) (Clu.sNN (Clu.getL ld (0 + (n593 * 1)))))) (Clu.eqNs (Clu.sN (Clu.getL lc (0 + (n597 * 1)))) (lw (Clu.sN (Clu.getL lc (0 + (n597 * 1)))) (Clu.sNN (Clu.getL lc (0 + (n597 * 1))))) (Clu.sN (Clu.getL ld (0 + (n593 * 1)))) (lw (Clu.sN (Clu.getL ld (0 + (n593 * 1)))) (Clu.sNN (Clu.getL ld (0 + (n593 * 1))))))) = false) : ∃ os' : Nat → Option Clu.AV, (∀ t, Clu.flatB (os' t) = true) ∧ Clu.RunE Try.prog 50 (Clu.loopNo Try.f27 0) 72 1000 (Clu.mkFr 72 (Clu.std [5, 7, 9] [.so 1000 0 1 a, .so 1001 0 1 b, .i .i64 (.ofNat k)] [6, 8, 16, 21, 22, 23, 24, 25, 26, 27, 31, 32, 36, 37, 58, 61, 66, 71] os)) (Clu.mkH .e ([(1000, .c lc 0 1 (some 9)), (1001, .c ld 0 1 (some 9))] ++ (Clu.layB []))) 1002 (Clu.exOf 1) (Clu.mkFr 72 (Clu.std [4] [(Clu.AV.i IntKind.i64 (Int.ofNat 1))] [6, 8, 16, 21, 22, 23, 24, 25, 26, 27, 31, 32, 36, 37, 58, 61, 66, 71] os')) (Clu.mkH .e ([(1000, .c lc 0 1 (some 9)), (1001, .c ld 0 1 (some 9))] ++ (Clu.layB []))) 1002 :=
  Clu.segM (vs := [(Clu.AV.i IntKind.i64 (Int.ofNat 1))]) (cs := [lc, ld]) 1 1 [4] [(1000, 0, 1, (some 9)), (1001, 0, 1, (some 9))] (Clu.evL_ok Clu.plain (hX) (Clu.drK_ok Clu.mixed) (Clu.noL_ok) 50) (Clu.layB_bs rfl (by decide) (by decide)) hos ((((((((((((((((((((((((((((rcoS_raw lw a b k lc ld os)).trans (Clu.forkB_t (congrArg not (Clu.iLt_f (Int.ofNat_le.2 c1))) _ _)).trans (Clu.forkB_t (congrArg not (Clu.iLt_f (Int.ofNat_le.2 c2))) _ _)).trans (Clu.needT_eq (Clu.inR_int (k := .i64) (half := 9223372036854775808) rfl n1) _ _)).trans (Clu.needI_eq e_n597 _ _)).trans (Clu.needT_eq (Clu.blt_iff.2 n2) _ _)).trans (Clu.needT_eq (n3) _ _)).trans (Clu.needT_eq (Clu.inR_int (k := .i64) (half := 9223372036854775808) rfl n4) _ _)).trans (Clu.needI_eq e_n593 _ _)).trans (Clu.needT_eq (Clu.blt_iff.2 n5) _ _)).trans (Clu.needT_eq (n6) _ _)).trans (Clu.needT_eq (Clu.blt_iff.2 n7) _ _)).trans (Clu.needT_eq (Clu.blt_iff.2 n8) _ _)).trans (Clu.forkB_f (c3) _ _)).trans (Clu.forkB_t (congrArg not (c4)) _ _)).trans (Clu.needT_eq (hos _) _ _)).trans (Clu.needT_eq (hos _) _ _)).trans (Clu.needT_eq (hos _) _ _)).trans (Clu.needT_eq (hos _) _ _)).trans (Clu.needT_eq (hos _) _ _)).trans (Clu.needT_eq (hos _) _ _)).trans (Clu.needT_eq (hos _) _ _)).trans (Clu.needT_eq (hos _) _ _)).trans (Clu.needT_eq (hos _) _ _)).trans (Clu.needT_eq (hos _) _ _)).trans (Clu.needT_eq (hos _) _ _)).trans (Clu.needT_eq (hos _) _ _)) rfl rfl rfl (by decide) rfl (by simp [Clu.Blk.und, Clu.AV.und, Clu.AV.unds, Clu.flts_unds hl, Clu.flts_unds hl2]) rfl (Clu.newH_ro rfl) (by simp [Clu.AV.und, Clu.AV.unds, Clu.AV.cells, Clu.unds_splice, Clu.flts_unds hl, Clu.flts_unds hl2])
set_option linter.unusedVariables false in
theorem rcoS_4 (lw : Nat → Nat → Nat) (a b k : Nat) (lc ld : List Clu.AV) (os : Nat → Option Clu.AV) (hos : ∀ t, Clu.flatB (os t) = true) (hX : Clu.XOK Try.prog (Clu.addB (Clu.noX) 36 (Clu.decH (rlH lw)))) (hl : Clu.AV.flts lc = true) (hl2 : Clu.AV.flts ld = true)  (c1 : k ≤ a) (c2 : k ≤ b) (n1 : -9223372036854775808 ≤ (((a : Nat) : Int) - ((k : Nat) : Int)) ∧ (((a : Nat) : Int) - ((k : Nat) : Int)) < 9223372036854775808 := by omega) (n597 : Nat) (e_n597 : ((Int.ofNat a) - (Int.ofNat k)) = Int.ofNat n597) (n2 : n597 < a := by omega) (n3 : (Clu.isS (Clu.getL lc (0 + (n597 * 1)))) = true) (n4 : -9223372036854775808 ≤ (((b : Nat) : Int) - ((k : Nat) : Int)) ∧ (((b : Nat) : Int) - ((k : Nat) : Int)) < 9223372036854775808 := by omega) (n593 : Nat) (e_n593 : ((Int.ofNat b) - (Int.ofNat k)) = Int.ofNat n593) (n5 : n593 < b := by omega) (n6 : (Clu.isS (Clu.getL ld (0 + (n593 * 1)))) = true) (n7 : (Clu.sN (Clu.getL lc (0 + (n597 * 1)))) < 1000001 := by omega) (n8 : (Clu.sN (Clu.getL ld (0 + (n593 * 1)))) < 1000001 := by omega) (c3 : (Clu.ltS (Clu.sN (Clu.getL lc (0 + (n597 * 1)))) (lw (Clu.sN (Clu.getL lc (0 + (n597 * 1)))) (Clu.sNN (Clu.getL lc (0 + (n597 * 1))))) (Clu.sN (Clu.getL ld (0 + (n593 * 1)))) (lw (Clu.sN (Clu.getL ld (0 + (n593 * 1)))) (Clu.sNN (Clu.getL ld (0 + (n593 * 1)))))) = true) : ∃ os' : Nat → Option Clu.AV, (∀ t, Clu.flatB (os' t) = true) ∧ Clu.RunE Try.prog 50 (Clu.loopNo Try.f27 0) 72 1000 (Clu.mkFr 72 (Clu.std [5, 7, 9] [.so 1000 0 1 a, .so 1001 0 1 b, .i .i64 (.ofNat k)] [6, 8, 16, 21, 22, 23, 24, 25, 26, 27, 31, 32, 36, 37, 58, 61, 66, 71] os)) (Clu.mkH .e ([(1000, .c lc 0 1 (some 9)), (1001, .c ld 0 1 (some 9))] ++ (Clu.layB []))) 1002 (Clu.exOf 1) (Clu.mkFr 72 (Clu.std [4] [(Clu.AV.i IntKind.i64 (Int.negSucc 0))] [6, 8, 16, 21, 22, 23, 24, 25, 26, 27, 31, 32, 36, 37, 58, 61, 66, 71] os')) (Clu.mkH .e ([(1000, .c lc 0 1 (some 9)), (1001, .c ld 0 1 (some 9))] ++ (Clu.layB []))) 1002 :=
  Clu.segM (vs := [(Clu.AV.i IntKind.i64 (Int.negSucc 0))]) (cs := [lc, ld]) 1 1 [4] [(1000, 0, 1, (some 9)), (1001, 0, 1, (some 9))] (Clu.evL_ok Clu.plain (hX) (Clu.drK_ok Clu.mixed) (Clu.noL_ok) 50) (Clu.layB_bs rfl (by decide) (by decide)) hos ((((((((((((((((((((((((((((rcoS_raw lw a b k lc ld os)).trans (Clu.forkB_t (congrArg not (Clu.iLt_f (Int.ofNat_le.2 c1))) _ _)).trans (Clu.forkB_t (congrArg not (Clu.iLt_f (Int.ofNat_le.2 c2))) _ _)).trans (Clu.needT_eq (Clu.inR_int (k := .i64) (half := 9223372036854775808) rfl n1) _ _)).trans (Clu.needI_eq e_n597 _ _)).trans (Clu.needT_eq (Clu.blt_iff.2 n2) _ _)).trans (Clu.needT_eq (n3) _ _)).trans (Clu.needT_eq (Clu.inR_int (k := .i64) (half := 9223372036854775808) rfl n4) _ _)).trans (Clu.needI_eq e_n593 _ _)).trans (Clu.needT_eq (Clu.blt_iff.2 n5) _ _)).trans (Clu.needT_eq (n6) _ _)).trans (Clu.needT_eq (Clu.blt_iff.2 n7) _ _)).trans (Clu.needT_eq (Clu.blt_iff.2 n8) _ _)).trans (Clu.forkB_t (c3) _ _)).trans (Clu.needT_eq (hos _) _ _)).trans (Clu.needT_eq (hos _) _ _)).trans (Clu.needT_eq (hos _) _ _)).trans (Clu.needT_eq (hos _) _ _)).trans (Clu.needT_eq (hos _) _ _)).trans (Clu.needT_eq (hos _) _ _)).trans (Clu.needT_eq (hos _) _ _)).trans (Clu.needT_eq (hos _) _ _)).trans (Clu.needT_eq (hos _) _ _)).trans (Clu.needT_eq (hos _) _ _)).trans (Clu.needT_eq (hos _) _ _)).trans (Clu.needT_eq (hos _) _ _)).trans (Clu.needT_eq (hos _) _ _)) rfl rfl rfl (by decide) rfl (by simp [Clu.Blk.und, Clu.AV.und, Clu.AV.unds, Clu.flts_unds hl, Clu.flts_unds hl2]) rfl (Clu.newH_ro rfl) (by simp [Clu.AV.und, Clu.AV.unds, Clu.AV.cells, Clu.unds_splice, Clu.flts_unds hl, Clu.flts_unds hl2])
set_option maxRecDepth 10000000 in
theorem rcoX_raw (a k : Nat) (lc : List Clu.AV) (os : Nat → Option Clu.AV) : Clu.evL (Clu.noL) Try.prog (Clu.noX) 50 72 1000 (Clu.loopNo Try.f27 0) (Clu.tellF [3000048, 3000054, 3000064, 3000074, 3000116, 3000122, 3000132, 3000142] (Clu.mkFr 72 (Clu.std [5, 7, 9] [.so 1000 0 1 a, .sn, .i .i64 (.ofNat k)] [6, 8, 16, 21, 22, 23, 24, 25, 26, 27, 31, 32, 36, 37, 58, 61, 66, 71] os))) (Clu.mkH (Clu.mkH .e (Clu.layB [])) [(1000, .c lc 0 1 (some 9))]) 1001 (Clu.finM 72 1001 [6, 8, 16, 21, 22, 23, 24, 25, 26, 27, 31, 32, 36, 37, 58, 61, 66, 71] 0 [(0, [5, 7, 9], [(1000, 0, 1, (some 9))], none), (1, [4], [(1000, 0, 1, (some 9))], none), (2, [5, 7], [(1000, 0, 1, (some 9))], none)]) = Clu.forkB ((Bool.not (Clu.iLt (Int.ofNat a) (Int.ofNat k)))) (Clu.needT ((Clu.flatB (os 6))) (.err 90 1) (Clu.needT ((Clu.flatB (os 8))) (.err 90 1) (Clu.needT ((Clu.flatB (os 16))) (.err 90 1) (Clu.needT ((Clu.flatB (os 21))) (.err 90 1) (Clu.needT ((Clu.flatB (os 22))) (.err 90 1) (Clu.needT ((Clu.flatB (os 23))) (.err 90 1) (Clu.needT ((Clu.flatB (os 24))) (.err 90 1) (Clu.needT ((Clu.flatB (os 25))) (.err 90 1) (Clu.needT ((Clu.flatB (os 26))) (.err 90 1) (Clu.needT ((Clu.flatB (os 27))) (.err 90 1) (Clu.needT ((Clu.flatB (os 58))) (.err 90 1) (Clu.needT ((Clu.flatB (os 61))) (.err 90 1) (Clu.needT ((Clu.flatB (os 66))) (.err 90 1) (Clu.needT ((Clu.flatB (os 71))) (.err 90 1) ((Clu.Out.ok (Clu.AV.tu [(Clu.AV.i IntKind.i64 (Int.ofNat 2)), (Clu.AV.so 1000 0 1 a), Clu.AV.sn, (Clu.AV.ag lc)]))))))))))))))))) (Clu.forkB ((Bool.not (Clu.iLt (Int.ofNat 0) (Int.ofNat k)))) (Clu.needT ((Clu.flatB (os 6))) (.err 90 1) (Clu.needT ((Clu.flatB (os 8))) (.err 90 1) (Clu.needT ((Clu.flatB (os 16))) (.err 90 1) (Clu.needT ((Clu.flatB (os 21))) (.err 90 1) (Clu.needT ((Clu.flatB (os 22))) (.err 90 1) (Clu.needT ((Clu.flatB (os 23))) (.err 90 1) (Clu.needT ((Clu.flatB (os 24))) (.err 90 1) (Clu.needT ((Clu.flatB (os 25))) (.err 90 1) (Clu.needT ((Clu.flatB (os 26))) (.err 90 1) (Clu.needT ((Clu.flatB (os 27))) (.err 90 1) (Clu.needT ((Clu.flatB (os 58))) (.err 90 1) (Clu.needT ((Clu.flatB (os 61))) (.err 90 1) (Clu.needT ((Clu.flatB (os 66))) (.err 90 1) (Clu.needT ((Clu.flatB (os 71))) (.err 90 1) ((Clu.Out.ok (Clu.AV.tu [(Clu.AV.i IntKind.i64 (Int.ofNat 2)), (Clu.AV.so 1000 0 1 a), Clu.AV.sn, (Clu.AV.ag lc)]))))))))))))))))) (Clu.needT ((Clu.inR IntKind.i64 ((Int.ofNat a) - (Int.ofNat k)))) (.err 10 20) (Clu.needI (((Int.ofNat a) - (Int.ofNat k))) (fun _ => .err 22 1) (fun n597 => Clu.needT ((Nat.blt n597 a)) (.err 22 0) (Clu.needT ((Clu.isS (Clu.getL lc (0 + (n597 * 1))))) (.err 8 2) (Clu.needT ((Clu.inR IntKind.i64 ((Int.ofNat 0) - (Int.ofNat k)))) (.err 10 20) (.err 22 3))))))) := by kernel_rfl
set_option linter.unusedVariables false in
theorem rcoX_1 (a k : Nat) (lc : List Clu.AV) (os : Nat → Option Clu.AV) (hos : ∀ t, Clu.flatB (os t) = true) (hl : Clu.AV.flts lc = true)  (c1 : k ≤ a) (c2 : 0 < k) : ∃ os' : Nat → Option Clu.AV, (∀ t, Clu.flatB (os' t) = true) ∧ Clu.RunE Try.prog 50 (Clu.loopNo Try.f27 0) 72 1000 (Clu.mkFr 72 (Clu.std [5, 7, 9] [.so 1000 0 1 a, .sn, .i .i64 (.ofNat k)] [6, 8, 16, 21, 22, 23, 24, 25, 26, 27, 31, 32, 36, 37, 58, 61, 66, 71] os)) (Clu.mkH .e ([(1000, .c lc 0 1 (some 9))] ++ (Clu.layB []))) 1001 (Clu.exOf 2) (Clu.mkFr 72 (Clu.std [5, 7] [(Clu.AV.so 1000 0 1 a), Clu.AV.sn] [6, 8, 16, 21, 22, 23, 24, 25, 26, 27, 31, 32, 36, 37, 58, 61, 66, 71] os')) (Clu.mkH .e ([(1000, .c lc 0 1 (some 9))] ++ (Clu.layB []))) 1001 :=
  Clu.segM (vs := [(Clu.AV.so 1000 0 1 a), Clu.AV.sn]) (cs := [lc]) 2 2 [5, 7] [(1000, 0, 1, (some 9))] (Clu.evL_ok Clu.plain (Clu.noX_ok) (Clu.drK_ok Clu.mixed) (Clu.noL_ok) 50) (Clu.layB_bs rfl (by decide) (by decide)) hos ((((((((((((((((((rcoX_raw a k lc os)).trans (Clu.forkB_t (congrArg not (Clu.iLt_f (Int.ofNat_le.2 c1))) _ _)).trans (Clu.forkB_f (congrArg not (Clu.iLt_t (Int.ofNat_lt.2 c2))) _ _)).trans (Clu.needT_eq (hos _) _ _)).trans (Clu.needT_eq (hos _) _ _)).trans (Clu.needT_eq (hos _) _ _)).trans (Clu.needT_eq (hos _) _ _)).trans (Clu.needT_eq (hos _) _ _)).trans (Clu.needT_eq (hos _) _ _)).trans (Clu.needT_eq (hos _) _ _)).trans (Clu.needT_eq (hos _) _ _)).trans (Clu.needT_eq (hos _) _ _)).trans (Clu.needT_eq (hos _) _ _)).trans (Clu.needT_eq (hos _) _ _)).trans (Clu.needT_eq (hos _) _ _)).trans (Clu.needT_eq (hos _) _ _)).trans (Clu.needT_eq (hos _) _ _)) rfl rfl rfl (by decide) rfl (by simp [Clu.Blk.und, Clu.AV.und, Clu.AV.unds, Clu.flts_unds hl]) rfl (Clu.newH_ro rfl) (by simp [Clu.AV.und, Clu.AV.unds, Clu.AV.cells, Clu.unds_splice, Clu.flts_unds hl])
set_option maxRecDepth 10000000 in
theorem rcoY_raw (b k : Nat) (lc : List Clu.AV) (os : Nat → Option Clu.AV) : Clu.evL (Clu.noL) Try.prog (Clu.noX) 50 72 1000 (Clu.loopNo Try.f27 0) (Clu.tellF [3000048, 3000054, 3000064, 3000074, 3000116, 3000122, 3000132, 3000142] (Clu.mkFr 72 (Clu.std [5, 7, 9] [.sn, .so 1000 0 1 b, .i .i64 (.ofNat k)] [6, 8, 16, 21, 22, 23, 24, 25, 26, 27, 31, 32, 36, 37, 58, 61, 66, 71] os))) (Clu.mkH (Clu.mkH .e (Clu.layB [])) [(1000, .c lc 0 1 (some 9))]) 1001 (Clu.finM 72 1001 [6, 8, 16, 21, 22, 23, 24, 25, 26, 27, 31, 32, 36, 37, 58, 61, 66, 71] 0 [(0, [5, 7, 9], [(1000, 0, 1, (some 9))], none), (1, [4], [(1000, 0, 1, (some 9))], none), (2, [5, 7], [(1000, 0, 1, (some 9))], none)]) = Clu.forkB ((Bool.not (Clu.iLt (Int.ofNat 0) (Int.ofNat k)))) (Clu.needT ((Clu.flatB (os 6))) (.err 90 1) (Clu.needT ((Clu.flatB (os 8))) (.err 90 1) (Clu.needT ((Clu.flatB (os 16))) (.err 90 1) (Clu.needT ((Clu.flatB (os 21))) (.err 90 1) (Clu.needT ((Clu.flatB (os 22))) (.err 90 1) (Clu.needT ((Clu.flatB (os 23))) (.err 90 1) (Clu.needT ((Clu.flatB (os 24))) (.err 90 1) (Clu.needT ((Clu.flatB (os 25))) (.err 90 1) (Clu.needT ((Clu.flatB (os 26))) (.err 90 1) (Clu.needT ((Clu.flatB (os 27))) (.err 90 1) (Clu.needT ((Clu.flatB (os 58))) (.err 90 1) (Clu.needT ((Clu.flatB (os 61))) (.err 90 1) (Clu.needT ((Clu.flatB (os 66))) (.err 90 1) (Clu.needT ((Clu.flatB (os 71))) (.err 90 1) ((Clu.Out.ok (Clu.AV.tu [(Clu.AV.i IntKind.i64 (Int.ofNat 2)), Clu.AV.sn, (Clu.AV.so 1000 0 1 b), (Clu.AV.ag lc)]))))))))))))))))) (Clu.forkB ((Bool.not (Clu.iLt (Int.ofNat b) (Int.ofNat k)))) (Clu.needT ((Clu.flatB (os 6))) (.err 90 1) (Clu.needT ((Clu.flatB (os 8))) (.err 90 1) (Clu.needT ((Clu.flatB (os 16))) (.err 90 1) (Clu.needT ((Clu.flatB (os 21))) (.err 90 1) (Clu.needT ((Clu.flatB (os 22))) (.err 90 1) (Clu.needT ((Clu.flatB (os 23))) (.err 90 1) (Clu.needT ((Clu.flatB (os 24))) (.err 90 1) (Clu.needT ((Clu.flatB (os 25))) (.err 90 1) (Clu.needT ((Clu.flatB (os 26))) (.err 90 1) (Clu.needT ((Clu.flatB (os 27))) (.err 90 1) (Clu.needT ((Clu.flatB (os 58))) (.err 90 1) (Clu.needT ((Clu.flatB (os 61))) (.err 90 1) (Clu.needT ((Clu.flatB (os 66))) (.err 90 1) (Clu.needT ((Clu.flatB (os 71))) (.err 90 1) ((Clu.Out.ok (Clu.AV.tu [(Clu.AV.i IntKind.i64 (Int.ofNat 2)), Clu.AV.sn, (Clu.AV.so 1000 0 1 b), (Clu.AV.ag lc)]))))))))))))))))) (Clu.needT ((Clu.inR IntKind.i64 ((Int.ofNat 0) - (Int.ofNat k)))) (.err 10 20) (.err 22 3))) := by kernel_rfl
set_option linter.unusedVariables false in
theorem rcoY_0 (b k : Nat) (lc : List Clu.AV) (os : Nat → Option Clu.AV) (hos : ∀ t, Clu.flatB (os t) = true) (hl : Clu.AV.flts lc = true)  (c1 : 0 < k) : ∃ os' : Nat → Option Clu.AV, (∀ t, Clu.flatB (os' t) = true) ∧ Clu.RunE Try.prog 50 (Clu.loopNo Try.f27 0) 72 1000 (Clu.mkFr 72 (Clu.std [5, 7, 9] [.sn, .so 1000 0 1 b, .i .i64 (.ofNat k)] [6, 8, 16, 21, 22, 23, 24, 25, 26, 27, 31, 32, 36, 37, 58, 61, 66, 71] os)) (Clu.mkH .e ([(1000, .c lc 0 1 (some 9))] ++ (Clu.layB []))) 1001 (Clu.exOf 2) (Clu.mkFr 72 (Clu.std [5, 7] [Clu.AV.sn, (Clu.AV.so 1000 0 1 b)] [6, 8, 16, 21, 22, 23, 24, 25, 26, 27, 31, 32, 36, 37, 58, 61, 66, 71] os')) (Clu.mkH .e ([(1000, .c lc 0 1 (some 9))] ++ (Clu.layB []))) 1001 :=
  Clu.segM (vs := [Clu.AV.sn, (Clu.AV.so 1000 0 1 b)]) (cs := [lc]) 2 2 [5, 7] [(1000, 0, 1, (some 9))] (Clu.evL_ok Clu.plain (Clu.noX_ok) (Clu.drK_ok Clu.mixed) (Clu.noL_ok) 50) (Clu.layB_bs rfl (by decide) (by decide)) hos (((((((((((((((((rcoY_raw b k lc os)).trans (Clu.forkB_f (congrArg not (Clu.iLt_t (Int.ofNat_lt.2 c1))) _ _)).trans (Clu.needT_eq (hos _) _ _)).trans (Clu.needT_eq (hos _) _ _)).trans (Clu.needT_eq (hos _) _ _)).trans (Clu.needT_eq (hos _) _ _)).trans (Clu.needT_eq (hos _) _ _)).trans (Clu.needT_eq (hos _) _ _)).trans (Clu.needT_eq (hos _) _ _)).trans (Clu.needT_eq (hos _) _ _)).trans (Clu.needT_eq (hos _) _ _)).trans (Clu.needT_eq (hos _) _ _)).trans (Clu.needT_eq (hos _) _ _)).trans (Clu.needT_eq (hos _) _ _)).trans (Clu.needT_eq (hos _) _ _)).trans (Clu.needT_eq (hos _) _ _)) rfl rfl rfl (by decide) rfl (by simp [Clu.Blk.und, Clu.AV.und, Clu.AV.unds, Clu.flts_unds hl]) rfl (Clu.newH_ro rfl) (by simp [Clu.AV.und, Clu.AV.unds, Clu.AV.cells, Clu.unds_splice, Clu.flts_unds hl])
set_option maxRecDepth 10000000 in
theorem rcoN_raw (k : Nat) (os : Nat → Option Clu.AV) : Clu.evL (Clu.noL) Try.prog (Clu.noX) 50 72 1000 (Clu.loopNo Try.f27 0) (Clu.tellF [3000048, 3000054, 3000064, 3000074, 3000116, 3000122, 3000132, 3000142] (Clu.mkFr 72 (Clu.std [5, 7, 9] [.sn, .sn, .i .i64 (.ofNat k)] [6, 8, 16, 21, 22, 23, 24, 25, 26, 27, 31, 32, 36, 37, 58, 61, 66, 71] os))) (Clu.mkH (Clu.mkH .e (Clu.layB [])) []) 1000 (Clu.finM 72 1000 [6, 8, 16, 21, 22, 23, 24, 25, 26, 27, 31, 32, 36, 37, 58, 61, 66, 71] 0 [(0, [5, 7, 9], [], none), (1, [4], [], none), (2, [5, 7], [], none)]) = Clu.forkB ((Bool.not (Clu.iLt (Int.ofNat 0) (Int.ofNat k)))) (Clu.needT ((Clu.flatB (os 6))) (.err 90 1) (Clu.needT ((Clu.flatB (os 8))) (.err 90 1) (Clu.needT ((Clu.flatB (os 16))) (.err 90 1) (Clu.needT ((Clu.flatB (os 21))) (.err 90 1) (Clu.needT ((Clu.flatB (os 22))) (.err 90 1) (Clu.needT ((Clu.flatB (os 23))) (.err 90 1) (Clu.needT ((Clu.flatB (os 24))) (.err 90 1) (Clu.needT ((Clu.flatB (os 25))) (.err 90 1) (Clu.needT ((Clu.flatB (os 26))) (.err 90 1) (Clu.needT ((Clu.flatB (os 27))) (.err 90 1) (Clu.needT ((Clu.flatB (os 58))) (.err 90 1) (Clu.needT ((Clu.flatB (os 61))) (.err 90 1) (Clu.needT ((Clu.flatB (os 66))) (.err 90 1) (Clu.needT ((Clu.flatB (os 71))) (.err 90 1) ((Clu.Out.ok (Clu.AV.tu [(Clu.AV.i IntKind.i64 (Int.ofNat 2)), Clu.AV.sn, Clu.AV.sn]))))))))))))))))) (Clu.forkB ((Bool.not (Clu.iLt (Int.ofNat 0) (Int.ofNat k)))) (Clu.needT ((Clu.flatB (os 6))) (.err 90 1) (Clu.needT ((Clu.flatB (os 8))) (.err 90 1) (Clu.needT ((Clu.flatB (os 16))) (.err 90 1) (Clu.needT ((Clu.flatB (os 21))) (.err 90 1) (Clu.needT ((Clu.flatB (os 22))) (.err 90 1) (Clu.needT ((Clu.flatB (os 23))) (.err 90 1) (Clu.needT ((Clu.flatB (os 24))) (.err 90 1) (Clu.needT ((Clu.flatB (os 25))) (.err 90 1) (Clu.needT ((Clu.flatB (os 26))) (.err 90 1) (Clu.needT ((Clu.flatB (os 27))) (.err 90 1) (Clu.needT ((Clu.flatB (os 58))) (.err 90 1) (Clu.needT ((Clu.flatB (os 61))) (.err 90 1) (Clu.needT ((Clu.flatB (os 66))) (.err 90 1) (Clu.needT ((Clu.flatB (os 71))) (.err 90 1) ((Clu.Out.ok (Clu.AV.tu [(Clu.AV.i IntKind.i64 (Int.ofNat 2)), Clu.AV.sn, Clu.AV.sn]))))))))))))))))) (Clu.needT ((Clu.inR IntKind.i64 ((Int.ofNat 0) - (Int.ofNat k)))) (.err 10 20) (.err 22 3))) := by kernel_rfl
set_option linter.unusedVariables false in
theorem rcoN_0 (k : Nat) (os : Nat → Option Clu.AV) (hos : ∀ t, Clu.flatB (os t) = true)  (c1 : 0 < k) : ∃ os' : Nat → Option Clu.AV, (∀ t, Clu.flatB (os' t) = true) ∧ Clu.RunE Try.prog 50 (Clu.loopNo Try.f27 0) 72 1000 (Clu.mkFr 72 (Clu.std [5, 7, 9] [.sn, .sn, .i .i64 (.ofNat k)] [6, 8, 16, 21, 22, 23, 24, 25, 26, 27, 31, 32, 36, 37, 58, 61, 66, 71] os)) (Clu.mkH .e ([] ++ (Clu.layB []))) 1000 (Clu.exOf 2) (Clu.mkFr 72 (Clu.std [5, 7] [Clu.AV.sn, Clu.AV.sn] [6, 8, 16, 21, 22, 23, 24, 25, 26, 27, 31, 32, 36, 37, 58, 61, 66, 71] os')) (Clu.mkH .e ([] ++ (Clu.layB []))) 1000 :=
  Clu.segM (vs := [Clu.AV.sn, Clu.AV.sn]) (cs := []) 2 2 [5, 7] [] (Clu.evL_ok Clu.plain (Clu.noX_ok) (Clu.drK_ok Clu.mixed) (Clu.noL_ok) 50) (Clu.layB_bs rfl (by decide) (by decide)) hos (((((((((((((((((rcoN_raw k os)).trans (Clu.forkB_f (congrArg not (Clu.iLt_t (Int.ofNat_lt.2 c1))) _ _)).trans (Clu.needT_eq (hos _) _ _)).trans (Clu.needT_eq (hos _) _ _)).trans (Clu.needT_eq (hos _) _ _)).trans (Clu.needT_eq (hos _) _ _)).trans (Clu.needT_eq (hos _) _ _)).trans (Clu.needT_eq (hos _) _ _)).trans (Clu.needT_eq (hos _) _ _)).trans (Clu.needT_eq (hos _) _ _)).trans (Clu.needT_eq (hos _) _ _)).trans (Clu.needT_eq (hos _) _ _)).trans (Clu.needT_eq (hos _) _ _)).trans (Clu.needT_eq (hos _) _ _)).trans (Clu.needT_eq (hos _) _ _)).trans (Clu.needT_eq (hos _) _ _)) rfl rfl rfl (by decide) rfl (by simp [Clu.Blk.und, Clu.AV.und, Clu.AV.unds]) rfl (Clu.newH_ro rfl) (by simp [Clu.AV.und, Clu.AV.unds, Clu.AV.cells, Clu.unds_splice])
set_option maxRecDepth 10000000 in
theorem rcoF_raw (is em : Nat → Nat → Bool) (kk : Nat → Nat → Nat) (ls : Nat → Nat → List Clu.AV) (n N m M a b : Nat) (st : Bool) (z : Int) : (Clu.layK [] .e fun h => Clu.runL (Clu.addL (Clu.noL) (Clu.loopNo Try.f27 0) 6 (Clu.loopM [3000048, 3000054, 3000064, 3000074, 3000116, 3000122, 3000132, 3000142] Try.prog (Clu.loopNo Try.f27 0) [5, 7, 9] [6, 8, 16, 21, 22, 23, 24, 25, 26, 27, 31, 32, 36, 37, 58, 61, 66, 71] [1000, 1001] [] (fun vs _ _ => match vs with | [.so _ _ _ _, .so _ _ _ _, _] => .fork st (.leaf (2, [5, 7], [.so 1000 0 1 a, .so 1001 0 1 b], [], 1002)) (.leaf (1, [4], [.i .i64 z], [], 1002)) | [.so _ _ _ _, _, _] => .leaf (2, [5, 7], [.so 1000 0 1 a, .sn], [], 1001) | [_, .so _ _ _ _, _] => .leaf (2, [5, 7], [.sn, .so 1000 0 1 b], [], 1001) | _ => .leaf (2, [5, 7], [.sn, .sn], [], 1000)))) Try.prog (Clu.tell (Clu.addB (Clu.noX) 12 (Clu.rowH [] (labH is em kk ls))) 27 30001423000132300012230001163000074300006430000543000048) ((n + 1000)) 1000 27 [.s n N, .s m M] h 1000) = Clu.needT ((Nat.blt n 1000001)) (.err 96 1) (Clu.forkB ((is n N)) (Clu.needT ((Nat.blt m 1000001)) (.err 96 1) (Clu.forkB ((is m M)) ((Clu.Out.ok (Clu.AV.i IntKind.i64 (Int.ofNat 0)))) (Clu.forkB ((em m M)) ((Clu.Out.ok (Clu.AV.i IntKind.i64 (Int.ofNat 0)))) ((Clu.Out.ok (Clu.AV.i IntKind.i64 (Int.ofNat 0))))))) (Clu.forkB ((em n N)) (Clu.needT ((Nat.blt m 1000001)) (.err 96 1) (Clu.forkB ((is m M)) ((Clu.Out.ok (Clu.AV.i IntKind.i64 (Int.ofNat 0)))) (Clu.forkB ((em m M)) (Clu.needP ((Clu.loopNo Try.f27 0) = (Clu.loopNo Try.f27 0)) (fun _ => .err 91 0) (fun h594 => Clu.forkB (st) (Clu.needP (Clu.LoopQ (Try.prog) ((Clu.loopNo Try.f27 0)) ((n + 993)) (72) (1000) (([] ++ [(1000, (Clu.Blk.c (ls n N) 0 1 (Option.some 9))), (1001, (Clu.Blk.c (ls m M) 0 1 (Option.some 9)))])) (1002) (2) ([5, 7, 9]) ([(Clu.AV.so (Clu.backN (Clu.dedupN (Clu.AV.idsL (HAppend.hAppend [] (HAppend.hAppend [(Clu.AV.s n N)] [])))) 1000 1000) 0 1 (kk n N)), (Clu.AV.so (Clu.backN (Clu.dedupN (Clu.AV.idsL (HAppend.hAppend [] (HAppend.hAppend [(Clu.AV.s m M)] [])))) 1001 1000) 0 1 (kk m M)), (Clu.AV.i IntKind.i64 (Int.ofNat 1))]) ([6, 8, 16, 21, 22, 23, 24, 25, 26, 27, 31, 32, 36, 37, 58, 61, 66, 71]) ([5, 7]) ([(Clu.AV.so 1000 0 1 a), (Clu.AV.so 1001 0 1 b)]) (([] ++ [(1000, (Clu.Blk.c (ls n N) 0 1 (Option.some 9))), (1001, (Clu.Blk.c (ls m M) 0 1 (Option.some 9)))])) (1002)) (fun _ => .err 93 1) (fun h592 => Clu.forkB ((Clu.iLt (Int.ofNat a) (Int.ofNat b))) (Clu.forkB ((Clu.iLt (Int.ofNat b) (Int.ofNat a))) ((Clu.Out.ok (Clu.AV.i IntKind.i64 (Int.ofNat 0)))) ((Clu.Out.ok (Clu.AV.i IntKind.i64 (Int.ofNat 1))))) ((Clu.Out.ok (Clu.AV.i IntKind.i64 (Int.negSucc 0)))))) (Clu.needP (Clu.LoopQ (Try.prog) ((Clu.loopNo Try.f27 0)) ((n + 993)) (72) (1000) (([] ++ [(1000, (Clu.Blk.c (ls n N) 0 1 (Option.some 9))), (1001, (Clu.Blk.c (ls m M) 0 1 (Option.some 9)))])) (1002) (1) ([5, 7, 9]) ([(Clu.AV.so (Clu.backN (Clu.dedupN (Clu.AV.idsL (HAppend.hAppend [] (HAppend.hAppend [(Clu.AV.s n N)] [])))) 1000 1000) 0 1 (kk n N)), (Clu.AV.so (Clu.backN (Clu.dedupN (Clu.AV.idsL (HAppend.hAppend [] (HAppend.hAppend [(Clu.AV.s m M)] [])))) 1001 1000) 0 1 (kk m M)), (Clu.AV.i IntKind.i64 (Int.ofNat 1))]) ([6, 8, 16, 21, 22, 23, 24, 25, 26, 27, 31, 32, 36, 37, 58, 61, 66, 71]) ([4]) ([(Clu.AV.i IntKind.i64 z)]) (([] ++ [(1000, (Clu.Blk.c (ls n N) 0 1 (Option.some 9))), (1001, (Clu.Blk.c (ls m M) 0 1 (Option.some 9)))])) (1002)) (fun _ => .err 93 1) (fun h592 => (Clu.Out.ok (Clu.AV.i IntKind.i64 z)))))) (Clu.needP ((Clu.loopNo Try.f27 0) = (Clu.loopNo Try.f27 0)) (fun _ => .err 91 0) (fun h594 => Clu.needP (Clu.LoopQ (Try.prog) ((Clu.loopNo Try.f27 0)) ((n + 993)) (72) (1000) (([] ++ [(1000, (Clu.Blk.c (ls n N) 0 1 (Option.some 9)))])) (1001) (2) ([5, 7, 9]) ([(Clu.AV.so (Clu.backN (Clu.dedupN (Clu.AV.idsL (HAppend.hAppend [] (HAppend.hAppend [(Clu.AV.s n N)] [])))) 1000 1000) 0 1 (kk n N)), Clu.AV.sn, (Clu.AV.i IntKind.i64 (Int.ofNat 1))]) ([6, 8, 16, 21, 22, 23, 24, 25, 26, 27, 31, 32, 36, 37, 58, 61, 66, 71]) ([5, 7]) ([(Clu.AV.so 1000 0 1 a), Clu.AV.sn]) (([] ++ [(1000, (Clu.Blk.c (ls n N) 0 1 (Option.some 9)))])) (1001)) (fun _ => .err 93 1) (fun h593 => Clu.forkB ((Clu.iLt (Int.ofNat 0) (Int.ofNat a))) ((Clu.Out.ok (Clu.AV.i IntKind.i64 (Int.ofNat 0)))) ((Clu.Out.ok (Clu.AV.i IntKind.i64 (Int.ofNat 1)))))))))) (Clu.needT ((Nat.blt m 1000001)) (.err 96 1) (Clu.forkB ((is m M)) ((Clu.Out.ok (Clu.AV.i IntKind.i64 (Int.ofNat 0)))) (Clu.forkB ((em m M)) (Clu.needP ((Clu.loopNo Try.f27 0) = (Clu.loopNo Try.f27 0)) (fun _ => .err 91 0) (fun h594 => Clu.needP (Clu.LoopQ (Try.prog) ((Clu.loopNo Try.f27 0)) ((n + 993)) (72) (1000) (([] ++ [(1000, (Clu.Blk.c (ls m M) 0 1 (Option.some 9)))])) (1001) (2) ([5, 7, 9]) ([Clu.AV.sn, (Clu.AV.so (Clu.backN (Clu.dedupN (Clu.AV.idsL (HAppend.hAppend [] (HAppend.hAppend [(Clu.AV.s m M)] [])))) 1000 1000) 0 1 (kk m M)), (Clu.AV.i IntKind.i64 (Int.ofNat 1))]) ([6, 8, 16, 21, 22, 23, 24, 25, 26, 27, 31, 32, 36, 37, 58, 61, 66, 71]) ([5, 7]) ([Clu.AV.sn, (Clu.AV.so 1000 0 1 b)]) (([] ++ [(1000, (Clu.Blk.c (ls m M) 0 1 (Option.some 9)))])) (1001)) (fun _ => .err 93 1) (fun h593 => Clu.forkB ((Clu.iLt (Int.ofNat 0) (Int.ofNat b))) ((Clu.Out.ok (Clu.AV.i IntKind.i64 (Int.ofNat 0)))) ((Clu.Out.ok (Clu.AV.i IntKind.i64 (Int.negSucc 0))))))) (Clu.needP ((Clu.loopNo Try.f27 0) = (Clu.loopNo Try.f27 0)) (fun _ => .err 91 0) (fun h594 => Clu.needP (Clu.LoopQ (Try.prog) ((Clu.loopNo Try.f27 0)) ((n + 993)) (72) (1000) ([]) (1000) (2) ([5, 7, 9]) ([Clu.AV.sn, Clu.AV.sn, (Clu.AV.i IntKind.i64 (Int.ofNat 1))]) ([6, 8, 16, 21, 22, 23, 24, 25, 26, 27, 31, 32, 36, 37, 58, 61, 66, 71]) ([5, 7]) ([Clu.AV.sn, Clu.AV.sn]) ([]) (1000)) (fun _ => .err 93 1) (fun h593 => (Clu.Out.ok (Clu.AV.i IntKind.i64 (Int.ofNat 0))))))))))) := by kernel_rfl
set_option linter.unusedVariables false in
theorem rcoF_0 (is em : Nat → Nat → Bool) (kk : Nat → Nat → Nat) (ls : Nat → Nat → List Clu.AV) (n N m M a b : Nat) (st : Bool) (z : Int) (hX : Clu.XOK Try.prog (Clu.addB (Clu.noX) 12 (Clu.rowH [] (labH is em kk ls))))  (n1 : n < 1000001 := by omega) (c1 : (is n N) = false) (n2 : m < 1000001 := by omega) (c2 : (is m M) = false) : Clu.Fact Try.prog 27 [] [.s n N, .s m M] (Clu.AV.i IntKind.i64 (Int.ofNat 0)) :=
  Clu.factL Clu.plain (Clu.tell_ok (hX)) Clu.mixed (Clu.addL_ok (Clu.noL_ok) Clu.loopM_ok) ((((((rcoF_raw is em kk ls n N m M a b st z)).trans (Clu.needT_eq (Clu.blt_iff.2 n1) _ _)).trans (Clu.forkB_f (c1) _ _)).trans (Clu.needT_eq (Clu.blt_iff.2 n2) _ _)).trans (Clu.forkB_f (c2) _ _)) rfl (rfl)
set_option linter.unusedVariables false in
theorem rcoF_1 (is em : Nat → Nat → Bool) (kk : Nat → Nat → Nat) (ls : Nat → Nat → List Clu.AV) (n N m M a b : Nat) (st : Bool) (z : Int) (hX : Clu.XOK Try.prog (Clu.addB (Clu.noX) 12 (Clu.rowH [] (labH is em kk ls))))  (n1 : n < 1000001 := by omega) (c1 : (is n N) = false) (n2 : m < 1000001 := by omega) (c2 : (is m M) = true) (c3 : (em m M) = false) : Clu.Fact Try.prog 27 [] [.s n N, .s m M] (Clu.AV.i IntKind.i64 (Int.ofNat 0)) :=
  Clu.factL Clu.plain (Clu.tell_ok (hX)) Clu.mixed (Clu.addL_ok (Clu.noL_ok) Clu.loopM_ok) (((((((rcoF_raw is em kk ls n N m M a b st z)).trans (Clu.needT_eq (Clu.blt_iff.2 n1) _ _)).trans (Clu.forkB_f (c1) _ _)).trans (Clu.needT_eq (Clu.blt_iff.2 n2) _ _)).trans (Clu.forkB_t (c2) _ _)).trans (Clu.forkB_f (c3) _ _)) rfl (rfl)
set_option linter.unusedVariables false in
theorem rcoF_2 (is em : Nat → Nat → Bool) (kk : Nat → Nat → Nat) (ls : Nat → Nat → List Clu.AV) (n N m M a b : Nat) (st : Bool) (z : Int) (hX : Clu.XOK Try.prog (Clu.addB (Clu.noX) 12 (Clu.rowH [] (labH is em kk ls))))  (n1 : n < 1000001 := by omega) (c1 : (is n N) = false) (n2 : m < 1000001 := by omega) (c2 : (is m M) = true) (c3 : (em m M) = true) : Clu.Fact Try.prog 27 [] [.s n N, .s m M] (Clu.AV.i IntKind.i64 (Int.ofNat 0)) :=
  Clu.factL Clu.plain (Clu.tell_ok (hX)) Clu.mixed (Clu.addL_ok (Clu.noL_ok) Clu.loopM_ok) (((((((rcoF_raw is em kk ls n N m M a b st z)).trans (Clu.needT_eq (Clu.blt_iff.2 n1) _ _)).trans (Clu.forkB_f (c1) _ _)).trans (Clu.needT_eq (Clu.blt_iff.2 n2) _ _)).trans (Clu.forkB_t (c2) _ _)).trans (Clu.forkB_t (c3) _ _)) rfl (rfl)
set_option linter.unusedVariables false in
theorem rcoF_3 (is em : Nat → Nat → Bool) (kk : Nat → Nat → Nat) (ls : Nat → Nat → List Clu.AV) (n N m M a b : Nat) (st : Bool) (z : Int) (hX : Clu.XOK Try.prog (Clu.addB (Clu.noX) 12 (Clu.rowH [] (labH is em kk ls))))  (n1 : n < 1000001 := by omega) (c1 : (is n N) = true) (c2 : (em n N) = false) (n2 : m < 1000001 := by omega) (c3 : (is m M) = false) : Clu.Fact Try.prog 27 [] [.s n N, .s m M] (Clu.AV.i IntKind.i64 (Int.ofNat 0)) :=
  Clu.factL Clu.plain (Clu.tell_ok (hX)) Clu.mixed (Clu.addL_ok (Clu.noL_ok) Clu.loopM_ok) (((((((rcoF_raw is em kk ls n N m M a b st z)).trans (Clu.needT_eq (Clu.blt_iff.2 n1) _ _)).trans (Clu.forkB_t (c1) _ _)).trans (Clu.forkB_f (c2) _ _)).trans (Clu.needT_eq (Clu.blt_iff.2 n2) _ _)).trans (Clu.forkB_f (c3) _ _)) rfl (rfl)
set_option linter.unusedVariables false in
theorem rcoF_4 (is em : Nat → Nat → Bool) (kk : Nat → Nat → Nat) (ls : Nat → Nat → List Clu.AV) (n N m M a b : Nat) (st : Bool) (z : Int) (hX : Clu.XOK Try.prog (Clu.addB (Clu.noX) 12 (Clu.rowH [] (labH is em kk ls))))  (n1 : n < 1000001 := by omega) (c1 : (is n N) = true) (c2 : (em n N) = false) (n2 : m < 1000001 := by omega) (c3 : (is m M) = true) (c4 : (em m M) = false) (c5 : st = false) (q1 : Clu.LoopQ (Try.prog) ((Clu.loopNo Try.f27 0)) ((n + 993)) (72) (1000) (([] ++ [(1000, (Clu.Blk.c (ls n N) 0 1 (Option.some 9))), (1001, (Clu.Blk.c (ls m M) 0 1 (Option.some 9)))])) (1002) (2) ([5, 7, 9]) ([(Clu.AV.so (Clu.backN (Clu.dedupN (Clu.AV.idsL (HAppend.hAppend [] (HAppend.hAppend [(Clu.AV.s n N)] [])))) 1000 1000) 0 1 (kk n N)), (Clu.AV.so (Clu.backN (Clu.dedupN (Clu.AV.idsL (HAppend.hAppend [] (HAppend.hAppend [(Clu.AV.s m M)] [])))) 1001 1000) 0 1 (kk m M)), (Clu.AV.i IntKind.i64 (Int.ofNat 1))]) ([6, 8, 16, 21, 22, 23, 24, 25, 26, 27, 31, 32, 36, 37, 58, 61, 66, 71]) ([5, 7]) ([(Clu.AV.so 1000 0 1 a), (Clu.AV.so 1001 0 1 b)]) (([] ++ [(1000, (Clu.Blk.c (ls n N) 0 1 (Option.some 9))), (1001, (Clu.Blk.c (ls m M) 0 1 (Option.some 9)))])) (1002)) (c6 : b ≤ a) (c7 : a ≤ b) : Clu.Fact Try.prog 27 [] [.s n N, .s m M] (Clu.AV.i IntKind.i64 (Int.ofNat 0)) :=
  Clu.factL Clu.plain (Clu.tell_ok (hX)) Clu.mixed (Clu.addL_ok (Clu.noL_ok) Clu.loopM_ok) (((((((((((((rcoF_raw is em kk ls n N m M a b st z)).trans (Clu.needT_eq (Clu.blt_iff.2 n1) _ _)).trans (Clu.forkB_t (c1) _ _)).trans (Clu.forkB_f (c2) _ _)).trans (Clu.needT_eq (Clu.blt_iff.2 n2) _ _)).trans (Clu.forkB_t (c3) _ _)).trans (Clu.forkB_f (c4) _ _)).trans (Clu.needP_eq rfl _ _)).trans (Clu.forkB_f (c5) _ _)).trans (Clu.needP_eq q1 _ _)).trans (Clu.forkB_f (Clu.iLt_f (Int.ofNat_le.2 c6)) _ _)).trans (Clu.forkB_f (Clu.iLt_f (Int.ofNat_le.2 c7)) _ _)) rfl (rfl)
set_option linter.unusedVariables false in
theorem rcoF_5 (is em : Nat → Nat → Bool) (kk : Nat → Nat → Nat) (ls : Nat → Nat → List Clu.AV) (n N m M a b : Nat) (st : Bool) (z : Int) (hX : Clu.XOK Try.prog (Clu.addB (Clu.noX) 12 (Clu.rowH [] (labH is em kk ls))))  (n1 : n < 1000001 := by omega) (c1 : (is n N) = true) (c2 : (em n N) = false) (n2 : m < 1000001 := by omega) (c3 : (is m M) = true) (c4 : (em m M) = false) (c5 : st = false) (q1 : Clu.LoopQ (Try.prog) ((Clu.loopNo Try.f27 0)) ((n + 993)) (72) (1000) (([] ++ [(1000, (Clu.Blk.c (ls n N) 0 1 (Option.some 9))), (1001, (Clu.Blk.c (ls m M) 0 1 (Option.some 9)))])) (1002) (2) ([5, 7, 9]) ([(Clu.AV.so (Clu.backN (Clu.dedupN (Clu.AV.idsL (HAppend.hAppend [] (HAppend.hAppend [(Clu.AV.s n N)] [])))) 1000 1000) 0 1 (kk n N)), (Clu.AV.so (Clu.backN (Clu.dedupN (Clu.AV.idsL (HAppend.hAppend [] (HAppend.hAppend [(Clu.AV.s m M)] [])))) 1001 1000) 0 1 (kk m M)), (Clu.AV.i IntKind.i64 (Int.ofNat 1))]) ([6, 8, 16, 21, 22, 23, 24, 25, 26, 27, 31, 32, 36, 37, 58, 61, 66, 71]) ([5, 7]) ([(Clu.AV.so 1000 0 1 a), (Clu.AV.so 1001 0 1 b)]) (([] ++ [(1000, (Clu.Blk.c (ls n N) 0 1 (Option.some 9))), (1001, (Clu.Blk.c (ls m M) 0 1 (Option.some 9)))])) (1002)) (c6 : b ≤ a) (c7 : b < a) : Clu.Fact Try.prog 27 [] [.s n N, .s m M] (Clu.AV.i IntKind.i64 (Int.ofNat 1)) :=
  Clu.factL Clu.plain (Clu.tell_ok (hX)) Clu.mixed (Clu.addL_ok (Clu.noL_ok) Clu.loopM_ok) (((((((((((((rcoF_raw is em kk ls n N m M a b st z)).trans (Clu.needT_eq (Clu.blt_iff.2 n1) _ _)).trans (Clu.forkB_t (c1) _ _)).trans (Clu.forkB_f (c2) _ _)).trans (Clu.needT_eq (Clu.blt_iff.2 n2) _ _)).trans (Clu.forkB_t (c3) _ _)).trans (Clu.forkB_f (c4) _ _)).trans (Clu.needP_eq rfl _ _)).trans (Clu.forkB_f (c5) _ _)).trans (Clu.needP_eq q1 _ _)).trans (Clu.forkB_f (Clu.iLt_f (Int.ofNat_le.2 c6)) _ _)).trans (Clu.forkB_t (Clu.iLt_t (Int.ofNat_lt.2 c7)) _ _)) rfl (rfl)
set_option linter.unusedVariables false in
theorem rcoF_6 (is em : Nat → Nat → Bool) (kk : Nat → Nat → Nat) (ls : Nat → Nat → List Clu.AV) (n N m M a b : Nat) (st : Bool) (z : Int) (hX : Clu.XOK Try.prog (Clu.addB (Clu.noX) 12 (Clu.rowH [] (labH is em kk ls))))  (n1 : n < 1000001 := by omega) (c1 : (is n N) = true) (c2 : (em n N) = false) (n2 : m < 1000001 := by omega) (c3 : (is m M) = true) (c4 : (em m M) = false) (c5 : st = false) (q1 : Clu.LoopQ (Try.prog) ((Clu.loopNo Try.f27 0)) ((n + 993)) (72) (1000) (([] ++ [(1000, (Clu.Blk.c (ls n N) 0 1 (Option.some 9))), (1001, (Clu.Blk.c (ls m M) 0 1 (Option.some 9)))])) (1002) (2) ([5, 7, 9]) ([(Clu.AV.so (Clu.backN (Clu.dedupN (Clu.AV.idsL (HAppend.hAppend [] (HAppend.hAppend [(Clu.AV.s n N)] [])))) 1000 1000) 0 1 (kk n N)), (Clu.AV.so (Clu.backN (Clu.dedupN (Clu.AV.idsL (HAppend.hAppend [] (HAppend.hAppend [(Clu.AV.s m M)] [])))) 1001 1000) 0 1 (kk m M)), (Clu.AV.i IntKind.i64 (Int.ofNat 1))]) ([6, 8, 16, 21, 22, 23, 24, 25, 26, 27, 31, 32, 36, 37, 58, 61, 66, 71]) ([5, 7]) ([(Clu.AV.so 1000 0 1 a), (Clu.AV.so 1001 0 1 b)]) (([] ++ [(1000, (Clu.Blk.c (ls n N) 0 1 (Option.some 9))), (1001, (Clu.Blk.c (ls m M) 0 1 (Option.some 9)))])) (1002)) (c6 : a < b) : Clu.Fact Try.prog 27 [] [.s n N, .s m M] (Clu.AV.i IntKind.i64 (Int.negSucc 0)) :=
  Clu.factL Clu.plain (Clu.tell_ok (hX)) Clu.mixed (Clu.addL_ok (Clu.noL_ok) Clu.loopM_ok) ((((((((((((rcoF_raw is em kk ls n N m M a b st z)).trans (Clu.needT_eq (Clu.blt_iff.2 n1) _ _)).trans (Clu.forkB_t (c1) _ _)).trans (Clu.forkB_f (c2) _ _)).trans (Clu.needT_eq (Clu.blt_iff.2 n2) _ _)).trans (Clu.forkB_t (c3) _ _)).trans (Clu.forkB_f (c4) _ _)).trans (Clu.needP_eq rfl _ _)).trans (Clu.forkB_f (c5) _ _)).trans (Clu.needP_eq q1 _ _)).trans (Clu.forkB_t (Clu.iLt_t (Int.ofNat_lt.2 c6)) _ _)) rfl (rfl)
set_option linter.unusedVariables false in
theorem rcoF_7 (is em : Nat → Nat → Bool) (kk : Nat → Nat → Nat) (ls : Nat → Nat → List Clu.AV) (n N m M a b : Nat) (st : Bool) (z : Int) (hX : Clu.XOK Try.prog (Clu.addB (Clu.noX) 12 (Clu.rowH [] (labH is em kk ls))))  (n1 : n < 1000001 := by omega) (c1 : (is n N) = true) (c2 : (em n N) = false) (n2 : m < 1000001 := by omega) (c3 : (is m M) = true) (c4 : (em m M) = false) (c5 : st = true) (q1 : Clu.LoopQ (Try.prog) ((Clu.loopNo Try.f27 0)) ((n + 993)) (72) (1000) (([] ++ [(1000, (Clu.Blk.c (ls n N) 0 1 (Option.some 9))), (1001, (Clu.Blk.c (ls m M) 0 1 (Option.some 9)))])) (1002) (1) ([5, 7, 9]) ([(Clu.AV.so (Clu.backN (Clu.dedupN (Clu.AV.idsL (HAppend.hAppend [] (HAppend.hAppend [(Clu.AV.s n N)] [])))) 1000 1000) 0 1 (kk n N)), (Clu.AV.so (Clu.backN (Clu.dedupN (Clu.AV.idsL (HAppend.hAppend [] (HAppend.hAppend [(Clu.AV.s m M)] [])))) 1001 1000) 0 1 (kk m M)), (Clu.AV.i IntKind.i64 (Int.ofNat 1))]) ([6, 8, 16, 21, 22, 23, 24, 25, 26, 27, 31, 32, 36, 37, 58, 61, 66, 71]) ([4]) ([(Clu.AV.i IntKind.i64 z)]) (([] ++ [(1000, (Clu.Blk.c (ls n N) 0 1 (Option.some 9))), (1001, (Clu.Blk.c (ls m M) 0 1 (Option.some 9)))])) (1002)) : Clu.Fact Try.prog 27 [] [.s n N, .s m M] (Clu.AV.i IntKind.i64 z) :=
  Clu.factL Clu.plain (Clu.tell_ok (hX)) Clu.mixed (Clu.addL_ok (Clu.noL_ok) Clu.loopM_ok) (((((((((((rcoF_raw is em kk ls n N m M a b st z)).trans (Clu.needT_eq (Clu.blt_iff.2 n1) _ _)).trans (Clu.forkB_t (c1) _ _)).trans (Clu.forkB_f (c2) _ _)).trans (Clu.needT_eq (Clu.blt_iff.2 n2) _ _)).trans (Clu.forkB_t (c3) _ _)).trans (Clu.forkB_f (c4) _ _)).trans (Clu.needP_eq rfl _ _)).trans (Clu.forkB_t (c5) _ _)).trans (Clu.needP_eq q1 _ _)) rfl (rfl)
set_option linter.unusedVariables false in
theorem rcoF_9 (is em : Nat → Nat → Bool) (kk : Nat → Nat → Nat) (ls : Nat → Nat → List Clu.AV) (n N m M a b : Nat) (st : Bool) (z : Int) (hX : Clu.XOK Try.prog (Clu.addB (Clu.noX) 12 (Clu.rowH [] (labH is em kk ls))))  (n1 : n < 1000001 := by omega) (c1 : (is n N) = true) (c2 : (em n N) = false) (n2 : m < 1000001 := by omega) (c3 : (is m M) = true) (c4 : (em m M) = true) (q1 : Clu.LoopQ (Try.prog) ((Clu.loopNo Try.f27 0)) ((n + 993)) (72) (1000) (([] ++ [(1000, (Clu.Blk.c (ls n N) 0 1 (Option.some 9)))])) (1001) (2) ([5, 7, 9]) ([(Clu.AV.so (Clu.backN (Clu.dedupN (Clu.AV.idsL (HAppend.hAppend [] (HAppend.hAppend [(Clu.AV.s n N)] [])))) 1000 1000) 0 1 (kk n N)), Clu.AV.sn, (Clu.AV.i IntKind.i64 (Int.ofNat 1))]) ([6, 8, 16, 21, 22, 23, 24, 25, 26, 27, 31, 32, 36, 37, 58, 61, 66, 71]) ([5, 7]) ([(Clu.AV.so 1000 0 1 a), Clu.AV.sn]) (([] ++ [(1000, (Clu.Blk.c (ls n N) 0 1 (Option.some 9)))])) (1001)) (c5 : 0 < a) : Clu.Fact Try.prog 27 [] [.s n N, .s m M] (Clu.AV.i IntKind.i64 (Int.ofNat 1)) :=
  Clu.factL Clu.plain (Clu.tell_ok (hX)) Clu.mixed (Clu.addL_ok (Clu.noL_ok) Clu.loopM_ok) (((((((((((rcoF_raw is em kk ls n N m M a b st z)).trans (Clu.needT_eq (Clu.blt_iff.2 n1) _ _)).trans (Clu.forkB_t (c1) _ _)).trans (Clu.forkB_f (c2) _ _)).trans (Clu.needT_eq (Clu.blt_iff.2 n2) _ _)).trans (Clu.forkB_t (c3) _ _)).trans (Clu.forkB_t (c4) _ _)).trans (Clu.needP_eq rfl _ _)).trans (Clu.needP_eq q1 _ _)).trans (Clu.forkB_t (Clu.iLt_t (Int.ofNat_lt.2 c5)) _ _)) rfl (rfl)
set_option linter.unusedVariables false in
theorem rcoF_10 (is em : Nat → Nat → Bool) (kk : Nat → Nat → Nat) (ls : Nat → Nat → List Clu.AV) (n N m M a b : Nat) (st : Bool) (z : Int) (hX : Clu.XOK Try.prog (Clu.addB (Clu.noX) 12 (Clu.rowH [] (labH is em kk ls))))  (n1 : n < 1000001 := by omega) (c1 : (is n N) = true) (c2 : (em n N) = true) (n2 : m < 1000001 := by omega) (c3 : (is m M) = false) : Clu.Fact Try.prog 27 [] [.s n N, .s m M] (Clu.AV.i IntKind.i64 (Int.ofNat 0)) :=
  Clu.factL Clu.plain (Clu.tell_ok (hX)) Clu.mixed (Clu.addL_ok (Clu.noL_ok) Clu.loopM_ok) (((((((rcoF_raw is em kk ls n N m M a b st z)).trans (Clu.needT_eq (Clu.blt_iff.2 n1) _ _)).trans (Clu.forkB_t (c1) _ _)).trans (Clu.forkB_t (c2) _ _)).trans (Clu.needT_eq (Clu.blt_iff.2 n2) _ _)).trans (Clu.forkB_f (c3) _ _)) rfl (rfl)
set_option linter.unusedVariables false in
theorem rcoF_12 (is em : Nat → Nat → Bool) (kk : Nat → Nat → Nat) (ls : Nat → Nat → List Clu.AV) (n N m M a b : Nat) (st : Bool) (z : Int) (hX : Clu.XOK Try.prog (Clu.addB (Clu.noX) 12 (Clu.rowH [] (labH is em kk ls))))  (n1 : n < 1000001 := by omega) (c1 : (is n N) = true) (c2 : (em n N) = true) (n2 : m < 1000001 := by omega) (c3 : (is m M) = true) (c4 : (em m M) = false) (q1 : Clu.LoopQ (Try.prog) ((Clu.loopNo Try.f27 0)) ((n + 993)) (72) (1000) (([] ++ [(1000, (Clu.Blk.c (ls m M) 0 1 (Option.some 9)))])) (1001) (2) ([5, 7, 9]) ([Clu.AV.sn, (Clu.AV.so (Clu.backN (Clu.dedupN (Clu.AV.idsL (HAppend.hAppend [] (HAppend.hAppend [(Clu.AV.s m M)] [])))) 1000 1000) 0 1 (kk m M)), (Clu.AV.i IntKind.i64 (Int.ofNat 1))]) ([6, 8, 16, 21, 22, 23, 24, 25, 26, 27, 31, 32, 36, 37, 58, 61, 66, 71]) ([5, 7]) ([Clu.AV.sn, (Clu.AV.so 1000 0 1 b)]) (([] ++ [(1000, (Clu.Blk.c (ls m M) 0 1 (Option.some 9)))])) (1001)) (c5 : 0 < b) : Clu.Fact Try.prog 27 [] [.s n N, .s m M] (Clu.AV.i IntKind.i64 (Int.negSucc 0)) :=
  Clu.factL Clu.plain (Clu.tell_ok (hX)) Clu.mixed (Clu.addL_ok (Clu.noL_ok) Clu.loopM_ok) (((((((((((rcoF_raw is em kk ls n N m M a b st z)).trans (Clu.needT_eq (Clu.blt_iff.2 n1) _ _)).trans (Clu.forkB_t (c1) _ _)).trans (Clu.forkB_t (c2) _ _)).trans (Clu.needT_eq (Clu.blt_iff.2 n2) _ _)).trans (Clu.forkB_t (c3) _ _)).trans (Clu.forkB_f (c4) _ _)).trans (Clu.needP_eq rfl _ _)).trans (Clu.needP_eq q1 _ _)).trans (Clu.forkB_t (Clu.iLt_t (Int.ofNat_lt.2 c5)) _ _)) rfl (rfl)
set_option linter.unusedVariables false in
theorem rcoF_13 (is em : Nat → Nat → Bool) (kk : Nat → Nat → Nat) (ls : Nat → Nat → List Clu.AV) (n N m M a b : Nat) (st : Bool) (z : Int) (hX : Clu.XOK Try.prog (Clu.addB (Clu.noX) 12 (Clu.rowH [] (labH is em kk ls))))  (n1 : n < 1000001 := by omega) (c1 : (is n N) = true) (c2 : (em n N) = true) (n2 : m < 1000001 := by omega) (c3 : (is m M) = true) (c4 : (em m M) = true) (q1 : Clu.LoopQ (Try.prog) ((Clu.loopNo Try.f27 0)) ((n + 993)) (72) (1000) ([]) (1000) (2) ([5, 7, 9]) ([Clu.AV.sn, Clu.AV.sn, (Clu.AV.i IntKind.i64 (Int.ofNat 1))]) ([6, 8, 16, 21, 22, 23, 24, 25, 26, 27, 31, 32, 36, 37, 58, 61, 66, 71]) ([5, 7]) ([Clu.AV.sn, Clu.AV.sn]) ([]) (1000)) : Clu.Fact Try.prog 27 [] [.s n N, .s m M] (Clu.AV.i IntKind.i64 (Int.ofNat 0)) :=
  Clu.factL Clu.plain (Clu.tell_ok (hX)) Clu.mixed (Clu.addL_ok (Clu.noL_ok) Clu.loopM_ok) ((((((((((rcoF_raw is em kk ls n N m M a b st z)).trans (Clu.needT_eq (Clu.blt_iff.2 n1) _ _)).trans (Clu.forkB_t (c1) _ _)).trans (Clu.forkB_t (c2) _ _)).trans (Clu.needT_eq (Clu.blt_iff.2 n2) _ _)).trans (Clu.forkB_t (c3) _ _)).trans (Clu.forkB_t (c4) _ _)).trans (Clu.needP_eq rfl _ _)).trans (Clu.needP_eq q1 _ _)) rfl (rfl)
/-! what stands for them -/
noncomputable def rmF (n N : Nat) : Bool := mayB (Clu.lst n N)
noncomputable def rfF (n N : Nat) : Nat × Nat := ((foldL (Clu.lst n N)).length, Clu.pk (foldL (Clu.lst n N)))
noncomputable def rsF (n N m M : Nat) : Bool := sameB (Clu.lst n N) (Clu.lst m M)
noncomputable def paF (n N : Nat) : Nat × Nat := ((parL (Clu.lst n N)).1.length, Clu.pk (parL (Clu.lst n N)).1)
noncomputable def pbF (n N : Nat) : Bool := (parL (Clu.lst n N)).2
theorem rmF_pk {l : List Nat} (h : Clu.B8 l) : rmF l.length (Clu.pk l) = mayB l := by unfold rmF; rw [Clu.lst_pk h]
theorem rfF_pk {l : List Nat} (h : Clu.B8 l) : rfF l.length (Clu.pk l) = ((foldL l).length, Clu.pk (foldL l)) := by unfold rfF; rw [Clu.lst_pk h]
theorem rsF_pk {l m : List Nat} (h : Clu.B8 l) (k : Clu.B8 m) : rsF l.length (Clu.pk l) m.length (Clu.pk m) = sameB l m := by unfold rsF; rw [Clu.lst_pk h, Clu.lst_pk k]
theorem paF_pk {l : List Nat} (h : Clu.B8 l) : paF l.length (Clu.pk l) = ((parL l).1.length, Clu.pk (parL l).1) := by unfold paF; rw [Clu.lst_pk h]
theorem pbF_pk {l : List Nat} (h : Clu.B8 l) : pbF l.length (Clu.pk l) = (parL l).2 := by unfold pbF; rw [Clu.lst_pk h]
theorem r1b_ok {f : FuncId} {F : Nat → Nat → Bool} (hF : ∀ l, Clu.B8 l → l.length ≤ 1000000 → Clu.Fact Try.prog f [] [.s l.length (Clu.pk l)] (.b (F l.length (Clu.pk l)))) (hl : ∀ n N, F n N = F (Clu.lst n N).length (Clu.pk (Clu.lst n N))) : Clu.HandOK Try.prog f (Clu.decH (r1b F)) := Clu.decH_ok fun args v h => by
  unfold r1b at h
  split at h
  · rename_i n N
    obtain ⟨h1, h2⟩ := h
    have h2 : Clu.AV.b (F n N) = v := h2
    subst h2
    have h1 := Clu.blt_iff.1 h1
    rw [hl]
    exact Clu.Fact.s1 (hF _ (Clu.lst_b8 n N) (by rw [Clu.lst_length]; omega))
  · exact h.elim
theorem r1s_ok {f : FuncId} {F : Nat → Nat → Nat × Nat} (hF : ∀ l, Clu.B8 l → l.length ≤ 1000000 → Clu.Fact Try.prog f [] [.s l.length (Clu.pk l)] (.s (F l.length (Clu.pk l)).1 (F l.length (Clu.pk l)).2)) (hl : ∀ n N, F n N = F (Clu.lst n N).length (Clu.pk (Clu.lst n N))) : Clu.HandOK Try.prog f (Clu.decH (r1s F)) := Clu.decH_ok fun args v h => by
  unfold r1s at h
  split at h
  · rename_i n N
    obtain ⟨h1, h2⟩ := h
    have h2 : Clu.AV.s (F n N).1 (F n N).2 = v := h2
    subst h2
    have h1 := Clu.blt_iff.1 h1
    rw [hl]
    exact Clu.Fact.s1 (hF _ (Clu.lst_b8 n N) (by rw [Clu.lst_length]; omega))
  · exact h.elim
theorem r1p_ok {f : FuncId} {F : Nat → Nat → Nat × Nat} {G : Nat → Nat → Bool} (hF : ∀ l, Clu.B8 l → l.length ≤ 1000000 → Clu.Fact Try.prog f [] [.s l.length (Clu.pk l)] (.tu [.s (F l.length (Clu.pk l)).1 (F l.length (Clu.pk l)).2, .b (G l.length (Clu.pk l))])) (hl : ∀ n N, F n N = F (Clu.lst n N).length (Clu.pk (Clu.lst n N)) ∧ G n N = G (Clu.lst n N).length (Clu.pk (Clu.lst n N))) : Clu.HandOK Try.prog f (Clu.decH (r1p F G)) := Clu.decH_ok fun args v h => by
  unfold r1p at h
  split at h
  · rename_i n N
    obtain ⟨h1, h2⟩ := h
    have h2 : Clu.AV.tu [.s (F n N).1 (F n N).2, .b (G n N)] = v := h2
    subst h2
    have h1 := Clu.blt_iff.1 h1
    rw [(hl n N).1, (hl n N).2]
    exact Clu.Fact.s1 (hF _ (Clu.lst_b8 n N) (by rw [Clu.lst_length]; omega))
  · exact h.elim
theorem r2b_ok {f : FuncId} {F : Nat → Nat → Nat → Nat → Bool} (hF : ∀ l m, Clu.B8 l → Clu.B8 m → l.length ≤ 1000000 → m.length ≤ 1000000 → Clu.Fact Try.prog f [] [.s l.length (Clu.pk l), .s m.length (Clu.pk m)] (.b (F l.length (Clu.pk l) m.length (Clu.pk m)))) (hl : ∀ n N m M, F n N m M = F (Clu.lst n N).length (Clu.pk (Clu.lst n N)) (Clu.lst m M).length (Clu.pk (Clu.lst m M))) : Clu.HandOK Try.prog f (Clu.decH (r2b F)) := Clu.decH_ok fun args v h => by
  unfold r2b at h
  split at h
  · rename_i n N m M
    obtain ⟨h1, h3, h2⟩ := h
    have h2 : Clu.AV.b (F n N m M) = v := h2
    subst h2
    have h1 := Clu.blt_iff.1 h1
    have h3 := Clu.blt_iff.1 h3
    rw [hl]
    exact Clu.Fact.s2 (hF _ _ (Clu.lst_b8 n N) (Clu.lst_b8 m M) (by rw [Clu.lst_length]; omega) (by rw [Clu.lst_length]; omega))
  · exact h.elim
theorem rm_ok : Clu.HandOK Try.prog 41 (Clu.decH (r1b rmF)) := r1b_ok (fun l h hl => by rw [rmF_pk h]; exact rmay_fact h hl) fun n N => by rw [rmF_pk (Clu.lst_b8 _ _)]; rfl
theorem rf_ok : Clu.HandOK Try.prog 19 (Clu.decH (r1s rfF)) := r1s_ok (fun l h hl => by rw [rfF_pk h]; exact rfo_fact h hl) fun n N => by rw [rfF_pk (Clu.lst_b8 _ _)]; rfl
theorem rp_ok : Clu.HandOK Try.prog 16 (Clu.decH (r1p paF pbF)) := r1p_ok (fun l h hl => by rw [paF_pk h, pbF_pk h]; exact rpar_fact h hl) fun n N => by rw [paF_pk (Clu.lst_b8 _ _), pbF_pk (Clu.lst_b8 _ _)]; exact ⟨rfl, rfl⟩
theorem rXS_ok : Clu.XOK Try.prog (Clu.addB (Clu.addB (Clu.noX) 41 (Clu.decH (r1b rmF))) 19 (Clu.decH (r1s rfF))) := Clu.addB_ok (Clu.addB_ok Clu.noX_ok rm_ok) rf_ok
theorem foldL_b8 {l : List Nat} (h : Clu.B8 l) : Clu.B8 (foldL l) := by
  unfold foldL
  split
  · exact low_b8 h
  · exact Clu.B8.nil
theorem rsame_fact {l m : List Nat} (h : Clu.B8 l) (k : Clu.B8 m) (hl : l.length ≤ 1000000) (hm : m.length ≤ 1000000) : Clu.Fact Try.prog 23 [] [.s l.length (Clu.pk l), .s m.length (Clu.pk m)] (.b (sameB l m)) := by
  unfold sameB
  cases h1 : mayB l with
  | false => exact rsaF_0 rmF rfF _ _ _ _ rXS_ok (c1 := by rw [rmF_pk h]; exact h1)
  | true =>
    cases h2 : mayB m with
    | false => exact rsaF_1 rmF rfF _ _ _ _ rXS_ok (c1 := by rw [rmF_pk h]; exact h1) (c2 := by rw [rmF_pk k]; exact h2)
    | true =>
      have := rsaF_2 rmF rfF _ _ _ _ rXS_ok (c1 := (rmF_pk h).trans h1) (c2 := (rmF_pk k).trans h2)
      rw [rfF_pk h, rfF_pk k] at this
      have this := this
      rw [Clu.eqNs_iff (foldL_b8 h) (foldL_b8 k)] at this
      unfold foldL at this
      rw [if_pos h1, if_pos h2] at this
      exact this
theorem rs_ok : Clu.HandOK Try.prog 23 (Clu.decH (r2b rsF)) := r2b_ok (fun l m h k hl hm => by rw [rsF_pk h k]; exact rsame_fact h k hl hm) fun n N m M => by rw [rsF_pk (Clu.lst_b8 _ _) (Clu.lst_b8 _ _)]; rfl
/-! Within -/
theorem rXI_ok : Clu.XOK Try.prog (Clu.addB (Clu.addB (Clu.addB (Clu.noX) 41 (Clu.decH (r1b rmF))) 23 (Clu.decH (r2b rsF))) 16 (Clu.decH (r1p paF pbF))) := Clu.addB_ok (Clu.addB_ok (Clu.addB_ok Clu.noX_ok rm_ok) rs_ok) rp_ok
theorem labN_of {L : List (List Nat)} (h : LabOk L) (hn : (wire L).length ≤ 255) : labN (wire L) = some L := by
  unfold labN
  rw [if_pos hn, labs_wire h]
theorem may_of {L : List (List Nat)} (h : LabOk L) (hn : (wire L).length ≤ 255) : mayB (wire L) = true := by rw [← labN_may, labN_of h hn]; rfl
theorem same_of {L Z : List (List Nat)} (h : LabOk L) (hn : (wire L).length ≤ 255) (k : LabOk Z) (kn : (wire Z).length ≤ 255) : sameB (wire L) (wire Z) = decide (L.map low = Z.map low) := by
  unfold sameB
  rw [may_of h hn, may_of k kn, Bool.true_and, Bool.true_and]
  exact decide_eq_decide.2 (low_wire_inj h k)
theorem rwi_L {Z : List (List Nat)} (k : LabOk Z) (kn : (wire Z).length ≤ 255) (k8 : Clu.B8 (wire Z)) : ∀ (L : List (List Nat)), LabOk L → (wire L).length ≤ 255 → Clu.B8 (wire L) → Clu.LoopQ Try.prog (Clu.loopNo Try.f25 0) (51 + L.length) 26 1000 ([] ++ Clu.layB []) 1000 1 [0, 1] [.s (wire L).length (Clu.pk (wire L)), .s (wire Z).length (Clu.pk (wire Z))] [4, 6, 8, 9, 10, 12, 13, 14, 17, 22, 23, 24] [4] [.b (withinL L Z)] ([] ++ Clu.layB []) 1000
  | L, h, hn, h8 => by
    have es := rsF_pk h8 k8
    rw [same_of h hn k kn] at es
    have ep := pbF_pk h8
    have ea := paF_pk h8
    unfold parL at ep ea
    rw [labN_of h hn] at ep ea
    by_cases e : L.map low = Z.map low
    · have : withinL L Z = true := by unfold withinL; rw [e]; exact decide_eq_true (List.suffix_refl _)
      rw [this]
      exact Clu.LoopQ.out (n := 50) (by simp [Clu.exOf]) (by omega) fun os ho => rwiS_2 rmF rsF paF pbF _ _ _ _ os ho rXI_ok (c1 := by rw [es]; exact decide_eq_true e)
    · cases L with
      | nil =>
        have : withinL [] Z = false := by
          unfold withinL
          refine decide_eq_false fun hs => e ?_
          rw [List.map_nil, List.suffix_nil] at hs
          rw [hs]; rfl
        rw [this]
        exact Clu.LoopQ.out (n := 50) (by simp [Clu.exOf]) (by omega) fun os ho => rwiS_1 rmF rsF paF pbF _ _ _ _ os ho rXI_ok (c1 := by rw [es]; exact decide_eq_false e) (c2 := by rw [ep])
      | cons x K =>
        have hk : (wire K).length ≤ 255 := by
          have : (wire (x :: K)).length = (x ++ wire K).length + 1 := rfl
          rw [List.length_append] at this
          omega
        have k8' : Clu.B8 (wire K) := (Clu.B8.right (l := x) h8.tail)
        have : withinL (x :: K) Z = withinL K Z := by
          unfold withinL
          refine decide_eq_decide.2 ?_
          rw [List.map_cons, List.suffix_cons_iff]
          constructor
          · rintro (hh | hh)
            · exact absurd hh.symm e
            · exact hh
          · exact Or.inr
        rw [this]
        refine Clu.LoopQ.more (show 50 ≤ 51 + K.length by omega) (fun os ho => ?_) (rwi_L k kn k8 K h.tail hk k8')
        have := rwiS_0 rmF rsF paF pbF _ _ _ _ os ho rXI_ok (c1 := es.trans (decide_eq_false e)) (c2 := ep)
        rw [ea] at this
        exact this
theorem rwithin_fact {l m : List Nat} (h : Clu.B8 l) (k : Clu.B8 m) (hl : l.length ≤ 1000000) (hm : m.length ≤ 1000000) : Clu.Fact Try.prog 25 [] [.s l.length (Clu.pk l), .s m.length (Clu.pk m)] (.b (withinB l m)) := by
  cases h1 : mayB l with
  | false =>
    have : withinB l m = false := by
      unfold withinB
      split
      · rename_i L M e1 e2
        unfold mayB at h1
        rw [e1] at h1
        cases hd : decide (l.length ≤ 255) with
        | false => rfl
        | true => rw [hd] at h1; cases h1
      · rfl
    rw [this]
    exact rwiF_2 rmF rsF paF pbF _ _ _ _ false rXI_ok (c1 := by rw [rmF_pk h]; exact h1)
  | true =>
    cases h2 : mayB m with
    | false =>
      have : withinB l m = false := by
        unfold withinB
        split
        · rename_i L M e1 e2
          unfold mayB at h2
          rw [e2] at h2
          cases hd : decide (m.length ≤ 255) with
          | false => cases decide (l.length ≤ 255) <;> rfl
          | true => rw [hd] at h2; cases h2
        · rfl
      rw [this]
      exact rwiF_1 rmF rsF paF pbF _ _ _ _ false rXI_ok (c1 := by rw [rmF_pk h]; exact h1) (c2 := by rw [rmF_pk k]; exact h2)
    | true =>
      obtain ⟨L, rfl, oL, hL⟩ := mayB_iff.1 h1
      obtain ⟨Z, rfl, oZ, hZ⟩ := mayB_iff.1 h2
      have : withinB (wire L) (wire Z) = withinL L Z := by
        unfold withinB
        rw [labs_wire oL, labs_wire oZ]
        show (decide _ && (decide _ && _)) = _
        rw [decide_eq_true hL, decide_eq_true hZ]; rfl
      rw [this]
      have hm := labs_many oL
      exact rwiF_0 rmF rsF paF pbF _ _ _ _ _ rXI_ok (c1 := by rw [rmF_pk h]; exact h1) (c2 := by rw [rmF_pk k]; exact h2) (q1 := (rwi_L oZ hZ k L oL hL h).upto (by omega))
/-! Compare -/
theorem ltNs_irr : ∀ l : List Nat, Clu.ltNs l l = false
  | [] => rfl
  | a :: l => by
    have e1 : Nat.blt (Nat.mod a 256) (Nat.mod a 256) = false := Clu.blt_f (Nat.le_refl _)
    have e2 : Nat.beq (Nat.mod a 256) (Nat.mod a 256) = true := Clu.beq_iff.2 rfl
    unfold Clu.ltNs
    rw [e1, e2]
    exact ltNs_irr l
def RcL (L M : List (List Nat)) (fuel i ec : Nat) (ts : List Nat) (vs : List Clu.AV) : Prop := Clu.LoopQ Try.prog (Clu.loopNo Try.f27 0) fuel 72 1000 ([(1000, .c (Clu.S1 L) 0 1 (some 9)), (1001, .c (Clu.S1 M) 0 1 (some 9))] ++ Clu.layB []) 1002 ec [5, 7, 9] [.so 1000 0 1 L.length, .so 1001 0 1 M.length, .i .i64 (.ofNat i)] [6, 8, 16, 21, 22, 23, 24, 25, 26, 27, 31, 32, 36, 37, 58, 61, 66, 71] ts vs ([(1000, .c (Clu.S1 L) 0 1 (some 9)), (1001, .c (Clu.S1 M) 0 1 (some 9))] ++ Clu.layB []) 1002
theorem rev_at {L p R : List (List Nat)} {a : List Nat} (he : L.reverse = p ++ a :: R) : L.getD (L.length - (p.length + 1)) [] = a ∧ L.length = p.length + (R.length + 1) := by
  have hl : L.length = p.length + (R.length + 1) := by have := congrArg List.length he; simpa using this
  refine ⟨?_, hl⟩
  have e : L = (p ++ a :: R).reverse := by rw [← he, List.reverse_reverse]
  rw [List.getD_eq_getElem?_getD, hl, e, List.reverse_append, List.reverse_cons, List.append_assoc, List.getElem?_append_right (by simp; omega), List.length_reverse, show p.length + (R.length + 1) - (p.length + 1) - R.length = 0 by omega]
  rfl
theorem rc_A {L M : List (List Nat)} (bL : ∀ x ∈ L, Clu.B8 x) (bM : ∀ x ∈ M, Clu.B8 x) (xL : ∀ x ∈ L, x.length ≤ 1000000) (xM : ∀ x ∈ M, x.length ≤ 1000000) (nL : L.length ≤ 1000000) (nM : M.length ≤ 1000000) : ∀ (R S p q : List (List Nat)), L.reverse = p ++ R → M.reverse = q ++ S → p.length = q.length → match cmpGo (R.map low) (S.map low) with
    | none => RcL L M (51 + R.length) (p.length + 1) 2 [5, 7] [.so 1000 0 1 L.length, .so 1001 0 1 M.length]
    | some z => RcL L M (51 + R.length) (p.length + 1) 1 [4] [.i .i64 z]
  | [], S, p, q, hp, hq, hpq => by
    have hl : L.length = p.length := by have := congrArg List.length hp; simpa using this
    show RcL L M (51 + 0) (p.length + 1) 2 [5, 7] _
    exact Clu.LoopQ.out (n := 50) (by simp [Clu.exOf]) (by omega) fun os ho => rcoS_0 rwF _ _ _ _ _ os ho rlX_ok (Clu.S1_flts _) (Clu.S1_flts _) (c1 := by omega)
  | a :: R, [], p, q, hp, hq, hpq => by
    have hl := (rev_at hp).2
    have hm : M.length = q.length := by have := congrArg List.length hq; simpa using this
    show RcL L M (51 + (R.length + 1)) (p.length + 1) 2 [5, 7] _
    exact Clu.LoopQ.out (n := 50) (by simp [Clu.exOf]) (by omega) fun os ho => rcoS_1 rwF _ _ _ _ _ os ho rlX_ok (Clu.S1_flts _) (Clu.S1_flts _) (c1 := by omega) (c2 := by omega)
  | a :: R, b :: S, p, q, hp, hq, hpq => by
    obtain ⟨ga, hl⟩ := rev_at hp
    obtain ⟨gb, hm⟩ := rev_at hq
    rw [← hpq] at gb
    have ia : L.length - (p.length + 1) < L.length := by omega
    have ib : M.length - (p.length + 1) < M.length := by omega
    obtain ⟨a0, a1, a2⟩ := at_i ia
    obtain ⟨b0, b1, b2⟩ := at_i ib
    rw [ga] at a1 a2
    rw [gb] at b1 b2
    have ma : a ∈ L := by rw [← List.mem_reverse, hp]; simp
    have mb : b ∈ M := by rw [← List.mem_reverse, hq]; simp
    have ba := bL a ma
    have bb := bM b mb
    have xa := xL a ma
    have xb := xM b mb
    have ee : Clu.eqNs (Clu.sN (Clu.getL (Clu.S1 L) (0 + (L.length - (p.length + 1)) * 1))) (rwF (Clu.sN (Clu.getL (Clu.S1 L) (0 + (L.length - (p.length + 1)) * 1))) (Clu.sNN (Clu.getL (Clu.S1 L) (0 + (L.length - (p.length + 1)) * 1)))) (Clu.sN (Clu.getL (Clu.S1 M) (0 + (M.length - (p.length + 1)) * 1))) (rwF (Clu.sN (Clu.getL (Clu.S1 M) (0 + (M.length - (p.length + 1)) * 1))) (Clu.sNN (Clu.getL (Clu.S1 M) (0 + (M.length - (p.length + 1)) * 1)))) = decide (low a = low b) := by
      rw [a1, a2, b1, b2, rwF_pk ba, rwF_pk bb]
      exact eqNs_low ba bb
    have el : Clu.ltS (Clu.sN (Clu.getL (Clu.S1 L) (0 + (L.length - (p.length + 1)) * 1))) (rwF (Clu.sN (Clu.getL (Clu.S1 L) (0 + (L.length - (p.length + 1)) * 1))) (Clu.sNN (Clu.getL (Clu.S1 L) (0 + (L.length - (p.length + 1)) * 1)))) (Clu.sN (Clu.getL (Clu.S1 M) (0 + (M.length - (p.length + 1)) * 1))) (rwF (Clu.sN (Clu.getL (Clu.S1 M) (0 + (M.length - (p.length + 1)) * 1))) (Clu.sNN (Clu.getL (Clu.S1 M) (0 + (M.length - (p.length + 1)) * 1)))) = Clu.ltNs (low a) (low b) := by
      rw [a1, a2, b1, b2, rwF_pk ba, rwF_pk bb]
      unfold Clu.ltS
      rw [show a.length = (low a).length from (low_length a).symm, show b.length = (low b).length from (low_length b).symm, Clu.lst_pk (low_b8 ba), Clu.lst_pk (low_b8 bb)]
    have i1 : ((L.length : Nat) : Int) - ((p.length + 1 : Nat) : Int) = Int.ofNat (L.length - (p.length + 1)) := by simp only [Int.ofNat_eq_natCast]; omega
    have i2 : ((M.length : Nat) : Int) - ((p.length + 1 : Nat) : Int) = Int.ofNat (M.length - (p.length + 1)) := by simp only [Int.ofNat_eq_natCast]; omega
    rw [List.map_cons, List.map_cons]
    unfold cmpGo
    by_cases h : low a = low b
    · rw [if_pos h]
      have ih := rc_A bL bM xL xM nL nM R S (p ++ [a]) (q ++ [b]) (by rw [hp, List.append_assoc]; rfl) (by rw [hq, List.append_assoc]; rfl) (by simp [hpq])
      have e : (p ++ [a]).length = p.length + 1 := by simp
      rw [e] at ih
      have c5 : Clu.ltNs (low a) (low b) = false := by rw [h]; exact ltNs_irr _
      have key : ∀ ec ts vs, RcL L M (51 + R.length) (p.length + 1 + 1) ec ts vs → RcL L M (51 + (R.length + 1)) (p.length + 1) ec ts vs := fun ec ts vs hh =>
        Clu.LoopQ.more (show 50 ≤ 51 + R.length by omega) (fun os ho => rcoS_2 rwF _ _ (p.length + 1) _ _ os ho rlX_ok (Clu.S1_flts _) (Clu.S1_flts _) (c1 := by omega) (c2 := by omega) (n597 := L.length - (p.length + 1)) (e_n597 := i1) (n3 := a0) (n593 := M.length - (p.length + 1)) (e_n593 := i2) (n6 := b0) (c3 := by rw [el]; exact c5) (c4 := by rw [el, ee, c5, decide_eq_true h]; rfl)) hh
      cases hc : cmpGo (R.map low) (S.map low) with
      | none => rw [hc] at ih; exact key _ _ _ ih
      | some z => rw [hc] at ih; exact key _ _ _ ih
    · rw [if_neg h]
      cases hlt : Clu.ltNs (low a) (low b) with
      | true =>
        show RcL L M (51 + (R.length + 1)) (p.length + 1) 1 [4] [.i .i64 (-1)]
        exact Clu.LoopQ.out (n := 50) (by simp [Clu.exOf]) (by omega) fun os ho => rcoS_4 rwF _ _ _ _ _ os ho rlX_ok (Clu.S1_flts _) (Clu.S1_flts _) (c1 := by omega) (c2 := by omega) (n597 := L.length - (p.length + 1)) (e_n597 := i1) (n3 := a0) (n593 := M.length - (p.length + 1)) (e_n593 := i2) (n6 := b0) (c3 := by rw [el]; exact hlt)
      | false =>
        show RcL L M (51 + (R.length + 1)) (p.length + 1) 1 [4] [.i .i64 1]
        exact Clu.LoopQ.out (n := 50) (by simp [Clu.exOf]) (by omega) fun os ho => rcoS_3 rwF _ _ _ _ _ os ho rlX_ok (Clu.S1_flts _) (Clu.S1_flts _) (c1 := by omega) (c2 := by omega) (n597 := L.length - (p.length + 1)) (e_n597 := i1) (n3 := a0) (n593 := M.length - (p.length + 1)) (e_n593 := i2) (n6 := b0) (c3 := by rw [el]; exact hlt) (c4 := by rw [el, ee, hlt, decide_eq_false h]; rfl)

theorem cmpB_0 {l m : List Nat} (h : mayB l = false ∨ mayB m = false) : cmpB l m = 0 := by
  unfold cmpB
  rcases h with h | h <;> rw [h]
  · rfl
  · rw [Bool.and_false]
theorem cmpB_of {L M : List (List Nat)} (h : LabOk L) (hn : (wire L).length ≤ 255) (k : LabOk M) (kn : (wire M).length ≤ 255) : cmpB (wire L) (wire M) = cmpL L M := by
  unfold cmpB
  rw [may_of h hn, may_of k kn, labs_wire h, labs_wire k]
  rfl
theorem cmpL_go {L M : List (List Nat)} (bL : ∀ x ∈ L, Clu.B8 x) (bM : ∀ x ∈ M, Clu.B8 x) : cmpL L M = (cmpGo (L.reverse.map low) (M.reverse.map low)).getD (sgn ((L.length : Int) - M.length)) := by
  unfold cmpL
  rw [cmpGo_W (fun x hx => ?_) (fun x hx => ?_)]
  · rw [List.map_reverse, List.map_reverse, List.length_reverse, List.length_reverse, List.length_map, List.length_map]
  · obtain ⟨y, hy, rfl⟩ := List.mem_map.1 (List.mem_reverse.1 hx)
    exact low_b8 (bL y hy)
  · obtain ⟨y, hy, rfl⟩ := List.mem_map.1 (List.mem_reverse.1 hx)
    exact low_b8 (bM y hy)
theorem is_of {L : List (List Nat)} (hB : Clu.B8 (wire L)) (h : LabOk L) (hn : (wire L).length ≤ 255) : isF (wire L).length (Clu.pk (wire L)) = true ∧ kkF (wire L).length (Clu.pk (wire L)) = L.length ∧ lsF (wire L).length (Clu.pk (wire L)) = Clu.S1 L := by
  rw [isF_pk hB, kkF_pk hB, lsF_pk hB, labN_of h hn]
  exact ⟨rfl, rfl, rfl⟩
theorem em_of {x : List Nat} {L : List (List Nat)} (hB : Clu.B8 (wire (x :: L))) (h : LabOk (x :: L)) (hn : (wire (x :: L)).length ≤ 255) : emF (wire (x :: L)).length (Clu.pk (wire (x :: L))) = false := by
  rw [emF_pk hB, labN_of h hn]
theorem em_nil : emF (wire []).length (Clu.pk (wire [])) = true := by
  rw [emF_pk (l := wire []) (fun c hc => by obtain rfl := List.mem_singleton.1 hc; decide)]
  rfl
theorem is_not {l : List Nat} (h : Clu.B8 l) (hm : mayB l = false) : isF l.length (Clu.pk l) = false := by rw [isF_pk h, labN_may, hm]
theorem rcompare_fact {l m : List Nat} (h : Clu.B8 l) (k : Clu.B8 m) (hl : l.length ≤ 1000000) (hm : m.length ≤ 1000000) : Clu.Fact Try.prog 27 [] [.s l.length (Clu.pk l), .s m.length (Clu.pk m)] (.i .i64 (cmpB l m)) := by
  cases h1 : mayB l with
  | false =>
    rw [cmpB_0 (.inl h1)]
    have i1 := is_not h h1
    cases h2 : mayB m with
    | false => exact rcoF_0 isF emF kkF lsF _ _ _ _ 0 0 false 0 rXL_ok (c1 := i1) (c2 := is_not k h2)
    | true =>
      obtain ⟨M, rfl, oM, hM⟩ := mayB_iff.1 h2
      obtain ⟨j1, j2, j3⟩ := is_of k oM hM
      cases M with
      | nil => exact rcoF_2 isF emF kkF lsF _ _ _ _ 0 0 false 0 rXL_ok (c1 := i1) (c2 := j1) (c3 := em_nil)
      | cons y M => exact rcoF_1 isF emF kkF lsF _ _ _ _ 0 0 false 0 rXL_ok (c1 := i1) (c2 := j1) (c3 := em_of k oM hM)
  | true =>
    obtain ⟨L, rfl, oL, hL⟩ := mayB_iff.1 h1
    obtain ⟨i1, i2, i3⟩ := is_of h oL hL
    cases h2 : mayB m with
    | false =>
      rw [cmpB_0 (.inr h2)]
      cases L with
      | nil => exact rcoF_10 isF emF kkF lsF _ _ _ _ 0 0 false 0 rXL_ok (c1 := i1) (c2 := em_nil) (c3 := is_not k h2)
      | cons x L => exact rcoF_3 isF emF kkF lsF _ _ _ _ 0 0 false 0 rXL_ok (c1 := i1) (c2 := em_of h oL hL) (c3 := is_not k h2)
    | true =>
      obtain ⟨M, rfl, oM, hM⟩ := mayB_iff.1 h2
      obtain ⟨j1, j2, j3⟩ := is_of k oM hM
      rw [cmpB_of oL hL oM hM]
      have bL := wire_b8 h
      have bM := wire_b8 k
      have mL := labs_many oL
      have mM := labs_many oM
      rw [cmpL_go bL bM]
      cases L with
      | nil =>
        cases M with
        | nil => exact rcoF_13 isF emF kkF lsF _ _ _ _ 0 0 false 0 rXL_ok (c1 := i1) (c2 := em_nil) (c3 := j1) (c4 := em_nil) (q1 := Clu.LoopQ.out (n := 50) (by simp [Clu.exOf]) (show 50 < (wire []).length + 993 by omega) fun os ho => rcoN_0 _ os ho (c1 := by omega))
        | cons y M =>
          have : (cmpGo (([] : List (List Nat)).reverse.map low) ((y :: M).reverse.map low)).getD (sgn ((([] : List (List Nat)).length : Int) - (y :: M).length)) = -1 := by
            show sgn _ = -1
            unfold sgn
            simp only [List.length_cons, List.length_nil]
            rw [if_pos (by omega)]
          rw [this]
          refine rcoF_12 isF emF kkF lsF _ _ _ _ 0 (M.length + 1) false 0 rXL_ok (c1 := i1) (c2 := em_nil) (c3 := j1) (c4 := em_of k oM hM) (q1 := ?_) (c5 := by omega)
          rw [j2, j3]
          exact Clu.LoopQ.out (n := 50) (by simp [Clu.exOf]) (show 50 < (wire []).length + 993 by omega) fun os ho => rcoY_0 _ _ _ os ho (Clu.S1_flts _) (c1 := by omega)
      | cons x L =>
        cases M with
        | nil =>
          have : (cmpGo ((x :: L).reverse.map low) (([] : List (List Nat)).reverse.map low)).getD (sgn (((x :: L).length : Int) - ([] : List (List Nat)).length)) = 1 := by
            have : cmpGo ((x :: L).reverse.map low) (([] : List (List Nat)).reverse.map low) = none := by
              cases ((x :: L).reverse.map low) <;> rfl
            rw [this]
            show sgn _ = 1
            unfold sgn
            simp only [List.length_cons, List.length_nil]
            rw [if_neg (by omega), if_pos (by omega)]
          rw [this]
          refine rcoF_9 isF emF kkF lsF _ _ _ _ (L.length + 1) 0 false 0 rXL_ok (c1 := i1) (c2 := em_of h oL hL) (c3 := j1) (c4 := em_nil) (q1 := ?_) (c5 := by omega)
          rw [i2, i3]
          have hx : (x :: L).length = L.length + 1 := rfl
          exact Clu.LoopQ.out (n := 50) (by simp [Clu.exOf]) (show 50 < (wire (x :: L)).length + 993 by omega) fun os ho => rcoX_1 _ _ _ os ho (Clu.S1_flts _) (c1 := by omega) (c2 := by omega)
        | cons y M =>
          have K := rc_A bL bM (fun z hz => by have := oL z hz; omega) (fun z hz => by have := oM z hz; omega) (by omega) (by omega) (x :: L).reverse (y :: M).reverse [] [] rfl rfl rfl
          cases hc : cmpGo ((x :: L).reverse.map low) ((y :: M).reverse.map low) with
          | none =>
            rw [hc] at K
            have K : RcL (x :: L) (y :: M) (51 + (x :: L).reverse.length) 1 2 [5, 7] [.so 1000 0 1 (x :: L).length, .so 1001 0 1 (y :: M).length] := K
            rw [List.length_reverse] at K
            unfold RcL at K
            rw [← i2, ← i3, ← j2, ← j3] at K
            have K := K.upto (show 51 + (kkF (wire (x :: L)).length (Clu.pk (wire (x :: L)))) ≤ (wire (x :: L)).length + 993 by rw [i2]; omega)
            show Clu.Fact _ _ _ _ (.i .i64 (sgn (((x :: L).length : Int) - (y :: M).length)))
            unfold sgn
            by_cases z1 : ((x :: L).length : Int) - (y :: M).length < 0
            · rw [if_pos z1]
              exact rcoF_6 isF emF kkF lsF _ _ _ _ _ _ false 0 rXL_ok (c1 := i1) (c2 := em_of h oL hL) (c3 := j1) (c4 := em_of k oM hM) (c5 := rfl) (q1 := K) (c6 := by rw [i2, j2]; omega)
            · rw [if_neg z1]
              by_cases z2 : 0 < ((x :: L).length : Int) - (y :: M).length
              · rw [if_pos z2]
                exact rcoF_5 isF emF kkF lsF _ _ _ _ _ _ false 0 rXL_ok (c1 := i1) (c2 := em_of h oL hL) (c3 := j1) (c4 := em_of k oM hM) (c5 := rfl) (q1 := K) (c6 := by rw [i2, j2]; omega) (c7 := by rw [i2, j2]; omega)
              · rw [if_neg z2]
                exact rcoF_4 isF emF kkF lsF _ _ _ _ _ _ false 0 rXL_ok (c1 := i1) (c2 := em_of h oL hL) (c3 := j1) (c4 := em_of k oM hM) (c5 := rfl) (q1 := K) (c6 := by rw [i2, j2]; omega) (c7 := by rw [i2, j2]; omega)
          | some z =>
            rw [hc] at K
            have K : RcL (x :: L) (y :: M) (51 + (x :: L).reverse.length) 1 1 [4] [.i .i64 z] := K
            rw [List.length_reverse] at K
            unfold RcL at K
            rw [← i2, ← i3, ← j2, ← j3] at K
            have K := K.upto (show 51 + (kkF (wire (x :: L)).length (Clu.pk (wire (x :: L)))) ≤ (wire (x :: L)).length + 993 by rw [i2]; omega)
            exact rcoF_7 isF emF kkF lsF _ _ _ _ 0 0 true z rXL_ok (c1 := i1) (c2 := em_of h oL hL) (c3 := j1) (c4 := em_of k oM hM) (c5 := rfl) (q1 := K)

end Go.Proofs.Ytmokdhmicdmgfaa

namespace Go.Proofs.Ytmokdhmicdmgfaa
open Go.RowKit
set_option linter.unusedVariables false
set_option linter.unusedSimpArgs false
set_option maxRecDepth 100000

noncomputable def r2i (f : Nat → Nat → Nat → Nat → Int) : List Clu.AV → Clu.Dec Clu.AV := fun args => match args with
  | [.s n N, .s m M] => .need (Nat.blt n 1000001) (.need (Nat.blt m 1000001) (.leaf (.i .i64 (f n N m M))))
  | _ => .fail


theorem r2i_ok {f : FuncId} {F : Nat → Nat → Nat → Nat → Int} (hF : ∀ l m, Clu.B8 l → Clu.B8 m → l.length ≤ 1000000 → m.length ≤ 1000000 → Clu.Fact Try.prog f [] [.s l.length (Clu.pk l), .s m.length (Clu.pk m)] (.i .i64 (F l.length (Clu.pk l) m.length (Clu.pk m)))) (hl : ∀ n N m M, F n N m M = F (Clu.lst n N).length (Clu.pk (Clu.lst n N)) (Clu.lst m M).length (Clu.pk (Clu.lst m M))) : Clu.HandOK Try.prog f (Clu.decH (r2i F)) := Clu.decH_ok fun args v h => by
  unfold r2i at h
  split at h
  · rename_i n N m M
    obtain ⟨h1, h3, h2⟩ := h
    have h2 : Clu.AV.i .i64 (F n N m M) = v := h2
    subst h2
    have h1 := Clu.blt_iff.1 h1
    have h3 := Clu.blt_iff.1 h3
    rw [hl]
    exact Clu.Fact.s2 (hF _ _ (Clu.lst_b8 n N) (Clu.lst_b8 m M) (by rw [Clu.lst_length]; omega) (by rw [Clu.lst_length]; omega))
  · exact h.elim
theorem rsm_ok : Clu.HandOK Try.prog 23 (Clu.decH (r2b smF)) := r2b_ok (fun l m h k hl hm => by rw [smF_pk h k]; exact rsame_fact h k hl hm) fun n N m M => by rw [smF_pk (Clu.lst_b8 _ _) (Clu.lst_b8 _ _)]; rfl
theorem rwi_ok : Clu.HandOK Try.prog 25 (Clu.decH (r2b wiF)) := r2b_ok (fun l m h k hl hm => by rw [wiF_pk h k]; exact rwithin_fact h k hl hm) fun n N m M => by rw [wiF_pk (Clu.lst_b8 _ _) (Clu.lst_b8 _ _)]; rfl
theorem rcp_ok : Clu.HandOK Try.prog 27 (Clu.decH (r2i cpF)) := r2i_ok (fun l m h k hl hm => by rw [cpF_pk h k]; exact rcompare_fact h k hl hm) fun n N m M => by rw [cpF_pk (Clu.lst_b8 _ _) (Clu.lst_b8 _ _)]; rfl
theorem lawX2_ok : Clu.XOK Try.prog (Clu.addB (Clu.addB (Clu.addB (Clu.addB (Clu.addB (Clu.addB (Clu.addB (Clu.noX) 11 (Clu.decH awH)) 22 (Clu.decH (s2b smF))) 24 (Clu.decH (s2b wiF))) 26 (Clu.decH (s2i cpF))) 23 (Clu.decH (r2b smF))) 25 (Clu.decH (r2b wiF))) 27 (Clu.decH (r2i cpF))) := Clu.addB_ok (Clu.addB_ok (Clu.addB_ok (Clu.addB_ok (Clu.addB_ok (Clu.addB_ok (Clu.addB_ok Clu.noX_ok awH_ok) sm_ok) wi_ok) cp_ok) rsm_ok) rwi_ok) rcp_ok

end Go.Proofs.Ytmokdhmicdmgfaa

namespace Go.Proofs.Ytmokdhmicdmgfaa
open Go.RowKit
set_option linter.unusedVariables false
set_option linter.unusedSimpArgs false
set_option maxRecDepth 100000

noncomputable def nlH (em : Nat → Nat → Bool) (kk : Nat → Nat → Nat) (ls : Nat → Nat → List Clu.AV) : List Clu.AV → List (List Clu.AV) → Clu.Dec (Clu.AV × List Clu.NB) := fun args css => match args with
  | [.s n N] => (match css with
    | [] => .need (Nat.blt n 1000001) (.fork (em n N) (.leaf (.so 1000 0 1 (kk n N), [(ls n N, 1, some 9)])) (.leaf (.sn, [])))
    | _ => .fail)
  | _ => .fail
noncomputable def npH (pn pN : Nat → Nat → Nat) (pb : Nat → Nat → Bool) : List Clu.AV → Clu.Dec Clu.AV := fun args => match args with
  | [.s n N] => .need (Nat.blt n 9000000000000000000) (.leaf (.tu [.s (pn n N) (pN n N), .b (pb n N)]))
  | _ => .fail
noncomputable def txH (tk : List Clu.AV → Nat → Nat → Bool) (tx : List Clu.AV → Nat → List Clu.AV → Nat → Bool) : List Clu.AV → List (List Clu.AV) → Clu.Dec (Clu.AV × List Clu.NB) := fun args css => match args with
  | [.so a d w k, .so b e v m] => (match css with
    | [cs, ds] => .need (Nat.beq a 1000) (.need (Nat.beq b 1001) (.need (Nat.beq w 1) (.need (Nat.beq v 1) (.need (tk cs d k) (.need (tk ds e m) (.fork (Nat.beq k m) (.leaf (.b false, [])) (.leaf (.b (tx cs d ds e), []))))))))
    | _ => .fail)
  | [.so a d w k, .sn] => (match css with
    | [cs] => .need (Nat.beq a 1000) (.need (Nat.beq w 1) (.need (Nat.blt 0 k) (.need (tk cs d k) (.leaf (.b false, [])))))
    | _ => .fail)
  | [.sn, .so a d w k] => (match css with
    | [cs] => .need (Nat.beq a 1000) (.need (Nat.beq w 1) (.need (Nat.blt 0 k) (.need (tk cs d k) (.leaf (.b false, [])))))
    | _ => .fail)
  | [.sn, .sn] => (match css with
    | [] => .leaf (.b true, [])
    | _ => .fail)
  | [.sn, .se] => (match css with
    | [] => .leaf (.b true, [])
    | _ => .fail)
  | _ => .fail

set_option maxRecDepth 10000000 in
theorem nlA_raw (n N at_ : Nat) (os : Nat → Option Clu.AV) : Clu.evL (Clu.noL) Try.prog (Clu.noX) 50 30 1000 (Clu.loopNo Try.f13 0) (Clu.tellF [3000016, 3000024] (Clu.mkFr 30 (Clu.std [0, 3, 4] [.s n N, .sn, .i .i64 (.ofNat at_)] [7, 8, 12] os))) (Clu.mkH (Clu.mkH .e (Clu.layB [])) []) 1000 (Clu.finM 30 1000 [7, 8, 12] 0 [(0, [0, 3, 4], [(1001, 0, 1, (some 9))], some 1002), (2, [3], [], none)]) = Clu.needT ((Nat.blt at_ n)) (.err 22 6) (Clu.forkB ((Bool.not (Clu.iEq (Int.ofNat (Clu.byteN N at_)) (Int.ofNat 0)))) (Clu.needT ((Clu.flatB (os 7))) (.err 90 1) (Clu.needT ((Clu.flatB (os 8))) (.err 90 1) ((Clu.Out.ok (Clu.AV.tu [(Clu.AV.i IntKind.i64 (Int.ofNat 1)), Clu.AV.sn]))))) (Clu.needT ((Clu.inR IntKind.i64 (Int.ofNat (at_ + 1)))) (.err 10 20) (Clu.needT ((Nat.blt at_ n)) (.err 22 6) (Clu.needT ((Clu.inR IntKind.i64 (Int.ofNat (Clu.byteN N at_)))) (.err 10 20) (Clu.needT ((Clu.inR IntKind.i64 (Int.ofNat ((at_ + 1) + (Clu.byteN N at_))))) (.err 10 20) (Clu.needT ((Clu.inR IntKind.i64 (Int.ofNat (at_ + 1)))) (.err 10 20) (Clu.needT ((Nat.ble ((at_ + 1) + (Clu.byteN N at_)) n)) (.err 20 0) (Clu.needT ((Nat.ble (at_ + 1) ((at_ + 1) + (Clu.byteN N at_)))) (.err 20 0) (Clu.needT ((Clu.flatB (os 7))) (.err 90 1) (Clu.needT ((Clu.flatB (os 8))) (.err 90 1) ((Clu.Out.ok (Clu.AV.tu [(Clu.AV.i IntKind.i64 (Int.ofNat 0)), (Clu.AV.s n N), (Clu.AV.so 1001 0 1 1), (Clu.AV.i IntKind.i64 (Int.ofNat ((at_ + 1) + (Clu.byteN N at_)))), (Clu.AV.ag ([] ++ [(Clu.AV.s (((at_ + 1) + (Clu.byteN N at_)) - (at_ + 1)) (Clu.maskN (((at_ + 1) + (Clu.byteN N at_)) - (at_ + 1)) (Nat.shiftRight N (8 * (at_ + 1)))))]))]))))))))))))) := by kernel_rfl
set_option linter.unusedVariables false in
theorem nlA_0 (n N at_ : Nat) (os : Nat → Option Clu.AV) (hos : ∀ t, Clu.flatB (os t) = true)  (n1 : at_ < n := by omega) (c1 : (Clu.byteN N at_) = 0) : ∃ os' : Nat → Option Clu.AV, (∀ t, Clu.flatB (os' t) = true) ∧ Clu.RunE Try.prog 50 (Clu.loopNo Try.f13 0) 30 1000 (Clu.mkFr 30 (Clu.std [0, 3, 4] [.s n N, .sn, .i .i64 (.ofNat at_)] [7, 8, 12] os)) (Clu.mkH .e ([] ++ (Clu.layB []))) 1000 (Clu.exOf 2) (Clu.mkFr 30 (Clu.std [3] [Clu.AV.sn] [7, 8, 12] os')) (Clu.mkH .e ([] ++ (Clu.layB []))) 1000 :=
  Clu.segM (vs := [Clu.AV.sn]) (cs := []) 1 2 [3] [] (Clu.evL_ok Clu.plain (Clu.noX_ok) (Clu.drK_ok Clu.mixed) (Clu.noL_ok) 50) (Clu.layB_bs rfl (by decide) (by decide)) hos ((((((nlA_raw n N at_ os)).trans (Clu.needT_eq (Clu.blt_iff.2 n1) _ _)).trans (Clu.forkB_f (congrArg not (Clu.iEq_t (congrArg Int.ofNat c1))) _ _)).trans (Clu.needT_eq (hos _) _ _)).trans (Clu.needT_eq (hos _) _ _)) rfl rfl rfl (by decide) rfl (by simp [Clu.Blk.und, Clu.AV.und, Clu.AV.unds]) rfl (Clu.newH_ro rfl) (by simp [Clu.AV.und, Clu.AV.unds, Clu.AV.cells, Clu.unds_splice])
set_option linter.unusedVariables false in
theorem nlA_1 (n N at_ : Nat) (os : Nat → Option Clu.AV) (hos : ∀ t, Clu.flatB (os t) = true)  (n1 : at_ < n := by omega) (c1 : (Clu.byteN N at_) ≠ 0) (n2 : (at_ + 1) < 9223372036854775808 := by omega) (n3 : at_ < n := by omega) (n4 : (Clu.byteN N at_) < 9223372036854775808 := by omega) (n5 : ((at_ + 1) + (Clu.byteN N at_)) < 9223372036854775808 := by omega) (n6 : (at_ + 1) < 9223372036854775808 := by omega) (n7 : ((at_ + 1) + (Clu.byteN N at_)) ≤ n := by omega) (n8 : (at_ + 1) ≤ ((at_ + 1) + (Clu.byteN N at_)) := by omega) : ∃ os' : Nat → Option Clu.AV, (∀ t, Clu.flatB (os' t) = true) ∧ Clu.RunE Try.prog 50 (Clu.loopNo Try.f13 0) 30 1000 (Clu.mkFr 30 (Clu.std [0, 3, 4] [.s n N, .sn, .i .i64 (.ofNat at_)] [7, 8, 12] os)) (Clu.mkH .e ([] ++ (Clu.layB []))) 1000 (Clu.exOf 0) (Clu.mkFr 30 (Clu.std [0, 3, 4] [(Clu.AV.s n N), (Clu.AV.so 1001 0 1 1), (Clu.AV.i IntKind.i64 (Int.ofNat ((at_ + 1) + (Clu.byteN N at_))))] [7, 8, 12] os')) (Clu.mkH .e ([(1001, .c ([] ++ [(Clu.AV.s (((at_ + 1) + (Clu.byteN N at_)) - (at_ + 1)) (Clu.maskN (((at_ + 1) + (Clu.byteN N at_)) - (at_ + 1)) (Nat.shiftRight N (8 * (at_ + 1)))))]) 0 1 (some 9))] ++ (Clu.layB []))) 1002 :=
  Clu.segMN (vs := [(Clu.AV.s n N), (Clu.AV.so 1001 0 1 1), (Clu.AV.i IntKind.i64 (Int.ofNat ((at_ + 1) + (Clu.byteN N at_))))]) (cs := [([] ++ [(Clu.AV.s (((at_ + 1) + (Clu.byteN N at_)) - (at_ + 1)) (Clu.maskN (((at_ + 1) + (Clu.byteN N at_)) - (at_ + 1)) (Nat.shiftRight N (8 * (at_ + 1)))))])]) 0 0 [0, 3, 4] [(1001, 0, 1, (some 9))] (Clu.evL_ok Clu.plain (Clu.noX_ok) (Clu.drK_ok Clu.mixed) (Clu.noL_ok) 50) (Clu.layB_bs rfl (by decide) (by decide)) hos (((((((((((((nlA_raw n N at_ os)).trans (Clu.needT_eq (Clu.blt_iff.2 n1) _ _)).trans (Clu.forkB_t (congrArg not (Clu.iEq_f (fun hh => c1 (Int.ofNat.inj hh)))) _ _)).trans (Clu.needT_eq (Clu.inR_nat (k := .i64) n2) _ _)).trans (Clu.needT_eq (Clu.blt_iff.2 n3) _ _)).trans (Clu.needT_eq (Clu.inR_nat (k := .i64) n4) _ _)).trans (Clu.needT_eq (Clu.inR_nat (k := .i64) n5) _ _)).trans (Clu.needT_eq (Clu.inR_nat (k := .i64) n6) _ _)).trans (Clu.needT_eq (Clu.ble_iff.2 n7) _ _)).trans (Clu.needT_eq (Clu.ble_iff.2 n8) _ _)).trans (Clu.needT_eq (hos _) _ _)).trans (Clu.needT_eq (hos _) _ _)) rfl rfl rfl (by simp) (by simp)
set_option maxRecDepth 10000000 in
theorem nlB_raw (n N at_ k : Nat) (cs : List Clu.AV) (os : Nat → Option Clu.AV) : Clu.evL (Clu.noL) Try.prog (Clu.noX) 50 30 1000 (Clu.loopNo Try.f13 0) (Clu.tellF [3000016, 3000024] (Clu.mkFr 30 (Clu.std [0, 3, 4] [.s n N, .so 1000 0 1 k, .i .i64 (.ofNat at_)] [7, 8, 12] os))) (Clu.mkH (Clu.mkH .e (Clu.layB [])) [(1000, .c cs 0 1 (some 9))]) 1001 (Clu.finM 30 1001 [7, 8, 12] 0 [(0, [0, 3, 4], [(1002, 0, 1, (some 9))], some 1003), (2, [3], [(1000, 0, 1, (some 9))], none)]) = Clu.needT ((Nat.blt at_ n)) (.err 22 6) (Clu.forkB ((Bool.not (Clu.iEq (Int.ofNat (Clu.byteN N at_)) (Int.ofNat 0)))) (Clu.needT ((Clu.flatB (os 7))) (.err 90 1) (Clu.needT ((Clu.flatB (os 8))) (.err 90 1) ((Clu.Out.ok (Clu.AV.tu [(Clu.AV.i IntKind.i64 (Int.ofNat 1)), (Clu.AV.so 1000 0 1 k), (Clu.AV.ag cs)]))))) (Clu.needT ((Clu.inR IntKind.i64 (Int.ofNat (at_ + 1)))) (.err 10 20) (Clu.needT ((Nat.blt at_ n)) (.err 22 6) (Clu.needT ((Clu.inR IntKind.i64 (Int.ofNat (Clu.byteN N at_)))) (.err 10 20) (Clu.needT ((Clu.inR IntKind.i64 (Int.ofNat ((at_ + 1) + (Clu.byteN N at_))))) (.err 10 20) (Clu.needT ((Clu.inR IntKind.i64 (Int.ofNat (at_ + 1)))) (.err 10 20) (Clu.needT ((Nat.ble ((at_ + 1) + (Clu.byteN N at_)) n)) (.err 20 0) (Clu.needT ((Nat.ble (at_ + 1) ((at_ + 1) + (Clu.byteN N at_)))) (.err 20 0) (Clu.forkB ((Nat.ble ((0 + (k + 1)) * 1) ((List.length cs) + 0))) (Clu.needT ((Bool.and (Nat.beq ((0 + k) * 1) ((List.length cs) + 0)) true)) (.err 31 6) (Clu.needT ((Nat.ble (((2 * (k + 1)) + 1000) * 16) 281474976710656)) (.err 31 1) (Clu.needT ((Nat.ble (k + 1) 4294967296)) (.err 31 1) (Clu.needT ((Clu.flatB (os 7))) (.err 90 1) (Clu.needT ((Clu.flatB (os 8))) (.err 90 1) ((Clu.Out.ok (Clu.AV.tu [(Clu.AV.i IntKind.i64 (Int.ofNat 0)), (Clu.AV.s n N), (Clu.AV.so 1002 0 1 (k + 1)), (Clu.AV.i IntKind.i64 (Int.ofNat ((at_ + 1) + (Clu.byteN N at_)))), (Clu.AV.ag (cs ++ [(Clu.AV.s (((at_ + 1) + (Clu.byteN N at_)) - (at_ + 1)) (Clu.maskN (((at_ + 1) + (Clu.byteN N at_)) - (at_ + 1)) (Nat.shiftRight N (8 * (at_ + 1)))))]))])))))))) (Clu.needT ((Nat.ble (((0 + k) * 1) + 1) (List.length cs))) (.err 7 0) (.err 97 1))))))))))) := by kernel_rfl
set_option linter.unusedVariables false in
theorem nlB_0 (n N at_ k : Nat) (cs : List Clu.AV) (os : Nat → Option Clu.AV) (hos : ∀ t, Clu.flatB (os t) = true) (hu : Clu.AV.flts cs = true) (n1 : at_ < n := by omega) (c1 : (Clu.byteN N at_) = 0) : ∃ os' : Nat → Option Clu.AV, (∀ t, Clu.flatB (os' t) = true) ∧ Clu.RunE Try.prog 50 (Clu.loopNo Try.f13 0) 30 1000 (Clu.mkFr 30 (Clu.std [0, 3, 4] [.s n N, .so 1000 0 1 k, .i .i64 (.ofNat at_)] [7, 8, 12] os)) (Clu.mkH .e ([(1000, .c cs 0 1 (some 9))] ++ (Clu.layB []))) 1001 (Clu.exOf 2) (Clu.mkFr 30 (Clu.std [3] [(Clu.AV.so 1000 0 1 k)] [7, 8, 12] os')) (Clu.mkH .e ([(1000, .c cs 0 1 (some 9))] ++ (Clu.layB []))) 1001 :=
  Clu.segM (vs := [(Clu.AV.so 1000 0 1 k)]) (cs := [cs]) 1 2 [3] [(1000, 0, 1, (some 9))] (Clu.evL_ok Clu.plain (Clu.noX_ok) (Clu.drK_ok Clu.mixed) (Clu.noL_ok) 50) (Clu.layB_bs rfl (by decide) (by decide)) hos ((((((nlB_raw n N at_ k cs os)).trans (Clu.needT_eq (Clu.blt_iff.2 n1) _ _)).trans (Clu.forkB_f (congrArg not (Clu.iEq_t (congrArg Int.ofNat c1))) _ _)).trans (Clu.needT_eq (hos _) _ _)).trans (Clu.needT_eq (hos _) _ _)) rfl rfl rfl (by decide) rfl (by simp [Clu.Blk.und, Clu.AV.und, Clu.AV.unds, Clu.flts_unds hu]) rfl (Clu.newH_ro rfl) (by simp [Clu.AV.und, Clu.AV.unds, Clu.AV.cells, Clu.unds_splice, Clu.flts_unds hu])
set_option linter.unusedVariables false in
theorem nlB_1 (n N at_ k : Nat) (cs : List Clu.AV) (os : Nat → Option Clu.AV) (hos : ∀ t, Clu.flatB (os t) = true) (hu : Clu.AV.flts cs = true) (n1 : at_ < n := by omega) (c1 : (Clu.byteN N at_) ≠ 0) (n2 : (at_ + 1) < 9223372036854775808 := by omega) (n3 : at_ < n := by omega) (n4 : (Clu.byteN N at_) < 9223372036854775808 := by omega) (n5 : ((at_ + 1) + (Clu.byteN N at_)) < 9223372036854775808 := by omega) (n6 : (at_ + 1) < 9223372036854775808 := by omega) (n7 : ((at_ + 1) + (Clu.byteN N at_)) ≤ n := by omega) (n8 : (at_ + 1) ≤ ((at_ + 1) + (Clu.byteN N at_)) := by omega) (c2 : ((List.length cs) + 0) < ((0 + (k + 1)) * 1)) (n9 : ((0 + k) * 1) = ((List.length cs) + 0) := by first | omega | (simp; omega)) (n10 : (((2 * (k + 1)) + 1000) * 16) ≤ 281474976710656 := by omega) (n11 : (k + 1) ≤ 4294967296 := by omega) : ∃ os' : Nat → Option Clu.AV, (∀ t, Clu.flatB (os' t) = true) ∧ Clu.RunE Try.prog 50 (Clu.loopNo Try.f13 0) 30 1000 (Clu.mkFr 30 (Clu.std [0, 3, 4] [.s n N, .so 1000 0 1 k, .i .i64 (.ofNat at_)] [7, 8, 12] os)) (Clu.mkH .e ([(1000, .c cs 0 1 (some 9))] ++ (Clu.layB []))) 1001 (Clu.exOf 0) (Clu.mkFr 30 (Clu.std [0, 3, 4] [(Clu.AV.s n N), (Clu.AV.so 1002 0 1 (k + 1)), (Clu.AV.i IntKind.i64 (Int.ofNat ((at_ + 1) + (Clu.byteN N at_))))] [7, 8, 12] os')) (Clu.mkH .e ([(1002, .c (cs ++ [(Clu.AV.s (((at_ + 1) + (Clu.byteN N at_)) - (at_ + 1)) (Clu.maskN (((at_ + 1) + (Clu.byteN N at_)) - (at_ + 1)) (Nat.shiftRight N (8 * (at_ + 1)))))]) 0 1 (some 9))] ++ (Clu.layB []))) 1003 :=
  Clu.segMN (vs := [(Clu.AV.s n N), (Clu.AV.so 1002 0 1 (k + 1)), (Clu.AV.i IntKind.i64 (Int.ofNat ((at_ + 1) + (Clu.byteN N at_))))]) (cs := [(cs ++ [(Clu.AV.s (((at_ + 1) + (Clu.byteN N at_)) - (at_ + 1)) (Clu.maskN (((at_ + 1) + (Clu.byteN N at_)) - (at_ + 1)) (Nat.shiftRight N (8 * (at_ + 1)))))])]) 0 0 [0, 3, 4] [(1002, 0, 1, (some 9))] (Clu.evL_ok Clu.plain (Clu.noX_ok) (Clu.drK_ok Clu.mixed) (Clu.noL_ok) 50) (Clu.layB_bs rfl (by decide) (by decide)) hos (((((((((((((((((nlB_raw n N at_ k cs os)).trans (Clu.needT_eq (Clu.blt_iff.2 n1) _ _)).trans (Clu.forkB_t (congrArg not (Clu.iEq_f (fun hh => c1 (Int.ofNat.inj hh)))) _ _)).trans (Clu.needT_eq (Clu.inR_nat (k := .i64) n2) _ _)).trans (Clu.needT_eq (Clu.blt_iff.2 n3) _ _)).trans (Clu.needT_eq (Clu.inR_nat (k := .i64) n4) _ _)).trans (Clu.needT_eq (Clu.inR_nat (k := .i64) n5) _ _)).trans (Clu.needT_eq (Clu.inR_nat (k := .i64) n6) _ _)).trans (Clu.needT_eq (Clu.ble_iff.2 n7) _ _)).trans (Clu.needT_eq (Clu.ble_iff.2 n8) _ _)).trans (Clu.forkB_f (Clu.ble_f c2) _ _)).trans (Clu.needT_eq ((congrArg (fun z => Bool.and z Bool.true) (Clu.beq_iff.2 n9)).trans rfl) _ _)).trans (Clu.needT_eq (Clu.ble_iff.2 n10) _ _)).trans (Clu.needT_eq (Clu.ble_iff.2 n11) _ _)).trans (Clu.needT_eq (hos _) _ _)).trans (Clu.needT_eq (hos _) _ _)) rfl rfl rfl (by simp) (by simp)
set_option maxRecDepth 10000000 in
theorem nlF_raw (my : Nat → Nat → Bool) (n N k : Nat) (emp : Bool) (cs : List Clu.AV) : (Clu.runV (Clu.addL (Clu.noL) (Clu.loopNo Try.f13 0) 5 (Clu.loopM [3000016, 3000024] Try.prog (Clu.loopNo Try.f13 0) [0, 3, 4] [7, 8, 12] [] [] (fun _ _ _ => .fork emp (.leaf (2, [3], [.so 1000 0 1 k], [(1000, .c cs 0 1 (some 9))], 1003)) (.leaf (2, [3], [.sn], [], 1003))))) Try.prog (Clu.tell (Clu.addB (Clu.noX) 17 (Clu.decH (mayH my))) 13 30000243000016) ((n + 1000)) 1000 13 [.s n N] (Clu.mkH .e (Clu.argB (Clu.rowsAt 1000 []) ++ Clu.layB [])) 1000 [[(1000, 0, 1, (some 9))], []]) = Clu.needT ((Nat.blt n 9000000000000000000)) (.err 96 1) (Clu.forkB ((Bool.not (my n N))) (Clu.needP ((Clu.loopNo Try.f13 0) = (Clu.loopNo Try.f13 0)) (fun _ => .err 91 0) (fun h598 => Clu.forkB (emp) (Clu.needP (Clu.LoopQ (Try.prog) ((Clu.loopNo Try.f13 0)) ((n + 994)) (30) (1000) ([]) (1000) (2) ([0, 3, 4]) ([(Clu.AV.s n N), Clu.AV.sn, (Clu.AV.i IntKind.i64 (Int.ofNat 0))]) ([7, 8, 12]) ([3]) ([(Clu.AV.so 1000 0 1 k)]) ([(1000, (Clu.Blk.c cs 0 1 (Option.some 9)))]) (1003)) (fun _ => .err 93 1) (fun h596 => (Clu.Out.ok (Clu.AV.tu [(Clu.AV.i IntKind.i64 (Int.ofNat 0)), (Clu.AV.so 1000 0 1 k), (Clu.AV.ag cs)])))) (Clu.needP (Clu.LoopQ (Try.prog) ((Clu.loopNo Try.f13 0)) ((n + 994)) (30) (1000) ([]) (1000) (2) ([0, 3, 4]) ([(Clu.AV.s n N), Clu.AV.sn, (Clu.AV.i IntKind.i64 (Int.ofNat 0))]) ([7, 8, 12]) ([3]) ([Clu.AV.sn]) ([]) (1003)) (fun _ => .err 93 1) (fun h596 => (Clu.Out.ok (Clu.AV.tu [(Clu.AV.i IntKind.i64 (Int.ofNat 1)), Clu.AV.sn])))))) ((Clu.Out.ok (Clu.AV.tu [(Clu.AV.i IntKind.i64 (Int.ofNat 1)), Clu.AV.sn])))) := by kernel_rfl
set_option linter.unusedVariables false in
theorem nlF_0 (my : Nat → Nat → Bool) (n N k : Nat) (emp : Bool) (cs : List Clu.AV) (hX : Clu.XOK Try.prog (Clu.addB (Clu.noX) 17 (Clu.decH (mayH my)))) (hu : Clu.AV.flts cs = true) (n1 : n < 9000000000000000000 := by omega) (c1 : (my n N) = true) (c2 : emp = false) (q1 : Clu.LoopQ (Try.prog) ((Clu.loopNo Try.f13 0)) ((n + 994)) (30) (1000) ([]) (1000) (2) ([0, 3, 4]) ([(Clu.AV.s n N), Clu.AV.sn, (Clu.AV.i IntKind.i64 (Int.ofNat 0))]) ([7, 8, 12]) ([3]) ([(Clu.AV.so 1000 0 1 k)]) ([(1000, (Clu.Blk.c cs 0 1 (Option.some 9)))]) (1003)) : Clu.RowOK Try.prog 13 [] [.s n N] [] (Clu.AV.so 1000 0 1 k) [(cs, 1, (some 9))] :=
  ⟨by simp, (by simp [hu]), (fun x h => by cases h), Clu.con_new (v := (Clu.AV.so 1000 0 1 k)) (cs := [cs]) (alts := [[(1000, 0, 1, (some 9))], []]) (gl := Clu.argB (Clu.rowsAt 1000 []) ++ Clu.layB []) Clu.plain (Clu.tell_ok (hX)) (Clu.drK_ok Clu.mixed) (Clu.addL_ok (Clu.noL_ok) Clu.loopM_ok) 0 [(1000, 0, 1, (some 9))] (Clu.AV.so 1000 0 1 k) (((((((nlF_raw my n N k emp cs)).trans (Clu.needT_eq (Clu.blt_iff.2 n1) _ _)).trans (Clu.forkB_f (congrArg not (c1)) _ _)).trans (Clu.needP_eq rfl _ _)).trans (Clu.forkB_f (c2) _ _)).trans (Clu.needP_eq q1 _ _)) rfl (Clu.argB_bs rfl (by simp [Clu.rowsAt]) (by first | decide | simp) (by first | decide | simp)) (by first | decide | simp) rfl rfl rfl (fun x h => by cases h) (by simp [hu]) rfl (by decide) (by simp)⟩
set_option linter.unusedVariables false in
theorem nlF_1 (my : Nat → Nat → Bool) (n N k : Nat) (emp : Bool) (cs : List Clu.AV) (hX : Clu.XOK Try.prog (Clu.addB (Clu.noX) 17 (Clu.decH (mayH my)))) (hu : Clu.AV.flts cs = true) (n1 : n < 9000000000000000000 := by omega) (c1 : (my n N) = true) (c2 : emp = true) (q1 : Clu.LoopQ (Try.prog) ((Clu.loopNo Try.f13 0)) ((n + 994)) (30) (1000) ([]) (1000) (2) ([0, 3, 4]) ([(Clu.AV.s n N), Clu.AV.sn, (Clu.AV.i IntKind.i64 (Int.ofNat 0))]) ([7, 8, 12]) ([3]) ([Clu.AV.sn]) ([]) (1003)) : Clu.RowOK Try.prog 13 [] [.s n N] [] Clu.AV.sn [] :=
  ⟨by simp, (by simp [hu]), (fun x h => by cases h), Clu.con_new (v := Clu.AV.sn) (cs := []) (alts := [[(1000, 0, 1, (some 9))], []]) (gl := Clu.argB (Clu.rowsAt 1000 []) ++ Clu.layB []) Clu.plain (Clu.tell_ok (hX)) (Clu.drK_ok Clu.mixed) (Clu.addL_ok (Clu.noL_ok) Clu.loopM_ok) 1 [] Clu.AV.sn (((((((nlF_raw my n N k emp cs)).trans (Clu.needT_eq (Clu.blt_iff.2 n1) _ _)).trans (Clu.forkB_f (congrArg not (c1)) _ _)).trans (Clu.needP_eq rfl _ _)).trans (Clu.forkB_t (c2) _ _)).trans (Clu.needP_eq q1 _ _)) rfl (Clu.argB_bs rfl (by simp [Clu.rowsAt]) (by first | decide | simp) (by first | decide | simp)) (by first | decide | simp) rfl rfl rfl (fun x h => by cases h) (by simp [hu]) rfl (by decide) (by simp)⟩
set_option linter.unusedVariables false in
theorem nlF_2 (my : Nat → Nat → Bool) (n N k : Nat) (emp : Bool) (cs : List Clu.AV) (hX : Clu.XOK Try.prog (Clu.addB (Clu.noX) 17 (Clu.decH (mayH my)))) (hu : Clu.AV.flts cs = true) (n1 : n < 9000000000000000000 := by omega) (c1 : (my n N) = false) : Clu.RowOK Try.prog 13 [] [.s n N] [] Clu.AV.sn [] :=
  ⟨by simp, (by simp [hu]), (fun x h => by cases h), Clu.con_new (v := Clu.AV.sn) (cs := []) (alts := [[(1000, 0, 1, (some 9))], []]) (gl := Clu.argB (Clu.rowsAt 1000 []) ++ Clu.layB []) Clu.plain (Clu.tell_ok (hX)) (Clu.drK_ok Clu.mixed) (Clu.addL_ok (Clu.noL_ok) Clu.loopM_ok) 1 [] Clu.AV.sn ((((nlF_raw my n N k emp cs)).trans (Clu.needT_eq (Clu.blt_iff.2 n1) _ _)).trans (Clu.forkB_t (congrArg not (c1)) _ _)) rfl (Clu.argB_bs rfl (by simp [Clu.rowsAt]) (by first | decide | simp) (by first | decide | simp)) (by first | decide | simp) rfl rfl rfl (fun x h => by cases h) (by simp [hu]) rfl (by decide) (by simp)⟩
set_option maxRecDepth 10000000 in
theorem npF_raw (my : Nat → Nat → Bool) (n N : Nat) : (Clu.layK [] .e fun h => Clu.runL (Clu.noL) Try.prog (Clu.tell (Clu.addB (Clu.noX) 17 (Clu.decH (mayH my))) 15 30000203000014) (1000) 1000 15 [.s n N] h 1000) = Clu.needT ((Nat.blt n 9000000000000000000)) (.err 96 1) (Clu.forkB ((Bool.not (my n N))) (Clu.forkB ((Clu.eqNs n N 1 0)) (Clu.needT ((Nat.blt 0 n)) (.err 22 6) (Clu.needT ((Clu.inR IntKind.i64 (Int.ofNat (Clu.byteN N 0)))) (.err 10 20) (Clu.needT ((Clu.inR IntKind.i64 (Int.ofNat (1 + (Clu.byteN N 0))))) (.err 10 20) (Clu.needT ((Nat.ble (1 + (Clu.byteN N 0)) n)) (.err 20 0) ((Clu.Out.ok (Clu.AV.tu [(Clu.AV.s (n - (1 + (Clu.byteN N 0))) (Clu.maskN (n - (1 + (Clu.byteN N 0))) (Nat.shiftRight N (8 * (1 + (Clu.byteN N 0)))))), (Clu.AV.b true)]))))))) ((Clu.Out.ok (Clu.AV.tu [(Clu.AV.s 0 0), (Clu.AV.b false)])))) ((Clu.Out.ok (Clu.AV.tu [(Clu.AV.s 0 0), (Clu.AV.b false)])))) := by kernel_rfl
set_option linter.unusedVariables false in
theorem npF_0 (my : Nat → Nat → Bool) (n N : Nat) (hX : Clu.XOK Try.prog (Clu.addB (Clu.noX) 17 (Clu.decH (mayH my))))  (n1 : n < 9000000000000000000 := by omega) (c1 : (my n N) = true) (c2 : (Clu.eqNs n N 1 0) = false) (n2 : 0 < n := by omega) (n3 : (Clu.byteN N 0) < 9223372036854775808 := by omega) (n4 : (1 + (Clu.byteN N 0)) < 9223372036854775808 := by omega) (n5 : (1 + (Clu.byteN N 0)) ≤ n := by omega) : Clu.Fact Try.prog 15 [] [.s n N] (Clu.AV.tu [(Clu.AV.s (n - (1 + (Clu.byteN N 0))) (Clu.maskN (n - (1 + (Clu.byteN N 0))) (Nat.shiftRight N (8 * (1 + (Clu.byteN N 0)))))), (Clu.AV.b true)]) :=
  Clu.factL Clu.plain (Clu.tell_ok (hX)) Clu.mixed (Clu.noL_ok) (((((((((npF_raw my n N)).trans (Clu.needT_eq (Clu.blt_iff.2 n1) _ _)).trans (Clu.forkB_f (congrArg not (c1)) _ _)).trans (Clu.forkB_f (c2) _ _)).trans (Clu.needT_eq (Clu.blt_iff.2 n2) _ _)).trans (Clu.needT_eq (Clu.inR_nat (k := .i64) n3) _ _)).trans (Clu.needT_eq (Clu.inR_nat (k := .i64) n4) _ _)).trans (Clu.needT_eq (Clu.ble_iff.2 n5) _ _)) rfl (rfl)
set_option linter.unusedVariables false in
theorem npF_1 (my : Nat → Nat → Bool) (n N : Nat) (hX : Clu.XOK Try.prog (Clu.addB (Clu.noX) 17 (Clu.decH (mayH my))))  (n1 : n < 9000000000000000000 := by omega) (c1 : (my n N) = true) (c2 : (Clu.eqNs n N 1 0) = true) : Clu.Fact Try.prog 15 [] [.s n N] (Clu.AV.tu [(Clu.AV.s 0 0), (Clu.AV.b false)]) :=
  Clu.factL Clu.plain (Clu.tell_ok (hX)) Clu.mixed (Clu.noL_ok) (((((npF_raw my n N)).trans (Clu.needT_eq (Clu.blt_iff.2 n1) _ _)).trans (Clu.forkB_f (congrArg not (c1)) _ _)).trans (Clu.forkB_t (c2) _ _)) rfl (rfl)
set_option linter.unusedVariables false in
theorem npF_2 (my : Nat → Nat → Bool) (n N : Nat) (hX : Clu.XOK Try.prog (Clu.addB (Clu.noX) 17 (Clu.decH (mayH my))))  (n1 : n < 9000000000000000000 := by omega) (c1 : (my n N) = false) : Clu.Fact Try.prog 15 [] [.s n N] (Clu.AV.tu [(Clu.AV.s 0 0), (Clu.AV.b false)]) :=
  Clu.factL Clu.plain (Clu.tell_ok (hX)) Clu.mixed (Clu.noL_ok) ((((npF_raw my n N)).trans (Clu.needT_eq (Clu.blt_iff.2 n1) _ _)).trans (Clu.forkB_t (congrArg not (c1)) _ _)) rfl (rfl)
set_option maxRecDepth 10000000 in
theorem txS_raw (d k e i : Nat) (cs ds : List Clu.AV) (os : Nat → Option Clu.AV) : Clu.evL (Clu.noL) Try.prog (Clu.noX) 50 26 1002 (Clu.loopNo Try.f14 0) (Clu.tellF [3000020, 3000028, 3000050] (Clu.mkFr 26 (Clu.std [0, 1, 5] [.so 1000 d 1 k, .so 1001 e 1 k, .i .i64 (.ofNat i)] [4, 10, 14, 25] os))) (Clu.mkH (Clu.mkH .e (Clu.argB (Clu.rowsAt 1000 [cs, ds]) ++ Clu.layB [])) []) 1002 (Clu.finM 26 1002 [4, 10, 14, 25] 0 [(0, [0, 1, 5], [], none), (1, [4], [], none), (2, [], [], none)]) = Clu.forkB ((Clu.iLt (Int.ofNat i) (Int.ofNat k))) (Clu.needT ((Clu.flatB (os 4))) (.err 90 1) (Clu.needT ((Clu.flatB (os 10))) (.err 90 1) (Clu.needT ((Clu.flatB (os 25))) (.err 90 1) ((Clu.Out.ok (Clu.AV.tu [(Clu.AV.i IntKind.i64 (Int.ofNat 2))])))))) (Clu.needT ((Nat.blt i k)) (.err 22 0) (Clu.needT ((Clu.isS (Clu.getL cs ((d * 1) + (i * 1))))) (.err 8 2) (Clu.needT ((Nat.blt i k)) (.err 22 0) (Clu.needT ((Clu.isS (Clu.getL ds ((e * 1) + (i * 1))))) (.err 8 2) (Clu.forkB ((Bool.not (Clu.eqNs (Clu.sN (Clu.getL cs ((d * 1) + (i * 1)))) (Clu.sNN (Clu.getL cs ((d * 1) + (i * 1)))) (Clu.sN (Clu.getL ds ((e * 1) + (i * 1)))) (Clu.sNN (Clu.getL ds ((e * 1) + (i * 1))))))) (Clu.needT ((Clu.inR IntKind.i64 (Int.ofNat (i + 1)))) (.err 10 20) (Clu.needT ((Clu.flatB (os 4))) (.err 90 1) (Clu.needT ((Clu.flatB (os 10))) (.err 90 1) ((Clu.Out.ok (Clu.AV.tu [(Clu.AV.i IntKind.i64 (Int.ofNat 0)), (Clu.AV.so 1000 d 1 k), (Clu.AV.so 1001 e 1 k), (Clu.AV.i IntKind.i64 (Int.ofNat (i + 1)))])))))) (Clu.needT ((Clu.flatB (os 10))) (.err 90 1) ((Clu.Out.ok (Clu.AV.tu [(Clu.AV.i IntKind.i64 (Int.ofNat 1)), (Clu.AV.b false)]))))))))) := by kernel_rfl
set_option linter.unusedVariables false in
theorem txS_0 (d k e i : Nat) (cs ds : List Clu.AV) (os : Nat → Option Clu.AV) (hos : ∀ t, Clu.flatB (os t) = true) (hu : Clu.AV.flts cs = true) (hv : Clu.AV.flts ds = true) (c1 : k ≤ i) : ∃ os' : Nat → Option Clu.AV, (∀ t, Clu.flatB (os' t) = true) ∧ Clu.RunE Try.prog 50 (Clu.loopNo Try.f14 0) 26 1002 (Clu.mkFr 26 (Clu.std [0, 1, 5] [.so 1000 d 1 k, .so 1001 e 1 k, .i .i64 (.ofNat i)] [4, 10, 14, 25] os)) (Clu.mkH .e ([] ++ (Clu.argB (Clu.rowsAt 1000 [cs, ds]) ++ Clu.layB []))) 1002 (Clu.exOf 2) (Clu.mkFr 26 (Clu.std [] [] [4, 10, 14, 25] os')) (Clu.mkH .e ([] ++ (Clu.argB (Clu.rowsAt 1000 [cs, ds]) ++ Clu.layB []))) 1002 :=
  Clu.segM (vs := []) (cs := []) 2 2 [] [] (Clu.evL_ok Clu.plain (Clu.noX_ok) (Clu.drK_ok Clu.mixed) (Clu.noL_ok) 50) (Clu.argB_bs rfl (by simp [Clu.rowsAt, hu, hv]) (by decide) (by decide)) hos ((((((txS_raw d k e i cs ds os)).trans (Clu.forkB_f (Clu.iLt_f (Int.ofNat_le.2 c1)) _ _)).trans (Clu.needT_eq (hos _) _ _)).trans (Clu.needT_eq (hos _) _ _)).trans (Clu.needT_eq (hos _) _ _)) rfl rfl rfl (by decide) rfl (by simp [Clu.Blk.und, Clu.AV.und, Clu.AV.unds]) rfl (Clu.newH_ro rfl) (by simp [Clu.AV.und, Clu.AV.unds, Clu.AV.cells, Clu.unds_splice])
set_option linter.unusedVariables false in
theorem txS_1 (d k e i : Nat) (cs ds : List Clu.AV) (os : Nat → Option Clu.AV) (hos : ∀ t, Clu.flatB (os t) = true) (hu : Clu.AV.flts cs = true) (hv : Clu.AV.flts ds = true) (c1 : i < k) (n1 : i < k := by omega) (n2 : (Clu.isS (Clu.getL cs ((d * 1) + (i * 1)))) = true) (n3 : i < k := by omega) (n4 : (Clu.isS (Clu.getL ds ((e * 1) + (i * 1)))) = true) (c2 : (Clu.eqNs (Clu.sN (Clu.getL cs ((d * 1) + (i * 1)))) (Clu.sNN (Clu.getL cs ((d * 1) + (i * 1)))) (Clu.sN (Clu.getL ds ((e * 1) + (i * 1)))) (Clu.sNN (Clu.getL ds ((e * 1) + (i * 1))))) = true) (n5 : (i + 1) < 9223372036854775808 := by omega) : ∃ os' : Nat → Option Clu.AV, (∀ t, Clu.flatB (os' t) = true) ∧ Clu.RunE Try.prog 50 (Clu.loopNo Try.f14 0) 26 1002 (Clu.mkFr 26 (Clu.std [0, 1, 5] [.so 1000 d 1 k, .so 1001 e 1 k, .i .i64 (.ofNat i)] [4, 10, 14, 25] os)) (Clu.mkH .e ([] ++ (Clu.argB (Clu.rowsAt 1000 [cs, ds]) ++ Clu.layB []))) 1002 (Clu.exOf 0) (Clu.mkFr 26 (Clu.std [0, 1, 5] [(Clu.AV.so 1000 d 1 k), (Clu.AV.so 1001 e 1 k), (Clu.AV.i IntKind.i64 (Int.ofNat (i + 1)))] [4, 10, 14, 25] os')) (Clu.mkH .e ([] ++ (Clu.argB (Clu.rowsAt 1000 [cs, ds]) ++ Clu.layB []))) 1002 :=
  Clu.segM (vs := [(Clu.AV.so 1000 d 1 k), (Clu.AV.so 1001 e 1 k), (Clu.AV.i IntKind.i64 (Int.ofNat (i + 1)))]) (cs := []) 0 0 [0, 1, 5] [] (Clu.evL_ok Clu.plain (Clu.noX_ok) (Clu.drK_ok Clu.mixed) (Clu.noL_ok) 50) (Clu.argB_bs rfl (by simp [Clu.rowsAt, hu, hv]) (by decide) (by decide)) hos (((((((((((txS_raw d k e i cs ds os)).trans (Clu.forkB_t (Clu.iLt_t (Int.ofNat_lt.2 c1)) _ _)).trans (Clu.needT_eq (Clu.blt_iff.2 n1) _ _)).trans (Clu.needT_eq (n2) _ _)).trans (Clu.needT_eq (Clu.blt_iff.2 n3) _ _)).trans (Clu.needT_eq (n4) _ _)).trans (Clu.forkB_f (congrArg not (c2)) _ _)).trans (Clu.needT_eq (Clu.inR_nat (k := .i64) n5) _ _)).trans (Clu.needT_eq (hos _) _ _)).trans (Clu.needT_eq (hos _) _ _)) rfl rfl rfl (by decide) rfl (by simp [Clu.Blk.und, Clu.AV.und, Clu.AV.unds]) rfl (Clu.newH_ro rfl) (by simp [Clu.AV.und, Clu.AV.unds, Clu.AV.cells, Clu.unds_splice])
set_option linter.unusedVariables false in
theorem txS_2 (d k e i : Nat) (cs ds : List Clu.AV) (os : Nat → Option Clu.AV) (hos : ∀ t, Clu.flatB (os t) = true) (hu : Clu.AV.flts cs = true) (hv : Clu.AV.flts ds = true) (c1 : i < k) (n1 : i < k := by omega) (n2 : (Clu.isS (Clu.getL cs ((d * 1) + (i * 1)))) = true) (n3 : i < k := by omega) (n4 : (Clu.isS (Clu.getL ds ((e * 1) + (i * 1)))) = true) (c2 : (Clu.eqNs (Clu.sN (Clu.getL cs ((d * 1) + (i * 1)))) (Clu.sNN (Clu.getL cs ((d * 1) + (i * 1)))) (Clu.sN (Clu.getL ds ((e * 1) + (i * 1)))) (Clu.sNN (Clu.getL ds ((e * 1) + (i * 1))))) = false) : ∃ os' : Nat → Option Clu.AV, (∀ t, Clu.flatB (os' t) = true) ∧ Clu.RunE Try.prog 50 (Clu.loopNo Try.f14 0) 26 1002 (Clu.mkFr 26 (Clu.std [0, 1, 5] [.so 1000 d 1 k, .so 1001 e 1 k, .i .i64 (.ofNat i)] [4, 10, 14, 25] os)) (Clu.mkH .e ([] ++ (Clu.argB (Clu.rowsAt 1000 [cs, ds]) ++ Clu.layB []))) 1002 (Clu.exOf 1) (Clu.mkFr 26 (Clu.std [4] [(Clu.AV.b false)] [4, 10, 14, 25] os')) (Clu.mkH .e ([] ++ (Clu.argB (Clu.rowsAt 1000 [cs, ds]) ++ Clu.layB []))) 1002 :=
  Clu.segM (vs := [(Clu.AV.b false)]) (cs := []) 1 1 [4] [] (Clu.evL_ok Clu.plain (Clu.noX_ok) (Clu.drK_ok Clu.mixed) (Clu.noL_ok) 50) (Clu.argB_bs rfl (by simp [Clu.rowsAt, hu, hv]) (by decide) (by decide)) hos (((((((((txS_raw d k e i cs ds os)).trans (Clu.forkB_t (Clu.iLt_t (Int.ofNat_lt.2 c1)) _ _)).trans (Clu.needT_eq (Clu.blt_iff.2 n1) _ _)).trans (Clu.needT_eq (n2) _ _)).trans (Clu.needT_eq (Clu.blt_iff.2 n3) _ _)).trans (Clu.needT_eq (n4) _ _)).trans (Clu.forkB_t (congrArg not (c2)) _ _)).trans (Clu.needT_eq (hos _) _ _)) rfl rfl rfl (by decide) rfl (by simp [Clu.Blk.und, Clu.AV.und, Clu.AV.unds]) rfl (Clu.newH_ro rfl) (by simp [Clu.AV.und, Clu.AV.unds, Clu.AV.cells, Clu.unds_splice])
set_option maxRecDepth 10000000 in
theorem txF_raw (d k e m : Nat) (eq : Bool) (cs ds : List Clu.AV) : (Clu.runV (Clu.addL (Clu.noL) (Clu.loopNo Try.f14 0) 4 (Clu.loopM [3000020, 3000028, 3000050] Try.prog (Clu.loopNo Try.f14 0) [0, 1, 5] [4, 10, 14, 25] [1000, 1001] [] (fun _ _ _ => .fork eq (.leaf (1, [4], [.b false], [], 1002)) (.leaf (2, [], [], [], 1002))))) Try.prog (Clu.tell (Clu.noX) 14 300005030000283000020) ((k + 1000)) 1002 14 [.so 1000 d 1 k, .so 1001 e 1 m] (Clu.mkH .e (Clu.argB (Clu.rowsAt 1000 [cs, ds]) ++ Clu.layB [])) 1002 [[]]) = Clu.forkB ((Bool.not (Clu.iEq (Int.ofNat k) (Int.ofNat m)))) (Clu.needP ((Clu.loopNo Try.f14 0) = (Clu.loopNo Try.f14 0)) (fun _ => .err 91 0) (fun h599 => Clu.forkB (eq) (Clu.needP (Clu.LoopQ (Try.prog) ((Clu.loopNo Try.f14 0)) ((k + 995)) (26) (1002) (([] ++ [(1000, (Clu.Blk.c cs 1000000000000000000000 0 Option.none)), (1001, (Clu.Blk.c ds 1000000000000000000000 0 Option.none))])) (1002) (1) ([0, 1, 5]) ([(Clu.AV.so 1000 d 1 k), (Clu.AV.so 1001 e 1 m), (Clu.AV.i IntKind.i64 (Int.ofNat 0))]) ([4, 10, 14, 25]) ([4]) ([(Clu.AV.b false)]) (([] ++ [(1000, (Clu.Blk.c cs 1000000000000000000000 0 Option.none)), (1001, (Clu.Blk.c ds 1000000000000000000000 0 Option.none))])) (1002)) (fun _ => .err 93 1) (fun h597 => (Clu.Out.ok (Clu.AV.tu [(Clu.AV.i IntKind.i64 (Int.ofNat 0)), (Clu.AV.b false)])))) (Clu.needP (Clu.LoopQ (Try.prog) ((Clu.loopNo Try.f14 0)) ((k + 995)) (26) (1002) (([] ++ [(1000, (Clu.Blk.c cs 1000000000000000000000 0 Option.none)), (1001, (Clu.Blk.c ds 1000000000000000000000 0 Option.none))])) (1002) (2) ([0, 1, 5]) ([(Clu.AV.so 1000 d 1 k), (Clu.AV.so 1001 e 1 m), (Clu.AV.i IntKind.i64 (Int.ofNat 0))]) ([4, 10, 14, 25]) ([]) ([]) (([] ++ [(1000, (Clu.Blk.c cs 1000000000000000000000 0 Option.none)), (1001, (Clu.Blk.c ds 1000000000000000000000 0 Option.none))])) (1002)) (fun _ => .err 93 1) (fun h597 => (Clu.Out.ok (Clu.AV.tu [(Clu.AV.i IntKind.i64 (Int.ofNat 0)), (Clu.AV.b true)])))))) ((Clu.Out.ok (Clu.AV.tu [(Clu.AV.i IntKind.i64 (Int.ofNat 0)), (Clu.AV.b false)]))) := by kernel_rfl
set_option linter.unusedVariables false in
theorem txF_0 (d k e m : Nat) (eq : Bool) (cs ds : List Clu.AV) (hu : Clu.AV.flts cs = true) (hv : Clu.AV.flts ds = true) (c1 : k = m) (c2 : eq = false) (q1 : Clu.LoopQ (Try.prog) ((Clu.loopNo Try.f14 0)) ((k + 995)) (26) (1002) (([] ++ [(1000, (Clu.Blk.c cs 1000000000000000000000 0 Option.none)), (1001, (Clu.Blk.c ds 1000000000000000000000 0 Option.none))])) (1002) (1) ([0, 1, 5]) ([(Clu.AV.so 1000 d 1 k), (Clu.AV.so 1001 e 1 m), (Clu.AV.i IntKind.i64 (Int.ofNat 0))]) ([4, 10, 14, 25]) ([4]) ([(Clu.AV.b false)]) (([] ++ [(1000, (Clu.Blk.c cs 1000000000000000000000 0 Option.none)), (1001, (Clu.Blk.c ds 1000000000000000000000 0 Option.none))])) (1002)) : Clu.RowOK Try.prog 14 [] [.so 1000 d 1 k, .so 1001 e 1 m] [cs, ds] (Clu.AV.b false) [] :=
  ⟨by simp [hu, hv], (by simp [Clu.AV.flts, Clu.AV.flt]), (fun x h => by cases h), Clu.con_new (v := (Clu.AV.b false)) (cs := []) (alts := [[]]) (gl := Clu.argB (Clu.rowsAt 1000 [cs, ds]) ++ Clu.layB []) Clu.plain (Clu.tell_ok (Clu.noX_ok)) (Clu.drK_ok Clu.mixed) (Clu.addL_ok (Clu.noL_ok) Clu.loopM_ok) 0 [] (Clu.AV.b false) ((((((txF_raw d k e m eq cs ds)).trans (Clu.forkB_f (congrArg not (Clu.iEq_t (congrArg Int.ofNat c1))) _ _)).trans (Clu.needP_eq rfl _ _)).trans (Clu.forkB_f (c2) _ _)).trans (Clu.needP_eq q1 _ _)) rfl (Clu.argB_bs rfl (by simp [Clu.rowsAt, hu, hv]) (by first | decide | simp) (by first | decide | simp)) (by first | decide | simp) rfl rfl rfl (fun x h => by cases h) (by simp [Clu.AV.flts, Clu.AV.flt]) rfl (by decide) (by simp)⟩
set_option linter.unusedVariables false in
theorem txF_1 (d k e m : Nat) (eq : Bool) (cs ds : List Clu.AV) (hu : Clu.AV.flts cs = true) (hv : Clu.AV.flts ds = true) (c1 : k = m) (c2 : eq = true) (q1 : Clu.LoopQ (Try.prog) ((Clu.loopNo Try.f14 0)) ((k + 995)) (26) (1002) (([] ++ [(1000, (Clu.Blk.c cs 1000000000000000000000 0 Option.none)), (1001, (Clu.Blk.c ds 1000000000000000000000 0 Option.none))])) (1002) (2) ([0, 1, 5]) ([(Clu.AV.so 1000 d 1 k), (Clu.AV.so 1001 e 1 m), (Clu.AV.i IntKind.i64 (Int.ofNat 0))]) ([4, 10, 14, 25]) ([]) ([]) (([] ++ [(1000, (Clu.Blk.c cs 1000000000000000000000 0 Option.none)), (1001, (Clu.Blk.c ds 1000000000000000000000 0 Option.none))])) (1002)) : Clu.RowOK Try.prog 14 [] [.so 1000 d 1 k, .so 1001 e 1 m] [cs, ds] (Clu.AV.b true) [] :=
  ⟨by simp [hu, hv], (by simp [Clu.AV.flts, Clu.AV.flt]), (fun x h => by cases h), Clu.con_new (v := (Clu.AV.b true)) (cs := []) (alts := [[]]) (gl := Clu.argB (Clu.rowsAt 1000 [cs, ds]) ++ Clu.layB []) Clu.plain (Clu.tell_ok (Clu.noX_ok)) (Clu.drK_ok Clu.mixed) (Clu.addL_ok (Clu.noL_ok) Clu.loopM_ok) 0 [] (Clu.AV.b true) ((((((txF_raw d k e m eq cs ds)).trans (Clu.forkB_f (congrArg not (Clu.iEq_t (congrArg Int.ofNat c1))) _ _)).trans (Clu.needP_eq rfl _ _)).trans (Clu.forkB_t (c2) _ _)).trans (Clu.needP_eq q1 _ _)) rfl (Clu.argB_bs rfl (by simp [Clu.rowsAt, hu, hv]) (by first | decide | simp) (by first | decide | simp)) (by first | decide | simp) rfl rfl rfl (fun x h => by cases h) (by simp [Clu.AV.flts, Clu.AV.flt]) rfl (by decide) (by simp)⟩
set_option linter.unusedVariables false in
theorem txF_2 (d k e m : Nat) (eq : Bool) (cs ds : List Clu.AV) (hu : Clu.AV.flts cs = true) (hv : Clu.AV.flts ds = true) (c1 : k ≠ m) : Clu.RowOK Try.prog 14 [] [.so 1000 d 1 k, .so 1001 e 1 m] [cs, ds] (Clu.AV.b false) [] :=
  ⟨by simp [hu, hv], (by simp [Clu.AV.flts, Clu.AV.flt]), (fun x h => by cases h), Clu.con_new (v := (Clu.AV.b false)) (cs := []) (alts := [[]]) (gl := Clu.argB (Clu.rowsAt 1000 [cs, ds]) ++ Clu.layB []) Clu.plain (Clu.tell_ok (Clu.noX_ok)) (Clu.drK_ok Clu.mixed) (Clu.addL_ok (Clu.noL_ok) Clu.loopM_ok) 0 [] (Clu.AV.b false) (((txF_raw d k e m eq cs ds)).trans (Clu.forkB_t (congrArg not (Clu.iEq_f (fun hh => c1 (Int.ofNat.inj hh)))) _ _)) rfl (Clu.argB_bs rfl (by simp [Clu.rowsAt, hu, hv]) (by first | decide | simp) (by first | decide | simp)) (by first | decide | simp) rfl rfl rfl (fun x h => by cases h) (by simp [Clu.AV.flts, Clu.AV.flt]) rfl (by decide) (by simp)⟩
set_option maxRecDepth 10000000 in
theorem tx1_raw (d k : Nat) (cs : List Clu.AV) : (Clu.runV (Clu.noL) Try.prog (Clu.tell (Clu.noX) 14 300005030000283000020) (1000) 1001 14 [.so 1000 d 1 k, .sn] (Clu.mkH .e (Clu.argB (Clu.rowsAt 1000 [cs]) ++ Clu.layB [])) 1001 [[]]) = Clu.forkB ((Bool.not (Clu.iEq (Int.ofNat k) (Int.ofNat 0)))) (Clu.forkB ((Clu.iLt (Int.ofNat 0) (Int.ofNat k))) ((Clu.Out.ok (Clu.AV.tu [(Clu.AV.i IntKind.i64 (Int.ofNat 0)), (Clu.AV.b true)]))) (Clu.needT ((Nat.blt 0 k)) (.err 22 0) (Clu.needT ((Clu.isS (Clu.getL cs ((d * 1) + 0)))) (.err 8 2) (.err 22 3)))) ((Clu.Out.ok (Clu.AV.tu [(Clu.AV.i IntKind.i64 (Int.ofNat 0)), (Clu.AV.b false)]))) := by kernel_rfl
set_option linter.unusedVariables false in
theorem tx1_1 (d k : Nat) (cs : List Clu.AV) (hu : Clu.AV.flts cs = true) (c1 : k ≠ 0) : Clu.RowOK Try.prog 14 [] [.so 1000 d 1 k, .sn] [cs] (Clu.AV.b false) [] :=
  ⟨by simp [hu], (by simp [Clu.AV.flts, Clu.AV.flt]), (fun x h => by cases h), Clu.con_new (v := (Clu.AV.b false)) (cs := []) (alts := [[]]) (gl := Clu.argB (Clu.rowsAt 1000 [cs]) ++ Clu.layB []) Clu.plain (Clu.tell_ok (Clu.noX_ok)) (Clu.drK_ok Clu.mixed) (Clu.noL_ok) 0 [] (Clu.AV.b false) (((tx1_raw d k cs)).trans (Clu.forkB_t (congrArg not (Clu.iEq_f (fun hh => c1 (Int.ofNat.inj hh)))) _ _)) rfl (Clu.argB_bs rfl (by simp [Clu.rowsAt, hu]) (by first | decide | simp) (by first | decide | simp)) (by first | decide | simp) rfl rfl rfl (fun x h => by cases h) (by simp [Clu.AV.flts, Clu.AV.flt]) rfl (by decide) (by simp)⟩
set_option maxRecDepth 10000000 in
theorem tx2_raw (d k : Nat) (cs : List Clu.AV) : (Clu.runV (Clu.noL) Try.prog (Clu.tell (Clu.noX) 14 300005030000283000020) (1000) 1001 14 [.sn, .so 1000 d 1 k] (Clu.mkH .e (Clu.argB (Clu.rowsAt 1000 [cs]) ++ Clu.layB [])) 1001 [[]]) = Clu.forkB ((Bool.not (Clu.iEq (Int.ofNat 0) (Int.ofNat k)))) ((Clu.Out.ok (Clu.AV.tu [(Clu.AV.i IntKind.i64 (Int.ofNat 0)), (Clu.AV.b true)]))) ((Clu.Out.ok (Clu.AV.tu [(Clu.AV.i IntKind.i64 (Int.ofNat 0)), (Clu.AV.b false)]))) := by kernel_rfl
set_option linter.unusedVariables false in
theorem tx2_1 (d k : Nat) (cs : List Clu.AV) (hu : Clu.AV.flts cs = true) (c1 : 0 ≠ k) : Clu.RowOK Try.prog 14 [] [.sn, .so 1000 d 1 k] [cs] (Clu.AV.b false) [] :=
  ⟨by simp [hu], (by simp [Clu.AV.flts, Clu.AV.flt]), (fun x h => by cases h), Clu.con_new (v := (Clu.AV.b false)) (cs := []) (alts := [[]]) (gl := Clu.argB (Clu.rowsAt 1000 [cs]) ++ Clu.layB []) Clu.plain (Clu.tell_ok (Clu.noX_ok)) (Clu.drK_ok Clu.mixed) (Clu.noL_ok) 0 [] (Clu.AV.b false) (((tx2_raw d k cs)).trans (Clu.forkB_t (congrArg not (Clu.iEq_f (fun hh => c1 (Int.ofNat.inj hh)))) _ _)) rfl (Clu.argB_bs rfl (by simp [Clu.rowsAt, hu]) (by first | decide | simp) (by first | decide | simp)) (by first | decide | simp) rfl rfl rfl (fun x h => by cases h) (by simp [Clu.AV.flts, Clu.AV.flt]) rfl (by decide) (by simp)⟩
set_option maxRecDepth 10000000 in
theorem txa_raw (i : Nat) (os : Nat → Option Clu.AV) : Clu.evL (Clu.noL) Try.prog (Clu.noX) 50 26 1000 (Clu.loopNo Try.f14 0) (Clu.tellF [3000020, 3000028, 3000050] (Clu.mkFr 26 (Clu.std [0, 1, 5] [.sn, .sn, .i .i64 (.ofNat i)] [4, 10, 14, 25] os))) (Clu.mkH (Clu.mkH .e (Clu.layB [])) []) 1000 (Clu.finM 26 1000 [4, 10, 14, 25] 0 [(0, [0, 1, 5], [], none), (1, [4], [], none), (2, [], [], none)]) = Clu.needT ((Clu.flatB (os 4))) (.err 90 1) (Clu.needT ((Clu.flatB (os 10))) (.err 90 1) (Clu.needT ((Clu.flatB (os 25))) (.err 90 1) ((Clu.Out.ok (Clu.AV.tu [(Clu.AV.i IntKind.i64 (Int.ofNat 2))]))))) := by kernel_rfl
set_option linter.unusedVariables false in
theorem txa_0 (i : Nat) (os : Nat → Option Clu.AV) (hos : ∀ t, Clu.flatB (os t) = true)   : ∃ os' : Nat → Option Clu.AV, (∀ t, Clu.flatB (os' t) = true) ∧ Clu.RunE Try.prog 50 (Clu.loopNo Try.f14 0) 26 1000 (Clu.mkFr 26 (Clu.std [0, 1, 5] [.sn, .sn, .i .i64 (.ofNat i)] [4, 10, 14, 25] os)) (Clu.mkH .e ([] ++ (Clu.layB []))) 1000 (Clu.exOf 2) (Clu.mkFr 26 (Clu.std [] [] [4, 10, 14, 25] os')) (Clu.mkH .e ([] ++ (Clu.layB []))) 1000 :=
  Clu.segM (vs := []) (cs := []) 2 2 [] [] (Clu.evL_ok Clu.plain (Clu.noX_ok) (Clu.drK_ok Clu.mixed) (Clu.noL_ok) 50) (Clu.layB_bs rfl (by decide) (by decide)) hos (((((txa_raw i os)).trans (Clu.needT_eq (hos _) _ _)).trans (Clu.needT_eq (hos _) _ _)).trans (Clu.needT_eq (hos _) _ _)) rfl rfl rfl (by decide) rfl (by simp [Clu.Blk.und, Clu.AV.und, Clu.AV.unds]) rfl (Clu.newH_ro rfl) (by simp [Clu.AV.und, Clu.AV.unds, Clu.AV.cells, Clu.unds_splice])
set_option maxRecDepth 10000000 in
theorem txb_raw (i : Nat) (os : Nat → Option Clu.AV) : Clu.evL (Clu.noL) Try.prog (Clu.noX) 50 26 1000 (Clu.loopNo Try.f14 0) (Clu.tellF [3000020, 3000028, 3000050] (Clu.mkFr 26 (Clu.std [0, 1, 5] [.sn, .se, .i .i64 (.ofNat i)] [4, 10, 14, 25] os))) (Clu.mkH (Clu.mkH .e (Clu.layB [])) []) 1000 (Clu.finM 26 1000 [4, 10, 14, 25] 0 [(0, [0, 1, 5], [], none), (1, [4], [], none), (2, [], [], none)]) = Clu.needT ((Clu.flatB (os 4))) (.err 90 1) (Clu.needT ((Clu.flatB (os 10))) (.err 90 1) (Clu.needT ((Clu.flatB (os 25))) (.err 90 1) ((Clu.Out.ok (Clu.AV.tu [(Clu.AV.i IntKind.i64 (Int.ofNat 2))]))))) := by kernel_rfl
set_option linter.unusedVariables false in
theorem txb_0 (i : Nat) (os : Nat → Option Clu.AV) (hos : ∀ t, Clu.flatB (os t) = true)   : ∃ os' : Nat → Option Clu.AV, (∀ t, Clu.flatB (os' t) = true) ∧ Clu.RunE Try.prog 50 (Clu.loopNo Try.f14 0) 26 1000 (Clu.mkFr 26 (Clu.std [0, 1, 5] [.sn, .se, .i .i64 (.ofNat i)] [4, 10, 14, 25] os)) (Clu.mkH .e ([] ++ (Clu.layB []))) 1000 (Clu.exOf 2) (Clu.mkFr 26 (Clu.std [] [] [4, 10, 14, 25] os')) (Clu.mkH .e ([] ++ (Clu.layB []))) 1000 :=
  Clu.segM (vs := []) (cs := []) 2 2 [] [] (Clu.evL_ok Clu.plain (Clu.noX_ok) (Clu.drK_ok Clu.mixed) (Clu.noL_ok) 50) (Clu.layB_bs rfl (by decide) (by decide)) hos (((((txb_raw i os)).trans (Clu.needT_eq (hos _) _ _)).trans (Clu.needT_eq (hos _) _ _)).trans (Clu.needT_eq (hos _) _ _)) rfl rfl rfl (by decide) rfl (by simp [Clu.Blk.und, Clu.AV.und, Clu.AV.unds]) rfl (Clu.newH_ro rfl) (by simp [Clu.AV.und, Clu.AV.unds, Clu.AV.cells, Clu.unds_splice])
set_option maxRecDepth 10000000 in
theorem tx3_raw (_u : Nat) : (Clu.runV (Clu.addL (Clu.noL) (Clu.loopNo Try.f14 0) 4 (Clu.loopM [3000020, 3000028, 3000050] Try.prog (Clu.loopNo Try.f14 0) [0, 1, 5] [4, 10, 14, 25] [] [] (fun _ _ _ => .leaf (2, [], [], [], 1000)))) Try.prog (Clu.tell (Clu.noX) 14 300005030000283000020) (1000) 1000 14 [.sn, .sn] (Clu.mkH .e (Clu.argB (Clu.rowsAt 1000 []) ++ Clu.layB [])) 1000 [[]]) = Clu.needP ((Clu.loopNo Try.f14 0) = (Clu.loopNo Try.f14 0)) (fun _ => .err 91 0) (fun h600 => Clu.needP (Clu.LoopQ (Try.prog) ((Clu.loopNo Try.f14 0)) (995) (26) (1000) ([]) (1000) (2) ([0, 1, 5]) ([Clu.AV.sn, Clu.AV.sn, (Clu.AV.i IntKind.i64 (Int.ofNat 0))]) ([4, 10, 14, 25]) ([]) ([]) ([]) (1000)) (fun _ => .err 93 1) (fun h599 => (Clu.Out.ok (Clu.AV.tu [(Clu.AV.i IntKind.i64 (Int.ofNat 0)), (Clu.AV.b true)])))) := by kernel_rfl
set_option linter.unusedVariables false in
theorem tx3_0 (_u : Nat)  (q1 : Clu.LoopQ (Try.prog) ((Clu.loopNo Try.f14 0)) (995) (26) (1000) ([]) (1000) (2) ([0, 1, 5]) ([Clu.AV.sn, Clu.AV.sn, (Clu.AV.i IntKind.i64 (Int.ofNat 0))]) ([4, 10, 14, 25]) ([]) ([]) ([]) (1000)) : Clu.RowOK Try.prog 14 [] [.sn, .sn] [] (Clu.AV.b true) [] :=
  ⟨by simp, (by simp [Clu.AV.flts, Clu.AV.flt]), (fun x h => by cases h), Clu.con_new (v := (Clu.AV.b true)) (cs := []) (alts := [[]]) (gl := Clu.argB (Clu.rowsAt 1000 []) ++ Clu.layB []) Clu.plain (Clu.tell_ok (Clu.noX_ok)) (Clu.drK_ok Clu.mixed) (Clu.addL_ok (Clu.noL_ok) Clu.loopM_ok) 0 [] (Clu.AV.b true) ((((tx3_raw _u)).trans (Clu.needP_eq rfl _ _)).trans (Clu.needP_eq q1 _ _)) rfl (Clu.argB_bs rfl (by simp [Clu.rowsAt]) (by first | decide | simp) (by first | decide | simp)) (by first | decide | simp) rfl rfl rfl (fun x h => by cases h) (by simp [Clu.AV.flts, Clu.AV.flt]) rfl (by decide) (by simp)⟩
set_option maxRecDepth 10000000 in
theorem tx4_raw (_u : Nat) : (Clu.runV (Clu.addL (Clu.noL) (Clu.loopNo Try.f14 0) 4 (Clu.loopM [3000020, 3000028, 3000050] Try.prog (Clu.loopNo Try.f14 0) [0, 1, 5] [4, 10, 14, 25] [] [] (fun _ _ _ => .leaf (2, [], [], [], 1000)))) Try.prog (Clu.tell (Clu.noX) 14 300005030000283000020) (1000) 1000 14 [.sn, .se] (Clu.mkH .e (Clu.argB (Clu.rowsAt 1000 []) ++ Clu.layB [])) 1000 [[]]) = Clu.needP ((Clu.loopNo Try.f14 0) = (Clu.loopNo Try.f14 0)) (fun _ => .err 91 0) (fun h600 => Clu.needP (Clu.LoopQ (Try.prog) ((Clu.loopNo Try.f14 0)) (995) (26) (1000) ([]) (1000) (2) ([0, 1, 5]) ([Clu.AV.sn, Clu.AV.se, (Clu.AV.i IntKind.i64 (Int.ofNat 0))]) ([4, 10, 14, 25]) ([]) ([]) ([]) (1000)) (fun _ => .err 93 1) (fun h599 => (Clu.Out.ok (Clu.AV.tu [(Clu.AV.i IntKind.i64 (Int.ofNat 0)), (Clu.AV.b true)])))) := by kernel_rfl
set_option linter.unusedVariables false in
theorem tx4_0 (_u : Nat)  (q1 : Clu.LoopQ (Try.prog) ((Clu.loopNo Try.f14 0)) (995) (26) (1000) ([]) (1000) (2) ([0, 1, 5]) ([Clu.AV.sn, Clu.AV.se, (Clu.AV.i IntKind.i64 (Int.ofNat 0))]) ([4, 10, 14, 25]) ([]) ([]) ([]) (1000)) : Clu.RowOK Try.prog 14 [] [.sn, .se] [] (Clu.AV.b true) [] :=
  ⟨by simp, (by simp [Clu.AV.flts, Clu.AV.flt]), (fun x h => by cases h), Clu.con_new (v := (Clu.AV.b true)) (cs := []) (alts := [[]]) (gl := Clu.argB (Clu.rowsAt 1000 []) ++ Clu.layB []) Clu.plain (Clu.tell_ok (Clu.noX_ok)) (Clu.drK_ok Clu.mixed) (Clu.addL_ok (Clu.noL_ok) Clu.loopM_ok) 0 [] (Clu.AV.b true) ((((tx4_raw _u)).trans (Clu.needP_eq rfl _ _)).trans (Clu.needP_eq q1 _ _)) rfl (Clu.argB_bs rfl (by simp [Clu.rowsAt]) (by first | decide | simp) (by first | decide | simp)) (by first | decide | simp) rfl rfl rfl (fun x h => by cases h) (by simp [Clu.AV.flts, Clu.AV.flt]) rfl (by decide) (by simp)⟩
/-! Labels -/
def NbR (l : List Nat) (A : List (List Nat)) (at_ fuel : Nat) (L : List (List Nat)) : Prop := Clu.LoopR Try.prog (Clu.loopNo Try.f13 0) fuel 30 1000 1000 ([(1000, .c (Clu.S1 A) 0 1 (some 9))] ++ Clu.layB []) 1001 2 [0, 3, 4] [.s l.length (Clu.pk l), .so 1000 0 1 A.length, .i .i64 (.ofNat at_)] [7, 8, 12] [3] [.so 1000 0 1 L.length] ([(1000, .c (Clu.S1 L) 0 1 (some 9))] ++ Clu.layB []) 1001 1003
theorem nB_A {l : List Nat} (hB : Clu.B8 l) (hn : l.length ≤ 1000000) {L : List (List Nat)} {e : Nat} (he : e < l.length) : ∀ (f at_ : Nat) (A M : List (List Nat)), A.length ≤ at_ → rGo l f at_ = some (M, e) → L = A ++ M → NbR l A at_ (51 + f) L
  | 0, at_, A, M, hA, hg, hL => by cases hg
  | f + 1, at_, A, M, hA, hg, hL => by
    have hb := Clu.byteN_pk hB at_
    unfold rGo at hg
    split at hg
    · rename_i hc
      split at hg
      · cases hg
      · rename_i h3
        obtain ⟨x, hx, hxe⟩ := Option.map_eq_some_iff.1 hg
        obtain ⟨rfl, rfl⟩ : _ ∧ _ := Prod.mk.inj hxe
        unfold NbR
        refine Clu.LoopR.app (nx1 := 1003) (c1 := Clu.S1 (A ++ [(l.drop (at_ + 1)).take (l.getD at_ 0)])) (vs1 := [.s l.length (Clu.pk l), .so 1002 0 1 (A.length + 1), .i .i64 (.ofNat (at_ + 1 + l.getD at_ 0))]) 2 (show 50 ≤ 51 + f by omega) (fun os ho => ?_) (by omega) (by omega) (by omega) (by omega) ?_ rfl (fun x hx => by cases hx) (Clu.S1_flts _) (nB_A hB hn he f _ (A ++ [(l.drop (at_ + 1)).take (l.getD at_ 0)]) x.1 (by rw [List.length_append]; simp only [List.length_cons, List.length_nil]; omega) hx (by rw [hL, List.append_assoc]; rfl))
        · have hs := Clu.S1_length A
          have := nlB_1 l.length (Clu.pk l) at_ A.length (Clu.S1 A) os ho (Clu.S1_flts _) (n1 := hc.1) (c1 := by omega) (c2 := by omega)
          rw [hb, seg_cell (by omega), Clu.S1_app] at this
          exact this
        · rw [List.length_append]
          rfl
    · rename_i hc
      obtain ⟨rfl, rfl⟩ : _ ∧ _ := Prod.mk.inj (Option.some.inj hg)
      rw [List.append_nil] at hL
      subst hL
      have h2 : l.getD at_ 0 = 0 := by
        by_cases h0 : l.getD at_ 0 = 0
        · exact h0
        · exact absurd ⟨he, h0⟩ hc
      exact Clu.LoopR.out (n := 50) (by simp [Clu.exOf]) (by omega) (by omega) (by omega) fun os ho => nlB_0 _ _ at_ _ _ os ho (Clu.S1_flts _) (n1 := he) (c1 := by omega)
theorem nLabs_A {l : List Nat} (hB : Clu.B8 l) (hn : l.length ≤ 1000000) {f e : Nat} {L : List (List Nat)} (hL : L ≠ []) (he : e < l.length) (hg : rGo l (f + 1) 0 = some (L, e)) : Clu.LoopQ Try.prog (Clu.loopNo Try.f13 0) (51 + (f + 1)) 30 1000 ([] ++ Clu.layB []) 1000 2 [0, 3, 4] [.s l.length (Clu.pk l), .sn, .i .i64 (.ofNat 0)] [7, 8, 12] [3] [.so 1000 0 1 L.length] ([(1000, .c (Clu.S1 L) 0 1 (some 9))] ++ Clu.layB []) 1003 := by
  have hb := Clu.byteN_pk hB 0
  unfold rGo at hg
  split at hg
  · rename_i hc
    split at hg
    · cases hg
    · rename_i h3
      obtain ⟨x, hx, hxe⟩ := Option.map_eq_some_iff.1 hg
      obtain ⟨e1, e2⟩ : _ ∧ _ := Prod.mk.inj hxe
      have K := nB_A hB hn he f (0 + 1 + l.getD 0 0) [(l.drop (0 + 1)).take (l.getD 0 0)] x.1 (by simp only [List.length_cons, List.length_nil]; omega) (by rw [hx, ← e2]) (L := L) e1.symm
      unfold NbR at K
      refine (Clu.LoopR.app (nx1 := 1002) (c1 := Clu.S1 [(l.drop (0 + 1)).take (l.getD 0 0)]) (vs1 := [.s l.length (Clu.pk l), .so 1001 0 1 1, .i .i64 (.ofNat (0 + 1 + l.getD 0 0))]) 1 (show 50 ≤ 51 + f by omega) (fun os ho => ?_) (by omega) (by omega) (by omega) (by omega) rfl rfl (fun x hx => by cases hx) (Clu.S1_flts _) K).come (by omega) (by omega) (fun x hx => by cases hx) (Clu.S1_flts _) rfl
      have := nlA_1 l.length (Clu.pk l) 0 os ho (n1 := hc.1) (c1 := by omega)
      rw [hb, seg_cell (by omega)] at this
      exact this
  · exact absurd (Prod.mk.inj (Option.some.inj hg)).1.symm hL
theorem labN_go {l : List Nat} {L : List (List Nat)} (h : labN l = some L) : ∃ e, rGo l (l.length + 1) 0 = some (L, e) ∧ e + 1 = l.length := by
  have hg := rGo_labs l (l.length + 1) 0 (by omega)
  rw [List.drop_zero] at hg
  unfold labN at h
  split at h
  · rw [h] at hg
    cases hm : rGo l (l.length + 1) 0 with
    | none => rw [hm] at hg; cases hg
    | some x =>
      rw [hm] at hg
      simp only at hg
      split at hg
      · rename_i he
        exact ⟨x.2, by rw [Option.some.inj hg], he⟩
      · cases hg
  · cases h
def nlO : Option (List (List Nat)) → Clu.AV × List Clu.NB
  | some (x :: L) => (.so 1000 0 1 (L.length + 1), [(Clu.S1 (x :: L), 1, some 9)])
  | _ => (.sn, [])
theorem nmX_ok' : Clu.XOK Try.prog (Clu.addB (Clu.noX) 17 (Clu.decH (mayH myF))) := Clu.addB_ok Clu.noX_ok mayH_ok
theorem nlabels_row {l : List Nat} (hB : Clu.B8 l) (hn : l.length ≤ 1000000) : Clu.RowOK Try.prog 13 [] [.s l.length (Clu.pk l)] [] (nlO (labN l)).1 (nlO (labN l)).2 := by
  have hm := labN_may l
  cases hl : labN l with
  | none =>
    rw [hl] at hm
    exact nlF_2 myF _ _ 0 false [] nmX_ok' rfl (c1 := by rw [myF_pk hB]; exact hm.symm)
  | some L =>
    rw [hl] at hm
    obtain ⟨e, hg, he⟩ := labN_go hl
    cases L with
    | nil =>
      have hb := Clu.byteN_pk hB 0
      obtain ⟨h1, h2, h3⟩ := labN_wire hl
      have h0 : l.getD 0 0 = 0 := by rw [← h1]; rfl
      exact nlF_1 myF _ _ 0 true [] nmX_ok' rfl (c1 := by rw [myF_pk hB]; exact hm.symm) (c2 := rfl) (q1 := Clu.LoopR.gone (bl1 := []) (nx1 := 1000) (Clu.LoopR.out (n := 50) (by simp [Clu.exOf]) (show 50 < l.length + 994 by omega) (by omega) (by omega) fun os ho => nlA_0 _ _ 0 os ho (c1 := by omega)) (fun x hx => by cases hx) (by omega) (fun x hx => by cases hx) rfl)
    | cons x L => exact nlF_0 myF _ _ _ false _ nmX_ok' (Clu.S1_flts _) (c1 := by rw [myF_pk hB]; exact hm.symm) (c2 := rfl) (q1 := (nLabs_A hB hn (fun h => by cases h) (by omega) hg).upto (by omega))
/-! Parent -/
theorem npar_fact {l : List Nat} (hB : Clu.B8 l) (hn : l.length < 9000000000000000000) : Clu.Fact Try.prog 15 [] [.s l.length (Clu.pk l)] (.tu [.s (parL l).1.length (Clu.pk (parL l).1), .b (parL l).2]) := by
  have hm := labN_may l
  unfold parL
  cases hl : labN l with
  | none =>
    rw [hl] at hm
    exact npF_2 myF _ _ nmX_ok' (c1 := by rw [myF_pk hB]; exact hm.symm)
  | some L =>
    rw [hl] at hm
    obtain ⟨h1, h2, h3⟩ := labN_wire hl
    have e0 : Clu.eqNs l.length (Clu.pk l) 1 0 = decide (l = [0]) := Clu.eqNs_iff hB (m := [0]) (fun c hc => by obtain rfl := List.mem_singleton.1 hc; decide)
    cases L with
    | nil => exact npF_1 myF _ _ nmX_ok' (c1 := by rw [myF_pk hB]; exact hm.symm) (c2 := by rw [e0, ← h1]; rfl)
    | cons x K =>
      have hb := Clu.byteN_pk hB 0
      have hx : l.getD 0 0 = x.length := by rw [← h1]; rfl
      have hll : l.length = x.length + (wire K).length + 1 := by rw [← h1]; show (x ++ wire K).length + 1 = _; rw [List.length_append]
      have hp := wire_pos K
      have hx63 := (h2.head).2
      have hx1 := (h2.head).1
      have := npF_0 myF _ _ nmX_ok' (c1 := (myF_pk hB).trans hm.symm) (c2 := by rw [e0, ← h1]; refine decide_eq_false fun hh => ?_; have := congrArg List.length hh; rw [h1] at this; simp only [List.length_cons, List.length_nil] at this; omega) (n5 := by omega)
      rw [hb, hx, Clu.pk_part] at this
      have ed : (l.drop (1 + x.length)).take (l.length - (1 + x.length)) = wire K := by
        have e1 : l.drop (1 + x.length) = wire K := by
          rw [← h1, Nat.add_comm]
          show (x.length :: (x ++ wire K)).drop (x.length + 1) = wire K
          rw [List.drop_succ_cons, List.drop_left]
        rw [e1]
        exact List.take_of_length_le (by omega)
      rw [ed, show l.length - (1 + x.length) = (wire K).length by omega] at this
      exact this
/-! Texts -/
theorem tx_L {L M : List (List Nat)} {d e k : Nat} (h8 : ∀ x ∈ L, Clu.B8 x) (k8 : ∀ x ∈ M, Clu.B8 x) (hd : d + k = L.length) (he : e + k = M.length) (hk : k ≤ 1000000) : ∀ (f i : Nat), i + f = k → Clu.LoopQ Try.prog (Clu.loopNo Try.f14 0) (51 + f) 26 1002 ([] ++ (Clu.argB (Clu.rowsAt 1000 [Clu.S1 L, Clu.S1 M]) ++ Clu.layB [])) 1002 (if L.drop (d + i) = M.drop (e + i) then 2 else 1) [0, 1, 5] [.so 1000 d 1 k, .so 1001 e 1 k, .i .i64 (.ofNat i)] [4, 10, 14, 25] (if L.drop (d + i) = M.drop (e + i) then [] else [4]) (if L.drop (d + i) = M.drop (e + i) then [] else [.b false]) ([] ++ (Clu.argB (Clu.rowsAt 1000 [Clu.S1 L, Clu.S1 M]) ++ Clu.layB [])) 1002
  | 0, i, hf => by
    rw [List.drop_eq_nil_of_le (show L.length ≤ d + i by omega), List.drop_eq_nil_of_le (show M.length ≤ e + i by omega)]
    simp only [if_true]
    exact Clu.LoopQ.out (n := 50) (by simp [Clu.exOf]) (by omega) fun os ho => txS_0 _ _ _ _ _ _ os ho (Clu.S1_flts _) (Clu.S1_flts _) (c1 := by omega)
  | f + 1, i, hf => by
    have hL : d + i < L.length := by omega
    have hM : e + i < M.length := by omega
    have ed : d * 1 + i * 1 = d + i := by omega
    have ee : e * 1 + i * 1 = e + i := by omega
    have a0 : Clu.isS (Clu.getL (Clu.S1 L) (d * 1 + i * 1)) = true := by rw [ed]; exact Clu.S1_isS hL
    have b0 : Clu.isS (Clu.getL (Clu.S1 M) (e * 1 + i * 1)) = true := by rw [ee]; exact Clu.S1_isS hM
    have hq : Clu.eqNs (Clu.sN (Clu.getL (Clu.S1 L) (d * 1 + i * 1))) (Clu.sNN (Clu.getL (Clu.S1 L) (d * 1 + i * 1))) (Clu.sN (Clu.getL (Clu.S1 M) (e * 1 + i * 1))) (Clu.sNN (Clu.getL (Clu.S1 M) (e * 1 + i * 1))) = decide (L.getD (d + i) [] = M.getD (e + i) []) := by
      rw [ed, ee, Clu.S1_sN hL, Clu.S1_sNN hL, Clu.S1_sN hM, Clu.S1_sNN hM]
      exact Clu.eqNs_iff (h8 _ (getD_mem' hL)) (k8 _ (getD_mem' hM))
    have dL : L.drop (d + i) = L.getD (d + i) [] :: L.drop (d + (i + 1)) := by rw [List.drop_eq_getElem_cons hL, List.getD_eq_getElem?_getD, List.getElem?_eq_getElem hL]; rfl
    have dM : M.drop (e + i) = M.getD (e + i) [] :: M.drop (e + (i + 1)) := by rw [List.drop_eq_getElem_cons hM, List.getD_eq_getElem?_getD, List.getElem?_eq_getElem hM]; rfl
    by_cases h : L.getD (d + i) [] = M.getD (e + i) []
    · have key : (L.drop (d + i) = M.drop (e + i)) = (L.drop (d + (i + 1)) = M.drop (e + (i + 1))) := by
        rw [dL, dM, h]
        exact propext ⟨fun k => (List.cons.inj k).2, fun k => by rw [k]⟩
      simp only [key]
      exact Clu.LoopQ.more (show 50 ≤ 51 + f by omega) (fun os ho => txS_1 _ _ _ _ _ _ os ho (Clu.S1_flts _) (Clu.S1_flts _) (c1 := by omega) (n2 := a0) (n4 := b0) (c2 := by rw [hq]; exact decide_eq_true h)) (tx_L h8 k8 hd he hk f (i + 1) (by omega))
    · have key : ¬ L.drop (d + i) = M.drop (e + i) := fun k => h (by rw [dL, dM] at k; exact (List.cons.inj k).1)
      simp only [if_neg key]
      exact Clu.LoopQ.out (n := 50) (by simp [Clu.exOf]) (by omega) fun os ho => txS_2 _ _ _ _ _ _ os ho (Clu.S1_flts _) (Clu.S1_flts _) (c1 := by omega) (n2 := a0) (n4 := b0) (c2 := by rw [hq]; exact decide_eq_false h)
noncomputable def tkF (cs : List Clu.AV) (d k : Nat) : Bool := @decide (∃ L : List (List Nat), cs = Clu.S1 L ∧ (∀ x ∈ L, Clu.B8 x) ∧ d + k = L.length ∧ L.length ≤ 1000000) (Classical.propDecidable _)
def txV (cs : List Clu.AV) (d : Nat) (ds : List Clu.AV) (e : Nat) : Bool := decide ((rowL cs).drop d = (rowL ds).drop e)
theorem tx_row {cs ds : List Clu.AV} {d k e : Nat} (h1 : tkF cs d k = true) (h2 : tkF ds e k = true) : Clu.RowOK Try.prog 14 [] [.so 1000 d 1 k, .so 1001 e 1 k] [cs, ds] (.b (txV cs d ds e)) [] := by
  obtain ⟨L, rfl, h8, hd, hL⟩ := @of_decide_eq_true _ (Classical.propDecidable _) h1
  obtain ⟨M, rfl, k8, he, hM⟩ := @of_decide_eq_true _ (Classical.propDecidable _) h2
  have Q := (tx_L h8 k8 hd he (by omega) k 0 (by omega)).upto (show 51 + k ≤ k + 995 by omega)
  unfold txV
  rw [rowL_S1 h8, rowL_S1 k8]
  simp only [Nat.add_zero] at Q
  by_cases h : L.drop d = M.drop e
  · rw [decide_eq_true h]
    rw [if_pos h, if_pos h, if_pos h] at Q
    exact txF_1 _ _ _ _ true _ _ (Clu.S1_flts _) (Clu.S1_flts _) (c1 := rfl) (c2 := rfl) (q1 := Q)
  · rw [decide_eq_false h]
    rw [if_neg h, if_neg h, if_neg h] at Q
    exact txF_0 _ _ _ _ false _ _ (Clu.S1_flts _) (Clu.S1_flts _) (c1 := rfl) (c2 := rfl) (q1 := Q)
theorem txH_ok : Clu.HandOK Try.prog 14 (Clu.rowH [] (txH tkF txV)) := Clu.rowH_ok rfl fun args css o h => by
  unfold txH at h
  split at h
  · split at h
    · obtain ⟨h1, h2, h3, h4, h5, h6, h⟩ := h
      cases Clu.beq_iff.1 h1
      cases Clu.beq_iff.1 h2
      cases Clu.beq_iff.1 h3
      cases Clu.beq_iff.1 h4
      rcases h with ⟨hk, h⟩ | ⟨hk, h⟩
      · have h : (_, _) = o := h
        subst h
        obtain ⟨L, rfl, h8, hd, hL⟩ := @of_decide_eq_true _ (Classical.propDecidable _) h5
        obtain ⟨M, rfl, k8, he, hM⟩ := @of_decide_eq_true _ (Classical.propDecidable _) h6
        exact txF_2 _ _ _ _ true _ _ (Clu.S1_flts _) (Clu.S1_flts _) (c1 := fun e => by rw [e] at hk; exact absurd hk (by rw [Clu.beq_iff.2 rfl]; exact fun z => by cases z))
      · have h : (_, _) = o := h
        subst h
        cases Clu.beq_iff.1 hk
        exact tx_row h5 h6
    · exact h.elim
  · split at h
    · obtain ⟨h1, h2, h3, h4, h⟩ := h
      have h : (_, _) = o := h
      subst h
      cases Clu.beq_iff.1 h1
      cases Clu.beq_iff.1 h2
      have h3 := Clu.blt_iff.1 h3
      obtain ⟨L, rfl, h8, hd, hL⟩ := @of_decide_eq_true _ (Classical.propDecidable _) h4
      exact tx1_1 _ _ _ (Clu.S1_flts _) (c1 := by omega)
    · exact h.elim
  · split at h
    · obtain ⟨h1, h2, h3, h4, h⟩ := h
      have h : (_, _) = o := h
      subst h
      cases Clu.beq_iff.1 h1
      cases Clu.beq_iff.1 h2
      have h3 := Clu.blt_iff.1 h3
      obtain ⟨L, rfl, h8, hd, hL⟩ := @of_decide_eq_true _ (Classical.propDecidable _) h4
      exact tx2_1 _ _ _ (Clu.S1_flts _) (c1 := by omega)
    · exact h.elim
  · split at h
    · have h : (_, _) = o := h
      subst h
      exact tx3_0 0 (q1 := Clu.LoopQ.out (n := 50) (by simp [Clu.exOf]) (by omega) fun os ho => txa_0 _ os ho)
    · exact h.elim
  · split at h
    · have h : (_, _) = o := h
      subst h
      exact tx4_0 0 (q1 := Clu.LoopQ.out (n := 50) (by simp [Clu.exOf]) (by omega) fun os ho => txb_0 _ os ho)
    · exact h.elim
  · exact h.elim

/-! what stands for them -/
noncomputable def nemF (n N : Nat) : Bool := match labN (Clu.lst n N) with
  | some (_ :: _) => false
  | _ => true
noncomputable def pnF (n N : Nat) : Nat := (parL (Clu.lst n N)).1.length
noncomputable def pNF (n N : Nat) : Nat := Clu.pk (parL (Clu.lst n N)).1
theorem pnF_pk {l : List Nat} (h : Clu.B8 l) : pnF l.length (Clu.pk l) = (parL l).1.length := by unfold pnF; rw [Clu.lst_pk h]
theorem pNF_pk {l : List Nat} (h : Clu.B8 l) : pNF l.length (Clu.pk l) = Clu.pk (parL l).1 := by unfold pNF; rw [Clu.lst_pk h]
theorem npH_ok : Clu.HandOK Try.prog 15 (Clu.decH (npH pnF pNF pbF)) := Clu.decH_ok fun args v h => by
  unfold npH at h
  split at h
  · rename_i n N
    obtain ⟨h1, h2⟩ := h
    have h2 : Clu.AV.tu [.s (pnF n N) (pNF n N), .b (pbF n N)] = v := h2
    subst h2
    have h1 := Clu.blt_iff.1 h1
    exact Clu.Fact.s1 (npar_fact (Clu.lst_b8 n N) (by rw [Clu.lst_length]; omega))
  · exact h.elim
theorem nlH_ok : Clu.HandOK Try.prog 13 (Clu.rowH [] (nlH nemF kkF lsF)) := Clu.rowH_ok rfl fun args css o h => by
  unfold nlH at h
  split at h
  · rename_i n N
    split at h
    · obtain ⟨h1, h⟩ := h
      have h1 := Clu.blt_iff.1 h1
      have R := row_s1 (nlabels_row (Clu.lst_b8 n N) (by rw [Clu.lst_length]; omega))
      unfold nemF kkF lsF at h
      cases hl : labN (Clu.lst n N) with
      | none =>
        rw [hl] at h R
        rcases h with ⟨k, _⟩ | ⟨_, h⟩
        · cases k
        · have h : (_, _) = o := h
          subst h; exact R
      | some L =>
        rw [hl] at h R
        cases L with
        | nil =>
          rcases h with ⟨k, _⟩ | ⟨_, h⟩
          · cases k
          · have h : (_, _) = o := h
            subst h; exact R
        | cons x L =>
          rcases h with ⟨_, h⟩ | ⟨k, _⟩
          · have h : (_, _) = o := h
            subst h; exact R
          · cases k
    · exact h.elim
  · exact h.elim

end Go.Proofs.Ytmokdhmicdmgfaa
