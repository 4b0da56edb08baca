/-
  names: May, Fold, Same, Within.
-/
import Derived.Test.YtmokdhmicdmgfaaCluze
import Derived.Test.YtmokdhmicdmgfaaNmTh
import Derived.Test.YtmokdhmicdmgfaaNmLow
namespace Go.Proofs.Ytmokdhmicdmgfaa
open Go.RowKit
set_option linter.unusedVariables false
set_option linter.unusedSimpArgs false
set_option maxRecDepth 100000

noncomputable def lowH (lw : Nat → Nat → Nat) : List Clu.AV → Clu.Dec Clu.AV := fun args => match args with
  | [.s n N] => .need (Nat.blt n 9000000000000000000) (.leaf (.s n (lw n N)))
  | _ => .fail
noncomputable def mayH (my : Nat → Nat → Bool) : List Clu.AV → Clu.Dec Clu.AV := fun args => match args with
  | [.s n N] => .need (Nat.blt n 9000000000000000000) (.leaf (.b (my n N)))
  | _ => .fail

set_option maxRecDepth 10000000 in
theorem mayR_raw (n N at_ : Nat) (os : Nat → Option Clu.AV) : Clu.evL (Clu.noL) Try.prog (Clu.noX) 50 33 1000 (Clu.loopNo Try.f17 0) (Clu.tellF [3000012, 3000022, 3000032, 3000040] (Clu.mkFr 33 (Clu.std [0, 3] [.s n N, .i .i64 (.ofNat at_)] [2, 6, 10, 11, 15, 16, 20, 32] os))) (Clu.mkH (Clu.mkH .e (Clu.layB [])) []) 1000 (Clu.finM 33 1000 [2, 6, 10, 11, 15, 16, 20, 32] 0 [(0, [0, 3], [], none), (1, [2], [], none), (2, [0, 3], [], none)]) = Clu.forkB ((Clu.iLt (Int.ofNat at_) (Int.ofNat n))) (Clu.needT ((Clu.flatB (os 2))) (.err 90 1) (Clu.needT ((Clu.flatB (os 6))) (.err 90 1) (Clu.needT ((Clu.flatB (os 20))) (.err 90 1) (Clu.needT ((Clu.flatB (os 32))) (.err 90 1) ((Clu.Out.ok (Clu.AV.tu [(Clu.AV.i IntKind.i64 (Int.ofNat 2)), (Clu.AV.s n N), (Clu.AV.i IntKind.i64 (Int.ofNat at_))]))))))) (Clu.needT ((Nat.blt at_ n)) (.err 22 6) (Clu.forkB ((Bool.not (Clu.iEq (Int.ofNat (Clu.byteN N at_)) (Int.ofNat 0)))) (Clu.needT ((Clu.flatB (os 2))) (.err 90 1) (Clu.needT ((Clu.flatB (os 6))) (.err 90 1) (Clu.needT ((Clu.flatB (os 20))) (.err 90 1) (Clu.needT ((Clu.flatB (os 32))) (.err 90 1) ((Clu.Out.ok (Clu.AV.tu [(Clu.AV.i IntKind.i64 (Int.ofNat 2)), (Clu.AV.s n N), (Clu.AV.i IntKind.i64 (Int.ofNat at_))]))))))) (Clu.needT ((Nat.blt at_ n)) (.err 22 6) (Clu.forkB ((Clu.iLt (Int.ofNat 63) (Int.ofNat (Clu.byteN N at_)))) (Clu.needT ((Nat.blt at_ n)) (.err 22 6) (Clu.needT ((Clu.inR IntKind.i64 (Int.ofNat (Clu.byteN N at_)))) (.err 10 20) (Clu.needT ((Clu.inR IntKind.i64 (Int.ofNat (1 + (Clu.byteN N at_))))) (.err 10 20) (Clu.needT ((Clu.inR IntKind.i64 (Int.ofNat (at_ + (1 + (Clu.byteN N at_)))))) (.err 10 20) (Clu.needT ((Clu.flatB (os 2))) (.err 90 1) (Clu.needT ((Clu.flatB (os 6))) (.err 90 1) (Clu.needT ((Clu.flatB (os 32))) (.err 90 1) ((Clu.Out.ok (Clu.AV.tu [(Clu.AV.i IntKind.i64 (Int.ofNat 0)), (Clu.AV.s n N), (Clu.AV.i IntKind.i64 (Int.ofNat (at_ + (1 + (Clu.byteN N at_)))))])))))))))) (Clu.needT ((Clu.flatB (os 6))) (.err 90 1) (Clu.needT ((Clu.flatB (os 32))) (.err 90 1) ((Clu.Out.ok (Clu.AV.tu [(Clu.AV.i IntKind.i64 (Int.ofNat 1)), (Clu.AV.b false)]))))))))) := by kernel_rfl
set_option linter.unusedVariables false in
theorem mayR_0 (n N at_ : Nat) (os : Nat → Option Clu.AV) (hos : ∀ t, Clu.flatB (os t) = true) (hn : n ≤ 255) (c1 : n ≤ at_) : ∃ os' : Nat → Option Clu.AV, (∀ t, Clu.flatB (os' t) = true) ∧ Clu.RunE Try.prog 50 (Clu.loopNo Try.f17 0) 33 1000 (Clu.mkFr 33 (Clu.std [0, 3] [.s n N, .i .i64 (.ofNat at_)] [2, 6, 10, 11, 15, 16, 20, 32] os)) (Clu.mkH .e ([] ++ (Clu.layB []))) 1000 (Clu.exOf 2) (Clu.mkFr 33 (Clu.std [0, 3] [(Clu.AV.s n N), (Clu.AV.i IntKind.i64 (Int.ofNat at_))] [2, 6, 10, 11, 15, 16, 20, 32] os')) (Clu.mkH .e ([] ++ (Clu.layB []))) 1000 :=
  Clu.segM (vs := [(Clu.AV.s n N), (Clu.AV.i IntKind.i64 (Int.ofNat at_))]) (cs := []) 2 2 [0, 3] [] (Clu.evL_ok Clu.plain (Clu.noX_ok) (Clu.drK_ok Clu.mixed) (Clu.noL_ok) 50) (Clu.layB_bs rfl (by decide) (by decide)) hos (((((((mayR_raw n N at_ os)).trans (Clu.forkB_f (Clu.iLt_f (Int.ofNat_le.2 c1)) _ _)).trans (Clu.needT_eq (hos _) _ _)).trans (Clu.needT_eq (hos _) _ _)).trans (Clu.needT_eq (hos _) _ _)).trans (Clu.needT_eq (hos _) _ _)) rfl rfl rfl (by decide) rfl (by simp [Clu.Blk.und, Clu.AV.und, Clu.AV.unds]) rfl (Clu.newH_ro rfl) (by simp [Clu.AV.und, Clu.AV.unds, Clu.AV.cells, Clu.unds_splice])
set_option linter.unusedVariables false in
theorem mayR_1 (n N at_ : Nat) (os : Nat → Option Clu.AV) (hos : ∀ t, Clu.flatB (os t) = true) (hn : n ≤ 255) (c1 : at_ < n) (n1 : at_ < n := by omega) (c2 : (Clu.byteN N at_) = 0) : ∃ os' : Nat → Option Clu.AV, (∀ t, Clu.flatB (os' t) = true) ∧ Clu.RunE Try.prog 50 (Clu.loopNo Try.f17 0) 33 1000 (Clu.mkFr 33 (Clu.std [0, 3] [.s n N, .i .i64 (.ofNat at_)] [2, 6, 10, 11, 15, 16, 20, 32] os)) (Clu.mkH .e ([] ++ (Clu.layB []))) 1000 (Clu.exOf 2) (Clu.mkFr 33 (Clu.std [0, 3] [(Clu.AV.s n N), (Clu.AV.i IntKind.i64 (Int.ofNat at_))] [2, 6, 10, 11, 15, 16, 20, 32] os')) (Clu.mkH .e ([] ++ (Clu.layB []))) 1000 :=
  Clu.segM (vs := [(Clu.AV.s n N), (Clu.AV.i IntKind.i64 (Int.ofNat at_))]) (cs := []) 2 2 [0, 3] [] (Clu.evL_ok Clu.plain (Clu.noX_ok) (Clu.drK_ok Clu.mixed) (Clu.noL_ok) 50) (Clu.layB_bs rfl (by decide) (by decide)) hos (((((((((mayR_raw n N at_ os)).trans (Clu.forkB_t (Clu.iLt_t (Int.ofNat_lt.2 c1)) _ _)).trans (Clu.needT_eq (Clu.blt_iff.2 n1) _ _)).trans (Clu.forkB_f (congrArg not (Clu.iEq_t (congrArg Int.ofNat c2))) _ _)).trans (Clu.needT_eq (hos _) _ _)).trans (Clu.needT_eq (hos _) _ _)).trans (Clu.needT_eq (hos _) _ _)).trans (Clu.needT_eq (hos _) _ _)) rfl rfl rfl (by decide) rfl (by simp [Clu.Blk.und, Clu.AV.und, Clu.AV.unds]) rfl (Clu.newH_ro rfl) (by simp [Clu.AV.und, Clu.AV.unds, Clu.AV.cells, Clu.unds_splice])
set_option linter.unusedVariables false in
theorem mayR_2 (n N at_ : Nat) (os : Nat → Option Clu.AV) (hos : ∀ t, Clu.flatB (os t) = true) (hn : n ≤ 255) (c1 : at_ < n) (n1 : at_ < n := by omega) (c2 : (Clu.byteN N at_) ≠ 0) (n2 : at_ < n := by omega) (c3 : (Clu.byteN N at_) ≤ 63) (n3 : at_ < n := by omega) (n4 : (Clu.byteN N at_) < 9223372036854775808 := by omega) (n5 : (1 + (Clu.byteN N at_)) < 9223372036854775808 := by omega) (n6 : (at_ + (1 + (Clu.byteN N at_))) < 9223372036854775808 := by omega) : ∃ os' : Nat → Option Clu.AV, (∀ t, Clu.flatB (os' t) = true) ∧ Clu.RunE Try.prog 50 (Clu.loopNo Try.f17 0) 33 1000 (Clu.mkFr 33 (Clu.std [0, 3] [.s n N, .i .i64 (.ofNat at_)] [2, 6, 10, 11, 15, 16, 20, 32] os)) (Clu.mkH .e ([] ++ (Clu.layB []))) 1000 (Clu.exOf 0) (Clu.mkFr 33 (Clu.std [0, 3] [(Clu.AV.s n N), (Clu.AV.i IntKind.i64 (Int.ofNat (at_ + (1 + (Clu.byteN N at_)))))] [2, 6, 10, 11, 15, 16, 20, 32] os')) (Clu.mkH .e ([] ++ (Clu.layB []))) 1000 :=
  Clu.segM (vs := [(Clu.AV.s n N), (Clu.AV.i IntKind.i64 (Int.ofNat (at_ + (1 + (Clu.byteN N at_)))))]) (cs := []) 0 0 [0, 3] [] (Clu.evL_ok Clu.plain (Clu.noX_ok) (Clu.drK_ok Clu.mixed) (Clu.noL_ok) 50) (Clu.layB_bs rfl (by decide) (by decide)) hos ((((((((((((((mayR_raw n N at_ os)).trans (Clu.forkB_t (Clu.iLt_t (Int.ofNat_lt.2 c1)) _ _)).trans (Clu.needT_eq (Clu.blt_iff.2 n1) _ _)).trans (Clu.forkB_t (congrArg not (Clu.iEq_f (fun hh => c2 (Int.ofNat.inj hh)))) _ _)).trans (Clu.needT_eq (Clu.blt_iff.2 n2) _ _)).trans (Clu.forkB_f (Clu.iLt_f (Int.ofNat_le.2 c3)) _ _)).trans (Clu.needT_eq (Clu.blt_iff.2 n3) _ _)).trans (Clu.needT_eq (Clu.inR_nat (k := .i64) n4) _ _)).trans (Clu.needT_eq (Clu.inR_nat (k := .i64) n5) _ _)).trans (Clu.needT_eq (Clu.inR_nat (k := .i64) n6) _ _)).trans (Clu.needT_eq (hos _) _ _)).trans (Clu.needT_eq (hos _) _ _)).trans (Clu.needT_eq (hos _) _ _)) rfl rfl rfl (by decide) rfl (by simp [Clu.Blk.und, Clu.AV.und, Clu.AV.unds]) rfl (Clu.newH_ro rfl) (by simp [Clu.AV.und, Clu.AV.unds, Clu.AV.cells, Clu.unds_splice])
set_option linter.unusedVariables false in
theorem mayR_3 (n N at_ : Nat) (os : Nat → Option Clu.AV) (hos : ∀ t, Clu.flatB (os t) = true) (hn : n ≤ 255) (c1 : at_ < n) (n1 : at_ < n := by omega) (c2 : (Clu.byteN N at_) ≠ 0) (n2 : at_ < n := by omega) (c3 : 63 < (Clu.byteN N at_)) : ∃ os' : Nat → Option Clu.AV, (∀ t, Clu.flatB (os' t) = true) ∧ Clu.RunE Try.prog 50 (Clu.loopNo Try.f17 0) 33 1000 (Clu.mkFr 33 (Clu.std [0, 3] [.s n N, .i .i64 (.ofNat at_)] [2, 6, 10, 11, 15, 16, 20, 32] os)) (Clu.mkH .e ([] ++ (Clu.layB []))) 1000 (Clu.exOf 1) (Clu.mkFr 33 (Clu.std [2] [(Clu.AV.b false)] [2, 6, 10, 11, 15, 16, 20, 32] os')) (Clu.mkH .e ([] ++ (Clu.layB []))) 1000 :=
  Clu.segM (vs := [(Clu.AV.b false)]) (cs := []) 1 1 [2] [] (Clu.evL_ok Clu.plain (Clu.noX_ok) (Clu.drK_ok Clu.mixed) (Clu.noL_ok) 50) (Clu.layB_bs rfl (by decide) (by decide)) hos (((((((((mayR_raw n N at_ os)).trans (Clu.forkB_t (Clu.iLt_t (Int.ofNat_lt.2 c1)) _ _)).trans (Clu.needT_eq (Clu.blt_iff.2 n1) _ _)).trans (Clu.forkB_t (congrArg not (Clu.iEq_f (fun hh => c2 (Int.ofNat.inj hh)))) _ _)).trans (Clu.needT_eq (Clu.blt_iff.2 n2) _ _)).trans (Clu.forkB_t (Clu.iLt_t (Int.ofNat_lt.2 c3)) _ _)).trans (Clu.needT_eq (hos _) _ _)).trans (Clu.needT_eq (hos _) _ _)) rfl rfl rfl (by decide) rfl (by simp [Clu.Blk.und, Clu.AV.und, Clu.AV.unds]) rfl (Clu.newH_ro rfl) (by simp [Clu.AV.und, Clu.AV.unds, Clu.AV.cells, Clu.unds_splice])
set_option maxRecDepth 10000000 in
theorem mayF_raw (n N e : Nat) (bad : Bool) : (Clu.layK [] .e fun h => Clu.runL (Clu.addL (Clu.noL) (Clu.loopNo Try.f17 0) 4 (Clu.loopM [3000012, 3000022, 3000032, 3000040] Try.prog (Clu.loopNo Try.f17 0) [0, 3] [2, 6, 10, 11, 15, 16, 20, 32] [] [] (fun _ _ _ => .fork bad (.leaf (2, [0, 3], [.s n N, .i .i64 (.ofNat e)], [], 1000)) (.leaf (1, [2], [.b false], [], 1000))))) Try.prog (Clu.tell (Clu.noX) 17 3000040300003230000223000012) (1000) 1000 17 [.s n N] h 1000) = Clu.forkB ((Clu.iLt (Int.ofNat 255) (Int.ofNat n))) (Clu.needP ((Clu.loopNo Try.f17 0) = (Clu.loopNo Try.f17 0)) (fun _ => .err 91 0) (fun h599 => Clu.forkB (bad) (Clu.needP (Clu.LoopQ (Try.prog) ((Clu.loopNo Try.f17 0)) (995) (33) (1000) ([]) (1000) (2) ([0, 3]) ([(Clu.AV.s n N), (Clu.AV.i IntKind.i64 (Int.ofNat 0))]) ([2, 6, 10, 11, 15, 16, 20, 32]) ([0, 3]) ([(Clu.AV.s n N), (Clu.AV.i IntKind.i64 (Int.ofNat e))]) ([]) (1000)) (fun _ => .err 93 1) (fun h597 => Clu.needT ((Clu.inR IntKind.i64 ((Int.ofNat n) - (Int.ofNat 1)))) (.err 10 20) ((Clu.Out.ok (Clu.AV.b (Clu.iEq (Int.ofNat e) ((Int.ofNat n) - (Int.ofNat 1)))))))) (Clu.needP (Clu.LoopQ (Try.prog) ((Clu.loopNo Try.f17 0)) (995) (33) (1000) ([]) (1000) (1) ([0, 3]) ([(Clu.AV.s n N), (Clu.AV.i IntKind.i64 (Int.ofNat 0))]) ([2, 6, 10, 11, 15, 16, 20, 32]) ([2]) ([(Clu.AV.b false)]) ([]) (1000)) (fun _ => .err 93 1) (fun h597 => (Clu.Out.ok (Clu.AV.b false)))))) ((Clu.Out.ok (Clu.AV.b false))) := by kernel_rfl
set_option linter.unusedVariables false in
theorem mayF_0 (n N e : Nat) (bad : Bool)  (c1 : n ≤ 255) (c2 : bad = false) (p_h597 : Clu.LoopQ (Try.prog) ((Clu.loopNo Try.f17 0)) (995) (33) (1000) ([]) (1000) (2) ([0, 3]) ([(Clu.AV.s n N), (Clu.AV.i IntKind.i64 (Int.ofNat 0))]) ([2, 6, 10, 11, 15, 16, 20, 32]) ([0, 3]) ([(Clu.AV.s n N), (Clu.AV.i IntKind.i64 (Int.ofNat e))]) ([]) (1000)) (n1 : -9223372036854775808 ≤ (((n : Nat) : Int) - ((1 : Nat) : Int)) ∧ (((n : Nat) : Int) - ((1 : Nat) : Int)) < 9223372036854775808 := by omega) : Clu.Fact Try.prog 17 [] [.s n N] (Clu.AV.b (Clu.iEq (Int.ofNat e) ((Int.ofNat n) - (Int.ofNat 1)))) :=
  Clu.factL Clu.plain (Clu.tell_ok (Clu.noX_ok)) Clu.mixed (Clu.addL_ok (Clu.noL_ok) Clu.loopM_ok) (((((((mayF_raw n N e bad)).trans (Clu.forkB_f (Clu.iLt_f (Int.ofNat_le.2 c1)) _ _)).trans (Clu.needP_eq rfl _ _)).trans (Clu.forkB_f (c2) _ _)).trans (Clu.needP_eq p_h597 _ _)).trans (Clu.needT_eq (Clu.inR_int (k := .i64) (half := 9223372036854775808) rfl n1) _ _)) rfl (rfl)
set_option linter.unusedVariables false in
theorem mayF_1 (n N e : Nat) (bad : Bool)  (c1 : n ≤ 255) (c2 : bad = true) (p_h597 : Clu.LoopQ (Try.prog) ((Clu.loopNo Try.f17 0)) (995) (33) (1000) ([]) (1000) (1) ([0, 3]) ([(Clu.AV.s n N), (Clu.AV.i IntKind.i64 (Int.ofNat 0))]) ([2, 6, 10, 11, 15, 16, 20, 32]) ([2]) ([(Clu.AV.b false)]) ([]) (1000)) : Clu.Fact Try.prog 17 [] [.s n N] (Clu.AV.b false) :=
  Clu.factL Clu.plain (Clu.tell_ok (Clu.noX_ok)) Clu.mixed (Clu.addL_ok (Clu.noL_ok) Clu.loopM_ok) ((((((mayF_raw n N e bad)).trans (Clu.forkB_f (Clu.iLt_f (Int.ofNat_le.2 c1)) _ _)).trans (Clu.needP_eq rfl _ _)).trans (Clu.forkB_t (c2) _ _)).trans (Clu.needP_eq p_h597 _ _)) rfl (rfl)
set_option linter.unusedVariables false in
theorem mayF_2 (n N e : Nat) (bad : Bool)  (c1 : 255 < n) : Clu.Fact Try.prog 17 [] [.s n N] (Clu.AV.b false) :=
  Clu.factL Clu.plain (Clu.tell_ok (Clu.noX_ok)) Clu.mixed (Clu.addL_ok (Clu.noL_ok) Clu.loopM_ok) (((mayF_raw n N e bad)).trans (Clu.forkB_t (Clu.iLt_t (Int.ofNat_lt.2 c1)) _ _)) rfl (rfl)
set_option maxRecDepth 10000000 in
theorem withR_raw (n N m M at_ : Nat) (os : Nat → Option Clu.AV) : Clu.evL (Clu.noL) Try.prog (Clu.noX) 50 35 1000 (Clu.loopNo Try.f24 0) (Clu.tellF [3000018, 3000026, 3000040] (Clu.mkFr 35 (Clu.std [0, 1, 5] [.s n N, .s m M, .i .i64 (.ofNat at_)] [4, 7, 8, 9, 11, 12, 13, 20, 34] os))) (Clu.mkH (Clu.mkH .e (Clu.layB [])) []) 1000 (Clu.finM 35 1000 [4, 7, 8, 9, 11, 12, 13, 20, 34] 0 [(0, [0, 1, 5], [], none), (2, [0, 1, 5], [], none)]) = Clu.needT ((Clu.inR IntKind.i64 ((Int.ofNat n) - (Int.ofNat at_)))) (.err 10 20) (Clu.forkB ((Clu.iLt (Int.ofNat m) ((Int.ofNat n) - (Int.ofNat at_)))) (Clu.needT ((Clu.flatB (os 4))) (.err 90 1) (Clu.needT ((Clu.flatB (os 7))) (.err 90 1) (Clu.needT ((Clu.flatB (os 8))) (.err 90 1) (Clu.needT ((Clu.flatB (os 9))) (.err 90 1) (Clu.needT ((Clu.flatB (os 11))) (.err 90 1) (Clu.needT ((Clu.flatB (os 12))) (.err 90 1) (Clu.needT ((Clu.flatB (os 13))) (.err 90 1) (Clu.needT ((Clu.flatB (os 34))) (.err 90 1) ((Clu.Out.ok (Clu.AV.tu [(Clu.AV.i IntKind.i64 (Int.ofNat 1)), (Clu.AV.s n N), (Clu.AV.s m M), (Clu.AV.i IntKind.i64 (Int.ofNat at_))]))))))))))) (Clu.needT ((Nat.blt at_ n)) (.err 22 6) (Clu.needT ((Clu.inR IntKind.i64 (Int.ofNat (Clu.byteN N at_)))) (.err 10 20) (Clu.needT ((Clu.inR IntKind.i64 (Int.ofNat (1 + (Clu.byteN N at_))))) (.err 10 20) (Clu.needT ((Clu.inR IntKind.i64 (Int.ofNat (at_ + (1 + (Clu.byteN N at_)))))) (.err 10 20) (Clu.needT ((Clu.flatB (os 4))) (.err 90 1) (Clu.needT ((Clu.flatB (os 7))) (.err 90 1) (Clu.needT ((Clu.flatB (os 8))) (.err 90 1) (Clu.needT ((Clu.flatB (os 9))) (.err 90 1) (Clu.needT ((Clu.flatB (os 11))) (.err 90 1) (Clu.needT ((Clu.flatB (os 12))) (.err 90 1) (Clu.needT ((Clu.flatB (os 13))) (.err 90 1) (Clu.needT ((Clu.flatB (os 34))) (.err 90 1) ((Clu.Out.ok (Clu.AV.tu [(Clu.AV.i IntKind.i64 (Int.ofNat 0)), (Clu.AV.s n N), (Clu.AV.s m M), (Clu.AV.i IntKind.i64 (Int.ofNat (at_ + (1 + (Clu.byteN N at_)))))])))))))))))))))) := by kernel_rfl
set_option linter.unusedVariables false in
theorem withR_0 (n N m M at_ : Nat) (os : Nat → Option Clu.AV) (hos : ∀ t, Clu.flatB (os t) = true) (hn : n ≤ 255) (n1 : -9223372036854775808 ≤ (((n : Nat) : Int) - ((at_ : Nat) : Int)) ∧ (((n : Nat) : Int) - ((at_ : Nat) : Int)) < 9223372036854775808 := by omega) (c1 : (((n : Nat) : Int) - ((at_ : Nat) : Int)) ≤ ((m : Nat) : Int)) : ∃ os' : Nat → Option Clu.AV, (∀ t, Clu.flatB (os' t) = true) ∧ Clu.RunE Try.prog 50 (Clu.loopNo Try.f24 0) 35 1000 (Clu.mkFr 35 (Clu.std [0, 1, 5] [.s n N, .s m M, .i .i64 (.ofNat at_)] [4, 7, 8, 9, 11, 12, 13, 20, 34] os)) (Clu.mkH .e ([] ++ (Clu.layB []))) 1000 (Clu.exOf 2) (Clu.mkFr 35 (Clu.std [0, 1, 5] [(Clu.AV.s n N), (Clu.AV.s m M), (Clu.AV.i IntKind.i64 (Int.ofNat at_))] [4, 7, 8, 9, 11, 12, 13, 20, 34] os')) (Clu.mkH .e ([] ++ (Clu.layB []))) 1000 :=
  Clu.segM (vs := [(Clu.AV.s n N), (Clu.AV.s m M), (Clu.AV.i IntKind.i64 (Int.ofNat at_))]) (cs := []) 1 2 [0, 1, 5] [] (Clu.evL_ok Clu.plain (Clu.noX_ok) (Clu.drK_ok Clu.mixed) (Clu.noL_ok) 50) (Clu.layB_bs rfl (by decide) (by decide)) hos ((((((((((((withR_raw n N m M at_ os)).trans (Clu.needT_eq (Clu.inR_int (k := .i64) (half := 9223372036854775808) rfl n1) _ _)).trans (Clu.forkB_f (Clu.iLt_f c1) _ _)).trans (Clu.needT_eq (hos _) _ _)).trans (Clu.needT_eq (hos _) _ _)).trans (Clu.needT_eq (hos _) _ _)).trans (Clu.needT_eq (hos _) _ _)).trans (Clu.needT_eq (hos _) _ _)).trans (Clu.needT_eq (hos _) _ _)).trans (Clu.needT_eq (hos _) _ _)).trans (Clu.needT_eq (hos _) _ _)) rfl rfl rfl (by decide) rfl (by simp [Clu.Blk.und, Clu.AV.und, Clu.AV.unds]) rfl (Clu.newH_ro rfl) (by simp [Clu.AV.und, Clu.AV.unds, Clu.AV.cells, Clu.unds_splice])
set_option linter.unusedVariables false in
theorem withR_1 (n N m M at_ : Nat) (os : Nat → Option Clu.AV) (hos : ∀ t, Clu.flatB (os t) = true) (hn : n ≤ 255) (n1 : -9223372036854775808 ≤ (((n : Nat) : Int) - ((at_ : Nat) : Int)) ∧ (((n : Nat) : Int) - ((at_ : Nat) : Int)) < 9223372036854775808 := by omega) (c1 : ((m : Nat) : Int) < (((n : Nat) : Int) - ((at_ : Nat) : Int))) (n2 : at_ < n := by omega) (n3 : (Clu.byteN N at_) < 9223372036854775808 := by omega) (n4 : (1 + (Clu.byteN N at_)) < 9223372036854775808 := by omega) (n5 : (at_ + (1 + (Clu.byteN N at_))) < 9223372036854775808 := by omega) : ∃ os' : Nat → Option Clu.AV, (∀ t, Clu.flatB (os' t) = true) ∧ Clu.RunE Try.prog 50 (Clu.loopNo Try.f24 0) 35 1000 (Clu.mkFr 35 (Clu.std [0, 1, 5] [.s n N, .s m M, .i .i64 (.ofNat at_)] [4, 7, 8, 9, 11, 12, 13, 20, 34] os)) (Clu.mkH .e ([] ++ (Clu.layB []))) 1000 (Clu.exOf 0) (Clu.mkFr 35 (Clu.std [0, 1, 5] [(Clu.AV.s n N), (Clu.AV.s m M), (Clu.AV.i IntKind.i64 (Int.ofNat (at_ + (1 + (Clu.byteN N at_)))))] [4, 7, 8, 9, 11, 12, 13, 20, 34] os')) (Clu.mkH .e ([] ++ (Clu.layB []))) 1000 :=
  Clu.segM (vs := [(Clu.AV.s n N), (Clu.AV.s m M), (Clu.AV.i IntKind.i64 (Int.ofNat (at_ + (1 + (Clu.byteN N at_)))))]) (cs := []) 0 0 [0, 1, 5] [] (Clu.evL_ok Clu.plain (Clu.noX_ok) (Clu.drK_ok Clu.mixed) (Clu.noL_ok) 50) (Clu.layB_bs rfl (by decide) (by decide)) hos ((((((((((((((((withR_raw n N m M at_ os)).trans (Clu.needT_eq (Clu.inR_int (k := .i64) (half := 9223372036854775808) rfl n1) _ _)).trans (Clu.forkB_t (Clu.iLt_t c1) _ _)).trans (Clu.needT_eq (Clu.blt_iff.2 n2) _ _)).trans (Clu.needT_eq (Clu.inR_nat (k := .i64) n3) _ _)).trans (Clu.needT_eq (Clu.inR_nat (k := .i64) n4) _ _)).trans (Clu.needT_eq (Clu.inR_nat (k := .i64) n5) _ _)).trans (Clu.needT_eq (hos _) _ _)).trans (Clu.needT_eq (hos _) _ _)).trans (Clu.needT_eq (hos _) _ _)).trans (Clu.needT_eq (hos _) _ _)).trans (Clu.needT_eq (hos _) _ _)).trans (Clu.needT_eq (hos _) _ _)).trans (Clu.needT_eq (hos _) _ _)).trans (Clu.needT_eq (hos _) _ _)) rfl rfl rfl (by decide) rfl (by simp [Clu.Blk.und, Clu.AV.und, Clu.AV.unds]) rfl (Clu.newH_ro rfl) (by simp [Clu.AV.und, Clu.AV.unds, Clu.AV.cells, Clu.unds_splice])
set_option maxRecDepth 10000000 in
theorem withF_raw (lw : Nat → Nat → Nat) (my : Nat → Nat → Bool) (n N m M e : Nat) : (Clu.layK [] .e fun h => Clu.runL (Clu.addL (Clu.noL) (Clu.loopNo Try.f24 0) 4 (Clu.loopM [3000018, 3000026, 3000040] Try.prog (Clu.loopNo Try.f24 0) [0, 1, 5] [4, 7, 8, 9, 11, 12, 13, 20, 34] [] [] (fun _ _ _ => .leaf (2, [0, 1, 5], [.s n N, .s m M, .i .i64 (.ofNat e)], [], 1000)))) Try.prog (Clu.tell (Clu.addB (Clu.addB Clu.noX 35 (Clu.decH (lowH lw))) 17 (Clu.decH (mayH my))) 24 300004030000263000018) (1000) 1000 24 [.s n N, .s m M] h 1000) = Clu.needT ((Nat.blt n 9000000000000000000)) (.err 96 1) (Clu.forkB ((Bool.not (my n N))) (Clu.needT ((Nat.blt m 9000000000000000000)) (.err 96 1) (Clu.forkB ((Bool.not (my m M))) (Clu.needP ((Clu.loopNo Try.f24 0) = (Clu.loopNo Try.f24 0)) (fun _ => .err 91 0) (fun h596 => Clu.needP (Clu.LoopQ (Try.prog) ((Clu.loopNo Try.f24 0)) (995) (35) (1000) ([]) (1000) (2) ([0, 1, 5]) ([(Clu.AV.s n N), (Clu.AV.s m M), (Clu.AV.i IntKind.i64 (Int.ofNat 0))]) ([4, 7, 8, 9, 11, 12, 13, 20, 34]) ([0, 1, 5]) ([(Clu.AV.s n N), (Clu.AV.s m M), (Clu.AV.i IntKind.i64 (Int.ofNat e))]) ([]) (1000)) (fun _ => .err 93 1) (fun h595 => Clu.needT ((Nat.ble e n)) (.err 20 0) (Clu.needT ((Nat.blt (n - e) 9000000000000000000)) (.err 96 1) (Clu.needT ((Nat.blt m 9000000000000000000)) (.err 96 1) ((Clu.Out.ok (Clu.AV.b (Clu.eqNs (n - e) (lw (n - e) (Clu.maskN (n - e) (Nat.shiftRight N (8 * e)))) m (lw m M)))))))))) ((Clu.Out.ok (Clu.AV.b false))))) ((Clu.Out.ok (Clu.AV.b false)))) := by kernel_rfl
set_option linter.unusedVariables false in
theorem withF_0 (lw : Nat → Nat → Nat) (my : Nat → Nat → Bool) (n N m M e : Nat) (hX : Clu.XOK Try.prog (Clu.addB (Clu.addB Clu.noX 35 (Clu.decH (lowH lw))) 17 (Clu.decH (mayH my))))  (n1 : n < 9000000000000000000 := by omega) (c1 : (my n N) = true) (n2 : m < 9000000000000000000 := by omega) (c2 : (my m M) = true) (p_h595 : Clu.LoopQ (Try.prog) ((Clu.loopNo Try.f24 0)) (995) (35) (1000) ([]) (1000) (2) ([0, 1, 5]) ([(Clu.AV.s n N), (Clu.AV.s m M), (Clu.AV.i IntKind.i64 (Int.ofNat 0))]) ([4, 7, 8, 9, 11, 12, 13, 20, 34]) ([0, 1, 5]) ([(Clu.AV.s n N), (Clu.AV.s m M), (Clu.AV.i IntKind.i64 (Int.ofNat e))]) ([]) (1000)) (n3 : e ≤ n := by omega) (n4 : (n - e) < 9000000000000000000 := by omega) (n5 : m < 9000000000000000000 := by omega) : Clu.Fact Try.prog 24 [] [.s n N, .s m M] (Clu.AV.b (Clu.eqNs (n - e) (lw (n - e) (Clu.maskN (n - e) (Nat.shiftRight N (8 * e)))) m (lw m M))) :=
  Clu.factL Clu.plain (Clu.tell_ok (hX)) Clu.mixed (Clu.addL_ok (Clu.noL_ok) Clu.loopM_ok) (((((((((((withF_raw lw my n N m M e)).trans (Clu.needT_eq (Clu.blt_iff.2 n1) _ _)).trans (Clu.forkB_f (congrArg not (c1)) _ _)).trans (Clu.needT_eq (Clu.blt_iff.2 n2) _ _)).trans (Clu.forkB_f (congrArg not (c2)) _ _)).trans (Clu.needP_eq rfl _ _)).trans (Clu.needP_eq p_h595 _ _)).trans (Clu.needT_eq (Clu.ble_iff.2 n3) _ _)).trans (Clu.needT_eq (Clu.blt_iff.2 n4) _ _)).trans (Clu.needT_eq (Clu.blt_iff.2 n5) _ _)) rfl (rfl)
set_option linter.unusedVariables false in
theorem withF_1 (lw : Nat → Nat → Nat) (my : Nat → Nat → Bool) (n N m M e : Nat) (hX : Clu.XOK Try.prog (Clu.addB (Clu.addB Clu.noX 35 (Clu.decH (lowH lw))) 17 (Clu.decH (mayH my))))  (n1 : n < 9000000000000000000 := by omega) (c1 : (my n N) = true) (n2 : m < 9000000000000000000 := by omega) (c2 : (my m M) = false) : Clu.Fact Try.prog 24 [] [.s n N, .s m M] (Clu.AV.b false) :=
  Clu.factL Clu.plain (Clu.tell_ok (hX)) Clu.mixed (Clu.addL_ok (Clu.noL_ok) Clu.loopM_ok) ((((((withF_raw lw my n N m M e)).trans (Clu.needT_eq (Clu.blt_iff.2 n1) _ _)).trans (Clu.forkB_f (congrArg not (c1)) _ _)).trans (Clu.needT_eq (Clu.blt_iff.2 n2) _ _)).trans (Clu.forkB_t (congrArg not (c2)) _ _)) rfl (rfl)
set_option linter.unusedVariables false in
theorem withF_2 (lw : Nat → Nat → Nat) (my : Nat → Nat → Bool) (n N m M e : Nat) (hX : Clu.XOK Try.prog (Clu.addB (Clu.addB Clu.noX 35 (Clu.decH (lowH lw))) 17 (Clu.decH (mayH my))))  (n1 : n < 9000000000000000000 := by omega) (c1 : (my n N) = false) : Clu.Fact Try.prog 24 [] [.s n N, .s m M] (Clu.AV.b false) :=
  Clu.factL Clu.plain (Clu.tell_ok (hX)) Clu.mixed (Clu.addL_ok (Clu.noL_ok) Clu.loopM_ok) ((((withF_raw lw my n N m M e)).trans (Clu.needT_eq (Clu.blt_iff.2 n1) _ _)).trans (Clu.forkB_t (congrArg not (c1)) _ _)) rfl (rfl)
set_option maxRecDepth 10000000 in
theorem sameF_raw (lw : Nat → Nat → Nat) (my : Nat → Nat → Bool) (n N m M : Nat) : (Clu.layK [] .e fun h => Clu.runL (Clu.noL) Try.prog (Clu.tell (Clu.addB (Clu.addB Clu.noX 35 (Clu.decH (lowH lw))) 17 (Clu.decH (mayH my))) 22 30000223000014) (1000) 1000 22 [.s n N, .s m M] h 1000) = Clu.needT ((Nat.blt n 9000000000000000000)) (.err 96 1) (Clu.forkB ((my n N)) ((Clu.Out.ok (Clu.AV.b false))) (Clu.needT ((Nat.blt m 9000000000000000000)) (.err 96 1) (Clu.forkB ((my m M)) ((Clu.Out.ok (Clu.AV.b false))) (Clu.needT ((Nat.blt n 9000000000000000000)) (.err 96 1) (Clu.needT ((Nat.blt m 9000000000000000000)) (.err 96 1) ((Clu.Out.ok (Clu.AV.b (Clu.eqNs n (lw n N) m (lw m M)))))))))) := by kernel_rfl
set_option linter.unusedVariables false in
theorem sameF_0 (lw : Nat → Nat → Nat) (my : Nat → Nat → Bool) (n N m M : Nat) (hX : Clu.XOK Try.prog (Clu.addB (Clu.addB Clu.noX 35 (Clu.decH (lowH lw))) 17 (Clu.decH (mayH my))))  (n1 : n < 9000000000000000000 := by omega) (c1 : (my n N) = false) : Clu.Fact Try.prog 22 [] [.s n N, .s m M] (Clu.AV.b false) :=
  Clu.factL Clu.plain (Clu.tell_ok (hX)) Clu.mixed (Clu.noL_ok) ((((sameF_raw lw my n N m M)).trans (Clu.needT_eq (Clu.blt_iff.2 n1) _ _)).trans (Clu.forkB_f (c1) _ _)) rfl (rfl)
set_option linter.unusedVariables false in
theorem sameF_1 (lw : Nat → Nat → Nat) (my : Nat → Nat → Bool) (n N m M : Nat) (hX : Clu.XOK Try.prog (Clu.addB (Clu.addB Clu.noX 35 (Clu.decH (lowH lw))) 17 (Clu.decH (mayH my))))  (n1 : n < 9000000000000000000 := by omega) (c1 : (my n N) = true) (n2 : m < 9000000000000000000 := by omega) (c2 : (my m M) = false) : Clu.Fact Try.prog 22 [] [.s n N, .s m M] (Clu.AV.b false) :=
  Clu.factL Clu.plain (Clu.tell_ok (hX)) Clu.mixed (Clu.noL_ok) ((((((sameF_raw lw my n N m M)).trans (Clu.needT_eq (Clu.blt_iff.2 n1) _ _)).trans (Clu.forkB_t (c1) _ _)).trans (Clu.needT_eq (Clu.blt_iff.2 n2) _ _)).trans (Clu.forkB_f (c2) _ _)) rfl (rfl)
set_option linter.unusedVariables false in
theorem sameF_2 (lw : Nat → Nat → Nat) (my : Nat → Nat → Bool) (n N m M : Nat) (hX : Clu.XOK Try.prog (Clu.addB (Clu.addB Clu.noX 35 (Clu.decH (lowH lw))) 17 (Clu.decH (mayH my))))  (n1 : n < 9000000000000000000 := by omega) (c1 : (my n N) = true) (n2 : m < 9000000000000000000 := by omega) (c2 : (my m M) = true) (n3 : n < 9000000000000000000 := by omega) (n4 : m < 9000000000000000000 := by omega) : Clu.Fact Try.prog 22 [] [.s n N, .s m M] (Clu.AV.b (Clu.eqNs n (lw n N) m (lw m M))) :=
  Clu.factL Clu.plain (Clu.tell_ok (hX)) Clu.mixed (Clu.noL_ok) ((((((((sameF_raw lw my n N m M)).trans (Clu.needT_eq (Clu.blt_iff.2 n1) _ _)).trans (Clu.forkB_t (c1) _ _)).trans (Clu.needT_eq (Clu.blt_iff.2 n2) _ _)).trans (Clu.forkB_t (c2) _ _)).trans (Clu.needT_eq (Clu.blt_iff.2 n3) _ _)).trans (Clu.needT_eq (Clu.blt_iff.2 n4) _ _)) rfl (rfl)
set_option maxRecDepth 10000000 in
theorem foldF_raw (lw : Nat → Nat → Nat) (my : Nat → Nat → Bool) (n N : Nat) : (Clu.layK [] .e fun h => Clu.runL (Clu.noL) Try.prog (Clu.tell (Clu.addB (Clu.addB Clu.noX 35 (Clu.decH (lowH lw))) 17 (Clu.decH (mayH my))) 18 3000010) (1000) 1000 18 [.s n N] h 1000) = Clu.needT ((Nat.blt n 9000000000000000000)) (.err 96 1) (Clu.forkB ((Bool.not (my n N))) (Clu.needT ((Nat.blt n 9000000000000000000)) (.err 96 1) ((Clu.Out.ok (Clu.AV.s n (lw n N))))) ((Clu.Out.ok (Clu.AV.s 0 0)))) := by kernel_rfl
set_option linter.unusedVariables false in
theorem foldF_0 (lw : Nat → Nat → Nat) (my : Nat → Nat → Bool) (n N : Nat) (hX : Clu.XOK Try.prog (Clu.addB (Clu.addB Clu.noX 35 (Clu.decH (lowH lw))) 17 (Clu.decH (mayH my))))  (n1 : n < 9000000000000000000 := by omega) (c1 : (my n N) = true) (n2 : n < 9000000000000000000 := by omega) : Clu.Fact Try.prog 18 [] [.s n N] (Clu.AV.s n (lw n N)) :=
  Clu.factL Clu.plain (Clu.tell_ok (hX)) Clu.mixed (Clu.noL_ok) (((((foldF_raw lw my n N)).trans (Clu.needT_eq (Clu.blt_iff.2 n1) _ _)).trans (Clu.forkB_f (congrArg not (c1)) _ _)).trans (Clu.needT_eq (Clu.blt_iff.2 n2) _ _)) rfl (rfl)
set_option linter.unusedVariables false in
theorem foldF_1 (lw : Nat → Nat → Nat) (my : Nat → Nat → Bool) (n N : Nat) (hX : Clu.XOK Try.prog (Clu.addB (Clu.addB Clu.noX 35 (Clu.decH (lowH lw))) 17 (Clu.decH (mayH my))))  (n1 : n < 9000000000000000000 := by omega) (c1 : (my n N) = false) : Clu.Fact Try.prog 18 [] [.s n N] (Clu.AV.s 0 0) :=
  Clu.factL Clu.plain (Clu.tell_ok (hX)) Clu.mixed (Clu.noL_ok) ((((foldF_raw lw my n N)).trans (Clu.needT_eq (Clu.blt_iff.2 n1) _ _)).trans (Clu.forkB_t (congrArg not (c1)) _ _)) rfl (rfl)
/-! May -/
/-- where the labels of a text end; none, where one is too long; so many rounds at most -/
def mayGo (l : List Nat) : Nat → Nat → Option Nat
  | 0, at_ => some at_
  | f + 1, at_ => if at_ < l.length ∧ l.getD at_ 0 ≠ 0 then (if 63 < l.getD at_ 0 then none else mayGo l f (at_ + (1 + l.getD at_ 0))) else some at_
theorem mayGo_labs (l : List Nat) : ∀ (f at_ : Nat), l.length < at_ + f → match mayGo l f at_ with
    | none => labs (l.drop at_) = none
    | some e => ((labs (l.drop at_)).isSome = true ↔ e + 1 = l.length)
  | 0, at_, hf => by
    show (labs (l.drop at_)).isSome = true ↔ at_ + 1 = l.length
    rw [List.drop_eq_nil_of_le (by omega), labs_nil]
    constructor
    · intro h; cases h
    · intro h; omega
  | f + 1, at_, hf => by
    unfold mayGo
    by_cases h : at_ < l.length
    · rw [getD_drop h]
      by_cases h0 : l.getD at_ 0 = 0
      · rw [if_neg (fun k => k.2 h0), h0, labs_zero]
        show (if l.drop (at_ + 1) = [] then some [] else none).isSome = true ↔ at_ + 1 = l.length
        by_cases hd : l.drop (at_ + 1) = []
        · rw [if_pos hd]
          rw [List.drop_eq_nil_iff] at hd
          exact ⟨fun _ => by omega, fun _ => rfl⟩
        · rw [if_neg hd]
          rw [List.drop_eq_nil_iff] at hd
          exact ⟨fun k => (by cases k), fun k => by omega⟩
      · rw [if_pos ⟨h, h0⟩, labs_cons h0]
        by_cases h63 : 63 < l.getD at_ 0
        · rw [if_pos h63, if_neg (fun k => by omega)]
        · rw [if_neg h63]
          have ih := mayGo_labs l f (at_ + (1 + l.getD at_ 0)) (by omega)
          by_cases hc : l.getD at_ 0 ≤ (l.drop (at_ + 1)).length
          · rw [if_pos ⟨by omega, hc⟩]
            have e : l.drop (at_ + (1 + l.getD at_ 0)) = (l.drop (at_ + 1)).drop (l.getD at_ 0) := by rw [List.drop_drop]; congr 1; omega
            rw [e] at ih
            cases hm : mayGo l f (at_ + (1 + l.getD at_ 0)) with
            | none => rw [hm] at ih; simp only at ih; rw [ih]; rfl
            | some e => rw [hm] at ih; simp only at ih; rw [Option.isSome_map]; exact ih
          · rw [if_neg (fun k => hc k.2)]
            rw [List.length_drop] at hc
            have e : l.drop (at_ + (1 + l.getD at_ 0)) = [] := List.drop_eq_nil_of_le (by omega)
            rw [e, labs_nil] at ih
            cases hm : mayGo l f (at_ + (1 + l.getD at_ 0)) with
            | none => rfl
            | some e => rw [hm] at ih; exact ih
    · rw [if_neg (fun k => h k.1), List.drop_eq_nil_of_le (by omega), labs_nil]
      show (none : Option (List (List Nat))).isSome = true ↔ at_ + 1 = l.length
      constructor
      · intro h; cases h
      · intro h; omega
theorem may_A {l : List Nat} (hB : Clu.B8 l) (hn : l.length ≤ 255) {e : Nat} : ∀ (f at_ : Nat), l.length < at_ + f → mayGo l f at_ = some e → Clu.LoopQ Try.prog (Clu.loopNo Try.f17 0) (51 + f) 33 1000 ([] ++ Clu.layB []) 1000 2 [0, 3] [.s l.length (Clu.pk l), .i .i64 (.ofNat at_)] [2, 6, 10, 11, 15, 16, 20, 32] [0, 3] [.s l.length (Clu.pk l), .i .i64 (.ofNat e)] ([] ++ Clu.layB []) 1000
  | 0, at_, hf, hg => by
    cases hg
    exact Clu.LoopQ.out (n := 50) (by simp [Clu.exOf]) (by omega) fun os ho => mayR_0 _ _ _ os ho hn (by omega)
  | f + 1, at_, hf, hg => by
    have hb := Clu.byteN_pk hB at_
    unfold mayGo at hg
    split at hg
    · rename_i hc
      split at hg
      · cases hg
      · rename_i h63
        refine Clu.LoopQ.more (show 50 ≤ 51 + f by omega) (fun os ho => mayR_2 _ _ at_ os ho hn hc.1 (c2 := by rw [hb]; exact hc.2) (c3 := by rw [hb]; omega)) ?_
        rw [hb]
        exact may_A hB hn f _ (by omega) hg
    · rename_i hc
      obtain rfl : at_ = e := by simpa using hg
      by_cases h1 : at_ < l.length
      · have h2 : l.getD at_ 0 = 0 := by
          by_cases h0 : l.getD at_ 0 = 0
          · exact h0
          · exact absurd ⟨h1, h0⟩ hc
        exact Clu.LoopQ.out (n := 50) (by simp [Clu.exOf]) (by omega) fun os ho => mayR_1 _ _ at_ os ho hn h1 (c2 := by rw [hb]; exact h2)
      · exact Clu.LoopQ.out (n := 50) (by simp [Clu.exOf]) (by omega) fun os ho => mayR_0 _ _ _ os ho hn (by omega)
theorem may_B {l : List Nat} (hB : Clu.B8 l) (hn : l.length ≤ 255) : ∀ (f at_ : Nat), l.length < at_ + f → mayGo l f at_ = none → Clu.LoopQ Try.prog (Clu.loopNo Try.f17 0) (51 + f) 33 1000 ([] ++ Clu.layB []) 1000 1 [0, 3] [.s l.length (Clu.pk l), .i .i64 (.ofNat at_)] [2, 6, 10, 11, 15, 16, 20, 32] [2] [.b false] ([] ++ Clu.layB []) 1000
  | 0, at_, hf, hg => by cases hg
  | f + 1, at_, hf, hg => by
    have hb := Clu.byteN_pk hB at_
    unfold mayGo at hg
    split at hg
    · rename_i hc
      split at hg
      · rename_i h63
        exact Clu.LoopQ.out (n := 50) (by simp [Clu.exOf]) (by omega) fun os ho => mayR_3 _ _ at_ os ho hn hc.1 (c2 := by rw [hb]; exact hc.2) (c3 := by rw [hb]; exact h63)
      · rename_i h63
        refine Clu.LoopQ.more (show 50 ≤ 51 + f by omega) (fun os ho => mayR_2 _ _ at_ os ho hn hc.1 (c2 := by rw [hb]; exact hc.2) (c3 := by rw [hb]; omega)) ?_
        rw [hb]
        exact may_B hB hn f _ (by omega) hg
    · cases hg
theorem may_fact {l : List Nat} (hB : Clu.B8 l) (hl : l.length < 9000000000000000000) : Clu.Fact Try.prog 17 [] [.s l.length (Clu.pk l)] (.b (mayB l)) := by
  unfold mayB
  by_cases hn : l.length ≤ 255
  · rw [decide_eq_true hn, Bool.true_and]
    have hg := mayGo_labs l 944 0 (by omega)
    rw [List.drop_zero] at hg
    cases hm : mayGo l 944 0 with
    | none =>
      rw [hm] at hg
      simp only at hg
      rw [hg]
      exact mayF_1 _ _ 0 true hn rfl (may_B hB hn 944 0 (by omega) hm)
    | some e =>
      rw [hm] at hg
      simp only at hg
      have := mayF_0 _ _ e false hn rfl (may_A hB hn 944 0 (by omega) hm)
      rw [Clu.iEq_dec] at this
      have e2 : (labs l).isSome = decide (Int.ofNat e = Int.ofNat l.length - Int.ofNat 1) := by
        rw [Bool.eq_iff_iff, hg, decide_eq_true_iff]
        simp only [Int.ofNat_eq_natCast]
        omega
      rw [e2]
      exact this
  · rw [decide_eq_false hn, Bool.false_and]
    exact mayF_2 _ _ 0 true (by omega)
/-! what stands for May and lower -/
noncomputable def lwF (n N : Nat) : Nat := Clu.pk (low (Clu.lst n N))
noncomputable def myF (n N : Nat) : Bool := mayB (Clu.lst n N)
theorem lowH_ok : Clu.HandOK Try.prog 35 (Clu.decH (lowH lwF)) := Clu.decH_ok fun args v h => by
  unfold lowH at h
  split at h
  · rename_i n N
    obtain ⟨h1, h2⟩ := h
    have h2 : Clu.AV.s n (lwF n N) = v := h2
    subst h2
    refine Clu.Fact.s1 ?_
    have := lower_fact (Clu.lst_b8 n N) (by rw [Clu.lst_length]; exact Clu.blt_iff.1 h1)
    rw [low_length, Clu.lst_length] at this
    rw [Clu.lst_length]
    exact this
  · exact h.elim
theorem mayH_ok : Clu.HandOK Try.prog 17 (Clu.decH (mayH myF)) := Clu.decH_ok fun args v h => by
  unfold mayH at h
  split at h
  · rename_i n N
    obtain ⟨h1, h2⟩ := h
    have h2 : Clu.AV.b (myF n N) = v := h2
    subst h2
    exact Clu.Fact.s1 (may_fact (Clu.lst_b8 n N) (by rw [Clu.lst_length]; exact Clu.blt_iff.1 h1))
  · exact h.elim
theorem nmX_ok : Clu.XOK Try.prog (Clu.addB (Clu.addB Clu.noX 35 (Clu.decH (lowH lwF))) 17 (Clu.decH (mayH myF))) := Clu.addB_ok (Clu.addB_ok Clu.noX_ok lowH_ok) mayH_ok
theorem lwF_pk {l : List Nat} (h : Clu.B8 l) : lwF l.length (Clu.pk l) = Clu.pk (low l) := by unfold lwF; rw [Clu.lst_pk h]
theorem myF_pk {l : List Nat} (h : Clu.B8 l) : myF l.length (Clu.pk l) = mayB l := by unfold myF; rw [Clu.lst_pk h]
/-! Same, Fold -/
def sameB (l m : List Nat) : Bool := mayB l && (mayB m && decide (low l = low m))
def foldL (l : List Nat) : List Nat := if mayB l = true then low l else []
theorem eqNs_low {l m : List Nat} (h : Clu.B8 l) (k : Clu.B8 m) : Clu.eqNs l.length (Clu.pk (low l)) m.length (Clu.pk (low m)) = decide (low l = low m) := by
  have := Clu.eqNs_iff (low_b8 h) (low_b8 k)
  rw [low_length, low_length] at this
  exact this
theorem same_fact {l m : List Nat} (h : Clu.B8 l) (k : Clu.B8 m) (hl : l.length < 9000000000000000000) (hm : m.length < 9000000000000000000) : Clu.Fact Try.prog 22 [] [.s l.length (Clu.pk l), .s m.length (Clu.pk m)] (.b (sameB l m)) := by
  unfold sameB
  have el := myF_pk h
  have em := myF_pk k
  cases h1 : mayB l with
  | false => exact sameF_0 lwF myF l.length (Clu.pk l) m.length (Clu.pk m) nmX_ok (by omega) (by rw [el]; exact h1)
  | true =>
    cases h2 : mayB m with
    | false => exact sameF_1 lwF myF l.length (Clu.pk l) m.length (Clu.pk m) nmX_ok (by omega) (by rw [el]; exact h1) (by omega) (by rw [em]; exact h2)
    | true =>
      have := sameF_2 lwF myF l.length (Clu.pk l) m.length (Clu.pk m) nmX_ok (by omega) (by rw [el]; exact h1) (by omega) (by rw [em]; exact h2) (by omega) (by omega)
      rw [lwF_pk h, lwF_pk k, eqNs_low h k] at this
      exact this
theorem fold_fact {l : List Nat} (h : Clu.B8 l) (hl : l.length < 9000000000000000000) : Clu.Fact Try.prog 18 [] [.s l.length (Clu.pk l)] (.s (foldL l).length (Clu.pk (foldL l))) := by
  unfold foldL
  have el := myF_pk h
  cases h1 : mayB l with
  | false => exact foldF_1 lwF myF l.length (Clu.pk l) nmX_ok (by omega) (by rw [el]; exact h1)
  | true =>
    have := foldF_0 lwF myF l.length (Clu.pk l) nmX_ok (by omega) (by rw [el]; exact h1) (by omega)
    rw [lwF_pk h] at this
    rw [if_pos rfl, low_length]
    exact this
/-! Within -/
def withinB (l m : List Nat) : Bool := match labs l, labs m with
  | some L, some M => decide (l.length ≤ 255) && (decide (m.length ≤ 255) && withinL L M)
  | _, _ => false
theorem cut_len (L : List (List Nat)) (k : Nat) : (wire (cutTo L k)).length ≤ (wire L).length := (suffix_wire (cutTo_suffix L k)).1
theorem with_A {L : List (List Nat)} (hB : Clu.B8 (wire L)) (hn : (wire L).length ≤ 255) {m M : Nat} (hm : 1 ≤ m) (hm2 : m ≤ 255) : ∀ (K p : List (List Nat)), L = p ++ K → LabOk K → Clu.LoopQ Try.prog (Clu.loopNo Try.f24 0) (51 + K.length) 35 1000 ([] ++ Clu.layB []) 1000 2 [0, 1, 5] [.s (wire L).length (Clu.pk (wire L)), .s m M, .i .i64 (.ofNat ((wire L).length - (wire K).length))] [4, 7, 8, 9, 11, 12, 13, 20, 34] [0, 1, 5] [.s (wire L).length (Clu.pk (wire L)), .s m M, .i .i64 (.ofNat ((wire L).length - (wire (cutTo K m)).length))] ([] ++ Clu.layB []) 1000
  | [], p, he, hK => by
    have := wire_pos L
    refine Clu.LoopQ.out (n := 50) (by simp [Clu.exOf]) (by omega) fun os ho => withR_0 _ _ m M _ os ho hn (c1 := ?_)
    show ((wire L).length : Int) - (((wire L).length - 1 : Nat) : Int) ≤ (m : Int)
    omega
  | x :: K, p, he, hK => by
    have hx := hK.head
    have hlen : (wire L).length = (wire p).length - 1 + (wire (x :: K)).length := by rw [he, wire_app_length]
    have hpos := wire_pos p
    have hw : (wire (x :: K)).length = x.length + 1 + (wire K).length := by simp [wire]; omega
    unfold cutTo
    by_cases h : m < (wire (x :: K)).length
    · rw [if_pos h]
      have hb : Clu.byteN (Clu.pk (wire L)) ((wire L).length - (wire (x :: K)).length) = x.length := by
        rw [Clu.byteN_pk hB]
        obtain ⟨q, h1, h2⟩ := wire_app p (x :: K)
        rw [← he] at h1
        have e : (wire L).length - (wire (x :: K)).length = q.length := by rw [hlen]; omega
        rw [e, h1, List.getD_eq_getElem?_getD, List.getElem?_append_right (Nat.le_refl _), Nat.sub_self]
        rfl
      refine Clu.LoopQ.more (show 50 ≤ 51 + K.length by omega) (fun os ho => withR_1 _ _ m M _ os ho hn (c1 := by omega) (n2 := by omega) (n3 := by rw [hb]; omega) (n4 := by rw [hb]; omega) (n5 := by rw [hb]; omega)) ?_
      rw [hb]
      have := with_A hB hn (M := M) hm hm2 K (p ++ [x]) (by rw [he, List.append_assoc]; rfl) hK.tail
      have e : (wire L).length - (wire (x :: K)).length + (1 + x.length) = (wire L).length - (wire K).length := by omega
      rw [e]
      exact this
    · rw [if_neg h]
      exact Clu.LoopQ.out (n := 50) (by simp [Clu.exOf]) (by omega) fun os ho => withR_0 _ _ m M _ os ho hn (c1 := by omega)
theorem within_fact {l m : List Nat} (h : Clu.B8 l) (k : Clu.B8 m) (hl : l.length < 9000000000000000000) (hm : m.length < 9000000000000000000) : Clu.Fact Try.prog 24 [] [.s l.length (Clu.pk l), .s m.length (Clu.pk m)] (.b (withinB l m)) := by
  have el := myF_pk h
  have em := myF_pk k
  cases h1 : mayB l with
  | false =>
    have e : withinB l m = false := by
      unfold withinB
      split
      · rename_i L M e1 e2
        unfold mayB at h1
        rw [e1] at h1
        simp only [Option.isSome_some, Bool.and_true] at h1
        rw [h1]; rfl
      · rfl
    rw [e]
    exact withF_2 lwF myF l.length (Clu.pk l) m.length (Clu.pk m) 0 nmX_ok (by omega) (by rw [el]; exact h1)
  | true =>
    cases h2 : mayB m with
    | false =>
      have e : withinB l m = false := by
        unfold withinB
        split
        · rename_i L M e1 e2
          unfold mayB at h2
          rw [e2] at h2
          simp only [Option.isSome_some, Bool.and_true] at h2
          rw [h2, Bool.false_and, Bool.and_false]
        · rfl
      rw [e]
      exact withF_1 lwF myF l.length (Clu.pk l) m.length (Clu.pk m) 0 nmX_ok (by omega) (by rw [el]; exact h1) (by omega) (by rw [em]; exact h2)
    | true =>
      obtain ⟨L, rfl, oL, hL⟩ := mayB_iff.1 h1
      obtain ⟨M, rfl, oM, hM⟩ := mayB_iff.1 h2
      have e : withinB (wire L) (wire M) = withinL L M := by
        unfold withinB
        rw [labs_wire oL, labs_wire oM]
        simp only [decide_eq_true hL, decide_eq_true hM, Bool.true_and]
      rw [e]
      have hc := cut_len L (wire M).length
      have hp := with_A h hL (M := Clu.pk (wire M)) (wire_pos M) hM L [] rfl oL
      rw [Nat.sub_self] at hp
      have hLl : L.length ≤ (wire L).length := by
        clear hp hc e el em h1 h2 hl h hL
        induction L with
        | nil => exact Nat.zero_le _
        | cons x L ih =>
          have := ih oL.tail
          simp only [wire, List.length_cons, List.length_append]; omega
      have := withF_0 lwF myF (wire L).length (Clu.pk (wire L)) (wire M).length (Clu.pk (wire M)) ((wire L).length - (wire (cutTo L (wire M).length)).length) nmX_ok (by omega) (by rw [el]; exact h1) (by omega) (by rw [em]; exact h2) (hp.upto (by omega)) (by omega) (by omega) (by omega)
      have hs := cutTo_suffix L (wire M).length
      have hcw : (wire L).drop ((wire L).length - (wire (cutTo L (wire M).length)).length) = wire (cutTo L (wire M).length) := by
        obtain ⟨p, hp⟩ := hs
        obtain ⟨q, q1, q2⟩ := wire_app p (cutTo L (wire M).length)
        rw [hp] at q1
        have e1 : (wire L).length - (wire (cutTo L (wire M).length)).length = q.length := by rw [q1, List.length_append]; omega
        rw [e1]
        conv => lhs; rw [q1]
        exact List.drop_left
      have e3 : (wire L).length - ((wire L).length - (wire (cutTo L (wire M).length)).length) = (wire (cutTo L (wire M).length)).length := by omega
      have hcb : Clu.B8 (wire (cutTo L (wire M).length)) := by rw [← hcw]; exact h.drop _
      rw [Clu.pk_part, hcw, e3, List.take_length, lwF_pk hcb, lwF_pk k, eqNs_low hcb k] at this
      have e4 : decide (low (wire (cutTo L (wire M).length)) = low (wire M)) = withinL L M := by
        unfold withinL
        rw [decide_eq_decide, low_wire_inj (fun x hx => oL x (hs.subset hx)) oM]
        exact within_cut
      rw [e4] at this
      exact this

end Go.Proofs.Ytmokdhmicdmgfaa
