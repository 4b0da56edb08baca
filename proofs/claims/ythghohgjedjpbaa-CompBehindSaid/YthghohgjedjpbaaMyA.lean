/-
  May.
-/
import Derived.Test.YthghohgjedjpbaaRdA
import Derived.Test.YthghohgjedjpbaaNmTh
namespace Go.Proofs.Ythghohgjedjpbaa
open Go.RowKit
set_option linter.unusedVariables false
set_option linter.unusedSimpArgs false
set_option maxRecDepth 100000

noncomputable def mayH (my : Nat → Nat → Bool) : List Clu.AV → Clu.Dec Clu.AV := fun args => match args with
  | [.s n N] => .need (Nat.blt n 9000000000000000000) (.leaf (.b (my n N)))
  | _ => .fail

set_option maxRecDepth 10000000 in
theorem mayR_raw (n N at_ : Nat) (os : Nat → Option Clu.AV) : Clu.evL (Clu.noL) Try.prog (Clu.noX) 50 33 1000 (Clu.loopNo Try.f12 0) (Clu.tellF [3000012, 3000022, 3000032, 3000040] (Clu.mkFr 33 (Clu.std [0, 3] [.s n N, .i .i64 (.ofNat at_)] [2, 6, 10, 11, 15, 16, 20, 32] os))) (Clu.mkH (Clu.mkH .e (Clu.layB [])) []) 1000 (Clu.finM 33 1000 [2, 6, 10, 11, 15, 16, 20, 32] 0 [(0, [0, 3], [], none), (1, [2], [], none), (2, [0, 3], [], none)]) = Clu.forkB ((Clu.iLt (Int.ofNat at_) (Int.ofNat n))) (Clu.needT ((Clu.flatB (os 2))) (.err 90 1) (Clu.needT ((Clu.flatB (os 6))) (.err 90 1) (Clu.needT ((Clu.flatB (os 20))) (.err 90 1) (Clu.needT ((Clu.flatB (os 32))) (.err 90 1) ((Clu.Out.ok (Clu.AV.tu [(Clu.AV.i IntKind.i64 (Int.ofNat 2)), (Clu.AV.s n N), (Clu.AV.i IntKind.i64 (Int.ofNat at_))]))))))) (Clu.needT ((Nat.blt at_ n)) (.err 22 6) (Clu.forkB ((Bool.not (Clu.iEq (Int.ofNat (Clu.byteN N at_)) (Int.ofNat 0)))) (Clu.needT ((Clu.flatB (os 2))) (.err 90 1) (Clu.needT ((Clu.flatB (os 6))) (.err 90 1) (Clu.needT ((Clu.flatB (os 20))) (.err 90 1) (Clu.needT ((Clu.flatB (os 32))) (.err 90 1) ((Clu.Out.ok (Clu.AV.tu [(Clu.AV.i IntKind.i64 (Int.ofNat 2)), (Clu.AV.s n N), (Clu.AV.i IntKind.i64 (Int.ofNat at_))]))))))) (Clu.needT ((Nat.blt at_ n)) (.err 22 6) (Clu.forkB ((Clu.iLt (Int.ofNat 63) (Int.ofNat (Clu.byteN N at_)))) (Clu.needT ((Nat.blt at_ n)) (.err 22 6) (Clu.needT ((Clu.inR IntKind.i64 (Int.ofNat (Clu.byteN N at_)))) (.err 10 20) (Clu.needT ((Clu.inR IntKind.i64 (Int.ofNat (1 + (Clu.byteN N at_))))) (.err 10 20) (Clu.needT ((Clu.inR IntKind.i64 (Int.ofNat (at_ + (1 + (Clu.byteN N at_)))))) (.err 10 20) (Clu.needT ((Clu.flatB (os 2))) (.err 90 1) (Clu.needT ((Clu.flatB (os 6))) (.err 90 1) (Clu.needT ((Clu.flatB (os 32))) (.err 90 1) ((Clu.Out.ok (Clu.AV.tu [(Clu.AV.i IntKind.i64 (Int.ofNat 0)), (Clu.AV.s n N), (Clu.AV.i IntKind.i64 (Int.ofNat (at_ + (1 + (Clu.byteN N at_)))))])))))))))) (Clu.needT ((Clu.flatB (os 6))) (.err 90 1) (Clu.needT ((Clu.flatB (os 32))) (.err 90 1) ((Clu.Out.ok (Clu.AV.tu [(Clu.AV.i IntKind.i64 (Int.ofNat 1)), (Clu.AV.b false)]))))))))) := by kernel_rfl
set_option linter.unusedVariables false in
theorem mayR_0 (n N at_ : Nat) (os : Nat → Option Clu.AV) (hos : ∀ t, Clu.flatB (os t) = true) (hn : n ≤ 255) (c1 : n ≤ at_) : ∃ os' : Nat → Option Clu.AV, (∀ t, Clu.flatB (os' t) = true) ∧ Clu.RunE Try.prog 50 (Clu.loopNo Try.f12 0) 33 1000 (Clu.mkFr 33 (Clu.std [0, 3] [.s n N, .i .i64 (.ofNat at_)] [2, 6, 10, 11, 15, 16, 20, 32] os)) (Clu.mkH .e ([] ++ (Clu.layB []))) 1000 (Clu.exOf 2) (Clu.mkFr 33 (Clu.std [0, 3] [(Clu.AV.s n N), (Clu.AV.i IntKind.i64 (Int.ofNat at_))] [2, 6, 10, 11, 15, 16, 20, 32] os')) (Clu.mkH .e ([] ++ (Clu.layB []))) 1000 :=
  Clu.segM (vs := [(Clu.AV.s n N), (Clu.AV.i IntKind.i64 (Int.ofNat at_))]) (cs := []) 2 2 [0, 3] [] (Clu.evL_ok Clu.plain (Clu.noX_ok) (Clu.drK_ok Clu.mixed) (Clu.noL_ok) 50) (Clu.layB_bs rfl (by decide) (by decide)) hos (((((((mayR_raw n N at_ os)).trans (Clu.forkB_f (Clu.iLt_f (Int.ofNat_le.2 c1)) _ _)).trans (Clu.needT_eq (hos _) _ _)).trans (Clu.needT_eq (hos _) _ _)).trans (Clu.needT_eq (hos _) _ _)).trans (Clu.needT_eq (hos _) _ _)) rfl rfl rfl (by decide) rfl (by simp [Clu.Blk.und, Clu.AV.und, Clu.AV.unds]) rfl (Clu.newH_ro rfl) (by simp [Clu.AV.und, Clu.AV.unds, Clu.AV.cells, Clu.unds_splice])
set_option linter.unusedVariables false in
theorem mayR_1 (n N at_ : Nat) (os : Nat → Option Clu.AV) (hos : ∀ t, Clu.flatB (os t) = true) (hn : n ≤ 255) (c1 : at_ < n) (n1 : at_ < n := by omega) (c2 : (Clu.byteN N at_) = 0) : ∃ os' : Nat → Option Clu.AV, (∀ t, Clu.flatB (os' t) = true) ∧ Clu.RunE Try.prog 50 (Clu.loopNo Try.f12 0) 33 1000 (Clu.mkFr 33 (Clu.std [0, 3] [.s n N, .i .i64 (.ofNat at_)] [2, 6, 10, 11, 15, 16, 20, 32] os)) (Clu.mkH .e ([] ++ (Clu.layB []))) 1000 (Clu.exOf 2) (Clu.mkFr 33 (Clu.std [0, 3] [(Clu.AV.s n N), (Clu.AV.i IntKind.i64 (Int.ofNat at_))] [2, 6, 10, 11, 15, 16, 20, 32] os')) (Clu.mkH .e ([] ++ (Clu.layB []))) 1000 :=
  Clu.segM (vs := [(Clu.AV.s n N), (Clu.AV.i IntKind.i64 (Int.ofNat at_))]) (cs := []) 2 2 [0, 3] [] (Clu.evL_ok Clu.plain (Clu.noX_ok) (Clu.drK_ok Clu.mixed) (Clu.noL_ok) 50) (Clu.layB_bs rfl (by decide) (by decide)) hos (((((((((mayR_raw n N at_ os)).trans (Clu.forkB_t (Clu.iLt_t (Int.ofNat_lt.2 c1)) _ _)).trans (Clu.needT_eq (Clu.blt_iff.2 n1) _ _)).trans (Clu.forkB_f (congrArg not (Clu.iEq_t (congrArg Int.ofNat c2))) _ _)).trans (Clu.needT_eq (hos _) _ _)).trans (Clu.needT_eq (hos _) _ _)).trans (Clu.needT_eq (hos _) _ _)).trans (Clu.needT_eq (hos _) _ _)) rfl rfl rfl (by decide) rfl (by simp [Clu.Blk.und, Clu.AV.und, Clu.AV.unds]) rfl (Clu.newH_ro rfl) (by simp [Clu.AV.und, Clu.AV.unds, Clu.AV.cells, Clu.unds_splice])
set_option linter.unusedVariables false in
theorem mayR_2 (n N at_ : Nat) (os : Nat → Option Clu.AV) (hos : ∀ t, Clu.flatB (os t) = true) (hn : n ≤ 255) (c1 : at_ < n) (n1 : at_ < n := by omega) (c2 : (Clu.byteN N at_) ≠ 0) (n2 : at_ < n := by omega) (c3 : (Clu.byteN N at_) ≤ 63) (n3 : at_ < n := by omega) (n4 : (Clu.byteN N at_) < 9223372036854775808 := by omega) (n5 : (1 + (Clu.byteN N at_)) < 9223372036854775808 := by omega) (n6 : (at_ + (1 + (Clu.byteN N at_))) < 9223372036854775808 := by omega) : ∃ os' : Nat → Option Clu.AV, (∀ t, Clu.flatB (os' t) = true) ∧ Clu.RunE Try.prog 50 (Clu.loopNo Try.f12 0) 33 1000 (Clu.mkFr 33 (Clu.std [0, 3] [.s n N, .i .i64 (.ofNat at_)] [2, 6, 10, 11, 15, 16, 20, 32] os)) (Clu.mkH .e ([] ++ (Clu.layB []))) 1000 (Clu.exOf 0) (Clu.mkFr 33 (Clu.std [0, 3] [(Clu.AV.s n N), (Clu.AV.i IntKind.i64 (Int.ofNat (at_ + (1 + (Clu.byteN N at_)))))] [2, 6, 10, 11, 15, 16, 20, 32] os')) (Clu.mkH .e ([] ++ (Clu.layB []))) 1000 :=
  Clu.segM (vs := [(Clu.AV.s n N), (Clu.AV.i IntKind.i64 (Int.ofNat (at_ + (1 + (Clu.byteN N at_)))))]) (cs := []) 0 0 [0, 3] [] (Clu.evL_ok Clu.plain (Clu.noX_ok) (Clu.drK_ok Clu.mixed) (Clu.noL_ok) 50) (Clu.layB_bs rfl (by decide) (by decide)) hos ((((((((((((((mayR_raw n N at_ os)).trans (Clu.forkB_t (Clu.iLt_t (Int.ofNat_lt.2 c1)) _ _)).trans (Clu.needT_eq (Clu.blt_iff.2 n1) _ _)).trans (Clu.forkB_t (congrArg not (Clu.iEq_f (fun hh => c2 (Int.ofNat.inj hh)))) _ _)).trans (Clu.needT_eq (Clu.blt_iff.2 n2) _ _)).trans (Clu.forkB_f (Clu.iLt_f (Int.ofNat_le.2 c3)) _ _)).trans (Clu.needT_eq (Clu.blt_iff.2 n3) _ _)).trans (Clu.needT_eq (Clu.inR_nat (k := .i64) n4) _ _)).trans (Clu.needT_eq (Clu.inR_nat (k := .i64) n5) _ _)).trans (Clu.needT_eq (Clu.inR_nat (k := .i64) n6) _ _)).trans (Clu.needT_eq (hos _) _ _)).trans (Clu.needT_eq (hos _) _ _)).trans (Clu.needT_eq (hos _) _ _)) rfl rfl rfl (by decide) rfl (by simp [Clu.Blk.und, Clu.AV.und, Clu.AV.unds]) rfl (Clu.newH_ro rfl) (by simp [Clu.AV.und, Clu.AV.unds, Clu.AV.cells, Clu.unds_splice])
set_option linter.unusedVariables false in
theorem mayR_3 (n N at_ : Nat) (os : Nat → Option Clu.AV) (hos : ∀ t, Clu.flatB (os t) = true) (hn : n ≤ 255) (c1 : at_ < n) (n1 : at_ < n := by omega) (c2 : (Clu.byteN N at_) ≠ 0) (n2 : at_ < n := by omega) (c3 : 63 < (Clu.byteN N at_)) : ∃ os' : Nat → Option Clu.AV, (∀ t, Clu.flatB (os' t) = true) ∧ Clu.RunE Try.prog 50 (Clu.loopNo Try.f12 0) 33 1000 (Clu.mkFr 33 (Clu.std [0, 3] [.s n N, .i .i64 (.ofNat at_)] [2, 6, 10, 11, 15, 16, 20, 32] os)) (Clu.mkH .e ([] ++ (Clu.layB []))) 1000 (Clu.exOf 1) (Clu.mkFr 33 (Clu.std [2] [(Clu.AV.b false)] [2, 6, 10, 11, 15, 16, 20, 32] os')) (Clu.mkH .e ([] ++ (Clu.layB []))) 1000 :=
  Clu.segM (vs := [(Clu.AV.b false)]) (cs := []) 1 1 [2] [] (Clu.evL_ok Clu.plain (Clu.noX_ok) (Clu.drK_ok Clu.mixed) (Clu.noL_ok) 50) (Clu.layB_bs rfl (by decide) (by decide)) hos (((((((((mayR_raw n N at_ os)).trans (Clu.forkB_t (Clu.iLt_t (Int.ofNat_lt.2 c1)) _ _)).trans (Clu.needT_eq (Clu.blt_iff.2 n1) _ _)).trans (Clu.forkB_t (congrArg not (Clu.iEq_f (fun hh => c2 (Int.ofNat.inj hh)))) _ _)).trans (Clu.needT_eq (Clu.blt_iff.2 n2) _ _)).trans (Clu.forkB_t (Clu.iLt_t (Int.ofNat_lt.2 c3)) _ _)).trans (Clu.needT_eq (hos _) _ _)).trans (Clu.needT_eq (hos _) _ _)) rfl rfl rfl (by decide) rfl (by simp [Clu.Blk.und, Clu.AV.und, Clu.AV.unds]) rfl (Clu.newH_ro rfl) (by simp [Clu.AV.und, Clu.AV.unds, Clu.AV.cells, Clu.unds_splice])
set_option maxRecDepth 10000000 in
theorem mayF_raw (n N e : Nat) (bad : Bool) : (Clu.layK [] .e fun h => Clu.runL (Clu.addL (Clu.noL) (Clu.loopNo Try.f12 0) 4 (Clu.loopM [3000012, 3000022, 3000032, 3000040] Try.prog (Clu.loopNo Try.f12 0) [0, 3] [2, 6, 10, 11, 15, 16, 20, 32] [] [] (fun _ _ _ => .fork bad (.leaf (2, [0, 3], [.s n N, .i .i64 (.ofNat e)], [], 1000)) (.leaf (1, [2], [.b false], [], 1000))))) Try.prog (Clu.tell (Clu.noX) 12 3000040300003230000223000012) (1000) 1000 12 [.s n N] h 1000) = Clu.forkB ((Clu.iLt (Int.ofNat 255) (Int.ofNat n))) (Clu.needP ((Clu.loopNo Try.f12 0) = (Clu.loopNo Try.f12 0)) (fun _ => .err 91 0) (fun h599 => Clu.forkB (bad) (Clu.needP (Clu.LoopQ (Try.prog) ((Clu.loopNo Try.f12 0)) (995) (33) (1000) (([] ++ [])) (1000) (2) ([0, 3]) ([(Clu.AV.s n N), (Clu.AV.i IntKind.i64 (Int.ofNat 0))]) ([2, 6, 10, 11, 15, 16, 20, 32]) ([0, 3]) ([(Clu.AV.s n N), (Clu.AV.i IntKind.i64 (Int.ofNat e))]) (([] ++ [])) (1000)) (fun _ => .err 93 1) (fun h597 => Clu.needT ((Clu.inR IntKind.i64 ((Int.ofNat n) - (Int.ofNat 1)))) (.err 10 20) ((Clu.Out.ok (Clu.AV.b (Clu.iEq (Int.ofNat e) ((Int.ofNat n) - (Int.ofNat 1)))))))) (Clu.needP (Clu.LoopQ (Try.prog) ((Clu.loopNo Try.f12 0)) (995) (33) (1000) (([] ++ [])) (1000) (1) ([0, 3]) ([(Clu.AV.s n N), (Clu.AV.i IntKind.i64 (Int.ofNat 0))]) ([2, 6, 10, 11, 15, 16, 20, 32]) ([2]) ([(Clu.AV.b false)]) (([] ++ [])) (1000)) (fun _ => .err 93 1) (fun h597 => (Clu.Out.ok (Clu.AV.b false)))))) ((Clu.Out.ok (Clu.AV.b false))) := by kernel_rfl
set_option linter.unusedVariables false in
theorem mayF_0 (n N e : Nat) (bad : Bool)  (c1 : n ≤ 255) (c2 : bad = false) (q1 : Clu.LoopQ (Try.prog) ((Clu.loopNo Try.f12 0)) (995) (33) (1000) (([] ++ [])) (1000) (2) ([0, 3]) ([(Clu.AV.s n N), (Clu.AV.i IntKind.i64 (Int.ofNat 0))]) ([2, 6, 10, 11, 15, 16, 20, 32]) ([0, 3]) ([(Clu.AV.s n N), (Clu.AV.i IntKind.i64 (Int.ofNat e))]) (([] ++ [])) (1000)) (n1 : -9223372036854775808 ≤ (((n : Nat) : Int) - ((1 : Nat) : Int)) ∧ (((n : Nat) : Int) - ((1 : Nat) : Int)) < 9223372036854775808 := by omega) : Clu.Fact Try.prog 12 [] [.s n N] (Clu.AV.b (Clu.iEq (Int.ofNat e) ((Int.ofNat n) - (Int.ofNat 1)))) :=
  Clu.factL Clu.plain (Clu.tell_ok (Clu.noX_ok)) Clu.mixed (Clu.addL_ok (Clu.noL_ok) Clu.loopM_ok) (((((((mayF_raw n N e bad)).trans (Clu.forkB_f (Clu.iLt_f (Int.ofNat_le.2 c1)) _ _)).trans (Clu.needP_eq rfl _ _)).trans (Clu.forkB_f (c2) _ _)).trans (Clu.needP_eq q1 _ _)).trans (Clu.needT_eq (Clu.inR_int (k := .i64) (half := 9223372036854775808) rfl n1) _ _)) rfl (rfl)
set_option linter.unusedVariables false in
theorem mayF_1 (n N e : Nat) (bad : Bool)  (c1 : n ≤ 255) (c2 : bad = true) (q1 : Clu.LoopQ (Try.prog) ((Clu.loopNo Try.f12 0)) (995) (33) (1000) (([] ++ [])) (1000) (1) ([0, 3]) ([(Clu.AV.s n N), (Clu.AV.i IntKind.i64 (Int.ofNat 0))]) ([2, 6, 10, 11, 15, 16, 20, 32]) ([2]) ([(Clu.AV.b false)]) (([] ++ [])) (1000)) : Clu.Fact Try.prog 12 [] [.s n N] (Clu.AV.b false) :=
  Clu.factL Clu.plain (Clu.tell_ok (Clu.noX_ok)) Clu.mixed (Clu.addL_ok (Clu.noL_ok) Clu.loopM_ok) ((((((mayF_raw n N e bad)).trans (Clu.forkB_f (Clu.iLt_f (Int.ofNat_le.2 c1)) _ _)).trans (Clu.needP_eq rfl _ _)).trans (Clu.forkB_t (c2) _ _)).trans (Clu.needP_eq q1 _ _)) rfl (rfl)
set_option linter.unusedVariables false in
theorem mayF_2 (n N e : Nat) (bad : Bool)  (c1 : 255 < n) : Clu.Fact Try.prog 12 [] [.s n N] (Clu.AV.b false) :=
  Clu.factL Clu.plain (Clu.tell_ok (Clu.noX_ok)) Clu.mixed (Clu.addL_ok (Clu.noL_ok) Clu.loopM_ok) (((mayF_raw n N e bad)).trans (Clu.forkB_t (Clu.iLt_t (Int.ofNat_lt.2 c1)) _ _)) rfl (rfl)
/-! May -/
/-- where the labels of a text end; none, where one is too long; so many rounds at most -/
def mayGo (l : List Nat) : Nat → Nat → Option Nat
  | 0, at_ => some at_
  | f + 1, at_ => if at_ < l.length ∧ l.getD at_ 0 ≠ 0 then (if 63 < l.getD at_ 0 then none else mayGo l f (at_ + (1 + l.getD at_ 0))) else some at_
theorem mayGo_labs (l : List Nat) : ∀ (f at_ : Nat), l.length < at_ + f → match mayGo l f at_ with
    | none => labs (l.drop at_) = none
    | some e => ((labs (l.drop at_)).isSome = true ↔ e + 1 = l.length)
  | 0, at_, hf => by
    show (labs (l.drop at_)).isSome = true ↔ at_ + 1 = l.length
    rw [List.drop_eq_nil_of_le (by omega), labs_nil]
    constructor
    · intro h; cases h
    · intro h; omega
  | f + 1, at_, hf => by
    unfold mayGo
    by_cases h : at_ < l.length
    · rw [getD_drop h]
      by_cases h0 : l.getD at_ 0 = 0
      · rw [if_neg (fun k => k.2 h0), h0, labs_zero]
        show (if l.drop (at_ + 1) = [] then some [] else none).isSome = true ↔ at_ + 1 = l.length
        by_cases hd : l.drop (at_ + 1) = []
        · rw [if_pos hd]
          rw [List.drop_eq_nil_iff] at hd
          exact ⟨fun _ => by omega, fun _ => rfl⟩
        · rw [if_neg hd]
          rw [List.drop_eq_nil_iff] at hd
          exact ⟨fun k => (by cases k), fun k => by omega⟩
      · rw [if_pos ⟨h, h0⟩, labs_cons h0]
        by_cases h63 : 63 < l.getD at_ 0
        · rw [if_pos h63, if_neg (fun k => by omega)]
        · rw [if_neg h63]
          have ih := mayGo_labs l f (at_ + (1 + l.getD at_ 0)) (by omega)
          by_cases hc : l.getD at_ 0 ≤ (l.drop (at_ + 1)).length
          · rw [if_pos ⟨by omega, hc⟩]
            have e : l.drop (at_ + (1 + l.getD at_ 0)) = (l.drop (at_ + 1)).drop (l.getD at_ 0) := by rw [List.drop_drop]; congr 1; omega
            rw [e] at ih
            cases hm : mayGo l f (at_ + (1 + l.getD at_ 0)) with
            | none => rw [hm] at ih; simp only at ih; rw [ih]; rfl
            | some e => rw [hm] at ih; simp only at ih; rw [Option.isSome_map]; exact ih
          · rw [if_neg (fun k => hc k.2)]
            rw [List.length_drop] at hc
            have e : l.drop (at_ + (1 + l.getD at_ 0)) = [] := List.drop_eq_nil_of_le (by omega)
            rw [e, labs_nil] at ih
            cases hm : mayGo l f (at_ + (1 + l.getD at_ 0)) with
            | none => rfl
            | some e => rw [hm] at ih; exact ih
    · rw [if_neg (fun k => h k.1), List.drop_eq_nil_of_le (by omega), labs_nil]
      show (none : Option (List (List Nat))).isSome = true ↔ at_ + 1 = l.length
      constructor
      · intro h; cases h
      · intro h; omega
theorem may_A {l : List Nat} (hB : Clu.B8 l) (hn : l.length ≤ 255) {e : Nat} : ∀ (f at_ : Nat), l.length < at_ + f → mayGo l f at_ = some e → Clu.LoopQ Try.prog (Clu.loopNo Try.f12 0) (51 + f) 33 1000 ([] ++ Clu.layB []) 1000 2 [0, 3] [.s l.length (Clu.pk l), .i .i64 (.ofNat at_)] [2, 6, 10, 11, 15, 16, 20, 32] [0, 3] [.s l.length (Clu.pk l), .i .i64 (.ofNat e)] ([] ++ Clu.layB []) 1000
  | 0, at_, hf, hg => by
    cases hg
    exact Clu.LoopQ.out (n := 50) (by simp [Clu.exOf]) (by omega) fun os ho => mayR_0 _ _ _ os ho hn (by omega)
  | f + 1, at_, hf, hg => by
    have hb := Clu.byteN_pk hB at_
    unfold mayGo at hg
    split at hg
    · rename_i hc
      split at hg
      · cases hg
      · rename_i h63
        refine Clu.LoopQ.more (show 50 ≤ 51 + f by omega) (fun os ho => mayR_2 _ _ at_ os ho hn hc.1 (c2 := by rw [hb]; exact hc.2) (c3 := by rw [hb]; omega)) ?_
        rw [hb]
        exact may_A hB hn f _ (by omega) hg
    · rename_i hc
      obtain rfl : at_ = e := by simpa using hg
      by_cases h1 : at_ < l.length
      · have h2 : l.getD at_ 0 = 0 := by
          by_cases h0 : l.getD at_ 0 = 0
          · exact h0
          · exact absurd ⟨h1, h0⟩ hc
        exact Clu.LoopQ.out (n := 50) (by simp [Clu.exOf]) (by omega) fun os ho => mayR_1 _ _ at_ os ho hn h1 (c2 := by rw [hb]; exact h2)
      · exact Clu.LoopQ.out (n := 50) (by simp [Clu.exOf]) (by omega) fun os ho => mayR_0 _ _ _ os ho hn (by omega)
theorem may_B {l : List Nat} (hB : Clu.B8 l) (hn : l.length ≤ 255) : ∀ (f at_ : Nat), l.length < at_ + f → mayGo l f at_ = none → Clu.LoopQ Try.prog (Clu.loopNo Try.f12 0) (51 + f) 33 1000 ([] ++ Clu.layB []) 1000 1 [0, 3] [.s l.length (Clu.pk l), .i .i64 (.ofNat at_)] [2, 6, 10, 11, 15, 16, 20, 32] [2] [.b false] ([] ++ Clu.layB []) 1000
  | 0, at_, hf, hg => by cases hg
  | f + 1, at_, hf, hg => by
    have hb := Clu.byteN_pk hB at_
    unfold mayGo at hg
    split at hg
    · rename_i hc
      split at hg
      · rename_i h63
        exact Clu.LoopQ.out (n := 50) (by simp [Clu.exOf]) (by omega) fun os ho => mayR_3 _ _ at_ os ho hn hc.1 (c2 := by rw [hb]; exact hc.2) (c3 := by rw [hb]; exact h63)
      · rename_i h63
        refine Clu.LoopQ.more (show 50 ≤ 51 + f by omega) (fun os ho => mayR_2 _ _ at_ os ho hn hc.1 (c2 := by rw [hb]; exact hc.2) (c3 := by rw [hb]; omega)) ?_
        rw [hb]
        exact may_B hB hn f _ (by omega) hg
    · cases hg
theorem may_fact {l : List Nat} (hB : Clu.B8 l) (hl : l.length < 9000000000000000000) : Clu.Fact Try.prog 12 [] [.s l.length (Clu.pk l)] (.b (mayB l)) := by
  unfold mayB
  by_cases hn : l.length ≤ 255
  · rw [decide_eq_true hn, Bool.true_and]
    have hg := mayGo_labs l 944 0 (by omega)
    rw [List.drop_zero] at hg
    cases hm : mayGo l 944 0 with
    | none =>
      rw [hm] at hg
      simp only at hg
      rw [hg]
      exact mayF_1 _ _ 0 true hn rfl (may_B hB hn 944 0 (by omega) hm)
    | some e =>
      rw [hm] at hg
      simp only at hg
      have := mayF_0 _ _ e false hn rfl (may_A hB hn 944 0 (by omega) hm)
      rw [Clu.iEq_dec] at this
      have e2 : (labs l).isSome = decide (Int.ofNat e = Int.ofNat l.length - Int.ofNat 1) := by
        rw [Bool.eq_iff_iff, hg, decide_eq_true_iff]
        simp only [Int.ofNat_eq_natCast]
        omega
      rw [e2]
      exact this
  · rw [decide_eq_false hn, Bool.false_and]
    exact mayF_2 _ _ 0 true (by omega)
noncomputable def myF (n N : Nat) : Bool := mayB (Clu.lst n N)
theorem myF_pk {l : List Nat} (h : Clu.B8 l) : myF l.length (Clu.pk l) = mayB l := by unfold myF; rw [Clu.lst_pk h]
theorem mayH_ok : Clu.HandOK Try.prog 12 (Clu.decH (mayH myF)) := Clu.decH_ok fun args v h => by
  unfold mayH at h
  split at h
  · rename_i n N
    obtain ⟨h1, h2⟩ := h
    have h2 : Clu.AV.b (myF n N) = v := h2
    subst h2
    have h1 := Clu.blt_iff.1 h1
    exact Clu.Fact.s1 (may_fact (Clu.lst_b8 n N) (by rw [Clu.lst_length]; exact h1))
  · exact h.elim

end Go.Proofs.Ythghohgjedjpbaa
