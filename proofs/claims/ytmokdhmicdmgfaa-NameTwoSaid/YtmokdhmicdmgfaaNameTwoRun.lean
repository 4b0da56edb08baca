/-
  NameTwo: what it comes to.
-/
import Derived.Test.YtmokdhmicdmgfaaNameTwoBase
import Derived.Test.YtmokdhmicdmgfaaNmRR
namespace Go.Proofs.Ytmokdhmicdmgfaa.nameTwo
open Go.RowKit
set_option linter.unusedVariables false
set_option linter.unusedSimpArgs false
set_option maxRecDepth 100000
set_option maxRecDepth 10000000 in
theorem twoF_raw (sm wi : Nat → Nat → Nat → Nat → Bool) (cp : Nat → Nat → Nat → Nat → Int) (n N m M : Nat) : (Clu.layK [] .e fun h => Clu.runL (Clu.noL) Try.prog (Clu.tell (Clu.addB (Clu.addB (Clu.addB (Clu.addB (Clu.addB (Clu.addB (Clu.addB (Clu.noX) 11 (Clu.decH awH)) 22 (Clu.decH (s2b sm))) 24 (Clu.decH (s2b wi))) 26 (Clu.decH (s2i cp))) 23 (Clu.decH (r2b sm))) 25 (Clu.decH (r2b wi))) 27 (Clu.decH (r2i cp))) 4 30000783000060300004230000243000016) (1000) 1000 4 [.s n N, .s m M] h 1000) = Clu.forkB ((Clu.iLt (Int.ofNat 1000) (Int.ofNat n))) (Clu.forkB ((Clu.iLt (Int.ofNat 1000) (Int.ofNat m))) (Clu.needT ((Nat.blt n 9000000000000000000)) (.err 96 1) (Clu.needT ((Nat.blt m 9000000000000000000)) (.err 96 1) (Clu.needT ((Nat.blt n 1000001)) (.err 96 1) (Clu.needT ((Nat.blt m 1000001)) (.err 96 1) (Clu.forkB ((BEq.beq (sm n N m M) (sm n N m M))) ((Clu.Out.ok (Clu.AV.b false))) (Clu.needT ((Nat.blt n 9000000000000000000)) (.err 96 1) (Clu.needT ((Nat.blt m 9000000000000000000)) (.err 96 1) (Clu.needT ((Nat.blt n 1000001)) (.err 96 1) (Clu.needT ((Nat.blt m 1000001)) (.err 96 1) (Clu.forkB ((BEq.beq (wi n N m M) (wi n N m M))) ((Clu.Out.ok (Clu.AV.b false))) (Clu.needT ((Nat.blt n 9000000000000000000)) (.err 96 1) (Clu.needT ((Nat.blt m 9000000000000000000)) (.err 96 1) (Clu.needT ((Nat.blt n 1000001)) (.err 96 1) (Clu.needT ((Nat.blt m 1000001)) (.err 96 1) (Clu.forkB ((Clu.iEq (cp n N m M) (cp n N m M))) ((Clu.Out.ok (Clu.AV.b false))) ((Clu.Out.ok (Clu.AV.b true)))))))))))))))))) ((Clu.Out.ok (Clu.AV.b true)))) ((Clu.Out.ok (Clu.AV.b true))) := by kernel_rfl
set_option linter.unusedVariables false in
theorem twoF_run (sm wi : Nat → Nat → Nat → Nat → Bool) (cp : Nat → Nat → Nat → Nat → Int) (n N m M : Nat) (hX : Clu.XOK Try.prog (Clu.addB (Clu.addB (Clu.addB (Clu.addB (Clu.addB (Clu.addB (Clu.addB (Clu.noX) 11 (Clu.decH awH)) 22 (Clu.decH (s2b sm))) 24 (Clu.decH (s2b wi))) 26 (Clu.decH (s2i cp))) 23 (Clu.decH (r2b sm))) 25 (Clu.decH (r2b wi))) 27 (Clu.decH (r2i cp))))  
  (V0 : (n ≤ 1000) → (m ≤ 1000) → ((BEq.beq (sm n N m M) (sm n N m M)) = false) → False)
  (V1 : (n ≤ 1000) → (m ≤ 1000) → ((BEq.beq (sm n N m M) (sm n N m M)) = true) → ((BEq.beq (wi n N m M) (wi n N m M)) = false) → False)
  (V2 : (n ≤ 1000) → (m ≤ 1000) → ((BEq.beq (sm n N m M) (sm n N m M)) = true) → ((BEq.beq (wi n N m M) (wi n N m M)) = true) → ((cp n N m M) ≠ (cp n N m M)) → False) : (Clu.layK [] .e fun h => Clu.runL (Clu.noL) Try.prog (Clu.tell (Clu.addB (Clu.addB (Clu.addB (Clu.addB (Clu.addB (Clu.addB (Clu.addB (Clu.noX) 11 (Clu.decH awH)) 22 (Clu.decH (s2b sm))) 24 (Clu.decH (s2b wi))) 26 (Clu.decH (s2i cp))) 23 (Clu.decH (r2b sm))) 25 (Clu.decH (r2b wi))) 27 (Clu.decH (r2i cp))) 4 30000783000060300004230000243000016) (1000) 1000 4 [.s n N, .s m M] h 1000) = .ok (.b true) := by
  rw [twoF_raw]
  refine Clu.forkB_cases (fun bc1 => ?_) (fun bc1 => ?_)
  · have c1 : n ≤ 1000 := (Int.ofNat_le.1 (Clu.of_iLt_f bc1))
    refine Clu.forkB_cases (fun bc2 => ?_) (fun bc2 => ?_)
    · have c2 : m ≤ 1000 := (Int.ofNat_le.1 (Clu.of_iLt_f bc2))
      have q2 : n < 9000000000000000000 := (by omega)
      refine (Clu.needT_eq (Clu.blt_iff.2 q2) _ _).trans ?_
      have q2 : m < 9000000000000000000 := (by omega)
      refine (Clu.needT_eq (Clu.blt_iff.2 q2) _ _).trans ?_
      have q2 : n < 1000001 := (by omega)
      refine (Clu.needT_eq (Clu.blt_iff.2 q2) _ _).trans ?_
      have q2 : m < 1000001 := (by omega)
      refine (Clu.needT_eq (Clu.blt_iff.2 q2) _ _).trans ?_
      refine Clu.forkB_cases (fun bc3 => ?_) (fun bc3 => ?_)
      · have c3 : (BEq.beq (sm n N m M) (sm n N m M)) = false := bc3
        exact (V0 c1 c2 c3).elim
      · have c3 : (BEq.beq (sm n N m M) (sm n N m M)) = true := bc3
        have q3 : n < 9000000000000000000 := (by omega)
        refine (Clu.needT_eq (Clu.blt_iff.2 q3) _ _).trans ?_
        have q3 : m < 9000000000000000000 := (by omega)
        refine (Clu.needT_eq (Clu.blt_iff.2 q3) _ _).trans ?_
        have q3 : n < 1000001 := (by omega)
        refine (Clu.needT_eq (Clu.blt_iff.2 q3) _ _).trans ?_
        have q3 : m < 1000001 := (by omega)
        refine (Clu.needT_eq (Clu.blt_iff.2 q3) _ _).trans ?_
        refine Clu.forkB_cases (fun bc4 => ?_) (fun bc4 => ?_)
        · have c4 : (BEq.beq (wi n N m M) (wi n N m M)) = false := bc4
          exact (V1 c1 c2 c3 c4).elim
        · have c4 : (BEq.beq (wi n N m M) (wi n N m M)) = true := bc4
          have q4 : n < 9000000000000000000 := (by omega)
          refine (Clu.needT_eq (Clu.blt_iff.2 q4) _ _).trans ?_
          have q4 : m < 9000000000000000000 := (by omega)
          refine (Clu.needT_eq (Clu.blt_iff.2 q4) _ _).trans ?_
          have q4 : n < 1000001 := (by omega)
          refine (Clu.needT_eq (Clu.blt_iff.2 q4) _ _).trans ?_
          have q4 : m < 1000001 := (by omega)
          refine (Clu.needT_eq (Clu.blt_iff.2 q4) _ _).trans ?_
          refine Clu.forkB_cases (fun bc5 => ?_) (fun bc5 => ?_)
          · have c5 : (cp n N m M) ≠ (cp n N m M) := (Clu.of_iEq_f bc5)
            exact (V2 c1 c2 c3 c4 c5).elim
          · have c5 : (cp n N m M) = (cp n N m M) := (Clu.of_iEq_t bc5)
            rfl
    · have c2 : 1000 < m := (Int.ofNat_lt.1 (Clu.of_iLt_t bc2))
      rfl
  · have c1 : 1000 < n := (Int.ofNat_lt.1 (Clu.of_iLt_t bc1))
    rfl
theorem twoF_law (sm wi : Nat → Nat → Nat → Nat → Bool) (cp : Nat → Nat → Nat → Nat → Int) (n N m M : Nat) (hX : Clu.XOK Try.prog (Clu.addB (Clu.addB (Clu.addB (Clu.addB (Clu.addB (Clu.addB (Clu.addB (Clu.noX) 11 (Clu.decH awH)) 22 (Clu.decH (s2b sm))) 24 (Clu.decH (s2b wi))) 26 (Clu.decH (s2i cp))) 23 (Clu.decH (r2b sm))) 25 (Clu.decH (r2b wi))) 27 (Clu.decH (r2i cp))))  
  (V0 : (n ≤ 1000) → (m ≤ 1000) → ((BEq.beq (sm n N m M) (sm n N m M)) = false) → False)
  (V1 : (n ≤ 1000) → (m ≤ 1000) → ((BEq.beq (sm n N m M) (sm n N m M)) = true) → ((BEq.beq (wi n N m M) (wi n N m M)) = false) → False)
  (V2 : (n ≤ 1000) → (m ≤ 1000) → ((BEq.beq (sm n N m M) (sm n N m M)) = true) → ((BEq.beq (wi n N m M) (wi n N m M)) = true) → ((cp n N m M) ≠ (cp n N m M)) → False) : Clu.Fact Try.prog 4 [] [.s n N, .s m M] (.b true) :=
  Clu.factL Clu.plain (Clu.tell_ok (hX)) Clu.mixed (Clu.noL_ok) (twoF_run sm wi cp n N m M hX V0 V1 V2) rfl rfl
theorem law_fact (a : List Nat) (hA : Clu.B8 a) (la : a.length ≤ maxLen) (b : List Nat) (hB : Clu.B8 b) (lb : b.length ≤ maxLen) :
    Clu.Fact Try.prog 4 [] [.s a.length (Clu.pk a), .s b.length (Clu.pk b)] (.b true) := by
  refine twoF_law smF wiF cpF _ _ _ _ lawX2_ok ?_ ?_ ?_
  · intro _ _ h; rw [beq_self_eq_true] at h; cases h
  · intro _ _ _ h; rw [beq_self_eq_true] at h; cases h
  · intro _ _ _ _ h; exact h rfl

end Go.Proofs.Ytmokdhmicdmgfaa.nameTwo
