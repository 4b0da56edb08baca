/-
  NameRow: what it comes to.
-/
import Derived.Test.YtmokdhmicdmgfaaNameRowBase
import Derived.Test.YtmokdhmicdmgfaaNmLx
namespace Go.Proofs.Ytmokdhmicdmgfaa.nameRow
open Go.RowKit
set_option linter.unusedVariables false
set_option linter.unusedSimpArgs false
set_option maxRecDepth 100000
set_option maxRecDepth 10000000 in
theorem rowF_raw (my : Nat → Nat → Bool) (sm wi : Nat → Nat → Nat → Nat → Bool) (cp : Nat → Nat → Nat → Nat → Int) (fo : Nat → Nat → Nat × Nat) (n N m M o O : Nat) : (Clu.layK [] .e fun h => Clu.runL (Clu.noL) Try.prog (Clu.tell (Clu.addB (Clu.addB (Clu.addB (Clu.addB (Clu.addB (Clu.addB (Clu.noX) 11 (Clu.decH awH)) 17 (Clu.decH (mayH my))) 22 (Clu.decH (s2b sm))) 24 (Clu.decH (s2b wi))) 26 (Clu.decH (s2i cp))) 18 (Clu.decH (s1s fo))) 7 3000186300017630001703000160300015430001443000128300011230001043000080300007230000623000052300004630000363000026) (1000) 1000 7 [.s n N, .s m M, .s o O] h 1000) = Clu.forkB ((Clu.iLt (Int.ofNat 1000) (Int.ofNat n))) (Clu.forkB ((Clu.iLt (Int.ofNat 1000) (Int.ofNat m))) (Clu.forkB ((Clu.iLt (Int.ofNat 1000) (Int.ofNat o))) (Clu.needT ((Nat.blt n 9000000000000000000)) (.err 96 1) (Clu.forkB ((Bool.not (my n N))) (Clu.needT ((Nat.blt m 9000000000000000000)) (.err 96 1) (Clu.forkB ((Bool.not (my m M))) (Clu.needT ((Nat.blt o 9000000000000000000)) (.err 96 1) (Clu.forkB ((Bool.not (my o O))) (Clu.needT ((Nat.blt n 9000000000000000000)) (.err 96 1) (Clu.needT ((Nat.blt m 9000000000000000000)) (.err 96 1) (Clu.needT ((Nat.blt m 9000000000000000000)) (.err 96 1) (Clu.needT ((Nat.blt o 9000000000000000000)) (.err 96 1) (Clu.needT ((Nat.blt n 9000000000000000000)) (.err 96 1) (Clu.needT ((Nat.blt o 9000000000000000000)) (.err 96 1) (Clu.forkB ((Clu.iLt (cp n N m M) (Int.negSucc 0))) (Clu.forkB ((Clu.iLt (Int.ofNat 1) (cp n N m M))) (Clu.needT ((Nat.blt m 9000000000000000000)) (.err 96 1) (Clu.needT ((Nat.blt n 9000000000000000000)) (.err 96 1) (Clu.needT ((Clu.inR IntKind.i64 ((Int.ofNat 0) - (cp n N m M)))) (.err 10 20) (Clu.forkB ((Bool.not (Clu.iEq (cp m M n N) ((Int.ofNat 0) - (cp n N m M))))) (Clu.needT ((Nat.blt n 9000000000000000000)) (.err 96 1) (Clu.needT ((Nat.blt m 9000000000000000000)) (.err 96 1) (Clu.forkB ((Bool.not (BEq.beq (Clu.iEq (cp n N m M) (Int.ofNat 0)) (sm n N m M)))) (Clu.needT ((Nat.blt n 9000000000000000000)) (.err 96 1) (Clu.needT ((Nat.blt n 9000000000000000000)) (.err 96 1) (Clu.forkB ((Bool.not (Clu.iEq (cp n N n N) (Int.ofNat 0)))) (Clu.forkB ((Bool.not (Clu.iLt (Int.ofNat 0) (cp n N m M)))) ((Clu.Out.ok (Clu.AV.b true))) (Clu.forkB ((Bool.not (Bool.not (Clu.iLt (Int.ofNat 0) (cp m M o O))))) (Clu.forkB ((Bool.not (Clu.iLt (Int.ofNat 0) (cp n N o O)))) ((Clu.Out.ok (Clu.AV.b false))) (Clu.forkB ((Clu.iLt (cp n N m M) (Int.ofNat 0))) ((Clu.Out.ok (Clu.AV.b (BEq.beq (Clu.iLt (cp n N o O) (Int.ofNat 0)) (Clu.iLt (cp m M o O) (Int.ofNat 0)))))) ((Clu.Out.ok (Clu.AV.b (BEq.beq (Clu.iLt (cp n N o O) (Int.ofNat 0)) true)))))) ((Clu.Out.ok (Clu.AV.b true))))) ((Clu.Out.ok (Clu.AV.b false)))))) ((Clu.Out.ok (Clu.AV.b false)))))) ((Clu.Out.ok (Clu.AV.b false))))))) ((Clu.Out.ok (Clu.AV.b false)))) ((Clu.Out.ok (Clu.AV.b false)))))))))) ((Clu.Out.ok (Clu.AV.b true))))) ((Clu.Out.ok (Clu.AV.b true))))) ((Clu.Out.ok (Clu.AV.b true))))) ((Clu.Out.ok (Clu.AV.b true)))) ((Clu.Out.ok (Clu.AV.b true)))) ((Clu.Out.ok (Clu.AV.b true))) := by kernel_rfl
set_option linter.unusedVariables false in
theorem rowF_run (my : Nat → Nat → Bool) (sm wi : Nat → Nat → Nat → Nat → Bool) (cp : Nat → Nat → Nat → Nat → Int) (fo : Nat → Nat → Nat × Nat) (n N m M o O : Nat) (hX : Clu.XOK Try.prog (Clu.addB (Clu.addB (Clu.addB (Clu.addB (Clu.addB (Clu.addB (Clu.noX) 11 (Clu.decH awH)) 17 (Clu.decH (mayH my))) 22 (Clu.decH (s2b sm))) 24 (Clu.decH (s2b wi))) 26 (Clu.decH (s2i cp))) 18 (Clu.decH (s1s fo))))  
  (V0 : (n ≤ 1000) → (m ≤ 1000) → (o ≤ 1000) → ((my n N) = true) → ((my m M) = true) → ((my o O) = true) → ((Int.negSucc 0) ≤ (cp n N m M)) → ((cp n N m M) ≤ ((1 : Nat) : Int)) → -9223372036854775808 ≤ (((0 : Nat) : Int) - (cp n N m M)) ∧ (((0 : Nat) : Int) - (cp n N m M)) < 9223372036854775808)
  (V1 : (n ≤ 1000) → (m ≤ 1000) → (o ≤ 1000) → ((my n N) = true) → ((my m M) = true) → ((my o O) = true) → ((Int.negSucc 0) ≤ (cp n N m M)) → ((cp n N m M) ≤ ((1 : Nat) : Int)) → ((cp m M n N) = (((0 : Nat) : Int) - (cp n N m M))) → ((BEq.beq (Clu.iEq (cp n N m M) (Int.ofNat 0)) (sm n N m M)) = true) → ((cp n N n N) = ((0 : Nat) : Int)) → ((cp n N m M) ≤ ((0 : Nat) : Int)) → ((cp m M o O) ≤ ((0 : Nat) : Int)) → (((0 : Nat) : Int) < (cp n N o O)) → False)
  (V2 : (n ≤ 1000) → (m ≤ 1000) → (o ≤ 1000) → ((my n N) = true) → ((my m M) = true) → ((my o O) = true) → ((Int.negSucc 0) ≤ (cp n N m M)) → ((cp n N m M) ≤ ((1 : Nat) : Int)) → ((cp m M n N) = (((0 : Nat) : Int) - (cp n N m M))) → ((BEq.beq (Clu.iEq (cp n N m M) (Int.ofNat 0)) (sm n N m M)) = true) → ((cp n N n N) = ((0 : Nat) : Int)) → ((cp n N m M) ≤ ((0 : Nat) : Int)) → ((cp m M o O) ≤ ((0 : Nat) : Int)) → ((cp n N o O) ≤ ((0 : Nat) : Int)) → (((0 : Nat) : Int) ≤ (cp n N m M)) → (BEq.beq (Clu.iLt (cp n N o O) (Int.ofNat 0)) (Clu.iLt (cp m M o O) (Int.ofNat 0))) = true)
  (V3 : (n ≤ 1000) → (m ≤ 1000) → (o ≤ 1000) → ((my n N) = true) → ((my m M) = true) → ((my o O) = true) → ((Int.negSucc 0) ≤ (cp n N m M)) → ((cp n N m M) ≤ ((1 : Nat) : Int)) → ((cp m M n N) = (((0 : Nat) : Int) - (cp n N m M))) → ((BEq.beq (Clu.iEq (cp n N m M) (Int.ofNat 0)) (sm n N m M)) = true) → ((cp n N n N) = ((0 : Nat) : Int)) → ((cp n N m M) ≤ ((0 : Nat) : Int)) → ((cp m M o O) ≤ ((0 : Nat) : Int)) → ((cp n N o O) ≤ ((0 : Nat) : Int)) → ((cp n N m M) < ((0 : Nat) : Int)) → (BEq.beq (Clu.iLt (cp n N o O) (Int.ofNat 0)) true) = true)
  (V4 : (n ≤ 1000) → (m ≤ 1000) → (o ≤ 1000) → ((my n N) = true) → ((my m M) = true) → ((my o O) = true) → ((Int.negSucc 0) ≤ (cp n N m M)) → ((cp n N m M) ≤ ((1 : Nat) : Int)) → ((cp m M n N) = (((0 : Nat) : Int) - (cp n N m M))) → ((BEq.beq (Clu.iEq (cp n N m M) (Int.ofNat 0)) (sm n N m M)) = true) → ((cp n N n N) ≠ ((0 : Nat) : Int)) → False)
  (V5 : (n ≤ 1000) → (m ≤ 1000) → (o ≤ 1000) → ((my n N) = true) → ((my m M) = true) → ((my o O) = true) → ((Int.negSucc 0) ≤ (cp n N m M)) → ((cp n N m M) ≤ ((1 : Nat) : Int)) → ((cp m M n N) = (((0 : Nat) : Int) - (cp n N m M))) → ((BEq.beq (Clu.iEq (cp n N m M) (Int.ofNat 0)) (sm n N m M)) = false) → False)
  (V6 : (n ≤ 1000) → (m ≤ 1000) → (o ≤ 1000) → ((my n N) = true) → ((my m M) = true) → ((my o O) = true) → ((Int.negSucc 0) ≤ (cp n N m M)) → ((cp n N m M) ≤ ((1 : Nat) : Int)) → ((cp m M n N) ≠ (((0 : Nat) : Int) - (cp n N m M))) → False)
  (V7 : (n ≤ 1000) → (m ≤ 1000) → (o ≤ 1000) → ((my n N) = true) → ((my m M) = true) → ((my o O) = true) → ((Int.negSucc 0) ≤ (cp n N m M)) → (((1 : Nat) : Int) < (cp n N m M)) → False)
  (V8 : (n ≤ 1000) → (m ≤ 1000) → (o ≤ 1000) → ((my n N) = true) → ((my m M) = true) → ((my o O) = true) → ((cp n N m M) < (Int.negSucc 0)) → False) : (Clu.layK [] .e fun h => Clu.runL (Clu.noL) Try.prog (Clu.tell (Clu.addB (Clu.addB (Clu.addB (Clu.addB (Clu.addB (Clu.addB (Clu.noX) 11 (Clu.decH awH)) 17 (Clu.decH (mayH my))) 22 (Clu.decH (s2b sm))) 24 (Clu.decH (s2b wi))) 26 (Clu.decH (s2i cp))) 18 (Clu.decH (s1s fo))) 7 3000186300017630001703000160300015430001443000128300011230001043000080300007230000623000052300004630000363000026) (1000) 1000 7 [.s n N, .s m M, .s o O] h 1000) = .ok (.b true) := by
  rw [rowF_raw]
  refine Clu.forkB_cases (fun bc1 => ?_) (fun bc1 => ?_)
  · have c1 : n ≤ 1000 := (Int.ofNat_le.1 (Clu.of_iLt_f bc1))
    refine Clu.forkB_cases (fun bc2 => ?_) (fun bc2 => ?_)
    · have c2 : m ≤ 1000 := (Int.ofNat_le.1 (Clu.of_iLt_f bc2))
      refine Clu.forkB_cases (fun bc3 => ?_) (fun bc3 => ?_)
      · have c3 : o ≤ 1000 := (Int.ofNat_le.1 (Clu.of_iLt_f bc3))
        have q3 : n < 9000000000000000000 := (by omega)
        refine (Clu.needT_eq (Clu.blt_iff.2 q3) _ _).trans ?_
        refine Clu.forkB_cases (fun bc4 => ?_) (fun bc4 => ?_)
        · have c4 : (my n N) = true := (Clu.of_not_f bc4)
          have q4 : m < 9000000000000000000 := (by omega)
          refine (Clu.needT_eq (Clu.blt_iff.2 q4) _ _).trans ?_
          refine Clu.forkB_cases (fun bc5 => ?_) (fun bc5 => ?_)
          · have c5 : (my m M) = true := (Clu.of_not_f bc5)
            have q5 : o < 9000000000000000000 := (by omega)
            refine (Clu.needT_eq (Clu.blt_iff.2 q5) _ _).trans ?_
            refine Clu.forkB_cases (fun bc6 => ?_) (fun bc6 => ?_)
            · have c6 : (my o O) = true := (Clu.of_not_f bc6)
              have q6 : n < 9000000000000000000 := (by omega)
              refine (Clu.needT_eq (Clu.blt_iff.2 q6) _ _).trans ?_
              have q6 : m < 9000000000000000000 := (by omega)
              refine (Clu.needT_eq (Clu.blt_iff.2 q6) _ _).trans ?_
              have q6 : m < 9000000000000000000 := (by omega)
              refine (Clu.needT_eq (Clu.blt_iff.2 q6) _ _).trans ?_
              have q6 : o < 9000000000000000000 := (by omega)
              refine (Clu.needT_eq (Clu.blt_iff.2 q6) _ _).trans ?_
              have q6 : n < 9000000000000000000 := (by omega)
              refine (Clu.needT_eq (Clu.blt_iff.2 q6) _ _).trans ?_
              have q6 : o < 9000000000000000000 := (by omega)
              refine (Clu.needT_eq (Clu.blt_iff.2 q6) _ _).trans ?_
              refine Clu.forkB_cases (fun bc7 => ?_) (fun bc7 => ?_)
              · have c7 : (Int.negSucc 0) ≤ (cp n N m M) := (Clu.of_iLt_f bc7)
                refine Clu.forkB_cases (fun bc8 => ?_) (fun bc8 => ?_)
                · have c8 : (cp n N m M) ≤ ((1 : Nat) : Int) := (Clu.of_iLt_f bc8)
                  have q8 : m < 9000000000000000000 := (by omega)
                  refine (Clu.needT_eq (Clu.blt_iff.2 q8) _ _).trans ?_
                  have q8 : n < 9000000000000000000 := (by omega)
                  refine (Clu.needT_eq (Clu.blt_iff.2 q8) _ _).trans ?_
                  have q8 : -9223372036854775808 ≤ (((0 : Nat) : Int) - (cp n N m M)) ∧ (((0 : Nat) : Int) - (cp n N m M)) < 9223372036854775808 := (V0 c1 c2 c3 c4 c5 c6 c7 c8)
                  refine (Clu.needT_eq (Clu.inR_int (k := .i64) (half := 9223372036854775808) rfl q8) _ _).trans ?_
                  refine Clu.forkB_cases (fun bc9 => ?_) (fun bc9 => ?_)
                  · have c9 : (cp m M n N) = (((0 : Nat) : Int) - (cp n N m M)) := (Clu.of_iEq_t (Clu.of_not_f bc9))
                    have q9 : n < 9000000000000000000 := (by omega)
                    refine (Clu.needT_eq (Clu.blt_iff.2 q9) _ _).trans ?_
                    have q9 : m < 9000000000000000000 := (by omega)
                    refine (Clu.needT_eq (Clu.blt_iff.2 q9) _ _).trans ?_
                    refine Clu.forkB_cases (fun bc10 => ?_) (fun bc10 => ?_)
                    · have c10 : (BEq.beq (Clu.iEq (cp n N m M) (Int.ofNat 0)) (sm n N m M)) = true := (Clu.of_not_f bc10)
                      have q10 : n < 9000000000000000000 := (by omega)
                      refine (Clu.needT_eq (Clu.blt_iff.2 q10) _ _).trans ?_
                      have q10 : n < 9000000000000000000 := (by omega)
                      refine (Clu.needT_eq (Clu.blt_iff.2 q10) _ _).trans ?_
                      refine Clu.forkB_cases (fun bc11 => ?_) (fun bc11 => ?_)
                      · have c11 : (cp n N n N) = ((0 : Nat) : Int) := (Clu.of_iEq_t (Clu.of_not_f bc11))
                        refine Clu.forkB_cases (fun bc12 => ?_) (fun bc12 => ?_)
                        · have c12 : ((0 : Nat) : Int) < (cp n N m M) := (Clu.of_iLt_t (Clu.of_not_f bc12))
                          rfl
                        · have c12 : (cp n N m M) ≤ ((0 : Nat) : Int) := (Clu.of_iLt_f (Clu.of_not_t bc12))
                          refine Clu.forkB_cases (fun bc13 => ?_) (fun bc13 => ?_)
                          · have c13 : (cp m M o O) ≤ ((0 : Nat) : Int) := (Clu.of_iLt_f (Clu.of_not_t (Clu.of_not_f bc13)))
                            refine Clu.forkB_cases (fun bc14 => ?_) (fun bc14 => ?_)
                            · have c14 : ((0 : Nat) : Int) < (cp n N o O) := (Clu.of_iLt_t (Clu.of_not_f bc14))
                              exact (V1 c1 c2 c3 c4 c5 c6 c7 c8 c9 c10 c11 c12 c13 c14).elim
                            · have c14 : (cp n N o O) ≤ ((0 : Nat) : Int) := (Clu.of_iLt_f (Clu.of_not_t bc14))
                              refine Clu.forkB_cases (fun bc15 => ?_) (fun bc15 => ?_)
                              · have c15 : ((0 : Nat) : Int) ≤ (cp n N m M) := (Clu.of_iLt_f bc15)
                                have r15 : (BEq.beq (Clu.iLt (cp n N o O) (Int.ofNat 0)) (Clu.iLt (cp m M o O) (Int.ofNat 0))) = true := V2 c1 c2 c3 c4 c5 c6 c7 c8 c9 c10 c11 c12 c13 c14 c15
                                exact congrArg (fun b => Clu.Out.ok (.b b)) (r15)
                              · have c15 : (cp n N m M) < ((0 : Nat) : Int) := (Clu.of_iLt_t bc15)
                                have r15 : (BEq.beq (Clu.iLt (cp n N o O) (Int.ofNat 0)) true) = true := V3 c1 c2 c3 c4 c5 c6 c7 c8 c9 c10 c11 c12 c13 c14 c15
                                exact congrArg (fun b => Clu.Out.ok (.b b)) (r15)
                          · have c13 : ((0 : Nat) : Int) < (cp m M o O) := (Clu.of_iLt_t (Clu.of_not_f (Clu.of_not_t bc13)))
                            rfl
                      · have c11 : (cp n N n N) ≠ ((0 : Nat) : Int) := (Clu.of_iEq_f (Clu.of_not_t bc11))
                        exact (V4 c1 c2 c3 c4 c5 c6 c7 c8 c9 c10 c11).elim
                    · have c10 : (BEq.beq (Clu.iEq (cp n N m M) (Int.ofNat 0)) (sm n N m M)) = false := (Clu.of_not_t bc10)
                      exact (V5 c1 c2 c3 c4 c5 c6 c7 c8 c9 c10).elim
                  · have c9 : (cp m M n N) ≠ (((0 : Nat) : Int) - (cp n N m M)) := (Clu.of_iEq_f (Clu.of_not_t bc9))
                    exact (V6 c1 c2 c3 c4 c5 c6 c7 c8 c9).elim
                · have c8 : ((1 : Nat) : Int) < (cp n N m M) := (Clu.of_iLt_t bc8)
                  exact (V7 c1 c2 c3 c4 c5 c6 c7 c8).elim
              · have c7 : (cp n N m M) < (Int.negSucc 0) := (Clu.of_iLt_t bc7)
                exact (V8 c1 c2 c3 c4 c5 c6 c7).elim
            · have c6 : (my o O) = false := (Clu.of_not_t bc6)
              rfl
          · have c5 : (my m M) = false := (Clu.of_not_t bc5)
            rfl
        · have c4 : (my n N) = false := (Clu.of_not_t bc4)
          rfl
      · have c3 : 1000 < o := (Int.ofNat_lt.1 (Clu.of_iLt_t bc3))
        rfl
    · have c2 : 1000 < m := (Int.ofNat_lt.1 (Clu.of_iLt_t bc2))
      rfl
  · have c1 : 1000 < n := (Int.ofNat_lt.1 (Clu.of_iLt_t bc1))
    rfl
theorem rowF_law (my : Nat → Nat → Bool) (sm wi : Nat → Nat → Nat → Nat → Bool) (cp : Nat → Nat → Nat → Nat → Int) (fo : Nat → Nat → Nat × Nat) (n N m M o O : Nat) (hX : Clu.XOK Try.prog (Clu.addB (Clu.addB (Clu.addB (Clu.addB (Clu.addB (Clu.addB (Clu.noX) 11 (Clu.decH awH)) 17 (Clu.decH (mayH my))) 22 (Clu.decH (s2b sm))) 24 (Clu.decH (s2b wi))) 26 (Clu.decH (s2i cp))) 18 (Clu.decH (s1s fo))))  
  (V0 : (n ≤ 1000) → (m ≤ 1000) → (o ≤ 1000) → ((my n N) = true) → ((my m M) = true) → ((my o O) = true) → ((Int.negSucc 0) ≤ (cp n N m M)) → ((cp n N m M) ≤ ((1 : Nat) : Int)) → -9223372036854775808 ≤ (((0 : Nat) : Int) - (cp n N m M)) ∧ (((0 : Nat) : Int) - (cp n N m M)) < 9223372036854775808)
  (V1 : (n ≤ 1000) → (m ≤ 1000) → (o ≤ 1000) → ((my n N) = true) → ((my m M) = true) → ((my o O) = true) → ((Int.negSucc 0) ≤ (cp n N m M)) → ((cp n N m M) ≤ ((1 : Nat) : Int)) → ((cp m M n N) = (((0 : Nat) : Int) - (cp n N m M))) → ((BEq.beq (Clu.iEq (cp n N m M) (Int.ofNat 0)) (sm n N m M)) = true) → ((cp n N n N) = ((0 : Nat) : Int)) → ((cp n N m M) ≤ ((0 : Nat) : Int)) → ((cp m M o O) ≤ ((0 : Nat) : Int)) → (((0 : Nat) : Int) < (cp n N o O)) → False)
  (V2 : (n ≤ 1000) → (m ≤ 1000) → (o ≤ 1000) → ((my n N) = true) → ((my m M) = true) → ((my o O) = true) → ((Int.negSucc 0) ≤ (cp n N m M)) → ((cp n N m M) ≤ ((1 : Nat) : Int)) → ((cp m M n N) = (((0 : Nat) : Int) - (cp n N m M))) → ((BEq.beq (Clu.iEq (cp n N m M) (Int.ofNat 0)) (sm n N m M)) = true) → ((cp n N n N) = ((0 : Nat) : Int)) → ((cp n N m M) ≤ ((0 : Nat) : Int)) → ((cp m M o O) ≤ ((0 : Nat) : Int)) → ((cp n N o O) ≤ ((0 : Nat) : Int)) → (((0 : Nat) : Int) ≤ (cp n N m M)) → (BEq.beq (Clu.iLt (cp n N o O) (Int.ofNat 0)) (Clu.iLt (cp m M o O) (Int.ofNat 0))) = true)
  (V3 : (n ≤ 1000) → (m ≤ 1000) → (o ≤ 1000) → ((my n N) = true) → ((my m M) = true) → ((my o O) = true) → ((Int.negSucc 0) ≤ (cp n N m M)) → ((cp n N m M) ≤ ((1 : Nat) : Int)) → ((cp m M n N) = (((0 : Nat) : Int) - (cp n N m M))) → ((BEq.beq (Clu.iEq (cp n N m M) (Int.ofNat 0)) (sm n N m M)) = true) → ((cp n N n N) = ((0 : Nat) : Int)) → ((cp n N m M) ≤ ((0 : Nat) : Int)) → ((cp m M o O) ≤ ((0 : Nat) : Int)) → ((cp n N o O) ≤ ((0 : Nat) : Int)) → ((cp n N m M) < ((0 : Nat) : Int)) → (BEq.beq (Clu.iLt (cp n N o O) (Int.ofNat 0)) true) = true)
  (V4 : (n ≤ 1000) → (m ≤ 1000) → (o ≤ 1000) → ((my n N) = true) → ((my m M) = true) → ((my o O) = true) → ((Int.negSucc 0) ≤ (cp n N m M)) → ((cp n N m M) ≤ ((1 : Nat) : Int)) → ((cp m M n N) = (((0 : Nat) : Int) - (cp n N m M))) → ((BEq.beq (Clu.iEq (cp n N m M) (Int.ofNat 0)) (sm n N m M)) = true) → ((cp n N n N) ≠ ((0 : Nat) : Int)) → False)
  (V5 : (n ≤ 1000) → (m ≤ 1000) → (o ≤ 1000) → ((my n N) = true) → ((my m M) = true) → ((my o O) = true) → ((Int.negSucc 0) ≤ (cp n N m M)) → ((cp n N m M) ≤ ((1 : Nat) : Int)) → ((cp m M n N) = (((0 : Nat) : Int) - (cp n N m M))) → ((BEq.beq (Clu.iEq (cp n N m M) (Int.ofNat 0)) (sm n N m M)) = false) → False)
  (V6 : (n ≤ 1000) → (m ≤ 1000) → (o ≤ 1000) → ((my n N) = true) → ((my m M) = true) → ((my o O) = true) → ((Int.negSucc 0) ≤ (cp n N m M)) → ((cp n N m M) ≤ ((1 : Nat) : Int)) → ((cp m M n N) ≠ (((0 : Nat) : Int) - (cp n N m M))) → False)
  (V7 : (n ≤ 1000) → (m ≤ 1000) → (o ≤ 1000) → ((my n N) = true) → ((my m M) = true) → ((my o O) = true) → ((Int.negSucc 0) ≤ (cp n N m M)) → (((1 : Nat) : Int) < (cp n N m M)) → False)
  (V8 : (n ≤ 1000) → (m ≤ 1000) → (o ≤ 1000) → ((my n N) = true) → ((my m M) = true) → ((my o O) = true) → ((cp n N m M) < (Int.negSucc 0)) → False) : Clu.Fact Try.prog 7 [] [.s n N, .s m M, .s o O] (.b true) :=
  Clu.factL Clu.plain (Clu.tell_ok (hX)) Clu.mixed (Clu.noL_ok) (rowF_run my sm wi cp fo n N m M o O hX V0 V1 V2 V3 V4 V5 V6 V7 V8) rfl rfl
theorem cmpB_eq {a b : List Nat} (ha : mayB a = true) (hb : mayB b = true) : cmpB a b = cmpW (((labs a).getD []).map low).reverse (((labs b).getD []).map low).reverse := by
  obtain ⟨A, rfl, oA, hA⟩ := mayB_iff.1 ha
  obtain ⟨B, rfl, oB, hB⟩ := mayB_iff.1 hb
  unfold cmpB; rw [ha, hb, labs_wire oA, labs_wire oB]; rfl
theorem cmpB_same {a b : List Nat} (ha : mayB a = true) (hb : mayB b = true) : cmpB a b = 0 ↔ sameB a b = true := by
  rw [cmpB_eq ha hb, cmpW_ord.zero]
  obtain ⟨A, rfl, oA, hA⟩ := mayB_iff.1 ha
  obtain ⟨B, rfl, oB, hB⟩ := mayB_iff.1 hb
  unfold sameB
  rw [ha, hb, Bool.true_and, Bool.true_and, decide_eq_true_iff, low_wire_inj oA oB, labs_wire oA, labs_wire oB]
  exact ⟨fun e => List.reverse_inj.1 e, fun e => congrArg List.reverse e⟩
theorem law_fact (a : List Nat) (hA : Clu.B8 a) (la : a.length ≤ maxLen) (b : List Nat) (hB : Clu.B8 b) (lb : b.length ≤ maxLen) (c : List Nat) (hC : Clu.B8 c) (lc : c.length ≤ maxLen) :
    Clu.Fact Try.prog 7 [] [.s a.length (Clu.pk a), .s b.length (Clu.pk b), .s c.length (Clu.pk c)] (.b true) := by
  have o := cmpW_ord
  refine rowF_law myF smF wiF cpF foF1 _ _ _ _ _ _ lawX_ok ?_ ?_ ?_ ?_ ?_ ?_ ?_ ?_ ?_
  all_goals
    intros _ _ _ h1 h2 h3
    rw [myF_pk hA] at h1
    rw [myF_pk hB] at h2
    rw [myF_pk hC] at h3
    simp only [cpF_pk hA hB, cpF_pk hB hA, cpF_pk hB hC, cpF_pk hA hC, cpF_pk hA hA, smF_pk hA hB, Clu.iEq_dec, Clu.iLt_eq, show Int.negSucc 0 = -1 from rfl, show (Int.ofNat 0) = 0 from rfl, show ((0 : Nat) : Int) = 0 from rfl, show ((1 : Nat) : Int) = 1 from rfl]
    have z0 := (o.zero (((labs a).getD []).map low).reverse (((labs a).getD []).map low).reverse).2 rfl
    have z1 := o.anti (((labs a).getD []).map low).reverse (((labs b).getD []).map low).reverse
    have z2 := o.low (((labs a).getD []).map low).reverse (((labs b).getD []).map low).reverse
    have z3 := o.high (((labs a).getD []).map low).reverse (((labs b).getD []).map low).reverse
    have z4 := o.trans (((labs a).getD []).map low).reverse (((labs b).getD []).map low).reverse (((labs c).getD []).map low).reverse
    have z6 := @Ord3.strict _ _ o (((labs a).getD []).map low).reverse (((labs b).getD []).map low).reverse (((labs c).getD []).map low).reverse
    have z5 := cmpB_same h1 h2
    have z8 := (o.zero (((labs a).getD []).map low).reverse (((labs b).getD []).map low).reverse).1
    rw [← cmpB_eq h1 h1] at z0
    rw [← cmpB_eq h1 h2, ← cmpB_eq h2 h1] at z1
    rw [← cmpB_eq h1 h2] at z2 z3 z8
    rw [← cmpB_eq h1 h2, ← cmpB_eq h2 h3, ← cmpB_eq h1 h3] at z4 z6
  · intros; omega
  · intros; omega
  · intro _ _ _ _ _ _ q1 q2 q3
    have : cmpB a b = 0 := by omega
    have e := z8 this
    have e2 : cmpB a c = cmpB b c := by rw [cmpB_eq h1 h3, cmpB_eq h2 h3, e]
    rw [e2]
    simp
  · intro _ _ _ _ _ q0 q1 q2 q3
    rw [decide_eq_true (z6 q3 q1)]
    rfl
  · intros; omega
  · intro _ _ _ q
    cases hs : sameB a b with
    | true => rw [hs, decide_eq_true (z5.2 hs)] at q; cases q
    | false =>
      have : ¬ cmpB a b = 0 := fun e => by rw [z5.1 e] at hs; cases hs
      rw [hs, decide_eq_false this] at q; cases q
  · intros; omega
  · intros; omega
  · intros; omega

end Go.Proofs.Ytmokdhmicdmgfaa.nameRow
