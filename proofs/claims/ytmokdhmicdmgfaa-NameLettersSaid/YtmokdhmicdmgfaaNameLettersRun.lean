/-
  NameLetters: what it comes to.
-/
import Derived.Test.YtmokdhmicdmgfaaNameLettersBase
import Derived.Test.YtmokdhmicdmgfaaNmL1
namespace Go.Proofs.Ytmokdhmicdmgfaa.nameLetters
open Go.RowKit
set_option linter.unusedVariables false
set_option linter.unusedSimpArgs false
set_option maxRecDepth 100000

noncomputable def s1t (fn fN : Nat → Nat → Nat) : List Clu.AV → Clu.Dec Clu.AV := fun args => match args with
  | [.s n N] => .need (Nat.blt n 9000000000000000000) (.leaf (.s (fn n N) (fN n N)))
  | _ => .fail

noncomputable def fnF (n N : Nat) : Nat := (foldL (Clu.lst n N)).length
noncomputable def fNF (n N : Nat) : Nat := Clu.pk (foldL (Clu.lst n N))
theorem fnF_pk {l : List Nat} (h : Clu.B8 l) : fnF l.length (Clu.pk l) = (foldL l).length := by unfold fnF; rw [Clu.lst_pk h]
theorem fNF_pk {l : List Nat} (h : Clu.B8 l) : fNF l.length (Clu.pk l) = Clu.pk (foldL l) := by unfold fNF; rw [Clu.lst_pk h]
theorem s1t_ok : Clu.HandOK Try.prog 18 (Clu.decH (s1t fnF fNF)) := Clu.decH_ok fun args v h => by
  unfold s1t at h
  split at h
  · rename_i n N
    obtain ⟨h1, h2⟩ := h
    have h2 : Clu.AV.s (fnF n N) (fNF n N) = v := h2
    subst h2
    exact Clu.Fact.s1 (fold_fact (Clu.lst_b8 n N) (by rw [Clu.lst_length]; exact Clu.blt_iff.1 h1))
  · exact h.elim

theorem leX_ok : Clu.XOK Try.prog (Clu.addB (Clu.addB (Clu.addB (Clu.addB (Clu.addB (Clu.addB (Clu.addB (Clu.noX) 11 (Clu.decH awH)) 17 (Clu.decH (mayH myF))) 22 (Clu.decH (s2b smF))) 24 (Clu.decH (s2b wiF))) 26 (Clu.decH (s2i cpF))) 18 (Clu.decH (s1t fnF fNF))) 32 (Clu.rowH [] (tuH ukF tNF))) := Clu.addB_ok (Clu.addB_ok (Clu.addB_ok (Clu.addB_ok (Clu.addB_ok (Clu.addB_ok (Clu.addB_ok Clu.noX_ok awH_ok) mayH_ok) sm_ok) wi_ok) cp_ok) s1t_ok) tuH_ok

set_option maxRecDepth 10000000 in
theorem leN_raw (my : Nat → Nat → Bool) (sm wi : Nat → Nat → Nat → Nat → Bool) (cp : Nat → Nat → Nat → Nat → Int) (fn fN : Nat → Nat → Nat) (uk : List Clu.AV → Nat → Bool) (tN : Nat → Nat → List Clu.AV → Nat → Nat) (n N m M : Nat) : (Clu.runL (Clu.noL) Try.prog (Clu.tell (Clu.addB (Clu.addB (Clu.addB (Clu.addB (Clu.addB (Clu.addB (Clu.addB (Clu.noX) 11 (Clu.decH awH)) 17 (Clu.decH (mayH my))) 22 (Clu.decH (s2b sm))) 24 (Clu.decH (s2b wi))) 26 (Clu.decH (s2i cp))) 18 (Clu.decH (s1t fn fN))) 32 (Clu.rowH [] (tuH uk tN))) 9 300015430001363000118300010230000883000078300006630000583000048300004230000323000022) 1000 1000 9 [.s n N, .s m M, .sn] (Clu.mkH .e (Clu.argB [] ++ Clu.layB [])) 1000) = Clu.forkB ((Clu.iLt (Int.ofNat 1000) (Int.ofNat n))) (Clu.forkB ((Clu.iLt (Int.ofNat 1000) (Int.ofNat m))) (Clu.needT ((Nat.blt n 9000000000000000000)) (.err 96 1) (Clu.forkB ((Bool.not (my n N))) (Clu.needT ((Nat.blt m 9000000000000000000)) (.err 96 1) (Clu.forkB ((Bool.not (my m M))) (Clu.needT ((Nat.blt n 1000001)) (.err 96 1) (Clu.needT ((Nat.blt n 9000000000000000000)) (.err 96 1) (Clu.forkB ((my n (tN n N [] 0))) ((Clu.Out.ok (Clu.AV.b false))) (Clu.needT ((Nat.blt n 9000000000000000000)) (.err 96 1) (Clu.needT ((Nat.blt n 9000000000000000000)) (.err 96 1) (Clu.forkB ((sm n N n (tN n N [] 0))) ((Clu.Out.ok (Clu.AV.b false))) (Clu.needT ((Nat.blt n 9000000000000000000)) (.err 96 1) (Clu.needT ((Nat.blt n 9000000000000000000)) (.err 96 1) (Clu.forkB ((Clu.eqNs (fn n (tN n N [] 0)) (fN n (tN n N [] 0)) (fn n N) (fN n N))) ((Clu.Out.ok (Clu.AV.b false))) (Clu.needT ((Nat.blt n 9000000000000000000)) (.err 96 1) (Clu.needT ((Nat.blt (fn n N) 9000000000000000000)) (.err 96 1) (Clu.needT ((Nat.blt n 9000000000000000000)) (.err 96 1) (Clu.forkB ((Clu.eqNs (fn (fn n N) (fN n N)) (fN (fn n N) (fN n N)) (fn n N) (fN n N))) ((Clu.Out.ok (Clu.AV.b false))) (Clu.needT ((Nat.blt n 9000000000000000000)) (.err 96 1) (Clu.needT ((Nat.blt m 9000000000000000000)) (.err 96 1) (Clu.needT ((Nat.blt n 9000000000000000000)) (.err 96 1) (Clu.needT ((Nat.blt m 9000000000000000000)) (.err 96 1) (Clu.forkB ((Clu.iEq (cp n N m M) (cp n (tN n N [] 0) m M))) ((Clu.Out.ok (Clu.AV.b false))) (Clu.needT ((Nat.blt n 9000000000000000000)) (.err 96 1) (Clu.needT ((Nat.blt m 9000000000000000000)) (.err 96 1) (Clu.needT ((Nat.blt n 9000000000000000000)) (.err 96 1) (Clu.needT ((Nat.blt m 9000000000000000000)) (.err 96 1) (Clu.forkB ((BEq.beq (wi n N m M) (wi n (tN n N [] 0) m M))) ((Clu.Out.ok (Clu.AV.b false))) (Clu.needT ((Nat.blt m 9000000000000000000)) (.err 96 1) (Clu.needT ((Nat.blt n 9000000000000000000)) (.err 96 1) (Clu.needT ((Nat.blt m 9000000000000000000)) (.err 96 1) (Clu.needT ((Nat.blt n 9000000000000000000)) (.err 96 1) ((Clu.Out.ok (Clu.AV.b (BEq.beq (wi m M n N) (wi m M n (tN n N [] 0))))))))))))))))))))))))))))))))) ((Clu.Out.ok (Clu.AV.b true))))) ((Clu.Out.ok (Clu.AV.b true))))) ((Clu.Out.ok (Clu.AV.b true)))) ((Clu.Out.ok (Clu.AV.b true))) := by kernel_rfl
set_option linter.unusedVariables false in
theorem leN_run (my : Nat → Nat → Bool) (sm wi : Nat → Nat → Nat → Nat → Bool) (cp : Nat → Nat → Nat → Nat → Int) (fn fN : Nat → Nat → Nat) (uk : List Clu.AV → Nat → Bool) (tN : Nat → Nat → List Clu.AV → Nat → Nat) (n N m M : Nat) (hX : Clu.XOK Try.prog (Clu.addB (Clu.addB (Clu.addB (Clu.addB (Clu.addB (Clu.addB (Clu.addB (Clu.noX) 11 (Clu.decH awH)) 17 (Clu.decH (mayH my))) 22 (Clu.decH (s2b sm))) 24 (Clu.decH (s2b wi))) 26 (Clu.decH (s2i cp))) 18 (Clu.decH (s1t fn fN))) 32 (Clu.rowH [] (tuH uk tN))))  
  (V0 : (n ≤ 1000) → (m ≤ 1000) → ((my n N) = true) → ((my m M) = true) → ((my n (tN n N [] 0)) = false) → False)
  (V1 : (n ≤ 1000) → (m ≤ 1000) → ((my n N) = true) → ((my m M) = true) → ((my n (tN n N [] 0)) = true) → ((sm n N n (tN n N [] 0)) = false) → False)
  (V2 : (n ≤ 1000) → (m ≤ 1000) → ((my n N) = true) → ((my m M) = true) → ((my n (tN n N [] 0)) = true) → ((sm n N n (tN n N [] 0)) = true) → ((Clu.eqNs (fn n (tN n N [] 0)) (fN n (tN n N [] 0)) (fn n N) (fN n N)) = false) → False)
  (V3 : (n ≤ 1000) → (m ≤ 1000) → ((my n N) = true) → ((my m M) = true) → ((my n (tN n N [] 0)) = true) → ((sm n N n (tN n N [] 0)) = true) → ((Clu.eqNs (fn n (tN n N [] 0)) (fN n (tN n N [] 0)) (fn n N) (fN n N)) = true) → (fn n N) < 9000000000000000000)
  (V4 : (n ≤ 1000) → (m ≤ 1000) → ((my n N) = true) → ((my m M) = true) → ((my n (tN n N [] 0)) = true) → ((sm n N n (tN n N [] 0)) = true) → ((Clu.eqNs (fn n (tN n N [] 0)) (fN n (tN n N [] 0)) (fn n N) (fN n N)) = true) → ((Clu.eqNs (fn (fn n N) (fN n N)) (fN (fn n N) (fN n N)) (fn n N) (fN n N)) = false) → False)
  (V5 : (n ≤ 1000) → (m ≤ 1000) → ((my n N) = true) → ((my m M) = true) → ((my n (tN n N [] 0)) = true) → ((sm n N n (tN n N [] 0)) = true) → ((Clu.eqNs (fn n (tN n N [] 0)) (fN n (tN n N [] 0)) (fn n N) (fN n N)) = true) → ((Clu.eqNs (fn (fn n N) (fN n N)) (fN (fn n N) (fN n N)) (fn n N) (fN n N)) = true) → ((cp n N m M) ≠ (cp n (tN n N [] 0) m M)) → False)
  (V6 : (n ≤ 1000) → (m ≤ 1000) → ((my n N) = true) → ((my m M) = true) → ((my n (tN n N [] 0)) = true) → ((sm n N n (tN n N [] 0)) = true) → ((Clu.eqNs (fn n (tN n N [] 0)) (fN n (tN n N [] 0)) (fn n N) (fN n N)) = true) → ((Clu.eqNs (fn (fn n N) (fN n N)) (fN (fn n N) (fN n N)) (fn n N) (fN n N)) = true) → ((cp n N m M) = (cp n (tN n N [] 0) m M)) → ((BEq.beq (wi n N m M) (wi n (tN n N [] 0) m M)) = false) → False)
  (V7 : (n ≤ 1000) → (m ≤ 1000) → ((my n N) = true) → ((my m M) = true) → ((my n (tN n N [] 0)) = true) → ((sm n N n (tN n N [] 0)) = true) → ((Clu.eqNs (fn n (tN n N [] 0)) (fN n (tN n N [] 0)) (fn n N) (fN n N)) = true) → ((Clu.eqNs (fn (fn n N) (fN n N)) (fN (fn n N) (fN n N)) (fn n N) (fN n N)) = true) → ((cp n N m M) = (cp n (tN n N [] 0) m M)) → ((BEq.beq (wi n N m M) (wi n (tN n N [] 0) m M)) = true) → (BEq.beq (wi m M n N) (wi m M n (tN n N [] 0))) = true) : (Clu.runL (Clu.noL) Try.prog (Clu.tell (Clu.addB (Clu.addB (Clu.addB (Clu.addB (Clu.addB (Clu.addB (Clu.addB (Clu.noX) 11 (Clu.decH awH)) 17 (Clu.decH (mayH my))) 22 (Clu.decH (s2b sm))) 24 (Clu.decH (s2b wi))) 26 (Clu.decH (s2i cp))) 18 (Clu.decH (s1t fn fN))) 32 (Clu.rowH [] (tuH uk tN))) 9 300015430001363000118300010230000883000078300006630000583000048300004230000323000022) 1000 1000 9 [.s n N, .s m M, .sn] (Clu.mkH .e (Clu.argB [] ++ Clu.layB [])) 1000) = .ok (.b true) := by
  rw [leN_raw]
  refine Clu.forkB_cases (fun bc1 => ?_) (fun bc1 => ?_)
  · have c1 : n ≤ 1000 := (Int.ofNat_le.1 (Clu.of_iLt_f bc1))
    refine Clu.forkB_cases (fun bc2 => ?_) (fun bc2 => ?_)
    · have c2 : m ≤ 1000 := (Int.ofNat_le.1 (Clu.of_iLt_f bc2))
      have q2 : n < 9000000000000000000 := (by omega)
      refine (Clu.needT_eq (Clu.blt_iff.2 q2) _ _).trans ?_
      refine Clu.forkB_cases (fun bc3 => ?_) (fun bc3 => ?_)
      · have c3 : (my n N) = true := (Clu.of_not_f bc3)
        have q3 : m < 9000000000000000000 := (by omega)
        refine (Clu.needT_eq (Clu.blt_iff.2 q3) _ _).trans ?_
        refine Clu.forkB_cases (fun bc4 => ?_) (fun bc4 => ?_)
        · have c4 : (my m M) = true := (Clu.of_not_f bc4)
          have q4 : n < 1000001 := (by omega)
          refine (Clu.needT_eq (Clu.blt_iff.2 q4) _ _).trans ?_
          have q4 : n < 9000000000000000000 := (by omega)
          refine (Clu.needT_eq (Clu.blt_iff.2 q4) _ _).trans ?_
          refine Clu.forkB_cases (fun bc5 => ?_) (fun bc5 => ?_)
          · have c5 : (my n (tN n N [] 0)) = false := bc5
            exact (V0 c1 c2 c3 c4 c5).elim
          · have c5 : (my n (tN n N [] 0)) = true := bc5
            have q5 : n < 9000000000000000000 := (by omega)
            refine (Clu.needT_eq (Clu.blt_iff.2 q5) _ _).trans ?_
            have q5 : n < 9000000000000000000 := (by omega)
            refine (Clu.needT_eq (Clu.blt_iff.2 q5) _ _).trans ?_
            refine Clu.forkB_cases (fun bc6 => ?_) (fun bc6 => ?_)
            · have c6 : (sm n N n (tN n N [] 0)) = false := bc6
              exact (V1 c1 c2 c3 c4 c5 c6).elim
            · have c6 : (sm n N n (tN n N [] 0)) = true := bc6
              have q6 : n < 9000000000000000000 := (by omega)
              refine (Clu.needT_eq (Clu.blt_iff.2 q6) _ _).trans ?_
              have q6 : n < 9000000000000000000 := (by omega)
              refine (Clu.needT_eq (Clu.blt_iff.2 q6) _ _).trans ?_
              refine Clu.forkB_cases (fun bc7 => ?_) (fun bc7 => ?_)
              · have c7 : (Clu.eqNs (fn n (tN n N [] 0)) (fN n (tN n N [] 0)) (fn n N) (fN n N)) = false := bc7
                exact (V2 c1 c2 c3 c4 c5 c6 c7).elim
              · have c7 : (Clu.eqNs (fn n (tN n N [] 0)) (fN n (tN n N [] 0)) (fn n N) (fN n N)) = true := bc7
                have q7 : n < 9000000000000000000 := (by omega)
                refine (Clu.needT_eq (Clu.blt_iff.2 q7) _ _).trans ?_
                have q7 : (fn n N) < 9000000000000000000 := (V3 c1 c2 c3 c4 c5 c6 c7)
                refine (Clu.needT_eq (Clu.blt_iff.2 q7) _ _).trans ?_
                have q7 : n < 9000000000000000000 := (by omega)
                refine (Clu.needT_eq (Clu.blt_iff.2 q7) _ _).trans ?_
                refine Clu.forkB_cases (fun bc8 => ?_) (fun bc8 => ?_)
                · have c8 : (Clu.eqNs (fn (fn n N) (fN n N)) (fN (fn n N) (fN n N)) (fn n N) (fN n N)) = false := bc8
                  exact (V4 c1 c2 c3 c4 c5 c6 c7 c8).elim
                · have c8 : (Clu.eqNs (fn (fn n N) (fN n N)) (fN (fn n N) (fN n N)) (fn n N) (fN n N)) = true := bc8
                  have q8 : n < 9000000000000000000 := (by omega)
                  refine (Clu.needT_eq (Clu.blt_iff.2 q8) _ _).trans ?_
                  have q8 : m < 9000000000000000000 := (by omega)
                  refine (Clu.needT_eq (Clu.blt_iff.2 q8) _ _).trans ?_
                  have q8 : n < 9000000000000000000 := (by omega)
                  refine (Clu.needT_eq (Clu.blt_iff.2 q8) _ _).trans ?_
                  have q8 : m < 9000000000000000000 := (by omega)
                  refine (Clu.needT_eq (Clu.blt_iff.2 q8) _ _).trans ?_
                  refine Clu.forkB_cases (fun bc9 => ?_) (fun bc9 => ?_)
                  · have c9 : (cp n N m M) ≠ (cp n (tN n N [] 0) m M) := (Clu.of_iEq_f bc9)
                    exact (V5 c1 c2 c3 c4 c5 c6 c7 c8 c9).elim
                  · have c9 : (cp n N m M) = (cp n (tN n N [] 0) m M) := (Clu.of_iEq_t bc9)
                    have q9 : n < 9000000000000000000 := (by omega)
                    refine (Clu.needT_eq (Clu.blt_iff.2 q9) _ _).trans ?_
                    have q9 : m < 9000000000000000000 := (by omega)
                    refine (Clu.needT_eq (Clu.blt_iff.2 q9) _ _).trans ?_
                    have q9 : n < 9000000000000000000 := (by omega)
                    refine (Clu.needT_eq (Clu.blt_iff.2 q9) _ _).trans ?_
                    have q9 : m < 9000000000000000000 := (by omega)
                    refine (Clu.needT_eq (Clu.blt_iff.2 q9) _ _).trans ?_
                    refine Clu.forkB_cases (fun bc10 => ?_) (fun bc10 => ?_)
                    · have c10 : (BEq.beq (wi n N m M) (wi n (tN n N [] 0) m M)) = false := bc10
                      exact (V6 c1 c2 c3 c4 c5 c6 c7 c8 c9 c10).elim
                    · have c10 : (BEq.beq (wi n N m M) (wi n (tN n N [] 0) m M)) = true := bc10
                      have q10 : m < 9000000000000000000 := (by omega)
                      refine (Clu.needT_eq (Clu.blt_iff.2 q10) _ _).trans ?_
                      have q10 : n < 9000000000000000000 := (by omega)
                      refine (Clu.needT_eq (Clu.blt_iff.2 q10) _ _).trans ?_
                      have q10 : m < 9000000000000000000 := (by omega)
                      refine (Clu.needT_eq (Clu.blt_iff.2 q10) _ _).trans ?_
                      have q10 : n < 9000000000000000000 := (by omega)
                      refine (Clu.needT_eq (Clu.blt_iff.2 q10) _ _).trans ?_
                      have r10 : (BEq.beq (wi m M n N) (wi m M n (tN n N [] 0))) = true := V7 c1 c2 c3 c4 c5 c6 c7 c8 c9 c10
                      exact congrArg (fun b => Clu.Out.ok (.b b)) (r10)
        · have c4 : (my m M) = false := (Clu.of_not_t bc4)
          rfl
      · have c3 : (my n N) = false := (Clu.of_not_t bc3)
        rfl
    · have c2 : 1000 < m := (Int.ofNat_lt.1 (Clu.of_iLt_t bc2))
      rfl
  · have c1 : 1000 < n := (Int.ofNat_lt.1 (Clu.of_iLt_t bc1))
    rfl
set_option maxRecDepth 10000000 in
theorem leR_raw (my : Nat → Nat → Bool) (sm wi : Nat → Nat → Nat → Nat → Bool) (cp : Nat → Nat → Nat → Nat → Int) (fn fN : Nat → Nat → Nat) (uk : List Clu.AV → Nat → Bool) (tN : Nat → Nat → List Clu.AV → Nat → Nat) (n N m M k cap : Nat) (cs : List Clu.AV) : (Clu.runL (Clu.noL) Try.prog (Clu.tell (Clu.addB (Clu.addB (Clu.addB (Clu.addB (Clu.addB (Clu.addB (Clu.addB (Clu.noX) 11 (Clu.decH awH)) 17 (Clu.decH (mayH my))) 22 (Clu.decH (s2b sm))) 24 (Clu.decH (s2b wi))) 26 (Clu.decH (s2i cp))) 18 (Clu.decH (s1t fn fN))) 32 (Clu.rowH [] (tuH uk tN))) 9 300015430001363000118300010230000883000078300006630000583000048300004230000323000022) 1000 1001 9 [.s n N, .s m M, .sl 1000 0 k cap] (Clu.mkH .e (Clu.argB [(1000, cs)] ++ Clu.layB [])) 1001) = Clu.forkB ((Clu.iLt (Int.ofNat 1000) (Int.ofNat n))) (Clu.forkB ((Clu.iLt (Int.ofNat 1000) (Int.ofNat m))) (Clu.forkB ((Clu.iLt (Int.ofNat 300) (Int.ofNat k))) (Clu.needT ((Nat.blt n 9000000000000000000)) (.err 96 1) (Clu.forkB ((Bool.not (my n N))) (Clu.needT ((Nat.blt m 9000000000000000000)) (.err 96 1) (Clu.forkB ((Bool.not (my m M))) (Clu.needT ((Nat.blt n 1000001)) (.err 96 1) (Clu.needT ((Nat.blt k 1000001)) (.err 96 1) (Clu.needT ((uk cs k)) (.err 96 1) (Clu.needT ((Nat.ble (List.length cs) 1000000000000000000000)) (.err 95 4) (Clu.needT ((Nat.blt n 9000000000000000000)) (.err 96 1) (Clu.forkB ((my n (tN n N cs k))) ((Clu.Out.ok (Clu.AV.b false))) (Clu.needT ((Nat.blt n 9000000000000000000)) (.err 96 1) (Clu.needT ((Nat.blt n 9000000000000000000)) (.err 96 1) (Clu.forkB ((sm n N n (tN n N cs k))) ((Clu.Out.ok (Clu.AV.b false))) (Clu.needT ((Nat.blt n 9000000000000000000)) (.err 96 1) (Clu.needT ((Nat.blt n 9000000000000000000)) (.err 96 1) (Clu.forkB ((Clu.eqNs (fn n (tN n N cs k)) (fN n (tN n N cs k)) (fn n N) (fN n N))) ((Clu.Out.ok (Clu.AV.b false))) (Clu.needT ((Nat.blt n 9000000000000000000)) (.err 96 1) (Clu.needT ((Nat.blt (fn n N) 9000000000000000000)) (.err 96 1) (Clu.needT ((Nat.blt n 9000000000000000000)) (.err 96 1) (Clu.forkB ((Clu.eqNs (fn (fn n N) (fN n N)) (fN (fn n N) (fN n N)) (fn n N) (fN n N))) ((Clu.Out.ok (Clu.AV.b false))) (Clu.needT ((Nat.blt n 9000000000000000000)) (.err 96 1) (Clu.needT ((Nat.blt m 9000000000000000000)) (.err 96 1) (Clu.needT ((Nat.blt n 9000000000000000000)) (.err 96 1) (Clu.needT ((Nat.blt m 9000000000000000000)) (.err 96 1) (Clu.forkB ((Clu.iEq (cp n N m M) (cp n (tN n N cs k) m M))) ((Clu.Out.ok (Clu.AV.b false))) (Clu.needT ((Nat.blt n 9000000000000000000)) (.err 96 1) (Clu.needT ((Nat.blt m 9000000000000000000)) (.err 96 1) (Clu.needT ((Nat.blt n 9000000000000000000)) (.err 96 1) (Clu.needT ((Nat.blt m 9000000000000000000)) (.err 96 1) (Clu.forkB ((BEq.beq (wi n N m M) (wi n (tN n N cs k) m M))) ((Clu.Out.ok (Clu.AV.b false))) (Clu.needT ((Nat.blt m 9000000000000000000)) (.err 96 1) (Clu.needT ((Nat.blt n 9000000000000000000)) (.err 96 1) (Clu.needT ((Nat.blt m 9000000000000000000)) (.err 96 1) (Clu.needT ((Nat.blt n 9000000000000000000)) (.err 96 1) ((Clu.Out.ok (Clu.AV.b (BEq.beq (wi m M n N) (wi m M n (tN n N cs k)))))))))))))))))))))))))))))))))))) ((Clu.Out.ok (Clu.AV.b true))))) ((Clu.Out.ok (Clu.AV.b true))))) ((Clu.Out.ok (Clu.AV.b true)))) ((Clu.Out.ok (Clu.AV.b true)))) ((Clu.Out.ok (Clu.AV.b true))) := by kernel_rfl
set_option linter.unusedVariables false in
theorem leR_run (my : Nat → Nat → Bool) (sm wi : Nat → Nat → Nat → Nat → Bool) (cp : Nat → Nat → Nat → Nat → Int) (fn fN : Nat → Nat → Nat) (uk : List Clu.AV → Nat → Bool) (tN : Nat → Nat → List Clu.AV → Nat → Nat) (n N m M k cap : Nat) (cs : List Clu.AV) (hX : Clu.XOK Try.prog (Clu.addB (Clu.addB (Clu.addB (Clu.addB (Clu.addB (Clu.addB (Clu.addB (Clu.noX) 11 (Clu.decH awH)) 17 (Clu.decH (mayH my))) 22 (Clu.decH (s2b sm))) 24 (Clu.decH (s2b wi))) 26 (Clu.decH (s2i cp))) 18 (Clu.decH (s1t fn fN))) 32 (Clu.rowH [] (tuH uk tN))))  
  (V0 : (n ≤ 1000) → (m ≤ 1000) → (k ≤ 300) → ((my n N) = true) → ((my m M) = true) → (uk cs k) = true)
  (V1 : (n ≤ 1000) → (m ≤ 1000) → (k ≤ 300) → ((my n N) = true) → ((my m M) = true) → (List.length cs) ≤ 1000000000000000000000)
  (V2 : (n ≤ 1000) → (m ≤ 1000) → (k ≤ 300) → ((my n N) = true) → ((my m M) = true) → ((my n (tN n N cs k)) = false) → False)
  (V3 : (n ≤ 1000) → (m ≤ 1000) → (k ≤ 300) → ((my n N) = true) → ((my m M) = true) → ((my n (tN n N cs k)) = true) → ((sm n N n (tN n N cs k)) = false) → False)
  (V4 : (n ≤ 1000) → (m ≤ 1000) → (k ≤ 300) → ((my n N) = true) → ((my m M) = true) → ((my n (tN n N cs k)) = true) → ((sm n N n (tN n N cs k)) = true) → ((Clu.eqNs (fn n (tN n N cs k)) (fN n (tN n N cs k)) (fn n N) (fN n N)) = false) → False)
  (V5 : (n ≤ 1000) → (m ≤ 1000) → (k ≤ 300) → ((my n N) = true) → ((my m M) = true) → ((my n (tN n N cs k)) = true) → ((sm n N n (tN n N cs k)) = true) → ((Clu.eqNs (fn n (tN n N cs k)) (fN n (tN n N cs k)) (fn n N) (fN n N)) = true) → (fn n N) < 9000000000000000000)
  (V6 : (n ≤ 1000) → (m ≤ 1000) → (k ≤ 300) → ((my n N) = true) → ((my m M) = true) → ((my n (tN n N cs k)) = true) → ((sm n N n (tN n N cs k)) = true) → ((Clu.eqNs (fn n (tN n N cs k)) (fN n (tN n N cs k)) (fn n N) (fN n N)) = true) → ((Clu.eqNs (fn (fn n N) (fN n N)) (fN (fn n N) (fN n N)) (fn n N) (fN n N)) = false) → False)
  (V7 : (n ≤ 1000) → (m ≤ 1000) → (k ≤ 300) → ((my n N) = true) → ((my m M) = true) → ((my n (tN n N cs k)) = true) → ((sm n N n (tN n N cs k)) = true) → ((Clu.eqNs (fn n (tN n N cs k)) (fN n (tN n N cs k)) (fn n N) (fN n N)) = true) → ((Clu.eqNs (fn (fn n N) (fN n N)) (fN (fn n N) (fN n N)) (fn n N) (fN n N)) = true) → ((cp n N m M) ≠ (cp n (tN n N cs k) m M)) → False)
  (V8 : (n ≤ 1000) → (m ≤ 1000) → (k ≤ 300) → ((my n N) = true) → ((my m M) = true) → ((my n (tN n N cs k)) = true) → ((sm n N n (tN n N cs k)) = true) → ((Clu.eqNs (fn n (tN n N cs k)) (fN n (tN n N cs k)) (fn n N) (fN n N)) = true) → ((Clu.eqNs (fn (fn n N) (fN n N)) (fN (fn n N) (fN n N)) (fn n N) (fN n N)) = true) → ((cp n N m M) = (cp n (tN n N cs k) m M)) → ((BEq.beq (wi n N m M) (wi n (tN n N cs k) m M)) = false) → False)
  (V9 : (n ≤ 1000) → (m ≤ 1000) → (k ≤ 300) → ((my n N) = true) → ((my m M) = true) → ((my n (tN n N cs k)) = true) → ((sm n N n (tN n N cs k)) = true) → ((Clu.eqNs (fn n (tN n N cs k)) (fN n (tN n N cs k)) (fn n N) (fN n N)) = true) → ((Clu.eqNs (fn (fn n N) (fN n N)) (fN (fn n N) (fN n N)) (fn n N) (fN n N)) = true) → ((cp n N m M) = (cp n (tN n N cs k) m M)) → ((BEq.beq (wi n N m M) (wi n (tN n N cs k) m M)) = true) → (BEq.beq (wi m M n N) (wi m M n (tN n N cs k))) = true) : (Clu.runL (Clu.noL) Try.prog (Clu.tell (Clu.addB (Clu.addB (Clu.addB (Clu.addB (Clu.addB (Clu.addB (Clu.addB (Clu.noX) 11 (Clu.decH awH)) 17 (Clu.decH (mayH my))) 22 (Clu.decH (s2b sm))) 24 (Clu.decH (s2b wi))) 26 (Clu.decH (s2i cp))) 18 (Clu.decH (s1t fn fN))) 32 (Clu.rowH [] (tuH uk tN))) 9 300015430001363000118300010230000883000078300006630000583000048300004230000323000022) 1000 1001 9 [.s n N, .s m M, .sl 1000 0 k cap] (Clu.mkH .e (Clu.argB [(1000, cs)] ++ Clu.layB [])) 1001) = .ok (.b true) := by
  rw [leR_raw]
  refine Clu.forkB_cases (fun bc1 => ?_) (fun bc1 => ?_)
  · have c1 : n ≤ 1000 := (Int.ofNat_le.1 (Clu.of_iLt_f bc1))
    refine Clu.forkB_cases (fun bc2 => ?_) (fun bc2 => ?_)
    · have c2 : m ≤ 1000 := (Int.ofNat_le.1 (Clu.of_iLt_f bc2))
      refine Clu.forkB_cases (fun bc3 => ?_) (fun bc3 => ?_)
      · have c3 : k ≤ 300 := (Int.ofNat_le.1 (Clu.of_iLt_f bc3))
        have q3 : n < 9000000000000000000 := (by omega)
        refine (Clu.needT_eq (Clu.blt_iff.2 q3) _ _).trans ?_
        refine Clu.forkB_cases (fun bc4 => ?_) (fun bc4 => ?_)
        · have c4 : (my n N) = true := (Clu.of_not_f bc4)
          have q4 : m < 9000000000000000000 := (by omega)
          refine (Clu.needT_eq (Clu.blt_iff.2 q4) _ _).trans ?_
          refine Clu.forkB_cases (fun bc5 => ?_) (fun bc5 => ?_)
          · have c5 : (my m M) = true := (Clu.of_not_f bc5)
            have q5 : n < 1000001 := (by omega)
            refine (Clu.needT_eq (Clu.blt_iff.2 q5) _ _).trans ?_
            have q5 : k < 1000001 := (by omega)
            refine (Clu.needT_eq (Clu.blt_iff.2 q5) _ _).trans ?_
            have q5 : (uk cs k) = true := (V0 c1 c2 c3 c4 c5)
            refine (Clu.needT_eq (q5) _ _).trans ?_
            have q5 : (List.length cs) ≤ 1000000000000000000000 := (V1 c1 c2 c3 c4 c5)
            refine (Clu.needT_eq (Clu.ble_iff.2 q5) _ _).trans ?_
            have q5 : n < 9000000000000000000 := (by omega)
            refine (Clu.needT_eq (Clu.blt_iff.2 q5) _ _).trans ?_
            refine Clu.forkB_cases (fun bc6 => ?_) (fun bc6 => ?_)
            · have c6 : (my n (tN n N cs k)) = false := bc6
              exact (V2 c1 c2 c3 c4 c5 c6).elim
            · have c6 : (my n (tN n N cs k)) = true := bc6
              have q6 : n < 9000000000000000000 := (by omega)
              refine (Clu.needT_eq (Clu.blt_iff.2 q6) _ _).trans ?_
              have q6 : n < 9000000000000000000 := (by omega)
              refine (Clu.needT_eq (Clu.blt_iff.2 q6) _ _).trans ?_
              refine Clu.forkB_cases (fun bc7 => ?_) (fun bc7 => ?_)
              · have c7 : (sm n N n (tN n N cs k)) = false := bc7
                exact (V3 c1 c2 c3 c4 c5 c6 c7).elim
              · have c7 : (sm n N n (tN n N cs k)) = true := bc7
                have q7 : n < 9000000000000000000 := (by omega)
                refine (Clu.needT_eq (Clu.blt_iff.2 q7) _ _).trans ?_
                have q7 : n < 9000000000000000000 := (by omega)
                refine (Clu.needT_eq (Clu.blt_iff.2 q7) _ _).trans ?_
                refine Clu.forkB_cases (fun bc8 => ?_) (fun bc8 => ?_)
                · have c8 : (Clu.eqNs (fn n (tN n N cs k)) (fN n (tN n N cs k)) (fn n N) (fN n N)) = false := bc8
                  exact (V4 c1 c2 c3 c4 c5 c6 c7 c8).elim
                · have c8 : (Clu.eqNs (fn n (tN n N cs k)) (fN n (tN n N cs k)) (fn n N) (fN n N)) = true := bc8
                  have q8 : n < 9000000000000000000 := (by omega)
                  refine (Clu.needT_eq (Clu.blt_iff.2 q8) _ _).trans ?_
                  have q8 : (fn n N) < 9000000000000000000 := (V5 c1 c2 c3 c4 c5 c6 c7 c8)
                  refine (Clu.needT_eq (Clu.blt_iff.2 q8) _ _).trans ?_
                  have q8 : n < 9000000000000000000 := (by omega)
                  refine (Clu.needT_eq (Clu.blt_iff.2 q8) _ _).trans ?_
                  refine Clu.forkB_cases (fun bc9 => ?_) (fun bc9 => ?_)
                  · have c9 : (Clu.eqNs (fn (fn n N) (fN n N)) (fN (fn n N) (fN n N)) (fn n N) (fN n N)) = false := bc9
                    exact (V6 c1 c2 c3 c4 c5 c6 c7 c8 c9).elim
                  · have c9 : (Clu.eqNs (fn (fn n N) (fN n N)) (fN (fn n N) (fN n N)) (fn n N) (fN n N)) = true := bc9
                    have q9 : n < 9000000000000000000 := (by omega)
                    refine (Clu.needT_eq (Clu.blt_iff.2 q9) _ _).trans ?_
                    have q9 : m < 9000000000000000000 := (by omega)
                    refine (Clu.needT_eq (Clu.blt_iff.2 q9) _ _).trans ?_
                    have q9 : n < 9000000000000000000 := (by omega)
                    refine (Clu.needT_eq (Clu.blt_iff.2 q9) _ _).trans ?_
                    have q9 : m < 9000000000000000000 := (by omega)
                    refine (Clu.needT_eq (Clu.blt_iff.2 q9) _ _).trans ?_
                    refine Clu.forkB_cases (fun bc10 => ?_) (fun bc10 => ?_)
                    · have c10 : (cp n N m M) ≠ (cp n (tN n N cs k) m M) := (Clu.of_iEq_f bc10)
                      exact (V7 c1 c2 c3 c4 c5 c6 c7 c8 c9 c10).elim
                    · have c10 : (cp n N m M) = (cp n (tN n N cs k) m M) := (Clu.of_iEq_t bc10)
                      have q10 : n < 9000000000000000000 := (by omega)
                      refine (Clu.needT_eq (Clu.blt_iff.2 q10) _ _).trans ?_
                      have q10 : m < 9000000000000000000 := (by omega)
                      refine (Clu.needT_eq (Clu.blt_iff.2 q10) _ _).trans ?_
                      have q10 : n < 9000000000000000000 := (by omega)
                      refine (Clu.needT_eq (Clu.blt_iff.2 q10) _ _).trans ?_
                      have q10 : m < 9000000000000000000 := (by omega)
                      refine (Clu.needT_eq (Clu.blt_iff.2 q10) _ _).trans ?_
                      refine Clu.forkB_cases (fun bc11 => ?_) (fun bc11 => ?_)
                      · have c11 : (BEq.beq (wi n N m M) (wi n (tN n N cs k) m M)) = false := bc11
                        exact (V8 c1 c2 c3 c4 c5 c6 c7 c8 c9 c10 c11).elim
                      · have c11 : (BEq.beq (wi n N m M) (wi n (tN n N cs k) m M)) = true := bc11
                        have q11 : m < 9000000000000000000 := (by omega)
                        refine (Clu.needT_eq (Clu.blt_iff.2 q11) _ _).trans ?_
                        have q11 : n < 9000000000000000000 := (by omega)
                        refine (Clu.needT_eq (Clu.blt_iff.2 q11) _ _).trans ?_
                        have q11 : m < 9000000000000000000 := (by omega)
                        refine (Clu.needT_eq (Clu.blt_iff.2 q11) _ _).trans ?_
                        have q11 : n < 9000000000000000000 := (by omega)
                        refine (Clu.needT_eq (Clu.blt_iff.2 q11) _ _).trans ?_
                        have r11 : (BEq.beq (wi m M n N) (wi m M n (tN n N cs k))) = true := V9 c1 c2 c3 c4 c5 c6 c7 c8 c9 c10 c11
                        exact congrArg (fun b => Clu.Out.ok (.b b)) (r11)
          · have c5 : (my m M) = false := (Clu.of_not_t bc5)
            rfl
        · have c4 : (my n N) = false := (Clu.of_not_t bc4)
          rfl
      · have c3 : 300 < k := (Int.ofNat_lt.1 (Clu.of_iLt_t bc3))
        rfl
    · have c2 : 1000 < m := (Int.ofNat_lt.1 (Clu.of_iLt_t bc2))
      rfl
  · have c1 : 1000 < n := (Int.ofNat_lt.1 (Clu.of_iLt_t bc1))
    rfl
theorem within_of' {A B : List (List Nat)} (h : LabOk A) (hn : (wire A).length ≤ 255) (k : LabOk B) (kn : (wire B).length ≤ 255) : withinB (wire A) (wire B) = withinL A B := by
  unfold withinB
  rw [labs_wire h, labs_wire k]
  show (decide _ && (decide _ && _)) = _
  rw [decide_eq_true hn, decide_eq_true kn]; rfl
theorem let_facts {a c b : List Nat} (hA : Clu.B8 a) (hB : Clu.B8 b) (t : Twins a c) (ha : mayB a = true) (hb : mayB b = true) (hn : a.length ≤ 1000) :
    myF a.length (Clu.pk c) = true ∧ smF a.length (Clu.pk a) a.length (Clu.pk c) = true ∧ Clu.eqNs (fnF a.length (Clu.pk c)) (fNF a.length (Clu.pk c)) (fnF a.length (Clu.pk a)) (fNF a.length (Clu.pk a)) = true ∧ fnF a.length (Clu.pk a) < 9000000000000000000 ∧ Clu.eqNs (fnF (fnF a.length (Clu.pk a)) (fNF a.length (Clu.pk a))) (fNF (fnF a.length (Clu.pk a)) (fNF a.length (Clu.pk a))) (fnF a.length (Clu.pk a)) (fNF a.length (Clu.pk a)) = true ∧
    cpF a.length (Clu.pk a) b.length (Clu.pk b) = cpF a.length (Clu.pk c) b.length (Clu.pk b) ∧ wiF a.length (Clu.pk a) b.length (Clu.pk b) = wiF a.length (Clu.pk c) b.length (Clu.pk b) ∧ wiF b.length (Clu.pk b) a.length (Clu.pk a) = wiF b.length (Clu.pk b) a.length (Clu.pk c) := by
  have hC := t.b8
  have hl := t.1
  have hlow := t.low
  obtain ⟨L, rfl, oL, hL⟩ := mayB_iff.1 ha
  obtain ⟨Z, rfl, oZ, hZ⟩ := mayB_iff.1 hb
  obtain ⟨M, rfl, oM, hM⟩ := Twins.wire oL t
  have nM : (wire M).length ≤ 255 := by omega
  have hc := may_of oM nM
  have fa : foldL (wire L) = low (wire L) := by unfold foldL; rw [if_pos ha]
  have fc : foldL (wire M) = low (wire L) := by unfold foldL; rw [if_pos hc, hlow]
  have ff : foldL (low (wire L)) = low (wire L) := by
    unfold foldL
    rw [low_low, low_wire oL, if_pos (may_of oL.low (by rw [wire_low_length]; exact hL))]
  have b8 := low_b8 hA
  have e1 : fnF (wire L).length (Clu.pk (wire L)) = (low (wire L)).length := by rw [fnF_pk hA, fa]
  have e2 : fNF (wire L).length (Clu.pk (wire L)) = Clu.pk (low (wire L)) := by rw [fNF_pk hA, fa]
  refine ⟨?_, ?_, ?_, ?_, ?_, ?_, ?_, ?_⟩
  · rw [← hl, myF_pk hC]; exact hc
  · have : smF (wire L).length (Clu.pk (wire L)) (wire M).length (Clu.pk (wire M)) = true := by
      rw [smF_pk hA hC, same_of oL hL oM nM]
      exact decide_eq_true hM.symm
    rw [hl] at this
    exact this
  · rw [e1, e2, ← hl, fnF_pk hC, fNF_pk hC, fc, Clu.eqNs_iff b8 b8]
    exact decide_eq_true rfl
  · rw [e1, low_length]; omega
  · rw [e1, e2, fnF_pk b8, fNF_pk b8, ff, Clu.eqNs_iff b8 b8]
    exact decide_eq_true rfl
  · have : cpF (wire L).length (Clu.pk (wire L)) (wire Z).length (Clu.pk (wire Z)) = cpF (wire M).length (Clu.pk (wire M)) (wire Z).length (Clu.pk (wire Z)) := by
      rw [cpF_pk hA hB, cpF_pk hC hB, cmpB_of oL hL oZ hZ, cmpB_of oM nM oZ hZ]
      unfold cmpL
      rw [hM]
    rw [this, hl]
  · have : wiF (wire L).length (Clu.pk (wire L)) (wire Z).length (Clu.pk (wire Z)) = wiF (wire M).length (Clu.pk (wire M)) (wire Z).length (Clu.pk (wire Z)) := by
      rw [wiF_pk hA hB, wiF_pk hC hB, within_of' oL hL oZ hZ, within_of' oM nM oZ hZ]
      unfold withinL
      rw [hM]
    rw [this, hl]
  · have : wiF (wire Z).length (Clu.pk (wire Z)) (wire L).length (Clu.pk (wire L)) = wiF (wire Z).length (Clu.pk (wire Z)) (wire M).length (Clu.pk (wire M)) := by
      rw [wiF_pk hB hA, wiF_pk hB hC, within_of' oZ hZ oL hL, within_of' oZ hZ oM nM]
      unfold withinL
      rw [hM]
    rw [this, hl]
theorem run_n (a : List Nat) (hA : Clu.B8 a) (la : a.length ≤ maxLen) (b : List Nat) (hB : Clu.B8 b) (lb : b.length ≤ maxLen) : ∃ LT, ∃ _hL : Clu.LOK Try.prog LT, ∃ Y, ∃ _hY : Clu.XOK Try.prog Y, ∃ n, Clu.runL LT Try.prog Y n 1000 9 [.s a.length (Clu.pk a), .s b.length (Clu.pk b), .sn] (Clu.mkH .e (Clu.argB [] ++ Clu.layB lays)) 1000 = .ok (.b true) := by
  have ht : tNF a.length (Clu.pk a) [] 0 = Clu.pk a := by unfold tNF; rw [Clu.lst_pk hA]; rfl
  refine ⟨_, Clu.noL_ok, _, Clu.tell_ok leX_ok, _, leN_run myF smF wiF cpF fnF fNF ukF tNF a.length (Clu.pk a) b.length (Clu.pk b) leX_ok ?_ ?_ ?_ ?_ ?_ ?_ ?_ ?_⟩
  all_goals
    intro h1 h2 h3 h4
    rw [myF_pk hA] at h3
    rw [myF_pk hB] at h4
    obtain ⟨f1, f2, f3, f4, f5, f6, f7, f8⟩ := let_facts hA hB (Twins.refl hA) h3 h4 h1
    rw [ht]
    simp only [f1, f2, f3, f5]
  · intro h; cases h
  · intro _ h; cases h
  · intro _ _ h; cases h
  · intros; exact f4
  · intro _ _ _ h; cases h
  · intro _ _ _ _ h; exact h rfl
  · intro _ _ _ _ _ h; rw [beq_self_eq_true] at h; cases h
  · intros; exact beq_self_eq_true _
theorem run_r (a : List Nat) (hA : Clu.B8 a) (la : a.length ≤ maxLen) (b : List Nat) (hB : Clu.B8 b) (lb : b.length ≤ maxLen) (cs : List Clu.AV) (k cap : Nat) (h1 : k ≤ cap) (h2 : cap ≤ maxLen) (h3 : cs.length = k * 1) (hu : Clu.AV.flts cs = true) (hc : ∀ j, j < k → ∃ z : Int, Clu.getL cs (j * 1 + 0) = some (.i .u8 z) ∧ (Lit.int .u8 z).wf = true) : ∃ LT, ∃ _hL : Clu.LOK Try.prog LT, ∃ Y, ∃ _hY : Clu.XOK Try.prog Y, ∃ n, Clu.runL LT Try.prog Y n 1001 9 [.s a.length (Clu.pk a), .s b.length (Clu.pk b), .sl 1000 0 k cap] (Clu.mkH .e (Clu.argB [(1000, cs)] ++ Clu.layB lays)) 1001 = .ok (.b true) := by
  have ht : tNF a.length (Clu.pk a) cs k = Clu.pk (turnG a (atL cs k)) := by unfold tNF; rw [Clu.lst_pk hA]
  have hk : ukF cs k = true := @decide_eq_true _ (Classical.propDecidable _) ⟨hu, fun j hj => by
    obtain ⟨z, e, hz⟩ := hc j hj
    rw [Nat.mul_one, Nat.add_zero] at e
    have bz := bounds_u8 hz
    obtain ⟨m, rfl⟩ := Int.eq_ofNat_of_zero_le bz.1
    rw [e]
    exact ⟨rfl, by have := bz.2; show m < 256; omega⟩⟩
  refine ⟨_, Clu.noL_ok, _, Clu.tell_ok leX_ok, _, leR_run myF smF wiF cpF fnF fNF ukF tNF a.length (Clu.pk a) b.length (Clu.pk b) k cap cs leX_ok (fun _ _ _ _ _ => hk) (fun _ _ h _ _ => by rw [h3]; omega) ?_ ?_ ?_ ?_ ?_ ?_ ?_ ?_⟩
  all_goals
    intro h1 h2 h5 h3 h4
    rw [myF_pk hA] at h3
    rw [myF_pk hB] at h4
    obtain ⟨f1, f2, f3, f4, f5, f6, f7, f8⟩ := let_facts hA hB ((Twins.refl hA).turnG (atL cs k)) h3 h4 h1
    rw [ht]
    simp only [f1, f2, f3, f5]
  · intro h; cases h
  · intro _ h; cases h
  · intro _ _ h; cases h
  · intros; exact f4
  · intro _ _ _ h; cases h
  · intro _ _ _ _ h; exact h f6
  · intro _ _ _ _ _ h; rw [f7, beq_self_eq_true] at h; cases h
  · intros; rw [f8]; exact beq_self_eq_true _

end Go.Proofs.Ytmokdhmicdmgfaa.nameLetters
