/-
  NameTogether: what it comes to.
-/
import Derived.Test.YtmokdhmicdmgfaaNameTogetherBase
import Derived.Test.YtmokdhmicdmgfaaNmLx
namespace Go.Proofs.Ytmokdhmicdmgfaa.nameTogether
open Go.RowKit
set_option linter.unusedVariables false
set_option linter.unusedSimpArgs false
set_option maxRecDepth 100000
set_option maxRecDepth 10000000 in
theorem togF_raw (my : Nat → Nat → Bool) (sm wi : Nat → Nat → Nat → Nat → Bool) (cp : Nat → Nat → Nat → Nat → Int) (fo : Nat → Nat → Nat × Nat) (n N m M o O z Z : Nat) : (Clu.layK [] .e fun h => Clu.runL (Clu.noL) Try.prog (Clu.tell (Clu.addB (Clu.addB (Clu.addB (Clu.addB (Clu.addB (Clu.addB (Clu.noX) 11 (Clu.decH awH)) 17 (Clu.decH (mayH my))) 22 (Clu.decH (s2b sm))) 24 (Clu.decH (s2b wi))) 26 (Clu.decH (s2i cp))) 18 (Clu.decH (s1s fo))) 8 300013630001203000108300009830000883000082300007230000623000056300004630000363000026) (1000) 1000 8 [.s n N, .s m M, .s o O, .s z Z] h 1000) = Clu.forkB ((Clu.iLt (Int.ofNat 1000) (Int.ofNat n))) (Clu.forkB ((Clu.iLt (Int.ofNat 1000) (Int.ofNat m))) (Clu.forkB ((Clu.iLt (Int.ofNat 1000) (Int.ofNat o))) (Clu.forkB ((Clu.iLt (Int.ofNat 1000) (Int.ofNat z))) (Clu.needT ((Nat.blt n 9000000000000000000)) (.err 96 1) (Clu.needT ((Nat.blt z 9000000000000000000)) (.err 96 1) (Clu.forkB ((wi n N z Z)) (Clu.needT ((Nat.blt m 9000000000000000000)) (.err 96 1) (Clu.forkB ((my m M)) ((Clu.Out.ok (Clu.AV.b true))) (Clu.needT ((Nat.blt n 9000000000000000000)) (.err 96 1) (Clu.needT ((Nat.blt z 9000000000000000000)) (.err 96 1) (Clu.forkB ((wi n N z Z)) ((Clu.Out.ok (Clu.AV.b true))) (Clu.needT ((Nat.blt o 9000000000000000000)) (.err 96 1) (Clu.needT ((Nat.blt z 9000000000000000000)) (.err 96 1) (Clu.forkB ((wi o O z Z)) ((Clu.Out.ok (Clu.AV.b true))) (Clu.needT ((Nat.blt n 9000000000000000000)) (.err 96 1) (Clu.needT ((Nat.blt m 9000000000000000000)) (.err 96 1) (Clu.forkB ((Bool.not (Clu.iLt (Int.ofNat 0) (cp n N m M)))) ((Clu.Out.ok (Clu.AV.b true))) (Clu.needT ((Nat.blt m 9000000000000000000)) (.err 96 1) (Clu.needT ((Nat.blt o 9000000000000000000)) (.err 96 1) (Clu.forkB ((Bool.not (Bool.not (Clu.iLt (Int.ofNat 0) (cp m M o O))))) (Clu.needT ((Nat.blt m 9000000000000000000)) (.err 96 1) (Clu.needT ((Nat.blt z 9000000000000000000)) (.err 96 1) ((Clu.Out.ok (Clu.AV.b (wi m M z Z)))))) ((Clu.Out.ok (Clu.AV.b true))))))))))))))))) (Clu.needT ((Nat.blt z 9000000000000000000)) (.err 96 1) (Clu.needT ((Nat.blt n 9000000000000000000)) (.err 96 1) (Clu.forkB ((Clu.iLt (Int.ofNat 0) (cp z Z n N))) (Clu.needT ((Nat.blt m 9000000000000000000)) (.err 96 1) (Clu.forkB ((my m M)) ((Clu.Out.ok (Clu.AV.b true))) (Clu.needT ((Nat.blt n 9000000000000000000)) (.err 96 1) (Clu.needT ((Nat.blt z 9000000000000000000)) (.err 96 1) (Clu.forkB ((wi n N z Z)) ((Clu.Out.ok (Clu.AV.b true))) (Clu.needT ((Nat.blt o 9000000000000000000)) (.err 96 1) (Clu.needT ((Nat.blt z 9000000000000000000)) (.err 96 1) (Clu.forkB ((wi o O z Z)) ((Clu.Out.ok (Clu.AV.b true))) (Clu.needT ((Nat.blt n 9000000000000000000)) (.err 96 1) (Clu.needT ((Nat.blt m 9000000000000000000)) (.err 96 1) (Clu.forkB ((Bool.not (Clu.iLt (Int.ofNat 0) (cp n N m M)))) ((Clu.Out.ok (Clu.AV.b true))) (Clu.needT ((Nat.blt m 9000000000000000000)) (.err 96 1) (Clu.needT ((Nat.blt o 9000000000000000000)) (.err 96 1) (Clu.forkB ((Bool.not (Bool.not (Clu.iLt (Int.ofNat 0) (cp m M o O))))) (Clu.needT ((Nat.blt m 9000000000000000000)) (.err 96 1) (Clu.needT ((Nat.blt z 9000000000000000000)) (.err 96 1) ((Clu.Out.ok (Clu.AV.b (wi m M z Z)))))) ((Clu.Out.ok (Clu.AV.b true))))))))))))))))) ((Clu.Out.ok (Clu.AV.b false))))))))) ((Clu.Out.ok (Clu.AV.b true)))) ((Clu.Out.ok (Clu.AV.b true)))) ((Clu.Out.ok (Clu.AV.b true)))) ((Clu.Out.ok (Clu.AV.b true))) := by kernel_rfl
set_option linter.unusedVariables false in
theorem togF_run (my : Nat → Nat → Bool) (sm wi : Nat → Nat → Nat → Nat → Bool) (cp : Nat → Nat → Nat → Nat → Int) (fo : Nat → Nat → Nat × Nat) (n N m M o O z Z : Nat) (hX : Clu.XOK Try.prog (Clu.addB (Clu.addB (Clu.addB (Clu.addB (Clu.addB (Clu.addB (Clu.noX) 11 (Clu.decH awH)) 17 (Clu.decH (mayH my))) 22 (Clu.decH (s2b sm))) 24 (Clu.decH (s2b wi))) 26 (Clu.decH (s2i cp))) 18 (Clu.decH (s1s fo))))  
  (V0 : (n ≤ 1000) → (m ≤ 1000) → (o ≤ 1000) → (z ≤ 1000) → ((wi n N z Z) = false) → ((my m M) = true) → ((wi n N z Z) = true) → ((wi o O z Z) = true) → ((cp n N m M) ≤ ((0 : Nat) : Int)) → ((cp m M o O) ≤ ((0 : Nat) : Int)) → (wi m M z Z) = true)
  (V1 : (n ≤ 1000) → (m ≤ 1000) → (o ≤ 1000) → (z ≤ 1000) → ((wi n N z Z) = true) → ((cp z Z n N) ≤ ((0 : Nat) : Int)) → ((my m M) = true) → ((wi n N z Z) = true) → ((wi o O z Z) = true) → ((cp n N m M) ≤ ((0 : Nat) : Int)) → ((cp m M o O) ≤ ((0 : Nat) : Int)) → (wi m M z Z) = true)
  (V2 : (n ≤ 1000) → (m ≤ 1000) → (o ≤ 1000) → (z ≤ 1000) → ((wi n N z Z) = true) → (((0 : Nat) : Int) < (cp z Z n N)) → False) : (Clu.layK [] .e fun h => Clu.runL (Clu.noL) Try.prog (Clu.tell (Clu.addB (Clu.addB (Clu.addB (Clu.addB (Clu.addB (Clu.addB (Clu.noX) 11 (Clu.decH awH)) 17 (Clu.decH (mayH my))) 22 (Clu.decH (s2b sm))) 24 (Clu.decH (s2b wi))) 26 (Clu.decH (s2i cp))) 18 (Clu.decH (s1s fo))) 8 300013630001203000108300009830000883000082300007230000623000056300004630000363000026) (1000) 1000 8 [.s n N, .s m M, .s o O, .s z Z] h 1000) = .ok (.b true) := by
  rw [togF_raw]
  refine Clu.forkB_cases (fun bc1 => ?_) (fun bc1 => ?_)
  · have c1 : n ≤ 1000 := (Int.ofNat_le.1 (Clu.of_iLt_f bc1))
    refine Clu.forkB_cases (fun bc2 => ?_) (fun bc2 => ?_)
    · have c2 : m ≤ 1000 := (Int.ofNat_le.1 (Clu.of_iLt_f bc2))
      refine Clu.forkB_cases (fun bc3 => ?_) (fun bc3 => ?_)
      · have c3 : o ≤ 1000 := (Int.ofNat_le.1 (Clu.of_iLt_f bc3))
        refine Clu.forkB_cases (fun bc4 => ?_) (fun bc4 => ?_)
        · have c4 : z ≤ 1000 := (Int.ofNat_le.1 (Clu.of_iLt_f bc4))
          have q4 : n < 9000000000000000000 := (by omega)
          refine (Clu.needT_eq (Clu.blt_iff.2 q4) _ _).trans ?_
          have q4 : z < 9000000000000000000 := (by omega)
          refine (Clu.needT_eq (Clu.blt_iff.2 q4) _ _).trans ?_
          refine Clu.forkB_cases (fun bc5 => ?_) (fun bc5 => ?_)
          · have c5 : (wi n N z Z) = false := bc5
            have q5 : m < 9000000000000000000 := (by omega)
            refine (Clu.needT_eq (Clu.blt_iff.2 q5) _ _).trans ?_
            refine Clu.forkB_cases (fun bc6 => ?_) (fun bc6 => ?_)
            · have c6 : (my m M) = false := bc6
              rfl
            · have c6 : (my m M) = true := bc6
              have q6 : n < 9000000000000000000 := (by omega)
              refine (Clu.needT_eq (Clu.blt_iff.2 q6) _ _).trans ?_
              have q6 : z < 9000000000000000000 := (by omega)
              refine (Clu.needT_eq (Clu.blt_iff.2 q6) _ _).trans ?_
              refine Clu.forkB_cases (fun bc7 => ?_) (fun bc7 => ?_)
              · have c7 : (wi n N z Z) = false := bc7
                rfl
              · have c7 : (wi n N z Z) = true := bc7
                have q7 : o < 9000000000000000000 := (by omega)
                refine (Clu.needT_eq (Clu.blt_iff.2 q7) _ _).trans ?_
                have q7 : z < 9000000000000000000 := (by omega)
                refine (Clu.needT_eq (Clu.blt_iff.2 q7) _ _).trans ?_
                refine Clu.forkB_cases (fun bc8 => ?_) (fun bc8 => ?_)
                · have c8 : (wi o O z Z) = false := bc8
                  rfl
                · have c8 : (wi o O z Z) = true := bc8
                  have q8 : n < 9000000000000000000 := (by omega)
                  refine (Clu.needT_eq (Clu.blt_iff.2 q8) _ _).trans ?_
                  have q8 : m < 9000000000000000000 := (by omega)
                  refine (Clu.needT_eq (Clu.blt_iff.2 q8) _ _).trans ?_
                  refine Clu.forkB_cases (fun bc9 => ?_) (fun bc9 => ?_)
                  · have c9 : ((0 : Nat) : Int) < (cp n N m M) := (Clu.of_iLt_t (Clu.of_not_f bc9))
                    rfl
                  · have c9 : (cp n N m M) ≤ ((0 : Nat) : Int) := (Clu.of_iLt_f (Clu.of_not_t bc9))
                    have q9 : m < 9000000000000000000 := (by omega)
                    refine (Clu.needT_eq (Clu.blt_iff.2 q9) _ _).trans ?_
                    have q9 : o < 9000000000000000000 := (by omega)
                    refine (Clu.needT_eq (Clu.blt_iff.2 q9) _ _).trans ?_
                    refine Clu.forkB_cases (fun bc10 => ?_) (fun bc10 => ?_)
                    · have c10 : (cp m M o O) ≤ ((0 : Nat) : Int) := (Clu.of_iLt_f (Clu.of_not_t (Clu.of_not_f bc10)))
                      have q10 : m < 9000000000000000000 := (by omega)
                      refine (Clu.needT_eq (Clu.blt_iff.2 q10) _ _).trans ?_
                      have q10 : z < 9000000000000000000 := (by omega)
                      refine (Clu.needT_eq (Clu.blt_iff.2 q10) _ _).trans ?_
                      have r10 : (wi m M z Z) = true := V0 c1 c2 c3 c4 c5 c6 c7 c8 c9 c10
                      exact congrArg (fun b => Clu.Out.ok (.b b)) (r10)
                    · have c10 : ((0 : Nat) : Int) < (cp m M o O) := (Clu.of_iLt_t (Clu.of_not_f (Clu.of_not_t bc10)))
                      rfl
          · have c5 : (wi n N z Z) = true := bc5
            have q5 : z < 9000000000000000000 := (by omega)
            refine (Clu.needT_eq (Clu.blt_iff.2 q5) _ _).trans ?_
            have q5 : n < 9000000000000000000 := (by omega)
            refine (Clu.needT_eq (Clu.blt_iff.2 q5) _ _).trans ?_
            refine Clu.forkB_cases (fun bc6 => ?_) (fun bc6 => ?_)
            · have c6 : (cp z Z n N) ≤ ((0 : Nat) : Int) := (Clu.of_iLt_f bc6)
              have q6 : m < 9000000000000000000 := (by omega)
              refine (Clu.needT_eq (Clu.blt_iff.2 q6) _ _).trans ?_
              refine Clu.forkB_cases (fun bc7 => ?_) (fun bc7 => ?_)
              · have c7 : (my m M) = false := bc7
                rfl
              · have c7 : (my m M) = true := bc7
                have q7 : n < 9000000000000000000 := (by omega)
                refine (Clu.needT_eq (Clu.blt_iff.2 q7) _ _).trans ?_
                have q7 : z < 9000000000000000000 := (by omega)
                refine (Clu.needT_eq (Clu.blt_iff.2 q7) _ _).trans ?_
                refine Clu.forkB_cases (fun bc8 => ?_) (fun bc8 => ?_)
                · have c8 : (wi n N z Z) = false := bc8
                  rfl
                · have c8 : (wi n N z Z) = true := bc8
                  have q8 : o < 9000000000000000000 := (by omega)
                  refine (Clu.needT_eq (Clu.blt_iff.2 q8) _ _).trans ?_
                  have q8 : z < 9000000000000000000 := (by omega)
                  refine (Clu.needT_eq (Clu.blt_iff.2 q8) _ _).trans ?_
                  refine Clu.forkB_cases (fun bc9 => ?_) (fun bc9 => ?_)
                  · have c9 : (wi o O z Z) = false := bc9
                    rfl
                  · have c9 : (wi o O z Z) = true := bc9
                    have q9 : n < 9000000000000000000 := (by omega)
                    refine (Clu.needT_eq (Clu.blt_iff.2 q9) _ _).trans ?_
                    have q9 : m < 9000000000000000000 := (by omega)
                    refine (Clu.needT_eq (Clu.blt_iff.2 q9) _ _).trans ?_
                    refine Clu.forkB_cases (fun bc10 => ?_) (fun bc10 => ?_)
                    · have c10 : ((0 : Nat) : Int) < (cp n N m M) := (Clu.of_iLt_t (Clu.of_not_f bc10))
                      rfl
                    · have c10 : (cp n N m M) ≤ ((0 : Nat) : Int) := (Clu.of_iLt_f (Clu.of_not_t bc10))
                      have q10 : m < 9000000000000000000 := (by omega)
                      refine (Clu.needT_eq (Clu.blt_iff.2 q10) _ _).trans ?_
                      have q10 : o < 9000000000000000000 := (by omega)
                      refine (Clu.needT_eq (Clu.blt_iff.2 q10) _ _).trans ?_
                      refine Clu.forkB_cases (fun bc11 => ?_) (fun bc11 => ?_)
                      · have c11 : (cp m M o O) ≤ ((0 : Nat) : Int) := (Clu.of_iLt_f (Clu.of_not_t (Clu.of_not_f bc11)))
                        have q11 : m < 9000000000000000000 := (by omega)
                        refine (Clu.needT_eq (Clu.blt_iff.2 q11) _ _).trans ?_
                        have q11 : z < 9000000000000000000 := (by omega)
                        refine (Clu.needT_eq (Clu.blt_iff.2 q11) _ _).trans ?_
                        have r11 : (wi m M z Z) = true := V1 c1 c2 c3 c4 c5 c6 c7 c8 c9 c10 c11
                        exact congrArg (fun b => Clu.Out.ok (.b b)) (r11)
                      · have c11 : ((0 : Nat) : Int) < (cp m M o O) := (Clu.of_iLt_t (Clu.of_not_f (Clu.of_not_t bc11)))
                        rfl
            · have c6 : ((0 : Nat) : Int) < (cp z Z n N) := (Clu.of_iLt_t bc6)
              exact (V2 c1 c2 c3 c4 c5 c6).elim
        · have c4 : 1000 < z := (Int.ofNat_lt.1 (Clu.of_iLt_t bc4))
          rfl
      · have c3 : 1000 < o := (Int.ofNat_lt.1 (Clu.of_iLt_t bc3))
        rfl
    · have c2 : 1000 < m := (Int.ofNat_lt.1 (Clu.of_iLt_t bc2))
      rfl
  · have c1 : 1000 < n := (Int.ofNat_lt.1 (Clu.of_iLt_t bc1))
    rfl
theorem togF_law (my : Nat → Nat → Bool) (sm wi : Nat → Nat → Nat → Nat → Bool) (cp : Nat → Nat → Nat → Nat → Int) (fo : Nat → Nat → Nat × Nat) (n N m M o O z Z : Nat) (hX : Clu.XOK Try.prog (Clu.addB (Clu.addB (Clu.addB (Clu.addB (Clu.addB (Clu.addB (Clu.noX) 11 (Clu.decH awH)) 17 (Clu.decH (mayH my))) 22 (Clu.decH (s2b sm))) 24 (Clu.decH (s2b wi))) 26 (Clu.decH (s2i cp))) 18 (Clu.decH (s1s fo))))  
  (V0 : (n ≤ 1000) → (m ≤ 1000) → (o ≤ 1000) → (z ≤ 1000) → ((wi n N z Z) = false) → ((my m M) = true) → ((wi n N z Z) = true) → ((wi o O z Z) = true) → ((cp n N m M) ≤ ((0 : Nat) : Int)) → ((cp m M o O) ≤ ((0 : Nat) : Int)) → (wi m M z Z) = true)
  (V1 : (n ≤ 1000) → (m ≤ 1000) → (o ≤ 1000) → (z ≤ 1000) → ((wi n N z Z) = true) → ((cp z Z n N) ≤ ((0 : Nat) : Int)) → ((my m M) = true) → ((wi n N z Z) = true) → ((wi o O z Z) = true) → ((cp n N m M) ≤ ((0 : Nat) : Int)) → ((cp m M o O) ≤ ((0 : Nat) : Int)) → (wi m M z Z) = true)
  (V2 : (n ≤ 1000) → (m ≤ 1000) → (o ≤ 1000) → (z ≤ 1000) → ((wi n N z Z) = true) → (((0 : Nat) : Int) < (cp z Z n N)) → False) : Clu.Fact Try.prog 8 [] [.s n N, .s m M, .s o O, .s z Z] (.b true) :=
  Clu.factL Clu.plain (Clu.tell_ok (hX)) Clu.mixed (Clu.noL_ok) (togF_run my sm wi cp fo n N m M o O z Z hX V0 V1 V2) rfl rfl
theorem cmpB_eq {a b : List Nat} (ha : mayB a = true) (hb : mayB b = true) : cmpB a b = cmpW (((labs a).getD []).map low).reverse (((labs b).getD []).map low).reverse := by
  obtain ⟨A, rfl, oA, hA⟩ := mayB_iff.1 ha
  obtain ⟨B, rfl, oB, hB⟩ := mayB_iff.1 hb
  unfold cmpB; rw [ha, hb, labs_wire oA, labs_wire oB]; rfl
theorem within_iff {a z : List Nat} : withinB a z = true ↔ mayB a = true ∧ mayB z = true ∧ (((labs z).getD []).map low).reverse <+: (((labs a).getD []).map low).reverse := by
  unfold withinB
  constructor
  · intro h
    split at h
    · rename_i L M e1 e2
      simp only [Bool.and_eq_true, decide_eq_true_iff] at h
      obtain ⟨h1, h2, h3⟩ := h
      unfold withinL at h3
      rw [decide_eq_true_iff] at h3
      refine ⟨?_, ?_, ?_⟩
      · unfold mayB; rw [e1, decide_eq_true h1]; rfl
      · unfold mayB; rw [e2, decide_eq_true h2]; rfl
      · rw [e1, e2]; exact List.reverse_prefix.2 h3
    · cases h
  · rintro ⟨h1, h2, h3⟩
    obtain ⟨A, rfl, oA, hA⟩ := mayB_iff.1 h1
    obtain ⟨B, rfl, oB, hB⟩ := mayB_iff.1 h2
    rw [labs_wire oA, labs_wire oB] at h3 ⊢
    simp only [decide_eq_true hA, decide_eq_true hB, Bool.true_and]
    unfold withinL
    rw [decide_eq_true_iff]
    exact List.reverse_prefix.1 h3
theorem law_fact (a : List Nat) (hA : Clu.B8 a) (la : a.length ≤ maxLen) (b : List Nat) (hB : Clu.B8 b) (lb : b.length ≤ maxLen) (c : List Nat) (hC : Clu.B8 c) (lc : c.length ≤ maxLen) (z : List Nat) (hZ : Clu.B8 z) (lz : z.length ≤ maxLen) :
    Clu.Fact Try.prog 8 [] [.s a.length (Clu.pk a), .s b.length (Clu.pk b), .s c.length (Clu.pk c), .s z.length (Clu.pk z)] (.b true) := by
  have o := cmpW_ord
  refine togF_law myF smF wiF cpF foF1 _ _ _ _ _ _ _ _ lawX_ok ?_ ?_ ?_
  · intro _ _ _ _ h1 _ h2
    rw [h1] at h2; cases h2
  · simp only [wiF_pk hA hZ, wiF_pk hC hZ, wiF_pk hB hZ, cpF_pk hZ hA, cpF_pk hA hB, cpF_pk hB hC, myF_pk hB, show ((0 : Nat) : Int) = 0 from rfl]
    intro _ _ _ _ h1 _ h2 _ h3 h4 h5
    obtain ⟨a1, z1, w1⟩ := within_iff.1 h1
    obtain ⟨c1, _, w2⟩ := within_iff.1 h3
    rw [cmpB_eq a1 h2] at h4
    rw [cmpB_eq h2 c1] at h5
    exact within_iff.2 ⟨h2, z1, lexC_between cmpS_ord w1 w2 h4 h5⟩
  · simp only [wiF_pk hA hZ, cpF_pk hZ hA, show ((0 : Nat) : Int) = 0 from rfl]
    intro _ _ _ _ h1 h2
    obtain ⟨a1, z1, w1⟩ := within_iff.1 h1
    rw [cmpB_eq z1 a1] at h2
    have := lexC_prefix cmpS_ord w1
    have : cmpW (((labs z).getD []).map low).reverse (((labs a).getD []).map low).reverse ≤ 0 := this
    omega

end Go.Proofs.Ytmokdhmicdmgfaa.nameTogether
