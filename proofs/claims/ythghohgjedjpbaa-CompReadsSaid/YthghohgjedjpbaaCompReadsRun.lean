/-
  CompReads: what it comes to.
-/
import Derived.Test.YthghohgjedjpbaaCompReadsBase
import Derived.Test.YthghohgjedjpbaaRdA
namespace Go.Proofs.Ythghohgjedjpbaa.compReads
open Go.RowKit
set_option linter.unusedVariables false
set_option linter.unusedSimpArgs false
set_option maxRecDepth 100000

noncomputable def awH : List Clu.AV → Clu.Dec Clu.AV := fun args => match args with
  | [] => .leaf (.b true)
  | _ => .fail
noncomputable def rdH (vn vN vx vz : Nat → Nat → Int → Nat) : List Clu.AV → Clu.Dec Clu.AV := fun args => match args with
  | [.s n N, .i .i64 a] => .need (Nat.blt n 10001) (.leaf (.tu [.s (vn n N a) (vN n N a), .i .i64 (.ofNat (vx n N a)), .i .i64 (.ofNat (vz n N a))]))
  | _ => .fail

set_option maxRecDepth 10000000 in
theorem crF_raw (vn vN vx vz : Nat → Nat → Int → Nat) (n N : Nat) (a : Int) : (Clu.layK [] .e fun h => Clu.runL (Clu.noL) Try.prog (Clu.tell (Clu.addB (Clu.addB (Clu.addB (Clu.noX) 9 (Clu.decH awH)) 10 (Clu.decH (rdH vn vN vx vz))) 11 (Clu.decH (rdH vn vN vx vz))) 3 3000084300007430000643000026) (1000) 1000 3 [.s n N, .i .i64 a] h 1000) = Clu.forkB ((Clu.iLt (Int.ofNat 4000) (Int.ofNat n))) (Clu.needT ((Nat.blt n 10001)) (.err 96 1) (Clu.needT ((Nat.blt n 10001)) (.err 96 1) (Clu.forkB ((Clu.eqNs (vn n N a) (vN n N a) (vn n N a) (vN n N a))) ((Clu.Out.ok (Clu.AV.b false))) (Clu.forkB ((Clu.iEq (Int.ofNat (vx n N a)) (Int.ofNat (vx n N a)))) ((Clu.Out.ok (Clu.AV.b false))) (Clu.forkB ((Clu.iEq (Int.ofNat (vz n N a)) (Int.ofNat (vz n N a)))) ((Clu.Out.ok (Clu.AV.b false))) ((Clu.Out.ok (Clu.AV.b true)))))))) ((Clu.Out.ok (Clu.AV.b true))) := by kernel_rfl
set_option linter.unusedVariables false in
theorem crF_run (vn vN vx vz : Nat → Nat → Int → Nat) (n N : Nat) (a : Int) (hX : Clu.XOK Try.prog (Clu.addB (Clu.addB (Clu.addB (Clu.noX) 9 (Clu.decH awH)) 10 (Clu.decH (rdH vn vN vx vz))) 11 (Clu.decH (rdH vn vN vx vz))))  
  (V0 : (n ≤ 4000) → ((Clu.eqNs (vn n N a) (vN n N a) (vn n N a) (vN n N a)) = false) → False)
  (V1 : (n ≤ 4000) → ((Clu.eqNs (vn n N a) (vN n N a) (vn n N a) (vN n N a)) = true) → ((vx n N a) ≠ (vx n N a)) → False)
  (V2 : (n ≤ 4000) → ((Clu.eqNs (vn n N a) (vN n N a) (vn n N a) (vN n N a)) = true) → ((vx n N a) = (vx n N a)) → ((vz n N a) ≠ (vz n N a)) → False) : (Clu.layK [] .e fun h => Clu.runL (Clu.noL) Try.prog (Clu.tell (Clu.addB (Clu.addB (Clu.addB (Clu.noX) 9 (Clu.decH awH)) 10 (Clu.decH (rdH vn vN vx vz))) 11 (Clu.decH (rdH vn vN vx vz))) 3 3000084300007430000643000026) (1000) 1000 3 [.s n N, .i .i64 a] h 1000) = .ok (.b true) := by
  rw [crF_raw]
  refine Clu.forkB_cases (fun bc1 => ?_) (fun bc1 => ?_)
  · have c1 : n ≤ 4000 := (Int.ofNat_le.1 (Clu.of_iLt_f bc1))
    have q1 : n < 10001 := (by omega)
    refine (Clu.needT_eq (Clu.blt_iff.2 q1) _ _).trans ?_
    have q1 : n < 10001 := (by omega)
    refine (Clu.needT_eq (Clu.blt_iff.2 q1) _ _).trans ?_
    refine Clu.forkB_cases (fun bc2 => ?_) (fun bc2 => ?_)
    · have c2 : (Clu.eqNs (vn n N a) (vN n N a) (vn n N a) (vN n N a)) = false := bc2
      exact (V0 c1 c2).elim
    · have c2 : (Clu.eqNs (vn n N a) (vN n N a) (vn n N a) (vN n N a)) = true := bc2
      refine Clu.forkB_cases (fun bc3 => ?_) (fun bc3 => ?_)
      · have c3 : (vx n N a) ≠ (vx n N a) := (fun hh => (Clu.of_iEq_f bc3) (congrArg Int.ofNat hh))
        exact (V1 c1 c2 c3).elim
      · have c3 : (vx n N a) = (vx n N a) := (Int.ofNat.inj (Clu.of_iEq_t bc3))
        refine Clu.forkB_cases (fun bc4 => ?_) (fun bc4 => ?_)
        · have c4 : (vz n N a) ≠ (vz n N a) := (fun hh => (Clu.of_iEq_f bc4) (congrArg Int.ofNat hh))
          exact (V2 c1 c2 c3 c4).elim
        · have c4 : (vz n N a) = (vz n N a) := (Int.ofNat.inj (Clu.of_iEq_t bc4))
          rfl
  · have c1 : 4000 < n := (Int.ofNat_lt.1 (Clu.of_iLt_t bc1))
    rfl
theorem crF_law (vn vN vx vz : Nat → Nat → Int → Nat) (n N : Nat) (a : Int) (hX : Clu.XOK Try.prog (Clu.addB (Clu.addB (Clu.addB (Clu.noX) 9 (Clu.decH awH)) 10 (Clu.decH (rdH vn vN vx vz))) 11 (Clu.decH (rdH vn vN vx vz))))  
  (V0 : (n ≤ 4000) → ((Clu.eqNs (vn n N a) (vN n N a) (vn n N a) (vN n N a)) = false) → False)
  (V1 : (n ≤ 4000) → ((Clu.eqNs (vn n N a) (vN n N a) (vn n N a) (vN n N a)) = true) → ((vx n N a) ≠ (vx n N a)) → False)
  (V2 : (n ≤ 4000) → ((Clu.eqNs (vn n N a) (vN n N a) (vn n N a) (vN n N a)) = true) → ((vx n N a) = (vx n N a)) → ((vz n N a) ≠ (vz n N a)) → False) : Clu.Fact Try.prog 3 [] [.s n N, .i .i64 a] (.b true) :=
  Clu.factL Clu.plain (Clu.tell_ok (hX)) Clu.mixed (Clu.noL_ok) (crF_run vn vN vx vz n N a hX V0 V1 V2) rfl rfl
set_option maxRecDepth 10000000 in
theorem runsA : (Clu.layK [] .e fun h => Clu.runF Try.prog Clu.noX 1000000 1000 9 [] h 1000) = .ok (.b true) := by kernel_rfl
theorem awH_ok : Clu.HandOK Try.prog 9 (Clu.decH awH) := Clu.decH_ok fun args v h => by
  unfold awH at h
  split at h
  · have h : Clu.AV.b true = v := h
    subst h
    exact Clu.fact_of Clu.plain Clu.noX_ok Clu.mixed runsA (by kernel_rfl) (by kernel_rfl)
  · exact h.elim
noncomputable def vnF (n N : Nat) (a : Int) : Nat := (rdV (Clu.lst n N) a).1.length
noncomputable def vNF (n N : Nat) (a : Int) : Nat := Clu.pk (rdV (Clu.lst n N) a).1
noncomputable def vxF (n N : Nat) (a : Int) : Nat := (rdV (Clu.lst n N) a).2.1
noncomputable def vzF (n N : Nat) (a : Int) : Nat := (rdV (Clu.lst n N) a).2.2
theorem rdH_ok {f : FuncId} (hF : ∀ l, Clu.B8 l → l.length ≤ 10000 → ∀ a : Int, Clu.Fact Try.prog f [] [.s l.length (Clu.pk l), .i .i64 a] (.tu (vOut (rdV l a)))) : Clu.HandOK Try.prog f (Clu.decH (rdH vnF vNF vxF vzF)) := Clu.decH_ok fun args v h => by
  unfold rdH at h
  split at h
  · rename_i n N a
    obtain ⟨h1, h2⟩ := h
    have h2 : Clu.AV.tu (vOut (rdV (Clu.lst n N) a)) = v := h2
    subst h2
    have h1 := Clu.blt_iff.1 h1
    refine (hF _ (Clu.lst_b8 n N) (by rw [Clu.lst_length]; omega) a).of rfl fun r xs ⟨x, ys, h1, h2, h3⟩ => ⟨x, ys, h1, Clu.VR.lst.1 h2, h3⟩
  · exact h.elim
theorem crX_ok : Clu.XOK Try.prog (Clu.addB (Clu.addB (Clu.addB (Clu.noX) 9 (Clu.decH awH)) 10 (Clu.decH (rdH vnF vNF vxF vzF))) 11 (Clu.decH (rdH vnF vNF vxF vzF))) := Clu.addB_ok (Clu.addB_ok (Clu.addB_ok Clu.noX_ok awH_ok) (rdH_ok fun l h k a => read_fact h k a)) (rdH_ok fun l h k a => rread_fact h k a)
theorem law_fact (l : List Nat) (hB : Clu.B8 l) (hl : l.length ≤ maxLen) (a : Int) (h1 : -9223372036854775808 ≤ a) (h2 : a ≤ 9223372036854775807) : Clu.Fact Try.prog 3 [] [.s l.length (Clu.pk l), .i .i64 a] (.b true) := by
  refine crF_law vnF vNF vxF vzF _ _ _ crX_ok ?_ ?_ ?_
  · intro _ h
    have e : Clu.eqNs (vnF l.length (Clu.pk l) a) (vNF l.length (Clu.pk l) a) (vnF l.length (Clu.pk l) a) (vNF l.length (Clu.pk l) a) = true := by
      unfold Clu.eqNs
      rw [Clu.beq_iff.2 rfl, Clu.beq_iff.2 rfl]
    rw [e] at h
    cases h
  · intro _ _ h; exact h rfl
  · intro _ _ _ h; exact h rfl

end Go.Proofs.Ythghohgjedjpbaa.compReads
