/-
  names: what stands for functions in laws.
-/
import Derived.Test.YtmokdhmicdmgfaaCluze
import Derived.Test.YtmokdhmicdmgfaaNmCm
namespace Go.Proofs.Ytmokdhmicdmgfaa
open Go.RowKit
set_option linter.unusedVariables false
set_option linter.unusedSimpArgs false
set_option maxRecDepth 100000

noncomputable def awH : List Clu.AV → Clu.Dec Clu.AV := fun args => match args with
  | [] => .leaf (.b true)
  | _ => .fail
noncomputable def s2b (f : Nat → Nat → Nat → Nat → Bool) : List Clu.AV → Clu.Dec Clu.AV := fun args => match args with
  | [.s n N, .s m M] => .need (Nat.blt n 9000000000000000000) (.need (Nat.blt m 9000000000000000000) (.leaf (.b (f n N m M))))
  | _ => .fail
noncomputable def s2i (f : Nat → Nat → Nat → Nat → Int) : List Clu.AV → Clu.Dec Clu.AV := fun args => match args with
  | [.s n N, .s m M] => .need (Nat.blt n 9000000000000000000) (.need (Nat.blt m 9000000000000000000) (.leaf (.i .i64 (f n N m M))))
  | _ => .fail
noncomputable def s1s (f : Nat → Nat → Nat × Nat) : List Clu.AV → Clu.Dec Clu.AV := fun args => match args with
  | [.s n N] => .need (Nat.blt n 9000000000000000000) (.leaf (.s (f n N).1 (f n N).2))
  | _ => .fail

/-! what stands for these functions -/
noncomputable def smF (n N m M : Nat) : Bool := sameB (Clu.lst n N) (Clu.lst m M)
noncomputable def wiF (n N m M : Nat) : Bool := withinB (Clu.lst n N) (Clu.lst m M)
noncomputable def cpF (n N m M : Nat) : Int := cmpB (Clu.lst n N) (Clu.lst m M)
noncomputable def foF1 (n N : Nat) : Nat × Nat := ((foldL (Clu.lst n N)).length, Clu.pk (foldL (Clu.lst n N)))
set_option maxRecDepth 10000000 in
theorem runsA : (Clu.layK [] .e fun h => Clu.runF Try.prog Clu.noX 1000000 1000 11 [] h 1000) = .ok (.b true) := by kernel_rfl
theorem awH_ok : Clu.HandOK Try.prog 11 (Clu.decH awH) := Clu.decH_ok fun args v h => by
  unfold awH at h
  split at h
  · have h : Clu.AV.b true = v := h
    subst h
    exact Clu.fact_of Clu.plain Clu.noX_ok Clu.mixed runsA (by kernel_rfl) (by kernel_rfl)
  · exact h.elim
theorem s2b_ok {f : FuncId} {F : Nat → Nat → Nat → Nat → Bool} (hF : ∀ l m, Clu.B8 l → Clu.B8 m → l.length < 9000000000000000000 → m.length < 9000000000000000000 → Clu.Fact Try.prog f [] [.s l.length (Clu.pk l), .s m.length (Clu.pk m)] (.b (F l.length (Clu.pk l) m.length (Clu.pk m)))) (hf : ∀ n N m M, F n N m M = F (Clu.lst n N).length (Clu.pk (Clu.lst n N)) (Clu.lst m M).length (Clu.pk (Clu.lst m M))) : Clu.HandOK Try.prog f (Clu.decH (s2b F)) := Clu.decH_ok fun args v h => by
  unfold s2b at h
  split at h
  · rename_i n N m M
    obtain ⟨h1, h2, h3⟩ := h
    have h3 : Clu.AV.b (F n N m M) = v := h3
    subst h3
    refine Clu.Fact.s2 ?_
    rw [hf n N m M]
    exact hF _ _ (Clu.lst_b8 _ _) (Clu.lst_b8 _ _) (by rw [Clu.lst_length]; exact Clu.blt_iff.1 h1) (by rw [Clu.lst_length]; exact Clu.blt_iff.1 h2)
  · exact h.elim
theorem s2i_ok {f : FuncId} {F : Nat → Nat → Nat → Nat → Int} (hF : ∀ l m, Clu.B8 l → Clu.B8 m → l.length < 9000000000000000000 → m.length < 9000000000000000000 → Clu.Fact Try.prog f [] [.s l.length (Clu.pk l), .s m.length (Clu.pk m)] (.i .i64 (F l.length (Clu.pk l) m.length (Clu.pk m)))) (hf : ∀ n N m M, F n N m M = F (Clu.lst n N).length (Clu.pk (Clu.lst n N)) (Clu.lst m M).length (Clu.pk (Clu.lst m M))) : Clu.HandOK Try.prog f (Clu.decH (s2i F)) := Clu.decH_ok fun args v h => by
  unfold s2i at h
  split at h
  · rename_i n N m M
    obtain ⟨h1, h2, h3⟩ := h
    have h3 : Clu.AV.i .i64 (F n N m M) = v := h3
    subst h3
    refine Clu.Fact.s2 ?_
    rw [hf n N m M]
    exact hF _ _ (Clu.lst_b8 _ _) (Clu.lst_b8 _ _) (by rw [Clu.lst_length]; exact Clu.blt_iff.1 h1) (by rw [Clu.lst_length]; exact Clu.blt_iff.1 h2)
  · exact h.elim
theorem smF_pk {l m : List Nat} (h : Clu.B8 l) (k : Clu.B8 m) : smF l.length (Clu.pk l) m.length (Clu.pk m) = sameB l m := by unfold smF; rw [Clu.lst_pk h, Clu.lst_pk k]
theorem wiF_pk {l m : List Nat} (h : Clu.B8 l) (k : Clu.B8 m) : wiF l.length (Clu.pk l) m.length (Clu.pk m) = withinB l m := by unfold wiF; rw [Clu.lst_pk h, Clu.lst_pk k]
theorem cpF_pk {l m : List Nat} (h : Clu.B8 l) (k : Clu.B8 m) : cpF l.length (Clu.pk l) m.length (Clu.pk m) = cmpB l m := by unfold cpF; rw [Clu.lst_pk h, Clu.lst_pk k]
theorem foF1_pk {l : List Nat} (h : Clu.B8 l) : foF1 l.length (Clu.pk l) = ((foldL l).length, Clu.pk (foldL l)) := by unfold foF1; rw [Clu.lst_pk h]
theorem sm_ok : Clu.HandOK Try.prog 22 (Clu.decH (s2b smF)) := s2b_ok (fun l m h k hl hm => by rw [smF_pk h k]; exact same_fact h k hl hm) fun n N m M => by rw [smF_pk (Clu.lst_b8 _ _) (Clu.lst_b8 _ _)]; rfl
theorem wi_ok : Clu.HandOK Try.prog 24 (Clu.decH (s2b wiF)) := s2b_ok (fun l m h k hl hm => by rw [wiF_pk h k]; exact within_fact h k hl hm) fun n N m M => by rw [wiF_pk (Clu.lst_b8 _ _) (Clu.lst_b8 _ _)]; rfl
theorem cp_ok : Clu.HandOK Try.prog 26 (Clu.decH (s2i cpF)) := s2i_ok (fun l m h k hl hm => by rw [cpF_pk h k]; exact compare_fact h k hl hm) fun n N m M => by rw [cpF_pk (Clu.lst_b8 _ _) (Clu.lst_b8 _ _)]; rfl
theorem fo_ok : Clu.HandOK Try.prog 18 (Clu.decH (s1s foF1)) := Clu.decH_ok fun args v h => by
  unfold s1s at h
  split at h
  · rename_i n N
    obtain ⟨h1, h2⟩ := h
    have h2 : Clu.AV.s (foF1 n N).1 (foF1 n N).2 = v := h2
    subst h2
    exact Clu.Fact.s1 (fold_fact (Clu.lst_b8 n N) (by rw [Clu.lst_length]; exact Clu.blt_iff.1 h1))
  · exact h.elim
theorem lawX_ok : Clu.XOK Try.prog (Clu.addB (Clu.addB (Clu.addB (Clu.addB (Clu.addB (Clu.addB (Clu.noX) 11 (Clu.decH awH)) 17 (Clu.decH (mayH myF))) 22 (Clu.decH (s2b smF))) 24 (Clu.decH (s2b wiF))) 26 (Clu.decH (s2i cpF))) 18 (Clu.decH (s1s foF1))) := Clu.addB_ok (Clu.addB_ok (Clu.addB_ok (Clu.addB_ok (Clu.addB_ok (Clu.addB_ok Clu.noX_ok awH_ok) mayH_ok) sm_ok) wi_ok) cp_ok) fo_ok

end Go.Proofs.Ytmokdhmicdmgfaa
