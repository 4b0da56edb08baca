/-
  Runs at whatever arguments: loops over slots alone.
-/
import Derived.Test.YthghohgjedjpbaaCluS3
namespace Go.Proofs.Ythghohgjedjpbaa
namespace Clu
open Go.RowKit
set_option linter.unusedVariables false
variable {P : Program}
/-- slots that are told, and slots that hold truths -/
def std (ts : List Nat) (vs : List AV) (bs : List Nat) (os : Nat → Option AV) : List (Nat × Option AV) := ts.zip (vs.map some) ++ bs.map fun t => (t, os t)
theorem undF_std {n : Nat} {ts bs : List Nat} {vs : List AV} {os : Nat → Option AV} (hv : AV.unds n vs = true) (ho : ∀ t, flatB (os t) = true) : undF n (std ts vs bs os) := fun t a hm => by
  rcases List.mem_append.1 hm with hm | hm
  · obtain ⟨v, h1, h2⟩ := List.mem_map.1 (List.of_mem_zip hm).2
    cases h2
    obtain ⟨j, hj⟩ := List.getElem?_of_mem h1
    exact unds_get hv hj
  · obtain ⟨t', h1, h2⟩ := List.mem_map.1 hm
    simp only [Prod.mk.injEq] at h2
    have := ho t'
    rw [h2.2] at this
    exact flatB_und this
theorem seg0 {rec : Job} {n nt lim nx ec : Nat} {c : Code} {keys ts0 ts bs : List Nat} {vs0 vs : List AV} {os0 : Nat → Option AV} {base : T} (J : JobOK P n rec) (hk : rec nt lim c (tellF keys (mkFr nt (std ts0 vs0 bs os0))) base nx (finK ec nt nx ts bs []) = .ok (.tu vs)) (hlen : vs.length = ts.length)
    (hkeys : (keys.all fun k => Nat.ble nt k) = true) (hT : Top lim base nx) (h1000 : 1000 ≤ nx) (hu0 : AV.unds nx vs0 = true) (ho : ∀ t, flatB (os0 t) = true) (hH : HU nx base) (hbase : ∀ id b, base.get id = some b → id < lim) :
    ∃ os : Nat → Option AV, (∀ t, flatB (os t) = true) ∧ RunE P n c nt lim (mkFr nt (std ts0 vs0 bs os0)) base nx (exOf ec) (mkFr nt (std ts vs bs os)) base nx := by
  have := seg (base := base) (bl0 := []) (hs := []) (vs := vs) (cs := []) J (by simpa [mkH] using hk) hlen (fun k hk => ble_iff.1 (List.all_eq_true.1 hkeys k hk)) hT h1000 (undF_std hu0 ho) hH rfl hbase (fun x hx => by cases hx) (fun p hp => by cases hp) (fun c hc => by cases hc)
  exact this
/-- what a loop comes to, whatever the truths are that lie about -/
def LoopP (P : Program) (b : Code) (fuel nt lim : Nat) (h : T) (nx ec : Nat) (ts0 : List Nat) (vs0 : List AV) (bs ts : List Nat) (vs : List AV) : Prop := ∀ os0 : Nat → Option AV, (∀ t, flatB (os0 t) = true) → ∃ os : Nat → Option AV, (∀ t, flatB (os t) = true) ∧
  RunE P fuel (.loop b) nt lim (mkFr nt (std ts0 vs0 bs os0)) h nx (exOf ec) (mkFr nt (std ts vs bs os)) h nx
/-- the truths that lie about in a frame -/
noncomputable def aboutF (bs : List Nat) (fr : Fr) : Nat → Option AV := fun t => if memN bs t = true then fr.get t else none
theorem aboutF_flat {bs : List Nat} {fr : Fr} (h : (bs.all fun t => flatB (fr.get t)) = true) (t : Nat) : flatB (aboutF bs fr t) = true := by
  unfold aboutF
  by_cases hb : memN bs t = true
  · rw [if_pos hb]; exact List.all_eq_true.1 h t (memN_iff.1 hb)
  · rw [if_neg hb]; rfl
noncomputable def slotsF (ts : List Nat) (fr : Fr) : List AV := ts.map fun t => (fr.get t).getD (.tu [])
open Classical in
/-- the truths that lie about behind it -/
noncomputable def aboutH {P : Program} {b : Code} {fuel nt lim : Nat} {h : T} {nx ec : Nat} {ts0 : List Nat} {vs0 : List AV} {ts : List Nat} {vs : List AV} (bs : List Nat) (fr : Fr) (hx : LoopP P b fuel nt lim h nx ec ts0 vs0 bs ts vs) : Nat → Option AV := if hb : (bs.all fun t => flatB (fr.get t)) = true then (hx (aboutF bs fr) (aboutF_flat hb)).choose else fun _ => none
open Classical in
/-- a loop stands for its rounds -/
noncomputable def loopH (P : Program) (b : Code) (ec : Nat) (ts0 bs ts : List Nat) (F : List AV → Option (List AV)) : LT := fun fuel nt lim fr h nx k => match okFr nt nx ts0 bs fr, F (slotsF ts0 fr) with
  | true, some vs => if hx : LoopP P b fuel nt lim h nx ec ts0 (slotsF ts0 fr) bs ts vs then bsK bs fr (k (exOf ec) (mkFr nt (std ts vs bs (aboutH bs fr hx))) h nx) else .err 93 1
  | _, _ => .err 93 2
theorem loopH_ok {b : Code} {ec : Nat} {ts0 bs ts : List Nat} {F : List AV → Option (List AV)} : LoopOK P b (loopH P b ec ts0 bs ts F) := fun n nt lim fr h nx k v hl hk => by
  unfold loopH at hk
  split at hk
  · rename_i vs hok hF
    split at hk
    · rename_i hx
      obtain ⟨hk, hb⟩ := bsK_ok hk
      · have hc := (hx (aboutF bs fr) (aboutF_flat hb)).choose_spec
        have hab : aboutH bs fr hx = (hx (aboutF bs fr) (aboutF_flat hb)).choose := by unfold aboutH; rw [dif_pos hb]
        rw [hab] at hk
        refine ⟨_, _, _, _, hk, ?_⟩
        unfold okFr at hok
        simp only [Bool.and_eq_true] at hok
        obtain ⟨d1, d3⟩ := hok
        refine RunE.weak (exOf_fine ec) (fun t o hm => ?_) (fun t ht hno => ?_) hc.2
        · rcases List.mem_append.1 hm with hm | hm
          · have e1 : (slotsF ts0 fr).map some = ts0.map fun t => some ((fr.get t).getD (.tu [])) := by unfold slotsF; rw [List.map_map]; rfl
            have e2 := map_zip _ e1 hm
            have := List.all_eq_true.1 d1 t (List.of_mem_zip hm).1
            cases hg : fr.get t with
            | none => rw [hg] at this; cases this
            | some a => rw [e2, hg]; rfl
          · obtain ⟨t', h1, h2⟩ := List.mem_map.1 hm
            cases h2
            unfold aboutF
            rw [if_pos (memN_iff.2 h1)]
        · have := List.all_eq_true.1 d3 t (List.mem_range.2 ht)
          simp only [Bool.or_eq_true] at this
          rcases this with h | h | h
          · obtain ⟨v, hv⟩ := zip_mem_left (m := (slotsF ts0 fr).map some) (by unfold slotsF; rw [List.length_map, List.length_map]) (memN_iff.1 h)
            exact absurd (List.mem_append_left _ hv) (hno _)
          · exact absurd (List.mem_append_right _ (List.mem_map.2 ⟨t, memN_iff.1 h, rfl⟩)) (hno _)
          · exact h
    · cases hk
  · cases hk
/-- a heap whose blocks all stay as they are -/
structure Cx (lim : Nat) (h : T) (nx : Nat) : Prop where
  top : Top lim h nx
  big : 1000 ≤ nx
  und : HU nx h
  old : ∀ id b, h.get id = some b → id < lim
/-- what a part's run says, over slots alone -/
theorem seg1 {rec : Job} {n nt lim nx ec : Nat} {c : Code} {keys ts0 ts bs : List Nat} {vs0 vs : List AV} {os0 : Nat → Option AV} {h : T} (J : JobOK P n rec) (cx : Cx lim h nx) (ho : ∀ t, flatB (os0 t) = true) (hk : rec nt lim c (tellF keys (mkFr nt (std ts0 vs0 bs os0))) h nx (finK ec nt nx ts bs []) = .ok (.tu vs)) (hlen : vs.length = ts.length)
    (hkeys : (keys.all fun k => Nat.ble nt k) = true) (hu0 : AV.unds nx vs0 = true) : ∃ os : Nat → Option AV, (∀ t, flatB (os t) = true) ∧ RunE P n c nt lim (mkFr nt (std ts0 vs0 bs os0)) h nx (exOf ec) (mkFr nt (std ts vs bs os)) h nx :=
  seg0 J hk hlen hkeys cx.top cx.big hu0 ho cx.und cx.old
/-- a round, and what comes behind it -/
theorem LoopP.out {b : Code} {n fuel nt lim nx ec : Nat} {h : T} {ts0 bs ts : List Nat} {vs0 vs : List AV} (hn : exOf ec ≠ .nor) (hf : n < fuel) (H : ∀ os0 : Nat → Option AV, (∀ t, flatB (os0 t) = true) → ∃ os : Nat → Option AV, (∀ t, flatB (os t) = true) ∧ RunE P n b nt lim (mkFr nt (std ts0 vs0 bs os0)) h nx (exOf ec) (mkFr nt (std ts vs bs os)) h nx) : LoopP P b fuel nt lim h nx ec ts0 vs0 bs ts vs := fun os0 h0 => by
  obtain ⟨os, h1, R⟩ := H os0 h0
  exact ⟨os, h1, (RunE.loop_out (exOf_fine ec) hn R).upto hf⟩
theorem LoopP.more {b : Code} {n fuel nt lim nx ec : Nat} {h : T} {ts0 bs ts : List Nat} {vs0 vs1 vs : List AV} (hf : n ≤ fuel) (H : ∀ os0 : Nat → Option AV, (∀ t, flatB (os0 t) = true) → ∃ os : Nat → Option AV, (∀ t, flatB (os t) = true) ∧ RunE P n b nt lim (mkFr nt (std ts0 vs0 bs os0)) h nx (exOf 0) (mkFr nt (std ts0 vs1 bs os)) h nx)
    (K : LoopP P b fuel nt lim h nx ec ts0 vs1 bs ts vs) : LoopP P b (fuel + 1) nt lim h nx ec ts0 vs0 bs ts vs := fun os0 h0 => by
  obtain ⟨os, h1, R⟩ := H os0 h0
  obtain ⟨os', h2, S⟩ := K os h1
  exact ⟨os', h2, RunE.loop_more (exOf_fine ec) (R.upto hf) S⟩
theorem LoopP.upto {b : Code} {n fuel nt lim nx ec : Nat} {h : T} {ts0 bs ts : List Nat} {vs0 vs : List AV} (L : LoopP P b n nt lim h nx ec ts0 vs0 bs ts vs) (hf : n ≤ fuel) : LoopP P b fuel nt lim h nx ec ts0 vs0 bs ts vs := fun os0 h0 => by
  obtain ⟨os, h1, R⟩ := L os0 h0
  exact ⟨os, h1, R.upto hf⟩
theorem Cx.start : Cx 1000 (.e : T) 1000 := ⟨⟨Nat.le_refl _, fun j _ => Tr.get_e j⟩, Nat.le_refl _, fun id b h => (by cases (Tr.get_e id).symm.trans h), fun id b h => (by cases (Tr.get_e id).symm.trans h)⟩
/-- what must be so: a statement -/
noncomputable def needP (p : Prop) (E : ¬ p → Out) (o : p → Out) : Out := @Decidable.rec p (fun _ => Out) E o (Classical.propDecidable p)
theorem needP_eq {p : Prop} (h : p) (E : ¬ p → Out) (o : p → Out) : needP p E o = o h := by
  unfold needP
  cases Classical.propDecidable p with
  | isTrue _ => rfl
  | isFalse hn => exact absurd h hn
end Clu
end Go.Proofs.Ythghohgjedjpbaa
