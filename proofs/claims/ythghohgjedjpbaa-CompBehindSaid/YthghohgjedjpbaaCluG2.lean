/-
  Runs at whatever arguments: loops in which a block gets another's name.
-/
import Derived.Test.YthghohgjedjpbaaCluG1
namespace Go.Proofs.Ythghohgjedjpbaa
namespace Clu
open Go.RowKit
set_option linter.unusedVariables false
variable {P : Program}
/-- a run behind which blocks from m on may have other names -/
def RunR (P : Program) (n : Nat) (c : Code) (nt lim m : Nat) (fr : Fr) (h : T) (nx : Nat) (e : Ex) (fr' : Fr) (h' : T) (nx' top : Nat) : Prop :=
  ∀ p r w act D, HR p lim r h.get w → Free nx top r → FR D r nt fr act → ∀ N : Act → World → Prop, (∀ act' w' r', (∀ id, id < m → r' id = r id) → Free nx' top r' → FR D r' nt fr' act' → HR p lim r' h'.get w' → Kp p w w' → N act' w') → WP P n c (At e N) act w
theorem RunR.of {n nt lim m nx n1 top : Nat} {c : Code} {fr fr1 : Fr} {h h1 : T} {e : Ex} (he : e.fine = true) (R : RunE P n c nt lim fr h nx e fr1 h1 n1) (ht : n1 ≤ top) (hm : m ≤ nx) : RunR P n c nt lim m fr h nx e fr1 h1 n1 top := fun p r w act D H hf hfr N hN => by
  have R := R.ok he
  refine R.2 p r w act D H (hf.sub (Nat.le_refl _) ht) hfr N fun act' w' ⟨r', x1, f1, H1, k1⟩ => ?_
  exact hN act' w' r' (fun id hid => x1 id (.inl (by omega))) (fun id h1 h2 => by rw [x1 id (.inr h1)]; exact hf id (by have := R.1.le; omega) h2) f1 H1 k1
theorem RunR.more {n nt lim m nx n1 n2 top : Nat} {b : Code} {fr fr1 fr2 : Fr} {h h1 h2 : T} {e : Ex} (R : RunR P n b nt lim m fr h nx .nor fr1 h1 n1 top) (S : RunR P n (.loop b) nt lim m fr1 h1 n1 e fr2 h2 n2 top) : RunR P (n + 1) (.loop b) nt lim m fr h nx e fr2 h2 n2 top := fun p r w act D H hf hfr N hN => by
  show Lp P b (At e N) (n + 1) act w
  refine wp_mono (WP.wp (R p r w act D H hf hfr (fun a w => WP P n (.loop b) (At e N) a w) fun act1 w1 r1 e1 x1 f1 H1 k1 => ?_)) fun e' a w ⟨h1, hq⟩ => ?_
  · exact S p r1 w1 act1 D H1 x1 f1 N fun act2 w2 r2 e2 x2 f2 H2 k2 => hN act2 w2 r2 (fun id hid => by rw [e2 id hid, e1 id hid]) x2 f2 H2 (k1.trans k2)
  · subst h1
    exact hq
theorem mkFr_ren (σ : Nat → Nat) (nt t : Nat) : ∀ l : List (Nat × Option AV), (mkFr nt (l.map fun p => (p.1, p.2.map (AV.ren σ)))).get t = ((mkFr nt l).get t).map (AV.ren σ)
  | [] => by
    show (baseFr nt).get t = ((baseFr nt).get t).map _
    rw [baseFr_get]
    split <;> rfl
  | p :: l => by
    rw [List.map_cons, mkFr, mkFr, Tr.get_set, Tr.get_set]
    by_cases h : t = p.1
    · rw [if_pos h, if_pos h]
    · rw [if_neg h, if_neg h]
      exact mkFr_ren σ nt t l
theorem FR.ren {D : List Deferred} {r : Rn} {σ : Nat → Nat} {nt : Nat} {act : Act} {l : List (Nat × Option AV)} (h : FR D r nt (mkFr nt (l.map fun p => (p.1, p.2.map (AV.ren σ)))) act) : FR D (fun i => r (σ i)) nt (mkFr nt l) act := by
  refine ⟨h.size, h.defers, fun t => ?_⟩
  have k := h.tmp t
  rw [mkFr_ren] at k
  cases hg : (mkFr nt l).get t with
  | none => rw [hg] at k; exact k
  | some a => rw [hg] at k; exact (VR.ren _ _).2 k
/-- blocks get other names -/
theorem RunR.ren {n nt lim m nx n1 n2 top : Nat} {c : Code} {fr : Fr} {h h1 h2 : T} {e : Ex} {l : List (Nat × Option AV)} (σ : Nat → Nat) (R : RunR P n c nt lim m fr h nx e (mkFr nt (l.map fun p => (p.1, p.2.map (AV.ren σ)))) h1 n1 top)
    (h1000 : 1000 ≤ m) (hm : m ≤ n2) (hσ : ∀ id, id < m → σ id = id) (hi : ∀ i j, i < n2 → j < n2 → σ i = σ j → i = j) (hlim : ∀ i, lim ≤ i → i < n2 → lim ≤ σ i) (hu : undF n2 l) (hh : ∀ id b, h2.get id = some b → h1.get (σ id) = some (b.ren σ) ∧ id < n2 ∧ b.und n2 = true) : RunR P n c nt lim m fr h nx e (mkFr nt l) h2 n2 top := fun p r w act D H hf hfr N hN => by
  refine R p r w act D H hf hfr N fun act1 w1 r1 e1 x1 f1 H1 k1 => ?_
  let r2 : Rn := fun id => if id < n2 then r1 (σ id) else none
  have hr2 : ∀ id, id < n2 → r2 id = r1 (σ id) := fun id hid => if_pos hid
  refine hN act1 w1 r2 (fun id hid => by rw [hr2 id (by omega), hσ id hid]; exact e1 id hid) (fun id q1 q2 => if_neg (by omega)) (FR.und hr2 hu f1.ren) ⟨fun id b hb => ?_, fun id id' b b' x x' hs q q' y y' hxx => ?_, fun id b x hb hl hro hx => ?_, H1.bd, fun g hg => by rw [hr2 g (by omega), hσ g (by omega)]; exact H1.glob g hg⟩ k1
  · obtain ⟨q1, q2, q3⟩ := hh id b hb
    exact (BR.ren.2 (H1.blk _ _ q1)).und hr2 q2 q3
  · obtain ⟨q1, q2, q3⟩ := hh id b q
    obtain ⟨q1', q2', q3'⟩ := hh id' b' q'
    rw [hr2 id q2] at y
    rw [hr2 id' q2'] at y'
    refine hi id id' q2 q2' (H1.inj _ _ _ _ x x' ?_ q1 q1' y y' hxx)
    rcases hs with hs | hs | ⟨hs, hs'⟩
    · exact .inl (hlim id hs q2)
    · exact .inr (.inl (hlim id' hs q2'))
    · exact .inr (.inr ⟨ren_pd.2 hs, ren_pd.2 hs'⟩)
  · obtain ⟨q1, q2, q3⟩ := hh id b hb
    rw [hr2 id q2] at hx
    exact H1.low (σ id) _ x q1 (hlim id hl q2) (by rw [ren_ro]; exact hro) hx
/-- what is left shows no block of these -/
theorem RunR.to {n nt lim m nx n1 top : Nat} {c : Code} {fr : Fr} {h h1 h2 : T} {e : Ex} {l : List (Nat × Option AV)} (he : e.fine = true) (R : RunR P n c nt lim m fr h nx e (mkFr nt l) h1 n1 top) (hm : m ≤ nx) (hu : undF m l) (hsub : ∀ id b, h2.get id = some b → h1.get id = some b ∧ id < m ∧ b.und m = true) (hk : Keeps lim h nx h2 top) : RunE P n c nt lim fr h nx e (mkFr nt l) h2 top :=
  RunE.of he ⟨hk, fun p r w act D H hf hfr N hN => R p r w act D H hf hfr N fun act1 w1 r1 e1 x1 f1 H1 k1 => by
    have e2 : ∀ id, id < m → r id = r1 id := fun id hid => (e1 id hid).symm
    exact hN act1 w1 ⟨r, Ext.refl _ _ _, FR.und e2 hu f1, HR.drop e2 H1 hsub H.glob, k1⟩⟩
def LoopR (P : Program) (b : Code) (fuel nt lim m : Nat) (bl0 : List (Nat × Blk)) (nx ec : Nat) (ts0 : List Nat) (vs0 : List AV) (bs ts : List Nat) (vs : List AV) (bl1 : List (Nat × Blk)) (nx1 top : Nat) : Prop := ∀ os0 : Nat → Option AV, (∀ t, flatB (os0 t) = true) → ∃ os : Nat → Option AV, (∀ t, flatB (os t) = true) ∧
  RunR P fuel (.loop b) nt lim m (mkFr nt (std ts0 vs0 bs os0)) (mkH .e bl0) nx (exOf ec) (mkFr nt (std ts vs bs os)) (mkH .e bl1) nx1 top
theorem LoopR.out {b : Code} {n fuel nt lim m nx nx1 ec top : Nat} {bl0 bl1 : List (Nat × Blk)} {ts0 bs ts : List Nat} {vs0 vs : List AV} (hn : exOf ec ≠ .nor) (hf : n < fuel) (ht : nx1 ≤ top) (hm : m ≤ nx) (H : ∀ os0 : Nat → Option AV, (∀ t, flatB (os0 t) = true) → ∃ os : Nat → Option AV, (∀ t, flatB (os t) = true) ∧ RunE P n b nt lim (mkFr nt (std ts0 vs0 bs os0)) (mkH .e bl0) nx (exOf ec) (mkFr nt (std ts vs bs os)) (mkH .e bl1) nx1) : LoopR P b fuel nt lim m bl0 nx ec ts0 vs0 bs ts vs bl1 nx1 top := fun os0 h0 => by
  obtain ⟨os, h1, R⟩ := H os0 h0
  exact ⟨os, h1, RunR.of (exOf_fine ec) ((RunE.loop_out (exOf_fine ec) hn R).upto hf) ht hm⟩
theorem zip_ren (σ : Nat → Nat) : ∀ (ts : List Nat) (vs : List AV), ts.zip ((AV.rens σ vs).map some) = (ts.zip (vs.map some)).map fun p => (p.1, p.2.map (AV.ren σ))
  | [], _ => by rw [List.zip_nil_left, List.zip_nil_left]; rfl
  | _ :: _, [] => rfl
  | t :: ts, v :: vs => by
    show (t, some (v.ren σ)) :: ts.zip ((AV.rens σ vs).map some) = (t, some (v.ren σ)) :: _
    rw [zip_ren σ ts vs]
    rfl
/-- a round, behind which blocks get other names -/
theorem LoopR.more {b : Code} {n fuel nt lim m nx nx1 n2 nx2 ec top : Nat} {bl0 bl1 bl2 bl3 : List (Nat × Blk)} {ts0 bs ts : List Nat} {vs0 vs1 vs2 vs : List AV} (σ : Nat → Nat) (hf : n ≤ fuel) (H : ∀ os0 : Nat → Option AV, (∀ t, flatB (os0 t) = true) → ∃ os : Nat → Option AV, (∀ t, flatB (os t) = true) ∧ RunE P n b nt lim (mkFr nt (std ts0 vs0 bs os0)) (mkH .e bl0) nx (exOf 0) (mkFr nt (std ts0 vs1 bs os)) (mkH .e bl1) nx1)
    (ht : nx1 ≤ top) (hm : m ≤ nx) (h1000 : 1000 ≤ m) (hm2 : m ≤ n2) (hσ : ∀ id, id < m → σ id = id) (hi : ∀ i j, i < n2 → j < n2 → σ i = σ j → i = j) (hlim : ∀ i, lim ≤ i → i < n2 → lim ≤ σ i) (hv : AV.rens σ vs2 = vs1) (hu : AV.unds n2 vs2 = true) (hh : ∀ id b, (mkH .e bl2).get id = some b → (mkH .e bl1).get (σ id) = some (b.ren σ) ∧ id < n2 ∧ b.und n2 = true)
    (K : LoopR P b fuel nt lim m bl2 n2 ec ts0 vs2 bs ts vs bl3 nx2 top) : LoopR P b (fuel + 1) nt lim m bl0 nx ec ts0 vs0 bs ts vs bl3 nx2 top := fun os0 h0 => by
  obtain ⟨os, h1, R⟩ := H os0 h0
  obtain ⟨os', h2, S⟩ := K os h1
  have e : std ts0 vs1 bs os = (std ts0 vs2 bs os).map fun p => (p.1, p.2.map (AV.ren σ)) := by
    unfold std
    rw [List.map_append, List.map_map]
    refine congr (congrArg _ ?_) ?_
    · rw [← hv]
      exact zip_ren σ ts0 vs2
    · refine List.map_congr_left fun t _ => ?_
      show (t, os t) = (t, (os t).map (AV.ren σ))
      have := h1 t
      cases ho : os t with
      | none => rfl
      | some a =>
        rw [ho] at this
        cases a <;> first | rfl | cases this | skip
        rename_i l
        cases l with
        | nil => rfl
        | cons _ _ => cases this
  rw [e] at R
  exact ⟨os', h2, RunR.more (RunR.ren σ (RunR.of rfl (R.upto hf) ht hm) h1000 hm2 hσ hi hlim (undF_std hu h1) hh) S⟩
/-- all rounds, where nothing is told of these blocks behind them -/
theorem LoopR.to {b : Code} {fuel nt lim m nx nx1 ec top : Nat} {bl0 bl1 bl2 : List (Nat × Blk)} {ts0 bs ts : List Nat} {vs0 vs : List AV} (K : LoopR P b fuel nt lim m bl0 nx ec ts0 vs0 bs ts vs bl1 nx1 top) (hm : m ≤ nx) (hu : AV.unds m vs = true) (hsub : ∀ id b, (mkH .e bl2).get id = some b → (mkH .e bl1).get id = some b ∧ id < m ∧ b.und m = true) (hk : Keeps lim (mkH .e bl0) nx (mkH .e bl2) top) : LoopQ P b fuel nt lim bl0 nx ec ts0 vs0 bs ts vs bl2 top := fun os0 h0 => by
  obtain ⟨os, h1, R⟩ := K os0 h0
  exact ⟨os, h1, RunR.to (exOf_fine ec) R hm (undF_std hu h1) hsub hk⟩
/-- .. where blocks have come -/
noncomputable def finN (ec nt n : Nat) (ts bs : List Nat) (hs : List HS) : KE := fun e fr h nx => match exB ec e && (Nat.beq nx n && (okFr nt n ts bs fr && hs.all fun x => (cellsH h x).isSome)) with
  | true => bsK bs fr (.ok (.tu (ts.map (fun t => (fr.get t).getD (.tu [])) ++ hs.map fun x => .ag ((cellsH h x).getD []))))
  | false => .err 90 0
theorem segN {rec : Job} {n nt lim nx nx1 ec : Nat} {c : Code} {keys ts0 ts bs : List Nat} {vs0 vs : List AV} {os0 : Nat → Option AV} {gl bl0 : List (Nat × Blk)} {hs : List HS} {cs : List (List AV)} (J : JobOK P n rec) (B : Bs lim nx gl) (ho : ∀ t, flatB (os0 t) = true)
    (hk : rec nt lim c (tellF keys (mkFr nt (std ts0 vs0 bs os0))) (mkH (mkH .e gl) bl0) nx (finN ec nt nx1 ts bs hs) = .ok (.tu (vs ++ cs.map .ag))) (hlen : vs.length = ts.length)
    (hkeys : (keys.all fun k => Nat.ble nt k) = true) (hbl : ∀ x ∈ bl0, lim ≤ x.1 ∧ x.1 < nx) (hlow : ∀ x ∈ hs, lim ≤ x.1) :
    ∃ os : Nat → Option AV, (∀ t, flatB (os t) = true) ∧ RunE P n c nt lim (mkFr nt (std ts0 vs0 bs os0)) (mkH .e (bl0 ++ gl)) nx (exOf ec) (mkFr nt (std ts vs bs os)) (mkH .e (newH hs cs ++ gl)) nx1 := by
  rw [← mkH_app, ← mkH_app]
  have hg : ∀ id b, (mkH .e gl).get id = some b → (id, b) ∈ gl := fun id b hb => by
    rcases mkH_get (base := .e) (id := id) (l := gl) with ⟨b', h1, h2⟩ | ⟨_, h2⟩
    · rw [hb] at h2; cases h2; exact h1
    · rw [hb] at h2; cases (Tr.get_e id).symm.trans h2.symm
  have hT : Top lim (mkH (mkH .e gl) bl0) nx := ⟨B.le, fun j hj => by
    rcases mkH_get (base := mkH .e gl) (id := j) (l := bl0) with ⟨b', h1, h2⟩ | ⟨_, h2⟩
    · have := (hbl _ h1).2
      simp only at this
      omega
    · rw [h2]
      cases hgj : (mkH .e gl).get j with
      | none => rfl
      | some b => have := B.low _ (hg j b hgj); have := B.le; simp only at *; omega⟩
  obtain ⟨e, fr1, h1, n1, hk1, R⟩ := J nt lim c _ _ _ _ _ hT hk
  unfold finN at hk1
  split at hk1
  case h_2 => cases hk1
  rename_i hc
  simp only [Bool.and_eq_true] at hc
  obtain ⟨c1, c0, c2, c3⟩ := hc
  obtain ⟨hk1, d2⟩ := bsK_ok hk1
  have he := exB_ok c1
  subst he
  have c0 := beq_iff.1 c0
  subst c0
  unfold okFr at c2
  simp only [Bool.and_eq_true] at c2
  obtain ⟨d1, d3⟩ := c2
  have inj : ts.map (fun t => (fr1.get t).getD (.tu [])) ++ hs.map (fun x => AV.ag ((cellsH h1 x).getD [])) = vs ++ cs.map .ag := by
    have := hk1
    simp only [Out.ok.injEq, AV.tu.injEq] at this
    exact this
  obtain ⟨i1, i2⟩ := List.append_inj inj (by rw [List.length_map, hlen])
  have R := (R.told (fun k hk => ble_iff.1 (List.all_eq_true.1 hkeys k hk)) (exOf_fine ec)).ok (exOf_fine ec)
  have hts : ∀ t v, (t, some v) ∈ ts.zip (vs.map some) → fr1.get t = some v := fun t v hm => by
    have e1 : vs.map some = ts.map fun t => some ((fr1.get t).getD (.tu [])) := by rw [← i1, List.map_map]; rfl
    have e2 := map_zip _ e1 hm
    have := List.all_eq_true.1 d1 t (List.of_mem_zip hm).1
    cases hg : fr1.get t with
    | none => rw [hg] at this; cases this
    | some a =>
      rw [hg] at this e2
      cases e2
      rfl
  refine ⟨fun t => if memN bs t = true then fr1.get t else none, fun t => ?_, ?_⟩
  · by_cases hb : memN bs t = true
    · simp only [if_pos hb]; exact List.all_eq_true.1 d2 t (memN_iff.1 hb)
    · simp only [if_neg hb]; rfl
  have hlist : ∀ t o, (t, o) ∈ std ts vs bs (fun t => if memN bs t = true then fr1.get t else none) → fr1.get t = o := fun t o hm => by
    rcases List.mem_append.1 hm with hm | hm
    · obtain ⟨v, hv⟩ : ∃ v, o = some v := by
        obtain ⟨v, _, h2⟩ := List.mem_map.1 (List.of_mem_zip hm).2
        exact ⟨v, h2.symm⟩
      subst hv
      exact hts t v hm
    · obtain ⟨t', h1, h2⟩ := List.mem_map.1 hm
      cases h2
      exact (if_pos (memN_iff.2 h1)).symm
  have hcell : ∀ x c, (x, c) ∈ hs.zip cs → h1.get x.1 = some (.c c x.2.1 x.2.2.1 x.2.2.2) := fun x c hm => by
    have e1 : cs = hs.map fun x => (cellsH h1 x).getD [] := by
      have : (cs.map AV.ag) = (hs.map fun x => (cellsH h1 x).getD []).map AV.ag := by rw [← i2, List.map_map]; rfl
      exact map_ag this
    have e2 := map_zip _ e1 hm
    have := List.all_eq_true.1 c3 x (List.of_mem_zip hm).1
    cases hg : cellsH h1 x with
    | none => rw [hg] at this; cases this
    | some a => rw [hg] at e2; rw [cellsH_ok hg, e2]; rfl
  have base0 : ∀ j, j < lim → (mkH (mkH .e gl) bl0).get j = (mkH .e gl).get j := fun j hj => by
    rcases mkH_get (base := mkH .e gl) (id := j) (l := bl0) with ⟨b2, p1, _⟩ | ⟨_, p2⟩
    · have := (hbl _ p1).1
      simp only at this
      omega
    · exact p2
  have base1 : ∀ j, j < lim → (mkH (mkH .e gl) (newH hs cs)).get j = (mkH .e gl).get j := fun j hj => by
    rcases mkH_get (base := mkH .e gl) (id := j) (l := newH hs cs) with ⟨b2, p1, _⟩ | ⟨_, p2⟩
    · obtain ⟨x, c, z1, z2, _⟩ := newH_mem p1
      have := hlow x (List.of_mem_zip z1).1
      omega
    · exact p2
  have sub : ∀ id b, (mkH (mkH .e gl) (newH hs cs)).get id = some b → h1.get id = some b := fun id b hb => by
    rcases mkH_get (base := mkH .e gl) (id := id) (l := newH hs cs) with ⟨b', m1, m2⟩ | ⟨m1, m2⟩
    · rw [hb] at m2
      cases m2
      obtain ⟨x, c, z1, z2, z3⟩ := newH_mem m1
      subst z2 z3
      exact hcell x c z1
    · rw [m2] at hb
      have hid := B.low _ (hg id b hb)
      rw [R.1.old id hid, base0 id hid]
      exact hb
  refine RunE.of (exOf_fine ec) ⟨⟨R.1.le, fun j hj => by rw [base1 j hj, base0 j hj], fun j hj hk => ?_, fun j b hb hr => R.1.ro j b (sub j b hb) hr⟩, fun p r w act D H hf hfr N hN => R.2 p r w act D H hf hfr N fun act' w' ⟨r', x1, f1, H1, k1⟩ => hN act' w' ⟨r', x1, f1.weaken hlist (fun t ht hno => ?_), H1.part sub, k1⟩⟩
  · cases hm : (mkH (mkH .e gl) (newH hs cs)).get j with
    | none => rfl
    | some b => have := sub j b hm; rw [R.1.out j hj hk] at this; cases this
  · have := List.all_eq_true.1 d3 t (List.mem_range.2 ht)
    simp only [Bool.or_eq_true] at this
    rcases this with h | h | h
    · obtain ⟨v, hv⟩ := zip_mem_left (m := vs.map some) (by rw [List.length_map, hlen]) (memN_iff.1 h)
      exact absurd (List.mem_append_left _ hv) (hno _)
    · exact absurd (List.mem_append_right _ (List.mem_map.2 ⟨t, memN_iff.1 h, rfl⟩)) (hno _)
    · exact h
/-- a round, behind which all blocks have their names -/
theorem LoopR.on {b : Code} {n fuel nt lim m nx nx1 nx2 ec top : Nat} {bl0 bl1 bl3 : List (Nat × Blk)} {ts0 bs ts : List Nat} {vs0 vs1 vs : List AV} (hf : n ≤ fuel) (H : ∀ os0 : Nat → Option AV, (∀ t, flatB (os0 t) = true) → ∃ os : Nat → Option AV, (∀ t, flatB (os t) = true) ∧ RunE P n b nt lim (mkFr nt (std ts0 vs0 bs os0)) (mkH .e bl0) nx (exOf 0) (mkFr nt (std ts0 vs1 bs os)) (mkH .e bl1) nx1)
    (ht : nx1 ≤ top) (hm : m ≤ nx) (K : LoopR P b fuel nt lim m bl1 nx1 ec ts0 vs1 bs ts vs bl3 nx2 top) : LoopR P b (fuel + 1) nt lim m bl0 nx ec ts0 vs0 bs ts vs bl3 nx2 top := fun os0 h0 => by
  obtain ⟨os, h1, R⟩ := H os0 h0
  obtain ⟨os', h2, S⟩ := K os h1
  exact ⟨os', h2, RunR.more (RunR.of rfl (R.upto hf) ht hm) S⟩
def upOne (m : Nat) : Nat → Nat := fun id => if id = m then m + 1 else id
theorem gl_mem {gl : List (Nat × Blk)} {id : Nat} {b : Blk} (hb : (mkH .e gl).get id = some b) : (id, b) ∈ gl := by
  rcases mkH_get (base := .e) (id := id) (l := gl) with ⟨b', h1, h2⟩ | ⟨_, h2⟩
  · rw [hb] at h2; cases h2; exact h1
  · rw [hb] at h2; cases (Tr.get_e id).symm.trans h2.symm
theorem ren_one {gl : List (Nat × Blk)} {m : Nat} {b0 : Blk} (B : ∀ x ∈ gl, x.1 < m ∧ x.2.ren (upOne m) = x.2 ∧ x.2.und (m + 1) = true) (h0 : b0.ren (upOne m) = b0) (hu0 : b0.und (m + 1) = true) : ∀ id b, (mkH .e ([(m, b0)] ++ gl)).get id = some b → (mkH .e ([(m + 1, b0)] ++ gl)).get (upOne m id) = some (b.ren (upOne m)) ∧ id < m + 1 ∧ b.und (m + 1) = true := fun id b hb => by
  rw [show mkH .e ([(m, b0)] ++ gl) = (mkH .e gl).set m (some b0) from rfl, Tr.get_set] at hb
  rw [show mkH .e ([(m + 1, b0)] ++ gl) = (mkH .e gl).set (m + 1) (some b0) from rfl, Tr.get_set]
  by_cases h : id = m
  · rw [if_pos h] at hb
    cases hb
    subst h
    unfold upOne
    rw [if_pos rfl, if_pos rfl]
    exact ⟨congrArg some h0.symm, by omega, hu0⟩
  · rw [if_neg h] at hb
    obtain ⟨q1, q2, q3⟩ := B _ (gl_mem hb)
    simp only at q1 q2 q3
    rw [show upOne m id = id from if_neg h, if_neg (by omega), q2]
    exact ⟨hb, by omega, q3⟩
theorem drop_one {gl : List (Nat × Blk)} {m : Nat} {b0 : Blk} (B : ∀ x ∈ gl, x.1 < m ∧ x.2.und m = true) (id : Nat) (b : Blk) (hb : (mkH .e ([] ++ gl)).get id = some b) : (mkH .e ([(m, b0)] ++ gl)).get id = some b ∧ id < m ∧ b.und m = true := by
  obtain ⟨q1, q3⟩ := B _ (gl_mem hb)
  simp only at q1 q3
  rw [show mkH .e ([(m, b0)] ++ gl) = (mkH .e gl).set m (some b0) from rfl, Tr.get_set, if_neg (by omega)]
  exact ⟨hb, q1, q3⟩
theorem keep_one {gl : List (Nat × Blk)} {m nx top : Nat} {b0 : Blk} (B : ∀ x ∈ gl, x.1 < m ∧ x.2.und m = true) (h : nx ≤ top) : Keeps m (mkH .e ([(m, b0)] ++ gl)) nx (mkH .e ([] ++ gl)) top := by
  have e : ∀ j, (mkH .e ([(m, b0)] ++ gl)).get j = if j = m then some b0 else (mkH .e gl).get j := fun j => by
    rw [show mkH .e ([(m, b0)] ++ gl) = (mkH .e gl).set m (some b0) from rfl, Tr.get_set]
  refine ⟨h, fun j hj => ?_, fun j hj _ => ?_, fun j b hb _ => (drop_one B j b hb).1⟩
  · rw [e, if_neg (by omega)]; rfl
  · rw [e] at hj
    split at hj
    · cases hj
    · exact hj
end Clu
end Go.Proofs.Ythghohgjedjpbaa
