/-
  Runs at whatever arguments: what a part's run says; loops that stand for their runs.
-/
import Derived.Test.YthghohgjedjpbaaCluS2
namespace Go.Proofs.Ythghohgjedjpbaa
namespace Clu
open Go.RowKit
set_option linter.unusedVariables false
variable {P : Program}
theorem flatB_und {n : Nat} {a : AV} (h : flatB (some a) = true) : a.und n = true := by
  cases a with
  | b x => rfl
  | jk => rfl
  | tu l => cases l with
    | nil => rfl
    | cons _ _ => cases h
  | _ => cases h
theorem map_ag : ∀ {l m : List (List AV)}, l.map AV.ag = m.map AV.ag → l = m
  | [], [], _ => rfl
  | a :: l, b :: m, h => by
    simp only [List.map_cons, List.cons.injEq, AV.ag.injEq] at h
    rw [h.1, map_ag h.2]
  | [], _ :: _, h => by simp at h
  | _ :: _, [], h => by simp at h
theorem mem_ids {l : List (Nat × Blk)} {id : Nat} (h : id ∈ l.map (·.1)) : ∃ b, (id, b) ∈ l := by
  obtain ⟨p, h1, h2⟩ := List.mem_map.1 h
  exact ⟨p.2, by subst h2; exact h1⟩
/-- what a part's run says -/
theorem seg {rec : Job} {n nt lim nx ec : Nat} {c : Code} {l0 : List (Nat × Option AV)} {keys ts bs : List Nat} {hs : List HS} {base : T} {bl0 : List (Nat × Blk)} {vs : List AV} {cs : List (List AV)} (J : JobOK P n rec)
    (hk : rec nt lim c (tellF keys (mkFr nt l0)) (mkH base bl0) nx (finK ec nt nx ts bs hs) = .ok (.tu (vs ++ cs.map .ag))) (hlen : vs.length = ts.length) (hkeys : ∀ k ∈ keys, nt ≤ k) (hT : Top lim (mkH base bl0) nx) (h1000 : 1000 ≤ nx)
    (hu0 : undF nx l0) (hH : HU nx (mkH base bl0)) (hids : hs.map (·.1) = bl0.map (·.1)) (hbase : ∀ id b, base.get id = some b → id < lim) (hlow : ∀ x ∈ hs, lim ≤ x.1) (hro : ∀ p ∈ newH hs cs, p.2.ro = false) (huc : ∀ c ∈ cs, AV.unds nx c = true) :
    ∃ os : Nat → Option AV, (∀ t, flatB (os t) = true) ∧ RunE P n c nt lim (mkFr nt l0) (mkH base bl0) nx (exOf ec) (mkFr nt (ts.zip (vs.map some) ++ bs.map fun t => (t, os t))) (mkH base (newH hs cs)) nx := by
  obtain ⟨e, fr1, h1, n1, hk1, R⟩ := J nt lim c _ _ _ _ _ hT hk
  unfold finK at hk1
  split at hk1
  case h_2 => cases hk1
  rename_i hc
  simp only [Bool.and_eq_true] at hc
  obtain ⟨c1, c2, c3⟩ := hc
  obtain ⟨hk1, d2⟩ := bsK_ok hk1
  have he := exB_ok c1
  subst he
  unfold okFr at c2
  simp only [Bool.and_eq_true] at c2
  obtain ⟨d1, d3⟩ := c2
  have inj : ts.map (fun t => (fr1.get t).getD (.tu [])) ++ hs.map (fun x => AV.ag ((cellsH h1 x).getD [])) = vs ++ cs.map .ag := by
    have := hk1
    simp only [Out.ok.injEq, AV.tu.injEq] at this
    exact this
  obtain ⟨i1, i2⟩ := List.append_inj inj (by rw [List.length_map, hlen])
  have R := R.told hkeys (exOf_fine ec)
  have hts : ∀ t v, (t, some v) ∈ ts.zip (vs.map some) → fr1.get t = some v ∧ v.und nx = true := fun t v hm => by
    have e1 : vs.map some = ts.map fun t => some ((fr1.get t).getD (.tu [])) := by rw [← i1, List.map_map]; rfl
    have e2 := map_zip _ e1 hm
    have hmem : t ∈ ts := (List.of_mem_zip hm).1
    have := List.all_eq_true.1 d1 t hmem
    cases hg : fr1.get t with
    | none => rw [hg] at this; cases this
    | some a =>
      rw [hg] at this e2
      cases e2
      exact ⟨rfl, this⟩
  refine ⟨fun t => if memN bs t = true then fr1.get t else none, fun t => ?_, ?_⟩
  · by_cases hb : memN bs t = true
    · simp only [if_pos hb]; exact List.all_eq_true.1 d2 t (memN_iff.1 hb)
    · simp only [if_neg hb]; rfl
  have hos : ∀ t ∈ bs, (if memN bs t = true then fr1.get t else none) = fr1.get t := fun t ht => if_pos (memN_iff.2 ht)
  have hlist : ∀ t o, (t, o) ∈ ts.zip (vs.map some) ++ bs.map (fun t => (t, if memN bs t = true then fr1.get t else none)) → fr1.get t = o ∧ ∀ a, o = some a → a.und nx = true := fun t o hm => by
    rcases List.mem_append.1 hm with hm | hm
    · obtain ⟨v, hv⟩ : ∃ v, o = some v := by
        obtain ⟨v, _, h2⟩ := List.mem_map.1 (List.of_mem_zip hm).2
        exact ⟨v, h2.symm⟩
      subst hv
      obtain ⟨h1, h2⟩ := hts t v hm
      exact ⟨h1, fun a ha => by cases ha; exact h2⟩
    · obtain ⟨t', h1, h2⟩ := List.mem_map.1 hm
      cases h2
      rw [hos t h1]
      refine ⟨rfl, fun a ha => ?_⟩
      have := List.all_eq_true.1 d2 t h1
      rw [ha] at this
      exact flatB_und this
  have same : ∀ id, id < lim → (∀ b, (id, b) ∉ bl0) := fun id hid b hb => by
    have : id ∈ hs.map (·.1) := by rw [hids]; exact List.mem_map.2 ⟨(id, b), hb, rfl⟩
    obtain ⟨x, h1, h2⟩ := List.mem_map.1 this
    have := hlow x h1
    omega
  have hcl : hs.length = cs.length := by
    have := congrArg List.length i2
    simpa using this
  have hcell : ∀ x c, (x, c) ∈ hs.zip cs → h1.get x.1 = some (.c c x.2.1 x.2.2.1 x.2.2.2) := fun x c hm => by
    have hx : x ∈ hs := (List.of_mem_zip hm).1
    have e1 : cs = hs.map fun x => (cellsH h1 x).getD [] := by
      have : (cs.map AV.ag) = (hs.map fun x => (cellsH h1 x).getD []).map AV.ag := by rw [← i2, List.map_map]; rfl
      exact map_ag this
    have e2 := map_zip _ e1 hm
    have := List.all_eq_true.1 c3 x hx
    cases hg : cellsH h1 x with
    | none => rw [hg] at this; cases this
    | some a => rw [hg] at e2; rw [cellsH_ok hg, e2]; rfl
  have keep := (R.ok (exOf_fine ec)).1
  have bnd : ∀ id b, (mkH base (newH hs cs)).get id = some b → h1.get id = some b ∧ id < nx ∧ b.und nx = true ∧ (b.ro = true → (mkH base bl0).get id = some b) := fun id b hb => by
    rcases mkH_get (base := base) (id := id) (l := newH hs cs) with ⟨b', m1, m2⟩ | ⟨m1, m2⟩
    · rw [hb] at m2
      cases m2
      obtain ⟨x, c, z1, z2, z3⟩ := newH_mem m1
      subst z2 z3
      refine ⟨hcell x c z1, ?_, huc c (List.of_mem_zip z1).2, fun hr => ?_⟩
      · have : x.1 ∈ bl0.map (·.1) := by rw [← hids]; exact List.mem_map.2 ⟨x, (List.of_mem_zip z1).1, rfl⟩
        obtain ⟨b0, q⟩ := mem_ids this
        rcases mkH_get (base := base) (id := x.1) (l := bl0) with ⟨b2, _, p2⟩ | ⟨p1, _⟩
        · exact (hH _ _ p2).1
        · exact absurd q (p1 _)
      · have := hro _ m1
        rw [this] at hr
        cases hr
    · rw [m2] at hb
      have hid := hbase id b hb
      have e : (mkH base bl0).get id = some b := by
        rcases mkH_get (base := base) (id := id) (l := bl0) with ⟨b2, p1, _⟩ | ⟨_, p2⟩
        · exact absurd p1 (same id hid b2)
        · rw [p2]; exact hb
      exact ⟨by rw [keep.old id hid]; exact e, (hH id b e).1, (hH id b e).2, fun _ => e⟩
  refine RunE.of (exOf_fine ec) (RunOK.drop (R.ok (exOf_fine ec)) hu0 hH h1000 (fun t o hm => (hlist t o hm).1) (fun t ht hno => ?_) (fun t a hm => (hlist t _ hm).2 a rfl) (fun id b hb => ⟨(bnd id b hb).1, (bnd id b hb).2.1, (bnd id b hb).2.2.1⟩) ⟨Nat.le_refl _, fun j hj => ?_, fun j hj _ => ?_, fun j b hb hr => (bnd j b hb).2.2.2 hr⟩)
  · have := List.all_eq_true.1 d3 t (List.mem_range.2 ht)
    simp only [Bool.or_eq_true] at this
    rcases this with h | h | h
    · obtain ⟨v, hv⟩ := zip_mem_left (m := vs.map some) (by rw [List.length_map, hlen]) (memN_iff.1 h)
      exact absurd (List.mem_append_left _ hv) (hno _)
    · exact absurd (List.mem_append_right _ (List.mem_map.2 ⟨t, memN_iff.1 h, rfl⟩)) (hno _)
    · exact h
  · have e2 : (mkH base (newH hs cs)).get j = base.get j := by
      rcases mkH_get (base := base) (id := j) (l := newH hs cs) with ⟨b2, p1, _⟩ | ⟨_, p2⟩
      · obtain ⟨x, c, z1, z2, _⟩ := newH_mem p1
        have := hlow x (List.of_mem_zip z1).1
        omega
      · exact p2
    have e1 : (mkH base bl0).get j = base.get j := by
      rcases mkH_get (base := base) (id := j) (l := bl0) with ⟨b2, p1, _⟩ | ⟨_, p2⟩
      · exact absurd p1 (same j hj b2)
      · exact p2
    rw [e1, e2]
  · rcases mkH_get (base := base) (id := j) (l := newH hs cs) with ⟨b2, p1, _⟩ | ⟨_, p2⟩
    · obtain ⟨x, c, z1, z2, _⟩ := newH_mem p1
      have : j ∈ bl0.map (·.1) := by rw [← hids]; exact List.mem_map.2 ⟨x, (List.of_mem_zip z1).1, z2.symm⟩
      obtain ⟨b0, q⟩ := mem_ids this
      rcases mkH_get (base := base) (id := j) (l := bl0) with ⟨b3, _, p3⟩ | ⟨p3, _⟩
      · rw [hj] at p3; cases p3
      · exact absurd q (p3 _)
    · rcases mkH_get (base := base) (id := j) (l := bl0) with ⟨b3, _, p3⟩ | ⟨_, p3⟩
      · rw [hj] at p3; cases p3
      · rw [p2, ← p3]; exact hj
/-! loops that stand for their runs -/
abbrev LT := Nat → Nat → Nat → Fr → T → Nat → KE → Out
noncomputable def evL (L : Code → Option LT) (P : Program) (X : XT) (n : Nat) : Job := Nat.rec (motive := fun _ => Job) (fun _ _ _ _ _ _ _ => .err 64 0) (fun n ih nt lim c fr h nx k => Option.rec (motive := fun _ => Out) (evB P X ih nt lim c fr h nx k) (fun g => g (Nat.succ n) nt lim fr h nx k) (L c)) n
def LOK (P : Program) (L : Code → Option LT) : Prop := ∀ c g, L c = some g → ∀ n nt lim fr h nx (k : KE) v, Top lim h nx → g n nt lim fr h nx k = .ok v → ∃ e fr' h' nx', k e fr' h' nx' = .ok v ∧ RunE P n c nt lim fr h nx e fr' h' nx'
theorem evL_ok {L : Code → Option LT} {X : XT} (hp : Plain P) (hX : XOK P X) (hdr : DrOK P) (hL : LOK P L) : ∀ n, JobOK P n (evL L P X n)
  | 0 => fun nt lim c fr h nx k v hl hk => by cases hk
  | n + 1 => fun nt lim c fr h nx k v hl hk => by
    have hk' : @Option.rec LT (fun _ => Out) (evB P X (evL L P X n) nt lim c fr h nx k) (fun g => g (n + 1) nt lim fr h nx k) (L c) = .ok v := hk
    cases hc : L c with
    | none => rw [hc] at hk'; exact evB_ok hp hX hdr (evL_ok hp hX hdr hL n) nt lim c fr h nx k v hl hk'
    | some g => rw [hc] at hk'; exact hL c g hc (n + 1) nt lim fr h nx k v hl hk'
/-- the first region's number: a loop is told by it -/
def rid : Code → Nat
  | .region i _ _ => i
  | .seq a _ => rid a
  | .block _ c => rid c
  | .loop c => rid c
  | .scope c => rid c
  | _ => 0
/-- the loops of a body, in its row -/
def loopsOf : Code → List Code
  | .seq a b => loopsOf a ++ loopsOf b
  | .cond _ a b => loopsOf a ++ loopsOf b
  | .block _ c => loopsOf c
  | .loop c => c :: loopsOf c
  | .scope c => loopsOf c
  | _ => []
def loopNo (f : Func) (i : Nat) : Code := match f.body with
  | some c => (match (loopsOf c)[i]? with
    | some b => b
    | none => .skip)
  | none => .skip
open Classical in
/-- where a loop's body is that one -/
noncomputable def gate (p : Prop) (g : LT) : LT := fun n nt lim fr h nx k => if p then g n nt lim fr h nx k else .err 91 0
noncomputable def noL : Code → Option LT := fun _ => none
theorem noL_ok : LOK P noL := fun c g h => by cases h
noncomputable def addL (L : Code → Option LT) (b0 : Code) (i : Nat) (g : LT) : Code → Option LT := fun c => match c with
  | .loop b => (match Nat.beq (rid b) i with
    | true => some (gate (b = b0) g)
    | false => L (.loop b))
  | c => L c
/-- what stands for one loop -/
def LoopOK (P : Program) (b : Code) (g : LT) : Prop := ∀ n nt lim fr h nx (k : KE) v, Top lim h nx → g n nt lim fr h nx k = .ok v → ∃ e fr' h' nx', k e fr' h' nx' = .ok v ∧ RunE P n (.loop b) nt lim fr h nx e fr' h' nx'
theorem addL_ok {L : Code → Option LT} {b0 : Code} {i : Nat} {g : LT} (hL : LOK P L) (hg : LoopOK P b0 g) : LOK P (addL L b0 i g) := fun c g' hc => by
  unfold addL at hc
  split at hc
  · rename_i b
    split at hc
    · cases hc
      intro n nt lim fr h nx k v hl hk
      unfold gate at hk
      split at hk
      · rename_i hb
        subst hb
        exact hg n nt lim fr h nx k v hl hk
      · cases hk
    · exact hL _ _ hc
  · exact hL _ _ hc
/-- a call, its loops standing for their runs -/
noncomputable def runL (L : Code → Option LT) (P : Program) (X : XT) (n lim : Nat) (f : FuncId) (args : List AV) (h : T) (nx : Nat) : Out := enterK P X (evL L P X n) lim f args h nx fun v _ _ => .ok v
theorem runL_from {L : Code → Option LT} {X : XT} (hp : Plain P) (hX : XOK P X) (hdr : DrOK P) (hL : LOK P L) {n lim : Nat} {f : FuncId} {args : List AV} {h : T} {nx : Nat} {a : AV} (hk : runL L P X n lim f args h nx = .ok a) (ha : ∀ x, a ≠ .pa x) (hl : Top lim h nx)
    {p : Nat → Prop} {r : Rn} {w : World} {xs : List Value} (H : HR p lim r h.get w) (hf : ∀ id, nx ≤ id → r id = none) (hx : VRs r args xs) :
    CallSem P f xs w (fun z w' => (∃ r', VR r' a z) ∧ Kp p w w') noP := by
  obtain ⟨a', h', nx', hk, hkeep, hs⟩ := enterK_ok hp hX (evL_ok hp hX hdr hL n) lim f args h nx _ _ hl hk
  cases hk
  exact (hs p r w xs H (fun id h1 h2 => hf id h1) hx).mono (fun z w' ⟨r', x1, x2, x3, x4⟩ => ⟨⟨r', x2⟩, x4⟩) fun c w' hL => (no_pa ha hL).elim
/-- a function of flat values: what it comes to -/
theorem factL {L : Code → Option LT} {X : XT} (hp : Plain P) (hX : XOK P X) (hm : P.follows .mixedOrders = true) (hL : LOK P L) {n : Nat} {f : FuncId} {args : List AV} {a : AV} {l : List (Nat × List AV)} (hk : (layK l .e fun h => runL L P X n 1000 f args h 1000) = .ok a) (h1 : AV.flts args = true) (h2 : a.flt = true) : Fact P f l args a :=
  ⟨h1, h2, fun w hl xs hx => by
    obtain ⟨h, hk, hh⟩ := layK_ok hk
    have hh' : ∀ j b, h.get j = some b → ∃ cs, (j, cs) ∈ l ∧ b = .c cs cs.length 0 none := fun j b hj => (hh j b hj).resolve_left fun h1 => by cases (Tr.get_e j).symm.trans h1
    refine (runL_from hp hX (drK_ok hm) hL hk (fun x hx => by rw [hx] at h2; cases h2) ⟨Nat.le_refl _, fun j hj => ?_⟩ (HR.laid hl hh') (fun id h1 => if_neg (by omega)) hx).mono (fun z w' ⟨⟨r', q1⟩, q2⟩ => ⟨VR.flt _ _ h2 q1, q2.below⟩) fun _ _ h => h
    cases hg : h.get j with
    | none => rfl
    | some b =>
      obtain ⟨cs, h1, _⟩ := hh' j b hg
      have := (hl j cs h1).1
      omega⟩
open Classical in
/-- a function of flat values stands for its runs -/
noncomputable def pureH (lays : List (Nat × List AV)) (F : List AV → Option AV) (Q : List AV → AV → Prop) : HT := fun _ args h nx k => match laidB lays h, F args with
  | true, some v => if Q args v then k v h nx else .err 92 0
  | _, _ => .err 92 1
theorem pureH_ok {f : FuncId} {lays : List (Nat × List AV)} {F : List AV → Option AV} {Q : List AV → AV → Prop} (hl : ∀ g cs, (g, cs) ∈ lays → g < 1000 ∧ 0 < cs.length ∧ AV.lowsM cs = true) (ht : ∀ l v, F l = some v → Q l v → Fact P f lays l v) : HandOK P f (pureH lays F Q) := fun lim args h nx k v hl0 hk => by
  unfold pureH at hk
  split at hk
  · rename_i a hb hlook
    split at hk
    · rename_i hq
      obtain ⟨t1, t2, t3⟩ := ht _ _ hlook hq
      refine ⟨_, _, _, hk, Keeps.refl _ _ _, fun p r w xs H hf hx => ?_⟩
      refine (t3 w (fun g cs hm => ?_) xs (VRs.flt _ _ t1 hx)).mono (fun z w' ⟨h1, h2⟩ => left_below H (VR.flt _ _ t2 h1) h2) fun _ _ h => h
      obtain ⟨q1, q2, q3⟩ := hl g cs hm
      refine ⟨q1, q2, fun j a ha => ?_⟩
      have := List.all_eq_true.1 hb (g, cs) hm
      split at this
      · rename_i cs' fz osz pl hg
        have he := eqVs_ok _ _ this
        subst he
        obtain ⟨B, O, K, e1, _, e3, _⟩ := H.blk g _ hg
        rw [H.glob g q1] at e1
        cases e1
        obtain ⟨x, x1, x2⟩ := e3 j a ha
        exact ⟨x, by rw [Nat.zero_add] at x1; exact x1, VR.lowM H.glob a x (lowsM_get q3 ha) x2⟩
      · cases this
    · cases hk
  · cases hk
end Clu
end Go.Proofs.Ythghohgjedjpbaa
