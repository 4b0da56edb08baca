/-
  Runs at whatever arguments: calls that write the block that they are handed stand for their runs.
-/
import Derived.Test.YthghohgjedjpbaaCluF2
namespace Go.Proofs.Ythghohgjedjpbaa
namespace Clu
open Go.RowKit
set_option linter.unusedVariables false
variable {P : Program}
mutual
theorem ren_flt {σ : Nat → Nat} : ∀ {a : AV}, a.flt = true → a.ren σ = a
  | .b _, _ | .i _ _, _ | .s _ _, _ | .pn, _ | .sn, _ | .ni, _ | .nf, _ | .mn, _ => rfl
  | .ag l, h => by rw [AV.ren, rens_flt (l := l) (by simpa [AV.flt] using h)]
  | .tu l, h => by rw [AV.ren, rens_flt (l := l) (by simpa [AV.flt] using h)]
  | .fa _ a, h => by rw [AV.ren, ren_flt (a := a) (by simpa [AV.flt] using h)]
  | .p _ _, h | .sl _ _ _ _, h | .so _ _ _ _, h | .se, h | .fn _ _ _, h | .mp _, h | .pa _, h | .jk, h => by simp [AV.flt] at h
theorem rens_flt {σ : Nat → Nat} : ∀ {l : List AV}, AV.flts l = true → AV.rens σ l = l
  | [], _ => rfl
  | a :: l, h => by
    simp only [AV.flts, Bool.and_eq_true] at h
    rw [AV.rens, ren_flt h.1, rens_flt h.2]
end
/-- parts of what a run comes to -/
def outL : Out → List AV
  | .ok (.tu l) => l
  | _ => []
def agL : Option AV → List AV
  | some (.ag l) => l
  | _ => []
/-- the j-th cell of the i-th block, as a number -/
noncomputable def outN (o : Out) (i j : Nat) : Nat := iN (getL (agL (getL (outL o) i)) j)
theorem newH_ro {hs : List HS} {cs : List (List AV)} (h : (hs.all fun x => Nat.beq x.2.1 0) = true) : ∀ p ∈ newH hs cs, p.2.ro = false := fun p hp => by
  obtain ⟨x, c, h1, _, h3⟩ := newH_mem (id := p.1) (b := p.2) hp
  rw [h3]
  have := beq_iff.1 (List.all_eq_true.1 h x (List.of_mem_zip h1).1)
  show Nat.blt c.length x.2.1 = false
  rw [this]
  cases c.length <;> rfl
theorem iEq_tmod_t {m b j : Nat} (h : m % b = j) : iEq (Int.tmod (Int.ofNat m) (Int.ofNat b)) (Int.ofNat j) = true := by
  show Nat.beq (m % b) j = true
  rw [h]; exact Nat.beq_refl _
theorem iEq_tmod_f {m b j : Nat} (h : m % b ≠ j) : iEq (Int.tmod (Int.ofNat m) (Int.ofNat b)) (Int.ofNat j) = false := by
  show Nat.beq (m % b) j = false
  cases hb : Nat.beq (m % b) j with
  | false => rfl
  | true => exact absurd (Nat.eq_of_beq_eq_true hb) h
/-- variables that are laid, as blocks -/
def layB (lays : List (Nat × List AV)) : List (Nat × Blk) := lays.map fun x => (x.1, .c x.2 x.2.length 0 none)
theorem layB_mem {lays : List (Nat × List AV)} {id : Nat} {b : Blk} (h : (id, b) ∈ layB lays) : ∃ cs, (id, cs) ∈ lays ∧ b = .c cs cs.length 0 none := by
  obtain ⟨x, h1, h2⟩ := List.mem_map.1 h
  cases h2
  exact ⟨x.2, h1, rfl⟩
theorem layB_bs {lays : List (Nat × List AV)} {lim nx : Nat} (h : (lays.all fun x => Nat.blt x.1 1000 && AV.flts x.2) = true) (h1 : 1000 ≤ lim) (h2 : lim ≤ nx) : Bs lim nx (layB lays) := by
  refine ⟨fun x hx => ?_, h2, fun x hx => ?_⟩
  · obtain ⟨cs, q1, q2⟩ := layB_mem (id := x.1) (b := x.2) hx
    have := List.all_eq_true.1 h _ q1
    simp only [Bool.and_eq_true] at this
    have := blt_iff.1 this.1
    omega
  · obtain ⟨cs, q1, q2⟩ := layB_mem (id := x.1) (b := x.2) hx
    have := List.all_eq_true.1 h _ q1
    simp only [Bool.and_eq_true] at this
    rw [q2]
    exact flts_unds this.2
/-- truths, one by one -/
noncomputable def allB (l : List Bool) (o : Out) : Out := List.rec (motive := fun _ => Out) o (fun b _ ih => Bool.rec (motive := fun _ => Out) (.err 95 4) ih b) l
theorem allB_ok {v : AV} {o : Out} : ∀ {l : List Bool}, allB l o = .ok v → o = .ok v ∧ ∀ b ∈ l, b = true
  | [], h => ⟨h, fun b hb => by cases hb⟩
  | b :: l, h => by
    have h' : @Bool.rec (fun _ => Out) (.err 95 4) (allB l o) b = .ok v := h
    cases b with
    | false => cases h'
    | true =>
      obtain ⟨h1, h2⟩ := allB_ok h'
      refine ⟨h1, fun c hc => ?_⟩
      rcases List.mem_cons.1 hc with rfl | hc
      · rfl
      · exact h2 c hc
/-- a function of flat values, where truths are had, stands for its runs -/
noncomputable def funB (Bd : List AV → List Bool) (F : List AV → Option AV) : HT := fun _ args h nx k => match F args with
  | some v => allB (Bd args) (k v h nx)
  | none => .err 92 1
theorem funB_ok {f : FuncId} {Bd : List AV → List Bool} {F : List AV → Option AV} (ht : ∀ l v, F l = some v → (∀ b ∈ Bd l, b = true) → Fact P f [] l v) : HandOK P f (funB Bd F) := fun lim args h nx k v hl0 hk => by
  unfold funB at hk
  split at hk
  · rename_i a hlook
    obtain ⟨hk, hb⟩ := allB_ok hk
    obtain ⟨t1, t2, t3⟩ := ht _ _ hlook hb
    refine ⟨_, _, _, hk, Keeps.refl _ _ _, fun p r w xs H hf hx => ?_⟩
    exact (t3 w (fun g cs hm => by cases hm) xs (VRs.flt _ _ t1 hx)).mono (fun z w' ⟨h1, h2⟩ => left_below H (VR.flt _ _ t2 h1) h2) fun _ _ h => h
  · cases hk
/-- a call that writes the block that it is handed -/
noncomputable def ptrB (Bd : List AV → List AV → List Bool) (ty : Nat) (lays : List (Nat × List AV)) (F : List AV → List AV → Option (AV × List AV)) : HT := fun lim args h nx k => match args with
  | .p id 0 :: rest => (match h.get id with
    | some (.c cs 0 0 (some t)) => (match Nat.ble lim id && (Nat.ble 1000 id && (Nat.beq t ty && laidB lays h)), F cs rest with
      | true, some (v, cs') => allB (Bd cs rest) (Tr.setK h id (some (.c cs' 0 0 (some t))) fun h => k v h nx)
      | _, _ => .err 95 1)
    | _ => .err 95 2)
  | _ => .err 95 3
def PtrOK (P : Program) (f : FuncId) (ty : Nat) (lays : List (Nat × List AV)) (cs rest : List AV) (v : AV) (cs' : List AV) : Prop :=
  AV.flts rest = true ∧ AV.flts cs = true ∧ AV.flts cs' = true ∧ v.flt = true ∧ Con P f 1000 (.p 1000 0 :: rest) (mkH .e ((1000, .c cs 0 0 (some ty)) :: layB lays)) 1001 v (mkH .e ((1000, .c cs' 0 0 (some ty)) :: layB lays)) 1001
theorem ptrB_ok {f : FuncId} {Bd : List AV → List AV → List Bool} {ty : Nat} {lays : List (Nat × List AV)} {F : List AV → List AV → Option (AV × List AV)} (hl : (lays.all fun x => Nat.blt x.1 1000 && AV.flts x.2) = true) (ht : ∀ cs rest v cs', F cs rest = some (v, cs') → (∀ b ∈ Bd cs rest, b = true) → PtrOK P f ty lays cs rest v cs') : HandOK P f (ptrB Bd ty lays F) := fun lim args h nx k v hT hk => by
  unfold ptrB at hk
  split at hk
  case h_2 => cases hk
  rename_i id rest
  split at hk
  case h_2 => cases hk
  rename_i cs t hg
  split at hk
  case h_2 => cases hk
  rename_i a cs' hc hF
  simp only [Bool.and_eq_true] at hc
  obtain ⟨c1, c2, c3, c4⟩ := hc
  have c1 := ble_iff.1 c1
  have c2 := ble_iff.1 c2
  obtain rfl := beq_iff.1 c3
  obtain ⟨hk, hbd⟩ := allB_ok hk
  obtain ⟨t1, t2, t3, t4, C⟩ := ht _ _ _ _ hF hbd
  obtain ⟨h', hk, e⟩ := Tr.setK_ok hk
  have hid : id < nx := by
    rcases Nat.lt_or_ge id nx with h1 | h1
    · exact h1
    · rw [hT.2 id h1] at hg; cases hg
  have keep : Keeps lim h nx h' nx := by
    refine ⟨Nat.le_refl _, fun j hj => by rw [e, if_neg (by omega)], fun j hj _ => ?_, fun j b hb hr => ?_⟩
    · rw [e, if_neg]
      · exact hj
      · intro h1
        rw [h1, hg] at hj
        cases hj
    · rw [e] at hb
      by_cases hj : j = id
      · rw [if_pos hj] at hb; cases hb; simp [Blk.ro] at hr
      · rw [if_neg hj] at hb; exact hb
  refine ⟨a, h', nx, hk, keep, fun p r w xs H hf hx => ?_⟩
  have cells : ∀ (c : List AV) (i : Nat) (b : Blk), (mkH .e ((1000, .c c 0 0 (some t)) :: layB lays)).get i = some b → (i = 1000 ∧ b = .c c 0 0 (some t)) ∨ (i < 1000 ∧ ∃ d, (i, d) ∈ lays ∧ b = .c d d.length 0 none) := fun c i b hb => by
    have hm : (i, b) ∈ (1000, Blk.c c 0 0 (some t)) :: layB lays := by
      rcases mkH_get (base := .e) (id := i) (l := (1000, Blk.c c 0 0 (some t)) :: layB lays) with ⟨b', h1, h2⟩ | ⟨_, h2⟩
      · rw [hb] at h2; cases h2; exact h1
      · rw [hb] at h2; cases (Tr.get_e i).symm.trans h2.symm
    rcases List.mem_cons.1 hm with h1 | h1
    · cases h1; exact .inl ⟨rfl, rfl⟩
    · obtain ⟨d, q1, q2⟩ := layB_mem h1
      have := List.all_eq_true.1 hl _ q1
      simp only [Bool.and_eq_true] at this
      exact .inr ⟨blt_iff.1 this.1, d, q1, q2⟩
  have at0 : (mkH .e ((1000, .c cs 0 0 (some t)) :: layB lays)).get 1000 = some (.c cs 0 0 (some t)) := by rw [mkH, Tr.get_set, if_pos rfl]
  have at1 : (mkH .e ((1000, .c cs' 0 0 (some t)) :: layB lays)).get 1000 = some (.c cs' 0 0 (some t)) := by rw [mkH, Tr.get_set, if_pos rfl]
  have key := C.emb (σ := fun i => if i = 1000 then id else i) (lim := lim) (NX := nx) (H := h) (H' := h')
    ⟨fun g hg => if_neg (by omega), fun i j hi hj hij => by
      by_cases h1 : i = 1000
      · by_cases h2 : j = 1000
        · omega
        · simp only [if_pos h1, if_neg h2] at hij; omega
      · by_cases h2 : j = 1000
        · simp only [if_pos h2, if_neg h1] at hij; omega
        · simp only [if_neg h1, if_neg h2] at hij; exact hij, fun i hi => by
      show (if i = 1000 then id else i) < nx
      by_cases h1 : i = 1000
      · rw [if_pos h1]; exact hid
      · rw [if_neg h1]; omega, fun j h1 h2 => by omega, fun i b hi hb => by
      rcases cells _ _ _ hb with ⟨rfl, rfl⟩ | ⟨h1, _⟩
      · show h.get (if 1000 = 1000 then id else 1000) = _
        rw [if_pos rfl, hg]
        simp only [Blk.ren, rens_flt t2]
      · omega, fun i b hi hb => (by
      rcases cells _ _ _ hb with ⟨rfl, rfl⟩ | ⟨h1, d, q1, rfl⟩
      · omega
      · have hd := List.all_eq_true.1 hl _ q1
        simp only [Bool.and_eq_true] at hd
        have := List.all_eq_true.1 c4 _ q1
        simp only at this
        split at this
        · rename_i cs2 fz osz pl hg2
          have he := eqVs_ok _ _ this
          subst he
          have hi : (if i = 1000 then id else i) = i := if_neg (by omega)
          simp only [hi]
          refine ⟨_, hg2, fun h => h.elim, fun r w hb => ?_⟩
          simp only [Blk.ren, rens_flt hd.2]
          obtain ⟨B, O, K, e1, e2, e3, _, _, _, _, e4⟩ := hb
          exact ⟨B, O, K, e1, e2, e3, fun j h1 h2 => by omega, fun o h1 h2 => by omega, fun h => absurd rfl h, fun ty h => (by cases h), e4⟩
        · (cases this)), fun i h1 h2 => (by
      show lim ≤ (if i = 1000 then id else i)
      rw [if_pos (by omega)]; exact c1)⟩
    ⟨fun j b hb => by
      rw [e] at hb
      by_cases hj : j = id
      · rw [if_pos hj] at hb
        cases hb
        exact .inl ⟨1000, _, Nat.le_refl _, at1, by rw [if_pos rfl]; exact hj.symm, by simp only [Blk.ren, rens_flt t3]⟩
      · rw [if_neg hj] at hb
        refine .inr ⟨fun i h1 h2 => ?_, hb⟩
        cases hgi : (mkH .e ((1000, .c cs 0 0 (some t)) :: layB lays)).get i with
        | none => rw [hgi] at h2; cases h2
        | some b2 =>
          rcases cells _ _ _ hgi with ⟨rfl, _⟩ | ⟨h3, _⟩
          · rw [if_pos rfl]; exact fun h => hj h.symm
          · omega⟩ hT (by omega) p r w xs H hf (by
      have e1 : AV.rens (fun i => if i = 1000 then id else i) (.p 1000 0 :: rest) = .p id 0 :: rest := by
        rw [AV.rens, rens_flt t1]; rfl
      rw [e1]; exact hx)
  rw [ren_flt t4] at key
  exact key
noncomputable def ptrH (ty : Nat) (lays : List (Nat × List AV)) (F : List AV → List AV → Option (AV × List AV)) : HT := ptrB (fun _ _ => []) ty lays F
theorem ptrH_ok {f : FuncId} {ty : Nat} {lays : List (Nat × List AV)} {F : List AV → List AV → Option (AV × List AV)} (hl : (lays.all fun x => Nat.blt x.1 1000 && AV.flts x.2) = true) (ht : ∀ cs rest v cs', F cs rest = some (v, cs') → PtrOK P f ty lays cs rest v cs') : HandOK P f (ptrH ty lays F) := ptrB_ok hl fun cs rest v cs' h _ => ht cs rest v cs' h
end Clu
end Go.Proofs.Ythghohgjedjpbaa
