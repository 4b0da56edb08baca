/-
  Runs by the kernel: calls at known arguments stand for their runs.
-/
import Derived.Test.YthghohgjedjpbaaCluLay
namespace Go.Proofs.Ythghohgjedjpbaa
namespace Clu
open Go.RowKit
set_option linter.unusedVariables false

mutual
/-- values that show no block -/
def AV.flt : AV → Bool
  | .b _ | .i _ _ | .s _ _ | .pn | .sn | .ni | .nf | .mn => true
  | .ag l => AV.flts l
  | .tu l => AV.flts l
  | .fa _ a => AV.flt a
  | _ => false
def AV.flts : List AV → Bool
  | [] => true
  | a :: l => AV.flt a && AV.flts l
end
mutual
theorem VR.flt {r r' : Rn} : ∀ (a : AV) (v : Value), a.flt = true → VR r a v → VR r' a v
  | .b _, _, _, k => k
  | .i _ _, _, _, k => k
  | .s _ _, _, _, k => k
  | .pn, _, _, k => k
  | .sn, _, _, k => k
  | .ni, _, _, k => k
  | .nf, _, _, k => k
  | .mn, _, _, k => k
  | .ag l, _, h, ⟨xs, k1, k2⟩ => ⟨xs, k1, VRs.flt l xs (by simpa [AV.flt] using h) k2⟩
  | .tu l, _, h, ⟨xs, k1, k2⟩ => ⟨xs, k1, VRs.flt l xs (by simpa [AV.flt] using h) k2⟩
  | .fa _ a, _, h, ⟨x, k1, k2⟩ => ⟨x, k1, VR.flt a x (by simpa [AV.flt] using h) k2⟩
  | .p _ _, _, h, _ | .sl _ _ _ _, _, h, _ | .so _ _ _ _, _, h, _ | .se, _, h, _ | .fn _ _ _, _, h, _ | .mp _, _, h, _ | .pa _, _, h, _ => by simp [AV.flt] at h
theorem VRs.flt {r r' : Rn} : ∀ (l : List AV) (xs : List Value), AV.flts l = true → VRs r l xs → VRs r' l xs
  | [], _, _, k => k
  | a :: l, _, h, ⟨x, ys, k1, k2, k3⟩ => by
    simp only [AV.flts, Bool.and_eq_true] at h
    exact ⟨x, ys, k1, VR.flt a x h.1 k2, VRs.flt l ys h.2 k3⟩
end
mutual
/-- .. but for variables -/
def AV.lowM : AV → Bool
  | .b _ | .i _ _ | .s _ _ | .pn | .sn | .ni | .nf | .mn => true
  | .p id _ => Nat.blt id 1000
  | .ag l => AV.lowsM l
  | .fa _ a => AV.lowM a
  | _ => false
def AV.lowsM : List AV → Bool
  | [] => true
  | a :: l => AV.lowM a && AV.lowsM l
end
mutual
theorem VR.lowM {r : Rn} (hg : ∀ g, g < 1000 → r g = some (g, 0, 0)) : ∀ (a : AV) (v : Value), a.lowM = true → VR r a v → VR r0 a v
  | .b _, _, _, k => k
  | .i _ _, _, _, k => k
  | .s _ _, _, _, k => k
  | .pn, _, _, k => k
  | .sn, _, _, k => k
  | .ni, _, _, k => k
  | .nf, _, _, k => k
  | .mn, _, _, k => k
  | .p id off, _, h, ⟨B, O, K, k1, k2⟩ => by
    have h : id < 1000 := blt_iff.1 (by simpa [AV.lowM] using h)
    rw [hg id h] at k1
    cases k1
    exact ⟨id, 0, 0, if_pos h, k2⟩
  | .ag l, _, h, ⟨xs, k1, k2⟩ => ⟨xs, k1, VRs.lowM hg l xs (by simpa [AV.lowM] using h) k2⟩
  | .fa _ a, _, h, ⟨x, k1, k2⟩ => ⟨x, k1, VR.lowM hg a x (by simpa [AV.lowM] using h) k2⟩
  | .sl _ _ _ _, _, h, _ | .so _ _ _ _, _, h, _ | .se, _, h, _ | .tu _, _, h, _ | .fn _ _ _, _, h, _ | .mp _, _, h, _ | .pa _, _, h, _ => by simp [AV.lowM] at h
theorem VRs.lowM {r : Rn} (hg : ∀ g, g < 1000 → r g = some (g, 0, 0)) : ∀ (l : List AV) (xs : List Value), AV.lowsM l = true → VRs r l xs → VRs r0 l xs
  | [], _, _, k => k
  | a :: l, _, h, ⟨x, ys, k1, k2, k3⟩ => by
    simp only [AV.lowsM, Bool.and_eq_true] at h
    exact ⟨x, ys, k1, VR.lowM hg a x h.1 k2, VRs.lowM hg l ys h.2 k3⟩
end
theorem lowsM_get : ∀ {cs : List AV} {j : Nat} {a : AV}, AV.lowsM cs = true → cs[j]? = some a → a.lowM = true
  | [], j, a, _, h => by simp at h
  | c :: cs, 0, a, hc, h => by
    simp only [AV.lowsM, Bool.and_eq_true] at hc
    cases h; exact hc.1
  | c :: cs, j + 1, a, hc, h => by
    simp only [AV.lowsM, Bool.and_eq_true] at hc
    exact lowsM_get hc.2 (by simpa using h)
noncomputable section
mutual
/-- the same, as it is written -/
def eqV : AV → AV → Bool
  | .b x, .b y => x == y
  | .i k n, .i m p => sameKind k m && iEq n p
  | .s n N, .s m M => Nat.beq n m && Nat.beq N M
  | .p i o, .p j q => Nat.beq i j && Nat.beq o q
  | .pn, .pn => true
  | .sn, .sn => true
  | .ni, .ni => true
  | .nf, .nf => true
  | .mn, .mn => true
  | .ag l, .ag m => eqVs l m
  | .tu l, .tu m => eqVs l m
  | .fa t a, .fa u b => Nat.beq t u && eqV a b
  | _, _ => false
def eqVs : List AV → List AV → Bool
  | [], [] => true
  | a :: l, b :: m => eqV a b && eqVs l m
  | _, _ => false
end
end
mutual
theorem eqV_ok : ∀ (a b : AV), eqV a b = true → a = b
  | .b x, b, h => by cases b with | b y => simp [eqV] at h; rw [h] | _ => simp [eqV] at h
  | .i k n, b, h => by
    cases b with
    | i m p =>
      simp only [eqV, Bool.and_eq_true, iEq_eq] at h
      have h1 := sameKind_ok h.1
      have h2 : n = p := by simpa using h.2
      rw [h1, h2]
    | _ => simp [eqV] at h
  | .s n N, b, h => by cases b with | s m M => (simp only [eqV, Bool.and_eq_true] at h; rw [beq_iff.1 h.1, beq_iff.1 h.2]) | _ => simp [eqV] at h
  | .p i o, b, h => by cases b with | p m M => (simp only [eqV, Bool.and_eq_true] at h; rw [beq_iff.1 h.1, beq_iff.1 h.2]) | _ => simp [eqV] at h
  | .pn, b, h => by cases b with | pn => rfl | _ => simp [eqV] at h
  | .sn, b, h => by cases b with | sn => rfl | _ => simp [eqV] at h
  | .ni, b, h => by cases b with | ni => rfl | _ => simp [eqV] at h
  | .nf, b, h => by cases b with | nf => rfl | _ => simp [eqV] at h
  | .mn, b, h => by cases b with | mn => rfl | _ => simp [eqV] at h
  | .ag l, b, h => by cases b with | ag m => rw [eqVs_ok l m (by simpa [eqV] using h)] | _ => simp [eqV] at h
  | .tu l, b, h => by cases b with | tu m => rw [eqVs_ok l m (by simpa [eqV] using h)] | _ => simp [eqV] at h
  | .fa t a, b, h => by cases b with | fa u c => (simp only [eqV, Bool.and_eq_true] at h; rw [beq_iff.1 h.1, eqV_ok a c h.2]) | _ => simp [eqV] at h
  | .sl _ _ _ _, b, h | .so _ _ _ _, b, h | .se, b, h | .fn _ _ _, b, h | .mp _, b, h | .pa _, b, h => by simp [eqV] at h
theorem eqVs_ok : ∀ (l m : List AV), eqVs l m = true → l = m
  | [], [], _ => rfl
  | a :: l, b :: m, h => by simp only [eqVs, Bool.and_eq_true] at h; rw [eqV_ok a b h.1, eqVs_ok l m h.2]
  | [], _ :: _, h => by simp [eqVs] at h
  | _ :: _, [], h => by simp [eqVs] at h
end
noncomputable section
def lookT : List (List AV × AV) → List AV → Option AV
  | [], _ => none
  | x :: t, args => match eqVs x.1 args with
    | true => some x.2
    | false => lookT t args
def laidB (lays : List (Nat × List AV)) (h : T) : Bool := lays.all fun x => match h.get x.1 with
  | some (.c cs _ _ _) => eqVs x.2 cs
  | _ => false
/-- calls at arguments of a table, where variables are laid -/
def memoH (lays : List (Nat × List AV)) (tab : List (List AV × AV)) : HT := fun _ args h nx k => match laidB lays h, lookT tab args with
  | true, some v => k v h nx
  | _, _ => .err 72 0
def addB (X : XT) (f : FuncId) (c : HT) : XT := fun g => Bool.rec (motive := fun _ => Option HT) (X g) (some c) (Nat.beq g f)
end
variable {P : Program}
theorem addB_ok {X : XT} {f : FuncId} {c : HT} (hX : XOK P X) (hc : HandOK P f c) : XOK P (addB X f c) := fun g c' h => by
  have h' : @Bool.rec (fun _ => Option HT) (X g) (some c) (Nat.beq g f) = some c' := h
  cases hg : Nat.beq g f with
  | true => rw [hg] at h'; cases h'; rw [beq_iff.1 hg]; exact hc
  | false => rw [hg] at h'; exact hX g c' h'
theorem lookT_ok : ∀ {t : List (List AV × AV)} {args : List AV} {v : AV}, lookT t args = some v → (args, v) ∈ t
  | [], _, _, h => by cases h
  | x :: t, args, v, h => by
    unfold lookT at h
    split at h
    · rename_i he
      cases h
      rw [← eqVs_ok _ _ he]
      simp
    · exact List.mem_cons_of_mem _ (lookT_ok h)
def Fact (P : Program) (f : FuncId) (lays : List (Nat × List AV)) (l : List AV) (v : AV) : Prop := AV.flts l = true ∧ v.flt = true ∧ ∀ w, (∀ g cs, (g, cs) ∈ lays → g < 1000 ∧ LaidAt w g cs) → ∀ xs, VRs r0 l xs → CallSem P f xs w (fun z w' => VR r0 v z ∧ Below w.heap.size w w') noP
theorem memo_ok {f : FuncId} {lays : List (Nat × List AV)} {tab : List (List AV × AV)} (hl : ∀ g cs, (g, cs) ∈ lays → g < 1000 ∧ 0 < cs.length ∧ AV.lowsM cs = true) (ht : ∀ l v, (l, v) ∈ tab → Fact P f lays l v) : HandOK P f (memoH lays tab) := fun lim args h nx k v hl0 hk => by
  unfold memoH at hk
  split at hk
  · rename_i a hb hlook
    obtain ⟨t1, t2, t3⟩ := ht _ _ (lookT_ok hlook)
    refine ⟨_, _, _, hk, Keeps.refl _ _ _, fun p r w xs H hf hx => ?_⟩
    refine (t3 w (fun g cs hm => ?_) xs (VRs.flt _ _ t1 hx)).mono (fun z w' ⟨h1, h2⟩ => left_below H (VR.flt _ _ t2 h1) h2) fun _ _ h => h
    obtain ⟨q1, q2, q3⟩ := hl g cs hm
    refine ⟨q1, q2, fun j a ha => ?_⟩
    have := List.all_eq_true.1 hb (g, cs) hm
    split at this
    · rename_i cs' fz osz pl hg
      have he := eqVs_ok _ _ this
      subst he
      obtain ⟨B, O, K, e1, _, e3, _⟩ := H.blk g _ hg
      rw [H.glob g q1] at e1
      cases e1
      obtain ⟨x, x1, x2⟩ := e3 j a ha
      exact ⟨x, by rw [Nat.zero_add] at x1; exact x1, VR.lowM H.glob a x (lowsM_get q3 ha) x2⟩
    · cases this
  · cases hk
theorem fact_of {X : XT} (hp : Plain P) (hX : XOK P X) (hm : P.follows .mixedOrders = true) {n : Nat} {f : FuncId} {args : List AV} {a : AV} {l : List (Nat × List AV)} (hk : (layK l .e fun h => runF P X n 1000 f args h 1000) = .ok a) (h1 : AV.flts args = true) (h2 : a.flt = true) : Fact P f l args a :=
  ⟨h1, h2, fun w hl xs hx => by
    obtain ⟨h, hk, hh⟩ := layK_ok hk
    have hh' : ∀ j b, h.get j = some b → ∃ cs, (j, cs) ∈ l ∧ b = .c cs cs.length 0 none := fun j b hj => (hh j b hj).resolve_left fun h1 => by cases (Tr.get_e j).symm.trans h1
    refine (run_from hp hX (drK_ok hm) hk (fun x hx => by rw [hx] at h2; cases h2) ⟨Nat.le_refl _, fun j hj => ?_⟩ (HR.laid hl hh') (fun id h1 => if_neg (by omega)) hx).mono (fun z w' ⟨⟨r', q1⟩, q2⟩ => ⟨VR.flt _ _ h2 q1, q2.below⟩) fun _ _ h => h
    cases hg : h.get j with
    | none => rfl
    | some b =>
      obtain ⟨cs, h1, _⟩ := hh' j b hg
      have := (hl j cs h1).1
      omega⟩
theorem low_of {lays : List (Nat × List AV)} (h : (lays.all fun x => Nat.blt x.1 1000 && Nat.blt 0 x.2.length && AV.lowsM x.2) = true) : ∀ g cs, (g, cs) ∈ lays → g < 1000 ∧ 0 < cs.length ∧ AV.lowsM cs = true := fun g cs hm => by
  have := List.all_eq_true.1 h (g, cs) hm
  simp only [Bool.and_eq_true] at this
  exact ⟨blt_iff.1 this.1.1, blt_iff.1 this.1.2, this.2⟩
def Facts (P : Program) (f : FuncId) (lays : List (Nat × List AV)) : List (List AV × AV) → Prop
  | [] => True
  | x :: t => Fact P f lays x.1 x.2 ∧ Facts P f lays t
theorem facts_mem {f : FuncId} {lays : List (Nat × List AV)} : ∀ {t : List (List AV × AV)}, Facts P f lays t → ∀ l v, (l, v) ∈ t → Fact P f lays l v
  | [], _, l, v, hm => by cases hm
  | x :: t, h, l, v, hm => by
    cases hm with
    | head => exact h.1
    | tail _ hm => exact facts_mem h.2 l v hm
end Clu
end Go.Proofs.Ythghohgjedjpbaa
