/-
  Runs by the kernel: calls at known arguments stand for their runs; other calls are run.
-/
import Derived.Test.YtodbppopnfabeaaGreatDoorCloMemo
import Derived.Test.YtodbppopnfabeaaGreatDoorCloLayQ
namespace Go.Proofs.YtodbppopnfabeaaGreatDoor
namespace Clo
open Go.RowKit
set_option linter.unusedVariables false

mutual
def AV.lowN (m : Nat) : AV → Bool
  | .b _ | .i _ _ | .s _ _ | .pn | .sn | .ni | .nf | .mn => true
  | .p id _ => Nat.blt id m
  | .ag l => AV.lowsN m l
  | .fa _ a => AV.lowN m a
  | _ => false
def AV.lowsN (m : Nat) : List AV → Bool
  | [] => true
  | a :: l => AV.lowN m a && AV.lowsN m l
end
mutual
theorem VR.lowN {r r' : Rn} {m : Nat} (hg : ∀ id B O K, id < m → r id = some (B, O, K) → ∃ K', r' id = some (B, O, K')) : ∀ (a : AV) (v : Value), a.lowN m = true → VR r a v → VR r' a v
  | .b _, _, _, k => k
  | .i _ _, _, _, k => k
  | .s _ _, _, _, k => k
  | .pn, _, _, k => k
  | .sn, _, _, k => k
  | .ni, _, _, k => k
  | .nf, _, _, k => k
  | .mn, _, _, k => k
  | .p id off, _, h, ⟨B, O, K, k1, k2⟩ => by
    have h : id < m := blt_iff.1 (by simpa [AV.lowN] using h)
    obtain ⟨K', k3⟩ := hg id B O K h k1
    exact ⟨B, O, K', k3, k2⟩
  | .ag l, _, h, ⟨xs, k1, k2⟩ => ⟨xs, k1, VRs.lowN hg l xs (by simpa [AV.lowN] using h) k2⟩
  | .fa _ a, _, h, ⟨x, k1, k2⟩ => ⟨x, k1, VR.lowN hg a x (by simpa [AV.lowN] using h) k2⟩
  | .sl _ _ _ _, _, h, _ | .so _ _ _ _, _, h, _ | .se, _, h, _ | .tu _, _, h, _ | .fn _ _ _, _, h, _ | .mp _, _, h, _ | .pa _, _, h, _ => by simp [AV.lowN] at h
theorem VRs.lowN {r r' : Rn} {m : Nat} (hg : ∀ id B O K, id < m → r id = some (B, O, K) → ∃ K', r' id = some (B, O, K')) : ∀ (l : List AV) (xs : List Value), AV.lowsN m l = true → VRs r l xs → VRs r' l xs
  | [], _, _, k => k
  | a :: l, _, h, ⟨x, ys, k1, k2, k3⟩ => by
    simp only [AV.lowsN, Bool.and_eq_true] at h
    exact ⟨x, ys, k1, VR.lowN hg a x h.1 k2, VRs.lowN hg l ys h.2 k3⟩
end
theorem lowsN_get {m : Nat} : ∀ {cs : List AV} {j : Nat} {a : AV}, AV.lowsN m cs = true → cs[j]? = some a → a.lowN m = true
  | [], j, a, _, h => by simp at h
  | c :: cs, 0, a, hc, h => by
    simp only [AV.lowsN, Bool.and_eq_true] at hc
    cases h; exact hc.1
  | c :: cs, j + 1, a, hc, h => by
    simp only [AV.lowsN, Bool.and_eq_true] at hc
    exact lowsN_get hc.2 (by simpa using h)
noncomputable section
def spotsB : Nat → List (List AV) → T → Bool
  | _, [], _ => true
  | id, cs :: q, h => match h.get id with
    | some (.c cs' _ _ (some _)) => eqVs cs cs' && spotsB (id + 1) q h
    | _ => false
def isPa : AV → Bool
  | .pa _ => true
  | _ => false
/-- calls at arguments of a table, where variables are laid, stand for their runs; others are run -/
def memoQ (P : Program) (X : XT) (n : Nat) (f : FuncId) (l : List (Nat × List AV)) (q : List (List AV)) (tab : List (List AV × AV)) : HT := fun lim args h nx k => match laidB l h && spotsB 1000 q h with
  | true => (match lookT tab args with
    | some v => k v h nx
    | none => enterK P X (ev P X n) lim f args h nx fun v h nx => match isPa v with
      | true => .err 72 1
      | false => k v h nx)
  | false => .err 72 0
end
variable {P : Program}
def FactQ (P : Program) (f : FuncId) (l : List (Nat × List AV)) (q : List (List AV)) (args : List AV) (v : AV) : Prop := AV.flts args = true ∧ v.flt = true ∧ ∀ w as, LaidQ w l q as → ∀ xs, VRs (rq as) args xs → CallSem P f xs w (fun z w' => VR (rq as) v z ∧ Below w.heap.size w w') noP
def FactsQ (P : Program) (f : FuncId) (l : List (Nat × List AV)) (q : List (List AV)) : List (List AV × AV) → Prop
  | [] => True
  | x :: t => FactQ P f l q x.1 x.2 ∧ FactsQ P f l q t
theorem factsQ_mem {f : FuncId} {l : List (Nat × List AV)} {q : List (List AV)} : ∀ {t : List (List AV × AV)}, FactsQ P f l q t → ∀ a v, (a, v) ∈ t → FactQ P f l q a v
  | [], _, a, v, hm => by cases hm
  | x :: t, h, a, v, hm => by
    cases hm with
    | head => exact h.1
    | tail _ hm => exact factsQ_mem h.2 a v hm
theorem factQ_of {X : XT} (hp : Plain P) (hX : XOK P X) (hm : P.follows .mixedOrders = true) {n : Nat} {f : FuncId} {args : List AV} {a : AV} {l : List (Nat × List AV)} {q : List (List AV)}
    (hk : (layK l .e fun h => layQ 1000 q h fun h => runF P X n (1000 + q.length) f args h (1000 + q.length)) = .ok a) (h1 : AV.flts args = true) (h2 : a.flt = true) : FactQ P f l q args a :=
  ⟨h1, h2, fun w as hl xs hx => by
    obtain ⟨h, hk, hh⟩ := layK_ok hk
    obtain ⟨h', hk, hh'⟩ := layQ_ok hk
    have hh2 : ∀ j b, h'.get j = some b → (∃ cs, (j, cs) ∈ l ∧ b = .c cs cs.length 0 none) ∨ ∃ i cs, q[i]? = some cs ∧ j = 1000 + i ∧ b = .c cs cs.length 0 (some 0) := fun j b hj => by
      rcases hh' j b hj with h1 | h1
      · exact .inl ((hh j b h1).resolve_left fun h1 => by cases (Tr.get_e j).symm.trans h1)
      · exact .inr h1
    refine (run_from hp hX (drK_ok hm) hk (fun x hx => by rw [hx] at h2; cases h2) ⟨Nat.le_refl _, fun j hj => ?_⟩ (HR.laidQ hl hh2) (fun id h1 => ?_) hx).mono (fun z w' ⟨⟨r', q1⟩, q2⟩ => ⟨VR.flt _ _ h2 q1, q2.below⟩) fun _ _ h => h
    · cases hg : h'.get j with
      | none => rfl
      | some b =>
        rcases hh2 j b hg with ⟨cs, h1, _⟩ | ⟨i, cs, h1, rfl, _⟩
        · have := (hl.globs j cs h1).1
          omega
        · have := (List.getElem?_eq_some_iff.1 h1).1
          omega
    · unfold rq
      rw [if_neg (by omega), List.getElem?_eq_none (by rw [hl.len]; omega)]
      rfl⟩
theorem spotsB_get {h : T} : ∀ {q : List (List AV)} {id : Nat}, spotsB id q h = true → ∀ i cs, q[i]? = some cs → ∃ fz osz ty, h.get (id + i) = some (.c cs fz osz (some ty))
  | [], id, _, i, cs, hq => by simp at hq
  | c :: q, id, hs, i, cs, hq => by
    unfold spotsB at hs
    split at hs
    · rename_i cs' fz osz ty hg
      simp only [Bool.and_eq_true] at hs
      cases i with
      | zero =>
        cases hq
        rw [eqVs_ok _ _ hs.1]
        exact ⟨fz, osz, ty, hg⟩
      | succ i =>
        obtain ⟨a, b, c, hx⟩ := spotsB_get hs.2 i cs (by simpa using hq)
        exact ⟨a, b, c, by rw [← hx]; congr 1; omega⟩
    · cases hs
/-- where the spots lie -/
def spotsAt (r : Rn) (n : Nat) : List (Nat × Nat) := (List.range n).map fun i => match r (1000 + i) with
  | some x => (x.1, x.2.1)
  | none => (0, 0)
theorem spotsAt_get {r : Rn} {n i B O K : Nat} (hi : i < n) (hr : r (1000 + i) = some (B, O, K)) : (spotsAt r n)[i]? = some (B, O) := by
  simp [spotsAt, hi, hr]
theorem laidQ_of {p : Nat → Prop} {lim : Nat} {r : Rn} {h : T} {w : World} {l : List (Nat × List AV)} {q : List (List AV)} (H : HR p lim r h.get w) (hl : (l.all fun x => Nat.blt x.1 1000 && Nat.blt 0 x.2.length && AV.lowsN (1000 + q.length) x.2) = true) (hq : (q.all fun cs => Nat.blt 0 cs.length && AV.lowsN (1000 + q.length) cs) = true)
    (h1 : laidB l h = true) (h2 : spotsB 1000 q h = true) : LaidQ w l q (spotsAt r q.length) := by
  have hg : ∀ id B O K, id < 1000 + q.length → r id = some (B, O, K) → ∃ K', rq (spotsAt r q.length) id = some (B, O, K') := fun id B O K hid hr => by
    unfold rq
    split
    · rename_i hlt
      rw [H.glob id hlt] at hr
      cases hr
      exact ⟨0, rfl⟩
    · rename_i hlt
      refine ⟨0, ?_⟩
      rw [spotsAt_get (B := B) (O := O) (K := K) (by omega) (by rw [show 1000 + (id - 1000) = id by omega]; exact hr)]
      rfl
  refine ⟨fun g cs hm => ?_, fun i cs hi => ?_, by simp [spotsAt]⟩
  · have a1 := List.all_eq_true.1 hl (g, cs) hm
    simp only [Bool.and_eq_true] at a1
    refine ⟨blt_iff.1 a1.1.1, blt_iff.1 a1.1.2, fun j a ha => ?_⟩
    have a2 := List.all_eq_true.1 h1 (g, cs) hm
    split at a2
    · rename_i cs' fz osz pl hb
      have he := eqVs_ok _ _ a2
      subst he
      obtain ⟨B, O, K, e1, _, e3, _⟩ := H.blk g _ hb
      rw [H.glob g (blt_iff.1 a1.1.1)] at e1
      cases e1
      obtain ⟨x, x1, x2⟩ := e3 j a ha
      exact ⟨x, x1, VR.lowN hg a x (lowsN_get a1.2 ha) x2⟩
    · cases a2
  · have a1 := List.all_eq_true.1 hq cs (List.mem_of_getElem? hi)
    simp only [Bool.and_eq_true] at a1
    obtain ⟨fz, osz, ty, hb⟩ := spotsB_get h2 i cs hi
    obtain ⟨B, O, K, e1, _, e3, _, _, _, e5, _⟩ := H.blk _ _ hb
    refine ⟨(B, O), spotsAt_get (List.getElem?_eq_some_iff.1 hi).1 e1, ⟨blt_iff.1 a1.1, fun j a ha => ?_⟩, (e5 ty rfl).1⟩
    obtain ⟨x, x1, x2⟩ := e3 j a ha
    exact ⟨x, x1, VR.lowN hg a x (lowsN_get a1.2 ha) x2⟩
theorem memoQ_ok {X : XT} (hp : Plain P) (hX : XOK P X) (hm : P.follows .mixedOrders = true) {n : Nat} {f : FuncId} {l : List (Nat × List AV)} {q : List (List AV)} {tab : List (List AV × AV)}
    (hl : (l.all fun x => Nat.blt x.1 1000 && Nat.blt 0 x.2.length && AV.lowsN (1000 + q.length) x.2) = true) (hq : (q.all fun cs => Nat.blt 0 cs.length && AV.lowsN (1000 + q.length) cs) = true) (ht : FactsQ P f l q tab) : HandOK P f (memoQ P X n f l q tab) := fun lim args h nx k v hl0 hk => by
  unfold memoQ at hk
  split at hk
  · rename_i hb
    simp only [Bool.and_eq_true] at hb
    split at hk
    · rename_i a hlook
      obtain ⟨t1, t2, t3⟩ := factsQ_mem ht _ _ (lookT_ok hlook)
      refine ⟨_, _, _, hk, Keeps.refl _ _ _, fun p r w xs H hf hx => ?_⟩
      exact (t3 w _ (laidQ_of H hl hq hb.1 hb.2) xs (VRs.flt _ _ t1 hx)).mono (fun z w' ⟨h1, h2⟩ => left_below H (VR.flt _ _ t2 h1) h2) fun _ _ h => h
    · obtain ⟨a', h', nx', hk, hkeep, hs⟩ := enterK_ok hp hX (ev_ok hp hX (drK_ok hm) n) lim f args h nx _ _ hl0 hk
      split at hk
      · cases hk
      · rename_i hpa
        refine ⟨a', h', nx', hk, hkeep, fun p r w xs H hf hx => ?_⟩
        exact (hs p r w xs H hf hx).mono (fun z w' h => h) fun c w' hL => (no_pa (fun x hx => by rw [hx] at hpa; cases hpa) hL).elim
  · cases hk
end Clo
end Go.Proofs.YtodbppopnfabeaaGreatDoor
