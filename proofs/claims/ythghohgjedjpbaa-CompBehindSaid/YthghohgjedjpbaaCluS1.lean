/-
  Runs at whatever arguments: frames and heaps of which less is told; loops.
-/
import Derived.Test.YthghohgjedjpbaaCluO1
namespace Go.Proofs.Ythghohgjedjpbaa
namespace Clu
open Go.RowKit
set_option linter.unusedVariables false
variable {P : Program}
/-! tries, plainly -/
section
variable {α : Type}
def Tr.mk : Nat → Nat → Option α → Tr α
  | 0, _, _ => .e
  | _ + 1, 0, b => .n b .e .e
  | f + 1, k + 1, b => match k % 2 with
    | 0 => .n none (Tr.mk f (k / 2) b) .e
    | _ + 1 => .n none .e (Tr.mk f (k / 2) b)
def Tr.set : Tr α → Nat → Option α → Tr α
  | .e, k, b => Tr.mk (k + 1) k b
  | .n _ l r, 0, b => .n b l r
  | .n v l r, k + 1, b => match k % 2 with
    | 0 => .n v (Tr.set l (k / 2) b) r
    | _ + 1 => .n v l (Tr.set r (k / 2) b)
theorem Tr.get_mk : ∀ {f k : Nat} {b : Option α} (j : Nat), k < f → (Tr.mk f k b).get j = if j = k then b else none
  | f + 1, 0, b, 0, _ => rfl
  | f + 1, 0, b, j + 1, _ => by rw [Tr.mk, Tr.get_s]; simp [Tr.get_e]
  | f + 1, k + 1, b, 0, h => by rw [Tr.mk]; split <;> rw [Tr.get_0] <;> simp
  | f + 1, k + 1, b, j + 1, h => by
    rw [Tr.mk]
    split
    · rename_i hm
      rw [Tr.get_s, Tr.get_mk _ (by omega), Tr.get_e]
      by_cases hj : j = k
      · subst hj; simp [hm]
      · simp [hj]; intro h3 h4; omega
    · rename_i m hm
      rw [Tr.get_s, Tr.get_mk _ (by omega), Tr.get_e]
      by_cases hj : j = k
      · subst hj; simp [hm]
      · simp [hj]; intro h3 h4; omega
theorem Tr.get_set : ∀ (t : Tr α) (k : Nat) (b : Option α) (j : Nat), (t.set k b).get j = if j = k then b else t.get j
  | .e, k, b, j => by rw [Tr.set, Tr.get_mk _ (Nat.lt_succ_self k), Tr.get_e]
  | .n v l r, 0, b, 0 => rfl
  | .n v l r, 0, b, j + 1 => by rw [Tr.set, Tr.get_s, Tr.get_s]; simp
  | .n v l r, k + 1, b, 0 => by rw [Tr.set]; split <;> rw [Tr.get_0, Tr.get_0] <;> simp
  | .n v l r, k + 1, b, j + 1 => by
    rw [Tr.set]
    split
    · rename_i hm
      rw [Tr.get_s, Tr.get_s, Tr.get_set]
      by_cases hj : j = k
      · subst hj; simp [hm]
      · simp [hj]
        by_cases h3 : j % 2 = 0
        · simp [h3]; intro h4; omega
        · simp [h3]
    · rename_i m hm
      rw [Tr.get_s, Tr.get_s, Tr.get_set]
      by_cases hj : j = k
      · subst hj; simp [hm]
      · simp [hj]
        by_cases h3 : j % 2 = 0
        · simp [h3]
        · simp [h3]; intro h4; omega
end
/-! frames of which some slots are told -/
def baseFr : Nat → Fr
  | 0 => .e
  | n + 1 => (baseFr n).set n (some .jk)
def mkFr (nt : Nat) : List (Nat × Option AV) → Fr
  | [] => baseFr nt
  | p :: l => (mkFr nt l).set p.1 p.2
theorem baseFr_get (n t : Nat) : (baseFr n).get t = if t < n then some .jk else none := by
  induction n with
  | zero => rw [baseFr, Tr.get_e, if_neg (by omega)]
  | succ n ih =>
    rw [baseFr, Tr.get_set, ih]
    by_cases h : t = n
    · rw [if_pos h, if_pos (by omega)]
    · rw [if_neg h]
      by_cases h2 : t < n
      · rw [if_pos h2, if_pos (by omega)]
      · rw [if_neg h2, if_neg (by omega)]
theorem mkFr_get (nt t : Nat) : ∀ l : List (Nat × Option AV), (∃ o, (t, o) ∈ l ∧ (mkFr nt l).get t = o) ∨ ((∀ o, (t, o) ∉ l) ∧ (mkFr nt l).get t = if t < nt then some .jk else none)
  | [] => .inr ⟨fun o h => (by cases h), baseFr_get nt t⟩
  | p :: l => by
    rw [mkFr, Tr.get_set]
    by_cases h : t = p.1
    · rw [if_pos h]
      exact .inl ⟨p.2, by subst h; simp, rfl⟩
    · rw [if_neg h]
      rcases mkFr_get nt t l with ⟨o, h1, h2⟩ | ⟨h1, h2⟩
      · exact .inl ⟨o, List.mem_cons_of_mem _ h1, h2⟩
      · refine .inr ⟨fun o hm => ?_, h2⟩
        rcases List.mem_cons.1 hm with q | q
        · exact h (by rw [← q])
        · exact h1 o q
def notB : Option AV → Bool
  | some (.b _) => false
  | _ => true
theorem VR.notBool {r : Rn} {a : AV} {v : Value} (h : VR r a v) (ha : notB (some a) = true) : ∀ b, v ≠ .bool b := by
  intro b e
  subst e
  cases a with
  | b x => cases ha
  | jk => exact h b rfl
  | _ => simp [VR] at h
theorem FR.weaken {D : List Deferred} {r : Rn} {nt : Nat} {fr : Fr} {act : Act} {l : List (Nat × Option AV)} (h : FR D r nt fr act) (hl : ∀ t o, (t, o) ∈ l → fr.get t = o) (hb : ∀ t, t < nt → (∀ o, (t, o) ∉ l) → notB (fr.get t) = true) : FR D r nt (mkFr nt l) act := by
  refine ⟨h.size, h.defers, fun t => ?_⟩
  rcases mkFr_get nt t l with ⟨o, h1, h2⟩ | ⟨h1, h2⟩
  · rw [h2, ← hl t o h1]; exact h.tmp t
  · rw [h2]
    by_cases ht : t < nt
    · rw [if_pos ht]
      have := hb t ht h1
      have k := h.tmp t
      show ∀ b, _ ≠ Value.bool b
      cases hg : fr.get t with
      | none => rw [hg] at k; exact VR.notBool k rfl
      | some a => rw [hg] at k this; exact VR.notBool k this
    · rw [if_neg ht]
      have : act.tmps.getD t undef = undef := by
        rw [Array.getD_eq_getD_getElem?, Array.getElem?_eq_none (by rw [h.size]; omega)]
        rfl
      rw [this]
      exact ⟨[], rfl, rfl⟩
/-! values that know no block from n on -/
mutual
def AV.und (n : Nat) : AV → Bool
  | .b _ | .i _ _ | .s _ _ | .pn | .sn | .ni | .nf | .mn | .se | .jk => true
  | .p id _ => Nat.blt id n
  | .sl id _ _ _ => Nat.blt id n
  | .so id _ _ _ => Nat.blt id n
  | .mp id => Nat.blt id n
  | .ag l => AV.unds n l
  | .tu l => AV.unds n l
  | .fa _ a => AV.und n a
  | .fn _ a c => AV.unds n a && AV.unds n c
  | .pa _ => false
def AV.unds (n : Nat) : List AV → Bool
  | [] => true
  | a :: l => AV.und n a && AV.unds n l
end
mutual
theorem VR.und {r r' : Rn} {n : Nat} (hr : ∀ id, id < n → r' id = r id) : ∀ (a : AV) (v : Value), a.und n = true → VR r a v → VR r' a v
  | .b _, _, _, k => k
  | .i _ _, _, _, k => k
  | .s _ _, _, _, k => k
  | .pn, _, _, k => k
  | .sn, _, _, k => k
  | .ni, _, _, k => k
  | .nf, _, _, k => k
  | .mn, _, _, k => k
  | .se, _, _, k => k
  | .jk, _, _, k => k
  | .p id _, _, h, ⟨B, O, K, k1, k2⟩ => ⟨B, O, K, by rw [hr id (blt_iff.1 (by simpa [AV.und] using h))]; exact k1, k2⟩
  | .sl id _ _ _, _, h, ⟨B, O, K, k1, k2⟩ => ⟨B, O, K, by rw [hr id (blt_iff.1 (by simpa [AV.und] using h))]; exact k1, k2⟩
  | .so id _ _ _, _, h, ⟨B, O, K, k1, k2⟩ => ⟨B, O, K, by rw [hr id (blt_iff.1 (by simpa [AV.und] using h))]; exact k1, k2⟩
  | .mp id, _, h, ⟨B, O, K, k1, k2⟩ => ⟨B, O, K, by rw [hr id (blt_iff.1 (by simpa [AV.und] using h))]; exact k1, k2⟩
  | .ag l, _, h, ⟨xs, k1, k2⟩ => ⟨xs, k1, VRs.und hr l xs (by simpa [AV.und] using h) k2⟩
  | .tu l, _, h, ⟨xs, k1, k2⟩ => ⟨xs, k1, VRs.und hr l xs (by simpa [AV.und] using h) k2⟩
  | .fa _ a, _, h, ⟨x, k1, k2⟩ => ⟨x, k1, VR.und hr a x (by simpa [AV.und] using h) k2⟩
  | .fn f a c, _, h, ⟨xs, ys, k1, k2, k3⟩ => by
    simp only [AV.und, Bool.and_eq_true] at h
    exact ⟨xs, ys, k1, VRs.und hr a xs h.1 k2, VRs.und hr c ys h.2 k3⟩
  | .pa _, _, h, _ => by simp [AV.und] at h
theorem VRs.und {r r' : Rn} {n : Nat} (hr : ∀ id, id < n → r' id = r id) : ∀ (l : List AV) (xs : List Value), AV.unds n l = true → VRs r l xs → VRs r' l xs
  | [], _, _, k => k
  | a :: l, _, h, ⟨x, ys, k1, k2, k3⟩ => by
    simp only [AV.unds, Bool.and_eq_true] at h
    exact ⟨x, ys, k1, VR.und hr a x h.1 k2, VRs.und hr l ys h.2 k3⟩
end
theorem unds_get {n : Nat} : ∀ {cs : List AV} {j : Nat} {a : AV}, AV.unds n cs = true → cs[j]? = some a → a.und n = true
  | [], j, a, _, h => by simp at h
  | c :: cs, 0, a, hc, h => by
    simp only [AV.unds, Bool.and_eq_true] at hc
    cases h; exact hc.1
  | c :: cs, j + 1, a, hc, h => by
    simp only [AV.unds, Bool.and_eq_true] at hc
    exact unds_get hc.2 (by simpa using h)
def Blk.und (n : Nat) : Blk → Bool
  | .c cs _ _ _ => AV.unds n cs
  | .it _ _ _ => true
  | .mp es _ => es.all fun e => AV.und n e.1 && AV.und n e.2.1
theorem ERs.und {r r' : Rn} {n : Nat} (hr : ∀ id, id < n → r' id = r id) : ∀ {l : List (AV × AV × Nat)} {xs : List MapEntry}, (l.all fun e => AV.und n e.1 && AV.und n e.2.1) = true → ERs r l xs → ERs r' l xs
  | [], _, _, k => k
  | (_, _, _) :: _, _, h, ⟨x, ys, h1, h2, h3, h4, h5⟩ => by
    simp only [List.all_cons, Bool.and_eq_true] at h
    exact ⟨x, ys, h1, VR.und hr _ _ h.1.1 h2, VR.und hr _ _ h.1.2 h3, h4, ERs.und hr h.2 h5⟩
theorem BR.und {r r' : Rn} {n id : Nat} {b : Blk} {w : World} (hr : ∀ id, id < n → r' id = r id) (hid : id < n) (hb : b.und n = true) (h : BR r id b w) : BR r' id b w := by
  obtain ⟨B, O, K, h1, h2, h3⟩ := h
  refine ⟨B, O, K, by rw [hr id hid]; exact h1, h2, ?_⟩
  cases b with
  | c cells fz osz pl =>
    obtain ⟨k1, k2⟩ := h3
    exact ⟨fun j a hj => by
      obtain ⟨x, x1, x2⟩ := k1 j a hj
      exact ⟨x, x1, VR.und hr a x (unds_get hb hj) x2⟩, k2⟩
  | it n' N pos => exact h3
  | mp es clock =>
    obtain ⟨xs, x1, x2⟩ := h3
    exact ⟨xs, x1, ERs.und hr hb x2⟩
/-- what is told of a frame knows no block from n on -/
def undF (n : Nat) (l : List (Nat × Option AV)) : Prop := ∀ t a, (t, some a) ∈ l → a.und n = true
theorem FR.und {D : List Deferred} {r r' : Rn} {nt n : Nat} {act : Act} {l : List (Nat × Option AV)} (hr : ∀ id, id < n → r' id = r id) (hl : undF n l) (h : FR D r nt (mkFr nt l) act) : FR D r' nt (mkFr nt l) act := by
  refine ⟨h.size, h.defers, fun t => ?_⟩
  have k := h.tmp t
  rcases mkFr_get nt t l with ⟨o, h1, h2⟩ | ⟨h1, h2⟩
  · rw [h2] at k ⊢
    cases o with
    | none => exact k
    | some a => exact VR.und hr a _ (hl t a h1) k
  · rw [h2] at k ⊢
    by_cases ht : t < nt
    · rw [if_pos ht] at k ⊢; exact k
    · rw [if_neg ht] at k ⊢; exact k
/-- less is told of what is left behind -/
theorem After.drop {D : List Deferred} {p : Nat → Prop} {lim nx n1 nt : Nat} {r : Rn} {fr1 : Fr} {h1 h2 : T} {w w' : World} {act : Act} {l : List (Nat × Option AV)} (hl : ∀ t o, (t, o) ∈ l → fr1.get t = o) (hb : ∀ t, t < nt → (∀ o, (t, o) ∉ l) → notB (fr1.get t) = true)
    (hu : undF nx l) (hsub : ∀ id b, h2.get id = some b → h1.get id = some b ∧ id < nx ∧ b.und nx = true) (glob : ∀ g, g < 1000 → r g = some (g, 0, 0)) (a : After D p lim r nx n1 nt fr1 h1 w act w') : After D p lim r nx nx nt (mkFr nt l) h2 w act w' := by
  obtain ⟨r', x1, f1, H1, k1⟩ := a
  have hr : ∀ id, id < nx → r id = r' id := fun id hid => (x1 id (.inl hid)).symm
  refine ⟨r, Ext.refl _ _ _, FR.und hr hu (f1.weaken hl hb), ⟨fun id b hb => ?_, fun id id' b b' x x' hs q q' y y' => ?_, fun id b x hb hlim hro hx => ?_, H1.bd, glob⟩, k1⟩
  · obtain ⟨s1, s2, s3⟩ := hsub id b hb
    exact (H1.blk id b s1).und hr s2 s3
  · obtain ⟨s1, s2, _⟩ := hsub id b q
    obtain ⟨s3, s4, _⟩ := hsub id' b' q'
    exact H1.inj id id' b b' x x' hs s1 s3 (by rw [← hr id s2]; exact y) (by rw [← hr id' s4]; exact y')
  · obtain ⟨s1, s2, _⟩ := hsub id b hb
    exact H1.low id b x s1 hlim hro (by rw [← hr id s2]; exact hx)
/-- a heap that knows no block from n on -/
def HU (n : Nat) (h : T) : Prop := ∀ id b, h.get id = some b → id < n ∧ b.und n = true
def cutR (n : Nat) (r : Rn) : Rn := fun id => if id < n then r id else none
theorem cutR_lt {n : Nat} {r : Rn} (id : Nat) (h : id < n) : cutR n r id = r id := if_pos h
theorem HR.cut {p : Nat → Prop} {lim n : Nat} {r : Rn} {h : T} {w : World} (H : HR p lim r h.get w) (hu : HU n h) (hn : 1000 ≤ n) : HR p lim (cutR n r) h.get w := by
  have hr : ∀ id, id < n → cutR n r id = r id := fun id hid => cutR_lt id hid
  refine ⟨fun id b hb => (H.blk id b hb).und hr (hu id b hb).1 (hu id b hb).2, fun id id' b b' x x' hs q q' y y' => ?_, fun id b x hb hlim hro hx => ?_, H.bd, fun g hg => by rw [hr g (by omega)]; exact H.glob g hg⟩
  · rw [hr id (hu id b q).1] at y
    rw [hr id' (hu id' b' q').1] at y'
    exact H.inj id id' b b' x x' hs q q' y y'
  · rw [hr id (hu id b hb).1] at hx
    exact H.low id b x hb hlim hro hx
theorem RunOK.drop {nt lim nx n1 : Nat} {fr1 : Fr} {h h1 h2 : T} {l0 l : List (Nat × Option AV)} {W : (Act → World → Prop) → Act → World → Prop} (R : RunOK nt lim (mkFr nt l0) h nx fr1 h1 n1 W) (hu0 : undF nx l0) (hH : HU nx h) (hn : 1000 ≤ nx)
    (hl : ∀ t o, (t, o) ∈ l → fr1.get t = o) (hb : ∀ t, t < nt → (∀ o, (t, o) ∉ l) → notB (fr1.get t) = true) (hu : undF nx l) (hsub : ∀ id b, h2.get id = some b → h1.get id = some b ∧ id < nx ∧ b.und nx = true) (hk : Keeps lim h nx h2 nx) : RunOK nt lim (mkFr nt l0) h nx (mkFr nt l) h2 nx W := by
  refine ⟨hk, fun p r w act D H hf hfr N hN => ?_⟩
  have hr : ∀ id, id < nx → cutR nx r id = r id := fun id hid => cutR_lt id hid
  have H0 := H.cut hH hn
  refine R.2 p _ w act D H0 (fun id h1 h2 => if_neg (by omega)) (FR.und hr hu0 hfr) N fun act' w' ha => hN act' w' ?_
  obtain ⟨r2, x2, f2, H2, k2⟩ := ha.drop hl hb hu hsub H0.glob
  have hr2 : ∀ id, id < nx → r id = r2 id := fun id hid => by rw [x2 id (.inl hid)]; exact (hr id hid).symm
  refine ⟨r, Ext.refl _ _ _, FR.und hr2 hu f2, ⟨fun id b hb => ?_, fun id id' b b' x x' hs q q' y y' => ?_, fun id b x hb hlim hro hx => ?_, H2.bd, H.glob⟩, k2⟩
  · obtain ⟨_, s2, s3⟩ := hsub id b hb
    exact (H2.blk id b hb).und hr2 s2 s3
  · obtain ⟨_, s2, _⟩ := hsub id b q
    obtain ⟨_, s4, _⟩ := hsub id' b' q'
    exact H2.inj id id' b b' x x' hs q q' (by rw [← hr2 id s2]; exact y) (by rw [← hr2 id' s4]; exact y')
  · obtain ⟨_, s2, _⟩ := hsub id b hb
    exact H2.low id b x hb hlim hro (by rw [← hr2 id s2]; exact hx)
/-! loops -/
theorem Lp.up {b : Code} {Q : Exit → Act → World → Prop} : ∀ {n : Nat} {a : Act} {w : World}, Lp P b Q n a w → Lp P b Q (n + 1) a w
  | 0, _, _, h => h.elim
  | n + 1, a, w, h => wp_mono (show b.wp P (Exit.then (Lp P b Q n) Q) a w from h) fun e a w he => by
    cases e with
    | normal => exact Lp.up (n := n) he
    | _ => exact he
theorem WP.up {n : Nat} {c : Code} {Q : Exit → Act → World → Prop} {a : Act} {w : World} (h : WP P n c Q a w) : WP P (n + 1) c Q a w := by
  unfold WP at h ⊢
  split at h
  · exact Lp.up h
  · exact h
theorem RunE.up {n nt lim nx n1 : Nat} {c : Code} {fr fr1 : Fr} {h h1 : T} {e : Ex} (R : RunE P n c nt lim fr h nx e fr1 h1 n1) : RunE P (n + 1) c nt lim fr h nx e fr1 h1 n1 := by
  cases e with
  | pan x b => exact RunP.mono R fun D N act w hh => WP.up hh
  | nor => exact RunOK.mono R fun N act w hh => WP.up hh
  | exi i => exact RunOK.mono R fun N act w hh => WP.up hh
  | ret => exact RunOK.mono R fun N act w hh => WP.up hh
  | got i => exact RunOK.mono R fun N act w hh => WP.up hh
theorem RunE.upto {n m nt lim nx n1 : Nat} {c : Code} {fr fr1 : Fr} {h h1 : T} {e : Ex} (R : RunE P n c nt lim fr h nx e fr1 h1 n1) (hm : n ≤ m) : RunE P m c nt lim fr h nx e fr1 h1 n1 := by
  induction hm with
  | refl => exact R
  | step _ ih => exact ih.up
/-- an end that is none by a panic -/
def Ex.fine : Ex → Bool
  | .pan _ _ => false
  | _ => true
theorem RunE.ok {n nt lim nx n1 : Nat} {c : Code} {fr fr1 : Fr} {h h1 : T} {e : Ex} (he : e.fine = true) (R : RunE P n c nt lim fr h nx e fr1 h1 n1) : RunOK nt lim fr h nx fr1 h1 n1 (fun N act w => WP P n c (At e N) act w) := by
  cases e with
  | pan x b => cases he
  | _ => exact R
theorem RunE.of {n nt lim nx n1 : Nat} {c : Code} {fr fr1 : Fr} {h h1 : T} {e : Ex} (he : e.fine = true) (R : RunOK nt lim fr h nx fr1 h1 n1 (fun N act w => WP P n c (At e N) act w)) : RunE P n c nt lim fr h nx e fr1 h1 n1 := by
  cases e with
  | pan x b => cases he
  | _ => exact R
theorem RunE.loop_out {n nt lim nx n1 : Nat} {b : Code} {fr fr1 : Fr} {h h1 : T} {e : Ex} (he : e.fine = true) (hn : e ≠ .nor) (R : RunE P n b nt lim fr h nx e fr1 h1 n1) : RunE P (n + 1) (.loop b) nt lim fr h nx e fr1 h1 n1 := by
  refine RunE.of he (RunOK.mono (R.ok he) fun N act w hh => ?_)
  show Lp P b (At e N) (n + 1) act w
  refine wp_mono (WP.wp hh) fun e' a w ⟨h1, hq⟩ => ?_
  subst h1
  cases e with
  | nor => exact absurd rfl hn
  | exi i => exact ⟨rfl, hq⟩
  | ret => exact ⟨rfl, hq⟩
  | got l => exact ⟨rfl, hq⟩
  | pan x b => cases he
theorem RunE.loop_more {n nt lim nx n1 n2 : Nat} {b : Code} {fr fr1 fr2 : Fr} {h h1 h2 : T} {e : Ex} (he : e.fine = true) (R : RunE P n b nt lim fr h nx .nor fr1 h1 n1) (S : RunE P n (.loop b) nt lim fr1 h1 n1 e fr2 h2 n2) : RunE P (n + 1) (.loop b) nt lim fr h nx e fr2 h2 n2 :=
  RunE.of he (RunOK.trans (R.ok rfl) (S.ok he) fun N act w hh => by
    show Lp P b (At e N) (n + 1) act w
    refine wp_mono (WP.wp hh) fun e' a w ⟨h1, hq⟩ => ?_
    subst h1
    exact hq)
end Clu
end Go.Proofs.Ythghohgjedjpbaa
