/-
  Runs at whatever arguments: a call's run on a small heap is its run on every greater one, its blocks renamed.
-/
import Derived.Test.YthghohgjedjpbaaCluS4
namespace Go.Proofs.Ythghohgjedjpbaa
namespace Clu
open Go.RowKit
set_option linter.unusedVariables false
variable {P : Program}
mutual
/-- blocks renamed -/
def AV.ren (σ : Nat → Nat) : AV → AV
  | .b x => .b x
  | .i k n => .i k n
  | .s n N => .s n N
  | .pn => .pn
  | .p id off => .p (σ id) off
  | .sn => .sn
  | .sl id o l c => .sl (σ id) o l c
  | .so id d sz l => .so (σ id) d sz l
  | .se => .se
  | .ag l => .ag (AV.rens σ l)
  | .tu l => .tu (AV.rens σ l)
  | .fa t a => .fa t (AV.ren σ a)
  | .ni => .ni
  | .fn f a c => .fn f (AV.rens σ a) (AV.rens σ c)
  | .nf => .nf
  | .mn => .mn
  | .mp id => .mp (σ id)
  | .pa a => .pa a
  | .jk => .jk
def AV.rens (σ : Nat → Nat) : List AV → List AV
  | [] => []
  | a :: l => AV.ren σ a :: AV.rens σ l
end
theorem rens_eq (σ : Nat → Nat) : ∀ l : List AV, AV.rens σ l = l.map (AV.ren σ)
  | [] => rfl
  | a :: l => by rw [AV.rens, rens_eq σ l]; rfl
theorem rens_length (σ : Nat → Nat) (l : List AV) : (AV.rens σ l).length = l.length := by rw [rens_eq, List.length_map]
theorem rens_get (σ : Nat → Nat) (l : List AV) (j : Nat) : (AV.rens σ l)[j]? = (l[j]?).map (AV.ren σ) := by rw [rens_eq, List.getElem?_map]
mutual
theorem VR.ren {r : Rn} {σ : Nat → Nat} : ∀ (a : AV) (v : Value), VR (fun i => r (σ i)) a v ↔ VR r (a.ren σ) v
  | .b _, _ => Iff.rfl
  | .i _ _, _ => Iff.rfl
  | .s _ _, _ => Iff.rfl
  | .pn, _ => Iff.rfl
  | .p _ _, _ => Iff.rfl
  | .sn, _ => Iff.rfl
  | .sl _ _ _ _, _ => Iff.rfl
  | .so _ _ _ _, _ => Iff.rfl
  | .se, _ => Iff.rfl
  | .ni, _ => Iff.rfl
  | .nf, _ => Iff.rfl
  | .mn, _ => Iff.rfl
  | .mp _, _ => Iff.rfl
  | .pa _, _ => Iff.rfl
  | .jk, _ => Iff.rfl
  | .ag l, _ => ⟨fun ⟨xs, h1, h2⟩ => ⟨xs, h1, (VRs.ren l xs).1 h2⟩, fun ⟨xs, h1, h2⟩ => ⟨xs, h1, (VRs.ren l xs).2 h2⟩⟩
  | .tu l, _ => ⟨fun ⟨xs, h1, h2⟩ => ⟨xs, h1, (VRs.ren l xs).1 h2⟩, fun ⟨xs, h1, h2⟩ => ⟨xs, h1, (VRs.ren l xs).2 h2⟩⟩
  | .fa _ a, _ => ⟨fun ⟨x, h1, h2⟩ => ⟨x, h1, (VR.ren a x).1 h2⟩, fun ⟨x, h1, h2⟩ => ⟨x, h1, (VR.ren a x).2 h2⟩⟩
  | .fn _ a c, _ => ⟨fun ⟨xs, ys, h1, h2, h3⟩ => ⟨xs, ys, h1, (VRs.ren a xs).1 h2, (VRs.ren c ys).1 h3⟩, fun ⟨xs, ys, h1, h2, h3⟩ => ⟨xs, ys, h1, (VRs.ren a xs).2 h2, (VRs.ren c ys).2 h3⟩⟩
theorem VRs.ren {r : Rn} {σ : Nat → Nat} : ∀ (l : List AV) (xs : List Value), VRs (fun i => r (σ i)) l xs ↔ VRs r (AV.rens σ l) xs
  | [], _ => Iff.rfl
  | a :: l, _ => ⟨fun ⟨x, ys, h1, h2, h3⟩ => ⟨x, ys, h1, (VR.ren a x).1 h2, (VRs.ren l ys).1 h3⟩, fun ⟨x, ys, h1, h2, h3⟩ => ⟨x, ys, h1, (VR.ren a x).2 h2, (VRs.ren l ys).2 h3⟩⟩
end
def Blk.ren (σ : Nat → Nat) : Blk → Blk
  | .c cs fz osz pl => .c (AV.rens σ cs) fz osz pl
  | .it n N pos => .it n N pos
  | .mp es clock => .mp (es.map fun e => (e.1.ren σ, e.2.1.ren σ, e.2.2)) clock
theorem ren_ro (σ : Nat → Nat) (b : Blk) : (b.ren σ).ro = b.ro := by
  cases b with
  | c cs fz osz pl => simp only [Blk.ren, Blk.ro, rens_length]
  | it n N pos => rfl
  | mp es clock => rfl
theorem ren_pd {σ : Nat → Nat} {b : Blk} : (b.ren σ).pd ↔ b.pd := by
  cases b with
  | c cs fz osz pl => cases pl with
    | none => exact Iff.rfl
    | some t => cases t <;> exact Iff.rfl
  | it n N pos => exact Iff.rfl
  | mp es clock => exact Iff.rfl
theorem ERs.ren {r : Rn} {σ : Nat → Nat} : ∀ {l : List (AV × AV × Nat)} {xs : List MapEntry}, ERs (fun i => r (σ i)) l xs ↔ ERs r (l.map fun e => (e.1.ren σ, e.2.1.ren σ, e.2.2)) xs
  | [], _ => Iff.rfl
  | (_, _, _) :: _, _ => ⟨fun ⟨x, ys, h1, h2, h3, h4, h5⟩ => ⟨x, ys, h1, (VR.ren _ _).1 h2, (VR.ren _ _).1 h3, h4, ERs.ren.1 h5⟩, fun ⟨x, ys, h1, h2, h3, h4, h5⟩ => ⟨x, ys, h1, (VR.ren _ _).2 h2, (VR.ren _ _).2 h3, h4, ERs.ren.2 h5⟩⟩
theorem BR.ren {r : Rn} {σ : Nat → Nat} {id : Nat} {b : Blk} {w : World} : BR (fun i => r (σ i)) id b w ↔ BR r (σ id) (b.ren σ) w := by
  unfold BR
  refine exists_congr fun B => exists_congr fun O => exists_congr fun K => and_congr_right fun _ => and_congr_right fun _ => ?_
  cases b with
  | c cs fz osz pl =>
    simp only [Blk.ren, rens_length]
    refine and_congr_left fun _ => ⟨fun h j a hj => ?_, fun h j a hj => ?_⟩
    · rw [rens_get] at hj
      cases hc : cs[j]? with
      | none => rw [hc] at hj; cases hj
      | some a0 =>
        rw [hc] at hj
        cases hj
        obtain ⟨x, h1, h2⟩ := h j a0 hc
        exact ⟨x, h1, (VR.ren _ _).1 h2⟩
    · obtain ⟨x, h1, h2⟩ := h j (a.ren σ) (by rw [rens_get, hj]; rfl)
      exact ⟨x, h1, (VR.ren _ _).2 h2⟩
  | it n N pos => exact Iff.rfl
  | mp es clock => exact exists_congr fun xs => and_congr_right fun _ => ERs.ren
/-- a block stands for what it stood for, where it is as it was -/
theorem BR.asWas {r r' : Rn} {id : Nat} {b : Blk} {w w' : World} (hr : Le r r') (hs : w.heap.size ≤ w'.heap.size) (hb : ∀ x, r id = some x → w'.heap[x.1]? = w.heap[x.1]?) (h : BR r id b w) : BR r' id b w' := by
  obtain ⟨B, O, K, h1, h2, h3⟩ := h
  have e := hb _ h1
  have ec : ∀ o, w'.cell? ⟨B, o, none⟩ = w.cell? ⟨B, o, none⟩ := fun o => by simp only [World.cell?]; rw [e]
  have ef : ∀ o, w'.frozen? ⟨B, o, none⟩ = w.frozen? ⟨B, o, none⟩ := fun o => by simp only [World.frozen?]; rw [e]
  have es : w'.shape? B = w.shape? B := by simp only [World.shape?]; rw [e]
  refine ⟨B, O, K, hr _ _ h1, Nat.lt_of_lt_of_le h2 hs, ?_⟩
  cases b with
  | c cells fz osz pl =>
    simp only [ec, ef, es]
    obtain ⟨k1, k2⟩ := h3
    exact ⟨fun j a hj => by
      obtain ⟨x, x1, x2⟩ := k1 j a hj
      exact ⟨x, x1, x2.mono hr⟩, k2⟩
  | it n N pos => exact ⟨h3.1, by rw [e]; exact h3.2⟩
  | mp es clock =>
    obtain ⟨xs, x1, x2⟩ := h3
    exact ⟨xs, by rw [e]; exact x1, x2.mono hr⟩
/-- a call on a heap: what it comes to -/
structure Con (P : Program) (f : FuncId) (lim0 : Nat) (args : List AV) (h : T) (nx : Nat) (a : AV) (h' : T) (nx' : Nat) : Prop where
  lim : 1000 ≤ lim0
  dom : HU nx h
  dom' : HU nx' h'
  ua : AV.unds nx args = true
  ua' : a.und nx' = true
  keep : Keeps lim0 h nx h' nx'
  sem : ∀ p r w xs, HR p lim0 r h.get w → Free nx nx' r → VRs r args xs → CallSem P f xs w (Left p lim0 r nx nx' h' a w) noP
/-- where the small heap lies in the great one: blocks that may be written, as they are told; others, so that they say as much -/
structure Emb (σ : Nat → Nat) (lim0 nx nx' : Nat) (h : T) (lim NX : Nat) (H : T) : Prop where
  glob : ∀ g, g < 1000 → σ g = g
  inj : ∀ i j, i < nx' → j < nx' → σ i = σ j → i = j
  old : ∀ i, i < nx → σ i < NX
  new : ∀ j, nx ≤ j → j < nx' → σ j = NX + (j - nx)
  heap : ∀ i b, lim0 ≤ i → h.get i = some b → H.get (σ i) = some (b.ren σ)
  heapR : ∀ i b, i < lim0 → h.get i = some b → ∃ b', H.get (σ i) = some b' ∧ (b.pd → b'.pd) ∧ ∀ r w, BR r (σ i) b' w → BR r (σ i) (b.ren σ) w
  wr : ∀ i, lim0 ≤ i → i < nx → lim ≤ σ i
/-- .. and what it is behind the call -/
structure Emb' (σ : Nat → Nat) (lim0 : Nat) (h h' : T) (H H' : T) : Prop where
  heap : ∀ id b, H'.get id = some b → (∃ i b0, lim0 ≤ i ∧ h'.get i = some b0 ∧ σ i = id ∧ b = b0.ren σ) ∨ ((∀ i, lim0 ≤ i → (h.get i).isSome = true → σ i ≠ id) ∧ H.get id = some b)
theorem Con.emb {f : FuncId} {σ : Nat → Nat} {lim0 nx nx' lim NX : Nat} {args : List AV} {a : AV} {h h' H H' : T} (C : Con P f lim0 args h nx a h' nx') (E : Emb σ lim0 nx nx' h lim NX H) (E' : Emb' σ lim0 h h' H H') (hT : Top lim H NX) (h1000 : 1000 ≤ NX) :
    ∀ p r w xs, HR p lim r H.get w → Free NX (NX + (nx' - nx)) r → VRs r (AV.rens σ args) xs → CallSem P f xs w (Left p lim r NX (NX + (nx' - nx)) H' (a.ren σ) w) noP := fun p r w xs HH hfree hx => by
  have hle := C.keep.le
  have hNX : ∀ id b, H.get id = some b → id < NX := fun id b hb => by
    rcases Nat.lt_or_ge id NX with h1 | h1
    · exact h1
    · rw [hT.2 id h1] at hb; cases hb
  have hin : ∀ id b, h.get id = some b → id < nx := fun id b hb => (C.dom id b hb).1
  have any : ∀ id b, h.get id = some b → ∃ b', H.get (σ id) = some b' ∧ (b.pd → lim0 ≤ id ∨ b'.pd) ∧ ∀ r w, BR r (σ id) b' w → BR r (σ id) (b.ren σ) w := fun id b hb => by
    rcases Nat.lt_or_ge id lim0 with h1 | h1
    · obtain ⟨b', q1, q2, q3⟩ := E.heapR id b h1 hb
      exact ⟨b', q1, fun h => .inr (q2 h), q3⟩
    · exact ⟨_, E.heap id b h1 hb, fun _ => .inl h1, fun _ _ h => h⟩
  -- what must stay: what stayed, and all that the call may not write
  have H0 : HR (fun k => p k ∨ ∃ id b x, H.get id = some b ∧ (∀ i, lim0 ≤ i → (h.get i).isSome = true → σ i ≠ id) ∧ r id = some x ∧ x.1 = k) lim0 (fun i => r (σ i)) h.get w := by
    refine ⟨fun id b hb => ?_, fun id id' b b' x x' hs q q' y y' hxx => ?_, fun id b x hb hl hro hx hp => ?_, fun k hk => ?_, fun g hg => by rw [E.glob g hg]; exact HH.glob g hg⟩
    · obtain ⟨b', q1, _, q3⟩ := any id b hb
      exact BR.ren.2 (q3 _ _ (HH.blk _ _ q1))
    · obtain ⟨c, q1, q2, _⟩ := any id b q
      obtain ⟨c', q1', q2', _⟩ := any id' b' q'
      refine E.inj id id' (Nat.lt_of_lt_of_le (hin _ _ q) hle) (Nat.lt_of_lt_of_le (hin _ _ q') hle) (HH.inj _ _ _ _ _ _ ?_ q1 q1' y y' hxx)
      rcases hs with hs | hs | ⟨hs, hs'⟩
      · exact .inl (E.wr id hs (hin _ _ q))
      · exact .inr (.inl (E.wr id' hs (hin _ _ q')))
      · rcases q2 hs with h1 | h1
        · exact .inl (E.wr id h1 (hin _ _ q))
        · rcases q2' hs' with h2 | h2
          · exact .inr (.inl (E.wr id' h2 (hin _ _ q')))
          · exact .inr (.inr ⟨h1, h2⟩)
    · have hw := E.wr id hl (hin _ _ hb)
      rcases hp with hp | ⟨id', b', x', q1, q2, q3, q4⟩
      · exact HH.low (σ id) _ x (E.heap _ _ hl hb) hw (by rw [ren_ro]; exact hro) hx hp
      · exact q2 id hl (by rw [hb]; rfl) (HH.inj (σ id) id' _ b' x x' (.inl hw) (E.heap _ _ hl hb) q1 hx q3 q4.symm)
    · rcases hk with hk | ⟨id', b', x', q1, q2, q3, q4⟩
      · exact HH.bd k hk
      · obtain ⟨B, O, K, e1, e2, _⟩ := HH.blk _ _ q1
        rw [q3] at e1
        cases e1
        subst q4
        exact e2
  refine (C.sem _ (fun i => r (σ i)) w xs H0 (fun id h1 h2 => ?_) ((VRs.ren _ _).2 hx)).mono (fun z w' ⟨r1, x1, v1, H1, k1⟩ => ?_) fun _ _ h => h
  · show r (σ id) = none
    rw [E.new id h1 h2]
    exact hfree _ (by omega) (by omega)
  -- what stands for what, behind it
  let r' : Rn := fun id => if NX ≤ id ∧ id < NX + (nx' - nx) then r1 (nx + (id - NX)) else r id
  have hr' : ∀ id, id < NX → r' id = r id := fun id hid => if_neg (by omega)
  have hs : ∀ i, i < nx' → r' (σ i) = r1 i := fun i hi => by
    rcases Nat.lt_or_ge i nx with h1 | h1
    · rw [hr' _ (E.old i h1), x1 i (.inl h1)]
    · show (if NX ≤ σ i ∧ σ i < NX + (nx' - nx) then r1 (nx + (σ i - NX)) else r (σ i)) = r1 i
      rw [E.new i h1 hi, if_pos (by omega)]
      congr 1
      omega
  have hext : Ext NX (NX + (nx' - nx)) r r' := fun id hid => if_neg (by omega)
  have hler : Le r r' := hext.le hfree
  have hlow : ∀ id, id < 1000 → r' id = r id := fun id hid => hr' id (by omega)
  have hsame : ∀ id b, H.get id = some b → (∀ i, lim0 ≤ i → (h.get i).isSome = true → σ i ≠ id) → ∀ x, r id = some x → w'.heap[x.1]? = w.heap[x.1]? := fun id b hb hne x hx => k1.block x.1 (.inr ⟨id, b, x, hb, hne, hx, rfl⟩)
  have heap1 : ∀ i b0, h'.get i = some b0 → i < nx' ∧ b0.und nx' = true := fun i b0 hb => C.dom' i b0 hb
  refine ⟨r', hext, ?_, ⟨fun id b hb => ?_, fun id id' b b' x x' hS q q' y y' hxx => ?_, fun id b x hb hl hro hx => ?_, fun k hk => H1.bd k (.inl hk), fun g hg => by rw [hlow g hg]; exact HH.glob g hg⟩, k1.mono fun k hk => .inl hk⟩
  · exact (VR.ren _ _).1 (VR.und (fun i hi => hs i hi) _ _ C.ua' v1)
  · rcases E'.heap id b hb with ⟨i, b0, e0, e1, rfl, rfl⟩ | ⟨e1, e2⟩
    · exact BR.ren.1 ((H1.blk i b0 e1).und (fun j hj => hs j hj) (heap1 i b0 e1).1 (heap1 i b0 e1).2)
    · exact (HH.blk id b e2).asWas hler k1.size (hsame id b e2 e1)
  · have cross : ∀ i b0 id' b' x x', lim0 ≤ i → h'.get i = some b0 → (∀ i, lim0 ≤ i → (h.get i).isSome = true → σ i ≠ id') → H.get id' = some b' → r' (σ i) = some x → r' id' = some x' → x.1 = x'.1 → σ i = id' := fun i b0 id' b' x x' e0 e1 e2 e3 y y' hxx => by
      have y2 : r id' = some x' := by rw [← hr' id' (hNX _ _ e3)]; exact y'
      cases hro : b0.ro with
      | true =>
        have e4 := C.keep.ro i b0 e1 hro
        have y1 : r (σ i) = some x := by rw [← hr' _ (E.old i (hin _ _ e4))]; exact y
        exact HH.inj _ _ _ _ _ _ (.inl (E.wr i e0 (hin _ _ e4))) (E.heap _ _ e0 e4) e3 y1 y2 hxx
      | false =>
        rw [hs i (heap1 i b0 e1).1] at y
        exact absurd (.inr ⟨id', b', x', e3, e2, y2, hxx.symm⟩) (H1.low i b0 x e1 e0 hro y)
    rcases E'.heap id b q with ⟨i, b0, e0, e1, rfl, rfl⟩ | ⟨e1, e2⟩ <;> rcases E'.heap id' b' q' with ⟨i', b0', e0', e1', rfl, rfl⟩ | ⟨e1', e2'⟩
    · rw [hs i (heap1 i b0 e1).1] at y
      rw [hs i' (heap1 i' b0' e1').1] at y'
      exact congrArg σ (H1.inj i i' b0 b0' x x' (.inl e0) e1 e1' y y' hxx)
    · exact cross i b0 id' b' x x' e0 e1 e1' e2' y y' hxx
    · exact (cross i' b0' id b x' x e0' e1' e1 e2 y' y hxx.symm).symm
    · refine HH.inj _ _ _ _ x x' hS e2 e2' ?_ ?_ hxx
      · rw [← hr' _ (hNX _ _ e2)]; exact y
      · rw [← hr' _ (hNX _ _ e2')]; exact y'
  · rcases E'.heap id b hb with ⟨i, b0, e0, e1, rfl, rfl⟩ | ⟨e1, e2⟩
    · rw [ren_ro] at hro
      rw [hs i (heap1 i b0 e1).1] at hx
      exact fun hp => H1.low i b0 x e1 e0 hro hx (.inl hp)
    · exact HH.low id b x e2 hl hro (by rw [← hr' id (hNX _ _ e2)]; exact hx)
end Clu
end Go.Proofs.Ythghohgjedjpbaa
