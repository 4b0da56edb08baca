/-
  Runs of closed calls by the kernel: regions whose order is drawn.
-/
import Derived.Test.YtlcggjaogbclkaaDoorCloZb
namespace Go.Proofs.YtlcggjaogbclkaaDoor
namespace Clo
open Go.RowKit
set_option linter.unusedVariables false
variable {P : Program}

section
variable {lim nt : Nat} {ops : List Oper} {X : Nat → Snap} (t : Tra P lim nt ops X) {p : Nat → Prop} {r0 : Rn} {w0 : World} {D : Nat → Prop} {e : Nat} {r : Rn} {act : Act} {w : World} (I : Inv P lim nt ops X p r0 w0 D e r act w)
  {i : Nat} {o : Oper} (ho : ops[i]? = some o) (hn : ¬ D i) (hm : ∀ j, (wts ops i).testBit j = true → D j)
include t I ho hn hm
/-- one operation more is done -/
theorem Inv.more {e' : Nat} {r' : Rn} {w' : World} {a : AV} {x : Value} (ha : ∀ d, o.dst = some d → (X (i + 1)).fr.get d = some a) (hd : ∀ d, o.dst = some d → d < nt) (hx : VR r' a x) (he : Ext (X i).nx (X (i + 1)).nx r r') (hk : Kp p w w')
    (hle : e' ≤ ops.length) (hbe : ∀ k, k < e' → Bar P ops X k → D k ∨ k = i) (hbh : ∀ k, e' ≤ k → (Bar P ops X k ∨ Iso P ops X k) → ¬ D k ∧ k ≠ i) (heb : e' < ops.length → Bar P ops X e') (hh : HR p lim r' (hD ops X (fun j => D j ∨ j = i) e') w') :
    Inv P lim nt ops X p r0 w0 (fun j => D j ∨ j = i) e' r' (act.put o.dst x) w' := by
  have hi := (List.getElem?_eq_some_iff.1 ho).1
  have hle' : Le r r' := he.le (I.free i hi hn)
  refine ⟨fun k j hkd hb => ?_, hle, hbe, fun k h1 h2 => ?_, heb, ?_, ?_, fun k u d hkd hu hud => ?_, fun d hd' => ?_, hh, fun k h1 h2 => ?_, fun id hid => ?_, I.kp.trans hk⟩
  · rcases hkd with hkd | rfl
    · exact .inl (I.closed k j hkd hb)
    · exact .inl (hm j hb)
  · have := hbh k h1 h2
    rintro (h | h)
    · exact this.1 h
    · exact this.2 h
  · have := I.size
    cases o.dst <;> simpa [Act.put] using this
  · have := I.defers
    cases o.dst <;> simpa [Act.put] using this
  · rcases hkd with hkd | rfl
    · have h1 := (I.new k u d hkd hu hud).mono hle'
      cases hod : o.dst with
      | none => exact h1
      | some d' =>
        have hne : d' ≠ d := fun he => hn (by rw [regionOk_once t.ok ho hu hod (he ▸ hud)]; exact hkd)
        simpa [Act.put, Array.getElem?_setIfInBounds_ne hne] using h1
    · rw [ho] at hu
      cases hu
      rw [hud]
      have hlt : d < act.tmps.size := by rw [I.size]; exact hd d hud
      rw [t.wrote ho hud (j := ops.length) hi (Nat.le_refl _), ha d hud]
      simpa [Act.put, hlt] using hx
  · have h1 := (I.old d fun k u hkd hu => hd' k u (.inl hkd) hu).mono hle'
    have h2 := hd' i o (.inr rfl) ho
    cases hod : o.dst with
    | none => exact h1
    | some d' =>
      have hne : d' ≠ d := fun he => h2 (by rw [hod, he])
      simpa [Act.put, Array.getElem?_setIfInBounds_ne hne] using h1
  · have hki : k ≠ i := fun h => h2 (.inr h)
    have hf := I.free k h1 fun h => h2 (.inl h)
    intro id h3 h4
    rw [he id]
    · exact hf id h3 h4
    · refine Classical.byContradiction fun hc => hki (t.apart h1 hi h3 h4 (by omega) (by omega))
  · have h1 := t.nx (i := 0) (j := i) (Nat.zero_le _) (by omega)
    have h2 := t.nx (i := i + 1) (j := ops.length) (by omega) (Nat.le_refl _)
    rw [he id (by omega), I.ext id hid]
theorem Inv.step {K : Act → World → Prop} {Q : Exit → Act → World → Prop} (hK : ∀ e' r' act' w', Inv P lim nt ops X p r0 w0 (fun j => D j ∨ j = i) e' r' act' w' → K act' w') : wpOp P ops.toArray Q i K act w := by
  have hi := (List.getElem?_eq_some_iff.1 ho).1
  obtain ⟨m, b, hmi, hbi, ⟨a, ha, hd, hlds, hs⟩, ht1, _⟩ := t.step i o ho
  have hwant := I.want t ho hn hm
  have henv := I.env t ho hn hm
  have ha' : ∀ d, o.dst = some d → (X (i + 1)).fr.get d = some a := fun d h => by rw [ha, if_pos h]
  have hbe : ∀ k, k < e → Bar P ops X k → D k ∨ k = i := fun k h1 h2 => .inl (I.before k h1 h2)
  -- operations that turn nothing that is there
  have calm : ∀ {n : Nat} {V h' : T}, ¬ Bar P ops X i → (X (i + 1)).nx = n → (X i).nx ≤ n → (hD ops X (fun j => D j ∨ j = i) e = fun id => if (X i).nx ≤ id ∧ id < (X (i + 1)).nx then h'.get id else hD ops X D e id) → (∀ k, e ≤ k → (Bar P ops X k ∨ Iso P ops X k) → k ≠ i) →
      (∀ j b, V.get j = some b → hD ops X D e j = some b) → (∀ j, (X i).nx ≤ j → V.get j = none) → wantedB ops (X i).fr o = true → (∃ l, (l = (X i).nx ∨ (∀ j, V.get j = none)) ∧ lim ≤ l ∧ OpOK P l o (X i).fr V (X i).nx a h' n ∧ ((X i).nx = n ∨ l = (X i).nx)) → wpOp P ops.toArray Q i K act w := by
    intro n V h' hnb hnx hle hfun hbh hsub hVt hw ⟨l, hl, hll, hok, hln⟩
    unfold wpOp
    rw [List.getElem?_toArray, ho]
    simp only
    rw [hwant, hw, if_pos rfl]
    refine .inl ?_
    subst hnx
    have HV : HR (· < w.heap.size) l r V.get w := I.heap.sub hsub (fun j b x h1 h2 h3 => by
      rcases hl with rfl | hl
      · rw [hVt j h2] at h1; cases h1
      · rw [hl j] at h1; cases h1) (fun k hk => hk) hll
    refine hok.2 _ r w act HV (I.free i hi hn) henv K Q fun x w' ⟨r', x1, x2, x3, x4⟩ => hK e r' _ w' ?_
    have hkp : Kp p w w' := x4.mono fun k hk => I.heap.bd k hk
    refine I.more t ho hn hm ha' hd x2 x1 hkp I.le hbe (fun k h1 h2 => ⟨I.behind k h1 h2, hbh k h1 h2⟩) I.ebar ?_
    rw [hfun]
    rcases hln with hln | hln
    · have hemp : ∀ id, ¬ ((X i).nx ≤ id ∧ id < (X (i + 1)).nx) := fun id => by omega
      have hr : r' = r := funext fun id => x1 id (by omega)
      subst hr
      have : (fun id => if (X i).nx ≤ id ∧ id < (X (i + 1)).nx then h'.get id else hD ops X D e id) = hD ops X D e := funext fun id => if_neg (hemp id)
      rw [this]
      refine ⟨fun id b hb => (I.heap.blk id b hb).mono (Le.refl _) x4.below, I.heap.inj, I.heap.low, fun k hk => Nat.lt_of_lt_of_le (I.heap.bd k hk) x4.size, I.heap.glob⟩
    · subst hln
      exact I.heap.join x3 x1 (I.free i hi hn) x4
  rcases hs with ⟨hw, rfl, h1, h2, h3, h4⟩ | ⟨hw, hl, ⟨h', hok⟩, h1, h2, h3, h4⟩ | ⟨hw, hl, hb, ⟨V, h', ids, hok, hV, hh, hids⟩, h1, h2⟩ | ⟨hw, hl, hb, ⟨V, h', hV, hok, hh, hld⟩, h1, h2⟩
  · unfold wpOp
    rw [List.getElem?_toArray, ho]
    simp only
    rw [hwant, hw, if_neg (by simp)]
    refine hK e r _ w (I.more t ho hn hm ha' hd ⟨[], rfl, rfl⟩ (Ext.refl _ _ _) (Kp.refl _ _) I.le hbe (fun k k1 k2 => ⟨I.behind k k1 k2, ?_⟩) I.ebar ?_)
    · rintro rfl
      rcases k2 with ⟨u, k3, _, k4, _⟩ | ⟨u, k3, _, k4, _⟩ <;> (rw [ho] at k3; cases k3; rw [hw] at k4; cases k4)
    · rw [hD_skip hi h3]
      exact I.heap
  · have hnb : ¬ Bar P ops X i := fun ⟨u, k3, k4, _⟩ => by rw [ho] at k3; cases k3; rw [hl] at k4; cases k4
    have hni : ¬ Iso P ops X i := fun ⟨u, k3, k4, _⟩ => by rw [ho] at k3; cases k3; rw [hl] at k4; cases k4
    refine calm (n := (X i).nx) (V := .e) (h' := h') hnb h3 (Nat.le_refl _) ?_ (fun k k1 k2 => ?_) (fun j b hj => ?_) (fun j _ => Tr.get_e j) hw ⟨lim, .inr fun j => Tr.get_e j, Nat.le_refl _, hok, .inl rfl⟩
    · rw [hD_skip hi h3]
      funext id
      rw [if_neg (by omega)]
    · rintro rfl
      rcases k2 with k2 | k2
      · exact hnb k2
      · exact hni k2
    · rw [Tr.get_e] at hj; cases hj
  · subst hb
    have hbar : Bar P ops X i := ⟨o, ho, hl, hw, hbi⟩
    have hie := I.bar_eq t hn hm hbar
    subst hie
    unfold wpOp
    rw [List.getElem?_toArray, ho]
    simp only
    rw [hwant, hw, if_pos rfl]
    refine .inl ?_
    have HX : HR p lim r (X i).h.get w := I.heap.sub (fun j b hj => I.view_bar t hn hm hbar hj) (fun j b x k1 k2 k3 => I.heap.low j b x (I.view_bar t hn hm hbar k1) k2 k3) I.heap.bd (Nat.le_refl _)
    have HV : HR (fun k => k < w.heap.size ∧ (p k ∨ ∃ id b x, id ∈ ids ∧ (X i).h.get id = some b ∧ r id = some x ∧ x.1 = k)) lim r V.get w := HX.sub (fun j b hj => by
        rw [hV] at hj
        split at hj
        · cases hj
        · exact hj) (fun j b x k1 k2 k3 => by
        rw [hV] at k1
        split at k1
        · cases k1
        · rename_i hno
          rintro ⟨_, hp | ⟨id, b', x', q1, q2, q3, q4⟩⟩
          · exact HX.low j b x k1 k2 k3 hp
          · exact hno (HX.inj id j b' b x' x (.inr (.inl k2)) q2 k1 q3 k3 q4 ▸ q1)) (fun k hk => hk.1) (Nat.le_refl _)
    obtain ⟨e', k1, k2, k3, k4⟩ := next_bar (P := P) (ops := ops) (X := X) (i := i + 1) (by omega)
    refine hok.2 _ r w act HV (I.free i hi hn) henv K Q fun x w' ⟨r', x1, x2, x30, x40⟩ => hK e' r' _ w' ?_
    have x4 : Kp p w w' := x40.mono fun k hk => ⟨HX.bd k hk, .inl hk⟩
    have x3 : HR p lim r' (X (i + 1)).h.get w' := by
      have := HX.back (n := (X i).nx) (n' := (X (i + 1)).nx) (V := V.get) (h' := h'.get) hV x30 x1 (I.free i hi hn) hok.1.old x40
      rw [show (X (i + 1)).h.get = fun id => if id ∈ ids then (X i).h.get id else h'.get id from funext hh]
      exact this
    refine I.more t ho hn hm ha' hd x2 x1 x4 k2 (fun k q1 q2 => ?_) (fun k q1 q2 => ⟨I.behind k (by omega) q2, by omega⟩) k4 ?_
    · rcases Nat.lt_trichotomy k i with h | h | h
      · exact .inl (I.before k h q2)
      · exact .inr h
      · exact absurd q2 (k3 k h q1)
    · have key : ∀ j b, hD ops X (fun j => D j ∨ j = i) e' j = some b → (X (i + 1)).h.get j = some b := fun j b hj => by
        unfold hD at hj
        split at hj
        · cases hj
        · rename_i hno
          have hjl := t.some_lt k2 hj
          by_cases hji : j < (X (i + 1)).nx
          · rw [← (t.keeps k1 k2 k3).1 j hji]; exact hj
          · obtain ⟨k, q1, q2, q3, q4⟩ := locate_id k1 k2 (by omega) hjl
            refine absurd ⟨k, by omega, ?_, q3, q4⟩ hno
            rintro (h | h)
            · exact I.behind k (by omega) (t.heavy (by omega) (by omega)) h
            · omega
      exact x3.sub key (fun j b x q1 q2 q3 => x3.low j b x (key j b q1) q2 q3) x3.bd (Nat.le_refl _)
  · subst hb
    have hiso : Iso P ops X i := ⟨o, ho, hl, hw, hbi⟩
    have hnb : ¬ Bar P ops X i := fun ⟨u, _, _, _, k4⟩ => by rw [hbi] at k4; cases k4
    have hie := I.iso_lt t hm hiso
    have hVt : ∀ j, (X i).nx ≤ j → V.get j = none := fun j hj => by
      have key : ∀ {W : T}, (∀ j, (X i).nx ≤ j → W.get j = none) → (∀ j b, V.get j = some b → W.get j = some b) → V.get j = none := fun {W} h1 h2 => by
        cases hv : V.get j with
        | none => rfl
        | some b => have := h2 j b hv; rw [h1 j hj] at this; cases this
      rcases hV with ⟨hV, _⟩ | hV
      · exact key (t.top (by omega)).2 hV
      · refine key (fun j hj => ?_) hV
        cases i with
        | zero => rw [t.s0]; exact t.top0.2 j hj
        | succ i =>
          obtain ⟨_, _, _, _, _, _, h⟩ := t.step i ops[i] (List.getElem?_eq_getElem (by omega))
          exact h j hj
    have hld' : Ld ops i → (X (i + 1)).nx = (X i).nx ∧ ∃ id, (i, id) ∈ (X (i + 1)).lds ∧ ∀ j, j ≠ id → V.get j = none := fun ⟨u, hu, hu'⟩ => by
      rw [ho] at hu
      cases hu
      exact hld hu'
    refine calm (n := (X (i + 1)).nx) (V := V) (h' := h') hnb rfl hok.1.le ?_ (fun k k1 _ => by omega) (fun j b hj => I.view_iso t hn hm hiso (wts_of hmi) hV (fun h => (hld' h).2) hj) hVt hw ⟨(X i).nx, .inl rfl, (t.top (Nat.le_of_lt hi)).1, hok, .inr rfl⟩
    by_cases hL : Ld ops i
    · rw [hD_skip hi (hld' hL).1]
      funext id
      rw [if_neg (by have := (hld' hL).1; omega)]
    · exact t.hD_iso hi hie I.le (fun k k1 k2 hb => hL (I.bars t hn hiso (by omega) k2 hb).1) hh
end
end Clo
end Go.Proofs.YtlcggjaogbclkaaDoor
