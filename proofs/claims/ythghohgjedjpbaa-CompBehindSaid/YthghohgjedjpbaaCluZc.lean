/-
  Runs of closed calls by the kernel: regions whose order is drawn.
-/
import Derived.Test.YthghohgjedjpbaaCluZb
namespace Go.Proofs.Ythghohgjedjpbaa
namespace Clu
open Go.RowKit
set_option linter.unusedVariables false
variable {P : Program}

section
variable {lim nt : Nat} {ops : List Oper} {L : Nat} {Ds : List Deferred} {X : Nat → Snap} (t : Tra P lim nt ops L X) {p : Nat → Prop} {r0 : Rn} {w0 : World} {D : Nat → Prop} {e : Nat} {r : Rn} {act : Act} {w : World} (I : Inv P lim nt ops L Ds X p r0 w0 D e r act w)
  {i : Nat} {o : Oper} (hiL : i < L) (ho : ops[i]? = some o) (hn : ¬ D i) (hm : ∀ j, (wts ops i).testBit j = true → D j)
include t I hiL ho hn hm
/-- one operation more is done -/
theorem Inv.more {e' : Nat} {r' : Rn} {w' : World} {a : AV} {x : Value} (ha : ∀ d, o.dst = some d → (X (i + 1)).fr.get d = some a) (hd : ∀ d, o.dst = some d → d < nt) (hx : VR r' a x) (he : Ext (X i).nx (X (i + 1)).nx r r') (hk : Kp p w w')
    (hle : e' ≤ L) (hbe : ∀ k, k < e' → Bar P L ops X k → D k ∨ k = i) (hbh : ∀ k, e' ≤ k → (Bar P L ops X k ∨ Iso P L ops X k) → ¬ D k ∧ k ≠ i) (heb : e' < L → Bar P L ops X e') (hh : HR p lim r' (hD L X (fun j => D j ∨ j = i) e') w') :
    Inv P lim nt ops L Ds X p r0 w0 (fun j => D j ∨ j = i) e' r' (act.put o.dst x) w' := by
  have hi := hiL
  have hle' : Le r r' := he.le (I.free i hi hn)
  refine ⟨fun k j hkd hb => ?_, hle, hbe, fun k h1 h2 => ?_, heb, ?_, ?_, fun k u d hkd hu hud => ?_, fun d hd' => ?_, hh, fun k h1 h2 => ?_, fun id hid => ?_, I.kp.trans hk⟩
  · rcases hkd with hkd | rfl
    · exact .inl (I.closed k j hkd hb)
    · exact .inl (hm j hb)
  · have := hbh k h1 h2
    rintro (h | h)
    · exact this.1 h
    · exact this.2 h
  · have := I.size
    cases o.dst <;> simpa [Act.put] using this
  · have := I.defers
    cases o.dst <;> simpa [Act.put] using this
  · rcases hkd with hkd | rfl
    · have h1 := (I.new k u d hkd hu hud).mono hle'
      cases hod : o.dst with
      | none => exact h1
      | some d' =>
        have hne : d' ≠ d := fun he => hn (by rw [regionOk_once t.ok ho hu hod (he ▸ hud)]; exact hkd)
        simpa [Act.put, Array.getElem?_setIfInBounds_ne hne] using h1
    · rw [ho] at hu
      cases hu
      rw [hud]
      have hlt : d < act.tmps.size := by rw [I.size]; exact hd d hud
      rw [t.wrote ho hud (j := L) hi (Nat.le_refl _), ha d hud]
      simpa [Act.put, hlt] using hx
  · have h1 := (I.old d fun k u hkd hu => hd' k u (.inl hkd) hu).mono hle'
    have h2 := hd' i o (.inr rfl) ho
    cases hod : o.dst with
    | none => exact h1
    | some d' =>
      have hne : d' ≠ d := fun he => h2 (by rw [hod, he])
      simpa [Act.put, Array.getElem?_setIfInBounds_ne hne] using h1
  · have hki : k ≠ i := fun h => h2 (.inr h)
    have hf := I.free k h1 fun h => h2 (.inl h)
    intro id h3 h4
    rw [he id]
    · exact hf id h3 h4
    · refine Classical.byContradiction fun hc => hki (t.apart h1 hi h3 h4 (by omega) (by omega))
  · have h1 := t.nx (i := 0) (j := i) (Nat.zero_le _) (by omega)
    have h2 := t.nx (i := i + 1) (j := L) (by omega) (Nat.le_refl _)
    rw [he id (by omega), I.ext id hid]
theorem Inv.step {K : Act → World → Prop} {Q : Exit → Act → World → Prop} (hK : ∀ e' r' act' w', Inv P lim nt ops L Ds X p r0 w0 (fun j => D j ∨ j = i) e' r' act' w' → (∀ x, (X (i + 1)).av ≠ .pa x) → K act' w')
    (hP : ∀ x c w', (X (i + 1)).av = .pa x → (∃ z r', c = [{ v := z, recovered := false }] ∧ Ext (X i).nx (X (i + 1)).nx r r' ∧ VR r' x z ∧ Kp p w w' ∧
      ∀ H : Nat → Option Blk, (∀ id b, H id = some b → (X (i + 1)).h.get id = some b ∧ ¬ ∃ k, k < i ∧ ¬ D k ∧ (X k).nx ≤ id ∧ id < (X (k + 1)).nx) → HR p lim r' H w') → Q (.panic c) act w') : wpOp P ops.toArray Q i K act w := by
  have hi := hiL
  obtain ⟨m, b, hmi, hbi, ⟨a, hav, ha, hd, hlds, hs⟩, ht1⟩ := t.step i o hiL ho
  have hwant := I.want t hiL ho hn hm
  have henv := I.env t hiL ho hn hm
  have ha' : ∀ d, o.dst = some d → (X (i + 1)).fr.get d = some a := fun d h => by rw [ha, if_pos h]
  have hbe : ∀ k, k < e → Bar P L ops X k → D k ∨ k = i := fun k h1 h2 => .inl (I.before k h1 h2)
  -- operations that turn nothing that is there
  have calm : ∀ {n : Nat} {V h' : T}, (∀ x, a ≠ .pa x) → ¬ Bar P L ops X i → (X (i + 1)).nx = n → (X i).nx ≤ n → (hD L X (fun j => D j ∨ j = i) e = fun id => if (X i).nx ≤ id ∧ id < (X (i + 1)).nx then h'.get id else hD L X D e id) → (∀ k, e ≤ k → (Bar P L ops X k ∨ Iso P L ops X k) → k ≠ i) →
      (∀ j b, V.get j = some b → hD L X D e j = some b) → (∀ j, (X i).nx ≤ j → V.get j = none) → wantedB ops (X i).fr o = true → (∃ l, (l = (X i).nx ∨ (∀ j, V.get j = none)) ∧ lim ≤ l ∧ OpOK P l o (X i).fr V (X i).nx a h' n ∧ ((X i).nx = n ∨ l = (X i).nx)) → wpOp P ops.toArray Q i K act w := by
    intro n V h' hpa hnb hnx hle hfun hbh hsub hVt hw ⟨l, hl, hll, hok, hln⟩
    unfold wpOp
    rw [List.getElem?_toArray, ho]
    simp only
    rw [hwant, hw, if_pos rfl]
    refine .inl ?_
    subst hnx
    have HV : HR (· < w.heap.size) l r V.get w := I.heap.sub hsub (fun j b x h1 h2 h0 h3 => by
      rcases hl with rfl | hl
      · rw [hVt j h2] at h1; cases h1
      · rw [hl j] at h1; cases h1) (fun k hk => hk) hll
    refine hok.2 _ r w act HV (I.free i hi hn) henv K Q (fun x w' ⟨r', x1, x2, x3, x4⟩ => hK e r' _ w' ?_ (hav ▸ hpa)) fun c w' hL => (no_pa hpa hL).elim
    have hkp : Kp p w w' := x4.mono fun k hk => I.heap.bd k hk
    refine I.more t hiL ho hn hm ha' hd x2 x1 hkp I.le hbe (fun k h1 h2 => ⟨I.behind k h1 h2, hbh k h1 h2⟩) I.ebar ?_
    rw [hfun]
    rcases hln with hln | hln
    · have hemp : ∀ id, ¬ ((X i).nx ≤ id ∧ id < (X (i + 1)).nx) := fun id => by omega
      have hr : r' = r := funext fun id => x1 id (by omega)
      subst hr
      have : (fun id => if (X i).nx ≤ id ∧ id < (X (i + 1)).nx then h'.get id else hD L X D e id) = hD L X D e := funext fun id => if_neg (hemp id)
      rw [this]
      refine ⟨fun id b hb => (I.heap.blk id b hb).mono (Le.refl _) x4.below, I.heap.inj, I.heap.low, fun k hk => Nat.lt_of_lt_of_le (I.heap.bd k hk) x4.size, I.heap.glob⟩
    · subst hln
      exact I.heap.join x3 x1 (I.free i hi hn) x4 fun id b hn hb => by
        cases hr : b.ro with
        | false => rfl
        | true => have := hok.1.ro id b hb hr; rw [hVt id hn] at this; cases this
  rcases hs with ⟨hw, e0, h1, h3, h4⟩ | ⟨hw, hl, hpa, ⟨h', hok⟩, h1, h3, h4⟩ | ⟨hw, hl, hb, hfr, hbb, ⟨V, h', ids, hok, hV, hh, hids⟩, h1⟩ | ⟨hw, hl, hb, hpa, ⟨V, h', hV, hN, hok, hh, hld, hmk⟩, h1⟩
  · unfold wpOp
    rw [List.getElem?_toArray, ho]
    simp only
    rw [hwant, hw, if_neg (by simp)]
    subst e0
    refine hK e r _ w (I.more t hiL ho hn hm ha' hd ⟨[], rfl, rfl⟩ (Ext.refl _ _ _) (Kp.refl _ _) I.le hbe (fun k k1 k2 => ⟨I.behind k k1 k2, ?_⟩) I.ebar ?_) (fun x hx => by rw [← hav] at hx; cases hx)
    · rintro rfl
      rcases k2 with ⟨_, u, k3, _, k4, _⟩ | ⟨_, u, k3, _, k4, _⟩ <;> (rw [ho] at k3; cases k3; rw [hw] at k4; cases k4)
    · rw [hD_skip hi h3]
      exact I.heap
  · have hnb : ¬ Bar P L ops X i := fun ⟨_, u, k3, k4, _⟩ => by rw [ho] at k3; cases k3; rw [hl] at k4; cases k4
    have hni : ¬ Iso P L ops X i := fun ⟨_, u, k3, k4, _⟩ => by rw [ho] at k3; cases k3; rw [hl] at k4; cases k4
    refine calm (n := (X i).nx) (V := .e) (h' := h') hpa hnb h3 (Nat.le_refl _) ?_ (fun k k1 k2 => ?_) (fun j b hj => ?_) (fun j _ => Tr.get_e j) hw ⟨lim, .inr fun j => Tr.get_e j, Nat.le_refl _, hok, .inl rfl⟩
    · rw [hD_skip hi h3]
      funext id
      rw [if_neg (by omega)]
    · rintro rfl
      rcases k2 with k2 | k2
      · exact hnb k2
      · exact hni k2
    · rw [Tr.get_e] at hj; cases hj
  · have hbar : Bar P L ops X i := ⟨hiL, o, ho, hl, hw, hb⟩
    have hie := I.bar_eq t hn hm hbar
    subst hie
    unfold wpOp
    rw [List.getElem?_toArray, ho]
    simp only
    rw [hwant, hw, if_pos rfl]
    refine .inl ?_
    have hids' : ∀ j id q, (j, id, q) ∈ (X i).lds → (wts ops i).testBit j = false → id ∈ ids := fun j id q h1 h2 => (hids j id q h1 (by rw [← wts_of hmi]; exact h2)).1
    have hg : ∀ j, j ∉ ids → hD L X D i j = (X i).h.get j := fun j hj => I.view_bar t hn hm hbar hids' hj
    have hV' : ∀ id, id ∉ ids → V.get id = hD L X D i id := fun id hid => by rw [hV.1 id hid, hg id hid]
    have hV2 : ∀ id b, id ∈ ids → V.get id = some b → ∃ cs fz osz pl, hD L X D i id = some (.c cs fz osz pl) ∧ b = .c cs (cs.length + 1) 0 none := fun id b hid hb => by
      obtain ⟨cs, fz, osz, pl, q1, q2⟩ := hV.2 id b hid hb
      refine ⟨cs, fz, osz, pl, ?_, q2⟩
      have hjl := t.some_lt (Nat.le_of_lt hi) q1
      unfold hD
      rw [if_neg, q1]
      rintro ⟨k, s1, s2, s3, s4⟩
      have hk : k < i := Nat.lt_of_not_le fun hle => by have := t.nx (i := i) (j := k) hle (by omega); omega
      rcases t.pair hbar (t.heavy s1 (by omega)) (by omega) with h | h | h
      · exact s2 (hm k h.1)
      · omega
      · cases hx : (wts ops i).testBit k with
        | true => exact s2 (hm k hx)
        | false =>
          obtain ⟨q, hq, hq1⟩ := t.ld_new h.2.1 h.1 s3 s4
          have := (hids k id q (t.lds hq (by omega) (by omega)) (by rw [← wts_of hmi]; exact hx)).2 hq1
          rw [this] at hb
          cases hb
    have HV : HR (fun k => k < w.heap.size ∧ (p k ∨ ∃ id b x, id ∈ ids ∧ hD L X D i id = some b ∧ r id = some x ∧ x.1 = k)) lim r V.get w := I.heap.hid hV' hV2 (fun j b x k1 k2 k0 k3 => by
        by_cases hij : j ∈ ids
        · obtain ⟨cs, fz, osz, pl, q1, rfl⟩ := hV2 j b hij k1
          exact absurd k0 (by show ¬ (Nat.blt cs.length (cs.length + 1) = false); rw [blt_iff.2 (Nat.lt_succ_self _)]; simp)
        · rw [hV' j hij] at k1
          rintro ⟨_, hp | ⟨id, b', x', q1, q2, q3, q4⟩⟩
          · exact I.heap.low j b x k1 k2 k0 k3 hp
          · exact hij (I.heap.inj id j b' b x' x (.inr (.inl k2)) q2 k1 q3 k3 q4 ▸ q1)) (fun k hk => hk.1)
    obtain ⟨e', k1, k2, k3, k4⟩ := next_bar (P := P) (L := L) (ops := ops) (X := X) (i := i + 1) (by omega)
    have hpan : ∀ c w', LeftA (fun k => k < w.heap.size ∧ (p k ∨ ∃ id b x, id ∈ ids ∧ hD L X D i id = some b ∧ r id = some x ∧ x.1 = k)) lim r (X i).nx (X (i + 1)).nx h' a w c w' → Q (.panic c) act w' := fun c w' ⟨x, z, r', q0, q1, x1, x2, x30, x40⟩ => by
      refine hP x c w' (hav ▸ q0) ⟨z, r', q1, x1, x2, x40.mono fun k hk => ⟨I.heap.bd k hk, .inl hk⟩, fun H hH => ?_⟩
      have x3 : HR p lim r' (fun id => if id ∈ ids then hD L X D i id else h'.get id) w' := I.heap.back (n := (X i).nx) (n' := (X (i + 1)).nx) (V := V.get) (h' := h'.get) hV' x30 x1 (I.free i hi hn) hok.1.old hok.1.ro x40
      have key : ∀ j b, H j = some b → (if j ∈ ids then hD L X D i j else h'.get j) = some b := fun j b hj => by
        obtain ⟨k1, k2⟩ := hH j b hj
        rw [hh] at k1
        split
        · rename_i hid
          rw [if_pos hid] at k1
          have hjl := t.some_lt (Nat.le_of_lt hi) k1
          unfold hD
          rw [if_neg, k1]
          rintro ⟨k, q1, q2, q3, q4⟩
          refine k2 ⟨k, Nat.lt_of_not_le fun hle => ?_, q2, q3, q4⟩
          have := t.nx (i := i) (j := k) hle (by omega)
          omega
        · rename_i hid
          rw [if_neg hid] at k1
          exact k1
      exact x3.sub key (fun j b x q1 q2 q0 q3 => x3.low j b x (key j b q1) q2 q0 q3) x3.bd (Nat.le_refl _)
    refine hok.2 _ r w act HV (I.free i hi hn) henv K Q (fun x w' ⟨r', x1, x2, x30, x40⟩ => hK e' r' _ w' ?_ (fun y hy => by rw [← hav] at hy; rw [hy] at x2; exact x2)) hpan
    have x4 : Kp p w w' := x40.mono fun k hk => ⟨I.heap.bd k hk, .inl hk⟩
    have x3 : HR p lim r' (fun id => if id ∈ ids then hD L X D i id else h'.get id) w' := I.heap.back (n := (X i).nx) (n' := (X (i + 1)).nx) (V := V.get) (h' := h'.get) hV' x30 x1 (I.free i hi hn) hok.1.old hok.1.ro x40
    refine I.more t hiL ho hn hm ha' hd x2 x1 x4 k2 (fun k q1 q2 => ?_) (fun k q1 q2 => ⟨I.behind k (by omega) q2, by omega⟩) k4 ?_
    · rcases Nat.lt_trichotomy k i with h | h | h
      · exact .inl (I.before k h q2)
      · exact .inr h
      · exact absurd q2 (k3 k h q1)
    · have key : ∀ j b, hD L X (fun j => D j ∨ j = i) e' j = some b → (if j ∈ ids then hD L X D i j else h'.get j) = some b := fun j b hj => by
        unfold hD at hj
        split at hj
        · cases hj
        · rename_i hno
          have hjl := t.some_lt k2 hj
          by_cases hji : j < (X (i + 1)).nx
          · rw [t.keeps k1 k2 k3 j hji, hh] at hj
            split
            · rename_i hid
              rw [if_pos hid] at hj
              have hjl' := t.some_lt (Nat.le_of_lt hi) hj
              unfold hD
              rw [if_neg, hj]
              rintro ⟨k, q1, q2, q3, q4⟩
              refine hno ⟨k, q1, ?_, q3, q4⟩
              rintro (h | h)
              · exact q2 h
              · subst h; omega
            · rename_i hid
              rw [if_neg hid] at hj
              exact hj
          · obtain ⟨k, q1, q2, q3, q4⟩ := locate_id k1 k2 (by omega) hjl
            refine absurd ⟨k, by omega, ?_, q3, q4⟩ hno
            rintro (h | h)
            · exact I.behind k (by omega) (t.heavy (by omega) (by omega)) h
            · omega
      exact x3.sub key (fun j b x q1 q2 q0 q3 => x3.low j b x (key j b q1) q2 q0 q3) x3.bd (Nat.le_refl _)
  · have hiso : Iso P L ops X i := ⟨hiL, o, ho, hl, hw, hb⟩
    have hnb : ¬ Bar P L ops X i := fun ⟨_, u, _, _, _, k4⟩ => by rw [hb] at k4; cases k4
    have hie := I.iso_lt t hm hiso
    have hVt : ∀ j, (X i).nx ≤ j → V.get j = none := fun j hj => by
      cases hv : V.get j with
      | none => rfl
      | some b => have := hV j b hv; rw [(t.top (Nat.le_of_lt hi)).2 j hj] at this; cases this
    have hld' : Ld ops i → (∀ j, V.get j = none) ∨ (X (i + 1)).nx = (X i).nx ∧ ∃ id, (i, id, false) ∈ (X (i + 1)).lds ∧ ∀ j, j ≠ id → V.get j = none := fun ⟨u, hu, hu'⟩ => by
      rw [ho] at hu
      cases hu
      rcases hu' with hu' | hu'
      · exact .inr (hld hu')
      · exact .inl (hmk hu').2.2
    refine calm (n := (X (i + 1)).nx) (V := V) (h' := h') hpa hnb rfl hok.1.le ?_ (fun k k1 _ => by omega) (fun j b hj => I.view_iso t hn hm hiso (wts_of hmi) hV hN hld' hj) hVt hw ⟨(X i).nx, .inl rfl, (t.top (Nat.le_of_lt hi)).1, hok, .inr rfl⟩
    refine t.hD_iso hi fun id q1 q2 => ?_
    by_cases hL : Ld ops i
    · obtain ⟨q, hq, _⟩ := t.ld_new hiso hL q1 q2
      rw [I.stays t hn hiso hq q2 (k := e) hie (Nat.le_refl _), hh, if_pos ⟨q1, q2⟩]
    · rw [t.keeps (i := i + 1) (j := e) hie I.le (fun k k1 k2 hb => hL (I.bars t hn hiso (by omega) k2 hb).1) id q2, hh, if_pos ⟨q1, q2⟩]
end
end Clu
end Go.Proofs.Ythghohgjedjpbaa
