/-
  Runs of closed calls by the kernel: what the run through a region whose order is drawn keeps.
-/
import Derived.Test.YtlcggjaogbclkaaDoorCloZ
namespace Go.Proofs.YtlcggjaogbclkaaDoor
namespace Clo
open Go.RowKit
set_option linter.unusedVariables false
variable {P : Program}

structure Tra (P : Program) (lim nt : Nat) (ops : List Oper) (X : Nat → Snap) : Prop where
  step : ∀ (i : Nat) (o : Oper), ops[i]? = some o → ∃ m b, (masks ops)[i]? = some m ∧ (barsL P ops)[i]? = some b ∧ Step P lim nt ops i o m b (X i) (X (i + 1)) ∧ Top lim (X (i + 1)).h (X (i + 1)).nx ∧ ∀ x, (X (i + 1)).nx ≤ x → (X (i + 1)).S.get x = none
  top0 : Top lim (X 0).h (X 0).nx
  s0 : (X 0).S = (X 0).h
  ok : regionOk ops = true
def Bar (P : Program) (ops : List Oper) (X : Nat → Snap) (i : Nat) : Prop := ∃ o, ops[i]? = some o ∧ lightO P o = false ∧ wantedB ops (X i).fr o = true ∧ (barsL P ops)[i]? = some true
def Iso (P : Program) (ops : List Oper) (X : Nat → Snap) (i : Nat) : Prop := ∃ o, ops[i]? = some o ∧ lightO P o = false ∧ wantedB ops (X i).fr o = true ∧ (barsL P ops)[i]? = some false
section
variable {lim nt : Nat} {ops : List Oper} {X : Nat → Snap} (t : Tra P lim nt ops X)
include t
theorem Tra.top {i : Nat} (hi : i ≤ ops.length) : Top lim (X i).h (X i).nx := by
  cases i with
  | zero => exact t.top0
  | succ i =>
    obtain ⟨m, b, _, _, _, h, _⟩ := t.step i ops[i] (List.getElem?_eq_getElem (by omega))
    exact h
theorem Tra.quiet {i : Nat} (hi : i < ops.length) (hb : ¬ Bar P ops X i) (hs : ¬ Iso P ops X i) : (X (i + 1)).h = (X i).h ∧ (X (i + 1)).S = (X i).S ∧ (X (i + 1)).nx = (X i).nx ∧ (X (i + 1)).news = (X i).news := by
  have ho := List.getElem?_eq_getElem hi
  obtain ⟨m, b, h1, h2, ⟨a, _, _, _, h⟩, _⟩ := t.step i ops[i] ho
  rcases h with ⟨_, _, h⟩ | ⟨_, _, _, h⟩ | ⟨h3, h4, h5, _⟩ | ⟨h3, h4, h5, _⟩
  · exact h
  · exact h
  · subst h5; exact absurd ⟨_, ho, h4, h3, h2⟩ hb
  · subst h5; exact absurd ⟨_, ho, h4, h3, h2⟩ hs
theorem Tra.bar {i : Nat} (hi : i < ops.length) (hb : Bar P ops X i) : Keeps lim (X i).h (X i).nx (X (i + 1)).h (X (i + 1)).nx ∧ (X (i + 1)).S = (X (i + 1)).h ∧ (X (i + 1)).news = 0 ∧ ∀ j id, (j, id) ∈ (X i).lds → (wts ops i).testBit j = false → (X (i + 1)).h.get id = (X i).h.get id := by
  obtain ⟨o, ho, hl, hw, hbs⟩ := hb
  obtain ⟨m, b, h1, h2, ⟨a, _, _, _, h⟩, htop, _⟩ := t.step i o ho
  have ht := t.top (i := i) (by omega)
  rcases h with ⟨h3, _⟩ | ⟨_, h3, _⟩ | ⟨h3, h4, h5, ⟨V, h', ids, h6, hV, hh, hids⟩, h7, h8⟩ | ⟨h3, h4, h5, _⟩
  · rw [hw] at h3; cases h3
  · rw [hl] at h3; cases h3
  · refine ⟨⟨h6.1.le, fun j hj => ?_, fun j hj hr => ?_⟩, h7, h8, fun j id hj hm => ?_⟩
    · rw [hh]
      split
      · rfl
      · rename_i hn
        rw [h6.1.old j hj, hV, if_neg hn]
    · rw [hh]
      split
      · exact hj
      · rename_i hn
        exact h6.1.out j (by rw [hV, if_neg hn]; exact hj) hr
    · rw [hh, if_pos (hids j id hj (by rw [← wts_of h1]; exact hm))]
  · rw [hbs] at h2; cases h2; cases h5
theorem Tra.iso {i : Nat} (hb : Iso P ops X i) : (∃ V h', (∀ id, (X (i + 1)).h.get id = if (X i).nx ≤ id ∧ id < (X (i + 1)).nx then h'.get id else (X i).h.get id) ∧ Keeps (X i).nx V (X i).nx h' (X (i + 1)).nx) ∧
    (X (i + 1)).S = (X i).S ∧ ((X (i + 1)).news = Nat.lor (X i).news (Nat.pow 2 i) ∨ ((X (i + 1)).nx = (X i).nx ∧ (X (i + 1)).news = (X i).news)) ∧ ∀ o, ops[i]? = some o → isLd o = true → (X (i + 1)).nx = (X i).nx := by
  obtain ⟨o, ho, hl, hw, hbs⟩ := hb
  obtain ⟨m, b, h1, h2, ⟨a, _, _, _, h⟩, _⟩ := t.step i o ho
  rcases h with ⟨h3, _⟩ | ⟨_, h3, _⟩ | ⟨h3, h4, h5, _⟩ | ⟨h3, h4, h5, ⟨V, h', h6, h7, h8, h8'⟩, h9, h10⟩
  · rw [hw] at h3; cases h3
  · rw [hl] at h3; cases h3
  · rw [hbs] at h2; cases h2; cases h5
  · refine ⟨⟨V, h', h8, h7.1⟩, h9, h10, fun u hu hld => ?_⟩
    rw [ho] at hu
    cases hu
    exact (h8' hld).1
theorem Tra.lds1 {i : Nat} (hi : i < ops.length) {x : Nat × Nat} (hx : x ∈ (X i).lds) : x ∈ (X (i + 1)).lds := by
  obtain ⟨m, b, _, _, ⟨a, _, _, h, _⟩, _⟩ := t.step i ops[i] (List.getElem?_eq_getElem hi)
  exact h x hx
theorem Tra.lds {i : Nat} {x : Nat × Nat} (hx : x ∈ (X i).lds) : ∀ {j : Nat}, i ≤ j → j ≤ ops.length → x ∈ (X j).lds
  | 0, h, _ => by rw [show i = 0 from by omega] at hx; exact hx
  | j + 1, h, hj => by
    by_cases e : i = j + 1
    · rw [← e]; exact hx
    · exact t.lds1 (by omega) (Tra.lds hx (j := j) (by omega) (by omega))
theorem Tra.nx1 {i : Nat} (hi : i < ops.length) : (X i).nx ≤ (X (i + 1)).nx := by
  by_cases hb : Bar P ops X i
  · exact (t.bar hi hb).1.le
  · by_cases hs : Iso P ops X i
    · obtain ⟨⟨V, h', _, h⟩, _⟩ := t.iso hs
      exact h.le
    · exact Nat.le_of_eq (t.quiet hi hb hs).2.2.1.symm
theorem Tra.nx {i : Nat} : ∀ {j : Nat}, i ≤ j → j ≤ ops.length → (X i).nx ≤ (X j).nx
  | 0, h, _ => by rw [show i = 0 from by omega]; exact Nat.le_refl _
  | j + 1, h, hj => by
    by_cases e : i = j + 1
    · rw [e]; exact Nat.le_refl _
    · exact Nat.le_trans (Tra.nx (j := j) (by omega) (by omega)) (t.nx1 (by omega))
theorem Tra.heavy {i : Nat} (hi : i < ops.length) (h : (X i).nx < (X (i + 1)).nx) : Bar P ops X i ∨ Iso P ops X i := by
  by_cases hb : Bar P ops X i
  · exact .inl hb
  · by_cases hs : Iso P ops X i
    · exact .inr hs
    · have := (t.quiet hi hb hs).2.2.1; omega
theorem Tra.keep {i : Nat} (hi : i < ops.length) (hb : ¬ Bar P ops X i) : (∀ id, id < (X i).nx → (X (i + 1)).h.get id = (X i).h.get id) ∧ (X (i + 1)).S = (X i).S := by
  by_cases hs : Iso P ops X i
  · obtain ⟨⟨V, h', h1, _⟩, h2, _⟩ := t.iso hs
    exact ⟨fun id hid => by rw [h1, if_neg (by omega)], h2⟩
  · obtain ⟨h1, h2, _⟩ := t.quiet hi hb hs
    exact ⟨fun id _ => by rw [h1], h2⟩
theorem Tra.keeps {i : Nat} : ∀ {j : Nat}, i ≤ j → j ≤ ops.length → (∀ k, i ≤ k → k < j → ¬ Bar P ops X k) → (∀ id, id < (X i).nx → (X j).h.get id = (X i).h.get id) ∧ (X j).S = (X i).S
  | 0, h, _, _ => by rw [show i = 0 from by omega]; exact ⟨fun _ _ => rfl, rfl⟩
  | j + 1, h, hj, hn => by
    by_cases e : i = j + 1
    · rw [e]; exact ⟨fun _ _ => rfl, rfl⟩
    · obtain ⟨h1, h2⟩ := Tra.keeps (j := j) (by omega) (by omega) fun k h1 h2 => hn k h1 (by omega)
      obtain ⟨h3, h4⟩ := t.keep (i := j) (by omega) (hn j (by omega) (by omega))
      have := t.nx (i := i) (j := j) (by omega) (by omega)
      exact ⟨fun id hid => by rw [h3 id (by omega), h1 id hid], by rw [h4, h2]⟩
theorem Tra.seg : ∀ {i : Nat}, i ≤ ops.length → ∃ q, q ≤ i ∧ (q = 0 ∨ ∃ g, q = g + 1 ∧ Bar P ops X g) ∧ (∀ k, q ≤ k → k < i → ¬ Bar P ops X k) ∧ (X i).S = (X q).h ∧ ∀ j, q ≤ j → j < i → (X j).nx < (X (j + 1)).nx → (X i).news.testBit j = true
  | 0, _ => ⟨0, Nat.le_refl _, .inl rfl, fun k _ hk => (by omega), t.s0, fun j _ hj => (by omega)⟩
  | i + 1, hi => by
    obtain ⟨q, h1, h2, h3, h4, h5⟩ := Tra.seg (i := i) (by omega)
    by_cases hb : Bar P ops X i
    · obtain ⟨_, h6, _⟩ := t.bar (by omega) hb
      exact ⟨i + 1, Nat.le_refl _, .inr ⟨i, rfl, hb⟩, fun k _ hk => (by omega), h6, fun j _ hj => (by omega)⟩
    · refine ⟨q, by omega, h2, fun k hk1 hk2 => ?_, by rw [(t.keep (by omega) hb).2, h4], fun j hj1 hj2 hj3 => ?_⟩
      · by_cases e : k = i
        · subst e; exact hb
        · exact h3 k hk1 (by omega)
      · by_cases hs : Iso P ops X i
        · obtain ⟨_, _, h6 | ⟨h6, h7⟩, _⟩ := t.iso hs
          · rw [h6, bit_or, Bool.or_eq_true, bit_pow]
            by_cases e : j = i
            · exact .inr e.symm
            · exact .inl (h5 j hj1 (by omega) hj3)
          · rw [h7]
            by_cases e : j = i
            · subst e; omega
            · exact h5 j hj1 (by omega) hj3
        · obtain ⟨_, _, h6, h7⟩ := t.quiet (by omega) hb hs
          rw [h7]
          by_cases e : j = i
          · subst e; omega
          · exact h5 j hj1 (by omega) hj3
theorem Tra.keeps_all : ∀ {i : Nat}, i ≤ ops.length → Keeps lim (X 0).h (X 0).nx (X i).h (X i).nx
  | 0, _ => Keeps.refl _ _ _
  | i + 1, hi => by
    refine (Tra.keeps_all (i := i) (by omega)).trans ?_
    by_cases hb : Bar P ops X i
    · exact (t.bar (by omega) hb).1
    · have hk := (t.keep (by omega) hb).1
      have hl := (t.top (i := i) (by omega)).1
      have hx := t.nx1 (i := i) (by omega)
      refine ⟨hx, fun j hj => hk j (by omega), fun j hj hr => ?_⟩
      rcases hr with hr | hr
      · rw [hk j hr]; exact hj
      · exact (t.top (i := i + 1) hi).2 j hr
theorem Tra.dst {i : Nat} {o : Oper} (ho : ops[i]? = some o) : ∃ a, (∀ j, (X (i + 1)).fr.get j = if o.dst = some j then some a else (X i).fr.get j) ∧ ∀ d, o.dst = some d → d < nt := by
  obtain ⟨m, b, _, _, ⟨a, h1, h2, _, _⟩, _⟩ := t.step i o ho
  exact ⟨a, h1, h2⟩
theorem Tra.stay {i : Nat} {d : Tmp} : ∀ {j : Nat}, i ≤ j → j ≤ ops.length → (∀ (k : Nat) (o : Oper), i ≤ k → k < j → ops[k]? = some o → o.dst ≠ some d) → (X j).fr.get d = (X i).fr.get d
  | 0, h, _, _ => by rw [show i = 0 from by omega]
  | j + 1, h, hj, hn => by
    by_cases e : i = j + 1
    · rw [e]
    · have h1 := Tra.stay (j := j) (by omega) (by omega) fun k o h1 h2 => hn k o h1 (by omega)
      have ho := List.getElem?_eq_getElem (l := ops) (i := j) (by omega)
      obtain ⟨a, h2, _⟩ := t.dst ho
      rw [h2, if_neg (hn j _ (by omega) (by omega) ho), h1]
/-- a slot, once it is written -/
theorem Tra.wrote {i j : Nat} {o : Oper} {d : Tmp} (ho : ops[i]? = some o) (hd : o.dst = some d) (hij : i < j) (hj : j ≤ ops.length) : (X j).fr.get d = (X (i + 1)).fr.get d :=
  t.stay (i := i + 1) (j := j) hij hj fun k u h1 h2 hu he => by
    have := regionOk_once t.ok ho hu hd he
    omega
end
end Clo
end Go.Proofs.YtlcggjaogbclkaaDoor
