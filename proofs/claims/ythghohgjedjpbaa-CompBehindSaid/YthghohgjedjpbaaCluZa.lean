/-
  Runs of closed calls by the kernel: what the run through a region whose order is drawn keeps.
-/
import Derived.Test.YthghohgjedjpbaaCluZ
namespace Go.Proofs.Ythghohgjedjpbaa
namespace Clu
open Go.RowKit
set_option linter.unusedVariables false
variable {P : Program}

structure Tra (P : Program) (lim nt : Nat) (ops : List Oper) (L : Nat) (X : Nat → Snap) : Prop where
  hL : L ≤ ops.length
  step : ∀ (i : Nat) (o : Oper), i < L → ops[i]? = some o → ∃ m b, (masks ops)[i]? = some m ∧ (barsL P ops)[i]? = some b ∧ Step P lim nt ops i o m b (X i) (X (i + 1)) ∧ Top lim (X (i + 1)).h (X (i + 1)).nx
  top0 : Top lim (X 0).h (X 0).nx
  ok : regionOk ops = true
def Bar (P : Program) (L : Nat) (ops : List Oper) (X : Nat → Snap) (i : Nat) : Prop := i < L ∧ ∃ o, ops[i]? = some o ∧ lightO P o = false ∧ wantedB ops (X i).fr o = true ∧ (X (i + 1)).bar = true
def Iso (P : Program) (L : Nat) (ops : List Oper) (X : Nat → Snap) (i : Nat) : Prop := i < L ∧ ∃ o, ops[i]? = some o ∧ lightO P o = false ∧ wantedB ops (X i).fr o = true ∧ (X (i + 1)).bar = false
def Ld (ops : List Oper) (i : Nat) : Prop := ∃ o, ops[i]? = some o ∧ (isLd o = true ∨ isFr o = true)
section
variable {lim nt : Nat} {ops : List Oper} {L : Nat} {X : Nat → Snap} (t : Tra P lim nt ops L X)
include t
theorem Tra.top {i : Nat} (hi : i ≤ L) : Top lim (X i).h (X i).nx := by
  cases i with
  | zero => exact t.top0
  | succ i =>
    have hL := t.hL
    obtain ⟨m, b, _, _, _, h⟩ := t.step i ops[i] (by omega) (List.getElem?_eq_getElem (by omega))
    exact h
theorem Tra.quiet {i : Nat} (hi : i < L) (hb : ¬ Bar P L ops X i) (hs : ¬ Iso P L ops X i) : (X (i + 1)).h = (X i).h ∧ (X (i + 1)).nx = (X i).nx ∧ (X (i + 1)).nws = (X i).nws := by
  have hL := t.hL
  have ho := List.getElem?_eq_getElem (show i < ops.length from by omega)
  obtain ⟨m, b, h1, h2, ⟨a, _, _, _, _, h⟩, _⟩ := t.step i ops[i] hi ho
  rcases h with ⟨_, _, h⟩ | ⟨_, _, _, _, h⟩ | ⟨h3, h4, h5, _⟩ | ⟨h3, h4, h5, _⟩
  · exact h
  · exact h
  · exact absurd ⟨hi, _, ho, h4, h3, h5⟩ hb
  · exact absurd ⟨hi, _, ho, h4, h3, h5⟩ hs
/-- what a step that is a barrier is -/
theorem Tra.bar {i : Nat} (hb : Bar P L ops X i) : ∃ b, (barsL P ops)[i]? = some b ∧ (b.1 = true ∨ b.2 = true) ∧ Keeps lim (X i).h (X i).nx (X (i + 1)).h (X (i + 1)).nx ∧ (∀ x, x ∈ (X i).nws → (wts ops i).testBit x.1 = false → x ∈ (X (i + 1)).nws) ∧
    (∀ j id q, (j, id, q) ∈ (X i).lds → (wts ops i).testBit j = false → (X (i + 1)).h.get id = (X i).h.get id) ∧ ∀ o, ops[i]? = some o → isFr o = false ∧ (isLd o = true → b.1 = true) := by
  obtain ⟨hi, o, ho, hl, hw, hbs⟩ := hb
  obtain ⟨m, b, h1, h2, ⟨a, _, _, _, _, h⟩, htop⟩ := t.step i o hi ho
  have ht := t.top (i := i) (by omega)
  rcases h with ⟨h3, _⟩ | ⟨_, h3, _⟩ | ⟨h3, h4, h5, hfr, hbb, ⟨V, h', ids, h6, hV, hh, hids⟩, h7⟩ | ⟨h3, h4, h5, _⟩
  · rw [hw] at h3; cases h3
  · rw [hl] at h3; cases h3
  · refine ⟨b, h2, hbb.imp id (·.1), ⟨h6.1.le, fun j hj => ?_, fun j hj hr => ?_, fun j x hx hr => ?_⟩, fun x hx hm => h7 x hx (by rw [← wts_of h1]; exact hm), fun j id q hj hm => ?_, fun u hu => ?_⟩
    · rw [hh]
      split
      · rfl
      · rename_i hn
        rw [h6.1.old j hj, hV.1 j hn]
    · rw [hh]
      split
      · exact hj
      · rename_i hn
        exact h6.1.out j (by rw [hV.1 j hn]; exact hj) hr
    · rw [hh] at hx
      split at hx
      · exact hx
      · rename_i hn
        rw [← hV.1 j hn]
        exact h6.1.ro j x hx hr
    · rw [hh, if_pos (hids j id q hj (by rw [← wts_of h1]; exact hm)).1]
    · rw [ho] at hu; cases hu
      refine ⟨hfr, fun hld => ?_⟩
      rcases hbb with h | ⟨_, h⟩
      · exact h
      · rw [hld] at h; cases h
  · rw [hbs] at h5; cases h5
theorem Tra.iso {i : Nat} (hb : Iso P L ops X i) : (∃ V h', (∀ id, (X (i + 1)).h.get id = if (X i).nx ≤ id ∧ id < (X (i + 1)).nx then h'.get id else (X i).h.get id) ∧ Keeps (X i).nx V (X i).nx h' (X (i + 1)).nx ∧ ∀ j b, V.get j = some b → (X i).h.get j = some b) ∧
    ((X (i + 1)).nws = (i, (X i).nx, (X (i + 1)).nx) :: (X i).nws ∨ ((X (i + 1)).nx = (X i).nx ∧ (X (i + 1)).nws = (X i).nws)) ∧ ∀ o, ops[i]? = some o → (isLd o = true → (X (i + 1)).nx = (X i).nx) ∧ (isFr o = true → (X (i + 1)).nx = (X i).nx + 1 ∧ (i, (X i).nx, true) ∈ (X (i + 1)).lds) := by
  obtain ⟨hi, o, ho, hl, hw, hbs⟩ := hb
  obtain ⟨m, b, h1, h2, ⟨a, _, _, _, _, h⟩, _⟩ := t.step i o hi ho
  rcases h with ⟨h3, _⟩ | ⟨_, h3, _⟩ | ⟨h3, h4, h5, _⟩ | ⟨h3, h4, h5, _, ⟨V, h', h6, h6', h7, h8, h8', h8''⟩, h9⟩
  · rw [hw] at h3; cases h3
  · rw [hl] at h3; cases h3
  · rw [hbs] at h5; cases h5
  · refine ⟨⟨V, h', h8, h7.1, h6⟩, h9, fun u hu => ?_⟩
    rw [ho] at hu
    cases hu
    exact ⟨fun hld => (h8' hld).1, fun hfr => ⟨(h8'' hfr).1, (h8'' hfr).2.1⟩⟩
theorem Tra.lds1 {i : Nat} (hi : i < L) {x : Nat × Nat × Bool} (hx : x ∈ (X i).lds) : x ∈ (X (i + 1)).lds := by
  have hL := t.hL
  obtain ⟨m, b, _, _, ⟨a, _, _, _, h, _⟩, _⟩ := t.step i ops[i] hi (List.getElem?_eq_getElem (by omega))
  exact h x hx
theorem Tra.lds {i : Nat} {x : Nat × Nat × Bool} (hx : x ∈ (X i).lds) : ∀ {j : Nat}, i ≤ j → j ≤ L → x ∈ (X j).lds
  | 0, h, _ => by rw [show i = 0 from by omega] at hx; exact hx
  | j + 1, h, hj => by
    by_cases e : i = j + 1
    · rw [← e]; exact hx
    · exact t.lds1 (by omega) (Tra.lds hx (j := j) (by omega) (by omega))
omit t in
theorem Bar.lt {i : Nat} (h : Bar P L ops X i) : i < L := h.1
omit t in
theorem Iso.lt {i : Nat} (h : Iso P L ops X i) : i < L := h.1
theorem Tra.nx1 {i : Nat} (hi : i < L) : (X i).nx ≤ (X (i + 1)).nx := by
  by_cases hb : Bar P L ops X i
  · obtain ⟨_, _, _, h, _⟩ := t.bar hb
    exact h.le
  · by_cases hs : Iso P L ops X i
    · obtain ⟨⟨V, h', _, h, _⟩, _⟩ := t.iso hs
      exact h.le
    · exact Nat.le_of_eq (t.quiet hi hb hs).2.1.symm
theorem Tra.nx {i : Nat} : ∀ {j : Nat}, i ≤ j → j ≤ L → (X i).nx ≤ (X j).nx
  | 0, h, _ => by rw [show i = 0 from by omega]; exact Nat.le_refl _
  | j + 1, h, hj => by
    by_cases e : i = j + 1
    · rw [e]; exact Nat.le_refl _
    · exact Nat.le_trans (Tra.nx (j := j) (by omega) (by omega)) (t.nx1 (by omega))
theorem Tra.heavy {i : Nat} (hi : i < L) (h : (X i).nx < (X (i + 1)).nx) : Bar P L ops X i ∨ Iso P L ops X i := by
  by_cases hb : Bar P L ops X i
  · exact .inl hb
  · by_cases hs : Iso P L ops X i
    · exact .inr hs
    · have := (t.quiet hi hb hs).2.1; omega
theorem Tra.keep {i : Nat} (hi : i < L) (hb : ¬ Bar P L ops X i) : ∀ id, id < (X i).nx → (X (i + 1)).h.get id = (X i).h.get id := by
  by_cases hs : Iso P L ops X i
  · obtain ⟨⟨V, h', h1, _⟩, _⟩ := t.iso hs
    exact fun id hid => by rw [h1, if_neg (by omega)]
  · obtain ⟨h1, _⟩ := t.quiet hi hb hs
    exact fun id _ => by rw [h1]
theorem Tra.keeps {i : Nat} : ∀ {j : Nat}, i ≤ j → j ≤ L → (∀ k, i ≤ k → k < j → ¬ Bar P L ops X k) → ∀ id, id < (X i).nx → (X j).h.get id = (X i).h.get id
  | 0, h, _, _ => by rw [show i = 0 from by omega]; exact fun _ _ => rfl
  | j + 1, h, hj, hn => by
    by_cases e : i = j + 1
    · rw [e]; exact fun _ _ => rfl
    · have h1 := Tra.keeps (j := j) (by omega) (by omega) fun k h1 h2 => hn k h1 (by omega)
      have h3 := t.keep (i := j) (by omega) (hn j (by omega) (by omega))
      have := t.nx (i := i) (j := j) (by omega) (by omega)
      exact fun id hid => by rw [h3 id (by omega), h1 id hid]
/-- who has made blocks is on the list, or a barrier has waited for him, or he is one -/
theorem Tra.listed {k : Nat} (hn : (X k).nx < (X (k + 1)).nx) : ∀ {i : Nat}, k < i → i ≤ L → (k, (X k).nx, (X (k + 1)).nx) ∈ (X i).nws ∨ Bar P L ops X k ∨ ∃ g, k < g ∧ g < i ∧ Bar P L ops X g ∧ (wts ops g).testBit k = true
  | 0, h, _ => absurd h (Nat.not_lt_zero _)
  | i + 1, h, hi => by
    by_cases e : k = i
    · subst e
      rcases t.heavy (i := k) (by omega) hn with hb | hs
      · exact .inr (.inl hb)
      · obtain ⟨_, h1 | ⟨h1, _⟩, _⟩ := t.iso hs
        · exact .inl (by rw [h1]; simp)
        · omega
    · rcases Tra.listed hn (i := i) (by omega) (by omega) with h1 | h1 | ⟨g, h1, h2, h3⟩
      · by_cases hb : Bar P L ops X i
        · cases hx : (wts ops i).testBit k with
          | true => exact .inr (.inr ⟨i, by omega, by omega, hb, hx⟩)
          | false =>
            obtain ⟨_, _, _, _, h2, _⟩ := t.bar hb
            exact .inl (h2 _ h1 hx)
        · by_cases hs : Iso P L ops X i
          · obtain ⟨_, h2 | ⟨_, h2⟩, _⟩ := t.iso hs
            · exact .inl (by rw [h2]; exact List.mem_cons_of_mem _ h1)
            · exact .inl (by rw [h2]; exact h1)
          · exact .inl (by rw [(t.quiet (by omega) hb hs).2.2]; exact h1)
      · exact .inr (.inl h1)
      · exact .inr (.inr ⟨g, h1, by omega, h3⟩)
theorem Tra.keeps_all : ∀ {i : Nat}, i ≤ L → Keeps lim (X 0).h (X 0).nx (X i).h (X i).nx
  | 0, _ => Keeps.refl _ _ _
  | i + 1, hi => by
    refine (Tra.keeps_all (i := i) (by omega)).trans ?_
    by_cases hb : Bar P L ops X i
    · obtain ⟨_, _, _, h, _⟩ := t.bar hb
      exact h
    · have hk := t.keep (by omega) hb
      have hl := (t.top (i := i) (by omega)).1
      have hx := t.nx1 (i := i) (by omega)
      refine ⟨hx, fun j hj => hk j (by omega), fun j hj hr => ?_, fun j x hjx hr => ?_⟩
      · rcases hr with hr | hr
        · rw [hk j hr]; exact hj
        · exact (t.top (i := i + 1) hi).2 j hr
      · by_cases hj : j < (X i).nx
        · rw [← hk j hj]; exact hjx
        · by_cases hs : Iso P L ops X i
          · obtain ⟨⟨V, h', h1, h2, h3⟩, _⟩ := t.iso hs
            rw [h1] at hjx
            split at hjx
            · exact h3 j x (h2.ro j x hjx hr)
            · exact hjx
          · rw [(t.quiet (by omega) hb hs).1] at hjx
            exact hjx
theorem Tra.dst {i : Nat} {o : Oper} (hi : i < L) (ho : ops[i]? = some o) : ∃ a, (∀ j, (X (i + 1)).fr.get j = if o.dst = some j then some a else (X i).fr.get j) ∧ ∀ d, o.dst = some d → d < nt := by
  obtain ⟨m, b, _, _, ⟨a, _, h1, h2, _, _⟩, _⟩ := t.step i o hi ho
  exact ⟨a, h1, h2⟩
theorem Tra.stay {i : Nat} {d : Tmp} : ∀ {j : Nat}, i ≤ j → j ≤ L → (∀ (k : Nat) (o : Oper), i ≤ k → k < j → ops[k]? = some o → o.dst ≠ some d) → (X j).fr.get d = (X i).fr.get d
  | 0, h, _, _ => by rw [show i = 0 from by omega]
  | j + 1, h, hj, hn => by
    by_cases e : i = j + 1
    · rw [e]
    · have h1 := Tra.stay (j := j) (by omega) (by omega) fun k o h1 h2 => hn k o h1 (by omega)
      have hL := t.hL
      have ho := List.getElem?_eq_getElem (l := ops) (i := j) (by omega)
      obtain ⟨a, h2, _⟩ := t.dst (by omega) ho
      rw [h2, if_neg (hn j _ (by omega) (by omega) ho), h1]
/-- a slot, once it is written -/
theorem Tra.wrote {i j : Nat} {o : Oper} {d : Tmp} (ho : ops[i]? = some o) (hd : o.dst = some d) (hij : i < j) (hj : j ≤ L) : (X j).fr.get d = (X (i + 1)).fr.get d :=
  t.stay (i := i + 1) (j := j) hij hj fun k u h1 h2 hu he => by
    have := regionOk_once t.ok ho hu hd he
    omega
end
end Clu
end Go.Proofs.Ythghohgjedjpbaa
