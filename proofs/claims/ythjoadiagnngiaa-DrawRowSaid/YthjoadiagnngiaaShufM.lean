import Derived.Test.YthjoadiagnngiaaShuf
namespace Go.Proofs.Ythjoadiagnngiaa
set_option linter.unusedVariables false

theorem step_get (l : List Nat) (i d k : Nat) (hi : i < l.length) (hk : k < l.length) : (shufStep l i d).getD k 0 = if k = d % (i + 1) then l.getD i 0 else if k = i then l.getD (d % (i + 1)) 0 else l.getD k 0 := by
  have hd : d % (i + 1) < l.length := Nat.lt_of_lt_of_le (Nat.mod_lt _ (by omega)) (by omega)
  unfold shufStep
  generalize d % (i + 1) = j at hd
  simp only [List.getD_eq_getElem?_getD, List.getElem?_set, List.length_set]
  by_cases h1 : j = k
  · subst h1; simp [hd]
  · have h1' : ¬ k = j := fun e => h1 e.symm
    by_cases h2 : i = k
    · subst h2; simp [h1, h1', hi]
    · have h2' : ¬ k = i := fun e => h2 e.symm
      simp [h1, h1', h2, h2']

/-- each number below n once -/
def Once (n : Nat) (l : List Nat) : Prop := l.length = n ∧ (∀ i, i < n → l.getD i 0 < n) ∧ ∀ i j, i < n → j < n → l.getD i 0 = l.getD j 0 → i = j

theorem Once.step {n : Nat} {l : List Nat} (h : Once n l) (i d : Nat) (hi : i < n) : Once n (shufStep l i d) := by
  obtain ⟨h1, h2, h3⟩ := h
  have hd : d % (i + 1) < n := Nat.lt_of_lt_of_le (Nat.mod_lt _ (by omega)) (by omega)
  have g : ∀ k, k < n → (shufStep l i d).getD k 0 = if k = d % (i + 1) then l.getD i 0 else if k = i then l.getD (d % (i + 1)) 0 else l.getD k 0 := fun k hk => step_get l i d k (by omega) (by omega)
  refine ⟨by rw [shufStep_len]; exact h1, fun k hk => ?_, fun a b ha hb hab => ?_⟩
  · rw [g k hk]; split
    · exact h2 _ hi
    · split
      · exact h2 _ hd
      · exact h2 _ hk
  · rw [g a ha, g b hb] at hab
    generalize d % (i + 1) = j at hd hab g
    by_cases a1 : a = j <;> by_cases b1 : b = j <;> by_cases a2 : a = i <;> by_cases b2 : b = i <;> simp only [a1, b1, a2, b2, if_true, if_false] at hab ⊢ <;>
      first
        | omega
        | (have := h3 _ _ (by omega) (by omega) hab; omega)
        | (subst a1; subst b2; have := h3 _ _ (by omega) (by omega) hab; omega)
        | (simp_all; done)
        | (split at hab <;> (have := h3 _ _ (by omega) (by omega) hab; omega))

theorem Once.shuf {n : Nat} (draw : Nat → Nat) : ∀ (m u : Nat) (l : List Nat), m < n → Once n l → Once n (shuf draw u m l)
  | 0, u, l, _, h => h
  | m + 1, u, l, hm, h => Once.shuf draw m (u + 1) _ (by omega) (h.step (m + 1) (draw u) hm)

theorem once_range (n : Nat) : Once n (List.range n) := by
  refine ⟨by simp, fun i hi => ?_, fun i j hi hj h => ?_⟩
  · simp [List.getD_eq_getElem?_getD, hi]
  · simpa [List.getD_eq_getElem?_getD, List.getElem?_range hi, List.getElem?_range hj] using h

theorem list_ext (l l' : List Nat) (h : l.length = l'.length) (hg : ∀ k, k < l.length → l.getD k 0 = l'.getD k 0) : l = l' := by
  apply List.ext_getElem h
  intro k h1 h2
  have := hg k h1
  simpa [List.getD_eq_getElem?_getD, List.getElem?_eq_getElem h1, List.getElem?_eq_getElem h2] using this

/-- draws that are each its place: the row stays -/
theorem shuf_stays (draw : Nat → Nat) : ∀ (m u : Nat) (l : List Nat), m < l.length → (∀ k, k < m → draw (u + k) = m - k) → Go.Proofs.Ythjoadiagnngiaa.shuf draw u m l = l
  | 0, u, l, _, _ => rfl
  | m + 1, u, l, hm, h => by
    have h0 := h 0 (by omega)
    rw [Nat.add_zero, Nat.sub_zero] at h0
    have e : shufStep l (m + 1) (draw u) = l := by
      refine list_ext _ _ (shufStep_len _ _ _) fun k hk => ?_
      rw [shufStep_len] at hk
      rw [step_get l (m + 1) _ k hm hk, h0, Nat.mod_eq_of_lt (by omega)]
      split
      · rename_i e; rw [e]
      · rfl
    show Go.Proofs.Ythjoadiagnngiaa.shuf draw (u + 1) m (shufStep l (m + 1) (draw u)) = l
    rw [e]
    exact shuf_stays draw m (u + 1) l (by omega) fun k hk => by have := h (k + 1) (by omega); rw [show u + 1 + k = u + (k + 1) from by omega, this]; omega

/-- draws that are all 0: it goes round by one -/
theorem shuf_round (draw : Nat → Nat) (n : Nat) (hn : 1 ≤ n) : ∀ (m u : Nat) (l : List Nat), m < n → l.length = n → (∀ k, k < m → draw (u + k) = 0) → l.getD 0 0 = (if m = n - 1 then 0 else m + 1) → (∀ k, 1 ≤ k → k ≤ m → l.getD k 0 = k) → (∀ k, m < k → k < n → l.getD k 0 = (k + 1) % n) →
    (Go.Proofs.Ythjoadiagnngiaa.shuf draw u m l).length = n ∧ ∀ k, k < n → (Go.Proofs.Ythjoadiagnngiaa.shuf draw u m l).getD k 0 = (k + 1) % n
  | 0, u, l, hm, hl, _, h0, h1, h2 => by
    refine ⟨hl, fun k hk => ?_⟩
    show l.getD k 0 = _
    by_cases hk0 : k = 0
    · subst hk0
      rw [h0]
      split
      · rename_i e; have : n = 1 := by omega
        subst this; rfl
      · rw [Nat.mod_eq_of_lt (by omega)]
    · exact h2 k (by omega) hk
  | m + 1, u, l, hm, hl, hd, h0, h1, h2 => by
    have d0 := hd 0 (by omega)
    rw [Nat.add_zero] at d0
    have g : ∀ k, k < n → (shufStep l (m + 1) (draw u)).getD k 0 = if k = 0 then l.getD (m + 1) 0 else if k = m + 1 then l.getD 0 0 else l.getD k 0 := fun k hk => by
      have := step_get l (m + 1) (draw u) k (by omega) (by omega)
      rw [this, d0, Nat.zero_mod]
    refine shuf_round draw n hn m (u + 1) _ (by omega) (by rw [shufStep_len]; exact hl) (fun k hk => by have := hd (k + 1) (by omega); rw [show u + 1 + k = u + (k + 1) from by omega]; exact this) ?_ ?_ ?_
    · rw [g 0 (by omega), if_pos rfl, h1 (m + 1) (by omega) (by omega), if_neg (by omega)]
    · intro k k1 k2
      rw [g k (by omega), if_neg (by omega), if_neg (by omega)]; exact h1 k k1 (by omega)
    · intro k k1 k2
      rw [g k k2, if_neg (by omega)]
      split
      · rename_i e
        subst e
        rw [h0]
        split
        · rename_i e2; have : m + 1 + 1 = n := by omega
          rw [this, Nat.mod_self]
        · rw [Nat.mod_eq_of_lt (by omega)]
      · exact h2 k (by omega) k2
end Go.Proofs.Ythjoadiagnngiaa
