/-
  Runs of closed calls by the kernel: what waits for what.
-/
import Derived.Test.YthghohgjedjpbaaCluY
namespace Go.Proofs.Ythghohgjedjpbaa
namespace Clu
open Go.RowKit
set_option linter.unusedVariables false
variable {P : Program}

theorem bit_or (a b j : Nat) : (Nat.lor a b).testBit j = (a.testBit j || b.testBit j) := Nat.testBit_or a b j
theorem bit_pow (a j : Nat) : (Nat.pow 2 a).testBit j = true ↔ a = j := by
  rw [show Nat.pow 2 a = 2 ^ a from rfl, Nat.testBit_two_pow]
  simp
theorem orEdges_of {ms : List Nat} {j : Nat} : ∀ {l : List Edge} {s : Nat}, (orEdges ms l s).testBit j = true → s.testBit j = true ∨ ∃ e ∈ l, Region.binds .any e = true ∧ (e.on = j ∨ ∃ m, ms[e.on]? = some m ∧ m.testBit j = true)
  | [], s, h => .inl h
  | e :: l, s, h => by
    unfold orEdges at h
    split at h
    · rename_i hb
      rcases orEdges_of h with h | ⟨e', h1, h2, h3⟩
      · rw [bit_or, bit_or, Bool.or_eq_true, Bool.or_eq_true, bit_pow] at h
        rcases h with (h | h) | h
        · exact .inl h
        · exact .inr ⟨e, by simp, hb, .inl h⟩
        · rw [getL_eq] at h
          split at h
          · rename_i m hm
            exact .inr ⟨e, by simp, hb, .inr ⟨m, hm, h⟩⟩
          · simp at h
      · exact .inr ⟨e', by simp [h1], h2, h3⟩
    · rcases orEdges_of h with h | ⟨e', h1, h2, h3⟩
      · exact .inl h
      · exact .inr ⟨e', by simp [h1], h2, h3⟩
theorem orEdges_mono {ms : List Nat} {j : Nat} : ∀ {l : List Edge} {s : Nat}, s.testBit j = true → (orEdges ms l s).testBit j = true
  | [], s, h => h
  | e :: l, s, h => by
    unfold orEdges
    split
    · exact orEdges_mono (by rw [bit_or, bit_or, h]; rfl)
    · exact orEdges_mono h
theorem orEdges_on {ms : List Nat} {e : Edge} (hb : Region.binds .any e = true) : ∀ {l : List Edge} {s : Nat}, e ∈ l → (orEdges ms l s).testBit e.on = true
  | e' :: l, s, h => by
    unfold orEdges
    rcases List.mem_cons.1 h with rfl | h
    · rw [hb]
      exact orEdges_mono (by rw [bit_or, bit_or, (bit_pow e.on e.on).2 rfl]; simp)
    · split <;> exact orEdges_on hb h
theorem masksGo_spec : ∀ (l : List Oper) (acc : List Nat), ∃ R, masksGo l acc = acc ++ R ∧ R.length = l.length ∧ ∀ (j : Nat) (o : Oper), l[j]? = some o → R[j]? = some (orEdges ((acc ++ R).take (acc.length + j)) o.after.toList 0)
  | [], acc => ⟨[], by simp [masksGo], rfl, fun j o h => by simp at h⟩
  | o :: l, acc => by
    obtain ⟨R, h1, h2, h3⟩ := masksGo_spec l (acc ++ [orEdges acc o.after.toList 0])
    refine ⟨orEdges acc o.after.toList 0 :: R, by rw [masksGo, h1]; simp, by simp [h2], fun j o' hj => ?_⟩
    cases j with
    | zero =>
      simp at hj
      subst hj
      simp
    | succ j =>
      have := h3 j o' (by simpa using hj)
      rw [List.getElem?_cons_succ, this]
      simp only [List.append_assoc, List.cons_append, List.nil_append, List.length_append, List.length_cons, List.length_nil, Nat.zero_add]
      rw [show acc.length + 1 + j = acc.length + (j + 1) from by omega]
noncomputable def wts (ops : List Oper) (i : Nat) : Nat := ((masks ops)[i]?).getD 0
theorem masks_spec {ops : List Oper} {i : Nat} {o : Oper} (h : ops[i]? = some o) : (masks ops)[i]? = some (orEdges ((masks ops).take i) o.after.toList 0) := by
  obtain ⟨R, h1, h2, h3⟩ := masksGo_spec ops []
  have := h3 i o h
  unfold masks
  rw [h1]
  simpa using this
theorem wts_eq {ops : List Oper} {i : Nat} {o : Oper} (h : ops[i]? = some o) : wts ops i = orEdges ((masks ops).take i) o.after.toList 0 := by
  unfold wts
  rw [masks_spec h]
  rfl
theorem wts_of {ops : List Oper} {i m : Nat} (h : (masks ops)[i]? = some m) : wts ops i = m := by unfold wts; rw [h]; rfl
/-- what an operation waits for -/
theorem wts_bits {ops : List Oper} {i : Nat} {o : Oper} (h : ops[i]? = some o) {j : Nat} (hj : (wts ops i).testBit j = true) : ∃ e ∈ o.after.toList, Region.binds .any e = true ∧ (e.on = j ∨ (wts ops e.on).testBit j = true) := by
  rw [wts_eq h] at hj
  rcases orEdges_of hj with h0 | ⟨e, h1, h2, h3⟩
  · simp at h0
  · refine ⟨e, h1, h2, h3.imp id fun ⟨m, hm, hmj⟩ => ?_⟩
    rw [List.getElem?_take] at hm
    split at hm
    · rw [wts_of hm]; exact hmj
    · cases hm
theorem wts_on {ops : List Oper} {i : Nat} {o : Oper} (h : ops[i]? = some o) {e : Edge} (he : e ∈ o.after.toList) (hb : Region.binds .any e = true) : (wts ops i).testBit e.on = true := by
  rw [wts_eq h]
  exact orEdges_on hb he
theorem backGo_spec : ∀ {l : List Nat} {i : Nat}, backGo l i = true → ∀ (j m : Nat), l[j]? = some m → m < 2 ^ (i + j)
  | [], _, _, j, m, h => by simp at h
  | a :: l, i, h, j, m, hj => by
    unfold backGo at h
    rw [Bool.and_eq_true] at h
    cases j with
    | zero => simp at hj; subst hj; exact blt_iff.1 h.1
    | succ j =>
      have := backGo_spec h.2 j m (by simpa using hj)
      rwa [show Nat.succ i + j = i + (j + 1) from by simp only [Nat.succ_eq_add_one]; omega] at this
theorem regionOk_back {ops : List Oper} (h : regionOk ops = true) {i j : Nat} (hj : (wts ops i).testBit j = true) : j < i := by
  unfold regionOk at h
  rw [Bool.and_eq_true] at h
  unfold wts at hj
  cases hm : (masks ops)[i]? with
  | none => rw [hm] at hj; simp at hj
  | some m =>
    rw [hm] at hj
    have := backGo_spec h.2 i m hm
    rw [Nat.zero_add] at this
    refine Nat.lt_of_not_le fun hle => ?_
    have h2 : m < 2 ^ j := Nat.lt_of_lt_of_le this (Nat.pow_le_pow_right (by omega) hle)
    rw [Option.getD_some, Nat.testBit_lt_two_pow h2] at hj
    cases hj
theorem onceB_spec : ∀ {l : List (Option Tmp)}, onceB l = true → ∀ (i j : Nat) (t : Tmp), l[i]? = some (some t) → l[j]? = some (some t) → i = j
  | [], _, i, j, t, h, _ => by simp at h
  | none :: l, h, i, j, t, h1, h2 => by
    cases i with
    | zero => simp at h1
    | succ i => cases j with
      | zero => simp at h2
      | succ j => rw [onceB_spec (l := l) (by simpa [onceB] using h) i j t (by simpa using h1) (by simpa using h2)]
  | some d :: l, h, i, j, t, h1, h2 => by
    simp only [onceB, Bool.and_eq_true, Bool.not_eq_true'] at h
    have hn : some d ∉ l := fun hm => by rw [List.contains_iff_mem.2 hm] at h; cases h.1
    cases i with
    | zero => cases j with
      | zero => rfl
      | succ j =>
        simp at h1 h2
        subst h1
        exact absurd (List.mem_of_getElem? h2) hn
    | succ i => cases j with
      | zero =>
        simp at h1 h2
        subst h2
        exact absurd (List.mem_of_getElem? h1) hn
      | succ j => rw [onceB_spec h.2 i j t (by simpa using h1) (by simpa using h2)]
theorem regionOk_once {ops : List Oper} (h : regionOk ops = true) {i j : Nat} {o u : Oper} {t : Tmp} (hi : ops[i]? = some o) (hj : ops[j]? = some u) (h1 : o.dst = some t) (h2 : u.dst = some t) : i = j := by
  unfold regionOk at h
  rw [Bool.and_eq_true, Bool.and_eq_true] at h
  exact onceB_spec h.1.1 i j t (by simp [dsts, hi, h1]) (by simp [dsts, hj, h2])
theorem apartGo_spec {dm : List (Option Tmp × Nat)} {ops : List Oper} : ∀ {l : List Oper} {ms : List Nat} {q : Nat}, apartGo dm ops l ms q = true → ∀ (i : Nat) (o : Oper), l[i]? = some o → ∃ m, ms[i]? = some m ∧ ∀ t ∈ looks ops o, ∀ (j n : Nat), dm[j]? = some (some t, n) → j = q + i ∨ m.testBit j = true ∨ n.testBit (q + i) = true
  | [], _, _, _, i, o, h => by simp at h
  | _ :: _, [], _, h, i, o, hi => by simp [apartGo] at h
  | o' :: l, m :: ms, q, h, i, o, hi => by
    unfold apartGo at h
    rw [Bool.and_eq_true] at h
    cases i with
    | zero =>
      simp at hi
      subst hi
      refine ⟨m, rfl, fun t ht j n hj => ?_⟩
      have h1 := List.all_eq_true.1 h.1 t ht
      have h2 := List.all_eq_true.1 h1 ((some t, n), j) (List.mk_mem_zipIdx_iff_getElem?.2 hj)
      simp only [bne_self_eq_false, Bool.false_or, Bool.or_eq_true, hasBit_eq] at h2
      rcases h2 with (h2 | h2) | h2
      · exact .inl (beq_iff.1 h2)
      · exact .inr (.inl h2)
      · exact .inr (.inr h2)
    | succ i =>
      obtain ⟨m', h1, h2⟩ := apartGo_spec h.2 i o (by simpa using hi)
      refine ⟨m', by simpa using h1, fun t ht j n hj => ?_⟩
      have := h2 t ht j n hj
      rwa [show Nat.succ q + i = q + (i + 1) from by simp only [Nat.succ_eq_add_one]; omega] at this
theorem regionOk_apart {ops : List Oper} (h : regionOk ops = true) {i j : Nat} {o u : Oper} {t : Tmp} (hi : ops[i]? = some o) (ht : t ∈ looks ops o) (hj : ops[j]? = some u) (h2 : u.dst = some t) : j = i ∨ (wts ops i).testBit j = true ∨ (wts ops j).testBit i = true := by
  unfold regionOk at h
  rw [Bool.and_eq_true, Bool.and_eq_true] at h
  obtain ⟨m, h3, h4⟩ := apartGo_spec h.1.2 i o hi
  have := h4 t ht j _ (List.getElem?_zip_eq_some.2 ⟨by simp [dsts, hj, h2], masks_spec hj⟩)
  rw [Nat.zero_add] at this
  rw [wts_of h3, wts_of (masks_spec hj)]
  exact this
/-- a barrier is before or behind all others that look at memory or turn it, but for loads, and makers of blocks, in front of it -/
theorem bars_spec {ops : List Oper} {i j : Nat} {o : Oper} {b : Bool × Bool} (hi : (barsL P ops)[i]? = some b) (hb : b.1 = true ∨ b.2 = true) (hj : ops[j]? = some o) (hl : lightO P o = false) (hne : j ≠ i) : (wts ops i).testBit j = true ∨ (wts ops j).testBit i = true ∨ ((isLd o = true ∨ isFr o = true) ∧ j < i) := by
  unfold barsL at hi
  rw [List.getElem?_map, List.getElem?_zipIdx] at hi
  cases hm : (ops.zip (masks ops))[i]? with
  | none => rw [hm] at hi; simp at hi
  | some om =>
    rw [hm] at hi
    obtain ⟨u, m⟩ := om
    have hm := (List.getElem?_zip_eq_some.1 hm).2
    simp only at hm
    simp only [Option.map_some, Option.some.injEq, Nat.zero_add] at hi
    have hmj := masks_spec hj
    have key : ∀ wk, barB wk i m (ops.map fun o => (!lightO P o, isLd o || isFr o)) (masks ops) = true → (wts ops i).testBit j = true ∨ (wts ops j).testBit i = true ∨ ((isLd o = true ∨ isFr o = true) ∧ j < i) := fun wk hi => by
      unfold barB at hi
      have := List.all_eq_true.1 hi (((!lightO P o, isLd o || isFr o), orEdges ((masks ops).take j) o.after.toList 0), j) (List.mk_mem_zipIdx_iff_getElem?.2 (by
        rw [List.getElem?_zip_eq_some]
        exact ⟨by simp [hj], hmj⟩))
      rw [wts_of hm, wts_of hmj]
      simp only [hl, Bool.not_false, Bool.not_true, Bool.false_or, Bool.or_eq_true, Bool.and_eq_true, hasBit_eq] at this
      rcases this with ((h | h) | h) | ⟨⟨h, _⟩, h'⟩
      · exact absurd (beq_iff.1 h) hne
      · exact .inl h
      · exact .inr (.inl h)
      · exact .inr (.inr ⟨h, blt_iff.1 h'⟩)
    rw [← hi] at hb
    rcases hb with hb | hb
    · exact key _ hb
    · exact key _ hb
end Clu
end Go.Proofs.Ythghohgjedjpbaa
