/-
  Runs of closed calls by the kernel: regions whose order is drawn, as the run goes through them.
-/
import Derived.Test.YtfhnemmfihcdkaaCloX
namespace Go.Proofs.Ytfhnemmfihcdkaa
namespace Clo
open Go.RowKit
set_option linter.unusedVariables false
variable {P : Program}

theorem mergeK_ok {v : AV} {g : T} {n : Nat} {k : T → Out} : ∀ (f : Nat) {h : T} {i : Nat}, n ≤ i + f → mergeK f g h i n k = .ok v → ∃ h', k h' = .ok v ∧ ∀ id, h'.get id = if i ≤ id ∧ id < n then g.get id else h.get id
  | 0, h, i, hn, hk => ⟨h, hk, fun id => by rw [if_neg (by omega)]⟩
  | f + 1, h, i, hn, hk => by
    unfold mergeK at hk
    split at hk
    · rename_i hi
      have hi := blt_iff.1 hi
      obtain ⟨h1, hk, e1⟩ := Tr.setK_ok hk
      rw [fN_eq] at hk
      obtain ⟨h2, hk, e2⟩ := mergeK_ok f (by simp only [Nat.succ_eq_add_one]; omega) hk
      refine ⟨h2, hk, fun id => ?_⟩
      rw [e2, e1]
      simp only [Nat.succ_eq_add_one]
      by_cases h0 : id = i
      · subst h0
        rw [if_neg (by omega), if_pos rfl, if_pos (by omega)]
      · by_cases h3 : i ≤ id ∧ id < n
        · rw [if_pos (by omega), if_pos h3]
        · rw [if_neg (by omega), if_neg h0, if_neg h3]
    · rename_i hi
      have hi := blt_ff.1 hi
      exact ⟨h, hk, fun id => by rw [if_neg (by omega)]⟩
structure Snap where
  fr : Fr
  S : T
  h : T
  nx : Nat
  news : Nat
/-- one step of a run through such a region -/
def Step (P : Program) (lim nt : Nat) (ops : List Oper) (i : Nat) (o : Oper) (m : Nat) (b : Bool) (s s' : Snap) : Prop :=
  ∃ a, (∀ j, s'.fr.get j = if o.dst = some j then some a else s.fr.get j) ∧ (∀ d, o.dst = some d → d < nt) ∧
    ((wantedB ops s.fr o = false ∧ a = .tu [] ∧ s'.h = s.h ∧ s'.S = s.S ∧ s'.nx = s.nx ∧ s'.news = s.news)
    ∨ (wantedB ops s.fr o = true ∧ lightO P o = true ∧ (∃ h', OpOK P lim o s.fr .e s.nx a h' s.nx) ∧ s'.h = s.h ∧ s'.S = s.S ∧ s'.nx = s.nx ∧ s'.news = s.news)
    ∨ (wantedB ops s.fr o = true ∧ lightO P o = false ∧ b = true ∧ OpOK P lim o s.fr s.h s.nx a s'.h s'.nx ∧ s'.S = s'.h ∧ s'.news = 0)
    ∨ (wantedB ops s.fr o = true ∧ lightO P o = false ∧ b = false ∧ (∃ V h', ((V = s.h ∧ Nat.land s.news m = s.news) ∨ V = s.S) ∧ OpOK P s.nx o s.fr V s.nx a h' s'.nx ∧ (∀ id, s'.h.get id = if s.nx ≤ id ∧ id < s'.nx then h'.get id else s.h.get id)) ∧
        s'.S = s.S ∧ (s'.news = Nat.lor s.news (Nat.pow 2 i) ∨ (s'.nx = s.nx ∧ s'.news = s.news))))
theorem drK_step {v : AV} {call : CallT} {nt lim i : Nat} {ops l : List Oper} {o : Oper} {m : Nat} {ms : List Nat} {b : Bool} {bs : List Bool} {fr : Fr} {S h : T} {nx news : Nat} {k : KS} (hcall : CallOK P call) (ht : Top lim h nx) (hS : ∀ j, nx ≤ j → S.get j = none)
    (hk : drK P call nt lim ops i (o :: l) (m :: ms) (b :: bs) fr S h nx news k = .ok v) :
    ∃ s', Step P lim nt ops i o m b ⟨fr, S, h, nx, news⟩ s' ∧ drK P call nt lim ops (i + 1) l ms bs s'.fr s'.S s'.h s'.nx s'.news k = .ok v ∧ Top lim s'.h s'.nx ∧ ∀ j, s'.nx ≤ j → s'.S.get j = none := by
  unfold drK at hk
  have tE : Top lim (Tr.e : T) nx := ⟨ht.1, fun j _ => Tr.get_e j⟩
  have tN : ∀ {V : T}, (∀ j, nx ≤ j → V.get j = none) → Top nx V nx := fun hV => ⟨Nat.le_refl _, hV⟩
  split at hk
  · rename_i hw
    obtain ⟨fr', hk2, e, hd, _⟩ := putD_ok hk
    clear hk
    have hk := hk2; clear hk2
    rw [fN_eq] at hk
    exact ⟨⟨fr', S, h, nx, news⟩, ⟨_, e, hd, .inl ⟨hw, rfl, rfl, rfl, rfl, rfl⟩⟩, hk, ht, hS⟩
  · rename_i hw
    split at hk
    · rename_i hlt
      obtain ⟨a, h', nx', hk, ho⟩ := opK_ok hcall tE hk
      split at hk
      · rename_i hn
        have hn := beq_iff.1 hn
        subst hn
        obtain ⟨fr', hk2, e, hd, _⟩ := putD_ok hk
        clear hk
        have hk := hk2; clear hk2
        rw [fN_eq] at hk
        exact ⟨⟨fr', S, h, nx, news⟩, ⟨_, e, hd, .inr (.inl ⟨hw, hlt, ⟨h', ho⟩, rfl, rfl, rfl, rfl⟩)⟩, hk, ht, hS⟩
      · cases hk
    · rename_i hlt
      split at hk
      · obtain ⟨a, h', nx', hk, ho⟩ := opK_ok hcall ht hk
        obtain ⟨fr', hk2, e, hd, _⟩ := putD_ok hk
        clear hk
        have hk := hk2; clear hk2
        rw [fN_eq] at hk
        exact ⟨⟨fr', h', h', nx', 0⟩, ⟨_, e, hd, .inr (.inr (.inl ⟨hw, hlt, rfl, ho, rfl, rfl⟩))⟩, hk, ho.1.top ht, (ho.1.top ht).2⟩
      · split at hk
        · rename_i hnews
          have hnews := beq_iff.1 hnews
          obtain ⟨a, h', nx', hk, ho⟩ := opK_ok hcall (tN ht.2) hk
          obtain ⟨fr', hk2, e, hd, _⟩ := putD_ok hk
          clear hk
          have hk := hk2; clear hk2
          have eh : ∀ id, h'.get id = if nx ≤ id ∧ id < nx' then h'.get id else h.get id := fun id => by
            split
            · rfl
            · rename_i hid
              by_cases h1 : id < nx
              · exact ho.1.old id h1
              · have h2 : nx' ≤ id := by omega
                rw [(ho.1.top (tN ht.2)).2 id h2, ht.2 id (by omega)]
          split at hk
          · rename_i hn
            have hn := beq_iff.1 hn
            subst hn
            rw [fN_eq] at hk
            exact ⟨⟨fr', S, h, nx, news⟩, ⟨_, e, hd, .inr (.inr (.inr ⟨hw, hlt, rfl, ⟨h, h', .inl ⟨rfl, hnews⟩, ho, fun id => (by simp only; rw [if_neg (by omega)])⟩, rfl, .inr ⟨rfl, rfl⟩⟩))⟩, hk, ht, hS⟩
          · rw [fN_eq, fN_eq] at hk
            exact ⟨⟨fr', S, h', nx', Nat.lor news (Nat.pow 2 i)⟩, ⟨_, e, hd, .inr (.inr (.inr ⟨hw, hlt, rfl, ⟨h, h', .inl ⟨rfl, hnews⟩, ho, eh⟩, rfl, .inl rfl⟩))⟩, hk,
              ⟨Nat.le_trans ht.1 ho.1.le, (ho.1.top (tN ht.2)).2⟩, fun j hj => hS j (Nat.le_trans ho.1.le hj)⟩
        · obtain ⟨a, h', nx', hk, ho⟩ := opK_ok hcall (tN hS) hk
          obtain ⟨fr', hk2, e, hd, _⟩ := putD_ok hk
          clear hk
          have hk := hk2; clear hk2
          have hle := ho.1.le
          split at hk
          · rename_i hn
            have hn := beq_iff.1 hn
            subst hn
            rw [fN_eq] at hk
            exact ⟨⟨fr', S, h, nx, news⟩, ⟨_, e, hd, .inr (.inr (.inr ⟨hw, hlt, rfl, ⟨S, h', .inr rfl, ho, fun id => (by simp only; rw [if_neg (by omega)])⟩, rfl, .inr ⟨rfl, rfl⟩⟩))⟩, hk, ht, hS⟩
          · obtain ⟨h2, hk, e2⟩ := mergeK_ok _ (show nx' ≤ nx + (nx' - nx) from by omega) hk
            rw [fN_eq, fN_eq] at hk
            exact ⟨⟨fr', S, h2, nx', Nat.lor news (Nat.pow 2 i)⟩, ⟨_, e, hd, .inr (.inr (.inr ⟨hw, hlt, rfl, ⟨S, h', .inr rfl, ho, e2⟩, rfl, .inl rfl⟩))⟩, hk,
              ⟨Nat.le_trans ht.1 hle, fun j hj => by
                show h2.get j = none
                have hj : nx' ≤ j := hj
                rw [e2, if_neg (by omega)]
                exact ht.2 j (by omega)⟩, fun j hj => hS j (Nat.le_trans hle hj)⟩
theorem drK_trace {v : AV} {call : CallT} {nt lim : Nat} {ops : List Oper} {k : KS} (hcall : CallOK P call) : ∀ (l : List Oper) (i : Nat) (ms : List Nat) (bs : List Bool) (s : Snap), Top lim s.h s.nx → (∀ j, s.nx ≤ j → s.S.get j = none) →
    drK P call nt lim ops i l ms bs s.fr s.S s.h s.nx s.news k = .ok v →
    ∃ X : Nat → Snap, X i = s ∧ k (X (i + l.length)).fr (X (i + l.length)).h (X (i + l.length)).nx = .ok v ∧
      ∀ (j : Nat) (o : Oper), l[j]? = some o → ∃ m b, ms[j]? = some m ∧ bs[j]? = some b ∧ Step P lim nt ops (i + j) o m b (X (i + j)) (X (i + j + 1)) ∧ Top lim (X (i + j + 1)).h (X (i + j + 1)).nx ∧ ∀ x, (X (i + j + 1)).nx ≤ x → (X (i + j + 1)).S.get x = none
  | [], i, ms, bs, s, ht, hS, hk => ⟨fun _ => s, rfl, by rw [drK] at hk; exact hk, fun j o h => by simp at h⟩
  | o :: l, i, [], bs, s, ht, hS, hk => by rw [drK] at hk <;> first | (cases hk; done) | (intros; simp_all)
  | o :: l, i, m :: ms, [], s, ht, hS, hk => by rw [drK] at hk <;> first | (cases hk; done) | (intros; simp_all)
  | o :: l, i, m :: ms, b :: bs, s, ht, hS, hk => by
    obtain ⟨s', h1, h2, h3, h4⟩ := drK_step hcall ht hS hk
    obtain ⟨X, x1, x2, x3⟩ := drK_trace hcall l (i + 1) ms bs s' h3 h4 h2
    have e : i + (o :: l).length = i + 1 + l.length := by simp; omega
    refine ⟨fun j => if j ≤ i then s else X j, if_pos (Nat.le_refl _), ?_, fun j o' hj => ?_⟩
    · rw [e]
      simp only
      rw [if_neg (by omega)]
      exact x2
    · cases j with
      | zero =>
        simp at hj
        subst hj
        refine ⟨m, b, rfl, rfl, ?_⟩
        simp only [Nat.add_zero]
        rw [if_pos (Nat.le_refl _), if_neg (by omega), x1]
        exact ⟨h1, h3, h4⟩
      | succ j =>
        obtain ⟨m', b', y1, y2, y3⟩ := x3 j o' (by simpa using hj)
        refine ⟨m', b', by simpa using y1, by simpa using y2, ?_⟩
        simp only
        rw [if_neg (by omega), if_neg (by omega), show i + (j + 1) = i + 1 + j from by omega]
        exact y3
end Clo
end Go.Proofs.Ytfhnemmfihcdkaa
