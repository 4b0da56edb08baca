/-
  Runs of closed calls by the kernel: regions whose order is drawn, as the run goes through them.
-/
import Derived.Test.YtlcggjaogbclkaaDoorCloX
import Derived.Test.YtlcggjaogbclkaaDoorCloXb
namespace Go.Proofs.YtlcggjaogbclkaaDoor
namespace Clo
open Go.RowKit
set_option linter.unusedVariables false
variable {P : Program}

theorem mergeK_ok {v : AV} {g : T} {n : Nat} {k : T → Out} : ∀ (f : Nat) {h : T} {i : Nat}, n ≤ i + f → mergeK f g h i n k = .ok v → ∃ h', k h' = .ok v ∧ ∀ id, h'.get id = if i ≤ id ∧ id < n then g.get id else h.get id
  | 0, h, i, hn, hk => ⟨h, hk, fun id => by rw [if_neg (by omega)]⟩
  | f + 1, h, i, hn, hk => by
    unfold mergeK at hk
    split at hk
    · rename_i hi
      have hi := blt_iff.1 hi
      obtain ⟨h1, hk, e1⟩ := Tr.setK_ok hk
      rw [fN_eq] at hk
      obtain ⟨h2, hk, e2⟩ := mergeK_ok f (by simp only [Nat.succ_eq_add_one]; omega) hk
      refine ⟨h2, hk, fun id => ?_⟩
      rw [e2, e1]
      simp only [Nat.succ_eq_add_one]
      by_cases h0 : id = i
      · subst h0
        rw [if_neg (by omega), if_pos rfl, if_pos (by omega)]
      · by_cases h3 : i ≤ id ∧ id < n
        · rw [if_pos (by omega), if_pos h3]
        · rw [if_neg (by omega), if_neg h0, if_neg h3]
    · rename_i hi
      have hi := blt_ff.1 hi
      exact ⟨h, hk, fun id => by rw [if_neg (by omega)]⟩
theorem ldView_ok {v : AV} {fr : Fr} {V : T} {o : Oper} {k : T → Option Nat → Out} (hk : ldView fr V o k = .ok v) : ∃ W q, k W q = .ok v ∧ (∀ j b, W.get j = some b → V.get j = some b) ∧ ((isLd o = false ∧ q = none ∧ W = V) ∨ (isLd o = true ∧ ∃ id, q = some id ∧ ∀ j, j ≠ id → W.get j = none)) := by
  unfold ldView at hk
  unfold isLd
  split at hk
  · rename_i t x hx
    obtain ⟨a, hk, _⟩ := opdK_ok hk
    split at hk
    · rename_i id off
      rw [fN_eq] at hk
      obtain ⟨W, hk, e⟩ := Tr.setK_ok hk
      refine ⟨W, _, hk, fun j b hj => ?_, .inr ⟨rfl, _, rfl, fun j hj => ?_⟩⟩
      · rw [e] at hj
        split at hj
        · rename_i h; rw [h]; exact hj
        · rw [Tr.get_e] at hj; cases hj
      · rw [e, if_neg hj, Tr.get_e]
    · cases hk
  · rename_i hx
    exact ⟨V, none, hk, fun j b hj => hj, .inl ⟨rfl, rfl, rfl⟩⟩
theorem hideK_ok {v : AV} {m : Nat} : ∀ {l : List (Nat × Nat)} {h : T} {k : T → List Nat → Out}, hideK m l h k = .ok v → ∃ V ids, k V ids = .ok v ∧ (∀ id, V.get id = if id ∈ ids then none else h.get id) ∧ ∀ j id, (j, id) ∈ l → m.testBit j = false → id ∈ ids
  | [], h, k, hk => ⟨h, [], hk, fun id => by simp, fun j id h => by simp at h⟩
  | (j, id) :: l, h, k, hk => by
    unfold hideK at hk
    split at hk
    · rename_i hb
      obtain ⟨V, ids, h1, h2, h3⟩ := hideK_ok hk
      refine ⟨V, ids, h1, h2, fun j' id' hm hb' => ?_⟩
      rcases List.mem_cons.1 hm with hm | hm
      · cases hm; rw [hasBit_eq] at hb; rw [hb] at hb'; cases hb'
      · exact h3 j' id' hm hb'
    · obtain ⟨h', hk, e⟩ := Tr.setK_ok hk
      obtain ⟨V, ids, h1, h2, h3⟩ := hideK_ok hk
      refine ⟨V, id :: ids, h1, fun x => ?_, fun j' id' hm hb' => ?_⟩
      · rw [h2, e]
        by_cases hx : x = id
        · simp [hx]
        · simp [hx]
      · rcases List.mem_cons.1 hm with hm | hm
        · cases hm; simp
        · exact List.mem_cons_of_mem _ (h3 j' id' hm hb')
theorem backK_ok {v : AV} {g : T} : ∀ {ids : List Nat} {h : T} {k : T → Out}, backK g ids h k = .ok v → ∃ h', k h' = .ok v ∧ ∀ id, h'.get id = if id ∈ ids then g.get id else h.get id
  | [], h, k, hk => ⟨h, hk, fun id => by simp⟩
  | i :: l, h, k, hk => by
    unfold backK at hk
    obtain ⟨h1, hk, e⟩ := Tr.setK_ok hk
    obtain ⟨h2, hk, e2⟩ := backK_ok hk
    refine ⟨h2, hk, fun id => ?_⟩
    rw [e2, e]
    by_cases hx : id = i
    · simp [hx]
    · simp [hx]
structure Snap where
  fr : Fr
  S : T
  h : T
  nx : Nat
  news : Nat
  lds : List (Nat × Nat)
/-- one step of a run through such a region -/
def Step (P : Program) (lim nt : Nat) (ops : List Oper) (i : Nat) (o : Oper) (m : Nat) (b : Bool) (s s' : Snap) : Prop :=
  ∃ a, (∀ j, s'.fr.get j = if o.dst = some j then some a else s.fr.get j) ∧ (∀ d, o.dst = some d → d < nt) ∧ (∀ x, x ∈ s.lds → x ∈ s'.lds) ∧
    ((wantedB ops s.fr o = false ∧ a = .tu [] ∧ s'.h = s.h ∧ s'.S = s.S ∧ s'.nx = s.nx ∧ s'.news = s.news)
    ∨ (wantedB ops s.fr o = true ∧ lightO P o = true ∧ (∃ h', OpOK P lim o s.fr .e s.nx a h' s.nx) ∧ s'.h = s.h ∧ s'.S = s.S ∧ s'.nx = s.nx ∧ s'.news = s.news)
    ∨ (wantedB ops s.fr o = true ∧ lightO P o = false ∧ b = true ∧ (∃ (V h' : T) (ids : List Nat), OpOK P lim o s.fr V s.nx a h' s'.nx ∧ (∀ id, V.get id = if id ∈ ids then none else s.h.get id) ∧ (∀ id, s'.h.get id = if id ∈ ids then s.h.get id else h'.get id) ∧ ∀ j id, (j, id) ∈ s.lds → m.testBit j = false → id ∈ ids) ∧ s'.S = s'.h ∧ s'.news = 0)
    ∨ (wantedB ops s.fr o = true ∧ lightO P o = false ∧ b = false ∧ (∃ V h', (((∀ j b, V.get j = some b → s.h.get j = some b) ∧ Nat.land s.news m = s.news) ∨ ∀ j b, V.get j = some b → s.S.get j = some b) ∧ OpOK P s.nx o s.fr V s.nx a h' s'.nx ∧ (∀ id, s'.h.get id = if s.nx ≤ id ∧ id < s'.nx then h'.get id else s.h.get id) ∧
        (isLd o = true → s'.nx = s.nx ∧ ∃ id, (i, id) ∈ s'.lds ∧ ∀ j, j ≠ id → V.get j = none)) ∧
        s'.S = s.S ∧ (s'.news = Nat.lor s.news (Nat.pow 2 i) ∨ (s'.nx = s.nx ∧ s'.news = s.news))))
theorem drK_step {v : AV} {call : CallT} {nt lim i : Nat} {ops l : List Oper} {o : Oper} {m : Nat} {ms : List Nat} {b : Bool} {bs : List Bool} {fr : Fr} {S h : T} {nx news : Nat} {lds : List (Nat × Nat)} {k : KS} (hcall : CallOK P call) (ht : Top lim h nx) (hS : ∀ j, nx ≤ j → S.get j = none)
    (hk : drK P call nt lim ops i (o :: l) (m :: ms) (b :: bs) fr S h nx news lds k = .ok v) :
    ∃ s', Step P lim nt ops i o m b ⟨fr, S, h, nx, news, lds⟩ s' ∧ drK P call nt lim ops (i + 1) l ms bs s'.fr s'.S s'.h s'.nx s'.news s'.lds k = .ok v ∧ Top lim s'.h s'.nx ∧ ∀ j, s'.nx ≤ j → s'.S.get j = none := by
  unfold drK at hk
  have tE : Top lim (Tr.e : T) nx := ⟨ht.1, fun j _ => Tr.get_e j⟩
  have tN : ∀ {V W : T}, (∀ j, nx ≤ j → V.get j = none) → (∀ j b, W.get j = some b → V.get j = some b) → Top nx W nx := fun {V W} hV hW => ⟨Nat.le_refl _, fun j hj => by
    cases hw : W.get j with
    | none => rfl
    | some b => have := hW j b hw; rw [hV j hj] at this; cases this⟩
  split at hk
  · rename_i hw
    obtain ⟨fr', hk2, e, hd, _⟩ := putD_ok hk
    clear hk
    have hk := hk2; clear hk2
    rw [fN_eq] at hk
    exact ⟨⟨fr', S, h, nx, news, lds⟩, ⟨_, e, hd, fun _ h => h, .inl ⟨hw, rfl, rfl, rfl, rfl, rfl⟩⟩, hk, ht, hS⟩
  · rename_i hw
    split at hk
    · rename_i hlt
      obtain ⟨a, h', nx', hk, ho⟩ := opK_ok hcall tE hk
      split at hk
      · rename_i hn
        have hn := beq_iff.1 hn
        subst hn
        obtain ⟨fr', hk2, e, hd, _⟩ := putD_ok hk
        clear hk
        have hk := hk2; clear hk2
        rw [fN_eq] at hk
        exact ⟨⟨fr', S, h, nx, news, lds⟩, ⟨_, e, hd, fun _ h => h, .inr (.inl ⟨hw, hlt, ⟨h', ho⟩, rfl, rfl, rfl, rfl⟩)⟩, hk, ht, hS⟩
      · cases hk
    · rename_i hlt
      split at hk
      · obtain ⟨V, ids, hk, hV, hids⟩ := hideK_ok hk
        have tV : Top lim V nx := ⟨ht.1, fun j hj => by rw [hV]; split; rfl; exact ht.2 j hj⟩
        obtain ⟨a, h', nx', hk, ho⟩ := opK_ok hcall tV hk
        obtain ⟨fr', hk2, e, hd, _⟩ := putD_ok hk
        clear hk
        obtain ⟨h2, hk, e2⟩ := backK_ok hk2
        rw [fN_eq] at hk
        have hle := ho.1.le
        have t2 : ∀ j, nx' ≤ j → h2.get j = none := fun j hj => by
          rw [e2]
          split
          · exact ht.2 j (Nat.le_trans hle hj)
          · exact (ho.1.top tV).2 j hj
        exact ⟨⟨fr', h2, h2, nx', 0, lds⟩, ⟨_, e, hd, fun _ h => h, .inr (.inr (.inl ⟨hw, hlt, rfl, ⟨V, h', ids, ho, hV, e2, hids⟩, rfl, rfl⟩))⟩, hk, ⟨Nat.le_trans ht.1 hle, t2⟩, t2⟩
      · split at hk
        · rename_i hnews
          have hnews := beq_iff.1 hnews
          obtain ⟨W, q, hk, hW, hq⟩ := ldView_ok hk
          have tW := tN ht.2 hW
          obtain ⟨a, h', nx', hk, ho⟩ := opK_ok hcall tW hk
          obtain ⟨fr', hk2, e, hd, _⟩ := putD_ok hk
          clear hk
          have hk := hk2; clear hk2
          split at hk
          · rename_i hn
            have hn := beq_iff.1 hn
            subst hn
            rcases hq with ⟨hq1, rfl, hWV⟩ | ⟨hq1, id, rfl, hq2⟩
            · simp only at hk
              rw [fN_eq] at hk
              exact ⟨⟨fr', S, h, nx, news, lds⟩, ⟨_, e, hd, fun _ h => h, .inr (.inr (.inr ⟨hw, hlt, rfl, ⟨W, h', .inl ⟨hW, hnews⟩, ho, fun id => (by simp only; rw [if_neg (by omega)]), fun hl => (by rw [hq1] at hl; cases hl)⟩, rfl, .inr ⟨rfl, rfl⟩⟩))⟩, hk, ht, hS⟩
            · simp only at hk
              rw [fN_eq] at hk
              exact ⟨⟨fr', S, h, nx, news, (i, id) :: lds⟩, ⟨_, e, hd, fun _ h => List.mem_cons_of_mem _ h, .inr (.inr (.inr ⟨hw, hlt, rfl, ⟨W, h', .inl ⟨hW, hnews⟩, ho, fun id => (by simp only; rw [if_neg (by omega)]), fun _ => ⟨rfl, id, by simp, hq2⟩⟩, rfl, .inr ⟨rfl, rfl⟩⟩))⟩, hk, ht, hS⟩
          · rcases hq with ⟨hq1, rfl, hWV⟩ | ⟨hq1, id, rfl, hq2⟩
            · simp only at hk
              rw [fN_eq, fN_eq] at hk
              have eh : ∀ id, h'.get id = if nx ≤ id ∧ id < nx' then h'.get id else h.get id := fun id => by
                split
                · rfl
                · rename_i hid
                  by_cases h1 : id < nx
                  · rw [ho.1.old id h1, hWV]
                  · have h2 : nx' ≤ id := by omega
                    rw [(ho.1.top tW).2 id h2, ht.2 id (by omega)]
              exact ⟨⟨fr', S, h', nx', Nat.lor news (Nat.pow 2 i), lds⟩, ⟨_, e, hd, fun _ h => h, .inr (.inr (.inr ⟨hw, hlt, rfl, ⟨W, h', .inl ⟨hW, hnews⟩, ho, eh, fun hl => (by rw [hq1] at hl; cases hl)⟩, rfl, .inl rfl⟩))⟩, hk,
                ⟨Nat.le_trans ht.1 ho.1.le, (ho.1.top tW).2⟩, fun j hj => hS j (Nat.le_trans ho.1.le hj)⟩
            · cases hk
        · obtain ⟨W, q, hk, hW, hq⟩ := ldView_ok hk
          have tW := tN hS hW
          obtain ⟨a, h', nx', hk, ho⟩ := opK_ok hcall tW hk
          obtain ⟨fr', hk2, e, hd, _⟩ := putD_ok hk
          clear hk
          have hk := hk2; clear hk2
          have hle := ho.1.le
          split at hk
          · rename_i hn
            have hn := beq_iff.1 hn
            subst hn
            rcases hq with ⟨hq1, rfl, hWV⟩ | ⟨hq1, id, rfl, hq2⟩
            · simp only at hk
              rw [fN_eq] at hk
              exact ⟨⟨fr', S, h, nx, news, lds⟩, ⟨_, e, hd, fun _ h => h, .inr (.inr (.inr ⟨hw, hlt, rfl, ⟨W, h', .inr hW, ho, fun id => (by simp only; rw [if_neg (by omega)]), fun hl => (by rw [hq1] at hl; cases hl)⟩, rfl, .inr ⟨rfl, rfl⟩⟩))⟩, hk, ht, hS⟩
            · simp only at hk
              rw [fN_eq] at hk
              exact ⟨⟨fr', S, h, nx, news, (i, id) :: lds⟩, ⟨_, e, hd, fun _ h => List.mem_cons_of_mem _ h, .inr (.inr (.inr ⟨hw, hlt, rfl, ⟨W, h', .inr hW, ho, fun id => (by simp only; rw [if_neg (by omega)]), fun _ => ⟨rfl, id, by simp, hq2⟩⟩, rfl, .inr ⟨rfl, rfl⟩⟩))⟩, hk, ht, hS⟩
          · rcases hq with ⟨hq1, rfl, hWV⟩ | ⟨hq1, id, rfl, hq2⟩
            · simp only at hk
              obtain ⟨h2, hk, e2⟩ := mergeK_ok _ (show nx' ≤ nx + (nx' - nx) from by omega) hk
              rw [fN_eq, fN_eq] at hk
              exact ⟨⟨fr', S, h2, nx', Nat.lor news (Nat.pow 2 i), lds⟩, ⟨_, e, hd, fun _ h => h, .inr (.inr (.inr ⟨hw, hlt, rfl, ⟨W, h', .inr hW, ho, e2, fun hl => (by rw [hq1] at hl; cases hl)⟩, rfl, .inl rfl⟩))⟩, hk,
                ⟨Nat.le_trans ht.1 hle, fun j hj => by
                  show h2.get j = none
                  have hj : nx' ≤ j := hj
                  rw [e2, if_neg (by omega)]
                  exact ht.2 j (by omega)⟩, fun j hj => hS j (Nat.le_trans hle hj)⟩
            · cases hk
theorem drK_trace {v : AV} {call : CallT} {nt lim : Nat} {ops : List Oper} {k : KS} (hcall : CallOK P call) : ∀ (l : List Oper) (i : Nat) (ms : List Nat) (bs : List Bool) (s : Snap), Top lim s.h s.nx → (∀ j, s.nx ≤ j → s.S.get j = none) →
    drK P call nt lim ops i l ms bs s.fr s.S s.h s.nx s.news s.lds k = .ok v →
    ∃ X : Nat → Snap, X i = s ∧ k (X (i + l.length)).fr (X (i + l.length)).h (X (i + l.length)).nx = .ok v ∧
      ∀ (j : Nat) (o : Oper), l[j]? = some o → ∃ m b, ms[j]? = some m ∧ bs[j]? = some b ∧ Step P lim nt ops (i + j) o m b (X (i + j)) (X (i + j + 1)) ∧ Top lim (X (i + j + 1)).h (X (i + j + 1)).nx ∧ ∀ x, (X (i + j + 1)).nx ≤ x → (X (i + j + 1)).S.get x = none
  | [], i, ms, bs, s, ht, hS, hk => ⟨fun _ => s, rfl, by rw [drK] at hk; exact hk, fun j o h => by simp at h⟩
  | o :: l, i, [], bs, s, ht, hS, hk => by rw [drK] at hk <;> first | (cases hk; done) | (intros; simp_all)
  | o :: l, i, m :: ms, [], s, ht, hS, hk => by rw [drK] at hk <;> first | (cases hk; done) | (intros; simp_all)
  | o :: l, i, m :: ms, b :: bs, s, ht, hS, hk => by
    obtain ⟨s', h1, h2, h3, h4⟩ := drK_step hcall ht hS hk
    obtain ⟨X, x1, x2, x3⟩ := drK_trace hcall l (i + 1) ms bs s' h3 h4 h2
    have e : i + (o :: l).length = i + 1 + l.length := by simp; omega
    refine ⟨fun j => if j ≤ i then s else X j, if_pos (Nat.le_refl _), ?_, fun j o' hj => ?_⟩
    · rw [e]
      simp only
      rw [if_neg (by omega)]
      exact x2
    · cases j with
      | zero =>
        simp at hj
        subst hj
        refine ⟨m, b, rfl, rfl, ?_⟩
        simp only [Nat.add_zero]
        rw [if_pos (Nat.le_refl _), if_neg (by omega), x1]
        exact ⟨h1, h3, h4⟩
      | succ j =>
        obtain ⟨m', b', y1, y2, y3⟩ := x3 j o' (by simpa using hj)
        refine ⟨m', b', by simpa using y1, by simpa using y2, ?_⟩
        simp only
        rw [if_neg (by omega), if_neg (by omega), show i + (j + 1) = i + 1 + j from by omega]
        exact y3
end Clo
end Go.Proofs.YtlcggjaogbclkaaDoor
