/-
  Runs of closed calls by the kernel: regions whose order is drawn, as the run goes through them.
-/
import Derived.Test.YtihchddkobpcnaaCloX
import Derived.Test.YtihchddkobpcnaaCloXb
namespace Go.Proofs.Ytihchddkobpcnaa
namespace Clo
open Go.RowKit
set_option linter.unusedVariables false
variable {P : Program}

theorem mergeK_ok {v : AV} {g : T} {n : Nat} {k : T → Out} : ∀ (f : Nat) {h : T} {i : Nat}, n ≤ i + f → mergeK f g h i n k = .ok v → ∃ h', k h' = .ok v ∧ ∀ id, h'.get id = if i ≤ id ∧ id < n then g.get id else h.get id
  | 0, h, i, hn, hk => ⟨h, hk, fun id => by rw [if_neg (by omega)]⟩
  | f + 1, h, i, hn, hk => by
    unfold mergeK at hk
    split at hk
    · rename_i hi
      have hi := blt_iff.1 hi
      obtain ⟨h1, hk, e1⟩ := Tr.setK_ok hk
      rw [fN_eq] at hk
      obtain ⟨h2, hk, e2⟩ := mergeK_ok f (by simp only [Nat.succ_eq_add_one]; omega) hk
      refine ⟨h2, hk, fun id => ?_⟩
      rw [e2, e1]
      simp only [Nat.succ_eq_add_one]
      by_cases h0 : id = i
      · subst h0
        rw [if_neg (by omega), if_pos rfl, if_pos (by omega)]
      · by_cases h3 : i ≤ id ∧ id < n
        · rw [if_pos (by omega), if_pos h3]
        · rw [if_neg (by omega), if_neg h0, if_neg h3]
    · rename_i hi
      have hi := blt_ff.1 hi
      exact ⟨h, hk, fun id => by rw [if_neg (by omega)]⟩
theorem ldView_ok {v : AV} {fr : Fr} {V : T} {o : Oper} {k : T → Option Nat → Out} (hk : ldView fr V o k = .ok v) : ∃ W q, k W q = .ok v ∧ (∀ j b, W.get j = some b → V.get j = some b) ∧ ((isLd o = false ∧ q = none ∧ W = V) ∨ (isLd o = true ∧ ∃ id, q = some id ∧ ∀ j, j ≠ id → W.get j = none)) := by
  unfold ldView at hk
  unfold isLd
  split at hk
  · rename_i t x hx
    obtain ⟨a, hk, _⟩ := opdK_ok hk
    split at hk
    · rename_i id off
      rw [fN_eq] at hk
      obtain ⟨W, hk, e⟩ := Tr.setK_ok hk
      refine ⟨W, _, hk, fun j b hj => ?_, .inr ⟨rfl, _, rfl, fun j hj => ?_⟩⟩
      · rw [e] at hj
        split at hj
        · rename_i h; rw [h]; exact hj
        · rw [Tr.get_e] at hj; cases hj
      · rw [e, if_neg hj, Tr.get_e]
    · cases hk
  · rename_i hx
    exact ⟨V, none, hk, fun j b hj => hj, .inl ⟨rfl, rfl, rfl⟩⟩
theorem hideK_ok {v : AV} {m : Nat} : ∀ {l : List (Nat × Nat)} {h : T} {k : T → List Nat → Out}, hideK m l h k = .ok v → ∃ V ids, k V ids = .ok v ∧ (∀ id, V.get id = if id ∈ ids then none else h.get id) ∧ ∀ j id, (j, id) ∈ l → m.testBit j = false → id ∈ ids
  | [], h, k, hk => ⟨h, [], hk, fun id => by simp, fun j id h => by simp at h⟩
  | (j, id) :: l, h, k, hk => by
    unfold hideK at hk
    split at hk
    · rename_i hb
      obtain ⟨V, ids, h1, h2, h3⟩ := hideK_ok hk
      refine ⟨V, ids, h1, h2, fun j' id' hm hb' => ?_⟩
      rcases List.mem_cons.1 hm with hm | hm
      · cases hm; rw [hasBit_eq] at hb; rw [hb] at hb'; cases hb'
      · exact h3 j' id' hm hb'
    · obtain ⟨h', hk, e⟩ := Tr.setK_ok hk
      obtain ⟨V, ids, h1, h2, h3⟩ := hideK_ok hk
      refine ⟨V, id :: ids, h1, fun x => ?_, fun j' id' hm hb' => ?_⟩
      · rw [h2, e]
        by_cases hx : x = id
        · simp [hx]
        · simp [hx]
      · rcases List.mem_cons.1 hm with hm | hm
        · cases hm; simp
        · exact List.mem_cons_of_mem _ (h3 j' id' hm hb')
theorem backK_ok {v : AV} {g : T} : ∀ {ids : List Nat} {h : T} {k : T → Out}, backK g ids h k = .ok v → ∃ h', k h' = .ok v ∧ ∀ id, h'.get id = if id ∈ ids then g.get id else h.get id
  | [], h, k, hk => ⟨h, hk, fun id => by simp⟩
  | i :: l, h, k, hk => by
    unfold backK at hk
    obtain ⟨h1, hk, e⟩ := Tr.setK_ok hk
    obtain ⟨h2, hk, e2⟩ := backK_ok hk
    refine ⟨h2, hk, fun id => ?_⟩
    rw [e2, e]
    by_cases hx : id = i
    · simp [hx]
    · simp [hx]
theorem clrK_ok {v : AV} {k : T → Out} : ∀ (f : Nat) {i : Nat} {h : T}, clrK f i h k = .ok v → ∃ h', k h' = .ok v ∧ ∀ id, h'.get id = if i ≤ id ∧ id < i + f then none else h.get id
  | 0, i, h, hk => ⟨h, hk, fun id => by rw [if_neg (by omega)]⟩
  | f + 1, i, h, hk => by
    unfold clrK at hk
    obtain ⟨h1, hk, e1⟩ := Tr.setK_ok hk
    rw [fN_eq] at hk
    obtain ⟨h2, hk, e2⟩ := clrK_ok f hk
    refine ⟨h2, hk, fun id => ?_⟩
    rw [e2, e1]
    simp only [Nat.succ_eq_add_one]
    by_cases h0 : id = i
    · subst h0
      rw [if_pos rfl]
      split <;> (first | rfl | (rw [if_pos (by omega)]; done) | skip)
      all_goals (split <;> rfl)
    · rw [if_neg h0]
      by_cases h3 : i ≤ id ∧ id < i + (f + 1)
      · rw [if_pos (by omega), if_pos h3]
      · rw [if_neg (by omega), if_neg h3]
theorem hideR_ok {v : AV} {m : Nat} : ∀ {l : List (Nat × Nat × Nat)} {h : T} {q : Bool} {k : T → Bool → Out}, hideR m l h q k = .ok v →
    ∃ V q', k V q' = .ok v ∧ (∀ j b, V.get j = some b → h.get j = some b) ∧ (∀ x lo hi, (x, lo, hi) ∈ l → m.testBit x = false → ∀ j, lo ≤ j → j < hi → V.get j = none) ∧ (q' = false → V = h) ∧ (q = true → q' = true)
  | [], h, q, k, hk => ⟨h, q, hk, fun j b hj => hj, fun x lo hi hx => by simp at hx, fun _ => rfl, fun hq => hq⟩
  | x :: l, h, q, k, hk => by
    unfold hideR at hk
    split at hk
    · rename_i hb
      obtain ⟨V, q', h1, h2, h3, h4, h5⟩ := hideR_ok hk
      refine ⟨V, q', h1, h2, fun y lo hi hm hb' => ?_, h4, h5⟩
      rcases List.mem_cons.1 hm with hm | hm
      · subst hm; rw [hasBit_eq] at hb; rw [hb] at hb'; cases hb'
      · exact h3 y lo hi hm hb'
    · obtain ⟨h1, hk, e⟩ := clrK_ok _ hk
      obtain ⟨V, q', k1, k2, k3, k4, k5⟩ := hideR_ok hk
      have sub : ∀ j b, V.get j = some b → h.get j = some b := fun j b hj => by
        have := k2 j b hj
        rw [e] at this
        split at this
        · cases this
        · exact this
      refine ⟨V, q', k1, sub, fun y lo hi hm hb' => ?_, fun hq => ?_, fun _ => k5 rfl⟩
      · rcases List.mem_cons.1 hm with hm | hm
        · subst hm
          intro j h1 h2
          cases hv : V.get j with
          | none => rfl
          | some b =>
            have := k2 j b hv
            rw [e, if_pos (by simp only [Nat.sub_eq]; omega)] at this
            cases this
        · exact k3 y lo hi hm hb'
      · exact absurd (k5 rfl) (by rw [hq]; simp)
theorem keepK_ok {v : AV} {m : Nat} : ∀ {l : List (Nat × Nat × Nat)} {k : List (Nat × Nat × Nat) → Out}, keepK m l k = .ok v → ∃ r, k r = .ok v ∧ ∀ x, x ∈ l → m.testBit x.1 = false → x ∈ r
  | [], k, hk => ⟨[], hk, fun x hx => by simp at hx⟩
  | y :: l, k, hk => by
    unfold keepK at hk
    split at hk
    · rename_i hb
      obtain ⟨r, h1, h2⟩ := keepK_ok hk
      refine ⟨r, h1, fun x hx hm => ?_⟩
      rcases List.mem_cons.1 hx with rfl | hx
      · rw [hasBit_eq] at hb; rw [hb] at hm; cases hm
      · exact h2 x hx hm
    · obtain ⟨r, h1, h2⟩ := keepK_ok hk
      refine ⟨y :: r, h1, fun x hx hm => ?_⟩
      rcases List.mem_cons.1 hx with rfl | hx
      · simp
      · exact List.mem_cons_of_mem _ (h2 x hx hm)
structure Snap where
  fr : Fr
  h : T
  nx : Nat
  nws : List (Nat × Nat × Nat)
  lds : List (Nat × Nat)
  bar : Bool
/-- one step of a run through such a region -/
def Step (P : Program) (lim nt : Nat) (ops : List Oper) (i : Nat) (o : Oper) (m : Nat) (b : Bool × Bool) (s s' : Snap) : Prop :=
  ∃ a, (∀ j, s'.fr.get j = if o.dst = some j then some a else s.fr.get j) ∧ (∀ d, o.dst = some d → d < nt) ∧ (∀ x, x ∈ s.lds → x ∈ s'.lds) ∧
    ((wantedB ops s.fr o = false ∧ a = .tu [] ∧ s'.h = s.h ∧ s'.nx = s.nx ∧ s'.nws = s.nws)
    ∨ (wantedB ops s.fr o = true ∧ lightO P o = true ∧ (∃ h', OpOK P lim o s.fr .e s.nx a h' s.nx) ∧ s'.h = s.h ∧ s'.nx = s.nx ∧ s'.nws = s.nws)
    ∨ (wantedB ops s.fr o = true ∧ lightO P o = false ∧ s'.bar = true ∧ isFr o = false ∧ (b.1 = true ∨ b.2 = true ∧ isLd o = false) ∧
        (∃ (V h' : T) (ids : List Nat), OpOK P lim o s.fr V s.nx a h' s'.nx ∧ (∀ id, V.get id = if id ∈ ids then none else s.h.get id) ∧ (∀ id, s'.h.get id = if id ∈ ids then s.h.get id else h'.get id) ∧ ∀ j id, (j, id) ∈ s.lds → m.testBit j = false → id ∈ ids) ∧
        ∀ x, x ∈ s.nws → m.testBit x.1 = false → x ∈ s'.nws)
    ∨ (wantedB ops s.fr o = true ∧ lightO P o = false ∧ s'.bar = false ∧ (∃ V h', (∀ j b, V.get j = some b → s.h.get j = some b) ∧ (∀ x lo hi, (x, lo, hi) ∈ s.nws → m.testBit x = false → ∀ j, lo ≤ j → j < hi → V.get j = none) ∧
        OpOK P s.nx o s.fr V s.nx a h' s'.nx ∧ (∀ id, s'.h.get id = if s.nx ≤ id ∧ id < s'.nx then h'.get id else s.h.get id) ∧
        (isLd o = true → s'.nx = s.nx ∧ ∃ id, (i, id) ∈ s'.lds ∧ ∀ j, j ≠ id → V.get j = none) ∧
        (isFr o = true → s'.nx = s.nx + 1 ∧ (i, s.nx) ∈ s'.lds ∧ ∀ j, V.get j = none)) ∧
        (s'.nws = (i, s.nx, s'.nx) :: s.nws ∨ (s'.nx = s.nx ∧ s'.nws = s.nws))))
theorem isLd_fr {o : Oper} (h : isFr o = true) : isLd o = false := by
  unfold isFr at h
  unfold isLd
  split at h <;> first | (rename_i e; rw [e]; done) | (cases h; done) | skip
  all_goals (rename_i e; simp [e])
theorem barNow_ok {fr : Fr} {o : Oper} {m : Nat} {lds : List (Nat × Nat)} {b : Bool × Bool} (h : barNow fr o m lds b = true) : b.1 = true ∨ b.2 = true ∧ isLd o = false := by
  unfold barNow at h
  split at h
  · rename_i hb; exact .inl hb
  · have ld : ∀ n, wkN o = n + 1 → isLd o = false := fun n hn => by
      obtain ⟨dst, op, ty, pos, after, guard⟩ := o
      cases op <;> first | rfl | (simp [wkN] at hn)
    split at h
    · rename_i h1 h2; exact .inr ⟨h1, ld 0 h2⟩
    · rename_i h1 h2; exact .inr ⟨h1, ld 1 h2⟩
    · cases h
theorem drK_step {v : AV} {call : CallT} {nt lim i : Nat} {ops l : List Oper} {o : Oper} {m : Nat} {ms : List Nat} {b : Bool × Bool} {bs : List (Bool × Bool)} {fr : Fr} {h : T} {nx : Nat} {nws : List (Nat × Nat × Nat)} {lds : List (Nat × Nat)} {q0 : Bool} {k : KS} (hcall : CallOK P call) (ht : Top lim h nx)
    (hk : drK P call nt lim ops i (o :: l) (m :: ms) (b :: bs) fr h nx nws lds k = .ok v) :
    ∃ s', Step P lim nt ops i o m b ⟨fr, h, nx, nws, lds, q0⟩ s' ∧ drK P call nt lim ops (i + 1) l ms bs s'.fr s'.h s'.nx s'.nws s'.lds k = .ok v ∧ Top lim s'.h s'.nx := by
  unfold drK at hk
  have tE : ∀ {lim}, lim ≤ nx → Top lim (Tr.e : T) nx := fun hl => ⟨hl, fun j _ => Tr.get_e j⟩
  have tN : ∀ {W : T}, (∀ j b, W.get j = some b → h.get j = some b) → Top nx W nx := fun {W} hW => ⟨Nat.le_refl _, fun j hj => by
    cases hw : W.get j with
    | none => rfl
    | some b => have := hW j b hw; rw [ht.2 j hj] at this; cases this⟩
  split at hk
  · rename_i hw
    obtain ⟨fr', hk2, e, hd, _⟩ := putD_ok hk
    clear hk
    have hk := hk2; clear hk2
    rw [fN_eq] at hk
    exact ⟨⟨fr', h, nx, nws, lds, false⟩, ⟨_, e, hd, fun _ h => h, .inl ⟨hw, rfl, rfl, rfl, rfl⟩⟩, hk, ht⟩
  · rename_i hw
    split at hk
    · rename_i hlt
      obtain ⟨a, h', nx', hk, ho⟩ := opK_ok hcall (tE ht.1) hk
      split at hk
      · rename_i hn
        have hn := beq_iff.1 hn
        subst hn
        obtain ⟨fr', hk2, e, hd, _⟩ := putD_ok hk
        clear hk
        have hk := hk2; clear hk2
        rw [fN_eq] at hk
        exact ⟨⟨fr', h, nx, nws, lds, false⟩, ⟨_, e, hd, fun _ h => h, .inr (.inl ⟨hw, hlt, ⟨h', ho⟩, rfl, rfl, rfl⟩)⟩, hk, ht⟩
      · cases hk
    · rename_i hlt
      split at hk
      · rename_i hfr
        obtain ⟨a, h', nx', hk, ho⟩ := opK_ok hcall (tE (Nat.le_refl _)) hk
        split at hk
        · rename_i hn
          have hn := beq_iff.1 hn
          have hn : nx' = nx + 1 := hn.symm
          subst hn
          obtain ⟨fr', hk2, e, hd, _⟩ := putD_ok hk
          clear hk
          obtain ⟨h2, hk, e2⟩ := Tr.setK_ok hk2
          rw [fN_eq] at hk
          have e3 : ∀ id, h2.get id = if nx ≤ id ∧ id < nx + 1 then h'.get id else h.get id := fun id => by
            rw [e2]
            by_cases hid : id = nx
            · subst hid; rw [if_pos rfl, if_pos (by omega)]
            · rw [if_neg hid, if_neg (by omega)]
          refine ⟨⟨fr', h2, nx + 1, (i, nx, nx + 1) :: nws, (i, nx) :: lds, false⟩, ⟨_, e, hd, fun _ h => List.mem_cons_of_mem _ h, .inr (.inr (.inr ⟨hw, hlt, rfl, ⟨.e, h', fun j b hj => (by rw [Tr.get_e] at hj; cases hj), fun _ _ _ _ _ j _ _ => Tr.get_e j, ho, e3,
            fun hl => (by rw [isLd_fr hfr] at hl; cases hl), fun _ => ⟨rfl, by simp, fun j => Tr.get_e j⟩⟩, .inl rfl⟩))⟩, hk, Nat.le_succ_of_le ht.1, fun j hj => ?_⟩
          show h2.get j = none
          have hj : nx + 1 ≤ j := hj
          rw [e3, if_neg (by omega)]
          exact ht.2 j (by omega)
        · cases hk
      · rename_i hfr
        split at hk
        · rename_i hbar
          obtain ⟨V, ids, hk, hV, hids⟩ := hideK_ok hk
          have tV : Top lim V nx := ⟨ht.1, fun j hj => by rw [hV]; split; rfl; exact ht.2 j hj⟩
          obtain ⟨a, h', nx', hk, ho⟩ := opK_ok hcall tV hk
          obtain ⟨fr', hk2, e, hd, _⟩ := putD_ok hk
          clear hk
          obtain ⟨h2, hk, e2⟩ := backK_ok hk2
          obtain ⟨nws', hk, e4⟩ := keepK_ok hk
          rw [fN_eq] at hk
          have hle := ho.1.le
          have t2 : ∀ j, nx' ≤ j → h2.get j = none := fun j hj => by
            rw [e2]
            split
            · exact ht.2 j (Nat.le_trans hle hj)
            · exact (ho.1.top tV).2 j hj
          exact ⟨⟨fr', h2, nx', nws', lds, true⟩, ⟨_, e, hd, fun _ h => h, .inr (.inr (.inl ⟨hw, hlt, rfl, hfr, barNow_ok hbar, ⟨V, h', ids, ho, hV, e2, hids⟩, e4⟩))⟩, hk, ⟨Nat.le_trans ht.1 hle, t2⟩⟩
        · obtain ⟨R, hid, hk, hR1, hR2, hR3, _⟩ := hideR_ok hk
          obtain ⟨W, q, hk, hW, hq⟩ := ldView_ok hk
          have hWh : ∀ j b, W.get j = some b → h.get j = some b := fun j b hj => hR1 j b (hW j b hj)
          have hWn : ∀ x lo hi, (x, lo, hi) ∈ nws → m.testBit x = false → ∀ j, lo ≤ j → j < hi → W.get j = none := fun x lo hi h1 h2 j h3 h4 => by
            cases hw : W.get j with
            | none => rfl
            | some b => have := hW j b hw; rw [hR2 x lo hi h1 h2 j h3 h4] at this; cases this
          have tW := tN hWh
          obtain ⟨a, h', nx', hk, ho⟩ := opK_ok hcall tW hk
          obtain ⟨fr', hk2, e, hd, _⟩ := putD_ok hk
          clear hk
          have hk := hk2; clear hk2
          have hle := ho.1.le
          have nofr : isFr o = true → nx' = nx + 1 ∧ (i, nx) ∈ lds ∧ ∀ j, W.get j = none := fun hl => by rw [hfr] at hl; cases hl
          split at hk
          · rename_i hn
            have hn := beq_iff.1 hn
            subst hn
            rcases hq with ⟨hq1, rfl, hWV⟩ | ⟨hq1, id, rfl, hq2⟩
            · simp only at hk
              rw [fN_eq] at hk
              exact ⟨⟨fr', h, nx, nws, lds, false⟩, ⟨_, e, hd, fun _ h => h, .inr (.inr (.inr ⟨hw, hlt, rfl, ⟨W, h', hWh, hWn, ho, fun id => (by simp only; rw [if_neg (by omega)]), fun hl => (by rw [hq1] at hl; cases hl), fun hl => (by rw [hfr] at hl; cases hl)⟩, .inr ⟨rfl, rfl⟩⟩))⟩, hk, ht⟩
            · simp only at hk
              rw [fN_eq] at hk
              exact ⟨⟨fr', h, nx, nws, (i, id) :: lds, false⟩, ⟨_, e, hd, fun _ h => List.mem_cons_of_mem _ h, .inr (.inr (.inr ⟨hw, hlt, rfl, ⟨W, h', hWh, hWn, ho, fun id => (by simp only; rw [if_neg (by omega)]), fun _ => ⟨rfl, id, by simp, hq2⟩, fun hl => (by rw [hfr] at hl; cases hl)⟩, .inr ⟨rfl, rfl⟩⟩))⟩, hk, ht⟩
          · rcases hq with ⟨hq1, rfl, hWV⟩ | ⟨hq1, id, rfl, hq2⟩
            · simp only at hk
              split at hk
              · rw [fN_eq] at hk
                have hWe : W = h := by rw [hWV, hR3 rfl]
                have eh : ∀ id, h'.get id = if nx ≤ id ∧ id < nx' then h'.get id else h.get id := fun id => by
                  split
                  · rfl
                  · rename_i hid
                    by_cases h1 : id < nx
                    · rw [ho.1.old id h1, hWe]
                    · have h2 : nx' ≤ id := by omega
                      rw [(ho.1.top tW).2 id h2, ht.2 id (by omega)]
                exact ⟨⟨fr', h', nx', (i, nx, nx') :: nws, lds, false⟩, ⟨_, e, hd, fun _ h => h, .inr (.inr (.inr ⟨hw, hlt, rfl, ⟨W, h', hWh, hWn, ho, eh, fun hl => (by rw [hq1] at hl; cases hl), fun hl => (by rw [hfr] at hl; cases hl)⟩, .inl rfl⟩))⟩, hk, ⟨Nat.le_trans ht.1 ho.1.le, (ho.1.top tW).2⟩⟩
              · obtain ⟨h2, hk, e2⟩ := mergeK_ok _ (show nx' ≤ nx + (nx' - nx) from by omega) hk
                rw [fN_eq] at hk
                refine ⟨⟨fr', h2, nx', (i, nx, nx') :: nws, lds, false⟩, ⟨_, e, hd, fun _ h => h, .inr (.inr (.inr ⟨hw, hlt, rfl, ⟨W, h', hWh, hWn, ho, e2, fun hl => (by rw [hq1] at hl; cases hl), fun hl => (by rw [hfr] at hl; cases hl)⟩, .inl rfl⟩))⟩, hk, Nat.le_trans ht.1 hle, fun j hj => ?_⟩
                show h2.get j = none
                have hj : nx' ≤ j := hj
                rw [e2, if_neg (by omega)]
                exact ht.2 j (by omega)
            · cases hk
theorem drK_trace {v : AV} {call : CallT} {nt lim : Nat} {ops : List Oper} {k : KS} (hcall : CallOK P call) : ∀ (l : List Oper) (i : Nat) (ms : List Nat) (bs : List (Bool × Bool)) (s : Snap), Top lim s.h s.nx →
    drK P call nt lim ops i l ms bs s.fr s.h s.nx s.nws s.lds k = .ok v →
    ∃ X : Nat → Snap, X i = s ∧ k (X (i + l.length)).fr (X (i + l.length)).h (X (i + l.length)).nx = .ok v ∧
      ∀ (j : Nat) (o : Oper), l[j]? = some o → ∃ m b, ms[j]? = some m ∧ bs[j]? = some b ∧ Step P lim nt ops (i + j) o m b (X (i + j)) (X (i + j + 1)) ∧ Top lim (X (i + j + 1)).h (X (i + j + 1)).nx
  | [], i, ms, bs, s, ht, hk => ⟨fun _ => s, rfl, by rw [drK] at hk; exact hk, fun j o h => by simp at h⟩
  | o :: l, i, [], bs, s, ht, hk => by rw [drK] at hk <;> first | (cases hk; done) | (intros; simp_all)
  | o :: l, i, m :: ms, [], s, ht, hk => by rw [drK] at hk <;> first | (cases hk; done) | (intros; simp_all)
  | o :: l, i, m :: ms, b :: bs, s, ht, hk => by
    obtain ⟨s', h1, h2, h3⟩ := drK_step (q0 := s.bar) hcall ht hk
    obtain ⟨X, x1, x2, x3⟩ := drK_trace hcall l (i + 1) ms bs s' h3 h2
    have e : i + (o :: l).length = i + 1 + l.length := by simp; omega
    refine ⟨fun j => if j ≤ i then s else X j, if_pos (Nat.le_refl _), ?_, fun j o' hj => ?_⟩
    · rw [e]
      simp only
      rw [if_neg (by omega)]
      exact x2
    · cases j with
      | zero =>
        simp at hj
        subst hj
        refine ⟨m, b, rfl, rfl, ?_⟩
        simp only [Nat.add_zero]
        rw [if_pos (Nat.le_refl _), if_neg (by omega), x1]
        exact ⟨h1, h3⟩
      | succ j =>
        obtain ⟨m', b', y1, y2, y3⟩ := x3 j o' (by simpa using hj)
        refine ⟨m', b', by simpa using y1, by simpa using y2, ?_⟩
        simp only
        rw [if_neg (by omega), if_neg (by omega), show i + (j + 1) = i + 1 + j from by omega]
        exact y3
end Clo
end Go.Proofs.Ytihchddkobpcnaa
