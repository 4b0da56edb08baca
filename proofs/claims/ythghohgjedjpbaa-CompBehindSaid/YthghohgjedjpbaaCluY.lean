/-
  Runs of closed calls by the kernel: regions whose order is drawn, as the run goes through them.
-/
import Derived.Test.YthghohgjedjpbaaCluX
import Derived.Test.YthghohgjedjpbaaCluXb
namespace Go.Proofs.Ythghohgjedjpbaa
namespace Clu
open Go.RowKit
set_option linter.unusedVariables false
variable {P : Program}

theorem mergeK_ok {v : AV} {g : T} {n : Nat} {k : T → Out} : ∀ (f : Nat) {h : T} {i : Nat}, n ≤ i + f → mergeK f g h i n k = .ok v → ∃ h', k h' = .ok v ∧ ∀ id, h'.get id = if i ≤ id ∧ id < n then g.get id else h.get id
  | 0, h, i, hn, hk => ⟨h, hk, fun id => by rw [if_neg (by omega)]⟩
  | f + 1, h, i, hn, hk => by
    unfold mergeK at hk
    split at hk
    · rename_i hi
      have hi := blt_iff.1 hi
      obtain ⟨h1, hk, e1⟩ := Tr.setK_ok hk
      rw [fN_eq] at hk
      obtain ⟨h2, hk, e2⟩ := mergeK_ok f (by simp only [Nat.succ_eq_add_one]; omega) hk
      refine ⟨h2, hk, fun id => ?_⟩
      rw [e2, e1]
      simp only [Nat.succ_eq_add_one]
      by_cases h0 : id = i
      · subst h0
        rw [if_neg (by omega), if_pos rfl, if_pos (by omega)]
      · by_cases h3 : i ≤ id ∧ id < n
        · rw [if_pos (by omega), if_pos h3]
        · rw [if_neg (by omega), if_neg h0, if_neg h3]
    · rename_i hi
      have hi := blt_ff.1 hi
      exact ⟨h, hk, fun id => by rw [if_neg (by omega)]⟩
theorem ldView_ok {v : AV} {fr : Fr} {V : T} {o : Oper} {k : T → Option Nat → Out} (hk : ldView fr V o k = .ok v) : ∃ W q, k W q = .ok v ∧ (∀ j b, W.get j = some b → V.get j = some b) ∧ ((isLd o = false ∧ q = none ∧ W = V) ∨ (isLd o = true ∧ ∃ id, q = some id ∧ ∀ j, j ≠ id → W.get j = none)) := by
  unfold ldView at hk
  unfold isLd
  split at hk
  · rename_i t x hx
    obtain ⟨a, hk, _⟩ := opdK_ok hk
    split at hk
    · rename_i id off
      rw [fN_eq] at hk
      obtain ⟨W, hk, e⟩ := Tr.setK_ok hk
      refine ⟨W, _, hk, fun j b hj => ?_, .inr ⟨rfl, _, rfl, fun j hj => ?_⟩⟩
      · rw [e] at hj
        split at hj
        · rename_i h; rw [h]; exact hj
        · rw [Tr.get_e] at hj; cases hj
      · rw [e, if_neg hj, Tr.get_e]
    · cases hk
  · rename_i hx
    exact ⟨V, none, hk, fun j b hj => hj, .inl ⟨rfl, rfl, rfl⟩⟩
/-- a heap in which some blocks are hidden, or may not be written -/
def Hid (h V : T) (ids : List Nat) : Prop := (∀ id, id ∉ ids → V.get id = h.get id) ∧ ∀ id b, id ∈ ids → V.get id = some b → ∃ cs fz osz pl, h.get id = some (.c cs fz osz pl) ∧ b = .c cs (cs.length + 1) 0 none
theorem Hid.step {h h1 V : T} {x : Nat} {ids : List Nat} (e : ∀ id, id ≠ x → h1.get id = h.get id) (ex : ∀ b, h1.get x = some b → ∃ cs fz osz pl, h.get x = some (.c cs fz osz pl) ∧ b = .c cs (cs.length + 1) 0 none) (H : Hid h1 V ids) : Hid h V (x :: ids) := by
  refine ⟨fun id hid => ?_, fun id b hid hb => ?_⟩
  · simp only [List.mem_cons, not_or] at hid
    rw [H.1 id hid.2, e id hid.1]
  · by_cases hi : id ∈ ids
    · obtain ⟨cs, fz, osz, pl, h2, h3⟩ := H.2 id b hi hb
      by_cases hx : id = x
      · subst hx
        obtain ⟨cs', fz', osz', pl', h4, h5⟩ := ex _ h2
        cases h5
        exact ⟨cs, fz', osz', pl', h4, h3⟩
      · exact ⟨cs, fz, osz, pl, by rw [← e id hx]; exact h2, h3⟩
    · have hx : id = x := by simpa [hi] using hid
      subst hx
      rw [H.1 id hi] at hb
      exact ex b hb
theorem hideK_ok {v : AV} {m : Nat} : ∀ {l : List (Nat × Nat × Bool)} {h : T} {k : T → List Nat → Out}, hideK m l h k = .ok v → ∃ V ids, k V ids = .ok v ∧ Hid h V ids ∧ ∀ j id q, (j, id, q) ∈ l → m.testBit j = false → id ∈ ids ∧ (q = true → V.get id = none)
  | [], h, k, hk => ⟨h, [], hk, ⟨fun _ _ => rfl, fun id b hid => by simp at hid⟩, fun j id q h => by simp at h⟩
  | x :: l, h, k, hk => by
    have go : ∀ {h1 : T}, (∀ id, id ≠ x.2.1 → h1.get id = h.get id) → (∀ b, h1.get x.2.1 = some b → x.2.2 = false ∧ ∃ cs fz osz pl, h.get x.2.1 = some (.c cs fz osz pl) ∧ b = .c cs (cs.length + 1) 0 none) → (hideK m l h1 fun V ids => k V (x.2.1 :: ids)) = .ok v →
        ∃ V ids, k V ids = .ok v ∧ Hid h V ids ∧ ∀ j id q, (j, id, q) ∈ x :: l → m.testBit j = false → id ∈ ids ∧ (q = true → V.get id = none) := fun {h1} e ex hk => by
      obtain ⟨V, ids, k1, k2, k3⟩ := hideK_ok hk
      refine ⟨V, x.2.1 :: ids, k1, k2.step e fun b hb => (ex b hb).2, fun j id q hm hb => ?_⟩
      rcases List.mem_cons.1 hm with hm | hm
      · subst hm
        refine ⟨by simp, fun hq => ?_⟩
        cases hv : V.get id with
        | none => rfl
        | some b =>
          have h1n : h1.get id = none := by
            cases h2 : h1.get id with
            | none => rfl
            | some b2 => have := (ex b2 h2).1; simp only at this; rw [hq] at this; cases this
          by_cases hi : id ∈ ids
          · obtain ⟨cs, fz, osz, pl, h2, _⟩ := k2.2 id b hi hv
            rw [h1n] at h2; cases h2
          · rw [k2.1 id hi, h1n] at hv; cases hv
      · obtain ⟨q1, q2⟩ := k3 j id q hm hb
        exact ⟨List.mem_cons_of_mem _ q1, q2⟩
    unfold hideK at hk
    split at hk
    · rename_i hb
      obtain ⟨V, ids, h1, h2, h3⟩ := hideK_ok hk
      refine ⟨V, ids, h1, h2, fun j' id' q hm hb' => ?_⟩
      rcases List.mem_cons.1 hm with hm | hm
      · subst hm; rw [hasBit_eq] at hb; rw [hb] at hb'; cases hb'
      · exact h3 j' id' q hm hb'
    · split at hk
      · rename_i cs fz osz pl hq hc
        rw [lenK_eq, Nat.zero_add] at hk
        obtain ⟨h1, hk, e⟩ := Tr.setK_ok hk
        refine go (fun id hid => by rw [e, if_neg hid]) (fun b hb => ⟨hq, cs, fz, osz, pl, hc, ?_⟩) hk
        rw [e, if_pos rfl] at hb
        cases hb
        rfl
      · obtain ⟨h1, hk, e⟩ := Tr.setK_ok hk
        exact go (fun id hid => by rw [e, if_neg hid]) (fun b hb => by rw [e, if_pos rfl] at hb; cases hb) hk
theorem backK_ok {v : AV} {g : T} : ∀ {ids : List Nat} {h : T} {k : T → Out}, backK g ids h k = .ok v → ∃ h', k h' = .ok v ∧ ∀ id, h'.get id = if id ∈ ids then g.get id else h.get id
  | [], h, k, hk => ⟨h, hk, fun id => by simp⟩
  | i :: l, h, k, hk => by
    unfold backK at hk
    obtain ⟨h1, hk, e⟩ := Tr.setK_ok hk
    obtain ⟨h2, hk, e2⟩ := backK_ok hk
    refine ⟨h2, hk, fun id => ?_⟩
    rw [e2, e]
    by_cases hx : id = i
    · simp [hx]
    · simp [hx]
theorem clrK_ok {v : AV} {k : T → Out} : ∀ (f : Nat) {i : Nat} {h : T}, clrK f i h k = .ok v → ∃ h', k h' = .ok v ∧ ∀ id, h'.get id = if i ≤ id ∧ id < i + f then none else h.get id
  | 0, i, h, hk => ⟨h, hk, fun id => by rw [if_neg (by omega)]⟩
  | f + 1, i, h, hk => by
    unfold clrK at hk
    obtain ⟨h1, hk, e1⟩ := Tr.setK_ok hk
    rw [fN_eq] at hk
    obtain ⟨h2, hk, e2⟩ := clrK_ok f hk
    refine ⟨h2, hk, fun id => ?_⟩
    rw [e2, e1]
    simp only [Nat.succ_eq_add_one]
    by_cases h0 : id = i
    · subst h0
      rw [if_pos rfl]
      split <;> (first | rfl | (rw [if_pos (by omega)]; done) | skip)
      all_goals (split <;> rfl)
    · rw [if_neg h0]
      by_cases h3 : i ≤ id ∧ id < i + (f + 1)
      · rw [if_pos (by omega), if_pos h3]
      · rw [if_neg (by omega), if_neg h3]
theorem hideR_ok {v : AV} {m : Nat} : ∀ {l : List (Nat × Nat × Nat)} {h : T} {q : Bool} {k : T → Bool → Out}, hideR m l h q k = .ok v →
    ∃ V q', k V q' = .ok v ∧ (∀ j b, V.get j = some b → h.get j = some b) ∧ (∀ x lo hi, (x, lo, hi) ∈ l → m.testBit x = false → ∀ j, lo ≤ j → j < hi → V.get j = none) ∧ (q' = false → V = h) ∧ (q = true → q' = true)
  | [], h, q, k, hk => ⟨h, q, hk, fun j b hj => hj, fun x lo hi hx => by simp at hx, fun _ => rfl, fun hq => hq⟩
  | x :: l, h, q, k, hk => by
    unfold hideR at hk
    split at hk
    · rename_i hb
      obtain ⟨V, q', h1, h2, h3, h4, h5⟩ := hideR_ok hk
      refine ⟨V, q', h1, h2, fun y lo hi hm hb' => ?_, h4, h5⟩
      rcases List.mem_cons.1 hm with hm | hm
      · subst hm; rw [hasBit_eq] at hb; rw [hb] at hb'; cases hb'
      · exact h3 y lo hi hm hb'
    · obtain ⟨h1, hk, e⟩ := clrK_ok _ hk
      obtain ⟨V, q', k1, k2, k3, k4, k5⟩ := hideR_ok hk
      have sub : ∀ j b, V.get j = some b → h.get j = some b := fun j b hj => by
        have := k2 j b hj
        rw [e] at this
        split at this
        · cases this
        · exact this
      refine ⟨V, q', k1, sub, fun y lo hi hm hb' => ?_, fun hq => ?_, fun _ => k5 rfl⟩
      · rcases List.mem_cons.1 hm with hm | hm
        · subst hm
          intro j h1 h2
          cases hv : V.get j with
          | none => rfl
          | some b =>
            have := k2 j b hv
            rw [e, if_pos (by simp only [Nat.sub_eq]; omega)] at this
            cases this
        · exact k3 y lo hi hm hb'
      · exact absurd (k5 rfl) (by rw [hq]; simp)
theorem keepK_ok {v : AV} {m : Nat} : ∀ {l : List (Nat × Nat × Nat)} {k : List (Nat × Nat × Nat) → Out}, keepK m l k = .ok v → ∃ r, k r = .ok v ∧ ∀ x, x ∈ l → m.testBit x.1 = false → x ∈ r
  | [], k, hk => ⟨[], hk, fun x hx => by simp at hx⟩
  | y :: l, k, hk => by
    unfold keepK at hk
    split at hk
    · rename_i hb
      obtain ⟨r, h1, h2⟩ := keepK_ok hk
      refine ⟨r, h1, fun x hx hm => ?_⟩
      rcases List.mem_cons.1 hx with rfl | hx
      · rw [hasBit_eq] at hb; rw [hb] at hm; cases hm
      · exact h2 x hx hm
    · obtain ⟨r, h1, h2⟩ := keepK_ok hk
      refine ⟨y :: r, h1, fun x hx hm => ?_⟩
      rcases List.mem_cons.1 hx with rfl | hx
      · simp
      · exact List.mem_cons_of_mem _ (h2 x hx hm)
theorem hideP_ok {v : AV} {m nx0 : Nat} : ∀ {l : List (Nat × Nat × Bool)} {h : T} {k : T → Out}, hideP m nx0 l h k = .ok v →
    ∃ h', k h' = .ok v ∧ (∀ id b, h'.get id = some b → h.get id = some b) ∧ (∀ id, id < nx0 → h'.get id = h.get id) ∧ ∀ j id q, (j, id, q) ∈ l → m.testBit j = false → nx0 ≤ id → h'.get id = none
  | [], h, k, hk => ⟨h, hk, fun _ _ h => h, fun _ _ => rfl, fun j id q hj => by simp at hj⟩
  | x :: l, h, k, hk => by
    unfold hideP at hk
    split at hk
    · rename_i hc
      obtain ⟨h', h1, h2, h3, h4⟩ := hideP_ok hk
      refine ⟨h', h1, h2, h3, fun j' id' q hm hb hn => ?_⟩
      rcases List.mem_cons.1 hm with hm | hm
      · subst hm
        rw [Bool.or_eq_true, hasBit_eq] at hc
        rcases hc with hc | hc
        · rw [hc] at hb; cases hb
        · have := blt_iff.1 hc; simp only at this; omega
      · exact h4 j' id' q hm hb hn
    · rename_i hc
      obtain ⟨h1, hk, e⟩ := Tr.setK_ok hk
      obtain ⟨h', k1, k2, k3, k4⟩ := hideP_ok hk
      rw [Bool.or_eq_false_iff] at hc
      have hid := blt_ff.1 hc.2
      refine ⟨h', k1, fun y b hx => ?_, fun y hx => ?_, fun j' id' q hm hb hn => ?_⟩
      · have := k2 y b hx
        rw [e] at this
        split at this
        · cases this
        · exact this
      · rw [k3 y hx, e, if_neg (by omega)]
      · rcases List.mem_cons.1 hm with hm | hm
        · subst hm
          cases hv : h'.get id' with
          | none => rfl
          | some b =>
            have := k2 id' b hv
            rw [e, if_pos rfl] at this
            cases this
        · exact k4 j' id' q hm hb hn
structure Snap where
  fr : Fr
  h : T
  nx : Nat
  nws : List (Nat × Nat × Nat)
  lds : List (Nat × Nat × Bool)
  bar : Bool
  av : AV
/-- one step of a run through such a region -/
def Step (P : Program) (lim nt : Nat) (ops : List Oper) (i : Nat) (o : Oper) (m : Nat) (b : Bool × Bool) (s s' : Snap) : Prop :=
  ∃ a, a = s'.av ∧ (∀ j, s'.fr.get j = if o.dst = some j then some a else s.fr.get j) ∧ (∀ d, o.dst = some d → d < nt) ∧ (∀ x, x ∈ s.lds → x ∈ s'.lds) ∧
    ((wantedB ops s.fr o = false ∧ a = .tu [] ∧ s'.h = s.h ∧ s'.nx = s.nx ∧ s'.nws = s.nws)
    ∨ (wantedB ops s.fr o = true ∧ lightO P o = true ∧ (∀ x, a ≠ .pa x) ∧ (∃ h', OpOK P lim o s.fr .e s.nx a h' s.nx) ∧ s'.h = s.h ∧ s'.nx = s.nx ∧ s'.nws = s.nws)
    ∨ (wantedB ops s.fr o = true ∧ lightO P o = false ∧ s'.bar = true ∧ isFr o = false ∧ (b.1 = true ∨ b.2 = true ∧ isLd o = false) ∧
        (∃ (V h' : T) (ids : List Nat), OpOK P lim o s.fr V s.nx a h' s'.nx ∧ Hid s.h V ids ∧ (∀ id, s'.h.get id = if id ∈ ids then s.h.get id else h'.get id) ∧ ∀ j id q, (j, id, q) ∈ s.lds → m.testBit j = false → id ∈ ids ∧ (q = true → V.get id = none)) ∧
        ∀ x, x ∈ s.nws → m.testBit x.1 = false → x ∈ s'.nws)
    ∨ (wantedB ops s.fr o = true ∧ lightO P o = false ∧ s'.bar = false ∧ (∀ x, a ≠ .pa x) ∧ (∃ V h', (∀ j b, V.get j = some b → s.h.get j = some b) ∧ (∀ x lo hi, (x, lo, hi) ∈ s.nws → m.testBit x = false → ∀ j, lo ≤ j → j < hi → V.get j = none) ∧
        OpOK P s.nx o s.fr V s.nx a h' s'.nx ∧ (∀ id, s'.h.get id = if s.nx ≤ id ∧ id < s'.nx then h'.get id else s.h.get id) ∧
        (isLd o = true → s'.nx = s.nx ∧ ∃ id, (i, id, false) ∈ s'.lds ∧ ∀ j, j ≠ id → V.get j = none) ∧
        (isFr o = true → s'.nx = s.nx + 1 ∧ (i, s.nx, true) ∈ s'.lds ∧ ∀ j, V.get j = none)) ∧
        (s'.nws = (i, s.nx, s'.nx) :: s.nws ∨ (s'.nx = s.nx ∧ s'.nws = s.nws))))
theorem isLd_fr {o : Oper} (h : isFr o = true) : isLd o = false := by
  unfold isFr at h
  unfold isLd
  split at h <;> first | (rename_i e; rw [e]; done) | (cases h; done) | skip
  all_goals (rename_i e; simp [e])
theorem barNow_ok {o : Oper} {b : Bool × Bool} (h : barNow o b = true) : b.1 = true ∨ b.2 = true ∧ isLd o = false := by
  unfold barNow at h
  split at h
  · rename_i hb; exact .inl hb
  · have ld : ∀ n, wkN o = n + 1 → isLd o = false := fun n hn => by
      obtain ⟨dst, op, ty, pos, after, guard⟩ := o
      cases op <;> first | rfl | (simp [wkN] at hn)
    split at h
    · rename_i n h1 h2; exact .inr ⟨h1, ld n h2⟩
    · cases h
theorem drK_step {v : AV} {call : CallT} {nt lim nx0 i : Nat} {kp : KP} {ops l : List Oper} {o : Oper} {m : Nat} {ms : List Nat} {b : Bool × Bool} {bs : List (Bool × Bool)} {fr : Fr} {h : T} {nx : Nat} {nws : List (Nat × Nat × Nat)} {lds : List (Nat × Nat × Bool)} {q0 : Bool} {a0 : AV} {k : KS} (hcall : CallOK P call) (ht : Top lim h nx)
    (hk : drK P call nt lim nx0 kp ops i (o :: l) (m :: ms) (b :: bs) fr h nx nws lds k = .ok v) :
    ∃ s', Step P lim nt ops i o m b ⟨fr, h, nx, nws, lds, q0, a0⟩ s' ∧ Top lim s'.h s'.nx ∧ (((∀ x, s'.av ≠ .pa x) ∧ drK P call nt lim nx0 kp ops (i + 1) l ms bs s'.fr s'.h s'.nx s'.nws s'.lds k = .ok v) ∨
      ∃ x, s'.av = .pa x ∧ s'.bar = true ∧ (ms.all fun m => hasBit m i) = true ∧ hideP m nx0 lds s'.h (fun h => kp x (ops.filterMap (·.dst)) s'.fr h s'.nx) = .ok v) := by
  unfold drK at hk
  have tE : ∀ {lim}, lim ≤ nx → Top lim (Tr.e : T) nx := fun hl => ⟨hl, fun j _ => Tr.get_e j⟩
  have tN : ∀ {W : T}, (∀ j b, W.get j = some b → h.get j = some b) → Top nx W nx := fun {W} hW => ⟨Nat.le_refl _, fun j hj => by
    cases hw : W.get j with
    | none => rfl
    | some b => have := hW j b hw; rw [ht.2 j hj] at this; cases this⟩
  have nope : ∀ {a : AV} {n : Out}, paK a (fun _ => .err 50 8) n = .ok v → (∀ x, a ≠ .pa x) ∧ n = .ok v := fun {a n} h => by
    rcases paK_ok h with ⟨x, _, h⟩ | h
    · cases h
    · exact h
  split at hk
  · rename_i hw
    obtain ⟨fr', hk2, e, hd, _⟩ := putD_ok hk
    clear hk
    have hk := hk2; clear hk2
    rw [fN_eq] at hk
    exact ⟨⟨fr', h, nx, nws, lds, false, .tu []⟩, ⟨_, rfl, e, hd, fun _ h => h, .inl ⟨hw, rfl, rfl, rfl, rfl⟩⟩, ht, .inl ⟨fun x h => (by cases h), hk⟩⟩
  · rename_i hw
    split at hk
    · rename_i hlt
      obtain ⟨a, h', nx', hk, ho⟩ := opK_ok hcall (tE ht.1) hk
      split at hk
      · rename_i hn
        have hn := beq_iff.1 hn
        subst hn
        obtain ⟨ha, hk1⟩ := nope hk
        clear hk
        obtain ⟨fr', hk2, e, hd, _⟩ := putD_ok hk1
        clear hk1
        have hk := hk2; clear hk2
        rw [fN_eq] at hk
        exact ⟨⟨fr', h, nx, nws, lds, false, a⟩, ⟨_, rfl, e, hd, fun _ h => h, .inr (.inl ⟨hw, hlt, ha, ⟨h', ho⟩, rfl, rfl, rfl⟩)⟩, ht, .inl ⟨ha, hk⟩⟩
      · cases hk
    · rename_i hlt
      split at hk
      · rename_i hfr
        obtain ⟨a, h', nx', hk, ho⟩ := opK_ok hcall (tE (Nat.le_refl _)) hk
        split at hk
        · rename_i hn
          have hn := beq_iff.1 hn
          have hn : nx' = nx + 1 := hn.symm
          subst hn
          obtain ⟨ha, hk1⟩ := nope hk
          clear hk
          obtain ⟨fr', hk2, e, hd, _⟩ := putD_ok hk1
          clear hk1
          obtain ⟨h2, hk, e2⟩ := Tr.setK_ok hk2
          rw [fN_eq] at hk
          have e3 : ∀ id, h2.get id = if nx ≤ id ∧ id < nx + 1 then h'.get id else h.get id := fun id => by
            rw [e2]
            by_cases hid : id = nx
            · subst hid; rw [if_pos rfl, if_pos (by omega)]
            · rw [if_neg hid, if_neg (by omega)]
          refine ⟨⟨fr', h2, nx + 1, (i, nx, nx + 1) :: nws, (i, nx, true) :: lds, false, a⟩, ⟨_, rfl, e, hd, fun _ h => List.mem_cons_of_mem _ h, .inr (.inr (.inr ⟨hw, hlt, rfl, ha, ⟨.e, h', fun j b hj => (by rw [Tr.get_e] at hj; cases hj), fun _ _ _ _ _ j _ _ => Tr.get_e j, ho, e3,
            fun hl => (by rw [isLd_fr hfr] at hl; cases hl), fun _ => ⟨rfl, by simp, fun j => Tr.get_e j⟩⟩, .inl rfl⟩))⟩, ⟨Nat.le_succ_of_le ht.1, fun j hj => ?_⟩, .inl ⟨ha, hk⟩⟩
          show h2.get j = none
          have hj : nx + 1 ≤ j := hj
          rw [e3, if_neg (by omega)]
          exact ht.2 j (by omega)
        · cases hk
      · rename_i hfr
        split at hk
        · rename_i hbar
          obtain ⟨V, ids, hk, hV, hids⟩ := hideK_ok hk
          have tV : Top lim V nx := ⟨ht.1, fun j hj => by
            by_cases hi : j ∈ ids
            · cases hv : V.get j with
              | none => rfl
              | some b => obtain ⟨_, _, _, _, h2, _⟩ := hV.2 j b hi hv; rw [ht.2 j hj] at h2; cases h2
            · rw [hV.1 j hi]; exact ht.2 j hj⟩
          obtain ⟨a, h', nx', hk, ho⟩ := opK_ok hcall tV hk
          obtain ⟨fr', hk2, e, hd, _⟩ := putD_ok hk
          clear hk
          obtain ⟨h2, hk, e2⟩ := backK_ok hk2
          have hle := ho.1.le
          have t2 : ∀ j, nx' ≤ j → h2.get j = none := fun j hj => by
            rw [e2]
            split
            · exact ht.2 j (Nat.le_trans hle hj)
            · exact (ho.1.top tV).2 j hj
          rcases paK_ok hk with ⟨x, rfl, hk3⟩ | ⟨ha, hk3⟩
          · cases hall : (ms.all fun m => hasBit m i) with
            | false => rw [hall] at hk3; cases hk3
            | true =>
              rw [hall] at hk3
              exact ⟨⟨fr', h2, nx', nws, lds, true, .pa x⟩, ⟨_, rfl, e, hd, fun _ h => h, .inr (.inr (.inl ⟨hw, hlt, rfl, by simpa using hfr, barNow_ok hbar, ⟨V, h', ids, ho, hV, e2, hids⟩, fun x hx _ => hx⟩))⟩, ⟨Nat.le_trans ht.1 hle, t2⟩, .inr ⟨x, rfl, rfl, rfl, hk3⟩⟩
          · obtain ⟨nws', hk, e4⟩ := keepK_ok hk3
            rw [fN_eq] at hk
            exact ⟨⟨fr', h2, nx', nws', lds, true, a⟩, ⟨_, rfl, e, hd, fun _ h => h, .inr (.inr (.inl ⟨hw, hlt, rfl, by simpa using hfr, barNow_ok hbar, ⟨V, h', ids, ho, hV, e2, hids⟩, e4⟩))⟩, ⟨Nat.le_trans ht.1 hle, t2⟩, .inl ⟨ha, hk⟩⟩
        · obtain ⟨R, hid, hk, hR1, hR2, hR3, _⟩ := hideR_ok hk
          obtain ⟨W, q, hk, hW, hq⟩ := ldView_ok hk
          have hWh : ∀ j b, W.get j = some b → h.get j = some b := fun j b hj => hR1 j b (hW j b hj)
          have hWn : ∀ x lo hi, (x, lo, hi) ∈ nws → m.testBit x = false → ∀ j, lo ≤ j → j < hi → W.get j = none := fun x lo hi h1 h2 j h3 h4 => by
            cases hw : W.get j with
            | none => rfl
            | some b => have := hW j b hw; rw [hR2 x lo hi h1 h2 j h3 h4] at this; cases this
          have tW := tN hWh
          obtain ⟨a, h', nx', hk, ho⟩ := opK_ok hcall tW hk
          obtain ⟨ha, hk1⟩ := nope hk
          clear hk
          obtain ⟨fr', hk2, e, hd, _⟩ := putD_ok hk1
          clear hk1
          have hk := hk2; clear hk2
          have hle := ho.1.le
          split at hk
          · rename_i hn
            have hn := beq_iff.1 hn
            subst hn
            rcases hq with ⟨hq1, rfl, hWV⟩ | ⟨hq1, id, rfl, hq2⟩
            · simp only at hk
              rw [fN_eq] at hk
              exact ⟨⟨fr', h, nx, nws, lds, false, a⟩, ⟨_, rfl, e, hd, fun _ h => h, .inr (.inr (.inr ⟨hw, hlt, rfl, ha, ⟨W, h', hWh, hWn, ho, fun id => (by simp only; rw [if_neg (by omega)]), fun hl => (by rw [hq1] at hl; cases hl), fun hl => absurd hl (by simpa using hfr)⟩, .inr ⟨rfl, rfl⟩⟩))⟩, ht, .inl ⟨ha, hk⟩⟩
            · simp only at hk
              rw [fN_eq] at hk
              exact ⟨⟨fr', h, nx, nws, (i, id, false) :: lds, false, a⟩, ⟨_, rfl, e, hd, fun _ h => List.mem_cons_of_mem _ h, .inr (.inr (.inr ⟨hw, hlt, rfl, ha, ⟨W, h', hWh, hWn, ho, fun id => (by simp only; rw [if_neg (by omega)]), fun _ => ⟨rfl, id, by simp, hq2⟩, fun hl => absurd hl (by simpa using hfr)⟩, .inr ⟨rfl, rfl⟩⟩))⟩, ht, .inl ⟨ha, hk⟩⟩
          · rcases hq with ⟨hq1, rfl, hWV⟩ | ⟨hq1, id, rfl, hq2⟩
            · simp only at hk
              split at hk
              · rw [fN_eq] at hk
                have hWe : W = h := by rw [hWV, hR3 rfl]
                have eh : ∀ id, h'.get id = if nx ≤ id ∧ id < nx' then h'.get id else h.get id := fun id => by
                  split
                  · rfl
                  · rename_i hid
                    by_cases h1 : id < nx
                    · rw [ho.1.old id h1, hWe]
                    · have h2 : nx' ≤ id := by omega
                      rw [(ho.1.top tW).2 id h2, ht.2 id (by omega)]
                exact ⟨⟨fr', h', nx', (i, nx, nx') :: nws, lds, false, a⟩, ⟨_, rfl, e, hd, fun _ h => h, .inr (.inr (.inr ⟨hw, hlt, rfl, ha, ⟨W, h', hWh, hWn, ho, eh, fun hl => (by rw [hq1] at hl; cases hl), fun hl => absurd hl (by simpa using hfr)⟩, .inl rfl⟩))⟩, ⟨Nat.le_trans ht.1 ho.1.le, (ho.1.top tW).2⟩, .inl ⟨ha, hk⟩⟩
              · obtain ⟨h2, hk, e2⟩ := mergeK_ok _ (show nx' ≤ nx + (nx' - nx) from by omega) hk
                rw [fN_eq] at hk
                refine ⟨⟨fr', h2, nx', (i, nx, nx') :: nws, lds, false, a⟩, ⟨_, rfl, e, hd, fun _ h => h, .inr (.inr (.inr ⟨hw, hlt, rfl, ha, ⟨W, h', hWh, hWn, ho, e2, fun hl => (by rw [hq1] at hl; cases hl), fun hl => absurd hl (by simpa using hfr)⟩, .inl rfl⟩))⟩, ⟨Nat.le_trans ht.1 hle, fun j hj => ?_⟩, .inl ⟨ha, hk⟩⟩
                show h2.get j = none
                have hj : nx' ≤ j := hj
                rw [e2, if_neg (by omega)]
                exact ht.2 j (by omega)
            · cases hk
/-- the run goes on to the end, or to a panic -/
theorem drK_trace {v : AV} {call : CallT} {nt lim nx0 : Nat} {kp : KP} {ops : List Oper} {k : KS} (hcall : CallOK P call) : ∀ (l : List Oper) (i : Nat) (ms : List Nat) (bs : List (Bool × Bool)) (s : Snap), Top lim s.h s.nx →
    drK P call nt lim nx0 kp ops i l ms bs s.fr s.h s.nx s.nws s.lds k = .ok v →
    ∃ (X : Nat → Snap) (L : Nat), L ≤ l.length ∧ X i = s ∧
      (∀ (j : Nat) (o : Oper), j < L → l[j]? = some o → ∃ m b, ms[j]? = some m ∧ bs[j]? = some b ∧ Step P lim nt ops (i + j) o m b (X (i + j)) (X (i + j + 1)) ∧ Top lim (X (i + j + 1)).h (X (i + j + 1)).nx) ∧
      ((L = l.length ∧ (∀ j, j < L → ∀ x, (X (i + j + 1)).av ≠ .pa x) ∧ k (X (i + L)).fr (X (i + L)).h (X (i + L)).nx = .ok v) ∨
       ∃ (j : Nat) (x : AV) (m : Nat), L = j + 1 ∧ (∀ q, q < j → ∀ y, (X (i + q + 1)).av ≠ .pa y) ∧ (X (i + j + 1)).av = .pa x ∧ (X (i + j + 1)).bar = true ∧ ms[j]? = some m ∧ (∀ (q n : Nat), j < q → ms[q]? = some n → n.testBit (i + j) = true) ∧
         hideP m nx0 (X (i + j)).lds (X (i + j + 1)).h (fun h => kp x (ops.filterMap (·.dst)) (X (i + j + 1)).fr h (X (i + j + 1)).nx) = .ok v)
  | [], i, ms, bs, s, ht, hk => ⟨fun _ => s, 0, Nat.le_refl _, rfl, fun j o h => by omega, .inl ⟨rfl, fun j h => by omega, by rw [drK] at hk; exact hk⟩⟩
  | o :: l, i, [], bs, s, ht, hk => by rw [drK] at hk <;> first | (cases hk; done) | (intros; simp_all)
  | o :: l, i, m :: ms, [], s, ht, hk => by rw [drK] at hk <;> first | (cases hk; done) | (intros; simp_all)
  | o :: l, i, m :: ms, b :: bs, s, ht, hk => by
    obtain ⟨s', h1, h3, h2⟩ := drK_step (q0 := s.bar) (a0 := s.av) hcall ht hk
    rcases h2 with ⟨h0, h2⟩ | ⟨x, hx, hxb, hall, h2⟩
    · obtain ⟨X, L, xL, x1, x3, x2⟩ := drK_trace hcall l (i + 1) ms bs s' h3 h2
      refine ⟨fun j => if j ≤ i then s else X j, L + 1, by simp; omega, if_pos (Nat.le_refl _), fun j o' hjL hj => ?_, ?_⟩
      · cases j with
        | zero =>
          simp at hj
          subst hj
          refine ⟨m, b, rfl, rfl, ?_⟩
          simp only [Nat.add_zero]
          rw [if_pos (Nat.le_refl _), if_neg (by omega), x1]
          exact ⟨h1, h3⟩
        | succ j =>
          obtain ⟨m', b', y1, y2, y3⟩ := x3 j o' (by omega) (by simpa using hj)
          refine ⟨m', b', by simpa using y1, by simpa using y2, ?_⟩
          simp only
          rw [if_neg (by omega), if_neg (by omega), show i + (j + 1) = i + 1 + j from by omega]
          exact y3
      · rcases x2 with ⟨e1, e2, e3⟩ | ⟨j, x, m', e1, e0, e2, e2', e3, e4, e5⟩
        · refine .inl ⟨by simp [e1], fun j hj => ?_, ?_⟩
          · simp only
            rw [if_neg (by omega)]
            cases j with
            | zero => rw [show i + 0 + 1 = i + 1 from rfl, x1]; exact h0
            | succ j => rw [show i + (j + 1) + 1 = i + 1 + j + 1 from by omega]; exact e2 j (by omega)
          · simp only
            rw [if_neg (by omega), show i + (L + 1) = i + 1 + L from by omega]
            exact e3
        · refine .inr ⟨j + 1, x, m', by omega, fun q hq => ?_, ?_, ?_, by simpa using e3, fun q n hq hn => ?_, ?_⟩
          · simp only
            rw [if_neg (by omega)]
            cases q with
            | zero => rw [show i + 0 + 1 = i + 1 from rfl, x1]; exact h0
            | succ q => rw [show i + (q + 1) + 1 = i + 1 + q + 1 from by omega]; exact e0 q (by omega)
          · simp only
            rw [if_neg (by omega), show i + (j + 1) + 1 = i + 1 + j + 1 from by omega]
            exact e2
          · simp only
            rw [if_neg (by omega), show i + (j + 1) + 1 = i + 1 + j + 1 from by omega]
            exact e2'
          · cases q with
            | zero => omega
            | succ q => rw [show i + (j + 1) = i + 1 + j from by omega]; exact e4 q n (by omega) (by simpa using hn)
          · simp only
            rw [if_neg (by omega), if_neg (by omega), show i + (j + 1) + 1 = i + 1 + j + 1 from by omega, show i + (j + 1) = i + 1 + j from by omega]
            exact e5
    · refine ⟨fun j => if j ≤ i then s else s', 1, by simp, if_pos (Nat.le_refl _), fun j o' hjL hj => ?_, .inr ⟨0, x, m, rfl, fun q hq => (by omega), ?_, ?_, rfl, fun q n hq hn => ?_, ?_⟩⟩
      · obtain rfl : j = 0 := by omega
        simp at hj
        subst hj
        refine ⟨m, b, rfl, rfl, ?_⟩
        simp only [Nat.add_zero]
        rw [if_pos (Nat.le_refl _), if_neg (by omega)]
        exact ⟨h1, h3⟩
      · simp only
        rw [if_neg (by omega)]
        exact hx
      · simp only
        rw [if_neg (by omega)]
        exact hxb
      · cases q with
        | zero => omega
        | succ q =>
          have := List.all_eq_true.1 hall n (List.mem_of_getElem? (by simpa using hn))
          rwa [hasBit_eq] at this
      · simp only [Nat.add_zero]
        rw [if_pos (Nat.le_refl _), if_neg (by omega)]
        exact h2
end Clu
end Go.Proofs.Ythghohgjedjpbaa
