/-
  Runs of closed calls by the kernel: what is there while the operations of a region are done in an order that nobody knows.
-/
import Derived.Test.YthghohgjedjpbaaCluZa
namespace Go.Proofs.Ythghohgjedjpbaa
namespace Clu
open Go.RowKit
set_option linter.unusedVariables false
variable {P : Program}

theorem HR.join {p : Nat → Prop} {lim n n' : Nat} {r r' : Rn} {g h' : Nat → Option Blk} {w w' : World} (H : HR p lim r g w) (H' : HR (· < w.heap.size) n r' h' w') (he : Ext n n' r r') (hf : Free n n' r) (hk : Kp (· < w.heap.size) w w') (hro : ∀ id b, n ≤ id → h' id = some b → b.ro = false) :
    HR p lim r' (fun id => if n ≤ id ∧ id < n' then h' id else g id) w' := by
  have hle := he.le hf
  have old : ∀ id b x, g id = some b → r' id = some x → x.1 < w.heap.size := fun id b x hb hx => by
    obtain ⟨B, O, K, h1, h2, _⟩ := H.blk id b hb
    rw [hle _ _ h1] at hx
    cases hx
    exact h2
  have new : ∀ id b x, h' id = some b → n ≤ id → r' id = some x → w.heap.size ≤ x.1 := fun id b x hb hn hx => Nat.le_of_not_lt (H'.low id b x hb hn (hro id b hn hb) hx)
  refine ⟨fun id b hb => ?_, fun id id' b b' x x' hS h1 h2 h3 h4 h5 => ?_, fun id b x h1 h2 h0 h3 => ?_, fun k hp => Nat.lt_of_lt_of_le (H.bd k hp) hk.size, H'.glob⟩
  · split at hb
    · exact H'.blk id b hb
    · exact (H.blk id b hb).mono hle hk.below
  · split at h1 <;> split at h2
    · rename_i a1 a2
      exact H'.inj id id' b b' x x' (.inl a1.1) h1 h2 h3 h4 h5
    · rename_i a1 a2
      have := new id b x h1 a1.1 h3
      have := old id' b' x' h2 h4
      omega
    · rename_i a1 a2
      have := old id b x h1 h3
      have := new id' b' x' h2 a2.1 h4
      omega
    · obtain ⟨B, O, K, k1, _, _⟩ := H.blk id b h1
      obtain ⟨B', O', K', k2, _, _⟩ := H.blk id' b' h2
      have e1 := h3
      have e2 := h4
      rw [hle _ _ k1] at e1
      rw [hle _ _ k2] at e2
      cases e1
      cases e2
      exact H.inj id id' b b' _ _ hS h1 h2 k1 k2 h5
  · split at h1
    · rename_i a1
      have := new id b x h1 a1.1 h3
      exact fun hp => by have := H.bd _ hp; omega
    · obtain ⟨B, O, K, k1, _, _⟩ := H.blk id b h1
      have e1 := h3
      rw [hle _ _ k1] at e1
      cases e1
      exact H.low id b _ h1 h2 h0 k1
/-- blocks that may not be written, and less that is known -/
theorem HR.hid {p q : Nat → Prop} {lim : Nat} {r : Rn} {g : Nat → Option Blk} {V : Nat → Option Blk} {w : World} {ids : List Nat} (H : HR p lim r g w) (h1 : ∀ id, id ∉ ids → V id = g id) (h2 : ∀ id b, id ∈ ids → V id = some b → ∃ cs fz osz pl, g id = some (.c cs fz osz pl) ∧ b = .c cs (cs.length + 1) 0 none)
    (hl : ∀ j b x, V j = some b → lim ≤ j → b.ro = false → r j = some x → ¬ q x.1) (hB : ∀ k, q k → k < w.heap.size) : HR q lim r V w := by
  have lift : ∀ j b, V j = some b → ∃ b', g j = some b' ∧ (b.pd → b'.pd) := fun j b hj => by
    by_cases hi : j ∈ ids
    · obtain ⟨cs, fz, osz, pl, k1, rfl⟩ := h2 j b hi hj
      exact ⟨_, k1, fun h => h.elim⟩
    · rw [h1 j hi] at hj
      exact ⟨b, hj, fun h => h⟩
  refine ⟨fun j b hj => ?_, fun j j' b b' x x' hS e1 e2 e3 e4 e5 => ?_, hl, hB, H.glob⟩
  · by_cases hi : j ∈ ids
    · obtain ⟨cs, fz, osz, pl, k1, rfl⟩ := h2 j b hi hj
      obtain ⟨B, O, K, q1, q2, q3, q4, q5, q6, q7, q8⟩ := H.blk j _ k1
      exact ⟨B, O, K, q1, q2, q3, fun i i1 i2 => by omega, fun o o1 o2 => by omega, fun h => absurd rfl h, fun ty h => (by cases h), q8⟩
    · rw [h1 j hi] at hj
      exact H.blk j b hj
  · obtain ⟨c, c1, c2⟩ := lift j b e1
    obtain ⟨c', c1', c2'⟩ := lift j' b' e2
    exact H.inj j j' c c' x x' (hS.imp (fun h => h) (Or.imp (fun h => h) (And.imp c2 c2'))) c1 c1' e3 e4 e5
theorem HR.back {p : Nat → Prop} {lim n n' : Nat} {r r' : Rn} {g V h' : Nat → Option Blk} {w w' : World} {ids : List Nat} (H : HR p lim r g w) (hV : ∀ id, id ∉ ids → V id = g id)
    (H' : HR (fun k => k < w.heap.size ∧ (p k ∨ ∃ id b x, id ∈ ids ∧ g id = some b ∧ r id = some x ∧ x.1 = k)) lim r' h' w') (he : Ext n n' r r') (hf : Free n n' r) (hold : ∀ j, j < lim → h' j = V j) (hro : ∀ j b, h' j = some b → b.ro = true → V j = some b)
    (hk : Kp (fun k => k < w.heap.size ∧ (p k ∨ ∃ id b x, id ∈ ids ∧ g id = some b ∧ r id = some x ∧ x.1 = k)) w w') : HR p lim r' (fun id => if id ∈ ids then g id else h' id) w' := by
  have hle := he.le hf
  have real : ∀ id b x, g id = some b → r' id = some x → r id = some x ∧ x.1 < w.heap.size := fun id b x hb hx => by
    obtain ⟨B, O, K, h1, h2, _⟩ := H.blk id b hb
    rw [hle _ _ h1] at hx
    cases hx
    exact ⟨h1, h2⟩
  have cross : ∀ id id' b b' x x', Sep lim id id' b b' → id ∈ ids → g id = some b → id' ∉ ids → h' id' = some b' → r' id = some x → r' id' = some x' → x.1 = x'.1 → False := fun id id' b b' x x' hS h1 h2 h3 h4 h5 h6 h7 => by
    obtain ⟨e1, e2⟩ := real id b x h2 h5
    by_cases hl : id' < lim
    · rw [hold id' hl, hV id' h3] at h4
      obtain ⟨e3, e4⟩ := real id' b' x' h4 h6
      exact h3 (H.inj id id' b b' x x' hS h2 h4 e1 e3 h7 ▸ h1)
    · cases hr : b'.ro with
      | true =>
        have h4 := hro id' b' h4 hr
        rw [hV id' h3] at h4
        obtain ⟨e3, e4⟩ := real id' b' x' h4 h6
        exact h3 (H.inj id id' b b' x x' hS h2 h4 e1 e3 h7 ▸ h1)
      | false => exact H'.low id' b' x' h4 (by omega) hr h6 ⟨by omega, .inr ⟨id, b, x, h1, h2, e1, h7⟩⟩
  refine ⟨fun id b hb => ?_, fun id id' b b' x x' hS h1 h2 h3 h4 h5 => ?_, fun id b x h1 h2 h0 h3 => ?_, fun k hp => Nat.lt_of_lt_of_le (H.bd k hp) hk.size, H'.glob⟩
  · split at hb
    · rename_i hid
      refine ((H.blk id b hb).same hk.size fun x hx => ?_).mono hle (Below.refl _ _)
      obtain ⟨B, O, K, e1, e2, _⟩ := H.blk id b hb
      rw [e1] at hx
      cases hx
      exact hk.block _ ⟨e2, .inr ⟨id, b, _, hid, hb, e1, rfl⟩⟩
    · exact H'.blk id b hb
  · split at h1 <;> split at h2
    · rename_i a1 a2
      exact H.inj id id' b b' x x' hS h1 h2 (real id b x h1 h3).1 (real id' b' x' h2 h4).1 h5
    · rename_i a1 a2
      exact (cross id id' b b' x x' hS a1 h1 a2 h2 h3 h4 h5).elim
    · rename_i a1 a2
      exact (cross id' id b' b x' x hS.symm a2 h2 a1 h1 h4 h3 h5.symm).elim
    · exact H'.inj id id' b b' x x' hS h1 h2 h3 h4 h5
  · split at h1
    · exact H.low id b x h1 h2 h0 (real id b x h1 h3).1
    · exact fun hp => H'.low id b x h1 h2 h0 h3 ⟨H.bd _ hp, .inl hp⟩
theorem Env.of {r : Rn} {fr : Fr} {act : Act} {l : List Operand} (hg : ∀ g, g < 1000 → r g = some (g, 0, 0)) (h : ∀ t, Operand.tmp t ∈ l → VR r ((fr.get t).getD (.tu [])) (act.tmps.getD t undef)) : Env r fr act.eval l := fun x hx a ha => by
  cases x with
  | tmp t => have ha : a = (fr.get t).getD (.tu []) := ha; rw [ha]; exact h t hx
  | const c => exact ha r
  | global g =>
    obtain ⟨h1, rfl⟩ := ha
    exact ⟨g, 0, 0, hg g h1, rfl⟩
  | func f => have ha : a = .fn (.func f) [] [] := ha; rw [ha]; exact ⟨[], [], rfl, rfl, rfl⟩
open Classical in
/-- the heap when D is done, and e is the next barrier -/
noncomputable def hD (L : Nat) (X : Nat → Snap) (D : Nat → Prop) (e : Nat) : Nat → Option Blk := fun id => if ∃ i, i < L ∧ ¬ D i ∧ (X i).nx ≤ id ∧ id < (X (i + 1)).nx then none else (X e).h.get id
structure Inv (P : Program) (lim nt : Nat) (ops : List Oper) (L : Nat) (Ds : List Deferred) (X : Nat → Snap) (p : Nat → Prop) (r0 : Rn) (w0 : World) (D : Nat → Prop) (e : Nat) (r : Rn) (act : Act) (w : World) : Prop where
  closed : ∀ i j, D i → (wts ops i).testBit j = true → D j
  le : e ≤ L
  before : ∀ i, i < e → Bar P L ops X i → D i
  behind : ∀ i, e ≤ i → (Bar P L ops X i ∨ Iso P L ops X i) → ¬ D i
  ebar : e < L → Bar P L ops X e
  size : act.tmps.size = nt
  defers : act.defers = Ds
  new : ∀ (i : Nat) (o : Oper) d, D i → ops[i]? = some o → o.dst = some d → VR r (((X L).fr.get d).getD (.tu [])) (act.tmps.getD d undef)
  old : ∀ d, (∀ (i : Nat) (o : Oper), D i → ops[i]? = some o → o.dst ≠ some d) → VR r (((X 0).fr.get d).getD (.tu [])) (act.tmps.getD d undef)
  heap : HR p lim r (hD L X D e) w
  free : ∀ i, i < L → ¬ D i → Free (X i).nx (X (i + 1)).nx r
  ext : Ext (X 0).nx (X L).nx r0 r
  kp : Kp p w0 w
section
variable {lim nt : Nat} {ops : List Oper} {L : Nat} {X : Nat → Snap} (t : Tra P lim nt ops L X)
include t
theorem Tra.pair {i j : Nat} (hi : Bar P L ops X i) (hj : Bar P L ops X j ∨ Iso P L ops X j) (hne : j ≠ i) : ((wts ops i).testBit j = true ∧ j < i) ∨ ((wts ops j).testBit i = true ∧ i < j) ∨ (Ld ops j ∧ Iso P L ops X j ∧ j < i) := by
  obtain ⟨b, hb1, hb2, _⟩ := t.bar hi
  obtain ⟨_, o, ho, hl, hw, hb⟩ := hi
  rcases hj with hj | hj
  · obtain ⟨c, hc1, hc2, _, _, _, hc3⟩ := t.bar hj
    obtain ⟨_, u, h1, h2, _, h4⟩ := hj
    rcases bars_spec hb1 hb2 h1 h2 hne with h | h | ⟨h, h'⟩
    · exact .inl ⟨h, regionOk_back t.ok h⟩
    · exact .inr (.inl ⟨h, regionOk_back t.ok h⟩)
    · rcases bars_spec hc1 hc2 ho hl (Ne.symm hne) with k | k | ⟨_, k⟩
      · have := regionOk_back t.ok k; omega
      · exact .inl ⟨k, h'⟩
      · omega
  · have hj' := hj
    obtain ⟨_, u, h1, h2, _⟩ := hj'
    rcases bars_spec hb1 hb2 h1 h2 hne with h | h | ⟨h, h'⟩
    · exact .inl ⟨h, regionOk_back t.ok h⟩
    · exact .inr (.inl ⟨h, regionOk_back t.ok h⟩)
    · exact .inr (.inr ⟨⟨u, h1, h⟩, hj, h'⟩)
/-- blocks that a load, or a maker, makes are on the list -/
theorem Tra.ld_new {i : Nat} (hi : Iso P L ops X i) (hl : Ld ops i) {id : Nat} (h1 : (X i).nx ≤ id) (h2 : id < (X (i + 1)).nx) : ∃ q, (i, id, q) ∈ (X (i + 1)).lds ∧ q = true := by
  obtain ⟨o, ho, h⟩ := hl
  obtain ⟨k1, k2⟩ := (t.iso hi).2.2 o ho
  rcases h with h | h
  · have := k1 h; omega
  · obtain ⟨k3, k4⟩ := k2 h
    rw [show id = (X i).nx from by omega]
    exact ⟨true, k4, rfl⟩
theorem Tra.apart {i j id : Nat} (hi : i < L) (hj : j < L) (h1 : (X i).nx ≤ id) (h2 : id < (X (i + 1)).nx) (h3 : (X j).nx ≤ id) (h4 : id < (X (j + 1)).nx) : i = j := by
  rcases Nat.lt_trichotomy i j with h | h | h
  · have := t.nx (i := i + 1) (j := j) h (by omega); omega
  · exact h
  · have := t.nx (i := j + 1) (j := i) h (by omega); omega
omit t in
theorem locate_id {a id : Nat} : ∀ {b : Nat}, a ≤ b → b ≤ L → (X a).nx ≤ id → id < (X b).nx → ∃ k, a ≤ k ∧ k < b ∧ (X k).nx ≤ id ∧ id < (X (k + 1)).nx
  | 0, h, _, h1, h2 => by rw [show a = 0 from by omega] at h1; omega
  | b + 1, h, hb, h1, h2 => by
    by_cases e : a = b + 1
    · rw [e] at h1; omega
    · by_cases h3 : id < (X b).nx
      · obtain ⟨k, k1, k2, k3⟩ := locate_id (b := b) (by omega) (by omega) h1 h3
        exact ⟨k, k1, by omega, k3⟩
      · exact ⟨b, by omega, by omega, by omega, h2⟩
theorem Tra.some_lt {i j : Nat} {b : Blk} (hi : i ≤ L) (h : (X i).h.get j = some b) : j < (X i).nx := by
  refine Nat.lt_of_not_le fun hle => ?_
  rw [(t.top hi).2 j hle] at h
  cases h
omit t in
theorem next_bar {i : Nat} (hi : i ≤ L) : ∃ e, i ≤ e ∧ e ≤ L ∧ (∀ k, i ≤ k → k < e → ¬ Bar P L ops X k) ∧ (e < L → Bar P L ops X e) := by
  generalize hd : L - i = d
  induction d generalizing i with
  | zero => exact ⟨i, Nat.le_refl _, hi, fun k h1 h2 => by omega, fun h => by omega⟩
  | succ d ih =>
    by_cases hb : Bar P L ops X i
    · exact ⟨i, Nat.le_refl _, hi, fun k h1 h2 => by omega, fun _ => hb⟩
    · obtain ⟨e, h1, h2, h3, h4⟩ := ih (i := i + 1) (by omega) (by omega)
      refine ⟨e, by omega, h2, fun k k1 k2 => ?_, h4⟩
      by_cases hk : k = i
      · rw [hk]; exact hb
      · exact h3 k (by omega) k2
variable {p : Nat → Prop} {r0 : Rn} {w0 : World} {D : Nat → Prop} {e : Nat} {r : Rn} {act : Act} {w : World} {Ds : List Deferred} (I : Inv P lim nt ops L Ds X p r0 w0 D e r act w)
section
variable {i : Nat} {o : Oper} (hiL : i < L) (ho : ops[i]? = some o) (hn : ¬ D i) (hm : ∀ j, (wts ops i).testBit j = true → D j)
include I hiL ho hn hm
theorem Inv.look {d : Tmp} (hd : d ∈ looks ops o) : VR r (((X i).fr.get d).getD (.tu [])) (act.tmps.getD d undef) := by
  have hi := hiL
  by_cases hw : ∃ (j : Nat) (u : Oper), ops[j]? = some u ∧ u.dst = some d
  · obtain ⟨j, u, h1, h2⟩ := hw
    by_cases hdj : D j
    · have hlt : j < i := by
        rcases regionOk_apart t.ok ho hd h1 h2 with rfl | hb | hb
        · exact absurd hdj hn
        · exact regionOk_back t.ok hb
        · exact absurd (I.closed j i hdj hb) hn
      have := I.new j u d hdj h1 h2
      rw [t.wrote h1 h2 (j := L) (by omega) (Nat.le_refl _)] at this
      rw [t.wrote h1 h2 (j := i) hlt (by omega)]
      exact this
    · have hle : i ≤ j := by
        rcases regionOk_apart t.ok ho hd h1 h2 with rfl | hb | hb
        · exact Nat.le_refl _
        · exact absurd (hm j hb) hdj
        · exact Nat.le_of_lt (regionOk_back t.ok hb)
      have := I.old d fun k v hk hv hvd => hdj (regionOk_once t.ok hv h1 hvd h2 ▸ hk)
      rw [t.stay (i := 0) (j := i) (Nat.zero_le _) (by omega) fun k v _ hki hv hvd => by have := regionOk_once t.ok hv h1 hvd h2; omega]
      exact this
  · have := I.old d fun j u _ h1 h2 => hw ⟨j, u, h1, h2⟩
    rw [t.stay (i := 0) (j := i) (Nat.zero_le _) (by omega) fun k u _ _ h1 h2 => hw ⟨k, u, h1, h2⟩]
    exact this
theorem Inv.env : Env r (X i).fr act.eval o.op.operands.toList := Env.of I.heap.glob fun d hd => I.look t hiL ho hn hm (List.mem_append_left _ (List.mem_filterMap.2 ⟨.tmp d, hd, rfl⟩))
theorem Inv.want : Region.wanted o (yielded ops.toArray act.tmps) = wantedB ops (X i).fr o := wanted_at ops o fun g want og d h1 h2 h3 => I.look t hiL ho hn hm (List.mem_append_right _ (by rw [h1]; simp only; rw [getL_eq, h2]; simp [h3]))
end
section
variable {i : Nat} (hn : ¬ D i) (hm : ∀ j, (wts ops i).testBit j = true → D j)
include I hn hm
omit hn in
theorem Inv.iso_lt (hi : Iso P L ops X i) : i < e := by
  refine Nat.lt_of_not_le fun hle => ?_
  have hlt := hi.lt
  have hb := I.ebar (by omega)
  by_cases hie : i = e
  · subst hie
    obtain ⟨_, _, _, _, _, h1⟩ := hi
    obtain ⟨_, _, _, _, _, h2⟩ := hb
    rw [h1] at h2
    cases h2
  · rcases t.pair hb (.inr hi) hie with h | h | h
    · omega
    · exact I.behind e (Nat.le_refl _) (.inl hb) (hm e h.1)
    · omega
theorem Inv.bar_eq (hi : Bar P L ops X i) : i = e := by
  rcases Nat.lt_trichotomy i e with h | h | h
  · exact absurd (I.before i h hi) hn
  · exact h
  · have hlt := hi.lt
    have hb := I.ebar (by omega)
    rcases t.pair hb (.inl hi) (by omega) with h' | h' | h'
    · omega
    · exact absurd (hm e h'.1) (I.behind e (Nat.le_refl _) (.inl hb))
    · omega
omit hm in
theorem Inv.bars (hi : Iso P L ops X i) {k : Nat} (h1 : i ≤ k) (h2 : k < e) (hb : Bar P L ops X k) : Ld ops i ∧ i < k ∧ (wts ops k).testBit i = false := by
  have hd := I.before k h2 hb
  have hne : i ≠ k := fun he => hn (he ▸ hd)
  have hbit : (wts ops k).testBit i = false := by
    cases hx : (wts ops k).testBit i with
    | false => rfl
    | true => exact absurd (I.closed k i hd hx) hn
  rcases t.pair hb (.inr hi) hne with h | h | h
  · rw [hbit] at h; cases h.1
  · omega
  · exact ⟨h.1, h.2.2, hbit⟩
/-- what is not hidden from a barrier that may be done now surely is there -/
theorem Inv.view_bar (hi : Bar P L ops X i) {ids : List Nat} (hids : ∀ j id q, (j, id, q) ∈ (X i).lds → (wts ops i).testBit j = false → id ∈ ids) {j : Nat} (hj : j ∉ ids) : hD L X D e j = (X i).h.get j := by
  have he := I.bar_eq t hn hm hi
  subst he
  have hil := hi.lt
  unfold hD
  split
  · rename_i hk
    cases hb : (X i).h.get j with
    | none => rfl
    | some b =>
      have hjl := t.some_lt (Nat.le_of_lt hil) hb
      obtain ⟨k, h1, h2, h3, h4⟩ := hk
      have hk : k < i := Nat.lt_of_not_le fun hle => by have := t.nx (i := i) (j := k) hle (by omega); omega
      rcases t.pair hi (t.heavy h1 (by omega)) (by omega) with h | h | h
      · exact absurd (hm k h.1) h2
      · omega
      · cases hx : (wts ops i).testBit k with
        | true => exact absurd (hm k hx) h2
        | false =>
          obtain ⟨q, hq, _⟩ := t.ld_new h.2.1 h.1 h3 h4
          exact absurd (hids k j q (t.lds hq (by omega) (by omega)) hx) hj
  · rfl
omit hm in
/-- blocks that a load has looked at, or a maker has made, are as they were at the next barrier -/
theorem Inv.stays (hi : Iso P L ops X i) {id : Nat} {q : Bool} (hl : (i, id, q) ∈ (X (i + 1)).lds) (hlt : id < (X (i + 1)).nx) : ∀ {k : Nat}, i + 1 ≤ k → k ≤ e → (X k).h.get id = (X (i + 1)).h.get id
  | 0, h, _ => by omega
  | k + 1, h, hk => by
    by_cases hik : i = k
    · rw [hik]
    · have hel := I.le
      have h4 := Inv.stays hi hl hlt (k := k) (by omega) (by omega)
      by_cases hb : Bar P L ops X k
      · obtain ⟨b1, b2, b3⟩ := I.bars t hn hi (k := k) (by omega) (by omega) hb
        obtain ⟨_, _, _, _, _, h5, _⟩ := t.bar hb
        rw [h5 i id q (t.lds hl (by omega) (by omega)) b3, h4]
      · have := t.nx (i := i + 1) (j := k) (by omega) (by omega)
        rw [t.keep (by omega) hb id (by omega), h4]
theorem Inv.view_iso (hi : Iso P L ops X i) {V : T} {m : Nat} (hmk : wts ops i = m) (hV : ∀ j b, V.get j = some b → (X i).h.get j = some b) (hN : ∀ x lo hi, (x, lo, hi) ∈ (X i).nws → m.testBit x = false → ∀ j, lo ≤ j → j < hi → V.get j = none)
    (hld : Ld ops i → (∀ j, V.get j = none) ∨ (X (i + 1)).nx = (X i).nx ∧ ∃ id, (i, id, false) ∈ (X (i + 1)).lds ∧ ∀ j, j ≠ id → V.get j = none) {j : Nat} {b : Blk} (hj : V.get j = some b) : hD L X D e j = some b := by
  have hil := hi.lt
  have hie := I.iso_lt t hm hi
  have hel := I.le
  have hjh := hV j b hj
  have hjl := t.some_lt (Nat.le_of_lt hil) hjh
  have hjX : (X e).h.get j = some b := by
    by_cases hL : Ld ops i
    · rcases hld hL with h | ⟨h0, id, h1, h2⟩
      · rw [h j] at hj; cases hj
      · have hjid : j = id := Classical.byContradiction fun hc => by rw [h2 j hc] at hj; cases hj
        subst hjid
        obtain ⟨⟨_, h', k1, _⟩, _⟩ := t.iso hi
        have k2 : (X (i + 1)).h.get j = (X i).h.get j := by rw [k1, if_neg (by omega)]
        rw [I.stays t hn hi h1 (by omega) (k := e) hie (Nat.le_refl _), k2, hjh]
    · rw [t.keeps (i := i) (j := e) (by omega) hel (fun k k1 k2 hb => hL (I.bars t hn hi k1 k2 hb).1) j hjl, hjh]
  unfold hD
  rw [if_neg, hjX]
  rintro ⟨k, h1, h2, h3, h4⟩
  have hk : k < i := Nat.lt_of_not_le fun hle => by have := t.nx (i := i) (j := k) hle (by omega); omega
  rcases t.listed (k := k) (by omega) hk (Nat.le_of_lt hil) with h | h | ⟨g, g1, g2, g3, g4⟩
  · cases hx : m.testBit k with
    | true => exact h2 (hm k (by rw [hmk]; exact hx))
    | false => rw [hN _ _ _ h hx j h3 h4] at hj; cases hj
  · exact h2 (I.before k (by omega) h)
  · exact h2 (I.closed g k (I.before g (by omega) g3) g4)
end
omit t in
theorem hD_skip {i : Nat} (hi : i < L) (h : (X (i + 1)).nx = (X i).nx) : hD L X (fun j => D j ∨ j = i) e = hD L X D e := by
  funext id
  unfold hD
  congr 1
  refine propext ⟨fun ⟨k, h1, h2, h3⟩ => ⟨k, h1, fun hd => h2 (.inl hd), h3⟩, fun ⟨k, h1, h2, h3, h4⟩ => ⟨k, h1, ?_, h3, h4⟩⟩
  rintro (hd | rfl)
  · exact h2 hd
  · omega
theorem Tra.hD_iso {i : Nat} (hi : i < L) {h' : T} (hh : ∀ id, (X i).nx ≤ id → id < (X (i + 1)).nx → (X e).h.get id = h'.get id) :
    hD L X (fun j => D j ∨ j = i) e = fun id => if (X i).nx ≤ id ∧ id < (X (i + 1)).nx then h'.get id else hD L X D e id := by
  funext id
  by_cases hid : (X i).nx ≤ id ∧ id < (X (i + 1)).nx
  · rw [if_pos hid]
    unfold hD
    rw [if_neg, hh id hid.1 hid.2]
    rintro ⟨k, h1, h2, h3, h4⟩
    exact h2 (.inr (t.apart h1 hi h3 h4 hid.1 hid.2))
  · rw [if_neg hid]
    unfold hD
    congr 1
    refine propext ⟨fun ⟨k, h1, h2, h3⟩ => ⟨k, h1, fun hd => h2 (.inl hd), h3⟩, fun ⟨k, h1, h2, h3, h4⟩ => ⟨k, h1, ?_, h3, h4⟩⟩
    rintro (hd | rfl)
    · exact h2 hd
    · exact hid ⟨h3, h4⟩
end
end Clu
end Go.Proofs.Ythghohgjedjpbaa
