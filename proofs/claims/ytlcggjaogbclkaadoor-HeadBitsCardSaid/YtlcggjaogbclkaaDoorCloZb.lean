/-
  Runs of closed calls by the kernel: what is there while the operations of a region are done in an order that nobody knows.
-/
import Derived.Test.YtlcggjaogbclkaaDoorCloZa
namespace Go.Proofs.YtlcggjaogbclkaaDoor
namespace Clo
open Go.RowKit
set_option linter.unusedVariables false
variable {P : Program}

theorem HR.join {p : Nat → Prop} {lim n n' : Nat} {r r' : Rn} {g h' : Nat → Option Blk} {w w' : World} (H : HR p lim r g w) (H' : HR (· < w.heap.size) n r' h' w') (he : Ext n n' r r') (hf : Free n n' r) (hk : Kp (· < w.heap.size) w w') :
    HR p lim r' (fun id => if n ≤ id ∧ id < n' then h' id else g id) w' := by
  have hle := he.le hf
  have old : ∀ id b x, g id = some b → r' id = some x → x.1 < w.heap.size := fun id b x hb hx => by
    obtain ⟨B, O, K, h1, h2, _⟩ := H.blk id b hb
    rw [hle _ _ h1] at hx
    cases hx
    exact h2
  have new : ∀ id b x, h' id = some b → n ≤ id → r' id = some x → w.heap.size ≤ x.1 := fun id b x hb hn hx => Nat.le_of_not_lt (H'.low id b x hb hn hx)
  refine ⟨fun id b hb => ?_, fun id id' b b' x x' hS h1 h2 h3 h4 h5 => ?_, fun id b x h1 h2 h3 => ?_, fun k hp => Nat.lt_of_lt_of_le (H.bd k hp) hk.size, H'.glob⟩
  · split at hb
    · exact H'.blk id b hb
    · exact (H.blk id b hb).mono hle hk.below
  · split at h1 <;> split at h2
    · rename_i a1 a2
      exact H'.inj id id' b b' x x' (.inl a1.1) h1 h2 h3 h4 h5
    · rename_i a1 a2
      have := new id b x h1 a1.1 h3
      have := old id' b' x' h2 h4
      omega
    · rename_i a1 a2
      have := old id b x h1 h3
      have := new id' b' x' h2 a2.1 h4
      omega
    · obtain ⟨B, O, K, k1, _, _⟩ := H.blk id b h1
      obtain ⟨B', O', K', k2, _, _⟩ := H.blk id' b' h2
      have e1 := h3
      have e2 := h4
      rw [hle _ _ k1] at e1
      rw [hle _ _ k2] at e2
      cases e1
      cases e2
      exact H.inj id id' b b' _ _ hS h1 h2 k1 k2 h5
  · split at h1
    · rename_i a1
      have := new id b x h1 a1.1 h3
      exact fun hp => by have := H.bd _ hp; omega
    · obtain ⟨B, O, K, k1, _, _⟩ := H.blk id b h1
      have e1 := h3
      rw [hle _ _ k1] at e1
      cases e1
      exact H.low id b _ h1 h2 k1
/-- blocks that were hidden are there again -/
theorem HR.back {p : Nat → Prop} {lim n n' : Nat} {r r' : Rn} {g V h' : Nat → Option Blk} {w w' : World} {ids : List Nat} (H : HR p lim r g w) (hV : ∀ id, V id = if id ∈ ids then none else g id)
    (H' : HR (fun k => k < w.heap.size ∧ (p k ∨ ∃ id b x, id ∈ ids ∧ g id = some b ∧ r id = some x ∧ x.1 = k)) lim r' h' w') (he : Ext n n' r r') (hf : Free n n' r) (hold : ∀ j, j < lim → h' j = V j)
    (hk : Kp (fun k => k < w.heap.size ∧ (p k ∨ ∃ id b x, id ∈ ids ∧ g id = some b ∧ r id = some x ∧ x.1 = k)) w w') : HR p lim r' (fun id => if id ∈ ids then g id else h' id) w' := by
  have hle := he.le hf
  have real : ∀ id b x, g id = some b → r' id = some x → r id = some x ∧ x.1 < w.heap.size := fun id b x hb hx => by
    obtain ⟨B, O, K, h1, h2, _⟩ := H.blk id b hb
    rw [hle _ _ h1] at hx
    cases hx
    exact ⟨h1, h2⟩
  have cross : ∀ id id' b b' x x', Sep lim id id' b b' → id ∈ ids → g id = some b → id' ∉ ids → h' id' = some b' → r' id = some x → r' id' = some x' → x.1 = x'.1 → False := fun id id' b b' x x' hS h1 h2 h3 h4 h5 h6 h7 => by
    obtain ⟨e1, e2⟩ := real id b x h2 h5
    by_cases hl : id' < lim
    · rw [hold id' hl, hV, if_neg h3] at h4
      obtain ⟨e3, e4⟩ := real id' b' x' h4 h6
      exact h3 (H.inj id id' b b' x x' hS h2 h4 e1 e3 h7 ▸ h1)
    · exact H'.low id' b' x' h4 (by omega) h6 ⟨by omega, .inr ⟨id, b, x, h1, h2, e1, h7⟩⟩
  refine ⟨fun id b hb => ?_, fun id id' b b' x x' hS h1 h2 h3 h4 h5 => ?_, fun id b x h1 h2 h3 => ?_, fun k hp => Nat.lt_of_lt_of_le (H.bd k hp) hk.size, H'.glob⟩
  · split at hb
    · rename_i hid
      refine ((H.blk id b hb).same hk.size fun x hx => ?_).mono hle (Below.refl _ _)
      obtain ⟨B, O, K, e1, e2, _⟩ := H.blk id b hb
      rw [e1] at hx
      cases hx
      exact hk.block _ ⟨e2, .inr ⟨id, b, _, hid, hb, e1, rfl⟩⟩
    · exact H'.blk id b hb
  · split at h1 <;> split at h2
    · rename_i a1 a2
      exact H.inj id id' b b' x x' hS h1 h2 (real id b x h1 h3).1 (real id' b' x' h2 h4).1 h5
    · rename_i a1 a2
      exact (cross id id' b b' x x' hS a1 h1 a2 h2 h3 h4 h5).elim
    · rename_i a1 a2
      exact (cross id' id b' b x' x hS.symm a2 h2 a1 h1 h4 h3 h5.symm).elim
    · exact H'.inj id id' b b' x x' hS h1 h2 h3 h4 h5
  · split at h1
    · exact H.low id b x h1 h2 (real id b x h1 h3).1
    · exact fun hp => H'.low id b x h1 h2 h3 ⟨H.bd _ hp, .inl hp⟩
theorem Env.of {r : Rn} {fr : Fr} {act : Act} {l : List Operand} (hg : ∀ g, g < 1000 → r g = some (g, 0, 0)) (h : ∀ t, Operand.tmp t ∈ l → VR r ((fr.get t).getD (.tu [])) (act.tmps.getD t undef)) : Env r fr act.eval l := fun x hx a ha => by
  cases x with
  | tmp t => have ha : a = (fr.get t).getD (.tu []) := ha; rw [ha]; exact h t hx
  | const c => exact ha r
  | global g =>
    obtain ⟨h1, rfl⟩ := ha
    exact ⟨g, 0, 0, hg g h1, rfl⟩
  | func f => have ha : a = .fn (.func f) [] [] := ha; rw [ha]; exact ⟨[], [], rfl, rfl, rfl⟩
open Classical in
/-- the heap when D is done, and e is the next barrier -/
noncomputable def hD (ops : List Oper) (X : Nat → Snap) (D : Nat → Prop) (e : Nat) : Nat → Option Blk := fun id => if ∃ i, i < ops.length ∧ ¬ D i ∧ (X i).nx ≤ id ∧ id < (X (i + 1)).nx then none else (X e).h.get id
structure Inv (P : Program) (lim nt : Nat) (ops : List Oper) (X : Nat → Snap) (p : Nat → Prop) (r0 : Rn) (w0 : World) (D : Nat → Prop) (e : Nat) (r : Rn) (act : Act) (w : World) : Prop where
  closed : ∀ i j, D i → (wts ops i).testBit j = true → D j
  le : e ≤ ops.length
  before : ∀ i, i < e → Bar P ops X i → D i
  behind : ∀ i, e ≤ i → (Bar P ops X i ∨ Iso P ops X i) → ¬ D i
  ebar : e < ops.length → Bar P ops X e
  size : act.tmps.size = nt
  defers : act.defers = []
  new : ∀ (i : Nat) (o : Oper) d, D i → ops[i]? = some o → o.dst = some d → VR r (((X ops.length).fr.get d).getD (.tu [])) (act.tmps.getD d undef)
  old : ∀ d, (∀ (i : Nat) (o : Oper), D i → ops[i]? = some o → o.dst ≠ some d) → VR r (((X 0).fr.get d).getD (.tu [])) (act.tmps.getD d undef)
  heap : HR p lim r (hD ops X D e) w
  free : ∀ i, i < ops.length → ¬ D i → Free (X i).nx (X (i + 1)).nx r
  ext : Ext (X 0).nx (X ops.length).nx r0 r
  kp : Kp p w0 w
def Ld (ops : List Oper) (i : Nat) : Prop := ∃ o, ops[i]? = some o ∧ isLd o = true
theorem Bar.lt {ops : List Oper} {X : Nat → Snap} {i : Nat} (h : Bar P ops X i) : i < ops.length := by
  obtain ⟨o, ho, _⟩ := h
  exact (List.getElem?_eq_some_iff.1 ho).1
theorem Iso.lt {ops : List Oper} {X : Nat → Snap} {i : Nat} (h : Iso P ops X i) : i < ops.length := by
  obtain ⟨o, ho, _⟩ := h
  exact (List.getElem?_eq_some_iff.1 ho).1
section
variable {lim nt : Nat} {ops : List Oper} {X : Nat → Snap} (t : Tra P lim nt ops X)
include t
theorem Tra.pair {i j : Nat} (hi : Bar P ops X i) (hj : Bar P ops X j ∨ Iso P ops X j) (hne : j ≠ i) : ((wts ops i).testBit j = true ∧ j < i) ∨ ((wts ops j).testBit i = true ∧ i < j) ∨ (Ld ops j ∧ Iso P ops X j ∧ j < i) := by
  obtain ⟨o, ho, hl, hw, hb⟩ := hi
  rcases hj with hj | hj
  · obtain ⟨u, h1, h2, _, h4⟩ := hj
    rcases bars_spec hb h1 h2 hne with h | h | ⟨_, h⟩
    · exact .inl ⟨h, regionOk_back t.ok h⟩
    · exact .inr (.inl ⟨h, regionOk_back t.ok h⟩)
    · rcases bars_spec h4 ho hl (Ne.symm hne) with h' | h' | ⟨_, h'⟩
      · have := regionOk_back t.ok h'; omega
      · exact .inl ⟨h', h⟩
      · omega
  · have hj' := hj
    obtain ⟨u, h1, h2, _⟩ := hj'
    rcases bars_spec hb h1 h2 hne with h | h | ⟨h, h'⟩
    · exact .inl ⟨h, regionOk_back t.ok h⟩
    · exact .inr (.inl ⟨h, regionOk_back t.ok h⟩)
    · exact .inr (.inr ⟨⟨u, h1, h⟩, hj, h'⟩)
theorem Tra.ld_nx {i : Nat} (hi : Iso P ops X i) (hl : Ld ops i) : (X (i + 1)).nx = (X i).nx := by
  obtain ⟨o, ho, h⟩ := hl
  exact (t.iso hi).2.2.2 o ho h
theorem Tra.apart {i j id : Nat} (hi : i < ops.length) (hj : j < ops.length) (h1 : (X i).nx ≤ id) (h2 : id < (X (i + 1)).nx) (h3 : (X j).nx ≤ id) (h4 : id < (X (j + 1)).nx) : i = j := by
  rcases Nat.lt_trichotomy i j with h | h | h
  · have := t.nx (i := i + 1) (j := j) h (by omega); omega
  · exact h
  · have := t.nx (i := j + 1) (j := i) h (by omega); omega
omit t in
theorem locate_id {a id : Nat} : ∀ {b : Nat}, a ≤ b → b ≤ ops.length → (X a).nx ≤ id → id < (X b).nx → ∃ k, a ≤ k ∧ k < b ∧ (X k).nx ≤ id ∧ id < (X (k + 1)).nx
  | 0, h, _, h1, h2 => by rw [show a = 0 from by omega] at h1; omega
  | b + 1, h, hb, h1, h2 => by
    by_cases e : a = b + 1
    · rw [e] at h1; omega
    · by_cases h3 : id < (X b).nx
      · obtain ⟨k, k1, k2, k3⟩ := locate_id (b := b) (by omega) (by omega) h1 h3
        exact ⟨k, k1, by omega, k3⟩
      · exact ⟨b, by omega, by omega, by omega, h2⟩
theorem Tra.some_lt {i j : Nat} {b : Blk} (hi : i ≤ ops.length) (h : (X i).h.get j = some b) : j < (X i).nx := by
  refine Nat.lt_of_not_le fun hle => ?_
  rw [(t.top hi).2 j hle] at h
  cases h
omit t in
theorem next_bar {i : Nat} (hi : i ≤ ops.length) : ∃ e, i ≤ e ∧ e ≤ ops.length ∧ (∀ k, i ≤ k → k < e → ¬ Bar P ops X k) ∧ (e < ops.length → Bar P ops X e) := by
  generalize hd : ops.length - i = d
  induction d generalizing i with
  | zero => exact ⟨i, Nat.le_refl _, hi, fun k h1 h2 => by omega, fun h => by omega⟩
  | succ d ih =>
    by_cases hb : Bar P ops X i
    · exact ⟨i, Nat.le_refl _, hi, fun k h1 h2 => by omega, fun _ => hb⟩
    · obtain ⟨e, h1, h2, h3, h4⟩ := ih (i := i + 1) (by omega) (by omega)
      refine ⟨e, by omega, h2, fun k k1 k2 => ?_, h4⟩
      by_cases hk : k = i
      · rw [hk]; exact hb
      · exact h3 k (by omega) k2
variable {p : Nat → Prop} {r0 : Rn} {w0 : World} {D : Nat → Prop} {e : Nat} {r : Rn} {act : Act} {w : World} (I : Inv P lim nt ops X p r0 w0 D e r act w)
section
variable {i : Nat} {o : Oper} (ho : ops[i]? = some o) (hn : ¬ D i) (hm : ∀ j, (wts ops i).testBit j = true → D j)
include I ho hn hm
theorem Inv.look {d : Tmp} (hd : d ∈ looks ops o) : VR r (((X i).fr.get d).getD (.tu [])) (act.tmps.getD d undef) := by
  have hi := (List.getElem?_eq_some_iff.1 ho).1
  by_cases hw : ∃ (j : Nat) (u : Oper), ops[j]? = some u ∧ u.dst = some d
  · obtain ⟨j, u, h1, h2⟩ := hw
    by_cases hdj : D j
    · have hlt : j < i := by
        rcases regionOk_apart t.ok ho hd h1 h2 with rfl | hb | hb
        · exact absurd hdj hn
        · exact regionOk_back t.ok hb
        · exact absurd (I.closed j i hdj hb) hn
      have := I.new j u d hdj h1 h2
      rw [t.wrote h1 h2 (j := ops.length) (by omega) (Nat.le_refl _)] at this
      rw [t.wrote h1 h2 (j := i) hlt (by omega)]
      exact this
    · have hle : i ≤ j := by
        rcases regionOk_apart t.ok ho hd h1 h2 with rfl | hb | hb
        · exact Nat.le_refl _
        · exact absurd (hm j hb) hdj
        · exact Nat.le_of_lt (regionOk_back t.ok hb)
      have := I.old d fun k v hk hv hvd => hdj (regionOk_once t.ok hv h1 hvd h2 ▸ hk)
      rw [t.stay (i := 0) (j := i) (Nat.zero_le _) (by omega) fun k v _ hki hv hvd => by have := regionOk_once t.ok hv h1 hvd h2; omega]
      exact this
  · have := I.old d fun j u _ h1 h2 => hw ⟨j, u, h1, h2⟩
    rw [t.stay (i := 0) (j := i) (Nat.zero_le _) (by omega) fun k u _ _ h1 h2 => hw ⟨k, u, h1, h2⟩]
    exact this
theorem Inv.env : Env r (X i).fr act.eval o.op.operands.toList := Env.of I.heap.glob fun d hd => I.look t ho hn hm (List.mem_append_left _ (List.mem_filterMap.2 ⟨.tmp d, hd, rfl⟩))
theorem Inv.want : Region.wanted o (yielded ops.toArray act.tmps) = wantedB ops (X i).fr o := wanted_at ops o fun g want og d h1 h2 h3 => I.look t ho hn hm (List.mem_append_right _ (by rw [h1]; simp only; rw [getL_eq, h2]; simp [h3]))
end
section
variable {i : Nat} (hn : ¬ D i) (hm : ∀ j, (wts ops i).testBit j = true → D j)
include I hn hm
omit hn in
theorem Inv.iso_lt (hi : Iso P ops X i) : i < e := by
  refine Nat.lt_of_not_le fun hle => ?_
  have hlt := hi.lt
  have hb := I.ebar (by omega)
  by_cases hie : i = e
  · subst hie
    obtain ⟨_, _, _, _, h1⟩ := hi
    obtain ⟨_, _, _, _, h2⟩ := hb
    rw [h1] at h2
    cases h2
  · rcases t.pair hb (.inr hi) hie with h | h | h
    · omega
    · exact I.behind e (Nat.le_refl _) (.inl hb) (hm e h.1)
    · omega
theorem Inv.bar_eq (hi : Bar P ops X i) : i = e := by
  rcases Nat.lt_trichotomy i e with h | h | h
  · exact absurd (I.before i h hi) hn
  · exact h
  · have hlt := hi.lt
    have hb := I.ebar (by omega)
    rcases t.pair hb (.inl hi) (by omega) with h' | h' | h'
    · omega
    · exact absurd (hm e h'.1) (I.behind e (Nat.le_refl _) (.inl hb))
    · omega
omit hm in
theorem Inv.bars (hi : Iso P ops X i) {k : Nat} (h1 : i ≤ k) (h2 : k < e) (hb : Bar P ops X k) : Ld ops i ∧ i < k ∧ (wts ops k).testBit i = false := by
  have hd := I.before k h2 hb
  have hne : i ≠ k := fun he => hn (he ▸ hd)
  have hbit : (wts ops k).testBit i = false := by
    cases hx : (wts ops k).testBit i with
    | false => rfl
    | true => exact absurd (I.closed k i hd hx) hn
  rcases t.pair hb (.inr hi) hne with h | h | h
  · rw [hbit] at h; cases h.1
  · omega
  · exact ⟨h.1, h.2.2, hbit⟩
theorem Inv.view_bar (hi : Bar P ops X i) {j : Nat} {b : Blk} (hj : (X i).h.get j = some b) : hD ops X D e j = some b := by
  have he := I.bar_eq t hn hm hi
  subst he
  have hil := hi.lt
  have hjl := t.some_lt (Nat.le_of_lt hil) hj
  unfold hD
  rw [if_neg]
  · exact hj
  · rintro ⟨k, h1, h2, h3, h4⟩
    have hk : k < i := Nat.lt_of_not_le fun hle => by have := t.nx (i := i) (j := k) hle (by omega); omega
    rcases t.pair hi (t.heavy h1 (by omega)) (by omega) with h | h | h
    · exact h2 (hm k h.1)
    · omega
    · have := t.ld_nx h.2.1 h.1; omega
theorem Inv.view_iso (hi : Iso P ops X i) {V : T} {m : Nat} (hmk : wts ops i = m) (hV : ((∀ j b, V.get j = some b → (X i).h.get j = some b) ∧ Nat.land (X i).news m = (X i).news) ∨ ∀ j b, V.get j = some b → (X i).S.get j = some b)
    (hld : Ld ops i → ∃ id, (i, id) ∈ (X (i + 1)).lds ∧ ∀ j, j ≠ id → V.get j = none) {j : Nat} {b : Blk} (hj : V.get j = some b) : hD ops X D e j = some b := by
  have hil := hi.lt
  have hie := I.iso_lt t hm hi
  have hel := I.le
  obtain ⟨q, q1, q2, q3, q4, q5⟩ := t.seg (i := i) (by omega)
  have hq : ∀ k, k < q → (X k).nx < (X (k + 1)).nx → D k := fun k hk hnx => by
    rcases q2 with rfl | ⟨g, rfl, hg⟩
    · omega
    · have hdg := I.before g (by omega) hg
      by_cases hkg : k = g
      · rw [hkg]; exact hdg
      · rcases t.pair hg (t.heavy (by omega) hnx) hkg with h | h | h
        · exact I.closed g k hdg h.1
        · omega
        · have := t.ld_nx h.2.1 h.1; omega
  have hke : ∀ k, i ≤ k → k ≤ e → j < (X i).nx → (X k).h.get j = (X i).h.get j := by
    intro k
    induction k with
    | zero => intro h1 _ _; rw [show i = 0 from by omega]
    | succ k ih =>
      intro h1 h2 h3
      by_cases hik : i = k + 1
      · rw [hik]
      · have h4 := ih (by omega) (by omega) h3
        have h5 := t.nx (i := i) (j := k) (by omega) (by omega)
        by_cases hb : Bar P ops X k
        · obtain ⟨b1, b2, b3⟩ := I.bars t hn hi (k := k) (by omega) (by omega) hb
          obtain ⟨id, hid, hno⟩ := hld b1
          have hjid : j = id := Classical.byContradiction fun hc => by rw [hno j hc] at hj; cases hj
          rw [hjid, (t.bar (by omega) hb).2.2.2 i id (t.lds hid (by omega) (by omega)) b3, ← hjid, h4]
        · rw [(t.keep (by omega) hb).1 j (by omega), h4]
  have hqi := (t.keeps (i := q) (j := i) q1 (by omega) q3).1
  have hqn := t.nx (i := q) (j := i) q1 (by omega)
  rcases hV with ⟨hVs, hnews⟩ | hVs
  · have hj := hVs j b hj
    have hjl := t.some_lt (Nat.le_of_lt hil) hj
    unfold hD
    rw [if_neg, hke e (by omega) (Nat.le_refl _) hjl, hj]
    rintro ⟨k, h1, h2, h3, h4⟩
    have hk : k < i := Nat.lt_of_not_le fun hle => by have := t.nx (i := i) (j := k) hle (by omega); omega
    by_cases hkq : k < q
    · exact h2 (hq k hkq (by omega))
    · have hbit := q5 k (by omega) hk (by omega)
      rw [← hnews, show Nat.land (X i).news m = (X i).news &&& m from rfl, Nat.testBit_and, Bool.and_eq_true] at hbit
      exact h2 (hm k (by rw [hmk]; exact hbit.2))
  · have hj := hVs j b hj
    rw [q4] at hj
    have hjl := t.some_lt (by omega) hj
    unfold hD
    rw [if_neg, hke e (by omega) (Nat.le_refl _) (by omega), hqi j hjl, hj]
    rintro ⟨k, h1, h2, h3, h4⟩
    have hk : k < q := Nat.lt_of_not_le fun hle => by have := t.nx (i := q) (j := k) hle (by omega); omega
    exact h2 (hq k hk (by omega))
end
omit t in
theorem hD_skip {i : Nat} (hi : i < ops.length) (h : (X (i + 1)).nx = (X i).nx) : hD ops X (fun j => D j ∨ j = i) e = hD ops X D e := by
  funext id
  unfold hD
  congr 1
  refine propext ⟨fun ⟨k, h1, h2, h3⟩ => ⟨k, h1, fun hd => h2 (.inl hd), h3⟩, fun ⟨k, h1, h2, h3, h4⟩ => ⟨k, h1, ?_, h3, h4⟩⟩
  rintro (hd | rfl)
  · exact h2 hd
  · omega
theorem Tra.hD_iso {i : Nat} (hi : i < ops.length) (hie : i < e) (he : e ≤ ops.length) (hb : ∀ k, i + 1 ≤ k → k < e → ¬ Bar P ops X k) {h' : T} (hh : ∀ id, (X (i + 1)).h.get id = if (X i).nx ≤ id ∧ id < (X (i + 1)).nx then h'.get id else (X i).h.get id) :
    hD ops X (fun j => D j ∨ j = i) e = fun id => if (X i).nx ≤ id ∧ id < (X (i + 1)).nx then h'.get id else hD ops X D e id := by
  funext id
  by_cases hid : (X i).nx ≤ id ∧ id < (X (i + 1)).nx
  · rw [if_pos hid]
    unfold hD
    rw [if_neg, (t.keeps (i := i + 1) (j := e) hie he hb).1 id hid.2, hh, if_pos hid]
    rintro ⟨k, h1, h2, h3, h4⟩
    exact h2 (.inr (t.apart h1 hi h3 h4 hid.1 hid.2))
  · rw [if_neg hid]
    unfold hD
    congr 1
    refine propext ⟨fun ⟨k, h1, h2, h3⟩ => ⟨k, h1, fun hd => h2 (.inl hd), h3⟩, fun ⟨k, h1, h2, h3, h4⟩ => ⟨k, h1, ?_, h3, h4⟩⟩
    rintro (hd | rfl)
    · exact h2 hd
    · exact hid ⟨h3, h4⟩
end
end Clo
end Go.Proofs.YtlcggjaogbclkaaDoor
