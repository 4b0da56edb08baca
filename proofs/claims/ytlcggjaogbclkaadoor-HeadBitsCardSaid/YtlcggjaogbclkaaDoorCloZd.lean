/-
  Runs of closed calls by the kernel: what a run says of the program.
-/
import Derived.Test.YtlcggjaogbclkaaDoorCloZc
import Derived.Orders
namespace Go.Proofs.YtlcggjaogbclkaaDoor
namespace Clo
open Go.RowKit
set_option linter.unusedVariables false
variable {P : Program}

def Lst (ops : List Oper) (listed : Array Bool) (i : Nat) : Prop := i < ops.length ∧ listed.getD i true = true
theorem filter_less {n i : Nat} {q q' : Nat → Bool} (hi : i < n) (h : q i = true) (hq : ∀ j, j < n → q' j = (q j && j != i)) {f : Nat} (hf : ((List.range n).filter q).length ≤ f + 1) : ((List.range n).filter q').length ≤ f := by
  have e : (List.range n).filter q' = ((List.range n).filter q).filter (fun j => j != i) := by
    rw [List.filter_filter]
    refine List.filter_congr fun j hj => ?_
    rw [hq j (List.mem_range.1 hj), Bool.and_comm]
  have hlt : (((List.range n).filter q).filter (fun j => j != i)).length < ((List.range n).filter q).length :=
    List.length_filter_lt_length_iff_exists.2 ⟨i, List.mem_filter.2 ⟨List.mem_range.2 hi, h⟩, by simp⟩
  rw [e]
  omega
section
variable {lim nt : Nat} {ops : List Oper} {X : Nat → Snap} (t : Tra P lim nt ops X) {p : Nat → Prop} {r0 : Rn} {w0 : World}
include t
omit t in
theorem ready_spec {listed : Array Bool} {i : Nat} (h : i ∈ Region.ready .any ops.toArray listed) : ∃ o, ops[i]? = some o ∧ listed.getD i true = false ∧ ∀ e ∈ o.after.toList, Region.binds .any e = true → listed.getD e.on false = true := by
  unfold Region.ready at h
  rw [List.mem_filter, List.getElem?_toArray] at h
  obtain ⟨h1, h2⟩ := h
  simp only [List.size_toArray, List.mem_range] at h1
  rw [List.getElem?_eq_getElem h1, Bool.and_eq_true] at h2
  refine ⟨ops[i], List.getElem?_eq_getElem h1, by simpa using h2.1, fun e he hb => ?_⟩
  have h3 := h2.2
  simp only [Option.map_some, Option.getD_some] at h3
  have := Array.all_eq_true_iff_forall_mem.1 h3 e (by simpa using he)
  rw [hb] at this
  simpa using this
theorem all_listed {listed : Array Bool} (hs : listed.size = ops.length) (h : Region.ready .any ops.toArray listed = []) (i : Nat) : i < ops.length → listed.getD i true = true := by
  induction i using Nat.strongRecOn with
  | _ i ih =>
    intro hi
    cases hl : listed.getD i true with
    | true => rfl
    | false =>
      have hm : i ∈ Region.ready .any ops.toArray listed := by
        unfold Region.ready
        rw [List.mem_filter, List.getElem?_toArray, List.getElem?_eq_getElem hi, hl]
        refine ⟨by simpa using hi, ?_⟩
        simp only [Bool.not_false, Bool.true_and, Option.map_some, Option.getD_some]
        rw [Array.all_eq_true_iff_forall_mem]
        intro e he
        cases hb : Region.binds .any e with
        | false => rfl
        | true =>
          have hlt := regionOk_back t.ok (wts_on (List.getElem?_eq_getElem hi) (by simpa using he) hb)
          have := ih e.on hlt (by omega)
          have he' : e.on < listed.size := by omega
          simpa [he'] using this
      rw [h] at hm
      cases hm
theorem Inv.final {D : Nat → Prop} {e : Nat} {r : Rn} {act : Act} {w : World} (I : Inv P lim nt ops X p r0 w0 D e r act w) (hD' : ∀ i, i < ops.length → D i) : After p lim r0 (X 0).nx (X ops.length).nx nt (X ops.length).fr (X ops.length).h w0 act w := by
  have he : e = ops.length := by
    refine Nat.le_antisymm I.le (Nat.le_of_not_lt fun hlt => ?_)
    exact I.behind e (Nat.le_refl _) (.inl (I.ebar hlt)) (hD' e hlt)
  subst he
  have hsub : ∀ j b, (X ops.length).h.get j = some b → hD ops X D ops.length j = some b := fun j b hj => by
    unfold hD
    rw [if_neg]
    · exact hj
    · rintro ⟨k, h1, h2, _⟩
      exact h2 (hD' k h1)
  refine ⟨r, I.ext, ⟨I.size, I.defers, fun d => ?_⟩, I.heap.sub hsub (fun j b x h1 h2 h3 => I.heap.low j b x (hsub j b h1) h2 h3) I.heap.bd (Nat.le_refl _), I.kp⟩
  by_cases hw : ∃ (j : Nat) (u : Oper), ops[j]? = some u ∧ u.dst = some d
  · obtain ⟨j, u, h1, h2⟩ := hw
    exact I.new j u d (hD' j (List.getElem?_eq_some_iff.1 h1).1) h1 h2
  · have := I.old d fun j u _ h1 h2 => hw ⟨j, u, h1, h2⟩
    rw [t.stay (i := 0) (j := ops.length) (Nat.zero_le _) (Nat.le_refl _) fun k u _ _ h1 h2 => hw ⟨k, u, h1, h2⟩]
    exact this
theorem any_ok {N : Act → World → Prop} (hN : ∀ act' w', After p lim r0 (X 0).nx (X ops.length).nx nt (X ops.length).fr (X ops.length).h w0 act' w' → N act' w') :
    ∀ (fuel : Nat) (listed : Array Bool) (e : Nat) (r : Rn) (act : Act) (w : World), listed.size = ops.length → ((List.range ops.length).filter fun i => !listed.getD i true).length ≤ fuel → Inv P lim nt ops X p r0 w0 (Lst ops listed) e r act w →
      wpAny P .any ops.toArray (At .nor N) fuel listed act w := by
  intro fuel
  induction fuel with
  | zero =>
    intro listed e r act w hs hf I
    have hr : Region.ready .any ops.toArray listed = [] := by
      refine List.eq_nil_iff_forall_not_mem.2 fun i hi => ?_
      obtain ⟨o, h1, h2, _⟩ := ready_spec hi
      have : i ∈ (List.range ops.length).filter fun i => !listed.getD i true := List.mem_filter.2 ⟨List.mem_range.2 (List.getElem?_eq_some_iff.1 h1).1, by rw [h2]; rfl⟩
      rw [List.length_eq_zero_iff.1 (Nat.le_zero.1 hf)] at this
      cases this
    exact ⟨hr, rfl, hN _ _ (I.final t fun i hi => ⟨hi, all_listed t hs hr i hi⟩)⟩
  | succ fuel ih =>
    intro listed e r act w hs hf I
    refine ⟨fun hr => ⟨rfl, hN _ _ (I.final t fun i hi => ⟨hi, all_listed t hs hr i hi⟩)⟩, fun i hi => ?_⟩
    obtain ⟨o, ho, hl, hon⟩ := ready_spec hi
    have hil := (List.getElem?_eq_some_iff.1 ho).1
    have hset : ∀ j, (listed.setIfInBounds i true).getD j true = (listed.getD j true || j == i) := fun j => by
      simp only [Array.getD_eq_getD_getElem?, Array.getElem?_setIfInBounds]
      by_cases h : i = j
      · subst h
        have : i < listed.size := by omega
        simp [this]
      · simp [h, Ne.symm h]
    have hD' : (fun j => Lst ops listed j ∨ j = i) = Lst ops (listed.setIfInBounds i true) := by
      funext j
      unfold Lst
      rw [hset]
      refine propext ⟨?_, ?_⟩
      · rintro (⟨h1, h2⟩ | rfl)
        · exact ⟨h1, by rw [h2]; rfl⟩
        · exact ⟨hil, by simp⟩
      · rintro ⟨h1, h2⟩
        rw [Bool.or_eq_true] at h2
        rcases h2 with h2 | h2
        · exact .inl ⟨h1, h2⟩
        · exact .inr (by simpa using h2)
    refine I.step t ho (fun h => by rw [h.2] at hl; cases hl) (fun j hj => ?_) fun e' r' act' w' I' => ?_
    · obtain ⟨ed, e1, e2, e3⟩ := wts_bits ho hj
      have hed := hon ed e1 e2
      have hlt : ed.on < listed.size := Nat.lt_of_not_le fun hle => by simp [Nat.not_lt.2 hle] at hed
      have hd : Lst ops listed ed.on := ⟨by omega, by simpa [hlt] using hed⟩
      rcases e3 with rfl | e3
      · exact hd
      · exact I.closed _ _ hd e3
    · rw [hD'] at I'
      refine ih _ e' r' act' w' (by simpa using hs) ?_ I'
      exact filter_less hil (by rw [hl]; rfl) (fun j _ => by rw [hset]; cases listed.getD j true <;> cases h : (j == i) <;> simp [bne, h]) hf
theorem Inv.start {r : Rn} {act : Act} {w : World} (H : HR p lim r (X 0).h.get w) (hf : Free (X 0).nx (X ops.length).nx r) (hfr : FR r nt (X 0).fr act) : ∃ e, Inv P lim nt ops X p r w (fun _ => False) e r act w := by
  obtain ⟨e, h1, h2, h3, h4⟩ := next_bar (P := P) (ops := ops) (X := X) (i := 0) (Nat.zero_le _)
  have key : ∀ j b, hD ops X (fun _ => False) e j = some b → (X 0).h.get j = some b := fun j b hj => by
    unfold hD at hj
    split at hj
    · cases hj
    · rename_i hno
      have hjl := t.some_lt h2 hj
      by_cases hji : j < (X 0).nx
      · rw [← (t.keeps h1 h2 h3).1 j hji]; exact hj
      · obtain ⟨k, q1, q2, q3, q4⟩ := locate_id h1 h2 (by omega) hjl
        exact absurd ⟨k, by omega, fun h => h, q3, q4⟩ hno
  exact ⟨e, fun _ _ h => h.elim, h2, fun k hk hb => absurd hb (h3 k (Nat.zero_le _) hk), fun _ _ _ h => h, h4, hfr.size, hfr.defers, fun _ _ _ h => h.elim, fun d _ => hfr.tmp d,
    H.sub key (fun j b x q1 q2 q3 => H.low j b x (key j b q1) q2 q3) H.bd (Nat.le_refl _), fun k hk _ => hf.sub (t.nx (Nat.zero_le _) (by omega)) (t.nx (by omega) (Nat.le_refl _)), Ext.refl _ _ _, Kp.refl _ _⟩
end
theorem drK_ok (hm : P.follows .mixedOrders = true) : DrOK P := fun call nt lim ops fr h nx k v id hcall ht hok hk => by
  obtain ⟨X, x0, x1, x2⟩ := drK_trace hcall ops 0 (masks ops) (barsL P ops) ⟨fr, h, h, nx, 0, []⟩ ht ht.2 hk
  simp only [Nat.zero_add] at x1 x2
  have t : Tra P lim nt ops X := ⟨fun i o ho => x2 i o ho, by rw [x0]; exact ht, by rw [x0], hok⟩
  refine ⟨(X ops.length).fr, (X ops.length).h, (X ops.length).nx, x1, ?_, fun p r w act H hf hfr N hN => ?_⟩
  · have := t.keeps_all (i := ops.length) (Nat.le_refl _)
    rw [x0] at this
    exact this
  · refine wp_region_any hm ?_
    have hf' : Free (X 0).nx (X ops.length).nx r := by rw [x0]; exact hf
    obtain ⟨e, I⟩ := Inv.start (p := p) t (r := r) (act := act) (w := { w with drawn := w.drawn + 1 }) (by rw [x0]; exact H.drew) hf' (by rw [x0]; exact hfr)
    have hL : (fun _ => False) = Lst ops (Array.replicate ops.toArray.size false) := by
      funext j
      refine propext ⟨fun h => h.elim, fun ⟨h1, h2⟩ => ?_⟩
      simp [h1] at h2
    rw [hL] at I
    refine any_ok t (p := p) (r0 := r) (fun act' w' ha => hN act' w' ?_) _ _ e r act _ (by simp) ?_ I
    · rw [x0] at ha
      obtain ⟨r', a1, a2, a3, a4⟩ := ha
      exact ⟨r', a1, a2, a3, ⟨a4.os, a4.tape, a4.output, a4.size, a4.block⟩⟩
    · refine Nat.le_trans (List.length_filter_le _ _) ?_
      simp
/-- what a run by the kernel says of a closed call -/
theorem run_closed (hp : Plain P) (hm : P.follows .mixedOrders = true) {n : Nat} {f : FuncId} {fn : Func} {c : Code} {b : Bool} (hf : P.funcs[f]? = some fn) (hb : fn.body = some c) (h : runF P noX n 1000 f [] .e 1000 = .ok (.b b)) (w : World) :
    Calls P f #[] w fun e w' => e = .returned (.bool b) ∧ Below w.heap.size w w' :=
  calls_from hp noX_ok (drK_ok hm) hf hb h ⟨Nat.le_refl _, fun j _ => Tr.get_e j⟩ (HR.start w) (fun id h1 => if_neg (by omega)) rfl
/-- a call that comes to a truth, and leaves all as it was, may stand for its run -/
def truth (b : Bool) : HT := fun _ args h nx k => match args with
  | [] => k (.b b) h nx
  | _ => .err 70 0
theorem left_below {p : Nat → Prop} {lim : Nat} {r : Rn} {nx : Nat} {h : T} {a : AV} {w : World} {z : Value} {w' : World} (H : HR p lim r h.get w) (hz : VR r a z) (hb : Below w.heap.size w w') : Left p lim r nx nx h a w z w' :=
  ⟨r, Ext.refl _ _ _, hz, ⟨fun id bl hbl => (H.blk id bl hbl).mono (Le.refl r) hb, H.inj, H.low, fun k hk => Nat.lt_of_lt_of_le (H.bd k hk) hb.size, H.glob⟩, Kp.of_below hb H.bd⟩
theorem truth_ok {f : FuncId} {b : Bool} (h : ∀ w, CallSem P f [] w fun z w' => z = .bool b ∧ Below w.heap.size w w') : HandOK P f (truth b) := fun lim args hh nx k v hl hk => by
  unfold truth at hk
  split at hk
  · refine ⟨_, _, _, hk, Keeps.refl _ _ _, fun p r w xs H hf hx => ?_⟩
    cases hx
    have := h w
    have key : ∀ z w', z = .bool b ∧ Below w.heap.size w w' → Left p lim r nx nx hh (.b b) w z w' := fun z w' ⟨h1, h2⟩ =>
      ⟨r, Ext.refl _ _ _, h1, ⟨fun id bl hb => (H.blk id bl hb).mono (Le.refl r) h2, H.inj, H.low, fun k hk => Nat.lt_of_lt_of_le (H.bd k hk) h2.size, H.glob⟩, Kp.of_below h2 H.bd⟩
    unfold CallSem at this ⊢
    split at this
    · exact key _ _ this
    · refine Calls.mono this fun e w'' he => ?_
      cases e with
      | returned z => exact key _ _ he
      | _ => exact he.elim
    · exact this.elim
  · cases hk
end Clo
end Go.Proofs.YtlcggjaogbclkaaDoor
