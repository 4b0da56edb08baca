/-
  Runs of closed calls by the kernel: what a run says of the program.
-/
import Derived.Test.YthghohgjedjpbaaCluZp
import Derived.Orders
namespace Go.Proofs.Ythghohgjedjpbaa
namespace Clu
open Go.RowKit
set_option linter.unusedVariables false
variable {P : Program}

def Lst (ops : List Oper) (listed : Array Bool) (i : Nat) : Prop := i < ops.length ∧ listed.getD i true = true
theorem filter_less {n i : Nat} {q q' : Nat → Bool} (hi : i < n) (h : q i = true) (hq : ∀ j, j < n → q' j = (q j && j != i)) {f : Nat} (hf : ((List.range n).filter q).length ≤ f + 1) : ((List.range n).filter q').length ≤ f := by
  have e : (List.range n).filter q' = ((List.range n).filter q).filter (fun j => j != i) := by
    rw [List.filter_filter]
    refine List.filter_congr fun j hj => ?_
    rw [hq j (List.mem_range.1 hj), Bool.and_comm]
  have hlt : (((List.range n).filter q).filter (fun j => j != i)).length < ((List.range n).filter q).length :=
    List.length_filter_lt_length_iff_exists.2 ⟨i, List.mem_filter.2 ⟨List.mem_range.2 hi, h⟩, by simp⟩
  rw [e]
  omega
section
variable {lim nt : Nat} {ops : List Oper} {L : Nat} {Ds : List Deferred} {X : Nat → Snap} (t : Tra P lim nt ops L X) {p : Nat → Prop} {r0 : Rn} {w0 : World}
include t
omit t in
theorem ready_spec {listed : Array Bool} {i : Nat} (h : i ∈ Region.ready .any ops.toArray listed) : ∃ o, ops[i]? = some o ∧ listed.getD i true = false ∧ ∀ e ∈ o.after.toList, Region.binds .any e = true → listed.getD e.on false = true := by
  unfold Region.ready at h
  rw [List.mem_filter, List.getElem?_toArray] at h
  obtain ⟨h1, h2⟩ := h
  simp only [List.size_toArray, List.mem_range] at h1
  rw [List.getElem?_eq_getElem h1, Bool.and_eq_true] at h2
  refine ⟨ops[i], List.getElem?_eq_getElem h1, by simpa using h2.1, fun e he hb => ?_⟩
  have h3 := h2.2
  simp only [Option.map_some, Option.getD_some] at h3
  have := Array.all_eq_true_iff_forall_mem.1 h3 e (by simpa using he)
  rw [hb] at this
  simpa using this
theorem all_listed {listed : Array Bool} (hs : listed.size = ops.length) (h : Region.ready .any ops.toArray listed = []) (i : Nat) : i < ops.length → listed.getD i true = true := by
  induction i using Nat.strongRecOn with
  | _ i ih =>
    intro hi
    cases hl : listed.getD i true with
    | true => rfl
    | false =>
      have hm : i ∈ Region.ready .any ops.toArray listed := by
        unfold Region.ready
        rw [List.mem_filter, List.getElem?_toArray, List.getElem?_eq_getElem hi, hl]
        refine ⟨by simpa using hi, ?_⟩
        simp only [Bool.not_false, Bool.true_and, Option.map_some, Option.getD_some]
        rw [Array.all_eq_true_iff_forall_mem]
        intro e he
        cases hb : Region.binds .any e with
        | false => rfl
        | true =>
          have hlt := regionOk_back t.ok (wts_on (List.getElem?_eq_getElem hi) (by simpa using he) hb)
          have := ih e.on hlt (by omega)
          have he' : e.on < listed.size := by omega
          simpa [he'] using this
      rw [h] at hm
      cases hm
theorem Inv.final {D : Nat → Prop} {e : Nat} {r : Rn} {act : Act} {w : World} (I : Inv P lim nt ops L Ds X p r0 w0 D e r act w) (hD' : ∀ i, i < L → D i) (hLe : L = ops.length) : After Ds p lim r0 (X 0).nx (X L).nx nt (X L).fr (X L).h w0 act w := by
  have he : e = L := by
    refine Nat.le_antisymm I.le (Nat.le_of_not_lt fun hlt => ?_)
    exact I.behind e (Nat.le_refl _) (.inl (I.ebar hlt)) (hD' e hlt)
  subst he
  have hsub : ∀ j b, (X e).h.get j = some b → hD e X D e j = some b := fun j b hj => by
    unfold hD
    rw [if_neg]
    · exact hj
    · rintro ⟨k, h1, h2, _⟩
      exact h2 (hD' k h1)
  refine ⟨r, I.ext, ⟨I.size, I.defers, fun d => ?_⟩, I.heap.sub hsub (fun j b x h1 h2 h0 h3 => I.heap.low j b x (hsub j b h1) h2 h0 h3) I.heap.bd (Nat.le_refl _), I.kp⟩
  by_cases hw : ∃ (j : Nat) (u : Oper), ops[j]? = some u ∧ u.dst = some d
  · obtain ⟨j, u, h1, h2⟩ := hw
    exact I.new j u d (hD' j (by have := (List.getElem?_eq_some_iff.1 h1).1; omega)) h1 h2
  · have := I.old d fun j u _ h1 h2 => hw ⟨j, u, h1, h2⟩
    rw [t.stay (i := 0) (j := e) (Nat.zero_le _) (Nat.le_refl _) fun k u _ _ h1 h2 => hw ⟨k, u, h1, h2⟩]
    exact this
theorem any_ok {Q : Exit → Act → World → Prop} (hN : (∀ i, i < L → ∀ x, (X (i + 1)).av ≠ .pa x) → L = ops.length → ∀ act' w', After Ds p lim r0 (X 0).nx (X L).nx nt (X L).fr (X L).h w0 act' w' → Q .normal act' w')
    (hlate : ∀ k, L ≤ k → k < ops.length → 0 < L ∧ (wts ops k).testBit (L - 1) = true ∧ ∃ x, (X L).av = .pa x)
    (hPan : ∀ i x D e r act w c w' z r', i < L → (X (i + 1)).av = .pa x → Inv P lim nt ops L Ds X p r0 w0 D e r act w → ¬ D i → (∀ q, (wts ops i).testBit q = true → D q) → c = [{ v := z, recovered := false }] → Ext (X i).nx (X (i + 1)).nx r r' → VR r' x z → Kp p w w' →
      (∀ H : Nat → Option Blk, (∀ id b, H id = some b → (X (i + 1)).h.get id = some b ∧ ¬ ∃ k, k < i ∧ ¬ D k ∧ (X k).nx ≤ id ∧ id < (X (k + 1)).nx) → HR p lim r' H w') → Q (.panic c) act w') :
    ∀ (fuel : Nat) (listed : Array Bool) (e : Nat) (r : Rn) (act : Act) (w : World), listed.size = ops.length → ((List.range ops.length).filter fun i => !listed.getD i true).length ≤ fuel → (∀ j, Lst ops listed j → j < L ∧ ∀ x, (X (j + 1)).av ≠ .pa x) → Inv P lim nt ops L Ds X p r0 w0 (Lst ops listed) e r act w →
      wpAny P .any ops.toArray Q fuel listed act w := by
  have done : ∀ (listed : Array Bool) (e : Nat) (r : Rn) (act : Act) (w : World), (∀ j, Lst ops listed j → j < L ∧ ∀ x, (X (j + 1)).av ≠ .pa x) → Inv P lim nt ops L Ds X p r0 w0 (Lst ops listed) e r act w → (∀ i, i < ops.length → listed.getD i true = true) → Q .normal act w := fun listed e r act w hno I hall => by
    have hL := t.hL
    have hLe : L = ops.length := by
      refine Nat.le_antisymm hL (Nat.le_of_not_lt fun hlt => ?_)
      have := (hno L ⟨hlt, hall L hlt⟩).1
      omega
    exact hN (fun i hi => (hno i ⟨by omega, hall i (by omega)⟩).2) hLe act w (I.final t (fun i hi => ⟨by omega, hall i (by omega)⟩) hLe)
  intro fuel
  induction fuel with
  | zero =>
    intro listed e r act w hs hf hno I
    have hr : Region.ready .any ops.toArray listed = [] := by
      refine List.eq_nil_iff_forall_not_mem.2 fun i hi => ?_
      obtain ⟨o, h1, h2, _⟩ := ready_spec hi
      have : i ∈ (List.range ops.length).filter fun i => !listed.getD i true := List.mem_filter.2 ⟨List.mem_range.2 (List.getElem?_eq_some_iff.1 h1).1, by rw [h2]; rfl⟩
      rw [List.length_eq_zero_iff.1 (Nat.le_zero.1 hf)] at this
      cases this
    exact ⟨hr, done listed e r act w hno I fun i hi => all_listed t hs hr i hi⟩
  | succ fuel ih =>
    intro listed e r act w hs hf hno I
    refine ⟨fun hr => done listed e r act w hno I fun i hi => all_listed t hs hr i hi, fun i hi => ?_⟩
    obtain ⟨o, ho, hl, hon⟩ := ready_spec hi
    have hil := (List.getElem?_eq_some_iff.1 ho).1
    have hset : ∀ j, (listed.setIfInBounds i true).getD j true = (listed.getD j true || j == i) := fun j => by
      simp only [Array.getD_eq_getD_getElem?, Array.getElem?_setIfInBounds]
      by_cases h : i = j
      · subst h
        have : i < listed.size := by omega
        simp [this]
      · simp [h, Ne.symm h]
    have hD' : (fun j => Lst ops listed j ∨ j = i) = Lst ops (listed.setIfInBounds i true) := by
      funext j
      unfold Lst
      rw [hset]
      refine propext ⟨?_, ?_⟩
      · rintro (⟨h1, h2⟩ | rfl)
        · exact ⟨h1, by rw [h2]; rfl⟩
        · exact ⟨hil, by simp⟩
      · rintro ⟨h1, h2⟩
        rw [Bool.or_eq_true] at h2
        rcases h2 with h2 | h2
        · exact .inl ⟨h1, h2⟩
        · exact .inr (by simpa using h2)
    have hn : ¬ Lst ops listed i := fun h => by rw [h.2] at hl; cases hl
    have hm : ∀ j, (wts ops i).testBit j = true → Lst ops listed j := fun j hj => by
      obtain ⟨ed, e1, e2, e3⟩ := wts_bits ho hj
      have hed := hon ed e1 e2
      have hlt : ed.on < listed.size := Nat.lt_of_not_le fun hle => by simp [Nat.not_lt.2 hle] at hed
      have hd : Lst ops listed ed.on := ⟨by omega, by simpa [hlt] using hed⟩
      rcases e3 with rfl | e3
      · exact hd
      · exact I.closed _ _ hd e3
    have hiL : i < L := Nat.lt_of_not_le fun hle => by
      obtain ⟨h0, h1, x, h2⟩ := hlate i hle hil
      have := (hno _ (hm _ h1)).2 x
      rw [show L - 1 + 1 = L from by omega] at this
      exact this h2
    refine I.step t hiL ho hn hm (fun e' r' act' w' I' hpa => ?_) fun x c w' hx ⟨z, r', q1, q2, q3, q4, q5⟩ => hPan i x _ e r act w c w' z r' hiL hx I hn hm q1 q2 q3 q4 q5
    rw [hD'] at I'
    refine ih _ e' r' act' w' (by simpa using hs) ?_ (fun j hj => ?_) I'
    · exact filter_less hil (by rw [hl]; rfl) (fun j _ => by rw [hset]; cases listed.getD j true <;> cases h : (j == i) <;> simp [bne, h]) hf
    · rw [← hD'] at hj
      rcases hj with hj | rfl
      · exact hno j hj
      · exact ⟨hiL, hpa⟩
theorem Inv.start {r : Rn} {act : Act} {w : World} (H : HR p lim r (X 0).h.get w) (hf : Free (X 0).nx (X L).nx r) (hfr : FR Ds r nt (X 0).fr act) : ∃ e, Inv P lim nt ops L Ds X p r w (fun _ => False) e r act w := by
  obtain ⟨e, h1, h2, h3, h4⟩ := next_bar (P := P) (L := L) (ops := ops) (X := X) (i := 0) (Nat.zero_le _)
  have key : ∀ j b, hD L X (fun _ => False) e j = some b → (X 0).h.get j = some b := fun j b hj => by
    unfold hD at hj
    split at hj
    · cases hj
    · rename_i hno
      have hjl := t.some_lt h2 hj
      by_cases hji : j < (X 0).nx
      · rw [← t.keeps h1 h2 h3 j hji]; exact hj
      · obtain ⟨k, q1, q2, q3, q4⟩ := locate_id h1 h2 (by omega) hjl
        exact absurd ⟨k, by omega, fun h => h, q3, q4⟩ hno
  exact ⟨e, fun _ _ h => h.elim, h2, fun k hk hb => absurd hb (h3 k (Nat.zero_le _) hk), fun _ _ _ h => h, h4, hfr.size, hfr.defers, fun _ _ _ h => h.elim, fun d _ => hfr.tmp d,
    H.sub key (fun j b x q1 q2 q0 q3 => H.low j b x (key j b q1) q2 q0 q3) H.bd (Nat.le_refl _), fun k hk _ => hf.sub (t.nx (Nat.zero_le _) (by omega)) (t.nx (by omega) (Nat.le_refl _)), Ext.refl _ _ _, Kp.refl _ _⟩
end
theorem drG_ok {call : CallT} {nt lim : Nat} {kp : KP} {ops : List Oper} {fr : Fr} {h : T} {nx : Nat} {k : KS} {v : AV} (hcall : CallOK P call) (ht : Top lim h nx) (hk : drG P call nt lim kp ops fr h nx k = .ok v) :
    (∃ fr' h' nx', k fr' h' nx' = .ok v ∧ RunOK nt lim fr h nx fr' h' nx' (fun N act w => wpAny P .any ops.toArray (At .nor N) ops.length (Array.replicate ops.length false) act w)) ∨
    ∃ x b fr' h' nx', kp x b fr' h' nx' = .ok v ∧ RunP nt lim fr h nx x b fr' h' nx' (fun D N act w => wpAny P .any ops.toArray (AtP D N) ops.length (Array.replicate ops.length false) act w) := by
  unfold drG at hk
  cases hok : regionOk ops with
  | false => rw [hok] at hk; cases hk
  | true =>
    rw [hok] at hk
    have hk : drK P call nt lim nx kp ops 0 ops (masks ops) (barsL P ops) fr h nx [] [] k = .ok v := hk
    obtain ⟨X, L, hL, x0, x2, hend⟩ := drK_trace hcall ops 0 (masks ops) (barsL P ops) ⟨fr, h, nx, [], [], false, .tu []⟩ ht hk
    simp only [Nat.zero_add] at x2 hend
    have t : Tra P lim nt ops L X := ⟨hL, fun i o hi ho => x2 i o hi ho, by rw [x0]; exact ht, hok⟩
    have hL0 : (fun _ => False) = Lst ops (Array.replicate ops.length false) := by
      funext j
      refine propext ⟨fun h => h.elim, fun ⟨h1, h2⟩ => ?_⟩
      simp [h1] at h2
    have keeps := t.keeps_all (i := L) (Nat.le_refl _)
    rw [x0] at keeps
    rcases hend with ⟨e1, e2, e3⟩ | ⟨j, x, m, e1, e0, e2, e2', e3, e4, e5⟩
    · refine .inl ⟨(X L).fr, (X L).h, (X L).nx, e3, keeps, fun p r w act D H hf hfr N hN => ?_⟩
      have hf' : Free (X 0).nx (X L).nx r := by rw [x0]; exact hf
      obtain ⟨e, I⟩ := Inv.start (p := p) (Ds := D) t (r := r) (act := act) (w := w) (by rw [x0]; exact H) hf' (by rw [x0]; exact hfr)
      rw [hL0] at I
      refine any_ok t (p := p) (r0 := r) (Ds := D) (fun _ _ act' w' ha => ⟨rfl, hN act' w' (by rw [x0] at ha; exact ha)⟩) (fun k h1 h2 => by omega) (fun i x D e r act w c w' z r' hi hx => absurd hx (e2 i hi x)) _ _ e r act _ (by simp) (Nat.le_trans (List.length_filter_le _ _) (by simp)) (fun j hj => by rw [← hL0] at hj; exact hj.elim) I
    · obtain ⟨h3, hk3, g1, g2, g3⟩ := hideP_ok e5
      have hjl : j < ops.length := by omega
      obtain ⟨m', b', y1, y2, y3, y4⟩ := x2 j ops[j] (by omega) (List.getElem?_eq_getElem hjl)
      have hbar : Bar P L ops X j := by
        obtain ⟨a, hav, _, _, _, hs⟩ := y3
        rcases hs with ⟨_, k1, _⟩ | ⟨_, _, k1, _⟩ | ⟨k1, k2, k3, _⟩ | ⟨_, _, _, k1, _⟩
        · rw [hav, e2] at k1; cases k1
        · exact absurd (hav.trans e2) (k1 x)
        · exact ⟨by omega, _, List.getElem?_eq_getElem hjl, k2, k1, k3⟩
        · exact absurd (hav.trans e2) (k1 x)
      refine .inr ⟨x, _, (X (j + 1)).fr, h3, (X (j + 1)).nx, hk3, ?_, fun p r w act D H hf hfr N hN => ?_⟩
      · rw [e1] at keeps
        refine ⟨keeps.le, fun id hid => ?_, fun id h1 h2 => ?_, fun id b hb hr => keeps.ro id b (g1 id b hb) hr⟩
        · have := ht.1
          rw [g2 id (by omega)]
          exact keeps.old id hid
        · have := keeps.out id h1 h2
          cases hv : h3.get id with
          | none => rfl
          | some b => rw [g1 id b hv] at this; cases this
      · have hf' : Free (X 0).nx (X L).nx r := by rw [x0, e1]; exact hf
        obtain ⟨e, I⟩ := Inv.start (p := p) (Ds := D) t (r := r) (act := act) (w := w) (by rw [x0]; exact H) hf' (by rw [x0]; exact hfr)
        rw [hL0] at I
        refine any_ok t (p := p) (r0 := r) (Ds := D) (fun hno _ act' w' ha => (hno j (by omega) x e2).elim) (fun k h1 h2 => ⟨by omega, ?_, x, by rw [e1]; exact e2⟩) ?_ _ _ e r act _ (by simp) (Nat.le_trans (List.length_filter_le _ _) (by simp)) (fun j hj => by rw [← hL0] at hj; exact hj.elim) I
        · have := e4 k _ (by omega) (masks_spec (List.getElem?_eq_getElem h2))
          rw [wts_eq (List.getElem?_eq_getElem h2), show L - 1 = j from by omega]
          exact this
        · intro i y D' e' r1 act1 w1 c w' z r' hi hy I1 hn1 hm1 q1 q2 q3 q4 q5
          have hij : i = j := by
            rcases Nat.lt_trichotomy i j with hlt | heq | hgt
            · exact absurd hy (e0 i hlt y)
            · exact heq
            · omega
          subst hij
          have hxy : y = x := by rw [hy] at e2; cases e2; rfl
          subst hxy
          refine ⟨c, rfl, I1.defers, hN c act1 w' ⟨z, r', q1, fun id hid => ?_, q3, q5 h3.get fun id b hb => ⟨g1 id b hb, ?_⟩, I1.kp.trans q4, fun d hd => ?_⟩⟩
          · have n1 := t.nx (i := 0) (j := i) (Nat.zero_le _) (by omega)
            have n0 : (X 0).nx = nx := by rw [x0]
            rw [q2 id (by omega), I1.ext id (by rw [x0, e1]; exact hid)]
          · rintro ⟨k, k1, k2, k3, k4⟩
            have n1 := t.nx (i := 0) (j := k) (Nat.zero_le _) (by omega)
            have n0 : (X 0).nx = nx := by rw [x0]
            rcases t.pair hbar (t.heavy (i := k) (by omega) (by omega)) (by omega) with k5 | k5 | k5
            · exact k2 (hm1 k k5.1)
            · omega
            · cases hx : (wts ops i).testBit k with
              | true => exact k2 (hm1 k hx)
              | false =>
                have hmm : m = wts ops i := (wts_of e3).symm
                obtain ⟨q, hq, _⟩ := t.ld_new k5.2.1 k5.1 k3 k4
                have := g3 k id q (t.lds hq (by omega) (by omega)) (by rw [hmm]; exact hx) (by omega)
                rw [hb] at this
                cases this
          · have hnd : ∀ (k : Nat) (u : Oper), ops[k]? = some u → u.dst ≠ some d := fun k u hu hud => hd (List.mem_filterMap.2 ⟨u, List.mem_of_getElem? hu, hud⟩)
            have h1 := (I1.old d fun k u _ hu => hnd k u hu).mono (q2.le (I1.free i hi hn1))
            rw [t.stay (i := 0) (j := i + 1) (Nat.zero_le _) (by omega) fun k u _ _ hu => hnd k u hu]
            exact h1
theorem drK_ok (hm : P.follows .mixedOrders = true) : DrOK P := fun call nt lim kp ops fr h nx k v id hcall ht hk => by
  have fin : ∀ {fr' h' nx'}, RunOK nt lim fr h nx fr' h' nx' (fun N act w => wpAny P .any ops.toArray (At .nor N) ops.length (Array.replicate ops.length false) act w) → RunOK nt lim fr h nx fr' h' nx' (fun N act w => (Code.region id ops.toArray true).wp P (At .nor N) act w) := fun {fr' h' nx'} hr => by
    refine ⟨hr.1, fun p r w act D H hf hfr N hN => ?_⟩
    refine wp_region_any hm ?_
    have := hr.2 p r { w with drawn := w.drawn + 1 } act D H.drew hf hfr N fun act' w' ha => hN act' w' ?_
    · simpa using this
    · obtain ⟨r', a1, a2, a3, a4⟩ := ha
      exact ⟨r', a1, a2, a3, ⟨a4.os, a4.tape, a4.output, a4.size, a4.block⟩⟩
  have finP : ∀ {x b fr' h' nx'}, RunP nt lim fr h nx x b fr' h' nx' (fun D N act w => wpAny P .any ops.toArray (AtP D N) ops.length (Array.replicate ops.length false) act w) → RunP nt lim fr h nx x b fr' h' nx' (fun D N act w => (Code.region id ops.toArray true).wp P (AtP D N) act w) := fun {x b fr' h' nx'} hr => by
    refine ⟨hr.1, fun p r w act D H hf hfr N hN => ?_⟩
    refine wp_region_any hm ?_
    have := hr.2 p r { w with drawn := w.drawn + 1 } act D H.drew hf hfr N fun c act' w' ha => hN c act' w' ?_
    · simpa using this
    · obtain ⟨z, r', a1, a2, a3, a4, a5, a6⟩ := ha
      exact ⟨z, r', a1, a2, a3, a4, ⟨a5.os, a5.tape, a5.output, a5.size, a5.block⟩, a6⟩
  unfold drawK at hk
  cases hw : permWant P ops with
  | false =>
    rw [hw] at hk
    rcases drG_ok hcall ht (show drG P call nt lim kp ops fr h nx k = .ok v from hk) with ⟨fr', h', nx', k1, k2⟩ | ⟨x, bad, fr', h', nx', k1, k2⟩
    · exact .inl ⟨fr', h', nx', k1, fin k2⟩
    · exact   .inr ⟨x, bad, fr', h', nx', k1, finP k2⟩
  | true =>
    rw [hw] at hk
    have hk : permK P call nt lim kp ops (orderOf P ops) (placesOf ops.length (orderOf P ops)) fr h nx k = .ok v := hk
    revert hk
    generalize orderOf P ops = pi
    generalize placesOf ops.length pi = si
    intro hk
    unfold permK at hk
    cases hp : permOk ops pi si with
    | false => rw [hp] at hk; cases hk
    | true =>
      rw [hp] at hk
      have q := permOk_spec hp
      have go : ∀ {Q : Exit → Act → World → Prop} {act : Act} {w : World}, wpAny P .any (permL ops pi si).toArray Q (permL ops pi si).length (Array.replicate (permL ops pi si).length false) act w → wpAny P .any ops.toArray Q ops.length (Array.replicate ops.length false) act w := fun {Q act w} hh => by
        rw [(permL_at q).1] at hh
        exact perm_any q _ _ _ act w ⟨by simp, by simp, fun i hi => by simp [hi, (q.sp i hi).1]⟩ hh
      rcases drG_ok hcall ht (show drG P call nt lim kp (permL ops pi si) fr h nx k = .ok v from hk) with ⟨fr', h', nx', k1, k2⟩ | ⟨x, bad, fr', h', nx', k1, k2⟩
      · exact .inl ⟨fr', h', nx', k1, fin (k2.mono fun N act w hh => go hh)⟩
      · exact   .inr ⟨x, bad, fr', h', nx', k1, finP (k2.mono fun D N act w hh => go hh)⟩
/-- what a run by the kernel says of a closed call -/
theorem run_closed (hp : Plain P) (hm : P.follows .mixedOrders = true) {n : Nat} {f : FuncId} {fn : Func} {c : Code} {b : Bool} (hf : P.funcs[f]? = some fn) (hb : fn.body = some c) (h : runF P noX n 1000 f [] .e 1000 = .ok (.b b)) (w : World) :
    Calls P f #[] w fun e w' => e = .returned (.bool b) ∧ Below w.heap.size w w' :=
  calls_from hp noX_ok (drK_ok hm) hf hb h ⟨Nat.le_refl _, fun j _ => Tr.get_e j⟩ (HR.start w) (fun id h1 => if_neg (by omega)) rfl
/-- a call that comes to a truth, and leaves all as it was, may stand for its run -/
def truth (b : Bool) : HT := fun _ args h nx k => match args with
  | [] => k (.b b) h nx
  | _ => .err 70 0
theorem left_below {p : Nat → Prop} {lim : Nat} {r : Rn} {nx : Nat} {h : T} {a : AV} {w : World} {z : Value} {w' : World} (H : HR p lim r h.get w) (hz : VR r a z) (hb : Below w.heap.size w w') : Left p lim r nx nx h a w z w' :=
  ⟨r, Ext.refl _ _ _, hz, ⟨fun id bl hbl => (H.blk id bl hbl).mono (Le.refl r) hb, H.inj, H.low, fun k hk => Nat.lt_of_lt_of_le (H.bd k hk) hb.size, H.glob⟩, Kp.of_below hb H.bd⟩
theorem truth_ok {f : FuncId} {b : Bool} (h : ∀ w, CallSem P f [] w (fun z w' => z = .bool b ∧ Below w.heap.size w w') noP) : HandOK P f (truth b) := fun lim args hh nx k v hl hk => by
  unfold truth at hk
  split at hk
  · refine ⟨_, _, _, hk, Keeps.refl _ _ _, fun p r w xs H hf hx => ?_⟩
    cases hx
    have := h w
    have key : ∀ z w', z = .bool b ∧ Below w.heap.size w w' → Left p lim r nx nx hh (.b b) w z w' := fun z w' ⟨h1, h2⟩ =>
      ⟨r, Ext.refl _ _ _, h1, ⟨fun id bl hb => (H.blk id bl hb).mono (Le.refl r) h2, H.inj, H.low, fun k hk => Nat.lt_of_lt_of_le (H.bd k hk) h2.size, H.glob⟩, Kp.of_below h2 H.bd⟩
    unfold CallSem at this ⊢
    split at this
    · exact key _ _ this
    · refine Calls.mono this fun e w'' he => ?_
      cases e with
      | returned z => exact key _ _ he
      | _ => exact he.elim
    · exact this.elim
  · cases hk
end Clu
end Go.Proofs.Ythghohgjedjpbaa
