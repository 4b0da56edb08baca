/-
  Runs of closed calls by the kernel: bodies.
-/
import Derived.Test.YthghohgjedjpbaaCluW
import Derived.Scope
namespace Go.Proofs.Ythghohgjedjpbaa
namespace Clu
open Go.RowKit
set_option linter.unusedVariables false
variable {P : Program}

/-- a scope, by jumps -/
def Sc (P : Program) (c : Code) (Q : Exit → Act → World → Prop) : Nat → Code → Act → World → Prop
  | 0, _, _, _ => False
  | n + 1, d, a, w => d.wp P (fun e a w => match e with
    | .goto l => (match findLabel c l with
      | some d => Sc P c Q n d a w
      | none => Q (.goto l) a w)
    | e => Q e a w) a w
theorem Sc.run {c : Code} {Q : Exit → Act → World → Prop} : ∀ {n : Nat} {d : Code} {a : Act} {w : World}, Sc P c Q n d a w → ∀ (b : Frame) (k : List Item) (cs : List Frame),
    ∃ e a' w', Q e a' w' ∧ Arrives P (lone (b.at a (.code d :: .inScope c :: k)) cs w) b k cs e a' w'
  | n + 1, d, a, w, h, b, k, cs => by
    obtain ⟨e, a₁, w₁, hq, harr⟩ := h b (.inScope c :: k) cs
    cases e with
    | normal => exact ⟨.normal, a₁, w₁, hq, Steps.trans harr (.one step_inScope)⟩
    | exit id => exact ⟨.exit id, a₁, w₁, hq, fun k' hk => harr k' (by simp [exitTo, hk])⟩
    | goto l =>
      simp only at hq
      split at hq
      · rename_i d' hd
        obtain ⟨e2, a2, w2, hq2, harr2⟩ := Sc.run hq b k cs
        exact ⟨e2, a2, w2, hq2, .of_steps (harr _ (by simp [gotoIn, hd])) harr2⟩
      · rename_i hd
        exact ⟨.goto l, a₁, w₁, hq, fun k' hk => harr k' (by simp [gotoIn, hd, hk])⟩
    | ret => exact ⟨_, a₁, w₁, hq, harr⟩
    | panic ch => exact ⟨_, a₁, w₁, hq, harr⟩
    | outgrown => exact ⟨_, a₁, w₁, hq, harr⟩
theorem Sc.scope {c : Code} {Q : Exit → Act → World → Prop} {a : Act} {w : World} {n : Nat} (h : Sc P c Q n c a w) : (Code.scope c).wp P Q a w := by
  intro b k cs
  obtain ⟨e, a', w', hq, harr⟩ := h.run b k cs
  exact ⟨e, a', w', hq, .of_steps (.one step_scope) harr⟩
def RunS (P : Program) (m : Nat) (c d : Code) (nt lim : Nat) (fr : Fr) (h : T) (nx : Nat) (e : Ex) (fr' : Fr) (h' : T) (nx' : Nat) : Prop := match e with
  | .pan x b => RunP nt lim fr h nx x b fr' h' nx' (fun D N act w => Sc P c (AtP D N) m d act w)
  | e => RunOK nt lim fr h nx fr' h' nx' (fun N act w => Sc P c (At e N) m d act w)
theorem scopeK_ok {n : Nat} {rec : Job} (hrec : JobOK P n rec) (c : Code) {nt lim : Nat} {k : KE} {v : AV} : ∀ (f : Nat) (d : Code) {fr : Fr} {h : T} {nx : Nat}, Top lim h nx → scopeK c rec nt lim f d fr h nx k = .ok v →
    ∃ e fr' h' nx' m, k e fr' h' nx' = .ok v ∧ RunS P m c d nt lim fr h nx e fr' h' nx'
  | 0, d, fr, h, nx, hl, hk => by cases hk
  | f + 1, d, fr, h, nx, hl, hk => by
    rw [scopeK_succ] at hk
    obtain ⟨e, fr1, h1, n1, hk1, hr⟩ := hrec nt lim d fr h nx _ _ hl hk
    have hl1 : Top lim h1 n1 := hr.keeps.top hl
    have one : ∀ e, (∀ x b, e ≠ Ex.pan x b) → (∀ l, e = Ex.got l → findLabel c l = none) → RunOK nt lim fr h nx fr1 h1 n1 (fun N act w => WP P n d (At e N) act w) → RunOK nt lim fr h nx fr1 h1 n1 (fun N act w => Sc P c (At e N) 1 d act w) := fun e hpa he hr => hr.mono fun N act w hh => wp_mono hh.wp fun e' a w ⟨h1, hq⟩ => by
      subst h1
      cases e with
      | nor => exact ⟨rfl, hq⟩
      | exi i => exact ⟨rfl, hq⟩
      | ret => exact ⟨rfl, hq⟩
      | got l =>
        show (match findLabel c l with | some d => _ | none => _)
        rw [he l rfl]
        exact ⟨rfl, hq⟩
      | pan x b => exact absurd rfl (hpa x b)
    cases e with
    | nor => exact ⟨.nor, fr1, h1, n1, 1, hk1, one _ (fun x b h => by cases h) (fun l h => by cases h) hr⟩
    | exi i => exact ⟨.exi i, fr1, h1, n1, 1, hk1, one _ (fun x b h => by cases h) (fun l h => by cases h) hr⟩
    | ret => exact ⟨.ret, fr1, h1, n1, 1, hk1, one _ (fun x b h => by cases h) (fun l h => by cases h) hr⟩
    | pan x bad =>
      refine ⟨.pan x bad, fr1, h1, n1, 1, hk1, RunP.mono hr fun D N act w hh => wp_mono (WP.wp hh) fun e' a w ⟨ch, h1, hq⟩ => ?_⟩
      subst h1
      exact ⟨ch, rfl, hq⟩
    | got l =>
      have hr : RunOK nt lim fr h nx fr1 h1 n1 (fun N act w => WP P n d (At (.got l) N) act w) := hr
      have hk2 : @Option.rec _ (fun _ => Out) (k (.got l) fr1 h1 n1) (fun d => scopeK c rec nt lim f d fr1 h1 n1 k) (findLabel c l) = .ok v := hk1
      cases hd : findLabel c l with
      | none => rw [hd] at hk2; exact ⟨.got l, fr1, h1, n1, 1, hk2, one _ (fun x b h => by cases h) (fun l' h => by cases h; exact hd) hr⟩
      | some d' =>
        rw [hd] at hk2
        obtain ⟨e2, fr2, h2, n2, m, hk3, hr2⟩ := scopeK_ok hrec c f d' hl1 hk2
        have go : ∀ {N : Act → World → Prop} {Q : Exit → Act → World → Prop} {act : Act} {w : World}, WP P n d (At (.got l) N) act w → (∀ a w, N a w → Sc P c Q m d' a w) → Sc P c Q (m + 1) d act w := fun {N Q act w} hh hN => by
          refine wp_mono hh.wp fun e' a w ⟨h1, hq⟩ => ?_
          subst h1
          show (match findLabel c l with | some d => _ | none => _)
          rw [hd]
          exact hN a w hq
        refine ⟨e2, fr2, h2, n2, m + 1, hk3, ?_⟩
        cases e2 with
        | pan x bad => exact hr.transP (show RunP _ _ _ _ _ _ _ _ _ _ _ from hr2) fun D N act w hh => go hh fun _ _ h => h
        | nor => exact hr.trans (show RunOK _ _ _ _ _ _ _ _ _ from hr2) fun N act w hh => go hh fun _ _ h => h
        | exi i => exact hr.trans (show RunOK _ _ _ _ _ _ _ _ _ from hr2) fun N act w hh => go hh fun _ _ h => h
        | ret => exact hr.trans (show RunOK _ _ _ _ _ _ _ _ _ from hr2) fun N act w hh => go hh fun _ _ h => h
        | got i => exact hr.trans (show RunOK _ _ _ _ _ _ _ _ _ from hr2) fun N act w hh => go hh fun _ _ h => h
theorem evB_ok {n : Nat} {X : XT} {rec : Job} (hp : Plain P) (hX : XOK P X) (hdr : DrOK P) (hrec : JobOK P n rec) : JobOK P (n + 1) (evB P X rec) := fun nt lim c fr h nx k v hl hk => by
  cases c with
  | skip => exact ⟨.nor, fr, h, nx, hk, RunOK.refl fun N act w hN => WP.mk (fun b hb => by cases hb) (wp_skip ⟨rfl, hN⟩)⟩
  | label l => exact ⟨.nor, fr, h, nx, hk, RunOK.refl fun N act w hN => WP.mk (fun b hb => by cases hb) (wp_label ⟨rfl, hN⟩)⟩
  | exit id => exact ⟨.exi id, fr, h, nx, hk, RunOK.refl fun N act w hN => WP.mk (fun b hb => by cases hb) (wp_exit ⟨rfl, hN⟩)⟩
  | ret => exact ⟨.ret, fr, h, nx, hk, RunOK.refl fun N act w hN => WP.mk (fun b hb => by cases hb) (wp_ret ⟨rfl, hN⟩)⟩
  | region id ops d =>
    cases d with
    | false =>
      rcases seqK_ok (ops := ops.toList) (enterK_ok hp hX hrec) ops.toList fr h nx _ hl (show seqK P (enterK P X rec) nt lim ops.toList (fun x b fr h nx => k (.pan x b) fr h nx) ops.toList fr h nx (fun fr h nx => k .nor fr h nx) = .ok v from hk) with ⟨fr', h', nx', hk, hr⟩ | ⟨x, bad, fr', h', nx', hk, hr⟩
      · refine ⟨.nor, fr', h', nx', hk, (hr (fun _ _ _ => False)).mono fun N act w hh => WP.mk (fun b hb => by cases hb) ?_⟩
        refine wp_mono (wp_region_list (by rw [Array.toArray_toList] at hh; exact hh)) fun e a w he => ?_
        cases e with
        | normal => exact ⟨rfl, he⟩
        | _ => exact he.elim
      · refine ⟨.pan x bad, fr', h', nx', hk, (hr (fun _ _ => False)).mono fun D N act w hh => WP.mk (fun b hb => by cases hb) ?_⟩
        refine wp_mono (wp_region_list (by rw [Array.toArray_toList] at hh; exact hh)) fun e a w he => ?_
        cases e with
        | normal => exact he.elim
        | _ => exact he
    | true =>
      rcases hdr _ _ _ _ _ _ _ _ _ _ id (enterK_ok hp hX hrec) hl (show drawK P (enterK P X rec) nt lim (fun x b fr h nx => k (.pan x b) fr h nx) ops.toList fr h nx (fun fr h nx => k .nor fr h nx) = .ok v from hk) with ⟨fr', h', nx', hk, hr⟩ | ⟨x, bad, fr', h', nx', hk, hr⟩
      · exact ⟨.nor, fr', h', nx', hk, hr.mono fun N act w hh => WP.mk (fun b hb => by cases hb) (by rw [Array.toArray_toList] at hh; exact hh)⟩
      · exact ⟨.pan x bad, fr', h', nx', hk, hr.mono fun D N act w hh => WP.mk (fun b hb => by cases hb) (by rw [Array.toArray_toList] at hh; exact hh)⟩
  | seq a b =>
    obtain ⟨e, fr1, h1, n1, hk1, hr⟩ := hrec nt lim a fr h nx _ _ hl (show rec nt lim a fr h nx (fun e fr h nx => Ex.rec (motive := fun _ => Out) (rec nt lim b fr h nx k) (fun i => k (.exi i) fr h nx) (k .ret fr h nx) (fun l => k (.got l) fr h nx) (fun x b => k (.pan x b) fr h nx) e) = .ok v from hk)
    have hl1 : Top lim h1 n1 := hr.keeps.top hl
    cases e with
    | nor =>
      have hr : RunOK nt lim fr h nx fr1 h1 n1 (fun N act w => WP P n a (At .nor N) act w) := hr
      obtain ⟨e2, fr2, h2, n2, hk2, hr2⟩ := hrec nt lim b fr1 h1 n1 k _ hl1 hk1
      have go : ∀ {N : Act → World → Prop} {Q : Exit → Act → World → Prop} {act : Act} {w : World}, WP P n a (At .nor N) act w → (∀ a w, N a w → WP P n b Q a w) → WP P (n + 1) (.seq a b) Q act w := fun {N Q act w} hh hN =>
        WP.mk (fun b hb => by cases hb) (wp_seq (wp_mono hh.wp fun e a w ⟨he, hq⟩ => by subst he; exact (hN a w hq).wp))
      refine ⟨e2, fr2, h2, n2, hk2, ?_⟩
      cases e2 with
      | pan x bad => exact hr.transP (show RunP _ _ _ _ _ _ _ _ _ _ _ from hr2) fun D N act w hh => go hh fun _ _ h => h
      | nor => exact hr.trans (show RunOK _ _ _ _ _ _ _ _ _ from hr2) fun N act w hh => go hh fun _ _ h => h
      | exi i => exact hr.trans (show RunOK _ _ _ _ _ _ _ _ _ from hr2) fun N act w hh => go hh fun _ _ h => h
      | ret => exact hr.trans (show RunOK _ _ _ _ _ _ _ _ _ from hr2) fun N act w hh => go hh fun _ _ h => h
      | got i => exact hr.trans (show RunOK _ _ _ _ _ _ _ _ _ from hr2) fun N act w hh => go hh fun _ _ h => h
    | exi i => exact ⟨.exi i, fr1, h1, n1, hk1, RunOK.mono hr fun N act w hh => WP.mk (fun b hb => by cases hb) (wp_seq (wp_mono (WP.wp hh) fun e a w ⟨he, hq⟩ => by subst he; exact ⟨rfl, hq⟩))⟩
    | ret => exact ⟨.ret, fr1, h1, n1, hk1, RunOK.mono hr fun N act w hh => WP.mk (fun b hb => by cases hb) (wp_seq (wp_mono (WP.wp hh) fun e a w ⟨he, hq⟩ => by subst he; exact ⟨rfl, hq⟩))⟩
    | got i => exact ⟨.got i, fr1, h1, n1, hk1, RunOK.mono hr fun N act w hh => WP.mk (fun b hb => by cases hb) (wp_seq (wp_mono (WP.wp hh) fun e a w ⟨he, hq⟩ => by subst he; exact ⟨rfl, hq⟩))⟩
    | pan x bad => exact ⟨.pan x bad, fr1, h1, n1, hk1, RunP.mono hr fun D N act w hh => WP.mk (fun b hb => by cases hb) (wp_seq (wp_mono (WP.wp hh) fun e a w ⟨c, he, hq⟩ => by subst he; exact ⟨c, rfl, hq⟩))⟩
  | cond c a b =>
    obtain ⟨x, hk1, hx⟩ := opdK_ok (show opdK fr c _ = .ok v from hk)
    split at hk1
    · rename_i x
      have hk2 : rec nt lim (if x then a else b) fr h nx k = .ok v := by cases x <;> exact hk1
      obtain ⟨e, fr1, h1, n1, hk3, hr⟩ := hrec nt lim _ fr h nx k _ hl hk2
      refine ⟨e, fr1, h1, n1, hk3, ?_⟩
      have ev : ∀ {D : List Deferred} {p : Nat → Prop} {r : Rn} {w : World} {act : Act}, HR p lim r h.get w → FR D r nt fr act → act.eval c = .bool x := fun {D p r w act} H hfr => hfr.env H.glob [c] c (by simp) _ hx
      cases e with
      | pan y bad => exact ⟨RunE.keeps hr, fun p r w act D H hf hfr N hN => WP.mk (fun b hb => by cases hb) (wp_cond (t := x) (ev H hfr) (WP.wp ((show RunP _ _ _ _ _ _ _ _ _ _ _ from hr).2 p r w act D H hf hfr N hN)))⟩
      | nor => exact ⟨RunE.keeps hr, fun p r w act D H hf hfr N hN => WP.mk (fun b hb => by cases hb) (wp_cond (t := x) (ev H hfr) (WP.wp ((show RunOK _ _ _ _ _ _ _ _ _ from hr).2 p r w act D H hf hfr N hN)))⟩
      | exi i => exact ⟨RunE.keeps hr, fun p r w act D H hf hfr N hN => WP.mk (fun b hb => by cases hb) (wp_cond (t := x) (ev H hfr) (WP.wp ((show RunOK _ _ _ _ _ _ _ _ _ from hr).2 p r w act D H hf hfr N hN)))⟩
      | ret => exact ⟨RunE.keeps hr, fun p r w act D H hf hfr N hN => WP.mk (fun b hb => by cases hb) (wp_cond (t := x) (ev H hfr) (WP.wp ((show RunOK _ _ _ _ _ _ _ _ _ from hr).2 p r w act D H hf hfr N hN)))⟩
      | got i => exact ⟨RunE.keeps hr, fun p r w act D H hf hfr N hN => WP.mk (fun b hb => by cases hb) (wp_cond (t := x) (ev H hfr) (WP.wp ((show RunOK _ _ _ _ _ _ _ _ _ from hr).2 p r w act D H hf hfr N hN)))⟩
    · cases hk1
  | block id c =>
    obtain ⟨e, fr1, h1, n1, hk1, hr⟩ := hrec nt lim c fr h nx _ _ hl (show rec nt lim c fr h nx (fun e fr h nx => Ex.rec (motive := fun _ => Out) (k .nor fr h nx) (fun i => Bool.rec (motive := fun _ => Out) (k (.exi i) fr h nx) (k .nor fr h nx) (Nat.beq i id)) (k .ret fr h nx) (fun l => k (.got l) fr h nx) (fun x b => k (.pan x b) fr h nx) e) = .ok v from hk)
    cases e with
    | nor => exact ⟨.nor, fr1, h1, n1, hk1, RunOK.mono hr fun N act w hh => WP.mk (fun b hb => by cases hb) (wp_block (wp_mono (WP.wp hh) fun e a w ⟨he, hq⟩ => by subst he; exact ⟨rfl, hq⟩))⟩
    | ret => exact ⟨.ret, fr1, h1, n1, hk1, RunOK.mono hr fun N act w hh => WP.mk (fun b hb => by cases hb) (wp_block (wp_mono (WP.wp hh) fun e a w ⟨he, hq⟩ => by subst he; exact ⟨rfl, hq⟩))⟩
    | got i => exact ⟨.got i, fr1, h1, n1, hk1, RunOK.mono hr fun N act w hh => WP.mk (fun b hb => by cases hb) (wp_block (wp_mono (WP.wp hh) fun e a w ⟨he, hq⟩ => by subst he; exact ⟨rfl, hq⟩))⟩
    | pan x bad => exact ⟨.pan x bad, fr1, h1, n1, hk1, RunP.mono hr fun D N act w hh => WP.mk (fun b hb => by cases hb) (wp_block (wp_mono (WP.wp hh) fun e a w ⟨c, he, hq⟩ => by subst he; exact ⟨c, rfl, hq⟩))⟩
    | exi i =>
      have hk2 : @Bool.rec (fun _ => Out) (k (.exi i) fr1 h1 n1) (k .nor fr1 h1 n1) (Nat.beq i id) = .ok v := hk1
      cases hi : Nat.beq i id with
      | true =>
        rw [hi] at hk2
        have hi := beq_iff.1 hi
        exact ⟨.nor, fr1, h1, n1, hk2, RunOK.mono hr fun N act w hh => WP.mk (fun b hb => by cases hb) (wp_block (wp_mono (WP.wp hh) fun e a w ⟨he, hq⟩ => by subst he; show Exit.inBlock id _ (.exit i) a w; unfold Exit.inBlock; simp only; rw [if_pos hi]; exact ⟨rfl, hq⟩))⟩
      | false =>
        rw [hi] at hk2
        have hi := beq_ff.1 hi
        exact ⟨.exi i, fr1, h1, n1, hk2, RunOK.mono hr fun N act w hh => WP.mk (fun b hb => by cases hb) (wp_block (wp_mono (WP.wp hh) fun e a w ⟨he, hq⟩ => by subst he; show Exit.inBlock id _ (.exit i) a w; unfold Exit.inBlock; simp only; rw [if_neg hi]; exact ⟨rfl, hq⟩))⟩
  | loop b =>
    obtain ⟨e, fr1, h1, n1, hk1, hr⟩ := hrec nt lim b fr h nx _ _ hl (show rec nt lim b fr h nx (fun e fr h nx => Ex.rec (motive := fun _ => Out) (rec nt lim (.loop b) fr h nx k) (fun i => k (.exi i) fr h nx) (k .ret fr h nx) (fun l => k (.got l) fr h nx) (fun x b => k (.pan x b) fr h nx) e) = .ok v from hk)
    have hl1 : Top lim h1 n1 := hr.keeps.top hl
    cases e with
    | nor =>
      have hr : RunOK nt lim fr h nx fr1 h1 n1 (fun N act w => WP P n b (At .nor N) act w) := hr
      obtain ⟨e2, fr2, h2, n2, hk2, hr2⟩ := hrec nt lim (.loop b) fr1 h1 n1 k _ hl1 hk1
      have go : ∀ {N : Act → World → Prop} {Q : Exit → Act → World → Prop} {act : Act} {w : World}, WP P n b (At .nor N) act w → (∀ a w, N a w → WP P n (.loop b) Q a w) → WP P (n + 1) (.loop b) Q act w := fun {N Q act w} hh hN => wp_mono hh.wp fun e a w ⟨he, hq⟩ => by subst he; exact hN a w hq
      refine ⟨e2, fr2, h2, n2, hk2, ?_⟩
      cases e2 with
      | pan x bad => exact hr.transP (show RunP _ _ _ _ _ _ _ _ _ _ _ from hr2) fun D N act w hh => go hh fun _ _ h => h
      | nor => exact hr.trans (show RunOK _ _ _ _ _ _ _ _ _ from hr2) fun N act w hh => go hh fun _ _ h => h
      | exi i => exact hr.trans (show RunOK _ _ _ _ _ _ _ _ _ from hr2) fun N act w hh => go hh fun _ _ h => h
      | ret => exact hr.trans (show RunOK _ _ _ _ _ _ _ _ _ from hr2) fun N act w hh => go hh fun _ _ h => h
      | got i => exact hr.trans (show RunOK _ _ _ _ _ _ _ _ _ from hr2) fun N act w hh => go hh fun _ _ h => h
    | exi i => exact ⟨.exi i, fr1, h1, n1, hk1, RunOK.mono hr fun N act w hh => (wp_mono (WP.wp hh) fun e a w ⟨he, hq⟩ => by subst he; exact ⟨rfl, hq⟩)⟩
    | ret => exact ⟨.ret, fr1, h1, n1, hk1, RunOK.mono hr fun N act w hh => (wp_mono (WP.wp hh) fun e a w ⟨he, hq⟩ => by subst he; exact ⟨rfl, hq⟩)⟩
    | got i => exact ⟨.got i, fr1, h1, n1, hk1, RunOK.mono hr fun N act w hh => (wp_mono (WP.wp hh) fun e a w ⟨he, hq⟩ => by subst he; exact ⟨rfl, hq⟩)⟩
    | pan x bad => exact ⟨.pan x bad, fr1, h1, n1, hk1, RunP.mono hr fun D N act w hh => (wp_mono (WP.wp hh) fun e a w ⟨c, he, hq⟩ => by subst he; exact ⟨c, rfl, hq⟩)⟩
  | goto l => exact ⟨.got l, fr, h, nx, hk, RunOK.refl fun N act w hN => WP.mk (fun b hb => by cases hb) (wp_goto ⟨rfl, hN⟩)⟩
  | scope c =>
    obtain ⟨e, fr1, h1, n1, m, hk1, hr⟩ := scopeK_ok hrec c 1000000 c hl (show scopeK c rec nt lim 1000000 c fr h nx k = .ok v from hk)
    refine ⟨e, fr1, h1, n1, hk1, ?_⟩
    cases e with
    | pan x bad => exact RunP.mono hr fun D N act w hh => WP.mk (fun b hb => by cases hb) (Sc.scope hh)
    | nor => exact RunOK.mono hr fun N act w hh => WP.mk (fun b hb => by cases hb) (Sc.scope hh)
    | exi i => exact RunOK.mono hr fun N act w hh => WP.mk (fun b hb => by cases hb) (Sc.scope hh)
    | ret => exact RunOK.mono hr fun N act w hh => WP.mk (fun b hb => by cases hb) (Sc.scope hh)
    | got i => exact RunOK.mono hr fun N act w hh => WP.mk (fun b hb => by cases hb) (Sc.scope hh)
  | _ => cases hk
theorem ev_ok {X : XT} (hp : Plain P) (hX : XOK P X) (hdr : DrOK P) : ∀ n, JobOK P n (ev P X n)
  | 0 => fun nt lim c fr h nx k v hl hk => by cases hk
  | n + 1 => by rw [ev_succ]; exact evB_ok hp hX hdr (ev_ok hp hX hdr n)
/-- what a run says, from any beginning -/
theorem run_from {X : XT} (hp : Plain P) (hX : XOK P X) (hdr : DrOK P) {n lim : Nat} {f : FuncId} {args : List AV} {h : T} {nx : Nat} {a : AV} (hk : runF P X n lim f args h nx = .ok a) (ha : ∀ x, a ≠ .pa x) (hl : Top lim h nx)
    {p : Nat → Prop} {r : Rn} {w : World} {xs : List Value} (H : HR p lim r h.get w) (hf : ∀ id, nx ≤ id → r id = none) (hx : VRs r args xs) :
    CallSem P f xs w (fun z w' => (∃ r', VR r' a z) ∧ Kp p w w') noP := by
  obtain ⟨a', h', nx', hk, hkeep, hs⟩ := enterK_ok hp hX (ev_ok hp hX hdr n) lim f args h nx _ _ hl hk
  cases hk
  exact (hs p r w xs H (fun id h1 h2 => hf id h1) hx).mono (fun z w' ⟨r', x1, x2, x3, x4⟩ => ⟨⟨r', x2⟩, x4⟩) fun c w' hL => (no_pa ha hL).elim
/-- the names of the beginning: variables alone -/
def r0 : Rn := fun g => if g < 1000 then some (g, 0, 0) else none
theorem HR.start (w : World) : HR (· < w.heap.size) 1000 r0 (Tr.get (.e : T)) w :=
  ⟨fun id b hb => (by cases (Tr.get_e id).symm.trans hb), fun id id' b b' x x' _ hb => (by cases (Tr.get_e id).symm.trans hb), fun id b x hb => (by cases (Tr.get_e id).symm.trans hb), fun k hk => hk, fun g hg => if_pos hg⟩
/-- what is true of a call whose run comes to a truth -/
theorem calls_from {X : XT} (hp : Plain P) (hX : XOK P X) (hdr : DrOK P) {n lim : Nat} {f : FuncId} {fn : Func} {c : Code} {args : List AV} {h : T} {nx : Nat} {b : Bool} (hf : P.funcs[f]? = some fn) (hb : fn.body = some c)
    (hk : runF P X n lim f args h nx = .ok (.b b)) (hl : Top lim h nx) {r : Rn} {w : World} {xs : List Value} (H : HR (· < w.heap.size) lim r h.get w) (hfree : ∀ id, nx ≤ id → r id = none) (hx : VRs r args xs) :
    Calls P f xs.toArray w fun e w' => e = .returned (.bool b) ∧ Below w.heap.size w w' := by
  have := run_from hp hX hdr hk (fun x h => by cases h) hl H hfree hx
  unfold CallSem at this
  rw [run_enter hp hf hb] at this
  refine Calls.mono this fun e w' he => ?_
  cases e with
  | returned z =>
    obtain ⟨⟨r, hr⟩, hb⟩ := he
    have hr : z = .bool b := hr
    exact ⟨by rw [hr], hb.below⟩
  | panicked c => exact he.elim
  | outgrown => exact he.elim
end Clu
end Go.Proofs.Ythghohgjedjpbaa
