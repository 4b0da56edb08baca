/-
  Runs of closed calls by the kernel: bodies.
-/
import Derived.Test.YtmimdiehbfgfjaaCloW
namespace Go.Proofs.Ytmimdiehbfgfjaa
namespace Clo
open Go.RowKit
set_option linter.unusedVariables false
variable {P : Program}

theorem evB_ok {n : Nat} {rec : Job} (hp : Plain P) (hdr : DrOK P) (hrec : JobOK P n rec) : JobOK P (n + 1) (evB P rec) := fun nt lim c fr h nx k v hl hk => by
  cases c with
  | skip => exact ⟨.nor, fr, h, nx, hk, RunOK.refl fun N act w hN => WP.mk (fun b hb => by cases hb) (wp_skip ⟨rfl, hN⟩)⟩
  | label l => exact ⟨.nor, fr, h, nx, hk, RunOK.refl fun N act w hN => WP.mk (fun b hb => by cases hb) (wp_label ⟨rfl, hN⟩)⟩
  | exit id => exact ⟨.exi id, fr, h, nx, hk, RunOK.refl fun N act w hN => WP.mk (fun b hb => by cases hb) (wp_exit ⟨rfl, hN⟩)⟩
  | ret => exact ⟨.ret, fr, h, nx, hk, RunOK.refl fun N act w hN => WP.mk (fun b hb => by cases hb) (wp_ret ⟨rfl, hN⟩)⟩
  | region id ops d =>
    cases d with
    | false =>
      obtain ⟨fr', h', nx', hk, hr⟩ := seqK_ok (ops := ops.toList) (enterK_ok hp hrec) ops.toList fr h nx _ hl (show seqK P (enterK P rec) nt lim ops.toList ops.toList fr h nx (fun fr h nx => k .nor fr h nx) = .ok v from hk)
      refine ⟨.nor, fr', h', nx', hk, (hr (fun _ _ _ => False)).mono fun N act w hh => WP.mk (fun b hb => by cases hb) ?_⟩
      refine wp_mono (wp_region_list (by rw [Array.toArray_toList] at hh; exact hh)) fun e a w he => ?_
      cases e with
      | normal => exact ⟨rfl, he⟩
      | _ => exact he.elim
    | true =>
      have hk' : @Bool.rec (fun _ => Out) (.err 63 9)
        (drK P (enterK P rec) nt lim ops.toList 0 ops.toList (masks ops.toList) (barsL P ops.toList) fr h h nx 0 [] fun fr h nx => k .nor fr h nx) (regionOk ops.toList) = .ok v := hk
      cases ho : regionOk ops.toList with
      | false => rw [ho] at hk'; cases hk'
      | true =>
        rw [ho] at hk'
        obtain ⟨fr', h', nx', hk, hr⟩ := hdr _ _ _ _ _ _ _ _ _ id (enterK_ok hp hrec) hl ho hk'
        exact ⟨.nor, fr', h', nx', hk, hr.mono fun N act w hh => WP.mk (fun b hb => by cases hb) (by rw [Array.toArray_toList] at hh; exact hh)⟩
  | seq a b =>
    obtain ⟨e, fr1, h1, n1, hk1, hr⟩ := hrec nt lim a fr h nx _ _ hl (show rec nt lim a fr h nx (fun e fr h nx => Ex.rec (motive := fun _ => Out) (rec nt lim b fr h nx k) (fun i => k (.exi i) fr h nx) (k .ret fr h nx) e) = .ok v from hk)
    have hl1 : Top lim h1 n1 := hr.1.top hl
    cases e with
    | nor =>
      obtain ⟨e2, fr2, h2, n2, hk2, hr2⟩ := hrec nt lim b fr1 h1 n1 k _ hl1 hk1
      refine ⟨e2, fr2, h2, n2, hk2, hr.trans hr2 fun N act w hh => WP.mk (fun b hb => by cases hb) (wp_seq (wp_mono hh.wp fun e a w ⟨he, hq⟩ => ?_))⟩
      subst he
      exact WP.wp hq
    | exi i => exact ⟨.exi i, fr1, h1, n1, hk1, hr.mono fun N act w hh => WP.mk (fun b hb => by cases hb) (wp_seq (wp_mono hh.wp fun e a w ⟨he, hq⟩ => by subst he; exact ⟨rfl, hq⟩))⟩
    | ret => exact ⟨.ret, fr1, h1, n1, hk1, hr.mono fun N act w hh => WP.mk (fun b hb => by cases hb) (wp_seq (wp_mono hh.wp fun e a w ⟨he, hq⟩ => by subst he; exact ⟨rfl, hq⟩))⟩
  | cond c a b =>
    obtain ⟨x, hk1, hx⟩ := opdK_ok (show opdK fr c _ = .ok v from hk)
    split at hk1
    · rename_i x
      have hk2 : rec nt lim (if x then a else b) fr h nx k = .ok v := by cases x <;> exact hk1
      obtain ⟨e, fr1, h1, n1, hk3, hr⟩ := hrec nt lim _ fr h nx k _ hl hk2
      refine ⟨e, fr1, h1, n1, hk3, hr.1, fun p r w act H hf hfr N hN => WP.mk (fun b hb => by cases hb) (wp_cond (t := x) ?_ (hr.2 p r w act H hf hfr N hN).wp)⟩
      exact hfr.env H.glob [c] c (by simp) _ hx
    · cases hk1
  | block id c =>
    obtain ⟨e, fr1, h1, n1, hk1, hr⟩ := hrec nt lim c fr h nx _ _ hl (show rec nt lim c fr h nx (fun e fr h nx => Ex.rec (motive := fun _ => Out) (k .nor fr h nx) (fun i => Bool.rec (motive := fun _ => Out) (k (.exi i) fr h nx) (k .nor fr h nx) (Nat.beq i id)) (k .ret fr h nx) e) = .ok v from hk)
    cases e with
    | nor => exact ⟨.nor, fr1, h1, n1, hk1, hr.mono fun N act w hh => WP.mk (fun b hb => by cases hb) (wp_block (wp_mono hh.wp fun e a w ⟨he, hq⟩ => by subst he; exact ⟨rfl, hq⟩))⟩
    | ret => exact ⟨.ret, fr1, h1, n1, hk1, hr.mono fun N act w hh => WP.mk (fun b hb => by cases hb) (wp_block (wp_mono hh.wp fun e a w ⟨he, hq⟩ => by subst he; exact ⟨rfl, hq⟩))⟩
    | exi i =>
      have hk2 : @Bool.rec (fun _ => Out) (k (.exi i) fr1 h1 n1) (k .nor fr1 h1 n1) (Nat.beq i id) = .ok v := hk1
      cases hi : Nat.beq i id with
      | true =>
        rw [hi] at hk2
        have hi := beq_iff.1 hi
        exact ⟨.nor, fr1, h1, n1, hk2, hr.mono fun N act w hh => WP.mk (fun b hb => by cases hb) (wp_block (wp_mono hh.wp fun e a w ⟨he, hq⟩ => by subst he; show Exit.inBlock id _ (.exit i) a w; unfold Exit.inBlock; simp only; rw [if_pos hi]; exact ⟨rfl, hq⟩))⟩
      | false =>
        rw [hi] at hk2
        have hi := beq_ff.1 hi
        exact ⟨.exi i, fr1, h1, n1, hk2, hr.mono fun N act w hh => WP.mk (fun b hb => by cases hb) (wp_block (wp_mono hh.wp fun e a w ⟨he, hq⟩ => by subst he; show Exit.inBlock id _ (.exit i) a w; unfold Exit.inBlock; simp only; rw [if_neg hi]; exact ⟨rfl, hq⟩))⟩
  | loop b =>
    obtain ⟨e, fr1, h1, n1, hk1, hr⟩ := hrec nt lim b fr h nx _ _ hl (show rec nt lim b fr h nx (fun e fr h nx => Ex.rec (motive := fun _ => Out) (rec nt lim (.loop b) fr h nx k) (fun i => k (.exi i) fr h nx) (k .ret fr h nx) e) = .ok v from hk)
    have hl1 : Top lim h1 n1 := hr.1.top hl
    cases e with
    | nor =>
      obtain ⟨e2, fr2, h2, n2, hk2, hr2⟩ := hrec nt lim (.loop b) fr1 h1 n1 k _ hl1 hk1
      exact ⟨e2, fr2, h2, n2, hk2, hr.trans hr2 fun N act w hh => (wp_mono hh.wp fun e a w ⟨he, hq⟩ => by subst he; exact hq)⟩
    | exi i => exact ⟨.exi i, fr1, h1, n1, hk1, hr.mono fun N act w hh => (wp_mono hh.wp fun e a w ⟨he, hq⟩ => by subst he; exact ⟨rfl, hq⟩)⟩
    | ret => exact ⟨.ret, fr1, h1, n1, hk1, hr.mono fun N act w hh => (wp_mono hh.wp fun e a w ⟨he, hq⟩ => by subst he; exact ⟨rfl, hq⟩)⟩
  | _ => cases hk
theorem ev_ok (hp : Plain P) (hdr : DrOK P) : ∀ n, JobOK P n (ev P n)
  | 0 => fun nt lim c fr h nx k v hl hk => by cases hk
  | n + 1 => by rw [ev_succ]; exact evB_ok hp hdr (ev_ok hp hdr n)
/-- what a run by the kernel says -/
theorem run_says (hp : Plain P) (hdr : DrOK P) {n : Nat} {f : FuncId} {a : AV} (h : runF P n 1000 f [] .e 1000 = .ok a) (w : World) :
    CallSem P f [] w fun z w' => (∃ r, VR r a z) ∧ Below w.heap.size w w' := by
  obtain ⟨a', h', nx', hk, hkeep, hs⟩ := enterK_ok hp (ev_ok hp hdr n) 1000 f [] .e 1000 _ _ ⟨Nat.le_refl _, fun j _ => Tr.get_e j⟩ h
  cases hk
  have H : HR (· < w.heap.size) 1000 (fun g => if g < 1000 then some (g, 0, 0) else none) (Tr.get (.e : T)) w :=
    ⟨fun id b hb => (by cases (Tr.get_e id).symm.trans hb), fun id id' b b' x x' hb => (by cases (Tr.get_e id).symm.trans hb), fun id b x hb => (by cases (Tr.get_e id).symm.trans hb), fun k hk => hk, fun g hg => if_pos hg⟩
  have := hs _ _ w [] H (fun id h1 h2 => if_neg (by omega)) rfl
  unfold CallSem at this ⊢
  split at this
  · rename_i z w' e
    obtain ⟨r', x1, x2, x3, x4⟩ := this
    exact ⟨⟨r', x2⟩, x4.below⟩
  · rename_i g ys w' e
    refine Calls.mono this fun e w'' he => ?_
    cases e with
    | returned z =>
      obtain ⟨r', x1, x2, x3, x4⟩ := he
      exact ⟨⟨r', x2⟩, x4.below⟩
    | _ => exact he.elim
  · exact this.elim
theorem run_calls (hp : Plain P) (hdr : DrOK P) {n : Nat} {f : FuncId} {fn : Func} {c : Code} {b : Bool} (hf : P.funcs[f]? = some fn) (hb : fn.body = some c) (h : runF P n 1000 f [] .e 1000 = .ok (.b b)) (w : World) :
    Calls P f #[] w fun e w' => e = .returned (.bool b) ∧ Below w.heap.size w w' := by
  have := run_says hp hdr h w
  unfold CallSem at this
  rw [run_enter hp hf hb] at this
  refine Calls.mono this fun e w' he => ?_
  cases e with
  | returned z =>
    obtain ⟨⟨r, hr⟩, hb⟩ := he
    have hr : z = .bool b := hr
    exact ⟨by rw [hr], hb⟩
  | _ => exact he.elim
end Clo
end Go.Proofs.Ytmimdiehbfgfjaa
