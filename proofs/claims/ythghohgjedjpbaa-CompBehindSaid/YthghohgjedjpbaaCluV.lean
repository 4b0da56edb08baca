/-
  Runs of closed calls by the kernel: frames, regions in the order of the text.
-/
import Derived.Test.YthghohgjedjpbaaCluS
namespace Go.Proofs.Ythghohgjedjpbaa
namespace Clu
open Go.RowKit
set_option linter.unusedVariables false
variable {P : Program}

/-- a frame, and what stands for it -/
structure FR (D : List Deferred) (r : Rn) (nt : Nat) (fr : Fr) (act : Act) : Prop where
  size : act.tmps.size = nt
  defers : act.defers = D
  tmp : ∀ t, VR r ((fr.get t).getD (.tu [])) (act.tmps.getD t undef)
theorem FR.mono {D : List Deferred} {r r' : Rn} {nt : Nat} {fr : Fr} {act : Act} (h : FR D r nt fr act) (hr : Le r r') : FR D r' nt fr act := ⟨h.size, h.defers, fun t => (h.tmp t).mono hr⟩
theorem FR.env {D : List Deferred} {r : Rn} {nt : Nat} {fr : Fr} {act : Act} (h : FR D r nt fr act) (hg : ∀ g, g < 1000 → r g = some (g, 0, 0)) (l : List Operand) : Env r fr act.eval l := fun x _ a ha => by
  cases x with
  | tmp t => have ha : a = (fr.get t).getD (.tu []) := ha; rw [ha]; exact h.tmp t
  | const c => exact ha r
  | global g =>
    obtain ⟨h1, rfl⟩ := ha
    exact ⟨g, 0, 0, hg g h1, rfl⟩
  | func f => have ha : a = .fn (.func f) [] [] := ha; rw [ha]; exact ⟨[], [], rfl, rfl, rfl⟩
theorem FR.put {D : List Deferred} {r : Rn} {nt : Nat} {fr fr' : Fr} {act : Act} (h : FR D r nt fr act) {d : Tmp} {a : AV} {x : Value} (hx : VR r a x) (hd : d < nt) (e : ∀ j, fr'.get j = if j = d then some a else fr.get j) : FR D r nt fr' (act.put (some d) x) := by
  refine ⟨by simpa [Act.put] using h.size, h.defers, fun t => ?_⟩
  rw [e]
  by_cases ht : t = d
  · subst ht
    have : t < act.tmps.size := by rw [h.size]; exact hd
    simpa [Act.put, this] using hx
  · have := h.tmp t
    simpa [Act.put, ht, Array.getElem?_setIfInBounds_ne (Ne.symm ht)] using this
/-- what is put in a slot -/
theorem toldB0_ok {v : AV} {fr : Fr} {d c : Nat} {x : Bool} {n : Out} {k : AV → Out} (hn : n = .ok v → k (.b x) = .ok v) (hk : toldB0 fr d c x n k = .ok v) : k (.b x) = .ok v := by
  unfold toldB0 at hk
  cases h1 : fr.get (Nat.add (Nat.add 1000000 c) (Nat.mul 2 d)) with
  | some u =>
    rw [h1] at hk
    cases x with
    | false => cases hk
    | true => exact hk
  | none =>
    rw [h1] at hk
    cases h2 : fr.get (Nat.add (Nat.add 1000001 c) (Nat.mul 2 d)) with
    | some u =>
      rw [h2] at hk
      cases x with
      | false => exact hk
      | true => cases hk
    | none => rw [h2] at hk; exact hn hk
theorem toldB_ok {v : AV} {fr : Fr} {d c : Nat} {x : Bool} {n : Out} {k : AV → Out} (hn : n = .ok v → k (.b x) = .ok v) (hk : toldB fr d c x n k = .ok v) : k (.b x) = .ok v := by
  unfold toldB at hk
  cases h1 : fr.get (Nat.add 3000000 (Nat.mul 2 d)) with
  | some u =>
    rw [h1] at hk
    cases x <;> exact hk
  | none => rw [h1] at hk; exact toldB0_ok hn hk
theorem toldK_ok {v : AV} {fr : Fr} {d : Nat} {a : AV} {k : AV → Out} (hk : toldK fr d a k = .ok v) : k a = .ok v := by
  unfold toldK at hk
  split at hk
  · rename_i kd n
    unfold toldI at hk
    cases hg : fr.get (Nat.add 9000000 d) with
    | none => rw [hg] at hk; exact hk
    | some u =>
      rw [hg] at hk
      have hk' : @Bool.rec (fun _ => Out) (.err 42 3) (k (.i kd (.ofNat (numT fr d)))) (iEq n (.ofNat (numT fr d))) = .ok v := hk
      cases he : iEq n (.ofNat (numT fr d)) with
      | false => rw [he] at hk'; cases hk'
      | true =>
        rw [he] at hk'
        have e : n = .ofNat (numT fr d) := by rw [iEq_eq] at he; simpa using he
        rw [e]
        exact hk'
  · refine toldB_ok (fun h => ?_) hk
    split at h
    · exact h
    · exact toldB_ok (fun h => h) h
  · exact hk
theorem putD_ok {v : AV} {nt : Nat} {fr : Fr} {dst : Option Tmp} {a : AV} {k : Fr → Out} (hk : putD nt fr dst a k = .ok v) :
    ∃ fr', k fr' = .ok v ∧ (∀ j, fr'.get j = if dst = some j then some a else fr.get j) ∧ (∀ d, dst = some d → d < nt) ∧ ∀ D r act x, FR D r nt fr act → VR r a x → FR D r nt fr' (act.put dst x) := by
  cases dst with
  | none => exact ⟨fr, hk, fun j => by simp, fun d h => (by cases h), fun D r act x h _ => h⟩
  | some d =>
    have hk' : @Bool.rec (fun _ => Out) (.err 42 0) (toldK fr d a fun a => Tr.setK fr d (some a) k) (Nat.blt d nt) = .ok v := hk
    cases hd : Nat.blt d nt with
    | false => rw [hd] at hk'; cases hk'
    | true =>
      rw [hd] at hk'
      replace hk' := toldK_ok hk'
      obtain ⟨fr', h1, h2⟩ := Tr.setK_ok hk'
      refine ⟨fr', h1, fun j => by rw [h2]; simp only [Option.some.injEq, eq_comm (a := d)], fun d' e => (by cases e; exact blt_iff.1 hd), fun D r act x h hx => h.put hx (blt_iff.1 hd) h2⟩
theorem VR.bool {r : Rn} {a : AV} {b : Bool} (h : VR r a (.bool b)) : a = .b b := by
  cases a <;> simp [VR] at h
  rw [h]
theorem wanted_at {r : Rn} {fr : Fr} {act : Act} (ops : List Oper) (o : Oper) (h : ∀ (g : Nat) (want : Bool) og d, o.guard = some (g, want) → ops[g]? = some og → og.dst = some d → VR r ((fr.get d).getD (.tu [])) (act.tmps.getD d undef)) : Region.wanted o (yielded ops.toArray act.tmps) = wantedB ops fr o := by
  obtain ⟨dst, op, ty, pos, after, guard⟩ := o
  cases guard with
  | none => rfl
  | some gw =>
    obtain ⟨g, want⟩ := gw
    show (yielded ops.toArray act.tmps g == some want) = (match getL ops g with
      | some og => (match og.dst with
        | some d => (match fr.get d with
          | some (.b x) => x == want
          | _ => false)
        | none => false)
      | none => false)
    rw [getL_eq]
    unfold yielded
    rw [List.getElem?_toArray]
    cases hg : ops[g]? with
    | none => simp
    | some og =>
      simp only [Option.bind_some]
      cases hd : og.dst with
      | none => simp
      | some d =>
        simp only [Option.bind_some]
        have ht := h g want og d rfl hg hd
        cases hx : act.tmps[d]? with
        | none =>
          have hu : act.tmps.getD d undef = undef := by simp [hx]
          rw [hu] at ht
          cases hf : fr.get d with
          | none => simp
          | some a =>
            rw [hf] at ht
            cases a <;> first | rfl | (simp [VR, undef] at ht)
        | some x =>
          have hu : act.tmps.getD d undef = x := by simp [hx]
          rw [hu] at ht
          cases hf : fr.get d with
          | none =>
            rw [hf] at ht
            obtain ⟨xs, rfl, _⟩ := ht
            rfl
          | some a =>
            rw [hf] at ht
            simp only [Option.getD_some] at ht
            cases x with
            | bool b => rw [VR.bool ht]; cases b <;> cases want <;> rfl
            | _ => cases a <;> first | rfl | (simp [VR] at ht)
theorem wanted_ok {D : List Deferred} {r : Rn} {nt : Nat} {fr : Fr} {act : Act} (h : FR D r nt fr act) (ops : List Oper) (o : Oper) : Region.wanted o (yielded ops.toArray act.tmps) = wantedB ops fr o :=
  wanted_at ops o fun g want og d _ _ _ => h.tmp d
/-- what has come to be -/
def After (D : List Deferred) (p : Nat → Prop) (lim : Nat) (r : Rn) (nx nx' nt : Nat) (fr' : Fr) (h' : T) (w : World) (act' : Act) (w' : World) : Prop :=
  ∃ r', Ext nx nx' r r' ∧ FR D r' nt fr' act' ∧ HR p lim r' h'.get w' ∧ Kp p w w'
def RunOK (nt lim : Nat) (fr : Fr) (h : T) (nx : Nat) (fr' : Fr) (h' : T) (nx' : Nat) (W : (Act → World → Prop) → Act → World → Prop) : Prop :=
  Keeps lim h nx h' nx' ∧ ∀ p r w act D, HR p lim r h.get w → Free nx nx' r → FR D r nt fr act → ∀ N : Act → World → Prop, (∀ act' w', After D p lim r nx nx' nt fr' h' w act' w' → N act' w') → W N act w
/-- what is left behind by a panic, in a frame: slots that are not bad are told -/
def AfterP (b : List Nat) (p : Nat → Prop) (lim : Nat) (r : Rn) (nx nx' : Nat) (x : AV) (fr' : Fr) (h' : T) (w : World) (c : List PanicEntry) (act' : Act) (w' : World) : Prop :=
  ∃ z r', c = [{ v := z, recovered := false }] ∧ Ext nx nx' r r' ∧ VR r' x z ∧ HR p lim r' h'.get w' ∧ Kp p w w' ∧ ∀ t, t ∉ b → VR r' ((fr'.get t).getD (.tu [])) (act'.tmps.getD t undef)
theorem AfterP.left {b : List Nat} {p : Nat → Prop} {lim : Nat} {r : Rn} {nx nx' : Nat} {x : AV} {fr' : Fr} {h' : T} {w w' : World} {c : List PanicEntry} {act' : Act} (a : AfterP b p lim r nx nx' x fr' h' w c act' w') : LeftA p lim r nx nx' h' (.pa x) w c w' := by
  obtain ⟨z, r', h1, h2, h3, h4, h5, _⟩ := a
  exact ⟨x, z, r', rfl, h1, h2, h3, h4, h5⟩
/-- .. that ends in a panic -/
def RunP (nt lim : Nat) (fr : Fr) (h : T) (nx : Nat) (x : AV) (b : List Nat) (fr' : Fr) (h' : T) (nx' : Nat) (W : List Deferred → (List PanicEntry → Act → World → Prop) → Act → World → Prop) : Prop :=
  Keeps lim h nx h' nx' ∧ ∀ p r w act D, HR p lim r h.get w → Free nx nx' r → FR D r nt fr act → ∀ N : List PanicEntry → Act → World → Prop, (∀ c act' w', AfterP b p lim r nx nx' x fr' h' w c act' w' → N c act' w') → W D N act w
def AtP (D : List Deferred) (N : List PanicEntry → Act → World → Prop) : Exit → Act → World → Prop := fun e a w => ∃ c, e = .panic c ∧ a.defers = D ∧ N c a w
theorem RunP.mono {nt lim : Nat} {fr fr1 : Fr} {h h1 : T} {nx n1 : Nat} {x : AV} {b : List Nat} {W U : List Deferred → (List PanicEntry → Act → World → Prop) → Act → World → Prop} (a : RunP nt lim fr h nx x b fr1 h1 n1 W) (hU : ∀ D N act w, W D N act w → U D N act w) : RunP nt lim fr h nx x b fr1 h1 n1 U :=
  ⟨a.1, fun p r w act D H hf hfr N hN => hU _ _ _ _ (a.2 p r w act D H hf hfr N hN)⟩
theorem RunOK.refl {nt lim : Nat} {fr : Fr} {h : T} {nx : Nat} {W : (Act → World → Prop) → Act → World → Prop} (hW : ∀ N act w, N act w → W N act w) : RunOK nt lim fr h nx fr h nx W :=
  ⟨Keeps.refl _ _ _, fun p r w act D H hf hfr N hN => hW _ _ _ (hN act w ⟨r, Ext.refl _ _ _, hfr, H, Kp.refl _ _⟩)⟩
theorem RunOK.trans {nt lim : Nat} {fr fr1 fr2 : Fr} {h h1 h2 : T} {nx n1 n2 : Nat} {W V U : (Act → World → Prop) → Act → World → Prop} (a : RunOK nt lim fr h nx fr1 h1 n1 W) (b : RunOK nt lim fr1 h1 n1 fr2 h2 n2 V)
    (hU : ∀ N act w, W (V N) act w → U N act w) : RunOK nt lim fr h nx fr2 h2 n2 U := by
  have l1 := a.1.le
  have l2 := b.1.le
  refine ⟨a.1.trans b.1, fun p r w act D H hf hfr N hN => hU _ _ _ ?_⟩
  refine a.2 p r w act D H (hf.sub (Nat.le_refl _) l2) hfr _ fun act1 w1 ⟨r1, e1, f1, H1, k1⟩ => ?_
  refine b.2 p r1 w1 act1 D H1 (hf.next e1 l1) f1 N fun act2 w2 ⟨r2, e2, f2, H2, k2⟩ => hN _ _ ⟨r2, e1.trans e2 l1 l2, f2, H2, k1.trans k2⟩
theorem RunOK.stepP {nt lim : Nat} {fr fr1 fr2 : Fr} {h h1 h2 : T} {nx n1 n2 : Nat} {x : AV} {bad : List Nat} {W : (Act → World → Prop) → Act → World → Prop} {V : List Deferred → (List PanicEntry → Act → World → Prop) → Act → World → Prop} (a : RunOK nt lim fr h nx fr1 h1 n1 W) (b : RunP nt lim fr1 h1 n1 x bad fr2 h2 n2 V) :
    ∀ p r w act D, HR p lim r h.get w → Free nx n2 r → FR D r nt fr act → ∀ N : List PanicEntry → Act → World → Prop, (∀ c act' w', AfterP bad p lim r nx n2 x fr2 h2 w c act' w' → N c act' w') → W (V D N) act w := fun p r w act D H hf hfr N hN => by
  have l1 := a.1.le
  have l2 := b.1.le
  refine a.2 p r w act D H (hf.sub (Nat.le_refl _) l2) hfr _ fun act1 w1 ⟨r1, e1, f1, H1, k1⟩ => ?_
  refine b.2 p r1 w1 act1 D H1 (hf.next e1 l1) f1 N fun c act2 w2 ⟨z, r2, q2, e2, q3, H2, k2, f2⟩ => hN _ _ _ ⟨z, r2, q2, e1.trans e2 l1 l2, q3, H2, k1.trans k2, f2⟩
theorem RunOK.transP {nt lim : Nat} {fr fr1 fr2 : Fr} {h h1 h2 : T} {nx n1 n2 : Nat} {x : AV} {bad : List Nat} {W : (Act → World → Prop) → Act → World → Prop} {V U : List Deferred → (List PanicEntry → Act → World → Prop) → Act → World → Prop} (a : RunOK nt lim fr h nx fr1 h1 n1 W) (b : RunP nt lim fr1 h1 n1 x bad fr2 h2 n2 V)
    (hU : ∀ D N act w, W (V D N) act w → U D N act w) : RunP nt lim fr h nx x bad fr2 h2 n2 U :=
  ⟨a.1.trans b.1, fun p r w act D H hf hfr N hN => hU _ _ _ _ (a.stepP b p r w act D H hf hfr N hN)⟩
theorem paK_ok {v a : AV} {p : AV → Out} {n : Out} (h : paK a p n = .ok v) : (∃ x, a = .pa x ∧ p x = .ok v) ∨ ((∀ x, a ≠ .pa x) ∧ n = .ok v) := by
  unfold paK at h
  split at h
  · exact .inl ⟨_, rfl, h⟩
  · rename_i hne
    exact .inr ⟨fun x hx => hne x hx, h⟩
theorem no_pa {p : Nat → Prop} {lim : Nat} {r : Rn} {nx nx' : Nat} {h' : T} {a : AV} {w w' : World} {c : List PanicEntry} (ha : ∀ x, a ≠ .pa x) : ¬ LeftA p lim r nx nx' h' a w c w' := fun ⟨x, _, _, h, _⟩ => ha x h
theorem no_left {p : Nat → Prop} {lim : Nat} {r : Rn} {nx nx' : Nat} {h' : T} {x : AV} {w w' : World} {z : Value} : ¬ Left p lim r nx nx' h' (.pa x) w z w' := fun ⟨_, _, h, _⟩ => h
/-- one operation, and what it puts -/
theorem opPut_ok {v : AV} {call : CallT} {nt lim : Nat} {o : Oper} {fr : Fr} {h : T} {nx : Nat} {kp : KP} {k : KS} (hcall : CallOK P call) (hl : Top lim h nx) (hk : (opK P call lim o fr h nx fun v h nx => putD nt fr o.dst v fun fr => paK v (fun x => kp x o.dst.toList fr h nx) (k fr h nx)) = .ok v) :
    (∃ fr' h' nx', k fr' h' nx' = .ok v ∧ ∀ Q, RunOK nt lim fr h nx fr' h' nx' (fun N act w => o.wp P act w N Q)) ∨
    ∃ x b fr' h' nx', kp x b fr' h' nx' = .ok v ∧ ∀ M, RunP nt lim fr h nx x b fr' h' nx' (fun D N act w => ∀ Q : Exit → Act → World → Prop, (∀ c a w', AtP D N (.panic c) a w' → Q (.panic c) a w') → o.wp P act w M Q) := by
  obtain ⟨a, h', nx', hk, hkeep, ho⟩ := opK_ok hcall hl hk
  obtain ⟨fr', hk, e, hd, hput⟩ := putD_ok hk
  rcases paK_ok hk with ⟨x, rfl, hk⟩ | ⟨ha, hk⟩
  · refine .inr ⟨x, o.dst.toList, fr', h', nx', hk, fun M => ⟨hkeep, fun p r w act D H hf hfr N hN Q hQ => ?_⟩⟩
    refine ho p r w act H hf (hfr.env H.glob _) M Q (fun x w' hL => (no_left hL).elim) fun c w' ⟨x', z, r', q0, q1, q2, q3, q4, q5⟩ => hQ c act w' ⟨c, rfl, hfr.defers, hN c act w' ⟨z, r', q1, q2, ?_, q4, q5, fun t ht => ?_⟩⟩
    · cases q0; exact q3
    · rw [e, if_neg (fun h => ht (by rw [h]; simp))]
      exact (hfr.tmp t).mono (q2.le hf)
  · refine .inl ⟨fr', h', nx', hk, fun Q => ⟨hkeep, fun p r w act D H hf hfr N hN => ?_⟩⟩
    exact ho p r w act H hf (hfr.env H.glob _) N Q (fun x w' ⟨r', e1, x1, H1, k1⟩ => hN _ _ ⟨r', e1, hput D r' act x (hfr.mono (e1.le hf)) x1, H1, k1⟩) fun c w' hL => (no_pa ha hL).elim
theorem seqK_ok {v : AV} {call : CallT} {nt lim : Nat} {ops : List Oper} {kp : KP} (hcall : CallOK P call) : ∀ (l : List Oper) (fr : Fr) (h : T) (nx : Nat) (k : KS), Top lim h nx → seqK P call nt lim ops kp l fr h nx k = .ok v →
    (∃ fr' h' nx', k fr' h' nx' = .ok v ∧ ∀ Q : Exit → Act → World → Prop, RunOK nt lim fr h nx fr' h' nx' (fun N act w => wpList P ops.toArray (Exit.then N Q) l act w)) ∨
    ∃ x b fr' h' nx', kp x b fr' h' nx' = .ok v ∧ ∀ M, RunP nt lim fr h nx x b fr' h' nx' (fun D N act w => wpList P ops.toArray (Exit.then M (AtP D N)) l act w)
  | [], fr, h, nx, k, hl, hk => .inl ⟨fr, h, nx, hk, fun Q => RunOK.refl fun N act w hN => hN⟩
  | o :: l, fr, h, nx, k, hl, hk => by
    rw [seqK_cons] at hk
    cases hw : wantedB ops fr o with
    | true =>
      rw [hw] at hk
      rcases opPut_ok hcall hl hk with ⟨fr1, h1, n1, hk, h2⟩ | ⟨x, bad, fr1, h1, n1, hk, h2⟩
      · have hl1 : Top lim h1 n1 := (h2 (fun _ _ _ => True)).1.top hl
        rcases seqK_ok hcall l fr1 h1 n1 k hl1 hk with ⟨fr2, h3, n2, hk, h4⟩ | ⟨x, bad, fr2, h3, n2, hk, h4⟩
        · refine .inl ⟨fr2, h3, n2, hk, fun Q => ⟨(h2 (fun _ _ _ => True)).1.trans (h4 Q).1, fun p r w act D H hf hfr N hN => ?_⟩⟩
          have := ((h2 (Exit.then N Q)).trans (h4 Q) (U := fun M act w => o.wp P act w (wpList P ops.toArray (Exit.then M Q) l) (Exit.then N Q)) (fun M act w hh => hh)).2 p r w act D H hf hfr N hN
          show wpList P ops.toArray (Exit.then N Q) (o :: l) act w
          unfold wpList
          rw [wanted_ok hfr, hw, if_pos rfl]
          exact .inl this
        · refine .inr ⟨x, bad, fr2, h3, n2, hk, fun M => ⟨(h2 (fun _ _ _ => True)).1.trans (h4 M).1, fun p r w act D H hf hfr N hN => ?_⟩⟩
          have := (h2 (Exit.then M (AtP D N))).stepP (h4 M) p r w act D H hf hfr N hN
          show wpList P ops.toArray (Exit.then M (AtP D N)) (o :: l) act w
          unfold wpList
          rw [wanted_ok hfr, hw, if_pos rfl]
          exact .inl this
      · refine .inr ⟨x, bad, fr1, h1, n1, hk, fun M => ⟨(h2 (fun _ _ => True)).1, fun p r w act D H hf hfr N hN => ?_⟩⟩
        have := (h2 (wpList P ops.toArray (Exit.then M (AtP D N)) l)).2 p r w act D H hf hfr N hN (Exit.then M (AtP D N)) fun c a w' hh => hh
        show wpList P ops.toArray (Exit.then M (AtP D N)) (o :: l) act w
        unfold wpList
        rw [wanted_ok hfr, hw, if_pos rfl]
        exact .inl this
    | false =>
      rw [hw] at hk
      obtain ⟨fr1, hk, e, hd, hput⟩ := putD_ok hk
      rcases seqK_ok hcall l fr1 h nx k hl hk with ⟨fr2, h3, n2, hk, h4⟩ | ⟨x, bad, fr2, h3, n2, hk, h4⟩
      · refine .inl ⟨fr2, h3, n2, hk, fun Q => ⟨(h4 Q).1, fun p r w act D H hf hfr N hN => ?_⟩⟩
        show wpList P ops.toArray (Exit.then N Q) (o :: l) act w
        unfold wpList
        rw [wanted_ok hfr, hw, if_neg (by simp)]
        exact (h4 Q).2 p r w _ D H hf (hput D r act undef hfr ⟨[], rfl, rfl⟩) N hN
      · refine .inr ⟨x, bad, fr2, h3, n2, hk, fun M => ⟨(h4 M).1, fun p r w act D H hf hfr N hN => ?_⟩⟩
        show wpList P ops.toArray (Exit.then M (AtP D N)) (o :: l) act w
        unfold wpList
        rw [wanted_ok hfr, hw, if_neg (by simp)]
        exact (h4 M).2 p r w _ D H hf (hput D r act undef hfr ⟨[], rfl, rfl⟩) N hN
end Clu
end Go.Proofs.Ythghohgjedjpbaa
