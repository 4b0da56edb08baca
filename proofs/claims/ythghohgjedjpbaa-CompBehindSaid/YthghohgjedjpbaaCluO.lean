/-
  Runs of closed calls by the kernel: copy, maps, builtin functions, methods.
-/
import Derived.Test.YthghohgjedjpbaaCluN
namespace Go.Proofs.Ythghohgjedjpbaa
namespace Clu
open Go.RowKit
set_option linter.unusedVariables false
variable {P : Program}

theorem copyAt_ok {v : AV} {lim : Nat} {h : T} {nx sz id off dn : Nat} {s : AV} {k : KV} (hk : copyAt lim h nx sz id off dn s k = .ok v) :
    ∃ a h' nx', k a h' nx' = .ok v ∧ Keeps lim h nx h' nx' ∧ ∀ p r w Bk O K c vs dT e sT ty, P.underlying dT = some (.slice e) → (∀ w, (sizeOf e).run P w = .ok sz w) → HR p lim r h.get w → r id = some (Bk, O, K) → VR r s vs →
      Res p lim r nx nx' h' a w ((Builtin.copy_ #[dT, sT] ty #[.slice (some ⟨Bk, O + off, none⟩) dn c, vs]).run P w) := by
  unfold copyAt at hk
  obtain ⟨sn, hk, hs⟩ := lenOfK_ok (P := P) hk
  rw [fN_eq] at hk
  obtain ⟨cs, hk, _, _, hf⟩ := firstK_ok (P := P) hk
  obtain ⟨h', hk, hkeep, hst⟩ := storeK_ok (P := P) hk
  refine ⟨_, h', nx, hk, keeps_set hkeep, fun p r w Bk O K c vs dT e sT ty hu hsz H hr hvs => ?_⟩
  obtain ⟨xs, x1, x2, _⟩ := hf p lim r w vs H hvs
  obtain ⟨w', w1, w2, w3⟩ := hst p r w xs Bk O K H x1 hr
  have hs' := hs r vs hvs
  refine ⟨r, .int .i64 ((Nat.min sn dn : Nat) : Int), w', ?_, Ext.refl _ _ _, rfl, w2, w3⟩
  simp [Builtin.copy_, run_underlying hu, hs', hsz, x2, w1, goInt]
theorem copyK_ok {v : AV} {lim : Nat} {h : T} {nx : Nat} {dT : TypeId} {d s : AV} {k : KV} (hk : copyK P lim h nx dT d s k = .ok v) :
    ∃ a h' nx', k a h' nx' = .ok v ∧ Keeps lim h nx h' nx' ∧ ∀ p r w vd vs sT ty, HR p lim r h.get w → VR r d vd → VR r s vs → Res p lim r nx nx' h' a w ((Builtin.copy_ #[dT, sT] ty #[vd, vs]).run P w) := by
  unfold copyK at hk
  split at hk
  · rename_i e hu
    obtain ⟨i, hi, hk, hsz⟩ := sizeK_ok hk
    split at hk
    · obtain ⟨a, h', nx', hk, hkeep, hf⟩ := copyAt_ok (P := P) hk
      refine ⟨a, h', nx', hk, hkeep, fun p r w vd vs sT ty H hd hs => ?_⟩
      obtain ⟨Bk, O, K, hr, rfl⟩ := hd
      exact hf p r w Bk O K _ vs dT e sT ty hu hsz H hr hs
    · rw [fN_eq] at hk
      obtain ⟨a, h', nx', hk, hkeep, hf⟩ := copyAt_ok (P := P) hk
      refine ⟨a, h', nx', hk, hkeep, fun p r w vd vs sT ty H hd hs => ?_⟩
      obtain ⟨Bk, O, K, hr, rfl⟩ := hd
      exact hf p r w Bk O K _ vs dT e sT ty hu hsz H hr hs
    · cases hk
  · cases hk
theorem foldMinK_ok {v : AV} {mx : Bool} : ∀ {l : List AV} {x : AV} {k : KO}, foldMinK mx l x k = .ok v → ∃ a, k a = .ok v ∧ ∀ r xs y (w : World), VRs r l xs → VR r x y → ∃ z, (xs.foldlM (if mx then Builtin.max2 else Builtin.min2) y).run P w = .ok z w ∧ VR r a z
  | [], x, k, h => ⟨x, h, fun r xs y w hx hy => by cases hx; exact ⟨y, rfl, hy⟩⟩
  | a :: l, x, k, h => by
    unfold foldMinK at h
    split at h
    · rename_i ka b kd c
      obtain ⟨a, h1, h2⟩ := foldMinK_ok h
      refine ⟨a, h1, fun r xs y w hx hy => ?_⟩
      obtain ⟨z, zs, rfl, hz, hzs⟩ := hx
      cases hz; cases hy
      obtain ⟨u, u1, u2⟩ := h2 r zs (.int kd (extI mx b c)) w hzs rfl
      refine ⟨u, ?_, u2⟩
      rw [List.foldlM_cons, Sem.run_bind]
      cases mx
      · by_cases hc : b < c
        · have he : extI false b c = b := by simp only [extI, iLt_eq, decide_eq_true hc, pickI]
          rw [he] at u1
          simp only [Bool.false_eq_true, if_false] at u1 ⊢
          simp only [Builtin.min2, if_pos hc, Sem.run_pure, Result.andThen_ok]; exact u1
        · have he : extI false b c = c := by simp only [extI, iLt_eq, decide_eq_false hc, pickI]
          rw [he] at u1
          simp only [Bool.false_eq_true, if_false] at u1 ⊢
          simp only [Builtin.min2, if_neg hc, Sem.run_pure, Result.andThen_ok]; exact u1
      · by_cases hc : c < b
        · have he : extI true b c = b := by simp only [extI, iLt_eq, decide_eq_true hc, pickI]
          rw [he] at u1
          simp only [if_true] at u1 ⊢
          simp only [Builtin.max2, gt_iff_lt, if_pos hc, Sem.run_pure, Result.andThen_ok]; exact u1
        · have he : extI true b c = c := by simp only [extI, iLt_eq, decide_eq_false hc, pickI]
          rw [he] at u1
          simp only [if_true] at u1 ⊢
          simp only [Builtin.max2, gt_iff_lt, if_neg hc, Sem.run_pure, Result.andThen_ok]; exact u1
    · cases h

/-! maps -/
theorem okCell_run {t : TypeId} {l : List AV} {o : Nat} (h : okCell P t l o = true) {r : Rn} {xs : List Value} (hx : VRs r l xs) (w : World) (empty : Bool) (n : Nat) :
    ∃ a, (part t xs.toArray o).run P w = .ok a w ∧ (Instr.checkKey empty (n + 1) t a).run P w = .ok () w := by
  unfold okCell at h
  rw [getL_eq] at h
  split at h
  · rename_i kd k m hu hc
    obtain ⟨d, hu', hagg⟩ := aggB_false (P := P) (t := t) (by unfold aggB; rw [hu])
    obtain ⟨x, h1, h2⟩ := hx.get hc
    refine ⟨x, by simp [part, hagg, h1], ?_⟩
    cases h2
    simp [Instr.checkKey, run_underlying hu]
  · rename_i k m hu hc
    obtain ⟨d, hu', hagg⟩ := aggB_false (P := P) (t := t) (by unfold aggB; rw [hu])
    obtain ⟨x, h1, h2⟩ := hx.get hc
    refine ⟨x, by simp [part, hagg, h1], ?_⟩
    cases h2
    simp [Instr.checkKey, run_underlying hu]
  · rename_i m hu hc
    obtain ⟨d, hu', hagg⟩ := aggB_false (P := P) (t := t) (by unfold aggB; rw [hu])
    obtain ⟨x, h1, h2⟩ := hx.get hc
    refine ⟨x, by simp [part, hagg, h1], ?_⟩
    cases h2
    simp [Instr.checkKey, run_underlying hu]
  · cases h
theorem okKey_run {kt : TypeId} {t : TypeDesc} {k : AV} (hu : P.underlying kt = some t) (h : okKey P t k = true) {r : Rn} {x : Value} (hx : VR r k x) (w : World) (empty : Bool) {n : Nat} : (Instr.checkKey empty (n + 2) kt x).run P w = .ok () w := by
  unfold okKey at h
  split at h
  · rename_i fs l
    obtain ⟨xs, rfl, hx⟩ := hx
    rw [Instr.checkKey]
    simp only [Sem.run_bind, run_underlying hu, Result.andThen_ok]
    rw [← Array.forIn_toList]
    have each : ∀ f ∈ fs.toList, okCell P f.type l f.offset = true := List.all_eq_true.1 h
    clear h
    generalize fs.toList = L at each
    induction L with
    | nil => simp
    | cons f L ih =>
      obtain ⟨a, p1, p2⟩ := okCell_run (each f (by simp)) hx w empty n
      have IH := ih fun g hg => each g (by simp [hg])
      by_cases hn : f.name = "_"
      · simp only [List.forIn_cons, Sem.run_bind, hn, ne_eq, not_true_eq_false, if_false, Result.andThen_ok, Sem.run_pure]
        exact IH
      · simp only [List.forIn_cons, Sem.run_bind, hn, ne_eq, not_false_eq_true, if_true, Result.andThen_ok, p1, p2, Sem.run_pure]
        exact IH
  · cases hx; simp [Instr.checkKey, run_underlying hu]
  · cases hx; simp [Instr.checkKey, run_underlying hu]
  · cases hx; simp [Instr.checkKey, run_underlying hu]
  · cases h
theorem keyB_ok {v : AV} {t : TypeDesc} {k e : AV} {c : Bool → Out} (hk : keyB t k e c = .ok v) : ∃ b, c b = .ok v ∧ ∀ r x y, VR r k x → VR r e y → Instr.sameNow t x y = some b ∧ (b = true → x = y ∧ Instr.sameBits 10000 x x = true) := by
  unfold keyB at hk
  split at hk
  · rename_i ka a kb b
    split at hk
    · rename_i hkk
      have hkk := of_decide_eq_true hkk
      subst hkk
      rw [fB_eq] at hk
      refine ⟨_, hk, fun r x y hx hy => ?_⟩
      cases hx; cases hy
      refine ⟨by simp [Instr.sameNow], fun h => ?_⟩
      have : a = b := by simpa using h
      subst this
      exact ⟨rfl, by simp [Instr.sameBits]⟩
    · cases hk
  · rename_i n N m M
    rw [fB_eq] at hk
    refine ⟨_, hk, fun r x y hx hy => ?_⟩
    cases hx; cases hy
    have e : (bytes (lst n N) == bytes (lst m M)) = eqNs n N m M := by rw [beq_toListBytes, toList_bytes, toList_bytes, eqNs_spec]
    refine ⟨by simp [Instr.sameNow, e], fun h => ?_⟩
    rw [← e] at h
    have : bytes (lst n N) = bytes (lst m M) := by
      have h2 := h
      rw [beq_toListBytes] at h2
      have h3 : (bytes (lst n N)).toList = (bytes (lst m M)).toList := by simpa using h2
      rw [toList_bytes, toList_bytes] at h3
      unfold bytes
      rw [h3]
    refine ⟨by rw [this], ?_⟩
    have hself : (bytes (lst n N) == bytes (lst n N)) = true := by rw [beq_toListBytes]; simp
    simp [Instr.sameBits, hself]
  · rename_i a b
    rw [fB_eq] at hk
    refine ⟨_, hk, fun r x y hx hy => ?_⟩
    cases hx; cases hy
    refine ⟨by simp [Instr.sameNow], fun h => ?_⟩
    have : a = b := by simpa using h
    subst this
    exact ⟨rfl, by simp [Instr.sameBits]⟩
  · cases hk
theorem cellB_ok {v : AV} {k e : AV} {c : Bool → Out} (hk : cellB k e c = .ok v) : ∃ b, c b = .ok v ∧ ∀ r x y, VR r k x → VR r e y → b = true → x = y ∧ ∀ n, Instr.sameBits n x x = true := by
  unfold cellB at hk
  split at hk
  · rename_i ka a kb b
    split at hk
    · rename_i hkk
      have hkk := sameKind_ok hkk
      subst hkk
      rw [fB_eq, iEq_eq] at hk
      refine ⟨_, hk, fun r x y hx hy h => ?_⟩
      cases hx; cases hy
      have : a = b := by simpa using h
      subst this
      exact ⟨rfl, fun n => by cases n <;> simp [Instr.sameBits]⟩
    · exact ⟨_, hk, fun r x y hx hy h => by cases h⟩
  · rename_i n N m M
    obtain ⟨b, h1, h2⟩ := keyB_ok (t := .string) (k := .s n N) (e := .s m M) (c := c) (by unfold keyB; exact hk)
    refine ⟨b, h1, fun r x y hx hy h => ?_⟩
    obtain ⟨h3, h4⟩ := (h2 r x y hx hy).2 h
    refine ⟨h3, fun n => ?_⟩
    cases hx
    cases n <;> simpa [Instr.sameBits] using h4
  · rename_i a b
    rw [fB_eq] at hk
    refine ⟨_, hk, fun r x y hx hy h => ?_⟩
    cases hx; cases hy
    have : a = b := by simpa using h
    subst this
    exact ⟨rfl, fun n => by cases n <;> simp [Instr.sameBits]⟩
  · cases hk
theorem cellsB_ok {v : AV} : ∀ {l m : List AV} {c : Bool → Out}, cellsB l m c = .ok v → ∃ b, c b = .ok v ∧ ∀ r xs ys, VRs r l xs → VRs r m ys → b = true → xs = ys ∧ ∀ n, ((xs.zip xs).all fun (x, y) => Instr.sameBits n x y) = true
  | [], [], c, h => ⟨true, h, fun r xs ys hx hy _ => by cases hx; cases hy; exact ⟨rfl, fun n => rfl⟩⟩
  | k :: l, e :: m, c, h => by
    unfold cellsB at h
    obtain ⟨b, h, hb⟩ := cellB_ok h
    split at h
    · obtain ⟨q, h, hq⟩ := cellsB_ok h
      refine ⟨q, h, fun r xs ys hx hy hh => ?_⟩
      obtain ⟨x, xs, rfl, x1, x2⟩ := hx
      obtain ⟨y, ys, rfl, y1, y2⟩ := hy
      obtain ⟨rfl, b2⟩ := hb r x y x1 y1 rfl
      obtain ⟨rfl, q2⟩ := hq r xs ys x2 y2 hh
      refine ⟨rfl, fun n => ?_⟩
      have := q2 n
      simp only [List.zip_cons_cons, List.all_cons, b2 n, Bool.true_and]
      exact this
    · exact ⟨false, h, fun r xs ys hx hy hh => by cases hh⟩
  | [], _ :: _, c, h => by cases h
  | _ :: _, [], c, h => by cases h
/-- how two keys are held against each other -/
def Same (P : Program) (w : World) (kt : TypeId) (t : TypeDesc) (x y : Value) (b : Bool) : Prop := ((¬ ∃ fs, t = .struct fs) ∧ Instr.sameNow t x y = some b) ∨ ((∃ fs, t = .struct fs) ∧ (Op.equal kt x y).run P w = .ok b w)
theorem keyQ_ok {v : AV} {h : T} {kt : TypeId} {t : TypeDesc} {k e : AV} {c : Bool → Out} (hk : keyQ P h kt t k e c = .ok v) : ∃ b, c b = .ok v ∧ ∀ p lim r w x y, HR p lim r h.get w → VR r k x → VR r e y → Same P w kt t x y b ∧ (b = true → x = y ∧ Instr.sameBits 10000 x x = true) := by
  unfold keyQ at hk
  split at hk
  · rename_i fs
    obtain ⟨b, hk, hb⟩ := eqK_ok hk
    have eqr : ∀ p lim r w x y, HR p lim r h.get w → VR r k x → VR r e y → Same P w kt (.struct fs) x y b := fun p lim r w x y H hx hy => .inr ⟨⟨fs, rfl⟩, hb 10000 (Nat.le_refl _) p lim r w x y H hx hy⟩
    split at hk
    · split at hk
      · rename_i l m
        obtain ⟨q, hk, hq⟩ := cellsB_ok hk
        split at hk
        · refine ⟨true, hk, fun p lim r w x y H hx hy => ⟨eqr p lim r w x y H hx hy, fun _ => ?_⟩⟩
          obtain ⟨xs, rfl, hx⟩ := hx
          obtain ⟨ys, rfl, hy⟩ := hy
          obtain ⟨rfl, q2⟩ := hq r xs ys hx hy rfl
          exact ⟨rfl, by simpa [Instr.sameBits] using q2 9999⟩
        · cases hk
      · cases hk
    · exact ⟨false, hk, fun p lim r w x y H hx hy => ⟨eqr p lim r w x y H hx hy, fun hh => by cases hh⟩⟩
  · rename_i hn
    obtain ⟨b, hk, hb⟩ := keyB_ok hk
    exact ⟨b, hk, fun p lim r w x y H hx hy => ⟨.inl ⟨fun ⟨fs, h⟩ => hn fs h, (hb r x y hx hy).1⟩, (hb r x y hx hy).2⟩⟩
/-- a key is looked for -/
def Fd (P : Program) (w : World) (kt : TypeId) (t : TypeDesc) (x : Value) (xs : List MapEntry) (i : Nat) (q : Option (Nat × Value)) : Prop :=
  ((¬ ∃ fs, t = .struct fs) ∧ Instr.findNow t x xs i = some q) ∨ ((∃ fs, t = .struct fs) ∧ (Instr.findAsking kt x xs i).run P w = .ok q w)
theorem findE_ok {v : AV} {h : T} {kt : TypeId} {t : TypeDesc} {k : AV} : ∀ {es : List (AV × AV × Nat)} {i : Nat} {c : Option (Nat × AV) → Out}, findE P h kt t k es i c = .ok v →
    ∃ res, c res = .ok v ∧ ∀ p lim r w x xs, HR p lim r h.get w → VR r k x → ERs r es xs → (match res with
      | none => Fd P w kt t x xs i none
      | some (j, a) => ∃ y e, Fd P w kt t x xs i (some (j, y)) ∧ VR r a y ∧ i ≤ j ∧ xs[j - i]? = some e ∧ e.key = x ∧ e.val = y ∧ (es[j - i]?).map (·.2.1) = some a ∧ Instr.sameBits 10000 x x = true)
  | [], i, c, h0 => ⟨none, h0, fun p lim r w x xs H hx he => by
      cases he
      by_cases hs : ∃ fs, t = .struct fs
      · exact .inr ⟨hs, by simp [Instr.findAsking]⟩
      · exact .inl ⟨hs, rfl⟩⟩
  | (e, u, n) :: es, i, c, h0 => by
    unfold findE at h0
    obtain ⟨b, h0, hb⟩ := keyQ_ok h0
    cases b with
    | true =>
      refine ⟨_, h0, fun p lim r w x xs H hx he => ?_⟩
      obtain ⟨y, ys, rfl, e1, e2, e3, e4⟩ := he
      obtain ⟨b1, b2⟩ := hb p lim r w x y.key H hx e1
      obtain ⟨b3, b4⟩ := b2 rfl
      refine ⟨y.val, y, ?_, e2, Nat.le_refl _, by simp, b3.symm, rfl, by simp, b4⟩
      rcases b1 with ⟨b0, b1⟩ | ⟨b0, b1⟩
      · exact .inl ⟨b0, by simp [Instr.findNow, b1]⟩
      · exact .inr ⟨b0, by simp [Instr.findAsking, b1]⟩
    | false =>
      simp only [fN_eq] at h0
      obtain ⟨res, h0, hr⟩ := findE_ok h0
      refine ⟨res, h0, fun p lim r w x xs H hx he => ?_⟩
      obtain ⟨y, ys, rfl, e1, e2, e3, e4⟩ := he
      obtain ⟨b1, _⟩ := hb p lim r w x y.key H hx e1
      have := hr p lim r w x ys H hx e4
      have more : ∀ {q}, Fd P w kt t x ys (i + 1) q → Fd P w kt t x (y :: ys) i q := fun {q} hq => by
        rcases b1 with ⟨b0, b1⟩ | ⟨b0, b1⟩ <;> rcases hq with ⟨q0, q1⟩ | ⟨q0, q1⟩
        · exact .inl ⟨b0, by simp only [Instr.findNow, b1]; exact q1⟩
        · exact absurd q0 b0
        · exact absurd b0 q0
        · exact .inr ⟨b0, by simp only [Instr.findAsking, Sem.run_bind, b1, Result.andThen_ok]; simpa using q1⟩
      cases res with
      | none => exact more this
      | some q =>
        obtain ⟨j, a⟩ := q
        obtain ⟨z, e', f1, f2, f3, f4, f5, f6, f7, f8⟩ := this
        have hj : j - i = (j - (i + 1)) + 1 := by omega
        exact ⟨z, e', more f1, f2, by omega, by rw [hj]; simpa using f4, f5, f6, by rw [hj]; simpa using f7, f8⟩
theorem run_findKey {w : World} {t : TypeId} {d : TypeDesc} {x : Value} {es : List MapEntry} {q : Option (Nat × Value)} (hu : P.underlying t = some d) (hf : Fd P w t d x es 0 q) : (Instr.findKey t x es).run P w = .ok q w := by
  rcases hf with ⟨_, hf⟩ | ⟨⟨fs, rfl⟩, hf⟩
  · simp [Instr.findKey, run_underlying hu, hf]
  · cases es with
    | nil =>
      simp [Instr.findAsking] at hf
      subst hf
      simp [Instr.findKey, run_underlying hu, Instr.findNow]
    | cons e es => simp only [Instr.findKey, Sem.run_bind, run_underlying hu, Result.andThen_ok, Instr.findNow, Instr.sameNow]; exact hf
theorem entriesK_ok {v : AV} {h : T} {m : AV} {c : List (AV × AV × Nat) → Out} (hk : entriesK h m c = .ok v) : ∃ es, c es = .ok v ∧ ∀ p lim r w vm, HR p lim r h.get w → VR r m vm →
    (vm = .map none ∧ es = []) ∨ ∃ (Bk : Nat) (xs : List MapEntry) (cl : Nat), vm = .map (some Bk) ∧ w.heap[Bk]? = some (.map xs.toArray cl) ∧ ERs r es xs := by
  unfold entriesK at hk
  split at hk
  · exact ⟨_, hk, fun p lim r w vm H hm => .inl ⟨hm, rfl⟩⟩
  · rename_i id
    split at hk
    · rename_i es cl hb
      refine ⟨_, hk, fun p lim r w vm H hm => .inr ?_⟩
      obtain ⟨Bk, O, K, hr, rfl⟩ := hm
      obtain ⟨_, _, _, e1, _, xs, e2, e3⟩ := H.blk id _ hb
      rw [hr] at e1; cases e1
      exact ⟨Bk, xs, cl, rfl, e2, e3⟩
    · cases hk
  · cases hk
theorem lookupK_ok {v : AV} {h : T} {t : TypeId} {m i : AV} {ok : Bool} {k : KO} (hk : lookupK P h t m i ok k = .ok v) :
    ∃ a, k a = .ok v ∧ ∀ p lim r w vm vi, HR p lim r h.get w → VR r m vm → VR r i vi → ∃ z, (Instr.lookup t vm vi ok).run P w = .ok z w ∧ VR r a z := by
  unfold lookupK at hk
  split at hk
  · rename_i kt et hu
    split at hk
    · rename_i kd hkd
      split at hk
      · rename_i hok
        obtain ⟨es, hk, he⟩ := entriesK_ok hk
        obtain ⟨res, hk, hr⟩ := findE_ok hk
        have run : ∀ p lim r w vm vi, HR p lim r h.get w → VR r m vm → VR r i vi → ∃ xs : List MapEntry, ERs r es xs ∧ (Instr.lookup t vm vi ok).run P w = (do
            let (v, o) ← match ← Instr.findKey kt vi xs with
              | some (_, v) => pure (v, true)
              | none => pure (← zeroValue et, false)
            pure (if ok then .tuple #[v, .bool o] else v) : Sem Value).run P w := fun p lim r w vm vi H hm hi => by
          have hp : ∀ w empty, (Instr.checkKey empty 10000 kt vi).run P w = .ok () w := fun w empty => okKey_run (n := 9998) hkd hok hi w empty
          rcases he p lim r w vm H hm with ⟨rfl, rfl⟩ | ⟨Bk, xs, cl, rfl, e1, e2⟩
          · exact ⟨[], rfl, by simp [Instr.lookup, run_underlying hu, hp]; rfl⟩
          · exact ⟨xs, e2, by simp [Instr.lookup, run_underlying hu, getObj, Sem.run, e1, hp]; rfl⟩
        split at hk
        · rename_i j u
          have fin : ∀ a, (a = if ok then AV.tu [u, .b true] else u) → ∀ p lim r w vm vi, HR p lim r h.get w → VR r m vm → VR r i vi → ∃ z, (Instr.lookup t vm vi ok).run P w = .ok z w ∧ VR r a z := fun a ha p lim r w vm vi H hm hi => by
            obtain ⟨xs, e1, e2⟩ := run p lim r w vm vi H hm hi
            obtain ⟨y, _, f1, f2, _⟩ := hr p lim r w vi xs H hi e1
            refine ⟨if ok then .tuple #[y, .bool true] else y, ?_, ?_⟩
            · rw [e2]; simp [run_findKey hkd f1]
            · subst ha
              cases ok
              · simpa using f2
              · exact ⟨[y, .bool true], rfl, _, _, rfl, f2, _, _, rfl, rfl, rfl⟩
          split at hk
          · exact ⟨_, hk, fin _ (by rfl)⟩
          · exact ⟨_, hk, fin _ (by rfl)⟩
        · obtain ⟨z, zv, zi, hk, h1, h2, h3, h4, hznj⟩ := zeroK_ok hk
          have fin : ∀ a, (a = if ok then AV.tu [z, .b false] else z) → ∀ p lim r w vm vi, HR p lim r h.get w → VR r m vm → VR r i vi → ∃ z, (Instr.lookup t vm vi ok).run P w = .ok z w ∧ VR r a z := fun a ha p lim r w vm vi H hm hi => by
            obtain ⟨xs, e1, e2⟩ := run p lim r w vm vi H hm hi
            have f1 := hr p lim r w vi xs H hi e1
            refine ⟨if ok then .tuple #[zv, .bool false] else zv, ?_, ?_⟩
            · rw [e2]; simp [run_findKey hkd f1, h4]
            · subst ha
              cases ok
              · simpa using h3 r
              · exact ⟨[zv, .bool false], rfl, _, _, rfl, h3 r, _, _, rfl, rfl, rfl⟩
          split at hk
          · exact ⟨_, hk, fin _ (by rfl)⟩
          · exact ⟨_, hk, fin _ (by rfl)⟩
      · cases hk
    · cases hk
  · cases hk
end Clu
end Go.Proofs.Ythghohgjedjpbaa
