/-
  Runs of closed calls by the kernel: copy, maps, builtin functions, methods.
-/
import Derived.Test.YtlcggjaogbclkaaDoorCloN
namespace Go.Proofs.YtlcggjaogbclkaaDoor
namespace Clo
open Go.RowKit
set_option linter.unusedVariables false
variable {P : Program}

theorem copyAt_ok {v : AV} {lim : Nat} {h : T} {nx sz id off dn : Nat} {s : AV} {k : KV} (hk : copyAt lim h nx sz id off dn s k = .ok v) :
    ∃ a h' nx', k a h' nx' = .ok v ∧ Keeps lim h nx h' nx' ∧ ∀ p r w Bk O K c vs dT e sT ty, P.underlying dT = some (.slice e) → (∀ w, (sizeOf e).run P w = .ok sz w) → HR p lim r h.get w → r id = some (Bk, O, K) → VR r s vs →
      Res p lim r nx nx' h' a w ((Builtin.copy_ #[dT, sT] ty #[.slice (some ⟨Bk, O + off, none⟩) dn c, vs]).run P w) := by
  unfold copyAt at hk
  obtain ⟨sn, hk, hs⟩ := lenOfK_ok (P := P) hk
  rw [fN_eq] at hk
  obtain ⟨cs, hk, _, _, hf⟩ := firstK_ok (P := P) hk
  obtain ⟨h', hk, hkeep, hst⟩ := storeK_ok (P := P) hk
  refine ⟨_, h', nx, hk, keeps_set hkeep, fun p r w Bk O K c vs dT e sT ty hu hsz H hr hvs => ?_⟩
  obtain ⟨xs, x1, x2, _⟩ := hf p lim r w vs H hvs
  obtain ⟨w', w1, w2, w3⟩ := hst p r w xs Bk O K H x1 hr
  have hs' := hs r vs hvs
  refine ⟨r, .int .i64 ((Nat.min sn dn : Nat) : Int), w', ?_, Ext.refl _ _ _, rfl, w2, w3⟩
  simp [Builtin.copy_, run_underlying hu, hs', hsz, x2, w1, goInt]
theorem copyK_ok {v : AV} {lim : Nat} {h : T} {nx : Nat} {dT : TypeId} {d s : AV} {k : KV} (hk : copyK P lim h nx dT d s k = .ok v) :
    ∃ a h' nx', k a h' nx' = .ok v ∧ Keeps lim h nx h' nx' ∧ ∀ p r w vd vs sT ty, HR p lim r h.get w → VR r d vd → VR r s vs → Res p lim r nx nx' h' a w ((Builtin.copy_ #[dT, sT] ty #[vd, vs]).run P w) := by
  unfold copyK at hk
  split at hk
  · rename_i e hu
    obtain ⟨i, hi, hk, hsz⟩ := sizeK_ok hk
    split at hk
    · obtain ⟨a, h', nx', hk, hkeep, hf⟩ := copyAt_ok (P := P) hk
      refine ⟨a, h', nx', hk, hkeep, fun p r w vd vs sT ty H hd hs => ?_⟩
      obtain ⟨Bk, O, K, hr, rfl⟩ := hd
      exact hf p r w Bk O K _ vs dT e sT ty hu hsz H hr hs
    · rw [fN_eq] at hk
      obtain ⟨a, h', nx', hk, hkeep, hf⟩ := copyAt_ok (P := P) hk
      refine ⟨a, h', nx', hk, hkeep, fun p r w vd vs sT ty H hd hs => ?_⟩
      obtain ⟨Bk, O, K, hr, rfl⟩ := hd
      exact hf p r w Bk O K _ vs dT e sT ty hu hsz H hr hs
    · cases hk
  · cases hk
theorem foldMinK_ok {v : AV} {mx : Bool} : ∀ {l : List AV} {x : AV} {k : KO}, foldMinK mx l x k = .ok v → ∃ a, k a = .ok v ∧ ∀ r xs y (w : World), VRs r l xs → VR r x y → ∃ z, (xs.foldlM (if mx then Builtin.max2 else Builtin.min2) y).run P w = .ok z w ∧ VR r a z
  | [], x, k, h => ⟨x, h, fun r xs y w hx hy => by cases hx; exact ⟨y, rfl, hy⟩⟩
  | a :: l, x, k, h => by
    unfold foldMinK at h
    split at h
    · rename_i ka b kd c
      split at h
      · rename_i hc
        have hc := of_decide_eq_true hc
        obtain ⟨a, h1, h2⟩ := foldMinK_ok h
        refine ⟨a, h1, fun r xs y w hx hy => ?_⟩
        obtain ⟨z, zs, rfl, hz, hzs⟩ := hx
        cases hz; cases hy
        obtain ⟨u, u1, u2⟩ := h2 r zs (.int kd b) w hzs rfl
        refine ⟨u, ?_, u2⟩
        rw [List.foldlM_cons, Sem.run_bind]
        cases mx
        · simp only [Bool.false_eq_true, if_false] at hc u1 ⊢
          simp only [Builtin.min2, if_pos hc, Sem.run_pure, Result.andThen_ok]; exact u1
        · simp only [if_true] at hc u1 ⊢
          simp only [Builtin.max2, gt_iff_lt, if_pos hc, Sem.run_pure, Result.andThen_ok]; exact u1
      · rename_i hc
        have hc := of_decide_eq_false hc
        obtain ⟨a, h1, h2⟩ := foldMinK_ok h
        refine ⟨a, h1, fun r xs y w hx hy => ?_⟩
        obtain ⟨z, zs, rfl, hz, hzs⟩ := hx
        cases hz; cases hy
        obtain ⟨u, u1, u2⟩ := h2 r zs (.int kd c) w hzs rfl
        refine ⟨u, ?_, u2⟩
        rw [List.foldlM_cons, Sem.run_bind]
        cases mx
        · simp only [Bool.false_eq_true, if_false] at hc u1 ⊢
          simp only [Builtin.min2, if_neg hc, Sem.run_pure, Result.andThen_ok]; exact u1
        · simp only [if_true] at hc u1 ⊢
          simp only [Builtin.max2, gt_iff_lt, if_neg hc, Sem.run_pure, Result.andThen_ok]; exact u1
    · cases h

/-! maps -/
def plainKey : TypeDesc → Value → Bool
  | .int _, .int _ _ | .string, .string _ | .bool, .bool _ => true
  | _, _ => false
theorem okKey_ok {t : TypeDesc} {k : AV} (h : okKey t k = true) {r : Rn} {x : Value} (hx : VR r k x) : plainKey t x = true := by
  cases t <;> cases k <;> simp only [okKey, Bool.false_eq_true] at h <;> (cases hx; rfl)
theorem run_checkKey {w : World} {empty : Bool} {n : Nat} {t : TypeId} {d : TypeDesc} {x : Value} (hu : P.underlying t = some d) (hp : plainKey d x = true) : (Instr.checkKey empty (n + 1) t x).run P w = .ok () w := by
  cases d <;> cases x <;> simp only [plainKey, Bool.false_eq_true] at hp <;> simp [Instr.checkKey, run_underlying hu]
theorem keyB_ok {v : AV} {t : TypeDesc} {k e : AV} {c : Bool → Out} (hk : keyB t k e c = .ok v) : ∃ b, c b = .ok v ∧ ∀ r x y, VR r k x → VR r e y → Instr.sameNow t x y = some b ∧ (b = true → x = y ∧ Instr.sameBits 10000 x x = true) := by
  unfold keyB at hk
  split at hk
  · rename_i ka a kb b
    split at hk
    · rename_i hkk
      have hkk := of_decide_eq_true hkk
      subst hkk
      rw [fB_eq] at hk
      refine ⟨_, hk, fun r x y hx hy => ?_⟩
      cases hx; cases hy
      refine ⟨by simp [Instr.sameNow], fun h => ?_⟩
      have : a = b := by simpa using h
      subst this
      exact ⟨rfl, by simp [Instr.sameBits]⟩
    · cases hk
  · rename_i n N m M
    rw [fB_eq] at hk
    refine ⟨_, hk, fun r x y hx hy => ?_⟩
    cases hx; cases hy
    have e : (bytes (lst n N) == bytes (lst m M)) = eqNs n N m M := by rw [beq_toListBytes, toList_bytes, toList_bytes, eqNs_spec]
    refine ⟨by simp [Instr.sameNow, e], fun h => ?_⟩
    rw [← e] at h
    have : bytes (lst n N) = bytes (lst m M) := by
      have h2 := h
      rw [beq_toListBytes] at h2
      have h3 : (bytes (lst n N)).toList = (bytes (lst m M)).toList := by simpa using h2
      rw [toList_bytes, toList_bytes] at h3
      unfold bytes
      rw [h3]
    refine ⟨by rw [this], ?_⟩
    have hself : (bytes (lst n N) == bytes (lst n N)) = true := by rw [beq_toListBytes]; simp
    simp [Instr.sameBits, hself]
  · rename_i a b
    rw [fB_eq] at hk
    refine ⟨_, hk, fun r x y hx hy => ?_⟩
    cases hx; cases hy
    refine ⟨by simp [Instr.sameNow], fun h => ?_⟩
    have : a = b := by simpa using h
    subst this
    exact ⟨rfl, by simp [Instr.sameBits]⟩
  · cases hk
theorem findE_ok {v : AV} {t : TypeDesc} {k : AV} : ∀ {es : List (AV × AV × Nat)} {i : Nat} {c : Option (Nat × AV) → Out}, findE t k es i c = .ok v →
    ∃ res, c res = .ok v ∧ ∀ r x xs, VR r k x → ERs r es xs → (match res with
      | none => Instr.findNow t x xs i = some none
      | some (j, a) => ∃ y e, Instr.findNow t x xs i = some (some (j, y)) ∧ VR r a y ∧ i ≤ j ∧ xs[j - i]? = some e ∧ e.key = x ∧ Instr.sameBits 10000 x x = true)
  | [], i, c, h => ⟨none, h, fun r x xs hx he => by cases he; rfl⟩
  | (e, u, n) :: es, i, c, h => by
    unfold findE at h
    obtain ⟨b, h, hb⟩ := keyB_ok h
    cases b with
    | true =>
      refine ⟨_, h, fun r x xs hx he => ?_⟩
      obtain ⟨y, ys, rfl, e1, e2, e3, e4⟩ := he
      obtain ⟨b1, b2⟩ := hb r x y.key hx e1
      obtain ⟨b3, b4⟩ := b2 rfl
      exact ⟨y.val, y, by simp [Instr.findNow, b1], e2, Nat.le_refl _, by simp, b3.symm, b4⟩
    | false =>
      simp only [fN_eq] at h
      obtain ⟨res, h, hr⟩ := findE_ok h
      refine ⟨res, h, fun r x xs hx he => ?_⟩
      obtain ⟨y, ys, rfl, e1, e2, e3, e4⟩ := he
      obtain ⟨b1, _⟩ := hb r x y.key hx e1
      have := hr r x ys hx e4
      cases res with
      | none => simp only [Instr.findNow, b1]; exact this
      | some q =>
        obtain ⟨j, a⟩ := q
        obtain ⟨z, e', f1, f2, f3, f4, f5⟩ := this
        have hj : j - i = (j - (i + 1)) + 1 := by omega
        exact ⟨z, e', by simp only [Instr.findNow, b1]; exact f1, f2, by omega, by rw [hj]; simpa using f4, f5⟩
theorem run_findKey {w : World} {t : TypeId} {d : TypeDesc} {x : Value} {es : List MapEntry} {q : Option (Nat × Value)} (hu : P.underlying t = some d) (hf : Instr.findNow d x es 0 = some q) : (Instr.findKey t x es).run P w = .ok q w := by
  simp [Instr.findKey, run_underlying hu, hf]
theorem entriesK_ok {v : AV} {h : T} {m : AV} {c : List (AV × AV × Nat) → Out} (hk : entriesK h m c = .ok v) : ∃ es, c es = .ok v ∧ ∀ p lim r w vm, HR p lim r h.get w → VR r m vm →
    (vm = .map none ∧ es = []) ∨ ∃ (Bk : Nat) (xs : List MapEntry) (cl : Nat), vm = .map (some Bk) ∧ w.heap[Bk]? = some (.map xs.toArray cl) ∧ ERs r es xs := by
  unfold entriesK at hk
  split at hk
  · exact ⟨_, hk, fun p lim r w vm H hm => .inl ⟨hm, rfl⟩⟩
  · rename_i id
    split at hk
    · rename_i es cl hb
      refine ⟨_, hk, fun p lim r w vm H hm => .inr ?_⟩
      obtain ⟨Bk, O, K, hr, rfl⟩ := hm
      obtain ⟨_, _, _, e1, _, xs, e2, e3⟩ := H.blk id _ hb
      rw [hr] at e1; cases e1
      exact ⟨Bk, xs, cl, rfl, e2, e3⟩
    · cases hk
  · cases hk
theorem lookupK_ok {v : AV} {h : T} {t : TypeId} {m i : AV} {ok : Bool} {k : KO} (hk : lookupK P h t m i ok k = .ok v) :
    ∃ a, k a = .ok v ∧ ∀ p lim r w vm vi, HR p lim r h.get w → VR r m vm → VR r i vi → ∃ z, (Instr.lookup t vm vi ok).run P w = .ok z w ∧ VR r a z := by
  unfold lookupK at hk
  split at hk
  · rename_i kt et hu
    split at hk
    · rename_i kd hkd
      split at hk
      · rename_i hok
        obtain ⟨es, hk, he⟩ := entriesK_ok hk
        obtain ⟨res, hk, hr⟩ := findE_ok hk
        have run : ∀ p lim r w vm vi, HR p lim r h.get w → VR r m vm → VR r i vi → ∃ xs : List MapEntry, ERs r es xs ∧ (Instr.lookup t vm vi ok).run P w = (do
            let (v, o) ← match ← Instr.findKey kt vi xs with
              | some (_, v) => pure (v, true)
              | none => pure (← zeroValue et, false)
            pure (if ok then .tuple #[v, .bool o] else v) : Sem Value).run P w := fun p lim r w vm vi H hm hi => by
          have hp := okKey_ok hok hi
          rcases he p lim r w vm H hm with ⟨rfl, rfl⟩ | ⟨Bk, xs, cl, rfl, e1, e2⟩
          · exact ⟨[], rfl, by simp [Instr.lookup, run_underlying hu, run_checkKey hkd hp]; rfl⟩
          · exact ⟨xs, e2, by simp [Instr.lookup, run_underlying hu, getObj, Sem.run, e1, run_checkKey hkd hp]; rfl⟩
        split at hk
        · rename_i j u
          have fin : ∀ a, (a = if ok then AV.tu [u, .b true] else u) → ∀ p lim r w vm vi, HR p lim r h.get w → VR r m vm → VR r i vi → ∃ z, (Instr.lookup t vm vi ok).run P w = .ok z w ∧ VR r a z := fun a ha p lim r w vm vi H hm hi => by
            obtain ⟨xs, e1, e2⟩ := run p lim r w vm vi H hm hi
            obtain ⟨y, _, f1, f2, _⟩ := hr r vi xs hi e1
            refine ⟨if ok then .tuple #[y, .bool true] else y, ?_, ?_⟩
            · rw [e2]; simp [run_findKey hkd f1]
            · subst ha
              cases ok
              · simpa using f2
              · exact ⟨[y, .bool true], rfl, _, _, rfl, f2, _, _, rfl, rfl, rfl⟩
          split at hk
          · exact ⟨_, hk, fin _ (by rfl)⟩
          · exact ⟨_, hk, fin _ (by rfl)⟩
        · obtain ⟨z, zv, zi, hk, h1, h2, h3, h4⟩ := zeroK_ok hk
          have fin : ∀ a, (a = if ok then AV.tu [z, .b false] else z) → ∀ p lim r w vm vi, HR p lim r h.get w → VR r m vm → VR r i vi → ∃ z, (Instr.lookup t vm vi ok).run P w = .ok z w ∧ VR r a z := fun a ha p lim r w vm vi H hm hi => by
            obtain ⟨xs, e1, e2⟩ := run p lim r w vm vi H hm hi
            have f1 := hr r vi xs hi e1
            refine ⟨if ok then .tuple #[zv, .bool false] else zv, ?_, ?_⟩
            · rw [e2]; simp [run_findKey hkd f1, h4]
            · subst ha
              cases ok
              · simpa using h3 r
              · exact ⟨[zv, .bool false], rfl, _, _, rfl, h3 r, _, _, rfl, rfl, rfl⟩
          split at hk
          · exact ⟨_, hk, fin _ (by rfl)⟩
          · exact ⟨_, hk, fin _ (by rfl)⟩
      · cases hk
    · cases hk
  · cases hk
end Clo
end Go.Proofs.YtlcggjaogbclkaaDoor
