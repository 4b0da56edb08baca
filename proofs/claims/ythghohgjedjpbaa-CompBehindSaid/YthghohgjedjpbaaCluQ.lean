/-
  Runs of closed calls by the kernel: maps that are written, builtin functions, methods.
-/
import Derived.Test.YthghohgjedjpbaaCluO
namespace Go.Proofs.Ythghohgjedjpbaa
namespace Clu
open Go.RowKit
set_option linter.unusedVariables false
variable {P : Program}

def setEL : List (AV × AV × Nat) → Nat → AV → AV → List (AV × AV × Nat)
  | [], _, _, _ => []
  | (_, _, n) :: l, 0, k, v => (k, v, n) :: l
  | e :: l, i + 1, k, v => e :: setEL l i k v
theorem setE_eq : ∀ (l : List (AV × AV × Nat)) (i : Nat) (k v : AV) (c : List (AV × AV × Nat) → Out), setE l i k v c = c (setEL l i k v)
  | [], _, _, _, _ => rfl
  | (_, _, _) :: _, 0, _, _, _ => rfl
  | e :: l, i + 1, k, v, c => by rw [setE, setE_eq l i]; rfl
theorem eraseE_eq : ∀ (l : List (AV × AV × Nat)) (i : Nat) (c : List (AV × AV × Nat) → Out), eraseE l i c = c (l.eraseIdx i)
  | [], _, _ => rfl
  | _ :: _, 0, _ => rfl
  | e :: l, i + 1, c => by rw [eraseE, eraseE_eq l i]; rfl
theorem ERs.set {r : Rn} : ∀ {es : List (AV × AV × Nat)} {xs : List MapEntry} {i : Nat} {k v : AV} {x y : Value}, ERs r es xs → VR r k x → VR r v y → ERs r (setEL es i k v) (xs.modify i fun e => { e with key := x, val := y })
  | [], _, i, _, _, _, _, h, _, _ => by cases h; cases i <;> rfl
  | (a, b, n) :: es, _, 0, _, _, x, y, ⟨z, zs, h1, h2, h3, h4, h5⟩, hk, hv => by subst h1; exact ⟨{ z with key := x, val := y }, zs, rfl, hk, hv, h4, h5⟩
  | (a, b, n) :: es, _, i + 1, _, _, x, y, ⟨z, zs, h1, h2, h3, h4, h5⟩, hk, hv => by subst h1; exact ⟨z, _, rfl, h2, h3, h4, ERs.set h5 hk hv⟩
theorem ERs.erase {r : Rn} : ∀ {es : List (AV × AV × Nat)} {xs : List MapEntry} {i : Nat}, ERs r es xs → ERs r (es.eraseIdx i) (xs.eraseIdx i)
  | [], _, i, h => by cases h; rfl
  | (a, b, n) :: es, _, 0, ⟨z, zs, h1, h2, h3, h4, h5⟩ => by subst h1; exact h5
  | (a, b, n) :: es, _, i + 1, ⟨z, zs, h1, h2, h3, h4, h5⟩ => by subst h1; exact ⟨z, _, rfl, h2, h3, h4, ERs.erase h5⟩
theorem ERs.push {r : Rn} {k v : AV} {x y : Value} {c : Nat} (hk : VR r k x) (hv : VR r v y) : ∀ {es : List (AV × AV × Nat)} {xs : List MapEntry}, ERs r es xs → ERs r (es ++ [(k, v, c)]) (xs ++ [{ key := x, val := y, born := c }])
  | [], _, h => by cases h; exact ⟨_, [], rfl, hk, hv, rfl, rfl⟩
  | (a, b, n) :: es, _, ⟨z, zs, h1, h2, h3, h4, h5⟩ => by subst h1; exact ⟨z, _, rfl, h2, h3, h4, ERs.push hk hv h5⟩
theorem ERs.length {r : Rn} : ∀ {es : List (AV × AV × Nat)} {xs : List MapEntry}, ERs r es xs → xs.length = es.length
  | [], _, h => by cases h; rfl
  | (a, b, n) :: es, _, ⟨z, zs, h1, h2, h3, h4, h5⟩ => by subst h1; simp [ERs.length h5]
theorem keep_of {lim : Nat} {h h' : T} {id : Nat} {b b' : Blk} (hb : h.get id = some b) (hl : lim ≤ id) (e : ∀ j, h'.get j = upd h.get id (some b') j) (hro : b'.ro = false := by rfl) : KeepS lim h h' := KeepS.upd hb hl e hro
theorem mapUpdateK_ok {v : AV} {lim : Nat} {h : T} {t : TypeId} {m i x : AV} {c : T → Out} (hk : mapUpdateK P lim h t m i x c = .ok v) :
    ∃ h', c h' = .ok v ∧ KeepS lim h h' ∧ ∀ p r w vm vi vx, HR p lim r h.get w → VR r m vm → VR r i vi → VR r x vx →
      ∃ w', (Instr.mapUpdate t vm vi vx).run P w = .ok () w' ∧ HR p lim r h'.get w' ∧ Kp p w w' := by
  unfold mapUpdateK at hk
  split at hk
  · rename_i kt et hu
    split at hk
    · rename_i kd hkd
      split at hk
      · rename_i hok
        split at hk
        · rename_i id
          split at hk
          · rename_i hl
            have hl := ble_iff.1 hl
            split at hk
            · rename_i es clock hb
              obtain ⟨res, hk, hr⟩ := findE_ok hk
              split at hk
              · rename_i j u
                rw [setE_eq] at hk
                obtain ⟨h', hk, e1⟩ := Tr.setK_ok hk
                refine ⟨h', hk, keep_of hb hl e1, fun p r w vm vi vx H hm hi hx => ?_⟩
                obtain ⟨Bk, O, K, hrr, rfl⟩ := hm
                obtain ⟨_, _, _, e0, hlt, xs, e2, e3⟩ := H.blk id _ hb
                rw [hrr] at e0; cases e0
                obtain ⟨y, e, f1, f2, f3, f4, f5, _, _, f6⟩ := hr p lim r w vi xs H hi e3
                have hp : ∀ w empty, (Instr.checkKey empty 10000 kt vi).run P w = .ok () w := fun w empty => okKey_run (n := 9998) hkd hok hi w empty
                obtain ⟨H', K'⟩ := H.obj hb hl hrr (.map (xs.toArray.modify j fun e => { e with key := vi, val := vx }) clock) (b' := .mp (setEL es j i x) clock)
                  ⟨Bk, O, K, hrr, by simpa using hlt, xs.modify j fun e => { e with key := vi, val := vx }, by show (w.heap.setIfInBounds Bk _)[Bk]? = _; simp [hlt], e3.set hi hx⟩
                refine ⟨_, ?_, H'.congr e1, K'⟩
                have f4' : xs[j]? = some e := by simpa using f4
                have hself : Instr.sameBits 10000 vi vi = true := f6
                have hst : ∀ w : World, (Instr.keyThatStays (((xs.toArray[j]?).map (·.key)).getD vi) vi).run P w = .ok vi w := fun w => by
                  simp [f4', f5, Instr.keyThatStays, hself]
                simp only [Instr.mapUpdate, Sem.run_bind, run_underlying hu, Result.andThen_ok, getObj, Sem.run, e2, hp, run_findKey hkd f1, hst]
                simp [setObj, Sem.run, e2]
              · rw [appK_eq, fN_eq] at hk
                obtain ⟨h', hk, e1⟩ := Tr.setK_ok hk
                refine ⟨h', hk, keep_of hb hl e1, fun p r w vm vi vx H hm hi hx => ?_⟩
                obtain ⟨Bk, O, K, hrr, rfl⟩ := hm
                obtain ⟨_, _, _, e0, hlt, xs, e2, e3⟩ := H.blk id _ hb
                rw [hrr] at e0; cases e0
                have f1 := hr p lim r w vi xs H hi e3
                have hp : ∀ w empty, (Instr.checkKey empty 10000 kt vi).run P w = .ok () w := fun w empty => okKey_run (n := 9998) hkd hok hi w empty
                obtain ⟨H', K'⟩ := H.obj hb hl hrr (.map (xs.toArray.push { key := vi, val := vx, born := clock }) (clock + 1)) (b' := .mp (es ++ [(i, x, clock)]) (clock + 1))
                  ⟨Bk, O, K, hrr, by simpa using hlt, xs ++ [{ key := vi, val := vx, born := clock }], by show (w.heap.setIfInBounds Bk _)[Bk]? = _; simp [hlt], e3.push hi hx⟩
                refine ⟨_, ?_, H'.congr e1, K'⟩
                simp only [Instr.mapUpdate, Sem.run_bind, run_underlying hu, Result.andThen_ok, getObj, Sem.run, e2, hp, run_findKey hkd f1]
                simp [setObj, Sem.run, e2]
            · cases hk
          · cases hk
        · cases hk
      · cases hk
    · cases hk
  · cases hk
def setVL : List (AV × AV × Nat) → Nat → AV → List (AV × AV × Nat)
  | [], _, _ => []
  | (k, _, n) :: l, 0, v => (k, v, n) :: l
  | e :: l, i + 1, v => e :: setVL l i v
theorem setV_eq : ∀ (l : List (AV × AV × Nat)) (i : Nat) (v : AV) (c : List (AV × AV × Nat) → Out), setV l i v c = c (setVL l i v)
  | [], _, _, _ => rfl
  | (_, _, _) :: _, 0, _, _ => rfl
  | e :: l, i + 1, v, c => by rw [setV, setV_eq l i]; rfl
theorem ERs.setV {r : Rn} : ∀ {es : List (AV × AV × Nat)} {xs : List MapEntry} {i : Nat} {v : AV} {y : Value}, ERs r es xs → VR r v y → ERs r (setVL es i v) (xs.modify i fun e => { e with val := y })
  | [], _, i, _, _, h, _ => by cases h; cases i <;> rfl
  | (a, b, n) :: es, _, 0, _, y, ⟨z, zs, h1, h2, h3, h4, h5⟩, hv => by subst h1; exact ⟨{ z with val := y }, zs, rfl, h2, hv, h4, h5⟩
  | (a, b, n) :: es, _, i + 1, _, y, ⟨z, zs, h1, h2, h3, h4, h5⟩, hv => by subst h1; exact ⟨z, _, rfl, h2, h3, h4, ERs.setV h5 hv⟩
theorem ERs.setKey {r : Rn} : ∀ {es : List (AV × AV × Nat)} {xs : List MapEntry} {i : Nat} {k u : AV} {x : Value}, ERs r es xs → VR r k x → (es[i]?).map (·.2.1) = some u → ERs r (setEL es i k u) (xs.modify i fun e => { e with key := x })
  | [], _, i, _, _, _, h, _, hu => by simp at hu
  | (a, b, n) :: es, _, 0, _, u, x, ⟨z, zs, h1, h2, h3, h4, h5⟩, hk, hu => by
    subst h1
    have hu : b = u := by simpa using hu
    subst hu
    exact ⟨{ z with key := x }, zs, rfl, hk, h3, h4, h5⟩
  | (a, b, n) :: es, _, i + 1, _, _, x, ⟨z, zs, h1, h2, h3, h4, h5⟩, hk, hu => by subst h1; exact ⟨z, _, rfl, h2, h3, h4, ERs.setKey h5 hk (by simpa using hu)⟩
theorem ERs.born {r : Rn} : ∀ {es : List (AV × AV × Nat)} {xs : List MapEntry} {i : Nat} {e : AV × AV × Nat} {x : MapEntry}, ERs r es xs → es[i]? = some e → xs[i]? = some x → x.born = e.2.2
  | [], _, i, _, _, h, he, _ => by simp at he
  | (a, b, n) :: es, _, 0, _, _, ⟨z, zs, h1, h2, h3, h4, h5⟩, he, hx => by
    subst h1
    simp at he hx
    subst he hx
    exact h4.symm
  | (a, b, n) :: es, _, i + 1, _, _, ⟨z, zs, h1, h2, h3, h4, h5⟩, he, hx => by subst h1; exact ERs.born h5 (by simpa using he) (by simpa using hx)
theorem bornE_ok {v : AV} {n : Nat} : ∀ {es : List (AV × AV × Nat)} {i : Nat} {c : Nat → Out}, bornE n es i c = .ok v → ∃ j, c (i + j) = .ok v ∧ ∀ r xs, ERs r es xs → xs.findIdx? (fun e => (e.born : Int) == (n : Int)) = some j
  | [], i, c, h => by cases h
  | (a, b, m) :: es, i, c, h => by
    unfold bornE at h
    split at h
    · rename_i hm
      have hm := beq_iff.1 hm
      subst hm
      refine ⟨0, h, fun r xs he => ?_⟩
      obtain ⟨z, zs, rfl, h2, h3, h4, h5⟩ := he
      subst h4
      simp [List.findIdx?_cons]
    · rename_i hm
      have hm := beq_ff.1 hm
      rw [fN_eq] at h
      obtain ⟨j, h, hj⟩ := bornE_ok h
      refine ⟨j + 1, by rw [show i + (j + 1) = Nat.succ i + j from by omega]; exact h, fun r xs he => ?_⟩
      obtain ⟨z, zs, rfl, h2, h3, h4, h5⟩ := he
      have hne : ((z.born : Int) == (n : Int)) = false := by
        rw [← h4, beq_eq_false_iff_ne]
        exact fun h => hm (by exact_mod_cast h)
      simp [List.findIdx?_cons, hne, hj r zs h5]
theorem mapEntryK_ok {v : AV} {lim : Nat} {h : T} {t : TypeId} {m i : AV} {c : AV → T → Out} (hk : mapEntryK P lim h t m i c = .ok v) :
    ∃ a h', c a h' = .ok v ∧ KeepS lim h h' ∧ ∀ p r w vm vi, HR p lim r h.get w → VR r m vm → VR r i vi →
      ∃ z w', (Instr.mapEntry t vm vi).run P w = .ok z w' ∧ VR r a z ∧ HR p lim r h'.get w' ∧ Kp p w w' := by
  unfold mapEntryK at hk
  split at hk
  · rename_i kt et hu
    split at hk
    · rename_i kd hkd
      split at hk
      · rename_i hok
        split at hk
        · rename_i id
          split at hk
          · rename_i hl
            have hl := ble_iff.1 hl
            split at hk
            · rename_i es clock hb
              obtain ⟨res, hk, hr⟩ := findE_ok hk
              split at hk
              · rename_i j u
                rw [getL_eq] at hk
                split at hk
                · rename_i en hen
                  rw [setE_eq] at hk
                  obtain ⟨h', hk, e1⟩ := Tr.setK_ok hk
                  refine ⟨_, h', hk, keep_of hb hl e1, fun p r w vm vi H hm hi => ?_⟩
                  obtain ⟨Bk, O, K, hrr, rfl⟩ := hm
                  obtain ⟨_, _, _, e0, hlt, xs, e2, e3⟩ := H.blk id _ hb
                  rw [hrr] at e0; cases e0
                  obtain ⟨y, e, f1, f2, f3, f4, f5, f6, f7, f8⟩ := hr p lim r w vi xs H hi e3
                  have hp : ∀ w empty, (Instr.checkKey empty 10000 kt vi).run P w = .ok () w := fun w empty => okKey_run (n := 9998) hkd hok hi w empty
                  obtain ⟨H', K'⟩ := H.obj hb hl hrr (.map (xs.toArray.modify j fun e => { e with key := vi }) clock) (b' := .mp (setEL es j i u) clock)
                    ⟨Bk, O, K, hrr, by simpa using hlt, xs.modify j fun e => { e with key := vi }, by show (w.heap.setIfInBounds Bk _)[Bk]? = _; simp [hlt], e3.setKey hi (by simpa using f7)⟩
                  have f4' : xs[j]? = some e := by simpa using f4
                  have hself : Instr.sameBits 10000 vi vi = true := f8
                  have hborn : e.born = en.2.2 := e3.born hen f4'
                  refine ⟨.tuple #[y, goInt (en.2.2 : Nat)], _, ?_, ⟨[y, goInt (en.2.2 : Nat)], rfl, _, _, rfl, f2, _, _, rfl, rfl, rfl⟩, H'.congr e1, K'⟩
                  have hst : ∀ w : World, (Instr.keyThatStays (((xs.toArray[j]?).map (·.key)).getD vi) vi).run P w = .ok vi w := fun w => by
                    simp [f4', f5, Instr.keyThatStays, hself]
                  simp only [Instr.mapEntry, Sem.run_bind, run_underlying hu, Result.andThen_ok, getObj, Sem.run, e2, hp, run_findKey hkd f1, hst]
                  simp [setObj, Sem.run, e2, f4', hborn]
                · cases hk
              · obtain ⟨z, zv, zi, hk, h1, h2, h3, h4, hznj⟩ := zeroK_ok hk
                rw [appK_eq, fN_eq] at hk
                obtain ⟨h', hk, e1⟩ := Tr.setK_ok hk
                refine ⟨_, h', hk, keep_of hb hl e1, fun p r w vm vi H hm hi => ?_⟩
                obtain ⟨Bk, O, K, hrr, rfl⟩ := hm
                obtain ⟨_, _, _, e0, hlt, xs, e2, e3⟩ := H.blk id _ hb
                rw [hrr] at e0; cases e0
                have f1 := hr p lim r w vi xs H hi e3
                have hp : ∀ w empty, (Instr.checkKey empty 10000 kt vi).run P w = .ok () w := fun w empty => okKey_run (n := 9998) hkd hok hi w empty
                obtain ⟨H', K'⟩ := H.obj hb hl hrr (.map (xs.toArray.push { key := vi, val := zv, born := clock }) (clock + 1)) (b' := .mp (es ++ [(i, z, clock)]) (clock + 1))
                  ⟨Bk, O, K, hrr, by simpa using hlt, xs ++ [{ key := vi, val := zv, born := clock }], by show (w.heap.setIfInBounds Bk _)[Bk]? = _; simp [hlt], e3.push hi (h3 r)⟩
                refine ⟨.tuple #[zv, goInt (clock : Nat)], _, ?_, ⟨[zv, goInt (clock : Nat)], rfl, _, _, rfl, h3 r, _, _, rfl, rfl, rfl⟩, H'.congr e1, K'⟩
                simp only [Instr.mapEntry, Sem.run_bind, run_underlying hu, Result.andThen_ok, getObj, Sem.run, e2, hp, run_findKey hkd f1]
                simp [h4, setObj, Sem.run, e2]
            · cases hk
          · cases hk
        · cases hk
      · cases hk
    · cases hk
  · cases hk
theorem entryStoreK_ok {v : AV} {lim : Nat} {h : T} {m i x : AV} {c : T → Out} (hk : entryStoreK lim h m i x c = .ok v) :
    ∃ h', c h' = .ok v ∧ KeepS lim h h' ∧ ∀ p r w t vm vi vx, HR p lim r h.get w → VR r m vm → VR r i vi → VR r x vx →
      ∃ w', (Instr.entryStore t vm vi vx).run P w = .ok () w' ∧ HR p lim r h'.get w' ∧ Kp p w w' := by
  unfold entryStoreK at hk
  split at hk
  · rename_i id kd n
    split at hk
    · rename_i hl
      have hl := ble_iff.1 hl
      split at hk
      · rename_i es clock hb
        obtain ⟨j, hk, hj⟩ := bornE_ok hk
        rw [Nat.zero_add, setV_eq] at hk
        obtain ⟨h', hk, e1⟩ := Tr.setK_ok hk
        refine ⟨h', hk, keep_of hb hl e1, fun p r w t vm vi vx H hm hi hx => ?_⟩
        obtain ⟨Bk, O, K, hrr, rfl⟩ := hm
        cases hi
        obtain ⟨_, _, _, e0, hlt, xs, e2, e3⟩ := H.blk id _ hb
        rw [hrr] at e0; cases e0
        have f1 := hj r xs e3
        obtain ⟨H', K'⟩ := H.obj hb hl hrr (.map (xs.toArray.modify j fun e => { e with val := vx }) clock) (b' := .mp (setVL es j x) clock)
          ⟨Bk, O, K, hrr, by simpa using hlt, xs.modify j fun e => { e with val := vx }, by show (w.heap.setIfInBounds Bk _)[Bk]? = _; simp [hlt], e3.setV hx⟩
        refine ⟨_, ?_, H'.congr e1, K'⟩
        simp only [Instr.entryStore, Sem.run_bind, Result.andThen_ok, getObj, Sem.run, e2]
        simp [asInt, asIntOf, f1, setObj, Sem.run, e2]
      · cases hk
    · cases hk
  · cases hk
theorem deleteK_ok {v : AV} {lim : Nat} {h : T} {t : TypeId} {m i : AV} {c : T → Out} (hk : deleteK P lim h t m i c = .ok v) :
    ∃ h', c h' = .ok v ∧ KeepS lim h h' ∧ ∀ p r w vm vi u ty, HR p lim r h.get w → VR r m vm → VR r i vi →
      ∃ w', (Builtin.delete_ #[t, u] ty #[vm, vi]).run P w = .ok (.tuple #[]) w' ∧ HR p lim r h'.get w' ∧ Kp p w w' := by
  unfold deleteK at hk
  split at hk
  · rename_i kt et hu
    split at hk
    · rename_i kd hkd
      split at hk
      · rename_i hok
        split at hk
        · refine ⟨h, hk, KeepS.refl _ _, fun p r w vm vi u ty H hm hi => ⟨w, ?_, H, Kp.refl _ _⟩⟩
          cases hm
          have hp : ∀ w empty, (Instr.checkKey empty 10000 kt vi).run P w = .ok () w := fun w empty => okKey_run (n := 9998) hkd hok hi w empty
          simp [Builtin.delete_, run_underlying hu, hp]
        · rename_i id
          split at hk
          · rename_i hl
            have hl := ble_iff.1 hl
            split at hk
            · rename_i es clock hb
              obtain ⟨res, hk, hr⟩ := findE_ok hk
              split at hk
              · rename_i j u0
                rw [eraseE_eq] at hk
                obtain ⟨h', hk, e1⟩ := Tr.setK_ok hk
                refine ⟨h', hk, keep_of hb hl e1, fun p r w vm vi u ty H hm hi => ?_⟩
                obtain ⟨Bk, O, K, hrr, rfl⟩ := hm
                obtain ⟨_, _, _, e0, hlt, xs, e2, e3⟩ := H.blk id _ hb
                rw [hrr] at e0; cases e0
                obtain ⟨y, e, f1, _⟩ := hr p lim r w vi xs H hi e3
                have hp : ∀ w empty, (Instr.checkKey empty 10000 kt vi).run P w = .ok () w := fun w empty => okKey_run (n := 9998) hkd hok hi w empty
                obtain ⟨H', K'⟩ := H.obj hb hl hrr (.map (xs.toArray.eraseIdxIfInBounds j) clock) (b' := .mp (es.eraseIdx j) clock)
                  ⟨Bk, O, K, hrr, by simpa using hlt, xs.eraseIdx j, by show (w.heap.setIfInBounds Bk _)[Bk]? = _; simp [hlt], e3.erase⟩
                refine ⟨_, ?_, H'.congr e1, K'⟩
                simp [Builtin.delete_, run_underlying hu, getObj, setObj, Sem.run, e2, hp, run_findKey hkd f1]
              · refine ⟨h, hk, KeepS.refl _ _, fun p r w vm vi u ty H hm hi => ?_⟩
                obtain ⟨Bk, O, K, hrr, rfl⟩ := hm
                obtain ⟨_, _, _, e0, hlt, xs, e2, e3⟩ := H.blk id _ hb
                rw [hrr] at e0; cases e0
                have f1 := hr p lim r w vi xs H hi e3
                have hp : ∀ w empty, (Instr.checkKey empty 10000 kt vi).run P w = .ok () w := fun w empty => okKey_run (n := 9998) hkd hok hi w empty
                obtain ⟨H', K'⟩ := H.obj hb hl hrr (.map xs.toArray clock) (b' := .mp es clock)
                  ⟨Bk, O, K, hrr, by simpa using hlt, xs, by show (w.heap.setIfInBounds Bk _)[Bk]? = _; simp [hlt], e3⟩
                refine ⟨_, ?_, H'.congr (fun j => ?_), K'⟩
                · simp [Builtin.delete_, run_underlying hu, getObj, setObj, Sem.run, e2, hp, run_findKey hkd f1]
                · by_cases hj : j = id
                  · subst hj; rw [upd_same, hb]
                  · rw [upd_ne _ _ hj]
            · cases hk
          · cases hk
        · cases hk
      · cases hk
    · cases hk
  · cases hk
end Clu
end Go.Proofs.Ythghohgjedjpbaa
