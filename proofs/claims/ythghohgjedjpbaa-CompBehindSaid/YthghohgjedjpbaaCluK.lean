/-
  Runs of closed calls by the kernel: new blocks, conversions, append, copy.
-/
import Derived.Test.YthghohgjedjpbaaCluJ
import Derived.Laws.MakeOwn
import Derived.Laws.RangeString
import Derived.Laws.BytesString
namespace Go.Proofs.Ythghohgjedjpbaa
namespace Clu
open Go.RowKit
set_option linter.unusedVariables false
variable {P : Program}

/-- what a run may turn of the heap -/
structure Keeps (lim : Nat) (h : T) (nx : Nat) (h' : T) (nx' : Nat) : Prop where
  le : nx ≤ nx'
  old : ∀ j, j < lim → h'.get j = h.get j
  out : ∀ j, h.get j = none → (j < nx ∨ nx' ≤ j) → h'.get j = none
  ro : ∀ j b, h'.get j = some b → b.ro = true → h.get j = some b
theorem Keeps.refl (lim : Nat) (h : T) (nx : Nat) : Keeps lim h nx h nx := ⟨Nat.le_refl _, fun _ _ => rfl, fun _ h _ => h, fun _ _ h _ => h⟩
theorem Keeps.trans {lim : Nat} {h h1 h2 : T} {n n1 n2 : Nat} (a : Keeps lim h n h1 n1) (b : Keeps lim h1 n1 h2 n2) : Keeps lim h n h2 n2 :=
  ⟨Nat.le_trans a.le b.le, fun j hj => by rw [b.old j hj, a.old j hj], fun j hj hk => by
    have := a.le; have := b.le
    exact b.out j (a.out j hj (by omega)) (by omega), fun j x hx hr => a.ro j x (b.ro j x hx hr) hr⟩
/-- what a run gives -/
def Res (p : Nat → Prop) (lim : Nat) (r : Rn) (nx nx' : Nat) (h' : T) (a : AV) (w : World) (R : Result Value) : Prop :=
  ∃ r' z w', R = .ok z w' ∧ Ext nx nx' r r' ∧ VR r' a z ∧ HR p lim r' h'.get w' ∧ Kp p w w'
theorem Res.pure {p : Nat → Prop} {lim : Nat} {r : Rn} {nx : Nat} {h : T} {a : AV} {w : World} {R : Result Value} {z : Value} (hR : R = .ok z w) (ha : VR r a z) (H : HR p lim r h.get w) : Res p lim r nx nx h a w R :=
  ⟨r, z, w, hR, Ext.refl _ _ _, ha, H, Kp.refl _ _⟩

theorem newK_ok {v : AV} {h : T} {nx : Nat} {b : Blk} {k : T → Nat → Out} (hk : newK h nx b k = .ok v) : ∃ h', k h' (nx + 1) = .ok v ∧ ∀ j, h'.get j = upd h.get nx (some b) j := by
  unfold newK at hk
  obtain ⟨h', h1, h2⟩ := Tr.setK_ok hk
  rw [fN_eq] at h1
  exact ⟨h', h1, h2⟩
theorem keeps_new {lim : Nat} {h h' : T} {nx : Nat} {b : Blk} (hl : lim ≤ nx) (e : ∀ j, h'.get j = upd h.get nx (some b) j) (hb : b.ro = false := by rfl) : Keeps lim h nx h' (nx + 1) :=
  ⟨Nat.le_succ _, fun j hj => by rw [e, upd_ne _ _ (by omega)], fun j hj hk => by rw [e, upd_ne _ _ (by omega)]; exact hj, fun j x hx hr => by
    rw [e] at hx
    by_cases hj : j = nx
    · subst hj; rw [upd_same] at hx; cases hx; rw [hb] at hr; cases hr
    · rwa [upd_ne _ _ hj] at hx⟩
theorem keeps_set {lim : Nat} {h h' : T} {nx : Nat} (e : KeepS lim h h') : Keeps lim h nx h' nx :=
  ⟨Nat.le_refl _, fun j hj => e.1 j (.inl hj), fun j hj _ => by rw [e.1 j (.inr hj)]; exact hj, e.2⟩
theorem alloc_cell {w : World} {xs : List Value} {ty : TypeId} {j : Nat} : (w.alloc (.cells xs.toArray ty)).cell? ⟨w.heap.size, j, none⟩ = xs[j]? := by
  simp only [World.cell?]
  rw [heap_alloc_new]
  simp
theorem alloc_frozen {w : World} {cs : Array Value} {ty : TypeId} {j : Nat} : (w.alloc (.cells cs ty)).frozen? ⟨w.heap.size, j, none⟩ = false := by
  simp only [World.frozen?]
  rw [heap_alloc_new]
  simp
theorem BR.fresh {r : Rn} {w : World} {nx : Nat} {cs : List AV} {xs zs : List Value} {ty : TypeId} {osz K : Nat} {pl : Option TypeId} (h : VRs r cs xs) (hr : r nx = some (w.heap.size, 0, K)) (hz : osz * K ≤ xs.length + zs.length) (hc : osz ≠ 0 → cs.length ≤ osz * K) (hpl : ∀ t, pl = some t → t = ty ∧ (zs = [] ∨ osz ≠ 0)) :
    BR r nx (.c cs 0 osz pl) (w.alloc (.cells (xs ++ zs).toArray ty)) := by
  refine ⟨w.heap.size, 0, K, hr, by simp, fun j a hj => ?_, fun j _ _ => alloc_frozen, fun o h1 h2 => ⟨?_, alloc_frozen⟩, hc, fun t ht => ?_, by simp only [World.shape?]; rw [heap_alloc_new]; rfl⟩
  · obtain ⟨x, h1, h2⟩ := h.get hj
    refine ⟨x, ?_, h2⟩
    rw [Nat.zero_add, alloc_cell, List.getElem?_append_left (List.getElem?_eq_some_iff.1 h1).1]
    exact h1
  · rw [Nat.zero_add, alloc_cell, List.getElem?_eq_getElem (by simp; omega)]
    rfl
  · obtain ⟨rfl, hz2⟩ := hpl t ht
    have hs : (w.alloc (.cells (xs ++ zs).toArray t)).shape? w.heap.size = some (t, (xs ++ zs).length) := by
      simp only [World.shape?]
      rw [heap_alloc_new]
      simp
    refine ⟨fun o => alloc_frozen, ?_⟩
    rw [hs]
    rcases hz2 with rfl | hz2
    · exact .inr (.inl ⟨rfl, by simp [h.length]⟩)
    · exact .inr (.inr ⟨hz2, rfl, _, by rw [List.length_append]; exact hz, rfl⟩)
theorem below_alloc (w : World) (o : Obj) : Below w.heap.size w (w.alloc o) := (Below.refl _ w).alloc (Nat.le_refl _) o
theorem below_drew_alloc (w : World) (o : Obj) : Below w.heap.size w (w.drew.alloc o) := ((Below.refl _ w).drew).alloc (Nat.le_refl _) o
/-- a new block of cells -/
theorem HR.fresh {p : Nat → Prop} {lim : Nat} {r : Rn} {h h' : T} {w : World} (H : HR p lim r h.get w) {nx : Nat} (hf : Free nx (nx + 1) r) {cs : List AV} {xs : List Value} (hx : VRs r cs xs) {ty : TypeId}
    (e : ∀ j, h'.get j = upd h.get nx (some (.c cs 0 0 (some ty))) j) : ∃ r', Ext nx (nx + 1) r r' ∧ Le r r' ∧ r' nx = some (w.heap.size, 0, 0) ∧ HR p lim r' h'.get (w.alloc (.cells xs.toArray ty)) ∧ Kp p w (w.alloc (.cells xs.toArray ty)) := by
  have hn : r nx = none := hf nx (Nat.le_refl _) (by omega)
  have hle := updR_le (w.heap.size, 0, 0) hn
  refine ⟨updR r nx (w.heap.size, 0, 0), Ext.one _, hle, updR_same _ _ _, ?_, Kp.of_below (below_alloc w _) H.bd⟩
  refine (H.new hn (below_alloc w _) (Nat.le_refl _) (b := .c cs 0 0 (some ty)) ?_).congr e
  have := BR.fresh (r := updR r nx (w.heap.size, 0, 0)) (nx := nx) (zs := []) (ty := ty) (osz := 0) (K := 0) (pl := some ty) (hx.mono hle) (updR_same _ _ _) (by simp) (fun h => absurd rfl h) (fun t ht => ⟨by cases ht; rfl, .inl rfl⟩)
  simpa using this

theorem repsK_eq (n : Nat) (z acc : List AV) (k : List AV → Out) : repsK n z acc k = k ((List.replicate n z).flatten ++ acc) := rfl
theorem flat_get {α : Type} (z : List α) : ∀ (n j : Nat), j < n * z.length → (List.replicate n z).flatten[j]? = z[j % z.length]?
  | 0, j, h => by simp at h
  | n + 1, j, h => by
    rw [List.replicate_succ, List.flatten_cons]
    by_cases hj : j < z.length
    · rw [List.getElem?_append_left hj, Nat.mod_eq_of_lt hj]
    · rw [List.getElem?_append_right (by omega), flat_get z n _ (by rw [Nat.add_mul] at h; omega)]
      congr 1
      rw [← Nat.mod_eq_sub_mod (by omega)]
theorem made_list (zc : Array Value) (n : Nat) : (madeCells zc (n * zc.size)).toList = (List.replicate n zc.toList).flatten := by
  apply List.ext_getElem?
  intro j
  by_cases hj : j < n * zc.size
  · rw [flat_get zc.toList n j (by simpa using hj)]
    have hz : 0 < zc.size := by rcases Nat.eq_zero_or_pos zc.size with h | h <;> simp [h] at hj ⊢
    have hm : j % zc.size < zc.size := Nat.mod_lt _ hz
    have h1 : (madeCells zc (n * zc.size)).toList[j]? = (madeCells zc (n * zc.size))[j]? := by simp
    rw [h1]
    have : j < (madeCells zc (n * zc.size)).size := by rw [size_madeCells]; exact hj
    rw [Array.getElem?_eq_getElem this]
    simp [madeCells, getElem!_pos, hm]
  · rw [List.getElem?_eq_none (by simp [madeCells]; omega), List.getElem?_eq_none (by simp [List.length_flatten]; omega)]
theorem VRs.flat {r : Rn} {z : List AV} {zs : List Value} (h : VRs r z zs) : ∀ n, VRs r (List.replicate n z).flatten (List.replicate n zs).flatten
  | 0 => rfl
  | n + 1 => by rw [List.replicate_succ, List.replicate_succ, List.flatten_cons, List.flatten_cons]; exact h.append (VRs.flat h n)

theorem makeSliceK_ok {v : AV} {lim : Nat} {h : T} {nx : Nat} {t : TypeId} {len cap : AV} {k : KV} (hl : lim ≤ nx) (hk : makeSliceK P h nx t len cap k = .ok v) :
    ∃ a h' nx', k a h' nx' = .ok v ∧ Keeps lim h nx h' nx' ∧ ∀ p r w vl vc, HR p lim r h.get w → Free nx nx' r → VR r len vl → VR r cap vc → Res p lim r nx nx' h' a w ((Instr.makeSlice t vl vc).run P w) := by
  unfold makeSliceK at hk
  split at hk
  · rename_i e hu
    split at hk
    · rename_i kl zl kc zc
      obtain ⟨l, hz, hq⟩ := natK_ok (fun h => by cases h) hk
      subst hz
      obtain ⟨c, hz, hq'⟩ := natK_ok (fun h => by cases h) hq
      subst hz
      clear hk hq
      have hk := hq'
      obtain ⟨h1, hk⟩ := recB_ok (fun h => by cases h) hk
      obtain ⟨h2, hk⟩ := recB_ok (fun h => by cases h) hk
      have h1 := ble_iff.1 h1
      have h2 := ble_iff.1 h2
      split at hk
      · rename_i i hi
        obtain ⟨h3, hk⟩ := recB_ok (fun h => by cases h) hk
        have h3 := ble_iff.1 h3
        obtain ⟨z, zv, zi, hk, hzi, hz, hzr, _, hznj⟩ := zeroK_ok hk
        rw [hi] at hzi; cases hzi
        rw [lenK_eq, Nat.zero_add] at hk
        split at hk
        · rename_i h4
          have h4 := beq_iff.1 h4
          rw [repsK_eq, List.append_nil] at hk
          obtain ⟨h', hk, e1⟩ := newK_ok hk
          refine ⟨_, h', nx + 1, hk, keeps_new hl e1, fun p r w vl vc H hf hvl hvc => ?_⟩
          cases hvl; cases hvc
          have hzc := (hzr r).cells hznj
          have hzl : zv.cells.size = i.size := by have := hzc.length; simp at this; omega
          have h3' : (i.bytes : Int) * (c : Int) ≤ 281474976710656 := by
            have : i.bytes * c ≤ 281474976710656 := h3
            omega
          have hrun := run_make w t e i zv hu hi hz kl kc (l : Int) (c : Int) (by omega) (by omega) h3' (by omega)
          have hml : VRs r (List.replicate c z.cells).flatten (madeCells zv.cells (c * i.size)).toList := by
            rw [← hzl, made_list]; exact hzc.flat c
          obtain ⟨r', x1, x2, x3, x4, x5⟩ := H.fresh hf hml (ty := e) e1
          rw [Array.toArray_toList] at x4 x5
          exact ⟨r', _, _, hrun, x1, ⟨w.heap.size, 0, 0, x3, by simp⟩, x4, x5⟩
        · cases hk
      · cases hk
    · cases hk
  · cases hk

theorem made_nil : madeCells #[] 0 = #[] := by simp [madeCells]
theorem buildSliceK_ok {v : AV} {lim : Nat} {fr : Fr} {h : T} {nx : Nat} {t : TypeId} {len : Nat} {parts : Array (Nat × Operand)} {k : KV} (hl : lim ≤ nx) (hk : buildSliceK P fr h nx t len parts.toList k = .ok v) :
    ∃ a h' nx', k a h' nx' = .ok v ∧ Keeps lim h nx h' nx' ∧ ∀ p r w ρ l, HR p lim r h.get w → Free nx nx' r → Env r fr ρ l → (∀ p ∈ parts, p.2 ∈ l) → Res p lim r nx nx' h' a w ((Instr.buildSlice t len (parts.map fun (i, x) => (i, ρ x))).run P w) := by
  unfold buildSliceK at hk
  split at hk
  · rename_i e hu
    obtain ⟨i, hi, hk, hsz⟩ := sizeK_ok hk
    split at hk
    · cases hk
    · rename_i h1
      have h1 : len * i.size ≤ 16777216 := ble_iff.1 h1
      obtain ⟨z, zv, zi, hk, hzi, hz, hzr, hzrun, hznj⟩ := zeroK_ok hk
      rw [hi] at hzi; cases hzi
      rw [lenK_eq, Nat.zero_add] at hk
      split at hk
      · cases hk
      · rename_i h4
        have h4 := beq_iff.1 h4
        rw [repsK_eq, List.append_nil] at hk
        obtain ⟨cs', hk, hlen, hf⟩ := fillK_ok (plc := fun j => some (j * i.size, i.size)) (fun j k v hk => by
          rw [fN_eq] at hk
          exact ⟨_, _, rfl, hk⟩) hk
        obtain ⟨h', hk, e1⟩ := newK_ok hk
        refine ⟨_, h', nx + 1, hk, keeps_new hl e1, fun p r w ρ l H hfr he hm => ?_⟩
        have hzc := (hzr r).cells hznj
        have hzl : zv.cells.size = i.size := by have := hzc.length; simp at this; omega
        have hml : VRs r (List.replicate len z.cells).flatten (madeCells zv.cells (len * i.size)).toList := by
          rw [← hzl, made_list]; exact hzc.flat len
        obtain ⟨xs', f1, f2⟩ := hf r ρ _ l hml he (fun p hp => hm p (by simpa using hp))
        obtain ⟨r', x1, x2, x3, x4, x5⟩ := H.fresh hfr f2 (ty := e) e1
        refine ⟨r', .slice (some ⟨w.heap.size, 0, none⟩) len len, _, ?_, x1, ⟨w.heap.size, 0, 0, x3, rfl⟩, x4, x5⟩
        have hpl : (parts.map fun (p : Nat × Operand) => (p.1, ρ p.2)).toList = parts.toList.map fun p => (p.1, ρ p.2) := by simp
        rw [Array.toArray_toList] at f1
        have hn : ¬ (len * i.size > 2 ^ 24) := by omega
        by_cases h0 : len * i.size = 0
        · have hr : Array.range 0 = #[] := by simp
          rw [h0, madeCells, hr, Array.map_empty] at f1
          simp only [Instr.buildSlice, Sem.run_bind, run_underlying hu, Result.andThen_ok, hsz, h0, if_true, hpl]
          simp [hr, f1, newRow]
        · simp only [Instr.buildSlice, Sem.run_bind, run_underlying hu, Result.andThen_ok, hsz, if_neg hn, Sem.run_pure, if_neg h0, hzrun, hpl]
          have f1' : Instr.fill (fun j => some (j * i.size, i.size)) ((Array.range (len * i.size)).map fun j => zv.cells[j % zv.cells.size]!) (parts.toList.map fun p => (p.1, ρ p.2)) = some xs'.toArray := f1
          simp [f1', newRow]
  · cases hk
/-- texts that are ranged over -/
theorem rangeK_ok {v : AV} {lim : Nat} {h : T} {nx : Nat} {t : TypeId} {x : AV} {k : KV} (hl : lim ≤ nx) (hk : rangeK P h nx t x k = .ok v) :
    ∃ a h' nx', k a h' nx' = .ok v ∧ Keeps lim h nx h' nx' ∧ ∀ p r w vx, HR p lim r h.get w → Free nx nx' r → VR r x vx → Res p lim r nx nx' h' a w ((Instr.range t vx).run P w) := by
  unfold rangeK at hk
  split at hk
  · rename_i m N hu
    obtain ⟨h', hk, e1⟩ := newK_ok hk
    refine ⟨_, h', nx + 1, hk, keeps_new hl e1, fun p r w vx H hf hx => ?_⟩
    cases hx
    have hn : r nx = none := hf nx (Nat.le_refl _) (by omega)
    refine ⟨updR r nx (w.heap.size, 0, 0), _, _, run_range_string w t _ hu, Ext.one _, ⟨w.heap.size, 0, 0, updR_same _ _ _, rfl⟩, ?_, Kp.of_below (below_alloc w _) H.bd⟩
    refine (H.new hn (below_alloc w (.stringIter (bytes (lst m N)) 0)) (Nat.le_refl _) (b := .it m N 0) ?_).congr e1
    exact ⟨w.heap.size, 0, 0, updR_same _ _ _, by simp, rfl, heap_alloc_new w _⟩
  · cases hk
theorem get_byte {n N i : Nat} (h : i < n) : ((bytes (lst n N)).get! i).toNat = byteN N i := by
  have e : (bytes (lst n N)).get! i = UInt8.ofNat (byteN N i) := by
    have hb : i < (bytes (lst n N)).size := by rw [bytes_size, lst_length]; exact h
    show (bytes (lst n N)).data[i]! = _
    rw [getElem!_pos (bytes (lst n N)).data i hb]
    have : (lst n N)[i]'(by rw [lst_length]; exact h) = byteN N i := (List.getElem?_eq_some_iff.1 (lst_get h)).2
    simp [bytes, this]
  rw [e, u8_mod]
  exact Nat.mod_eq_of_lt (Nat.mod_lt _ (by decide))
theorem atN_eq {n N i : Nat} (h : i < n) : atN n N i = ((bytes (lst n N)).get! i).toNat := by
  rw [get_byte h]
  show @Bool.rec (fun _ => Nat) 0 (byteN N i) (Nat.blt i n) = _
  rw [blt_iff.2 h]
theorem contB_eq (n N i : Nat) : contB n N i = (decide (i < (bytes (lst n N)).size) && ((bytes (lst n N)).get! i).toNat / 64 == 2) := by
  rw [bytes_size, lst_length]
  by_cases h : i < n
  · rw [get_byte h]
    show @Bool.rec (fun _ => Bool) false (Nat.beq (Nat.div (byteN N i) 64) 2) (Nat.blt i n) = _
    rw [blt_iff.2 h, natbeq]
    simp [h]; rfl
  · show @Bool.rec (fun _ => Bool) false (Nat.beq (Nat.div (byteN N i) 64) 2) (Nat.blt i n) = _
    rw [blt_ff.2 (by omega)]
    simp [h]
theorem decL_eq {n N i : Nat} (h : i < n) : decL n N i = Utf8.decode (bytes (lst n N)) i := by
  have h0 : atN n N i = ((bytes (lst n N)).get! (i + 0)).toNat := atN_eq h
  have ha : ∀ j, contB n N j = true → atN n N j = ((bytes (lst n N)).get! j).toNat := fun j hj => by
    rw [contB_eq] at hj
    simp only [Bool.and_eq_true, decide_eq_true_eq, bytes_size, lst_length] at hj
    exact atN_eq hj.1
  unfold decL Utf8.decode
  simp only [h0, ← contB_eq]
  by_cases c1 : contB n N (i + 1) = true <;> by_cases c2 : contB n N (i + 2) = true <;> by_cases c3 : contB n N (i + 3) = true <;> simp [c1, c2, c3, ha]
end Clu
end Go.Proofs.Ythghohgjedjpbaa
