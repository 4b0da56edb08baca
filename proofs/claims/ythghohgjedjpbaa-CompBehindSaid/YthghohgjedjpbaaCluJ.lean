/-
  Runs of closed calls by the kernel: indexes, fields, parts put together.
-/
import Derived.Test.YthghohgjedjpbaaCluI
namespace Go.Proofs.Ythghohgjedjpbaa
namespace Clu
open Go.RowKit
set_option linter.unusedVariables false
variable {P : Program}

theorem ixK_ok {v : AV} {x : AV} {n : Nat} {k : Nat → Out} (hk : ixK x n k = .ok v) : ∃ (i : Nat) (kd : IntKind), x = .i kd (i : Int) ∧ i < n ∧ k i = .ok v := by
  unfold ixK at hk
  split at hk
  · rename_i kd z
    obtain ⟨i, hz, hq⟩ := natK_ok (fun h => by cases h) hk
    subst hz
    cases h : Nat.blt i n with
    | true => rw [h] at hq; exact ⟨i, kd, rfl, blt_iff.1 h, hq⟩
    | false => rw [h] at hq; cases hq
  · cases hk
theorem indexAddrK_ok {v : AV} {t : TypeId} {x ix : AV} {k : KO} (hk : indexAddrK P t x ix k = .ok v) :
    ∃ a, k a = .ok v ∧ ∀ r w vx vi, VR r x vx → VR r ix vi → ∃ z, (Instr.indexAt t vx vi).run P w = .ok z w ∧ VR r a z := by
  unfold indexAddrK at hk
  split at hk
  · rename_i n e hu
    split at hk
    · rename_i id off
      obtain ⟨i, kd, rfl, hi, hk⟩ := ixK_ok hk
      obtain ⟨inf, hinf, hk, hsz⟩ := sizeK_ok hk
      rw [fN_eq] at hk
      refine ⟨_, hk, fun r w vx vi hx hv => ?_⟩
      obtain ⟨Bk, O, K, hr, rfl⟩ := hx
      cases hv
      refine ⟨.pointer (some ⟨Bk, O + off + i * inf.size, none⟩), ?_, ⟨Bk, O, K, hr, by rw [Nat.add_assoc]; rfl⟩⟩
      simp [Instr.indexAt, asIntOf, run_underlying hu, Instr.sureAddr, hi, hsz, add_mid]
    · cases hk
  · rename_i e hu
    split at hk
    · rename_i id off len cap
      obtain ⟨i, kd, rfl, hi, hk⟩ := ixK_ok hk
      obtain ⟨inf, hinf, hk, hsz⟩ := sizeK_ok hk
      rw [fN_eq] at hk
      refine ⟨_, hk, fun r w vx vi hx hv => ?_⟩
      obtain ⟨Bk, O, K, hr, rfl⟩ := hx
      cases hv
      refine ⟨.pointer (some ⟨Bk, O + off + i * inf.size, none⟩), ?_, ⟨Bk, O, K, hr, by rw [Nat.add_assoc]; rfl⟩⟩
      simp [Instr.indexAt, asIntOf, run_underlying hu, hi, hsz, add_mid]
    · rename_i id d sz' len
      obtain ⟨i, kd, rfl, hi, hk⟩ := ixK_ok hk
      obtain ⟨inf, hinf, hk, hsz⟩ := sizeK_ok hk
      rw [fN_eq] at hk
      refine ⟨_, hk, fun r w vx vi hx hv => ?_⟩
      obtain ⟨Bk, O, K, hr, rfl⟩ := hx
      cases hv
      refine ⟨.pointer (some ⟨Bk, O + d * sz' + i * inf.size, none⟩), ?_, ⟨Bk, O, K, hr, by rw [Nat.add_assoc]; rfl⟩⟩
      simp [Instr.indexAt, asIntOf, run_underlying hu, hi, hsz, add_mid]
    · cases hk
  · cases hk
theorem bytes_get {l : List Nat} {i c : Nat} (h : l[i]? = some c) : (bytes l)[i]? = some (UInt8.ofNat c) := by
  have hlt := (List.getElem?_eq_some_iff.1 h).1
  have hb : i < (bytes l).size := by rw [bytes_size]; exact hlt
  rw [getElem?_pos (bytes l) i hb]
  congr 1
  show (bytes l).data[i] = _
  have : l[i] = c := (List.getElem?_eq_some_iff.1 h).2
  simp [bytes, this]
theorem indexK_ok {v : AV} {t : TypeId} {x ix : AV} {k : KO} (hk : indexK P t x ix k = .ok v) :
    ∃ a, k a = .ok v ∧ ∀ r w vx vi, VR r x vx → VR r ix vi → ∃ z, (Instr.index t vx vi).run P w = .ok z w ∧ VR r a z := by
  unfold indexK at hk
  split at hk
  · rename_i n e hu
    split at hk
    · rename_i cs
      obtain ⟨i, kd, rfl, hi, hk⟩ := ixK_ok hk
      obtain ⟨inf, hinf, hk, hsz⟩ := sizeK_ok hk
      rw [fN_eq] at hk
      obtain ⟨a, hk, hp⟩ := partK_ok hk
      refine ⟨_, hk, fun r w vx vi hx hv => ?_⟩
      obtain ⟨xs, rfl, hxs⟩ := hx
      cases hv
      obtain ⟨z, e1, e2⟩ := hp r xs w hxs
      have e1' : (part e xs.toArray (i * inf.size)).run P w = .ok z w := e1
      exact ⟨z, by simp [Instr.index, asIntOf, run_underlying hu, hi, hsz, e1'], e2⟩
    · cases hk
  · rename_i hu
    split at hk
    · rename_i n N kd z
      obtain ⟨i, hz, hq⟩ := natK_ok (fun h => by cases h) hk
      subst hz
      clear hk
      cases hi : Nat.blt i n with
      | true =>
        rw [hi] at hq
        have hk : fN (byteN N i) (fun c => k (.i .u8 (.ofNat c))) = .ok v := hq
        have hi := blt_iff.1 hi
        rw [fN_eq] at hk
        refine ⟨_, hk, fun r w vx vi hx hv => ?_⟩
        cases hx; cases hv
        refine ⟨.int .u8 ((byteN N i : Nat) : Int), ?_, rfl⟩
        have hb : byteN N i % 256 = byteN N i := Nat.mod_eq_of_lt (Nat.mod_lt _ (by decide))
        simp [Instr.index, asIntOf, run_underlying hu, bytes_get (lst_get hi)]
        omega
      | false => rw [hi] at hq; cases hq
    · cases hk
  · cases hk
theorem fieldAddrK_ok {v : AV} {t : TypeId} {x : AV} {f : Nat} {k : KO} (hk : fieldAddrK P t x f k = .ok v) :
    ∃ a, k a = .ok v ∧ ∀ r w vx, VR r x vx → ∃ z, (Instr.fieldAt t vx f).run P w = .ok z w ∧ VR r a z := by
  unfold fieldAddrK at hk
  split at hk
  · rename_i fs hu
    rw [getL_eq] at hk
    split at hk
    · rename_i fd hf
      have hf' : fs[f]? = some fd := by simpa using hf
      split at hk
      · rename_i id off
        obtain ⟨inf, hinf, hk, hsz⟩ := sizeK_ok hk
        split at hk
        · cases hk
        · rename_i n hn
          rw [fN_eq] at hk
          refine ⟨_, hk, fun r w vx hx => ?_⟩
          obtain ⟨Bk, O, K, hr, rfl⟩ := hx
          have hne : inf.size ≠ 0 := by omega
          refine ⟨.pointer (some ⟨Bk, O + off + fd.offset, none⟩), ?_, ⟨Bk, O, K, hr, by rw [Nat.add_assoc]; rfl⟩⟩
          simp [Instr.fieldAt, run_underlying hu, hf', Instr.sureAddr, fieldPlace, hsz, hne, add_mid]
      · cases hk
    · cases hk
  · cases hk
theorem fieldK_ok {v : AV} {t : TypeId} {x : AV} {f : Nat} {k : KO} (hk : fieldK P t x f k = .ok v) :
    ∃ a, k a = .ok v ∧ ∀ r w vx, VR r x vx → ∃ z, (Instr.field t vx f).run P w = .ok z w ∧ VR r a z := by
  unfold fieldK at hk
  split at hk
  · rename_i fs hu
    rw [getL_eq] at hk
    split at hk
    · rename_i fd hf
      have hf' : fs[f]? = some fd := by simpa using hf
      split at hk
      · rename_i cs
        obtain ⟨a, hk, hp⟩ := partK_ok hk
        refine ⟨_, hk, fun r w vx hx => ?_⟩
        obtain ⟨xs, rfl, hxs⟩ := hx
        obtain ⟨z, e1, e2⟩ := hp r xs w hxs
        exact ⟨z, by simp [Instr.field, run_underlying hu, hf', asAgg, e1], e2⟩
      · cases hk
    · cases hk
  · cases hk

/-! parts put together -/
def overV : List Value → Nat → List Value → List Value
  | l, _, [] => l
  | l, o, x :: xs => overV (l.set o x) (o + 1) xs
theorem overV_length : ∀ (xs l : List Value) (o : Nat), (overV l o xs).length = l.length
  | [], _, _ => rfl
  | x :: xs, l, o => by rw [overV, overV_length xs]; simp
theorem VRs.over {r : Rn} : ∀ {vs : List AV} {ys : List Value} {cs : List AV} {xs : List Value} {o : Nat}, VRs r vs ys → VRs r cs xs → o + vs.length ≤ cs.length → VRs r (Clu.over cs o vs) (overV xs o ys)
  | [], _, cs, xs, o, h, k, _ => by cases h; simpa [Clu.over, overV] using k
  | a :: vs, _, cs, xs, o, ⟨y, ys, h1, h2, h3⟩, k, hl => by
    subst h1
    have ih := VRs.over (o := o + 1) h3 (k.set o h2) (by simp at hl ⊢; omega)
    have e : Clu.over (cs.set o a) (o + 1) vs = Clu.over cs o (a :: vs) := by
      simp only [List.length_cons] at hl
      apply List.ext_getElem?
      intro j
      rw [over_get (by simp; omega), over_get (by simpa using hl)]
      simp only [List.length_cons]
      by_cases hj : o = j
      · subst hj
        rw [if_neg (by omega), if_pos (by omega), List.getElem?_set_self (by omega)]
        simp
      · by_cases h5 : o + 1 ≤ j ∧ j < o + 1 + vs.length
        · rw [if_pos h5, if_pos (by omega)]
          have : j - o = j - (o + 1) + 1 := by omega
          rw [this]; simp
        · rw [if_neg h5, if_neg (by omega), List.getElem?_set_ne hj]
    rw [← e]; exact ih
theorem foldl_put : ∀ (xs : List Value) (k off : Nat) (cells : Array Value), ((xs.zipIdx k).foldl (fun cs p => cs.setIfInBounds (off + p.2) p.1) cells).toList = overV cells.toList (off + k) xs
  | [], _, _, _ => rfl
  | x :: xs, k, off, cells => by
    rw [List.zipIdx_cons, List.foldl_cons, foldl_put xs (k + 1) off]
    simp [overV, Nat.add_assoc]
def PlaceOk (plc : Nat → Option (Nat × Nat)) (place : Nat → (Nat → Nat → Out) → Out) : Prop := ∀ i k v, place i k = .ok v → ∃ o n, plc i = some (o, n) ∧ k o n = .ok v
theorem fillK_ok {v : AV} {place : Nat → (Nat → Nat → Out) → Out} {plc : Nat → Option (Nat × Nat)} (hp : PlaceOk plc place) {fr : Fr} :
    ∀ {parts : List (Nat × Operand)} {cs : List AV} {k : List AV → Out}, fillK place fr parts cs k = .ok v →
    ∃ cs', k cs' = .ok v ∧ cs'.length = cs.length ∧ ∀ r ρ xs l, VRs r cs xs → Env r fr ρ l → (∀ p ∈ parts, p.2 ∈ l) → ∃ xs', Instr.fill plc xs.toArray (parts.map fun p => (p.1, ρ p.2)) = some xs'.toArray ∧ VRs r cs' xs'
  | [], cs, k, hk => ⟨cs, hk, rfl, fun r ρ xs l hx he hm => ⟨xs, rfl, hx⟩⟩
  | (i, x) :: parts, cs, k, hk => by
    simp only [fillK] at hk
    obtain ⟨a, hk, hov⟩ := opdK_ok hk
    obtain ⟨o, n, hpl, hk⟩ := hp _ _ _ hk
    rw [lenK_eq, Nat.zero_add] at hk
    split at hk
    · rename_i hc
      simp only [Bool.and_eq_true, Bool.not_eq_true'] at hc
      have hc1 := beq_iff.1 hc.2.1
      have hc2 := blt_iff.1 hc.2.2
      obtain ⟨h1, hk⟩ := putK_ok hk
      have h1 : o + a.cells.length ≤ cs.length := by
        rcases h1 with h1 | h1
        · rw [h1] at hc1; simp at hc1; omega
        · exact h1
      obtain ⟨cs', hk, hlen, hf⟩ := fillK_ok hp hk
      refine ⟨cs', hk, by rw [hlen, over_length h1], fun r ρ xs l hx he hm => ?_⟩
      have ha := he x (hm _ (List.mem_cons_self ..)) a hov
      have hac := ha.cells hc.1
      have hal := hac.length
      have hov := hac.over hx h1
      obtain ⟨xs', e1, e2⟩ := hf r ρ _ l hov he (fun p hp => hm p (List.mem_cons_of_mem _ hp))
      refine ⟨xs', ?_, e2⟩
      have hxl := hx.length
      have hs1 : (ρ x).cells.size = n := by rw [← hc1, ← hal]; simp
      have hs2 : ¬ (xs.toArray.size < o + (ρ x).cells.size) := by simp; omega
      have hfold : (ρ x).cells.zipIdx.foldl (fun cs (p : Value × Nat) => cs.setIfInBounds (o + p.2) p.1) xs.toArray = (overV xs o (ρ x).cells.toList).toArray := by
        apply Array.ext'
        rw [← Array.foldl_toList, Array.toList_zipIdx, foldl_put]
        simp
      simp only [List.map_cons, Instr.fill, hpl]
      rw [if_neg (by simp [hs1]; simp at hs2; omega)]
      rw [← e1]
      congr 1
    · cases hk
theorem mapM_places (fs : List Field) (h : fs.all (fun (f : Field) => (P.info? f.type).isSome) = true) (w : World) :
    (fs.mapM fun (f : Field) => (do pure (f.offset, ← sizeOf f.type) : Sem (Nat × Nat))).run P w = .ok (fs.map fun (f : Field) => (f.offset, P.cellsOf f.type)) w := by
  induction fs with
  | nil => rfl
  | cons f fs ih =>
    simp only [List.all_cons, Bool.and_eq_true] at h
    obtain ⟨i, hi⟩ := Option.isSome_iff_exists.1 h.1
    have hs : ∀ w, (sizeOf f.type).run P w = .ok i.size w := fun w => by simp [sizeOf, typeInfo, hi]
    have hc : P.cellsOf f.type = i.size := by simp [Program.cellsOf, hi]
    have := ih h.2
    simp [List.mapM_cons, hs, hc] at this ⊢
    simp [this]
theorem mapM_places' (fs : Array Field) (h : fs.toList.all (fun (f : Field) => (P.info? f.type).isSome) = true) (w : World) :
    (fs.mapM fun (f : Field) => (do pure (f.offset, ← sizeOf f.type) : Sem (Nat × Nat))).run P w = .ok (fs.map fun (f : Field) => (f.offset, P.cellsOf f.type)) w := by
  rw [Array.mapM_eq_mapM_toList, Sem.run_map, mapM_places _ h]
  simp
  apply Array.ext'
  simp
theorem buildK_ok {v : AV} {fr : Fr} {t : TypeId} {parts : Array (Nat × Operand)} {k : KO} (hk : buildK P fr t parts.toList k = .ok v) :
    ∃ a, k a = .ok v ∧ ∀ r ρ l w, Env r fr ρ l → (∀ p ∈ parts, p.2 ∈ l) → ∃ z, (Instr.build t (parts.map fun (i, x) => (i, ρ x))).run P w = .ok z w ∧ VR r a z := by
  unfold buildK at hk
  obtain ⟨z, zv, zi, hk, hi, hz, hzr, hzrun, hznj⟩ := zeroK_ok hk
  have hpl : ∀ ρ : Operand → Value, (parts.map fun (p : Nat × Operand) => (p.1, ρ p.2)).toList = parts.toList.map fun p => (p.1, ρ p.2) := fun ρ => by simp
  split at hk
  · rename_i fs hu
    split at hk
    · cases hk
    · rename_i hall
      obtain ⟨cs', hk, hlen, hf⟩ := fillK_ok (plc := fun i => (fs.map fun (f : Field) => (f.offset, P.cellsOf f.type))[i]?) (fun i k v hk => by
        rw [getL_eq] at hk
        split at hk
        · rename_i f hf
          obtain ⟨inf, hinf, hk, _⟩ := sizeK_ok hk
          rw [fN_eq] at hk
          have hf' : fs[i]? = some f := by simpa using hf
          exact ⟨f.offset, inf.size, by simp [hf', Program.cellsOf, hinf], hk⟩
        · cases hk) hk
      refine ⟨_, hk, fun r ρ l w he hm => ?_⟩
      obtain ⟨xs', e1, e2⟩ := hf r ρ zv.cells.toList l ((hzr r).cells hznj) he (fun p hp => hm p (by simpa using hp))
      refine ⟨.agg xs'.toArray, ?_, ⟨xs', rfl, e2⟩⟩
      simp only [Array.toArray_toList] at e1
      simp only [Instr.build, Sem.run_bind, hzrun, Result.andThen_ok, run_underlying hu, mapM_places' fs hall, hpl, e1, Sem.run_pure]
  · rename_i n e hu
    obtain ⟨inf, hinf, hk, hsz⟩ := sizeK_ok hk
    obtain ⟨cs', hk, hlen, hf⟩ := fillK_ok (plc := fun i => some (i * inf.size, inf.size)) (fun i k v hk => by
        rw [fN_eq] at hk
        exact ⟨_, _, rfl, hk⟩) hk
    refine ⟨_, hk, fun r ρ l w he hm => ?_⟩
    obtain ⟨xs', e1, e2⟩ := hf r ρ zv.cells.toList l ((hzr r).cells hznj) he (fun p hp => hm p (by simpa using hp))
    refine ⟨.agg xs'.toArray, ?_, ⟨xs', rfl, e2⟩⟩
    simp only [Array.toArray_toList] at e1
    simp only [Instr.build, Sem.run_bind, hzrun, Result.andThen_ok, run_underlying hu, hsz, hpl, e1, Sem.run_pure]
  · cases hk
end Clu
end Go.Proofs.Ythghohgjedjpbaa
