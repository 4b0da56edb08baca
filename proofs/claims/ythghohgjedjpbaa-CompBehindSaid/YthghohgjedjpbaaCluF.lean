/-
  Runs of closed calls by the kernel: constants, parts, loads, equations, numbers.
-/
import Derived.Test.YthghohgjedjpbaaCluE
import Derived.Laws.StructEq
namespace Go.Proofs.Ythghohgjedjpbaa
namespace Clu
open Go.RowKit
set_option linter.unusedVariables false

mutual
theorem cstK_ok {v : AV} : ∀ {f : Nat} {c : Value} {k : KO}, cstK f c k = .ok v → ∃ a, k a = .ok v ∧ ∀ r, VR r a c
  | 0, c, k, h => by simp [cstK] at h
  | f + 1, c, k, h => by
    simp only [cstK] at h
    split at h
    · rw [fB_eq] at h; exact ⟨_, h, fun r => rfl⟩
    · rw [fI_eq] at h; exact ⟨_, h, fun r => rfl⟩
    · rename_i s
      obtain ⟨n, N, e1, e2⟩ := strL_eq s.data.toList
      rw [e1] at h
      exact ⟨_, h, fun r => by simp only [VR]; rw [e2, bytes_of]⟩
    · exact ⟨_, h, fun r => rfl⟩
    · split at h
      · exact ⟨_, h, fun r => rfl⟩
      · cases h
    · exact ⟨_, h, fun r => rfl⟩
    · exact ⟨_, h, fun r => rfl⟩
    · exact ⟨_, h, fun r => rfl⟩
    · obtain ⟨l, h1, h2⟩ := cstsK_ok h
      exact ⟨_, h1, fun r => ⟨_, by simp, h2 r⟩⟩
    · obtain ⟨l, h1, h2⟩ := cstsK_ok h
      exact ⟨_, h1, fun r => ⟨_, by simp, h2 r⟩⟩
    · rw [fN_eq] at h
      obtain ⟨a, h1, h2⟩ := cstK_ok h
      exact ⟨_, h1, fun r => ⟨_, rfl, h2 r⟩⟩
    · cases h
theorem cstsK_ok {v : AV} : ∀ {f : Nat} {c : List Value} {k : List AV → Out}, cstsK f c k = .ok v → ∃ l, k l = .ok v ∧ ∀ r, VRs r l c
  | 0, c, k, h => by simp [cstsK] at h
  | f + 1, [], k, h => ⟨[], by simpa [cstsK] using h, fun r => rfl⟩
  | f + 1, c :: cs, k, h => by
    simp only [cstsK] at h
    obtain ⟨a, h1, h2⟩ := cstK_ok h
    obtain ⟨l, h3, h4⟩ := cstsK_ok h1
    exact ⟨a :: l, h3, fun r => ⟨c, cs, rfl, h2 r, h4 r⟩⟩
end

/-- what an operand is -/
theorem cK_ok {v : AV} {c : Value} {fr : Fr} {k : KO} (h : cK c fr k = .ok v) : ∃ a, k a = .ok v ∧ ∀ r, VR r a c := by
  unfold cK cF at h
  split at h
  · unfold cB at h; rw [fB_eq] at h; exact ⟨_, h, fun r => rfl⟩
  · unfold cI at h; rw [fI_eq] at h; exact ⟨_, h, fun r => rfl⟩
  · rename_i s
    unfold cS at h
    obtain ⟨n, N, e1, e2⟩ := strL_eq s.data.toList
    rw [e1] at h
    exact ⟨_, h, fun r => by simp only [VR]; rw [e2, bytes_of]⟩
  · exact cstK_ok h
def OV (fr : Fr) (x : Operand) (a : AV) : Prop := match x with
  | .tmp t => a = (fr.get t).getD (.tu [])
  | .const c => ∀ r, VR r a c
  | .global g => g < 1000 ∧ a = .p g 0
  | .func f => a = .fn (.func f) [] []
theorem opdK_ok {v : AV} {fr : Fr} {x : Operand} {k : KO} (h : opdK fr x k = .ok v) : ∃ a, k a = .ok v ∧ OV fr x a := by
  cases x with
  | tmp t =>
    have h' : @Option.rec AV (fun _ => Out) (k (.tu [])) k (fr.get t) = .ok v := h
    cases ht : fr.get t with
    | none => rw [ht] at h'; exact ⟨_, h', by simp [OV, ht]⟩
    | some a => rw [ht] at h'; exact ⟨_, h', by simp [OV, ht]⟩
  | const c =>
    obtain ⟨a, h1, h2⟩ := cK_ok (show cK c fr k = .ok v from h)
    exact ⟨a, h1, h2⟩
  | global g =>
    have h' : @Bool.rec (fun _ => Out) (.err 5 3) (fN g fun g => k (.p g 0)) (Nat.blt g 1000) = .ok v := h
    cases hg : Nat.blt g 1000 with
    | false => rw [hg] at h'; cases h'
    | true => rw [hg] at h'; simp only [fN_eq] at h'; exact ⟨_, h', blt_iff.1 hg, rfl⟩
  | func f => exact ⟨_, (show k (.fn (.func f) [] []) = .ok v from by have h' : (fN f fun f => k (.fn (.func f) [] [])) = .ok v := h; rwa [fN_eq] at h'), rfl⟩
theorem opdsK_ok {v : AV} {fr : Fr} : ∀ {xs : List Operand} {k : List AV → Out}, opdsK fr xs k = .ok v → ∃ l, k l = .ok v ∧ l.length = xs.length ∧ ∀ (j : Nat) (a : AV) (x : Operand), l[j]? = some a → xs[j]? = some x → OV fr x a
  | [], k, h => ⟨[], h, rfl, fun j a x h1 => by simp at h1⟩
  | x :: xs, k, h => by
    obtain ⟨a, h1, h2⟩ := opdK_ok (show opdK fr x _ = .ok v from h)
    obtain ⟨l, h3, h4, h5⟩ := opdsK_ok h1
    refine ⟨a :: l, h3, by simp [h4], fun j b y hb hy => ?_⟩
    cases j with
    | zero => simp at hb hy; subst hb; subst hy; exact h2
    | succ j => exact h5 j b y (by simpa using hb) (by simpa using hy)

/-- the slots and operands that are read stand for what the frame holds -/
def Env (r : Rn) (fr : Fr) (ρ : Operand → Value) (l : List Operand) : Prop := ∀ x ∈ l, ∀ a, OV fr x a → VR r a (ρ x)
theorem Env.one {r : Rn} {fr : Fr} {ρ : Operand → Value} {l : List Operand} (h : Env r fr ρ l) {x : Operand} (hx : x ∈ l) {a : AV} (ha : OV fr x a) : VR r a (ρ x) := h x hx a ha
theorem Env.list {r : Rn} {fr : Fr} {ρ : Operand → Value} {l xs : List Operand} (h : Env r fr ρ l) (hx : ∀ x ∈ xs, x ∈ l) {as : List AV} (hl : as.length = xs.length) (ha : ∀ (j : Nat) (a : AV) (x : Operand), as[j]? = some a → xs[j]? = some x → OV fr x a) : VRs r as (xs.map ρ) :=
  VRs.of_get (by simp [hl]) fun j a hj => by
    have hlt : j < xs.length := by have := (List.getElem?_eq_some_iff.1 hj).1; omega
    refine ⟨ρ xs[j], by simp [hlt], h _ (hx _ (List.getElem_mem hlt)) _ (ha j a _ hj (List.getElem?_eq_getElem hlt))⟩

section
variable {P : Program}
theorem zeroK_ok {v : AV} {t : TypeId} {k : KO} (h : zeroK P t k = .ok v) : ∃ a z i, k a = .ok v ∧ P.info? t = some i ∧ i.zero = some z ∧ (∀ r, VR r a z) ∧ (∀ w, (zeroValue t).run P w = .ok z w) ∧ a.isJk = false := by
  simp only [zeroK] at h
  split at h
  · rename_i i hi
    split at h
    · rename_i z hz
      obtain ⟨a, h1, h2⟩ := cstK_ok h
      split at h1
      · cases h1
      · rename_i hj
        exact ⟨a, z, i, h1, hi, hz, h2, fun w => by simp [zeroValue, typeInfo, hi, hz], hj⟩
    · cases h
  · cases h
theorem sizeK_ok {v : AV} {t : TypeId} {k : Nat → Out} (h : sizeK P t k = .ok v) : ∃ i, P.info? t = some i ∧ k i.size = .ok v ∧ ∀ w, (sizeOf t).run P w = .ok i.size w := by
  simp only [sizeK] at h
  split at h
  · rename_i i hi
    rw [fN_eq] at h
    exact ⟨i, hi, h, fun w => by simp [sizeOf, typeInfo, hi]⟩
  · cases h
theorem aggB_true {t : TypeId} (h : aggB P t = some true) : ∃ d, P.underlying t = some d ∧ d.isRow = true ∧ ∀ w, (isAgg t).run P w = .ok true w := by
  unfold aggB at h
  split at h <;> first | (rename_i hu; exact ⟨_, hu, rfl, fun w => by simp [isAgg, underlying, hu]⟩) | (simp at h)
theorem aggB_false {t : TypeId} (h : aggB P t = some false) : ∃ d, P.underlying t = some d ∧ ∀ w, (isAgg t).run P w = .ok false w := by
  unfold aggB at h
  split at h
  · simp at h
  · simp at h
  · rename_i d h1 h2 hu
    refine ⟨d, hu, fun w => ?_⟩
    simp only [isAgg, Sem.run_bind, run_underlying hu, Result.andThen_ok]
    rfl
  · simp at h
theorem partK_ok {v : AV} {t : TypeId} {cs : List AV} {off : Nat} {k : KO} (h : partK P t cs off k = .ok v) :
    ∃ a, k a = .ok v ∧ ∀ r xs w, VRs r cs xs → ∃ x, (part t xs.toArray off).run P w = .ok x w ∧ VR r a x := by
  simp only [partK] at h
  split at h
  · rename_i ha
    obtain ⟨d, hu, _, hagg⟩ := aggB_true ha
    obtain ⟨i, hi, h1, hsz⟩ := sizeK_ok h
    obtain ⟨h2, h3⟩ := dropK_ok h1
    obtain ⟨h4, h5⟩ := takeK_ok h3
    refine ⟨_, h5, fun r xs w hx => ⟨.agg ((xs.drop off).take i.size).toArray, ?_, ⟨_, rfl, (hx.drop off).take i.size⟩⟩⟩
    simp [part, hagg, hsz]
  · rename_i ha
    obtain ⟨d, hu, hagg⟩ := aggB_false ha
    rw [getL_eq] at h
    split at h
    · rename_i a hc
      refine ⟨_, h, fun r xs w hx => ?_⟩
      obtain ⟨x, h1, h2⟩ := hx.get hc
      exact ⟨x, by simp [part, hagg, h1], h2⟩
    · cases h
  · cases h

/-- a block's cells, as a row of values -/
theorem BR.range {r : Rn} {id : Nat} {cs : List AV} {fz osz : Nat} {pl : Option TypeId} {w : World} {B O K : Nat} (h : BR r id (.c cs fz osz pl) w) (hr : r id = some (B, O, K)) :
    ∀ (n o : Nat), o + n ≤ cs.length → ∃ xs, VRs r ((cs.drop o).take n) xs ∧ w.rangeAt B (O + o) xs
  | 0, o, _ => ⟨[], by simp [VRs], fun j v hj => by simp at hj⟩
  | n + 1, o, hl => by
    have h' := h
    obtain ⟨B', O', K', h1, _, k1, _⟩ := h
    rw [hr] at h1; cases h1
    have hlt : o < cs.length := by omega
    obtain ⟨x, x1, x2⟩ := k1 o cs[o] (List.getElem?_eq_getElem hlt)
    obtain ⟨xs, y1, y2⟩ := BR.range h' hr n (o + 1) (by omega)
    refine ⟨x :: xs, ?_, fun j v hj => ?_⟩
    · rw [List.drop_eq_getElem_cons hlt, List.take_succ_cons]
      exact ⟨x, xs, rfl, x2, y1⟩
    · cases j with
      | zero => simp at hj; subst hj; exact x1
      | succ j =>
        have := y2 j v (by simpa using hj)
        rwa [show O + (o + 1) + j = O + o + (j + 1) by omega] at this
theorem HR.at {p : Nat → Prop} {lim : Nat} {r : Rn} {h : Nat → Option Blk} {w : World} (H : HR p lim r h w) {id : Nat} {b : Blk} (hb : h id = some b) : ∃ Bk O K, r id = some (Bk, O, K) ∧ BR r id b w := by
  obtain ⟨Bk, O, K, h1, _⟩ := H.blk id b hb
  exact ⟨Bk, O, K, h1, H.blk id b hb⟩
theorem isS_ok {o : Option AV} (h : isS o = true) : o = some (.s (sN o) (sNN o)) := by
  unfold isS at h
  split at h
  · rfl
  · cases h
theorem sameKind_eq {a b : IntKind} (h : sameKind a b = true) : a = b := by cases a <;> cases b <;> first | rfl | cases h
theorem isI_ok {kd : IntKind} {o : Option AV} (h : isI kd o = true) : o = some (.i kd (iZ o)) := by
  unfold isI at h
  split at h
  · rename_i k n
    rw [sameKind_eq h]
    rfl
  · cases h
theorem isU_ok {kd : IntKind} {o : Option AV} (h : isU kd o = true) : o = some (.i kd (.ofNat (iN o))) := by
  unfold isU at h
  split at h
  · rename_i k n
    rw [sameKind_eq h]
    rfl
  · cases h
theorem isT_ok {o : Option AV} (h : isT o = true) : o = some (.b (bT o)) := by
  unfold isT at h
  split at h
  · rfl
  · cases h
theorem cellS_ok {v : AV} {t : TypeId} {cs : List AV} {off : Nat} {k : KO} (h : cellS P t cs off k = .ok v) : ∃ a, cs[off]? = some a ∧ k a = .ok v := by
  have key : ∀ {b : Bool} {c : Nat} {o : Out}, (@Bool.rec (fun _ => Out) (.err 8 c) o b) = .ok v → b = true ∧ o = .ok v := fun {b c o} h => by
    cases b with
    | false => cases h
    | true => exact ⟨rfl, h⟩
  unfold cellS at h
  split at h
  · obtain ⟨h1, h2⟩ := key h
    exact ⟨_, by rw [← getL_eq]; exact isS_ok h1, h2⟩
  · split at h
    · obtain ⟨h1, h2⟩ := key h
      exact ⟨_, by rw [← getL_eq]; exact isI_ok h1, h2⟩
    · obtain ⟨h1, h2⟩ := key h
      exact ⟨_, by rw [← getL_eq]; exact isU_ok h1, h2⟩
  · obtain ⟨h1, h2⟩ := key h
    exact ⟨_, by rw [← getL_eq]; exact isT_ok h1, h2⟩
  · cases h
theorem fieldsS_ok {v : AV} : ∀ {fs : List Field} {cs : List AV} {off : Nat} {k : List AV → Out}, fieldsS P fs cs off k = .ok v → ∃ l, k l = .ok v ∧ l = (cs.drop off).take l.length ∧ (0 < l.length → off + l.length ≤ cs.length)
  | [], cs, off, k, h => ⟨[], h, by simp, by simp⟩
  | f :: fs, cs, off, k, h => by
    unfold fieldsS at h
    obtain ⟨a, h1, h2⟩ := cellS_ok h
    rw [fN_eq] at h2
    obtain ⟨l, h3, h4, h5⟩ := fieldsS_ok h2
    have hlt := (List.getElem?_eq_some_iff.1 h1).1
    refine ⟨_, h3, ?_, fun _ => ?_⟩
    · have hd : cs.drop off = a :: cs.drop (off + 1) := by
        rw [List.drop_eq_getElem_cons hlt]
        congr 1
        exact (List.getElem?_eq_some_iff.1 h1).2
      rw [hd, List.length_cons, List.take_succ_cons, ← h4]
    · rw [List.length_cons]
      rcases Nat.eq_zero_or_pos l.length with h6 | h6
      · omega
      · have := h5 h6; omega
theorem partS_ok {v : AV} {t : TypeId} {cs : List AV} {off : Nat} {k : KO} (h : partS P t cs off k = .ok v) : partK P t cs off k = .ok v := by
  unfold partS at h
  split at h
  · rename_i ha
    split at h
    · obtain ⟨l, h1, h2, h3⟩ := fieldsS_ok h
      simp only [partK, ha]
      unfold sizeK at h1 ⊢
      split at h1
      · rename_i i hi
        rw [fN_eq] at h1
        simp only [fN_eq]
        split at h1
        · rename_i hc
          simp only [Bool.and_eq_true] at hc
          have e1 := beq_iff.1 hc.1
          have e2 := blt_iff.1 hc.2
          have e3 := h3 (by omega)
          unfold dropK takeK
          rw [ble_iff.2 (by omega)]
          show @Bool.rec (fun _ => Out) _ (k (.ag ((cs.drop off).take i.size))) (Nat.ble i.size (cs.drop off).length) = _
          rw [ble_iff.2 (by rw [List.length_drop]; omega)]
          show k (.ag ((cs.drop off).take i.size)) = _
          rw [e1, ← h2]
          exact h1
        · cases h1
      · cases h1
    · cases h
  · rename_i ha
    obtain ⟨a, h1, h2⟩ := cellS_ok h
    simp only [partK, ha, getL_eq, h1]
    exact h2
  · cases h
theorem loadK_ok {v : AV} {h : T} {t : TypeId} {x : AV} {k : KO} (hk : loadK P h t x k = .ok v) :
    ∃ a, k a = .ok v ∧ ∀ p lim r w y, HR p lim r h.get w → VR r x y → ∃ z, (Instr.loadAt t y).run P w = .ok z w ∧ VR r a z := by
  simp only [loadK] at hk
  split at hk
  · rename_i id off
    split at hk
    · rename_i cs fz osz pl hb
      have hk : partK P t cs off k = .ok v := by
        revert hk
        cases (Nat.blt 4000000000 fz || flatT P t) with
        | false => exact fun h => h
        | true => exact fun h => partS_ok h
      simp only [partK] at hk
      split at hk
      · rename_i ha
        obtain ⟨d, hu, hrow, hagg⟩ := aggB_true ha
        obtain ⟨i, hi, h1, hsz⟩ := sizeK_ok hk
        obtain ⟨h2, h3⟩ := dropK_ok h1
        obtain ⟨h4, h5⟩ := takeK_ok h3
        refine ⟨_, h5, fun p lim r w y H hy => ?_⟩
        obtain ⟨Bk, O, K, hr, rfl⟩ := hy
        obtain ⟨xs, x1, x2⟩ := (H.blk id _ hb).range hr i.size off (by simp at h4; omega)
        have hxl := x1.length
        refine ⟨.agg xs.toArray, run_loadAt_mid w Bk (O + off) t xs d x2 hu hrow ?_, ⟨xs, rfl, x1⟩⟩
        rw [hi, Option.map_some, hxl, List.length_take]
        congr 1; omega
      · rename_i ha
        obtain ⟨d, hu, hagg⟩ := aggB_false ha
        rw [getL_eq] at hk
        split at hk
        · rename_i a hc
          refine ⟨_, hk, fun p lim r w y H hy => ?_⟩
          obtain ⟨Bk, O, K, hr, rfl⟩ := hy
          obtain ⟨B', O', K', e1, _, k1, _⟩ := H.blk id _ hb
          rw [hr] at e1; cases e1
          obtain ⟨z, z1, z2⟩ := k1 off a hc
          exact ⟨z, by simp [Instr.loadAt, Instr.sureAddr, loadVar, hagg, z1], z2⟩
        · cases hk
      · cases hk
    · cases hk
  · cases hk
end
end Clu
end Go.Proofs.Ythghohgjedjpbaa
