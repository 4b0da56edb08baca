/-
  Runs of closed calls by the kernel: a region whose operations stand in another row.
-/
import Derived.Test.YthghohgjedjpbaaCluZc
import Derived.Orders
namespace Go.Proofs.Ythghohgjedjpbaa
namespace Clu
open Go.RowKit
set_option linter.unusedVariables false
variable {P : Program}

theorem atL_eq (l : List Nat) (i : Nat) : atL l i = (l[i]?).getD 0 := by
  unfold atL
  rw [getL_eq]
  cases l[i]? <;> rfl
/-- pi: who stands where; si: where who stands -/
structure Perm (ops : List Oper) (pi si : List Nat) : Prop where
  pl : pi.length = ops.length
  sl : si.length = ops.length
  ps : ∀ s, s < ops.length → atL pi s < ops.length ∧ atL si (atL pi s) = s
  sp : ∀ i, i < ops.length → atL si i < ops.length ∧ atL pi (atL si i) = i
  edge : ∀ (o : Oper), o ∈ ops → ∀ e ∈ o.after.toList, e.on < ops.length
  guard : ∀ (o : Oper), o ∈ ops → ∀ g, o.guard = some g → g.1 < ops.length
theorem permOk_spec {ops : List Oper} {pi si : List Nat} (h : permOk ops pi si = true) : Perm ops pi si := by
  unfold permOk at h
  simp only [Bool.and_eq_true] at h
  obtain ⟨⟨⟨⟨h1, h2⟩, h3⟩, h4⟩, h5⟩ := h
  have h1 := beq_iff.1 h1
  have h2 := beq_iff.1 h2
  have zip : ∀ {l m : List Nat} {n : Nat}, l.length = n → (l.zipIdx.all fun (i, s) => Nat.blt i n && Nat.beq (atL m i) s) = true → ∀ s, s < n → atL l s < n ∧ atL m (atL l s) = s := fun {l m n} hl h s hs => by
    have hx : l[s]? = some l[s] := List.getElem?_eq_getElem (by omega)
    have := List.all_eq_true.1 h (l[s], s) (List.mk_mem_zipIdx_iff_getElem?.2 hx)
    simp only [Bool.and_eq_true] at this
    rw [atL_eq l s, hx]
    exact ⟨blt_iff.1 this.1, beq_iff.1 this.2⟩
  refine ⟨h1, h2, zip h1 h3, zip h2 h4, fun o ho e he => ?_, fun o ho g hg => ?_⟩
  · have := List.all_eq_true.1 h5 o ho
    rw [Bool.and_eq_true] at this
    exact blt_iff.1 (List.all_eq_true.1 this.1 e he)
  · have := List.all_eq_true.1 h5 o ho
    rw [Bool.and_eq_true, hg] at this
    exact blt_iff.1 this.2
theorem filterMap_at {α β : Type} (f : α → Option β) : ∀ {l : List α}, (∀ a ∈ l, (f a).isSome = true) → (l.filterMap f).length = l.length ∧ ∀ s : Nat, (l.filterMap f)[s]? = (l[s]?).bind f
  | [], _ => ⟨rfl, fun s => by simp⟩
  | a :: l, h => by
    obtain ⟨h1, h2⟩ := filterMap_at f (l := l) fun b hb => h b (List.mem_cons_of_mem _ hb)
    have ha := h a (by simp)
    cases hf : f a with
    | none => rw [hf] at ha; cases ha
    | some b =>
      rw [List.filterMap_cons_some hf]
      refine ⟨by simp [h1], fun s => ?_⟩
      cases s with
      | zero => simp [hf]
      | succ s => simpa using h2 s
section
variable {ops : List Oper} {pi si : List Nat} (q : Perm ops pi si)
include q
theorem permL_at : (permL ops pi si).length = ops.length ∧ ∀ s, s < ops.length → (permL ops pi si)[s]? = (ops[atL pi s]?).map (relab si) := by
  have hall : ∀ a ∈ pi, ((getL ops a).map (relab si)).isSome = true := fun a ha => by
    obtain ⟨s, hs, rfl⟩ := List.mem_iff_getElem.1 ha
    have := (q.ps s (by rw [← q.pl]; exact hs)).1
    rw [atL_eq, List.getElem?_eq_getElem hs, Option.getD_some] at this
    rw [getL_eq, List.getElem?_eq_getElem this]
    rfl
  obtain ⟨h1, h2⟩ := filterMap_at (fun i => (getL ops i).map (relab si)) hall
  refine ⟨h1.trans q.pl, fun s hs => ?_⟩
  unfold permL
  rw [h2, atL_eq]
  have hs' : s < pi.length := by rw [q.pl]; exact hs
  rw [List.getElem?_eq_getElem hs']
  simp [getL_eq]
theorem permL_of {i : Nat} {o : Oper} (ho : ops[i]? = some o) : (permL ops pi si)[atL si i]? = some (relab si o) := by
  have hi := (List.getElem?_eq_some_iff.1 ho).1
  obtain ⟨h1, h2⟩ := q.sp i hi
  rw [(permL_at q).2 _ h1, h2, ho]
  rfl
omit q in
theorem relab_wp (o : Oper) (act : Act) (w : World) (K : Act → World → Prop) (Q : Exit → Act → World → Prop) : (relab si o).wp P act w K Q = o.wp P act w K Q := by cases o; rfl
omit q in
theorem relab_asks (o : Oper) (act : Act) (w : World) : (relab si o).asks P act w = o.asks P act w := by cases o; rfl
theorem relab_wanted {o : Oper} (ho : o ∈ ops) (tmps : Array Value) : Region.wanted (relab si o) (yielded (permL ops pi si).toArray tmps) = Region.wanted o (yielded ops.toArray tmps) := by
  have hg := q.guard o ho
  obtain ⟨dst, op, ty, pos, after, guard⟩ := o
  cases guard with
  | none => rfl
  | some g =>
    have hlt := hg g rfl
    have ho' : ops[g.1]? = some ops[g.1] := List.getElem?_eq_getElem hlt
    show (yielded (permL ops pi si).toArray tmps (atL si g.1) == some g.2) = (yielded ops.toArray tmps g.1 == some g.2)
    have : yielded (permL ops pi si).toArray tmps (atL si g.1) = yielded ops.toArray tmps g.1 := by
      unfold yielded
      rw [List.getElem?_toArray, List.getElem?_toArray, permL_of q ho', ho']
      rfl
    rw [this]
theorem wpOp_perm {i : Nat} (hi : i < ops.length) {Q : Exit → Act → World → Prop} {K K' : Act → World → Prop} (hK : ∀ act w, K' act w → K act w) {act : Act} {w : World} (h : wpOp P (permL ops pi si).toArray Q (atL si i) K' act w) : wpOp P ops.toArray Q i K act w := by
  have ho : ops[i]? = some ops[i] := List.getElem?_eq_getElem hi
  refine wpOp_mono hK ?_
  unfold wpOp at h ⊢
  rw [List.getElem?_toArray, permL_of q ho] at h
  rw [List.getElem?_toArray, ho]
  simp only at h ⊢
  rw [relab_wanted q (List.getElem_mem hi), relab_wp, relab_asks] at h
  exact h
/-- the same ones have been done -/
def SameDone (ops : List Oper) (si : List Nat) (l l' : Array Bool) : Prop := l.size = ops.length ∧ l'.size = ops.length ∧ ∀ i, i < ops.length → l'[atL si i]? = l[i]?
omit q in
theorem SameDone.getD {l l' : Array Bool} (h : SameDone ops si l l') {i : Nat} (hi : i < ops.length) (b : Bool) : l'.getD (atL si i) b = l.getD i b := by
  rw [Array.getD_eq_getD_getElem?, Array.getD_eq_getD_getElem?, h.2.2 i hi]
theorem SameDone.set {l l' : Array Bool} (h : SameDone ops si l l') {i : Nat} (hi : i < ops.length) : SameDone ops si (l.setIfInBounds i true) (l'.setIfInBounds (atL si i) true) := by
  refine ⟨by simpa using h.1, by simpa using h.2.1, fun j hj => ?_⟩
  rw [Array.getElem?_setIfInBounds, Array.getElem?_setIfInBounds, h.2.2 j hj, h.1, h.2.1]
  by_cases e : i = j
  · subst e
    rw [if_pos rfl, if_pos rfl, if_pos (q.sp i hi).1, if_pos hi]
  · rw [if_neg e, if_neg]
    intro e'
    have h1 := (q.sp i hi).2
    have h2 := (q.sp j hj).2
    rw [e'] at h1
    exact e (h1.symm.trans h2)
theorem ready_perm {l l' : Array Bool} (h : SameDone ops si l l') {i : Nat} (hi : i < ops.length) : i ∈ Region.ready .any ops.toArray l ↔ atL si i ∈ Region.ready .any (permL ops pi si).toArray l' := by
  have ho : ops[i]? = some ops[i] := List.getElem?_eq_getElem hi
  unfold Region.ready
  rw [List.mem_filter, List.mem_filter, List.getElem?_toArray, List.getElem?_toArray, ho, permL_of q ho, h.getD hi]
  simp only [List.size_toArray, List.mem_range, (permL_at q).1, hi, (q.sp i hi).1, true_and, Option.map_some, Option.getD_some, Bool.and_eq_true]
  refine and_congr_right fun _ => ?_
  rw [Array.all_eq_true_iff_forall_mem, Array.all_eq_true_iff_forall_mem]
  have hed := q.edge ops[i] (List.getElem_mem hi)
  have hra : (relab si ops[i]).after = (ops[i].after.toList.map fun e => (⟨atL si e.on, e.ground⟩ : Edge)).toArray := rfl
  rw [hra]
  constructor
  · intro hx e he
    simp only [List.mem_toArray, List.mem_map] at he
    obtain ⟨e0, h0, rfl⟩ := he
    have := hx e0 (by simpa using h0)
    rw [h.getD (hed e0 h0)]
    exact this
  · intro hx e he
    have := hx ⟨atL si e.on, e.ground⟩ (by simp only [List.mem_toArray, List.mem_map]; exact ⟨e, by simpa using he, rfl⟩)
    rw [h.getD (hed e (by simpa using he))] at this
    exact this
theorem perm_any {Q : Exit → Act → World → Prop} : ∀ (fuel : Nat) (l l' : Array Bool) (act : Act) (w : World), SameDone ops si l l' → wpAny P .any (permL ops pi si).toArray Q fuel l' act w → wpAny P .any ops.toArray Q fuel l act w := by
  have none_of : ∀ {l l' : Array Bool}, SameDone ops si l l' → Region.ready .any ops.toArray l = [] → Region.ready .any (permL ops pi si).toArray l' = [] := fun {l l'} hs h => by
    refine List.eq_nil_iff_forall_not_mem.2 fun s hsm => ?_
    have hlt : s < ops.length := by
      have := (List.mem_filter.1 (show s ∈ List.filter _ (List.range (permL ops pi si).toArray.size) from hsm)).1
      simpa [(permL_at q).1] using this
    obtain ⟨h1, h2⟩ := q.ps s hlt
    have := (ready_perm q hs h1).2 (by rw [h2]; exact hsm)
    rw [h] at this
    cases this
  have none_of' : ∀ {l l' : Array Bool}, SameDone ops si l l' → Region.ready .any (permL ops pi si).toArray l' = [] → Region.ready .any ops.toArray l = [] := fun {l l'} hs h => by
    refine List.eq_nil_iff_forall_not_mem.2 fun i him => ?_
    have hlt : i < ops.length := by
      have := (List.mem_filter.1 (show i ∈ List.filter _ (List.range ops.toArray.size) from him)).1
      simpa using this
    have := (ready_perm q hs hlt).1 him
    rw [h] at this
    cases this
  intro fuel
  induction fuel with
  | zero => exact fun l l' act w hs h => ⟨none_of' hs h.1, h.2⟩
  | succ fuel ih =>
    intro l l' act w hs h
    refine ⟨fun hr => h.1 (none_of hs hr), fun i hi => ?_⟩
    have hlt : i < ops.length := by
      have := (List.mem_filter.1 (show i ∈ List.filter _ (List.range ops.toArray.size) from hi)).1
      simpa using this
    exact wpOp_perm q hlt (fun act' w' hk => ih _ _ act' w' (hs.set q hlt) hk) (h.2 _ ((ready_perm q hs hlt).1 hi))
end
end Clu
end Go.Proofs.Ythghohgjedjpbaa
