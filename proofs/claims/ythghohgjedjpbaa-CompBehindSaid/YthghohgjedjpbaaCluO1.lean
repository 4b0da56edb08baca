/-
  Runs at whatever arguments: truths that are told, and what such a run comes to.
-/
import Derived.Test.YthghohgjedjpbaaCluMemo
namespace Go.Proofs.Ythghohgjedjpbaa
namespace Clu
open Go.RowKit
set_option linter.unusedVariables false
variable {P : Program}
/-- truths that are told of a function's slots: N's digits, of 10000000: 1000000 + 2 * slot (true), one more (false) -/
noncomputable def tell (X : XT) (f : FuncId) (N : Nat) : XT := addB X (Nat.add 1000000000 f) (fun _ _ _ _ _ => .err N 0)
theorem tell_ok {X : XT} {f : FuncId} {N : Nat} (hX : XOK P X) : XOK P (tell X f N) := addB_ok hX fun lim args h nx k v hl hk => by cases hk
/-- what must be so -/
noncomputable def needT (c : Bool) (E o : Out) : Out := Bool.rec (motive := fun _ => Out) E o c
noncomputable def needF (c : Bool) (E o : Out) : Out := Bool.rec (motive := fun _ => Out) o E c
noncomputable def needS {α : Type} (x : Option α) (E : Out) (o : α → Out) : Out := Option.rec (motive := fun _ => Out) E o x
noncomputable def needI (x : Int) (E : Nat → Out) (o : Nat → Out) : Out := Int.rec (motive := fun _ => Out) o E x
theorem needT_eq {c : Bool} (h : c = true) (E o : Out) : needT c E o = o := by subst h; rfl
theorem needF_eq {c : Bool} (h : c = false) (E o : Out) : needF c E o = o := by subst h; rfl
theorem needS_eq {α : Type} {x : Option α} {v : α} (h : x = some v) (E : Out) (o : α → Out) : needS x E o = o v := by subst h; rfl
theorem needI_eq {x : Int} {n : Nat} (h : x = Int.ofNat n) (E o : Nat → Out) : needI x E o = o n := by subst h; rfl
/-- what is true of a call whose run, from variables that are laid, comes to a truth -/
theorem calls_laidA {X : XT} (hp : Plain P) (hX : XOK P X) (hm : P.follows .mixedOrders = true) {n : Nat} {f : FuncId} {fn : Func} {c : Code} {b : Bool} {l : List (Nat × List AV)} (hf : P.funcs[f]? = some fn) (hb : fn.body = some c)
    {args : List AV} {xs : List Value} (hx : VRs r0 args xs) (hk : (layK l .e fun h => runF P X n 1000 f args h 1000) = .ok (.b b)) {w : World} (hl : ∀ g cs, (g, cs) ∈ l → g < 1000 ∧ LaidAt w g cs) :
    Calls P f xs.toArray w fun e w' => e = .returned (.bool b) ∧ Below w.heap.size w w' := by
  obtain ⟨h, hk, hh⟩ := layK_ok hk
  have hh' : ∀ j b, h.get j = some b → ∃ cs, (j, cs) ∈ l ∧ b = .c cs cs.length 0 none := fun j b hj => (hh j b hj).resolve_left fun h1 => by cases (Tr.get_e j).symm.trans h1
  refine calls_from hp hX (drK_ok hm) hf hb hk ⟨Nat.le_refl _, fun j hj => ?_⟩ (HR.laid hl hh') (fun id h1 => if_neg (by omega)) hx
  cases hg : h.get j with
  | none => rfl
  | some b =>
    obtain ⟨cs, h1, _⟩ := hh' j b hg
    have := (hl j cs h1).1
    omega
theorem okWide_array {w : World} {r : Reach} {base : Nat} {t : TypeId} {v : Value} {n : Nat} {e : TypeId} (ht : P.underlying t = some (.array n e)) (h : Value.okWide P w r base t v) : ∃ cs, v = .agg cs ∧ cs.size = P.cellsOf t := by
  simp only [Value.okWide, ht] at h
  obtain ⟨cs, h1, h2, _⟩ := h
  exact ⟨cs, h1, h2⟩
/-- a function of flat values stands for its runs -/
noncomputable def funH (F : List AV → Option AV) : HT := fun _ args h nx k => match F args with
  | some v => k v h nx
  | none => .err 92 1
theorem funH_ok {f : FuncId} {F : List AV → Option AV} (ht : ∀ l v, F l = some v → Fact P f [] l v) : HandOK P f (funH F) := fun lim args h nx k v hl0 hk => by
  unfold funH at hk
  split at hk
  · rename_i a hlook
    obtain ⟨t1, t2, t3⟩ := ht _ _ hlook
    refine ⟨_, _, _, hk, Keeps.refl _ _ _, fun p r w xs H hf hx => ?_⟩
    exact (t3 w (fun g cs hm => by cases hm) xs (VRs.flt _ _ t1 hx)).mono (fun z w' ⟨h1, h2⟩ => left_below H (VR.flt _ _ t2 h1) h2) fun _ _ h => h
  · cases hk
/-- a text's bytes, packed -/
theorem str_of (s : ByteArray) : ∃ N, ∀ r, VR r (.s s.size N) (.string s) := by
  obtain ⟨n, N, _, h2⟩ := strL_eq s.data.toList
  have hn : n = s.size := by
    have := congrArg List.length h2
    rw [lst_length, List.length_map, Array.length_toList] at this
    exact this
  subst hn
  refine ⟨N, fun r => ?_⟩
  show Value.string s = .string (bytes (lst s.size N))
  rw [h2, bytes_of]
end Clu
end Go.Proofs.Ythghohgjedjpbaa
