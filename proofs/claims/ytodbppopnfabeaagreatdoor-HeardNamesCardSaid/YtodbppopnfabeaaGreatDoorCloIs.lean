/-
  What errors.Is asks of the types of errors that errors.New made.
-/
import Derived.Test.YtodbppopnfabeaaGreatDoorCloErr
import Derived.Test.YtodbppopnfabeaaGreatDoorCloMemo
namespace Go.Proofs.YtodbppopnfabeaaGreatDoor
namespace Clo
open Go.RowKit Go.Extern
set_option linter.unusedVariables false

theorem i_typeOf (v : Value) (w : World) : (ReflectliteType.typeOf #[.iface 337 v]).run Tryz.prog w = .ok (.iface 157 (.agg #[.pointer (some ⟨9, 337, none⟩)])) w := by kernel_rfl
theorem i_comp (w : World) : (ReflectliteType.method (fun t => do Rtype.noPackHeld "Comparable" t; pure (.bool (← typeInfo t).comparable)) #[.agg #[.pointer (some ⟨9, 337, none⟩)]]).run Tryz.prog w = .ok (.bool true) w := by kernel_rfl
theorem i_callT (v : Value) (w : World) : (callFunc 40 #[.iface 337 v]).run Tryz.prog w = .ok (.value (.iface 157 (.agg #[.pointer (some ⟨9, 337, none⟩)]))) w := by
  rw [@run_callFunc_extern Tryz.prog 40 _ ReflectliteType.typeOf Tryz.func40 (by kernel_rfl) (by kernel_rfl) (by kernel_rfl) (by kernel_rfl), i_typeOf]
  rfl
theorem i_callC (w : World) : (callFunc 218 #[.agg #[.pointer (some ⟨9, 337, none⟩)]]).run Tryz.prog w = .ok (.value (.bool true)) w := by
  rw [@run_callFunc_extern Tryz.prog 218 _ (ReflectliteType.method (fun t => do Rtype.noPackHeld "Comparable" t; pure (.bool (← typeInfo t).comparable))) Tryz.func218 (by kernel_rfl) (by kernel_rfl) (by kernel_rfl) (by kernel_rfl), i_comp]
  rfl
theorem sem_value {f : FuncId} {xs : List Value} {w w' : World} {z : Value} {P : Program} {R : Value → World → Prop} {Rp : List PanicEntry → World → Prop} (h : (callFunc f xs.toArray).run P w = .ok (.value z) w') (hR : R z w') : CallSem P f xs w R Rp := by
  unfold CallSem
  rw [h]
  exact hR
noncomputable def typeOfH : HT := fun _ args h nx k => match args with
  | [.fa t (.p _ _)] => (match Nat.beq t 337 with
    | true => k (.fa 157 (.ag [.p 9 337])) h nx
    | false => .err 73 0)
  | _ => .err 73 1
noncomputable def compH : HT := fun _ args h nx k => match args with
  | [.ag [.p b o]] => (match Nat.beq b 9 && Nat.beq o 337 with
    | true => k (.b true) h nx
    | false => .err 73 2)
  | _ => .err 73 3
theorem args_fp {r : Rn} {xs : List Value} {t : TypeId} {i o : Nat} (h : VRs r [.fa t (.p i o)] xs) : ∃ y, xs = [.iface t y] := by
  obtain ⟨x, ys, rfl, ⟨y, rfl, _⟩, rfl⟩ := h
  exact ⟨y, rfl⟩
theorem args_agp {r : Rn} {xs : List Value} {b o : Nat} (hr : r b = some (b, 0, 0)) (h : VRs r [.ag [.p b o]] xs) : xs = [.agg #[.pointer (some ⟨b, o, none⟩)]] := by
  obtain ⟨x, ys, rfl, ⟨us, rfl, u, vs, rfl, ⟨B, O, K, q1, rfl⟩, rfl⟩, rfl⟩ := h
  rw [hr] at q1
  cases q1
  rw [Nat.zero_add]
theorem vr_tok {r : Rn} {t : TypeId} {b o : Nat} (hr : r b = some (b, 0, 0)) {z : Value} (hz : z = .iface t (.agg #[.pointer (some ⟨b, o, none⟩)])) : VR r (.fa t (.ag [.p b o])) z := by
  subst hz
  exact ⟨_, rfl, [_], rfl, _, [], rfl, ⟨b, 0, 0, hr, by rw [Nat.zero_add]⟩, rfl⟩
theorem semT {xs : List Value} {y : Value} {w : World} {R : Value → World → Prop} {Rp : List PanicEntry → World → Prop} (hx : xs = [.iface 337 y]) (hR : ∀ z, z = .iface 157 (.agg #[.pointer (some ⟨9, 337, none⟩)]) → R z w) : CallSem Tryz.prog 40 xs w R Rp := by
  subst hx
  have h1 := i_callT y w
  generalize Tryz.prog = P at *
  unfold CallSem
  rw [h1]
  exact hR _ rfl
theorem semC {xs : List Value} {w : World} {R : Value → World → Prop} {Rp : List PanicEntry → World → Prop} (hx : xs = [.agg #[.pointer (some ⟨9, 337, none⟩)]]) (hR : R (.bool true) w) : CallSem Tryz.prog 218 xs w R Rp := by
  subst hx
  have h1 := i_callC w
  generalize Tryz.prog = P at *
  unfold CallSem
  rw [h1]
  exact hR
theorem typeOfH_ok : HandOK Tryz.prog 40 typeOfH := fun lim args h nx k v hl hk => by
  unfold typeOfH at hk
  split at hk
  · rename_i t i o
    split at hk
    · rename_i ht
      have ht := beq_iff.1 ht
      refine ⟨_, _, _, hk, Keeps.refl _ _ _, fun p r w xs H hf hx => ?_⟩
      have key := @semT
      generalize Tryz.prog = P at key ⊢
      obtain ⟨y, hxs⟩ := args_fp hx
      rw [ht] at hxs
      exact key hxs fun z hz => left_below H (vr_tok (H.glob 9 (by decide)) hz) (Below.refl _ w)
    · cases hk
  · cases hk
theorem compH_ok : HandOK Tryz.prog 218 compH := fun lim args h nx k v hl hk => by
  unfold compH at hk
  split at hk
  · rename_i b o
    split at hk
    · rename_i hc
      simp only [Bool.and_eq_true] at hc
      have c1 := beq_iff.1 hc.1
      have c2 := beq_iff.1 hc.2
      subst c1 c2
      refine ⟨_, _, _, hk, Keeps.refl _ _ _, fun p r w xs H hf hx => ?_⟩
      have hxs := args_agp (H.glob 9 (by decide)) hx
      have key := @semC
      generalize Tryz.prog = P at key ⊢
      exact key hxs (left_below H rfl (Below.refl _ w))
    · cases hk
  · cases hk
noncomputable def xIs : XT := addB (addB xErr 40 typeOfH) 218 compH
theorem xIs_ok : XOK Tryz.prog xIs := addB_ok (addB_ok xErr_ok typeOfH_ok) compH_ok
end Clo
end Go.Proofs.YtodbppopnfabeaaGreatDoor
