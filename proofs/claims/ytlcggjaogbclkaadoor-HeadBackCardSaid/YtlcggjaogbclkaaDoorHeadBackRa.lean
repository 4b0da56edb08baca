/-
  HeadBack: what stands for functions.
-/
import Derived.Test.YtlcggjaogbclkaaDoorHeadBackBase
import Derived.Test.YtlcggjaogbclkaaDoorCluN1
namespace Go.Proofs.YtlcggjaogbclkaaDoor
namespace Clu
open Go.RowKit
set_option linter.unusedVariables false
variable {P : Program}
/-- a function of flat values stands for its runs, where variables are laid -/
noncomputable def layF (lays : List (Nat × List AV)) (F : List AV → Option AV) : HT := fun _ args h nx k => match laidB lays h, F args with
  | true, some v => k v h nx
  | _, _ => .err 92 1
theorem layF_ok {f : FuncId} {lays : List (Nat × List AV)} {F : List AV → Option AV} (hl : ∀ g cs, (g, cs) ∈ lays → g < 1000 ∧ 0 < cs.length ∧ AV.lowsM cs = true) (ht : ∀ l v, F l = some v → Fact P f lays l v) : HandOK P f (layF lays F) := fun lim args h nx k v hl0 hk => by
  unfold layF at hk
  split at hk
  · rename_i a hb hlook
    obtain ⟨t1, t2, t3⟩ := ht _ _ hlook
    refine ⟨_, _, _, hk, Keeps.refl _ _ _, fun p r w xs H hf hx => ?_⟩
    refine (t3 w (fun g cs hm => ?_) xs (VRs.flt _ _ t1 hx)).mono (fun z w' ⟨h1, h2⟩ => left_below H (VR.flt _ _ t2 h1) h2) fun _ _ h => h
    obtain ⟨q1, q2, q3⟩ := hl g cs hm
    refine ⟨q1, q2, fun j a ha => ?_⟩
    have := List.all_eq_true.1 hb (g, cs) hm
    split at this
    · rename_i cs' fz osz pl hg
      have he := eqVs_ok _ _ this
      subst he
      obtain ⟨B, O, K, e1, _, e3, _⟩ := H.blk g _ hg
      rw [H.glob g q1] at e1
      cases e1
      obtain ⟨x, x1, x2⟩ := e3 j a ha
      exact ⟨x, by rw [Nat.zero_add] at x1; exact x1, VR.lowM H.glob a x (lowsM_get q3 ha) x2⟩
    · cases this
  · cases hk
/-- so, where a truth is had -/
noncomputable def layG (lays : List (Nat × List AV)) (G : List AV → Bool) (F : List AV → Option AV) : HT := fun _ args h nx k => match laidB lays h, F args with
  | true, some v => needT (G args) (.err 92 7) (k v h nx)
  | _, _ => .err 92 1
open Classical in
theorem layG_ok {f : FuncId} {lays : List (Nat × List AV)} {G : List AV → Bool} {F : List AV → Option AV} (hl : ∀ g cs, (g, cs) ∈ lays → g < 1000 ∧ 0 < cs.length ∧ AV.lowsM cs = true) (ht : ∀ l v, F l = some v → G l = true → Fact P f lays l v) : HandOK P f (layG lays G F) := fun lim args h nx k v hl0 hk => by
  unfold layG at hk
  split at hk
  · rename_i a hb hlook
    cases hG : G args with
    | false => rw [hG] at hk; cases hk
    | true =>
    rw [hG] at hk
    refine layF_ok (F := fun l => if l = args then some a else none) hl (fun l v h => ?_) lim args h nx k v hl0 ?_
    · by_cases he : l = args
      · rw [if_pos he] at h; cases h; subst he; exact ht _ _ hlook hG
      · rw [if_neg he] at h; cases h
    · unfold layF
      have e : (fun l : List AV => if l = args then some a else none) args = some a := if_pos rfl
      rw [hb, e]
      exact hk
  · cases hk
end Clu
end Go.Proofs.YtlcggjaogbclkaaDoor
namespace Go.Proofs.YtlcggjaogbclkaaDoor.headBack
open Go.RowKit
set_option linter.unusedVariables false
set_option maxRecDepth 100000
noncomputable def nat (x : Bool) (n : Nat) : Nat := Bool.rec 0 n x
noncomputable def numF : List Clu.AV → Option Clu.AV := fun l => match l with
  | [.b x] => some (.i .u16 (.ofNat (nat x 1)))
  | _ => none
noncomputable def flagsF (fN : Bool → Nat → Bool → Bool → Bool → Bool → Bool → Bool → Bool → Nat → Nat) (fE : Nat → Nat → Nat) : List Clu.AV → Option Clu.AV := fun l => match l with
  | [.ag [.i .u16 (.ofNat id), .b b1, .i .u8 (.ofNat op), .b b3, .b b4, .b b5, .b b6, .b b7, .b b8, .b b9, .i .u8 (.ofNat code)]] => some (.tu [.i .u16 (.ofNat (fN b1 op b3 b4 b5 b6 b7 b8 b9 code)), .i .i64 (.ofNat (fE op code))])
  | _ => none
noncomputable def writeF (wS wN : Nat → Bool → Nat → Bool → Bool → Bool → Bool → Bool → Bool → Bool → Nat → Int → Int → Int → Int → Nat) (wE : Nat → Nat → Int → Int → Int → Int → Nat) : List Clu.AV → Option Clu.AV := fun l => match l with
  | [.ag [.i .u16 (.ofNat id), .b b1, .i .u8 (.ofNat op), .b b3, .b b4, .b b5, .b b6, .b b7, .b b8, .b b9, .i .u8 (.ofNat code)], .ag [.i .i64 c0, .i .i64 c1, .i .i64 c2, .i .i64 c3]] => some (.tu [.s (wS id b1 op b3 b4 b5 b6 b7 b8 b9 code c0 c1 c2 c3) (wN id b1 op b3 b4 b5 b6 b7 b8 b9 code c0 c1 c2 c3), .i .i64 (.ofNat (wE op code c0 c1 c2 c3))])
  | _ => none
noncomputable def fromF (bitN : Nat → Nat → Bool) (opN codeN : Nat → Nat) : List Clu.AV → Option Clu.AV := fun l => match l with
  | [.i .u16 (.ofNat n)] => some (.ag [.i .u16 (.ofNat 0), .b (bitN n 15), .i .u8 (.ofNat (opN n)), .b (bitN n 10), .b (bitN n 9), .b (bitN n 8), .b (bitN n 7), .b (bitN n 6), .b (bitN n 5), .b (bitN n 4), .i .u8 (.ofNat (codeN n))])
  | _ => none
noncomputable def readF (rI rO rC rE : Nat → Nat → Nat) (rB : Nat → Nat → Nat → Bool) (rK : Nat → Nat → Nat → Nat) : List Clu.AV → Option Clu.AV := fun l => match l with
  | [.s n N] => some (.tu [.ag [.i .u16 (.ofNat (rI n N)), .b (rB n N 15), .i .u8 (.ofNat (rO n N)), .b (rB n N 10), .b (rB n N 9), .b (rB n N 8), .b (rB n N 7), .b (rB n N 6), .b (rB n N 5), .b (rB n N 4), .i .u8 (.ofNat (rC n N))], .ag [.i .i64 (.ofNat (rK n N 0)), .i .i64 (.ofNat (rK n N 1)), .i .i64 (.ofNat (rK n N 2)), .i .i64 (.ofNat (rK n N 3))], .i .i64 (.ofNat (rE n N))])
  | _ => none
noncomputable def readG : List Clu.AV → Bool := fun l => match l with
  | [.s n _] => Nat.ble n 140737488351232
  | _ => false
theorem num_run (x : Bool) : (Clu.layK [] .e fun h => Clu.runF Tryd.prog Clu.noX 1000 1000 65 [.b x] h 1000) = .ok (.i .u16 (.ofNat (nat x 1))) := by cases x <;> kernel_rfl
theorem num_ok : Clu.HandOK Tryd.prog 65 (Clu.funH numF) := Clu.funH_ok fun l v h => by
  unfold numF at h
  split at h
  · cases h
    exact Clu.fact_of Clu.plain Clu.noX_ok Clu.mixed (num_run _) rfl rfl
  · cases h
noncomputable def X0 : Clu.XT := Clu.addB X 65 (Clu.funH numF)
theorem X0_ok : Clu.XOK Tryd.prog X0 := Clu.addB_ok X_ok num_ok
end Go.Proofs.YtlcggjaogbclkaaDoor.headBack
