/-
  For every input hustings/hustingslaw03.HeadBits returns true, and each argument reads afterwards as it read before; the listed package-level variables start as the program's text lays them (the card ties them).
-/
import Derived.Test.YtlcggjaogbclkaaDoorHdD
import Derived.Test.YtlcggjaogbclkaaDoorCloze
import Derived.Test.YtlcggjaogbclkaaDoorCloSym
import Derived.Test.YtlcggjaogbclkaaDoorCloErr
import Derived.Test.YtlcggjaogbclkaaDoorCards
import Derived.Test.YtlcggjaogbclkaaDoorTie
import Derived.WalkKit
import Derived.ProofKit
import Derived.OpenShut
import Derived.ShutString
import Derived.ChangeOld
import Derived.Below
import Derived.SliceStrings
import Derived.ChangeSame
import Derived.ChangeVars
import Derived.JoinedOf
import Derived.RowKit
import Derived.RowKitTokens
import Derived.LaidLaws
import Derived.LaidHandle
import Derived.Stop.Joined
import Derived.SevenTiedAt
namespace Go.Proofs.YtlcggjaogbclkaaDoor.headBits
open Go.ChangeShapes Go.WideShapes Go.ChangeAt Go.RowKit
open Go.ChangeMaps (open_string shut_string)
set_option linter.unusedVariables false

theorem own : ownKnob Tryd.prog.godebug = none := by kernel_rfl
theorem laidOut : laidOutB Tryd.prog = true := by kernel_rfl

noncomputable def ty0 : TypeId := ((Tryd.prog.globals[0]?).map (·.type)).getD 0
noncomputable def cells0 : List Clo.AV := (Clo.flat Tryd.prog 1000 ty0 Rows.laid_hustings_head_bits).getD []
theorem glob0 : Tryd.prog.globalNamed "hustings/head.bits" = some 0 := by kernel_rfl
theorem type0 : (Tryd.prog.globals[0]?).map (·.type) = some ty0 := by kernel_rfl
theorem flat0 : Clo.flat Tryd.prog 1000 ty0 Rows.laid_hustings_head_bits = some cells0 := by kernel_rfl
theorem some0 : 0 < cells0.length := of_decide_eq_true (by kernel_rfl)
theorem low0 : Clo.AV.lows cells0 = true := by kernel_rfl
noncomputable def lays : List (Nat × List Clo.AV) := [Clo.errCells, (0, cells0)]

theorem layOK : Clo.LayOK lays := by
  refine ⟨fun g cs hm => ?_, of_decide_eq_true (by kernel_rfl)⟩
  simp only [lays, List.mem_cons, List.not_mem_nil, or_false] at hm
  rcases hm with hm | hm
  · rw [show g = Clo.errCells.1 from congrArg Prod.fst hm, show cs = Clo.errCells.2 from congrArg Prod.snd hm]
    exact ⟨by decide, by decide, rfl⟩
  · cases hm
    exact ⟨by decide, some0, low0⟩
theorem laid_of {W : World} (h : laidMetH Tryd.prog Rows.headBitsRow.laid W) : ∀ g cs, (g, cs) ∈ lays → g < 1000 ∧ Clo.LaidAt W g cs := by
  have h' : laidMet Tryd.prog [("hustings/head.bits", Rows.laid_hustings_head_bits)] W ∧ handlesMet Tryd.prog [("errors.errorType", Rows.laid_errors_errorType)] W := h
  have hE : HG W := Clo.hg_of h'.2
  have hP := h'.1
  intro g cs hm
  simp only [lays, List.mem_cons, List.not_mem_nil, or_false] at hm
  rcases hm with hm | hm
  · rw [show g = Clo.errCells.1 from congrArg Prod.fst hm, show cs = Clo.errCells.2 from congrArg Prod.snd hm]
    exact ⟨by decide, Clo.errAt hE⟩
  · cases hm
    exact ⟨by decide, Clo.laid_flat hP (n := "hustings/head.bits") (d := Rows.laid_hustings_head_bits) (by simp) glob0 type0 flat0 some0⟩
/-- a world that meets the condition -/
noncomputable def laidWorld (os : Os) : World := Clo.layWorld (World.holding Tryd.prog os ⟨#[], #[], []⟩) lays
theorem laidWorld_met (os : Os) (args : Array Value) : laidMetH Tryd.prog Rows.headBitsRow.laid ((laidWorld os).forCall (fun _ _ => 0) ⟨#[], args, []⟩).memory :=
  laidMetH_of_parts (laidMet_of_run' 1000 (by kernel_rfl) (by kernel_rfl)) (by kernel_rfl)
set_option maxRecDepth 10000000 in
theorem runsA : (Clo.layK lays .e fun h => Clo.runF Tryd.prog Clo.xErr 1000000 1000 17 [] h 1000) = .ok (.b true) := by kernel_rfl
theorem awake (w : World) (hL : ∀ g cs, (g, cs) ∈ lays → g < 1000 ∧ Clo.LaidAt w g cs) : Calls Tryd.prog 17 #[] w fun e w' => e = .returned (.bool true) ∧ Below w.heap.size w w' :=
  Clo.calls_laid Clo.plain Clo.xErr_ok Clo.mixed Tryd.func17 rfl runsA hL
noncomputable def X : Clo.XT := Clo.addX Clo.xErr 17 (Clo.truthL lays true)
set_option maxRecDepth 100000 in
theorem X_ok : Clo.XOK Tryd.prog X := Clo.addX_ok Clo.xErr_ok (Clo.truthL_ok layOK fun w hw => Clo.sem_of_calls Clo.plain Tryd.func17 rfl (awake w hw))
theorem walk (a0 : Int) (a1 : Int) (w : World) (w0 : (Lit.int .u16 a0).wf = true) (w1 : (Lit.int .u8 a1).wf = true) (hL : ∀ g cs, (g, cs) ∈ lays → g < 1000 ∧ Clo.LaidAt w g cs) :
    Calls Tryd.prog 6 #[.int .u16 a0, .int .u8 a1] w fun e w' => e = .returned (.bool true) ∧ Below w.heap.size w w' := by
  have b0 := bounds_u16 w0
  have b1 := bounds_u8 w1
  refine Clo.calls_at Clo.plain X_ok Clo.mixed layOK Tryd.func6 rfl hL (args := [.i .u16 a0, .i .u8 a1]) (xs := [.int .u16 a0, .int .u8 a1]) ⟨_, _, rfl, rfl, ⟨_, _, rfl, rfl, rfl⟩⟩ fun h hin => ?_
  have aw : Clo.Cl Tryd.prog X 1000 17 [] h 1000 (.b true) h 1000 := Clo.Cl.hand rfl fun k => Clo.truthL_run hin k
  obtain ⟨n0, rfl⟩ := Int.eq_ofNat_of_zero_le b0.1
  obtain ⟨n1, rfl⟩ := Int.eq_ofNat_of_zero_le b1.1
  have hB : h.get 0 = some (.c Clo.bitsCells 30 0 none) := by
    have := hin 0 cells0 (by simp [lays])
    rw [show cells0 = Clo.bitsCells from by kernel_rfl] at this
    exact this
  exact Clo.bits_cl rfl rfl rfl rfl n0 n1 (by omega) 1000 h 1000 (Nat.le_refl _) (Nat.le_refl _) hB fun h' nx' hh => Clo.Cl.hand rfl fun k => Clo.truthL_run (fun g cs hm => (hh g (layOK.1 g cs hm).1).trans (hin g cs hm)) k

set_option maxRecDepth 100000 in
theorem lifted (os : Os) (started : os.Started) (H : Type) (enc : TypeId × Value → H) :
    ReturnsInHanded {} Tryd.checked os 6 .any (fun w args => (Rows.headBitsSpec.pre enc Tryd.prog Tryd.f6 [] false w args ∧ laidMetH Tryd.prog Rows.headBitsRow.laid w) ∧ sizedMet enc Tryd.prog Tryd.f6 (OpenSpec.ofChange Rows.headBitsSpec) false w args) (Rows.headBitsSpec.post enc Tryd.prog Tryd.f6 false true false false) := by
  refine returnsInHanded_of_change_and (C := Tryd.checked) (X := fun w _ => laidMetH Tryd.prog Rows.headBitsRow.laid w) (fun _ _ _ hh h => h.of_heap hh) own started (by kernel_rfl) Tryd.func6
    (ChangeSpec.witness_at (enc := enc) (C := Tryd.checked) (os := os) (X := fun w _ => laidMetH Tryd.prog Rows.headBitsRow.laid w) false (laidWorld os) #[.int .u16 0, .int .u8 0] 8 rfl (by kernel_rfl) (by kernel_rfl) (by kernel_rfl) (by kernel_rfl) (by kernel_rfl) (laidWorld_met os _)) ?_
  intro W base args ds gs before hval0 hW _ _ hLaid _
  have hval : ∀ (j : Nat) t v, Tryd.f6.params[j]? = some t → args[j]? = some v → Value.okWide Tryd.prog W .any base t v := hval0
  have hW' := hW
  obtain ⟨p, q, hA0, hV, rfl, hfz, hnd⟩ := hW
  have hA : DataW.TrodAll enc Tryd.prog W 0 (fun _ => true) true Tryd.f6.params.toList args.toList ds p := hA0
  rw [Tryd.params6] at hA hval
  obtain ⟨v0, vs0, d0, ds0, p0, q0, hargs, rfl, rfl, h0, r0⟩ := trodAll_cons hA
  obtain ⟨v1, vs1, d1, ds1, p1, q1, rfl, rfl, rfl, h1, r1⟩ := trodAll_cons r0
  obtain ⟨rfl, rfl, rfl⟩ := trodAll_nil r1
  obtain rfl : args = #[v0, v1] := by cases args; simp_all
  obtain ⟨rfl, rfl⟩ := trodVars_none hV
  have k0 := h0
  have lt0 : ∀ x ∈ p0, x.block < W.heap.size := by obtain ⟨m, hm⟩ := k0; exact DataW.trod_lt m _ _ _ hm
  obtain ⟨a0, rfl, rfl, rfl, w0⟩ := open_int Tryd.underlying22 (hval 0 22 v0 rfl rfl) h0
  have k1 := h1
  have lt1 : ∀ x ∈ p1, x.block < W.heap.size := by obtain ⟨m, hm⟩ := k1; exact DataW.trod_lt m _ _ _ hm
  obtain ⟨a1, rfl, rfl, rfl, w1⟩ := open_int Tryd.underlying5 (hval 1 5 v1 rfl rfl) h1
  clear hA0 hval0
  refine (walk a0 a1 W w0 w1 (laid_of hLaid)).mono fun e W' ⟨he, bel⟩ => ?_
  subst he
  exact ⟨_, rfl, _, _, _, [], _, [], hW', trodAll_mk1 (shut_bool Tryd.underlying4 _), (trodAll_cons_mk (Below.trod laidOut (by kernel_rfl) (of_decide_eq_true (by kernel_rfl)) k0 bel lt0) (trodAll_cons_mk (Below.trod laidOut (by kernel_rfl) (of_decide_eq_true (by kernel_rfl)) k1 bel lt1) trodAll_mk0)), rfl, bel.frame _, fun h => by cases h⟩

theorem over : Rows.headBitsRow.holds Tryd.pinned (OpenSpec.ofChange Rows.headBitsSpec) :=
  OpenClaim.holds_of_wide 6 Tryd.f6 rfl rfl rfl rfl rfl rfl rfl ⟨rfl, rfl, rfl, rfl, rfl⟩ rfl rfl rfl rfl rfl (by kernel_rfl) Tryd.func6 (by kernel_rfl)
    (of_decide_eq_true (by kernel_rfl)) (by unfold Func.isWrapper; first | (rw [if_pos (by decide +kernel)]; kernel_rfl) | (rw [if_neg (by decide +kernel)]; exact ⟨rfl, rfl⟩))
    (fun os started H enc _ => lifted os started H enc)

theorem plainly (f : FuncId) (fn : Func) (hf : Tryd.pinned.checked.prog.funcNamed "hustings/hustingslaw03.HeadBits" = some f) (hfn : Tryd.pinned.checked.prog.funcs[f]? = some fn) :
    true = Tryd.pinned.checked.prog.looks [] ∧ ∀ (j : Nat) t, fn.params[j]? = some t → Tryd.pinned.checked.prog.wantsStandIn t = false := by
  obtain rfl : f = 6 := Option.some.inj ((show Tryd.prog.funcNamed "hustings/hustingslaw03.HeadBits" = some 6 by kernel_rfl).symm.trans hf) |>.symm
  obtain rfl : fn = Tryd.f6 := (Option.some.inj (Tryd.func6.symm.trans hfn)).symm
  refine ⟨by kernel_rfl, fun j t ht => ?_⟩
  rw [Tryd.params6] at ht
  have hm := Array.mem_of_getElem? ht
  have hs : ∀ t ∈ #[22, 5], Tryd.prog.wantsStandIn t = false := by
    intro t ht
    simp only [Array.mem_def, List.mem_cons, List.not_mem_nil, or_false] at ht
    rcases ht with rfl | rfl
    all_goals kernel_rfl
  exact hs t hm

/-- the card -/
theorem proved : Rows.HeadBitsCardSaid :=
  Claim7.holds_tied_plain_at .later [] _ _ _ _ over (fun _ h => by cases h) (by kernel_rfl) (fun _ h => by cases h) headBits_row_tie rfl ⟨rfl, rfl⟩ (by kernel_rfl) rfl plainly (by kernel_rfl)
#print axioms proved
end Go.Proofs.YtlcggjaogbclkaaDoor.headBits
