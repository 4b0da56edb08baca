/-
  For every input hustings/hustingslaw02.CursorPuts returns true, and each argument reads afterwards as it read before; the listed package-level variables start as the program's text lays them (the card ties them).
-/
import Derived.Test.YtdhhocmdolnfiaaDoorCursorPutsRun
import Derived.Test.YtdhhocmdolnfiaaDoorCards
import Derived.Test.YtdhhocmdolnfiaaDoorTie
import Derived.WalkKit
import Derived.ProofKit
import Derived.OpenShut
import Derived.ShutString
import Derived.ChangeOld
import Derived.Below
import Derived.SliceStrings
import Derived.ChangeSame
import Derived.ChangeVars
import Derived.JoinedOf
import Derived.RowKit
import Derived.RowKitTokens
import Derived.LaidLaws
import Derived.LaidHandle
import Derived.Stop.Joined
import Derived.SevenTiedAt
namespace Go.Proofs.YtdhhocmdolnfiaaDoor.cursorPuts
open Go.ChangeShapes Go.WideShapes Go.ChangeAt Go.RowKit
open Go.ChangeMaps (open_string shut_string)
set_option linter.unusedVariables false

/-- what each element of a row holds -/
def Elem51 (L : List Clu.AV) (j : Nat) : Prop := (∃ z : Int, Clu.getL L (j * 1 + 0) = some (.i .u8 z) ∧ (Lit.int .u8 z).wf = true)
def RowIn51 (w : World) (v : Value) : Prop := v = .slice none 0 0 ∨ ∃ (B O len cap : Nat) (L : List Clu.AV), v = .slice (some ⟨B, O, none⟩) len cap ∧ len ≤ cap ∧ cap ≤ maxLen ∧ L.length = len * 1 ∧ Clu.ArgAt w B O L ∧ ∀ j, j < len → Elem51 L j
set_option maxRecDepth 100000 in
theorem rowin51 {H : Type} {enc : TypeId × Value → H} {W : World} {base : Nat} {v : Value} {d : DataW H} {p : List MemPlace} (hw : Value.okWide Tryd.prog W .any base 51 v) (ht : DataW.Trod enc Tryd.prog W 0 (fun _ => true) true 51 v d p) : RowIn51 W v := by
  rcases Clu.slice_in Tryd.underlying51 hw ht with h1 | ⟨B, O, len, cap, rfl, h1, h2, h3, h4, h5⟩
  · exact .inl h1
  rw [show Tryd.prog.cellsOf 5 = 1 by kernel_rfl] at h5
  have each : ∀ i, i < len → (∃ u, W.cell? ⟨B, O + (i * 1 + 0), none⟩ = some u ∧ ∃ z, u = .int .u8 z ∧ (Lit.int .u8 z).wf = true) := fun i hi => by
    obtain ⟨us, fu, y, q1, q2, q3⟩ := h5 i hi
    obtain ⟨u0, rfl⟩ : ∃ u0, us = [u0] := by
      match us, q1 with
      | [u0], _ => exact ⟨u0, rfl⟩
    obtain ⟨z, e0, _, w0⟩ := DataW.trod_int Tryd.underlying5 q3
    obtain rfl : u0 = _ := (List.cons.inj e0).1
    exact ⟨_, q2 0 (by decide), _, rfl, w0⟩
  have flt : ∀ k, k < len * 1 → (Clu.avOf (W.cell? ⟨B, O + k, none⟩)).flt = true := fun k hk => by
    have hi : k / 1 < len := Nat.div_lt_of_lt_mul (by omega)
    obtain ⟨u0, e0, z0, rfl, x0⟩ := each (k / 1) hi
    rcases (show k = k / 1 * 1 + 0 by omega) with h
    · rw [h, Clu.avOf_int e0]; rfl
  refine .inr ⟨B, O, len, cap, Clu.rowOf W B O (len * 1), rfl, h1, h2, Clu.rowOf_length .., Clu.argAt_row (by have : maxLen = 9223372036854775807 := rfl; omega) h3 h4 flt, fun j hj => ?_⟩
  obtain ⟨u0, e0, z0, rfl, x0⟩ := each j hj
  exact ⟨_, (Clu.getL_eq _ _).trans ((Clu.rowOf_get (by omega)).trans (congrArg some (Clu.avOf_int e0))), x0⟩
theorem walk (v0 : Value) (a1 : Int) (a2 : Int) (a3 : Int) (w : World) (w0 : RowIn51 w v0) (w1 : (Lit.int .u8 a1).wf = true) (w2 : (Lit.int .u16 a2).wf = true) (w3 : (Lit.int .u32 a3).wf = true) (hL : ∀ g cs, (g, cs) ∈ lays → g < 1000 ∧ Clu.LaidAt w g cs) :
    Calls Tryd.prog 8 #[v0, .int .u8 a1, .int .u16 a2, .int .u32 a3] w fun e w' => e = .returned (.bool true) ∧ Below w.heap.size w w' := by
  have b1 := bounds_u8 w1
  have b2 := bounds_u16 w2
  have b3 := bounds_u32 w3
  rcases w0 with rfl | ⟨B0, O0, len0, cap0, L0, rfl, r0a, r0b, r0c, r0d, r0e⟩
  · skip
    obtain ⟨LT, hLT, Y, hY, hk⟩ := run_n a1 b1.1 b1.2 a2 b2.1 b2.2 a3 b3.1 b3.2 
    refine Clu.calls_args (al := []) (R := fun id => (0, 0)) Clu.plain hY Clu.mixed hLT Tryd.func8 rfl (by decide) (args := [.sn, .i .u8 a1, .i .u16 a2, .i .u32 a3]) (xs := [.slice none 0 0, .int .u8 a1, .int .u16 a2, .int .u32 a3]) ⟨_, _, rfl, rfl, ⟨_, _, rfl, rfl, ⟨_, _, rfl, rfl, ⟨_, _, rfl, rfl, rfl⟩⟩⟩⟩ hk hL (fun id cs hm => ?_)
    cases hm
  · skip
    obtain ⟨LT, hLT, Y, hY, hk⟩ := run_r a1 b1.1 b1.2 a2 b2.1 b2.2 a3 b3.1 b3.2 L0 len0 cap0 r0a r0b r0c r0d.2.1 r0e
    refine Clu.calls_args (al := [(1000, L0)]) (R := fun id => if id = 1000 then (B0, O0) else (0, 0)) Clu.plain hY Clu.mixed hLT Tryd.func8 rfl (by decide) (args := [.sl 1000 0 len0 cap0, .i .u8 a1, .i .u16 a2, .i .u32 a3]) (xs := [.slice (some ⟨B0, O0, none⟩) len0 cap0, .int .u8 a1, .int .u16 a2, .int .u32 a3]) ⟨_, _, rfl, ⟨_, _, _, rfl, rfl⟩, ⟨_, _, rfl, rfl, ⟨_, _, rfl, rfl, ⟨_, _, rfl, rfl, rfl⟩⟩⟩⟩ hk hL (fun id cs hm => ?_)
    simp only [List.mem_cons, List.not_mem_nil, or_false, Prod.mk.injEq] at hm
    rcases hm with ⟨rfl, rfl⟩
    · exact ⟨by decide, by decide, r0d⟩

theorem weights_nil {H : Type} (P : Program) (ts : List TypeId) : DataW.weightsEach P ts ([] : List (DataW H)) = [] := by cases ts <;> rfl
set_option maxHeartbeats 8000000 in
set_option maxRecDepth 100000 in
theorem lifted (os : Os) (started : os.Started) (H : Type) (enc : TypeId × Value → H) :
    ReturnsInHanded {} Tryd.checked os 8 .any (fun w args => (Rows.cursorPutsSpec.pre enc Tryd.prog Tryd.f8 [] false w args ∧ laidMetH Tryd.prog Rows.cursorPutsRow.laid w) ∧ sizedMet enc Tryd.prog Tryd.f8 (OpenSpec.ofChange Rows.cursorPutsSpec) false w args) (Rows.cursorPutsSpec.post enc Tryd.prog Tryd.f8 false true false false) := by
  refine returnsInHanded_of_change_and (C := Tryd.checked) (X := fun w _ => laidMetH Tryd.prog Rows.cursorPutsRow.laid w) (fun _ _ _ hh h => h.of_heap hh) own started (by kernel_rfl) Tryd.func8
    (ChangeSpec.witness_at (enc := enc) (C := Tryd.checked) (os := os) (X := fun w _ => laidMetH Tryd.prog Rows.cursorPutsRow.laid w) false (laidWorld os) #[.slice none 0 0, .int .u8 0, .int .u16 0, .int .u32 0] 8 rfl (by kernel_rfl) (by kernel_rfl) (by kernel_rfl) (by kernel_rfl) (by kernel_rfl) (laidWorld_met os _)) ?_
  intro W base args ds gs before hval0 hW _ hsz hLaid _
  have hval : ∀ (j : Nat) t v, Tryd.f8.params[j]? = some t → args[j]? = some v → Value.okWide Tryd.prog W .any base t v := hval0
  have hW' := hW
  obtain ⟨p, q, hA0, hV, rfl, hfz, hnd⟩ := hW
  have hA : DataW.TrodAll enc Tryd.prog W 0 (fun _ => true) true Tryd.f8.params.toList args.toList ds p := hA0
  rw [Tryd.params8] at hA hval
  obtain ⟨v0, vs0, d0, ds0, p0, q0, hargs, rfl, rfl, h0, r0⟩ := trodAll_cons hA
  obtain ⟨v1, vs1, d1, ds1, p1, q1, rfl, rfl, rfl, h1, r1⟩ := trodAll_cons r0
  obtain ⟨v2, vs2, d2, ds2, p2, q2, rfl, rfl, rfl, h2, r2⟩ := trodAll_cons r1
  obtain ⟨v3, vs3, d3, ds3, p3, q3, rfl, rfl, rfl, h3, r3⟩ := trodAll_cons r2
  obtain ⟨rfl, rfl, rfl⟩ := trodAll_nil r3
  obtain rfl : args = #[v0, v1, v2, v3] := by cases args; simp_all
  obtain ⟨rfl, rfl⟩ := trodVars_none hV
  have k0 := h0
  have lt0 : ∀ x ∈ p0, x.block < W.heap.size := by obtain ⟨m, hm⟩ := k0; exact DataW.trod_lt m _ _ _ hm
  have w0 : RowIn51 W v0 := rowin51 (hval 0 51 v0 rfl rfl) h0
  have k1 := h1
  have lt1 : ∀ x ∈ p1, x.block < W.heap.size := by obtain ⟨m, hm⟩ := k1; exact DataW.trod_lt m _ _ _ hm
  obtain ⟨a1, rfl, rfl, rfl, w1⟩ := open_int Tryd.underlying5 (hval 1 5 v1 rfl rfl) h1
  have k2 := h2
  have lt2 : ∀ x ∈ p2, x.block < W.heap.size := by obtain ⟨m, hm⟩ := k2; exact DataW.trod_lt m _ _ _ hm
  obtain ⟨a2, rfl, rfl, rfl, w2⟩ := open_int Tryd.underlying52 (hval 2 52 v2 rfl rfl) h2
  have k3 := h3
  have lt3 : ∀ x ∈ p3, x.block < W.heap.size := by obtain ⟨m, hm⟩ := k3; exact DataW.trod_lt m _ _ _ hm
  obtain ⟨a3, rfl, rfl, rfl, w3⟩ := open_int Tryd.underlying53 (hval 3 53 v3 rfl rfl) h3
  rw [Tryd.params8] at hsz
  clear hA0 hval0
  refine (walk v0 a1 a2 a3 W w0 w1 w2 w3 (laid_of hLaid)).mono fun e W' ⟨he, bel⟩ => ?_
  subst he
  exact ⟨_, rfl, _, _, _, [], _, [], hW', trodAll_mk1 (shut_bool Tryd.underlying4 _), (trodAll_cons_mk (Below.trod laidOut (by kernel_rfl) (of_decide_eq_true (by kernel_rfl)) k0 bel lt0) (trodAll_cons_mk (Below.trod laidOut (by kernel_rfl) (of_decide_eq_true (by kernel_rfl)) k1 bel lt1) (trodAll_cons_mk (Below.trod laidOut (by kernel_rfl) (of_decide_eq_true (by kernel_rfl)) k2 bel lt2) (trodAll_cons_mk (Below.trod laidOut (by kernel_rfl) (of_decide_eq_true (by kernel_rfl)) k3 bel lt3) trodAll_mk0)))), rfl, bel.frame _, fun h => by cases h⟩

theorem over : Rows.cursorPutsRow.holds Tryd.pinned (OpenSpec.ofChange Rows.cursorPutsSpec) :=
  OpenClaim.holds_of_wide 8 Tryd.f8 rfl rfl rfl rfl rfl rfl rfl ⟨rfl, rfl, rfl, rfl, rfl⟩ rfl rfl rfl rfl rfl (by kernel_rfl) Tryd.func8 (by kernel_rfl)
    (of_decide_eq_true (by kernel_rfl)) (by unfold Func.isWrapper; first | (rw [if_pos (by decide +kernel)]; kernel_rfl) | (rw [if_neg (by decide +kernel)]; exact ⟨rfl, rfl⟩))
    (fun os started H enc _ => lifted os started H enc)

theorem plainly (f : FuncId) (fn : Func) (hf : Tryd.pinned.checked.prog.funcNamed "hustings/hustingslaw02.CursorPuts" = some f) (hfn : Tryd.pinned.checked.prog.funcs[f]? = some fn) :
    true = Tryd.pinned.checked.prog.looks [] ∧ ∀ (j : Nat) t, fn.params[j]? = some t → Tryd.pinned.checked.prog.wantsStandIn t = false := by
  obtain rfl : f = 8 := Option.some.inj ((show Tryd.prog.funcNamed "hustings/hustingslaw02.CursorPuts" = some 8 by kernel_rfl).symm.trans hf) |>.symm
  obtain rfl : fn = Tryd.f8 := (Option.some.inj (Tryd.func8.symm.trans hfn)).symm
  refine ⟨by kernel_rfl, fun j t ht => ?_⟩
  rw [Tryd.params8] at ht
  have hm := Array.mem_of_getElem? ht
  have hs : ∀ t ∈ #[51, 5, 52, 53], Tryd.prog.wantsStandIn t = false := by
    intro t ht
    simp only [Array.mem_def, List.mem_cons, List.not_mem_nil, or_false] at ht
    rcases ht with rfl | rfl | rfl | rfl
    all_goals kernel_rfl
  exact hs t hm

/-- the card -/
theorem proved : Rows.CursorPutsCardSaid :=
  Claim7.holds_tied_plain_at .later [] _ _ _ _ over (fun _ h => by cases h) (by kernel_rfl) (fun _ h => by cases h) cursorPuts_row_tie rfl ⟨rfl, rfl⟩ (by kernel_rfl) rfl plainly (by kernel_rfl)
#print axioms proved
end Go.Proofs.YtdhhocmdolnfiaaDoor.cursorPuts
