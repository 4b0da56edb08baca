/-
  For every input hustings/hustingslaw01.NameLetters returns true, and each argument reads afterwards as it read before. No condition.
-/
import Derived.Test.YtmokdhmicdmgfaaNameLettersRun
import Derived.WalkKit
import Derived.ProofKit
import Derived.OpenShut
import Derived.ShutString
import Derived.ChangeOld
import Derived.Below
import Derived.SliceStrings
import Derived.ChangeSame
import Derived.ChangeVars
import Derived.JoinedOf
import Derived.RowKit
import Derived.RowKitTokens
import Derived.LaidLaws
import Derived.LaidHandle
import Derived.Stop.Joined
import Derived.SevenTiedAt
namespace Go.Proofs.Ytmokdhmicdmgfaa.nameLetters
open Go.ChangeShapes Go.WideShapes Go.ChangeAt Go.RowKit
open Go.ChangeMaps (open_string shut_string)
set_option linter.unusedVariables false

/-- what each element of a row holds -/
def Elem41 (L : List Clu.AV) (j : Nat) : Prop := (∃ z : Int, Clu.getL L (j * 1 + 0) = some (.i .u8 z) ∧ (Lit.int .u8 z).wf = true)
def RowIn41 (w : World) (v : Value) : Prop := v = .slice none 0 0 ∨ ∃ (B O len cap : Nat) (L : List Clu.AV), v = .slice (some ⟨B, O, none⟩) len cap ∧ len ≤ cap ∧ cap ≤ maxLen ∧ L.length = len * 1 ∧ Clu.ArgAt w B O L ∧ ∀ j, j < len → Elem41 L j
set_option maxRecDepth 100000 in
theorem rowin41 {H : Type} {enc : TypeId × Value → H} {W : World} {base : Nat} {v : Value} {d : DataW H} {p : List MemPlace} (hw : Value.okWide Try.prog W .any base 41 v) (ht : DataW.Trod enc Try.prog W 0 (fun _ => true) true 41 v d p) : RowIn41 W v := by
  rcases Clu.slice_in Try.underlying41 hw ht with h1 | ⟨B, O, len, cap, rfl, h1, h2, h3, h4, h5⟩
  · exact .inl h1
  rw [show Try.prog.cellsOf 5 = 1 by kernel_rfl] at h5
  have each : ∀ i, i < len → (∃ u, W.cell? ⟨B, O + (i * 1 + 0), none⟩ = some u ∧ ∃ z, u = .int .u8 z ∧ (Lit.int .u8 z).wf = true) := fun i hi => by
    obtain ⟨us, fu, y, q1, q2, q3⟩ := h5 i hi
    obtain ⟨u0, rfl⟩ : ∃ u0, us = [u0] := by
      match us, q1 with
      | [u0], _ => exact ⟨u0, rfl⟩
    obtain ⟨z, e0, _, w0⟩ := DataW.trod_int Try.underlying5 q3
    obtain rfl : u0 = _ := (List.cons.inj e0).1
    exact ⟨_, q2 0 (by decide), _, rfl, w0⟩
  have flt : ∀ k, k < len * 1 → (Clu.avOf (W.cell? ⟨B, O + k, none⟩)).flt = true := fun k hk => by
    have hi : k / 1 < len := Nat.div_lt_of_lt_mul (by omega)
    obtain ⟨u0, e0, z0, rfl, x0⟩ := each (k / 1) hi
    rcases (show k = k / 1 * 1 + 0 by omega) with h
    · rw [h, Clu.avOf_int e0]; rfl
  refine .inr ⟨B, O, len, cap, Clu.rowOf W B O (len * 1), rfl, h1, h2, Clu.rowOf_length .., Clu.argAt_row (by have : maxLen = 9223372036854775807 := rfl; omega) h3 h4 flt, fun j hj => ?_⟩
  obtain ⟨u0, e0, z0, rfl, x0⟩ := each j hj
  exact ⟨_, (Clu.getL_eq _ _).trans ((Clu.rowOf_get (by omega)).trans (congrArg some (Clu.avOf_int e0))), x0⟩
theorem walk (s0 : ByteArray) (s1 : ByteArray) (v2 : Value) (w : World) (w0 : s0.size ≤ maxLen) (w1 : s1.size ≤ maxLen) (w2 : RowIn41 w v2)  :
    Calls Try.prog 9 #[.string s0, .string s1, v2] w fun e w' => e = .returned (.bool true) ∧ Below w.heap.size w w' := by
  obtain ⟨l0, hB0, hl0, hN0⟩ := Clu.str_list s0
  obtain ⟨l1, hB1, hl1, hN1⟩ := Clu.str_list s1
  have hL : ∀ g cs, (g, cs) ∈ lays → g < 1000 ∧ Clu.LaidAt w g cs := fun g cs hm => by cases hm
  rcases w2 with rfl | ⟨B2, O2, len2, cap2, L2, rfl, r2a, r2b, r2c, r2d, r2e⟩
  · skip
    obtain ⟨LT, hLT, Y, hY, nn, hk⟩ := run_n l0 hB0 (by rw [hl0]; exact w0) l1 hB1 (by rw [hl1]; exact w1) 
    refine Clu.calls_args (al := []) (R := fun id => (0, 0)) Clu.plain hY Clu.mixed hLT Try.func9 rfl (by decide) (args := [.s l0.length (Clu.pk l0), .s l1.length (Clu.pk l1), .sn]) (xs := [.string s0, .string s1, .slice none 0 0]) ⟨_, _, rfl, hN0 _, ⟨_, _, rfl, hN1 _, ⟨_, _, rfl, rfl, rfl⟩⟩⟩ hk hL (fun id cs hm => ?_)
    cases hm
  · skip
    obtain ⟨LT, hLT, Y, hY, nn, hk⟩ := run_r l0 hB0 (by rw [hl0]; exact w0) l1 hB1 (by rw [hl1]; exact w1) L2 len2 cap2 r2a r2b r2c r2d.2.1 r2e
    refine Clu.calls_args (al := [(1000, L2)]) (R := fun id => if id = 1000 then (B2, O2) else (0, 0)) Clu.plain hY Clu.mixed hLT Try.func9 rfl (by decide) (args := [.s l0.length (Clu.pk l0), .s l1.length (Clu.pk l1), .sl 1000 0 len2 cap2]) (xs := [.string s0, .string s1, .slice (some ⟨B2, O2, none⟩) len2 cap2]) ⟨_, _, rfl, hN0 _, ⟨_, _, rfl, hN1 _, ⟨_, _, rfl, ⟨_, _, _, rfl, rfl⟩, rfl⟩⟩⟩ hk hL (fun id cs hm => ?_)
    simp only [List.mem_cons, List.not_mem_nil, or_false, Prod.mk.injEq] at hm
    rcases hm with ⟨rfl, rfl⟩
    · exact ⟨by decide, by decide, r2d⟩

set_option maxHeartbeats 8000000 in
set_option maxRecDepth 100000 in
theorem lifted (os : Os) (started : os.Started) (H : Type) (enc : TypeId × Value → H) :
    ReturnsInHanded {} Try.checked os 9 .any (Rows.nameLettersSpec.pre6 enc Try.prog Try.f9 Rows.nameLettersRow.domain false) (Rows.nameLettersSpec.post enc Try.prog Try.f9 false true false false) := by
  refine returnsInHanded_of_change (C := Try.checked) own started (by kernel_rfl) Try.func9
    (ChangeSpec.witness6 (enc := enc) (C := Try.checked) false ⟨#[], #[.string ByteArray.empty, .string ByteArray.empty, .slice none 0 0], []⟩ 8 (by kernel_rfl) (by kernel_rfl) (by kernel_rfl) (by kernel_rfl)) ?_
  intro W base args ds gs before hval0 hW hcnd _
  have hval : ∀ (j : Nat) t v, Try.f9.params[j]? = some t → args[j]? = some v → Value.okWide Try.prog W .any base t v := hval0
  have hW' := hW
  obtain ⟨p, q, hA0, hV, rfl, hfz, hnd⟩ := hW
  have hA : DataW.TrodAll enc Try.prog W 0 (fun _ => true) true Try.f9.params.toList args.toList ds p := hA0
  rw [Try.params9] at hA hval
  obtain ⟨v0, vs0, d0, ds0, p0, q0, hargs, rfl, rfl, h0, r0⟩ := trodAll_cons hA
  obtain ⟨v1, vs1, d1, ds1, p1, q1, rfl, rfl, rfl, h1, r1⟩ := trodAll_cons r0
  obtain ⟨v2, vs2, d2, ds2, p2, q2, rfl, rfl, rfl, h2, r2⟩ := trodAll_cons r1
  obtain ⟨rfl, rfl, rfl⟩ := trodAll_nil r2
  obtain rfl : args = #[v0, v1, v2] := by cases args; simp_all
  obtain ⟨rfl, rfl⟩ := trodVars_none hV
  have k0 := h0
  have lt0 : ∀ x ∈ p0, x.block < W.heap.size := by obtain ⟨m, hm⟩ := k0; exact DataW.trod_lt m _ _ _ hm
  obtain ⟨s0, rfl, rfl, rfl, w0⟩ := open_string Try.underlying9 (hval 0 9 v0 rfl rfl) h0
  have k1 := h1
  have lt1 : ∀ x ∈ p1, x.block < W.heap.size := by obtain ⟨m, hm⟩ := k1; exact DataW.trod_lt m _ _ _ hm
  obtain ⟨s1, rfl, rfl, rfl, w1⟩ := open_string Try.underlying9 (hval 1 9 v1 rfl rfl) h1
  have k2 := h2
  have lt2 : ∀ x ∈ p2, x.block < W.heap.size := by obtain ⟨m, hm⟩ := k2; exact DataW.trod_lt m _ _ _ hm
  have w2 : RowIn41 W v2 := rowin41 (hval 2 41 v2 rfl rfl) h2
  clear hA0 hval0
  refine (walk s0 s1 v2 W w0 w1 w2).mono fun e W' ⟨he, bel⟩ => ?_
  subst he
  exact ⟨_, rfl, _, _, _, [], _, [], hW', trodAll_mk1 (shut_bool Try.underlying4 _), (trodAll_cons_mk (Below.trod laidOut (by kernel_rfl) (of_decide_eq_true (by kernel_rfl)) k0 bel lt0) (trodAll_cons_mk (Below.trod laidOut (by kernel_rfl) (of_decide_eq_true (by kernel_rfl)) k1 bel lt1) (trodAll_cons_mk (Below.trod laidOut (by kernel_rfl) (of_decide_eq_true (by kernel_rfl)) k2 bel lt2) trodAll_mk0))), rfl, bel.frame _, fun h => by cases h⟩

theorem over : Rows.nameLettersRow.holds Try.pinned (OpenSpec.ofChange Rows.nameLettersSpec) :=
  OpenClaim.holds_of_wide 9 Try.f9 rfl rfl rfl rfl rfl rfl rfl ⟨rfl, rfl, rfl, rfl, rfl⟩ rfl rfl rfl rfl rfl (by kernel_rfl) Try.func9 (by kernel_rfl)
    (of_decide_eq_true (by kernel_rfl)) (by unfold Func.isWrapper; first | (rw [if_pos (by decide +kernel)]; kernel_rfl) | (rw [if_neg (by decide +kernel)]; exact ⟨rfl, rfl⟩))
    (fun os started H enc _ => lifted os started H enc)

/-- the statement -/
theorem proved : Rows.NameLettersSaid := over
#print axioms proved
end Go.Proofs.Ytmokdhmicdmgfaa.nameLetters
