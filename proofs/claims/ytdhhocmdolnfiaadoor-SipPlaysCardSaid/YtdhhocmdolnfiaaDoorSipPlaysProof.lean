/-
  For every input hustings/hustingslaw13.SipPlays returns true, and each argument reads afterwards as it read before; the listed package-level variables start as the program's text lays them (the card ties them).
-/
import Derived.Test.YtdhhocmdolnfiaaDoorSipPlaysRun
import Derived.Test.YtdhhocmdolnfiaaDoorCards
import Derived.Test.YtdhhocmdolnfiaaDoorTie
import Derived.WalkKit
import Derived.ProofKit
import Derived.OpenShut
import Derived.ShutString
import Derived.ChangeOld
import Derived.Below
import Derived.SliceStrings
import Derived.ChangeSame
import Derived.ChangeVars
import Derived.JoinedOf
import Derived.RowKit
import Derived.RowKitTokens
import Derived.LaidLaws
import Derived.LaidHandle
import Derived.Stop.Joined
import Derived.SevenTiedAt
namespace Go.Proofs.YtdhhocmdolnfiaaDoor.sipPlays
open Go.ChangeShapes Go.WideShapes Go.ChangeAt Go.RowKit
open Go.ChangeMaps (open_string shut_string)
set_option linter.unusedVariables false

theorem len_cons {l : List Value} {n : Nat} (h : l.length = n + 1) : ∃ x t, l = x :: t ∧ t.length = n := by
  cases l with
  | nil => cases h
  | cons x t => exact ⟨x, t, rfl, Nat.succ.inj h⟩
set_option linter.unusedSimpArgs false in
set_option maxRecDepth 100000 in
theorem cellsT31 {H : Type} {enc : TypeId × Value → H} {W : World} {fu : Nat} {us : List Value} {x : DataW H × List MemPlace} (hf : DataW.trod enc Tryd.prog W 0 (fun _ => true) true fu 31 us = some x) :
    ∃ (c0 : Int) (c1 : ByteArray), us = [.int .u8 c0, .string c1] ∧ (Lit.int .u8 c0).wf = true ∧ c1.size ≤ maxLen := by
  obtain ⟨xs, mm, _, hx, szL, hxl, hfi⟩ := DataW.trod_struct Tryd.underlying31 hf
  rw [show Tryd.prog.cellsOf 31 = 2 by kernel_rfl] at szL
  obtain ⟨u0, ct0, rfl, cl0⟩ := len_cons szL
  obtain ⟨u1, ct1, rfl, cl1⟩ := len_cons cl0
  obtain rfl := List.eq_nil_of_length_eq_zero cl1
  obtain ⟨y0, e0⟩ : ∃ y, xs[0]? = some y := ⟨_, List.getElem?_eq_getElem (by rw [hxl]; decide)⟩
  have g0 : DataW.trod enc Tryd.prog W 0 (fun _ => true) true mm 5 ((List.drop 0 [u0, u1]).take (Tryd.prog.cellsOf 5)) = some y0 := (hfi 0 _ rfl).trans e0
  obtain ⟨y1, e1⟩ : ∃ y, xs[1]? = some y := ⟨_, List.getElem?_eq_getElem (by rw [hxl]; decide)⟩
  have g1 : DataW.trod enc Tryd.prog W 0 (fun _ => true) true mm 9 ((List.drop 1 [u0, u1]).take (Tryd.prog.cellsOf 9)) = some y1 := (hfi 1 _ rfl).trans e1
  rw [show Tryd.prog.cellsOf 5 = 1 by kernel_rfl] at g0
  simp only [List.drop_succ_cons, List.drop_zero, List.take_succ_cons, List.take_zero, Nat.mul_one, Nat.zero_mul, Nat.one_mul] at g0
  obtain ⟨c0, q0, _, w0⟩ := DataW.trod_int Tryd.underlying5 g0
  obtain rfl : u0 = _ := (List.cons.inj q0).1
  rw [show Tryd.prog.cellsOf 9 = 1 by kernel_rfl] at g1
  simp only [List.drop_succ_cons, List.drop_zero, List.take_succ_cons, List.take_zero, Nat.mul_one, Nat.zero_mul, Nat.one_mul] at g1
  obtain ⟨c1, q1, _, w1⟩ := DataW.trod_string Tryd.underlying9 g1
  obtain rfl : u1 = _ := (List.cons.inj q1).1
  exact ⟨_, _, rfl, w0, w1⟩

/-- what each element of a row holds -/
def Elem26 (L : List Clu.AV) (j : Nat) : Prop := (∃ z : Int, Clu.getL L (j * 2 + 0) = some (.i .u8 z) ∧ (Lit.int .u8 z).wf = true) ∧ (∃ n N : Nat, Clu.getL L (j * 2 + 1) = some (.s n N) ∧ n ≤ maxLen)
def RowIn26 (w : World) (v : Value) : Prop := v = .slice none 0 0 ∨ ∃ (B O len cap : Nat) (L : List Clu.AV), v = .slice (some ⟨B, O, none⟩) len cap ∧ len ≤ cap ∧ cap ≤ maxLen ∧ L.length = len * 2 ∧ Clu.ArgAt w B O L ∧ ∀ j, j < len → Elem26 L j
set_option maxRecDepth 100000 in
theorem rowin26 {H : Type} {enc : TypeId × Value → H} {W : World} {base : Nat} {v : Value} {d : DataW H} {p : List MemPlace} (hw : Value.okWide Tryd.prog W .any base 26 v) (ht : DataW.Trod enc Tryd.prog W 0 (fun _ => true) true 26 v d p) : RowIn26 W v := by
  rcases Clu.slice_in Tryd.underlying26 hw ht with h1 | ⟨B, O, len, cap, rfl, h1, h2, h3, h4, h5⟩
  · exact .inl h1
  rw [show Tryd.prog.cellsOf 31 = 2 by kernel_rfl] at h5
  have each : ∀ i, i < len → (∃ u, W.cell? ⟨B, O + (i * 2 + 0), none⟩ = some u ∧ ∃ z, u = .int .u8 z ∧ (Lit.int .u8 z).wf = true) ∧ (∃ u, W.cell? ⟨B, O + (i * 2 + 1), none⟩ = some u ∧ ∃ s, u = .string s ∧ s.size ≤ maxLen) := fun i hi => by
    obtain ⟨us, fu, y, q1, q2, q3⟩ := h5 i hi
    obtain ⟨c0, c1, rfl, w0, w1⟩ := cellsT31 q3
    exact ⟨⟨_, q2 0 (by decide), _, rfl, w0⟩, ⟨_, q2 1 (by decide), _, rfl, w1⟩⟩
  have flt : ∀ k, k < len * 2 → (Clu.avOf (W.cell? ⟨B, O + k, none⟩)).flt = true := fun k hk => by
    have hi : k / 2 < len := Nat.div_lt_of_lt_mul (by omega)
    obtain ⟨⟨u0, e0, z0, rfl, x0⟩, ⟨u1, e1, z1, rfl, x1⟩⟩ := each (k / 2) hi
    rcases (show k = k / 2 * 2 + 0 ∨ k = k / 2 * 2 + 1 by omega) with h | h
    · rw [h, Clu.avOf_int e0]; rfl
    · rw [h, Clu.avOf_string e1]; rfl
  refine .inr ⟨B, O, len, cap, Clu.rowOf W B O (len * 2), rfl, h1, h2, Clu.rowOf_length .., Clu.argAt_row (by have : maxLen = 9223372036854775807 := rfl; omega) h3 h4 flt, fun j hj => ?_⟩
  obtain ⟨⟨u0, e0, z0, rfl, x0⟩, ⟨u1, e1, z1, rfl, x1⟩⟩ := each j hj
  exact ⟨⟨_, (Clu.getL_eq _ _).trans ((Clu.rowOf_get (by omega)).trans (congrArg some (Clu.avOf_int e0))), x0⟩, ⟨_, _, (Clu.getL_eq _ _).trans ((Clu.rowOf_get (by omega)).trans (congrArg some (Clu.avOf_string e1))), x1⟩⟩
theorem walk (a0 : Int) (a1 : Int) (v2 : Value) (w : World) (w0 : (Lit.int .u64 a0).wf = true) (w1 : (Lit.int .u64 a1).wf = true) (w2 : RowIn26 w v2) (hL : ∀ g cs, (g, cs) ∈ lays → g < 1000 ∧ Clu.LaidAt w g cs) :
    Calls Tryd.prog 4 #[.int .u64 a0, .int .u64 a1, v2] w fun e w' => e = .returned (.bool true) ∧ Below w.heap.size w w' := by
  have b0 := bounds_u64 w0
  have b1 := bounds_u64 w1
  rcases w2 with rfl | ⟨B2, O2, len2, cap2, L2, rfl, r2a, r2b, r2c, r2d, r2e⟩
  · skip
    obtain ⟨LT, hLT, Y, hY, hk⟩ := run_n a0 b0.1 b0.2 a1 b1.1 b1.2 
    refine Clu.calls_args (al := []) (R := fun id => (0, 0)) Clu.plain hY Clu.mixed hLT Tryd.func4 rfl (by decide) (args := [.i .u64 a0, .i .u64 a1, .sn]) (xs := [.int .u64 a0, .int .u64 a1, .slice none 0 0]) ⟨_, _, rfl, rfl, ⟨_, _, rfl, rfl, ⟨_, _, rfl, rfl, rfl⟩⟩⟩ hk hL (fun id cs hm => ?_)
    cases hm
  · skip
    obtain ⟨LT, hLT, Y, hY, hk⟩ := run_r a0 b0.1 b0.2 a1 b1.1 b1.2 L2 len2 cap2 r2a r2b r2c r2d.2.1 r2e
    refine Clu.calls_args (al := [(1000, L2)]) (R := fun id => if id = 1000 then (B2, O2) else (0, 0)) Clu.plain hY Clu.mixed hLT Tryd.func4 rfl (by decide) (args := [.i .u64 a0, .i .u64 a1, .sl 1000 0 len2 cap2]) (xs := [.int .u64 a0, .int .u64 a1, .slice (some ⟨B2, O2, none⟩) len2 cap2]) ⟨_, _, rfl, rfl, ⟨_, _, rfl, rfl, ⟨_, _, rfl, ⟨_, _, _, rfl, rfl⟩, rfl⟩⟩⟩ hk hL (fun id cs hm => ?_)
    simp only [List.mem_cons, List.not_mem_nil, or_false, Prod.mk.injEq] at hm
    rcases hm with ⟨rfl, rfl⟩
    · exact ⟨by decide, by decide, r2d⟩

theorem weights_nil {H : Type} (P : Program) (ts : List TypeId) : DataW.weightsEach P ts ([] : List (DataW H)) = [] := by cases ts <;> rfl
set_option maxHeartbeats 8000000 in
set_option maxRecDepth 100000 in
theorem lifted (os : Os) (started : os.Started) (H : Type) (enc : TypeId × Value → H) :
    ReturnsInHanded {} Tryd.checked os 4 .any (fun w args => (Rows.sipPlaysSpec.pre enc Tryd.prog Tryd.f4 [] false w args ∧ laidMetH Tryd.prog Rows.sipPlaysRow.laid w) ∧ sizedMet enc Tryd.prog Tryd.f4 (OpenSpec.ofChange Rows.sipPlaysSpec) false w args) (Rows.sipPlaysSpec.post enc Tryd.prog Tryd.f4 false true false false) := by
  refine returnsInHanded_of_change_and (C := Tryd.checked) (X := fun w _ => laidMetH Tryd.prog Rows.sipPlaysRow.laid w) (fun _ _ _ hh h => h.of_heap hh) own started (by kernel_rfl) Tryd.func4
    (ChangeSpec.witness_at (enc := enc) (C := Tryd.checked) (os := os) (X := fun w _ => laidMetH Tryd.prog Rows.sipPlaysRow.laid w) false (laidWorld os) #[.int .u64 0, .int .u64 0, .slice none 0 0] 8 rfl (by kernel_rfl) (by kernel_rfl) (by kernel_rfl) (by kernel_rfl) (by kernel_rfl) (laidWorld_met os _)) ?_
  intro W base args ds gs before hval0 hW _ hsz hLaid _
  have hval : ∀ (j : Nat) t v, Tryd.f4.params[j]? = some t → args[j]? = some v → Value.okWide Tryd.prog W .any base t v := hval0
  have hW' := hW
  obtain ⟨p, q, hA0, hV, rfl, hfz, hnd⟩ := hW
  have hA : DataW.TrodAll enc Tryd.prog W 0 (fun _ => true) true Tryd.f4.params.toList args.toList ds p := hA0
  rw [Tryd.params4] at hA hval
  obtain ⟨v0, vs0, d0, ds0, p0, q0, hargs, rfl, rfl, h0, r0⟩ := trodAll_cons hA
  obtain ⟨v1, vs1, d1, ds1, p1, q1, rfl, rfl, rfl, h1, r1⟩ := trodAll_cons r0
  obtain ⟨v2, vs2, d2, ds2, p2, q2, rfl, rfl, rfl, h2, r2⟩ := trodAll_cons r1
  obtain ⟨rfl, rfl, rfl⟩ := trodAll_nil r2
  obtain rfl : args = #[v0, v1, v2] := by cases args; simp_all
  obtain ⟨rfl, rfl⟩ := trodVars_none hV
  have k0 := h0
  have lt0 : ∀ x ∈ p0, x.block < W.heap.size := by obtain ⟨m, hm⟩ := k0; exact DataW.trod_lt m _ _ _ hm
  obtain ⟨a0, rfl, rfl, rfl, w0⟩ := open_int Tryd.underlying22 (hval 0 22 v0 rfl rfl) h0
  have k1 := h1
  have lt1 : ∀ x ∈ p1, x.block < W.heap.size := by obtain ⟨m, hm⟩ := k1; exact DataW.trod_lt m _ _ _ hm
  obtain ⟨a1, rfl, rfl, rfl, w1⟩ := open_int Tryd.underlying22 (hval 1 22 v1 rfl rfl) h1
  have k2 := h2
  have lt2 : ∀ x ∈ p2, x.block < W.heap.size := by obtain ⟨m, hm⟩ := k2; exact DataW.trod_lt m _ _ _ hm
  have w2 : RowIn26 W v2 := rowin26 (hval 2 26 v2 rfl rfl) h2
  rw [Tryd.params4] at hsz
  clear hA0 hval0
  refine (walk a0 a1 v2 W w0 w1 w2 (laid_of hLaid)).mono fun e W' ⟨he, bel⟩ => ?_
  subst he
  exact ⟨_, rfl, _, _, _, [], _, [], hW', trodAll_mk1 (shut_bool Tryd.underlying4 _), (trodAll_cons_mk (Below.trod laidOut (by kernel_rfl) (of_decide_eq_true (by kernel_rfl)) k0 bel lt0) (trodAll_cons_mk (Below.trod laidOut (by kernel_rfl) (of_decide_eq_true (by kernel_rfl)) k1 bel lt1) (trodAll_cons_mk (Below.trod laidOut (by kernel_rfl) (of_decide_eq_true (by kernel_rfl)) k2 bel lt2) trodAll_mk0))), rfl, bel.frame _, fun h => by cases h⟩

theorem over : Rows.sipPlaysRow.holds Tryd.pinned (OpenSpec.ofChange Rows.sipPlaysSpec) :=
  OpenClaim.holds_of_wide 4 Tryd.f4 rfl rfl rfl rfl rfl rfl rfl ⟨rfl, rfl, rfl, rfl, rfl⟩ rfl rfl rfl rfl rfl (by kernel_rfl) Tryd.func4 (by kernel_rfl)
    (of_decide_eq_true (by kernel_rfl)) (by unfold Func.isWrapper; first | (rw [if_pos (by decide +kernel)]; kernel_rfl) | (rw [if_neg (by decide +kernel)]; exact ⟨rfl, rfl⟩))
    (fun os started H enc _ => lifted os started H enc)

theorem plainly (f : FuncId) (fn : Func) (hf : Tryd.pinned.checked.prog.funcNamed "hustings/hustingslaw13.SipPlays" = some f) (hfn : Tryd.pinned.checked.prog.funcs[f]? = some fn) :
    true = Tryd.pinned.checked.prog.looks [] ∧ ∀ (j : Nat) t, fn.params[j]? = some t → Tryd.pinned.checked.prog.wantsStandIn t = false := by
  obtain rfl : f = 4 := Option.some.inj ((show Tryd.prog.funcNamed "hustings/hustingslaw13.SipPlays" = some 4 by kernel_rfl).symm.trans hf) |>.symm
  obtain rfl : fn = Tryd.f4 := (Option.some.inj (Tryd.func4.symm.trans hfn)).symm
  refine ⟨by kernel_rfl, fun j t ht => ?_⟩
  rw [Tryd.params4] at ht
  have hm := Array.mem_of_getElem? ht
  have hs : ∀ t ∈ #[22, 22, 26], Tryd.prog.wantsStandIn t = false := by
    intro t ht
    simp only [Array.mem_def, List.mem_cons, List.not_mem_nil, or_false] at ht
    rcases ht with rfl | rfl | rfl
    all_goals kernel_rfl
  exact hs t hm

/-- the card -/
theorem proved : Rows.SipPlaysCardSaid :=
  Claim7.holds_tied_plain_at .later [] _ _ _ _ over (fun _ h => by cases h) (by kernel_rfl) (fun _ h => by cases h) sipPlays_row_tie rfl ⟨rfl, rfl⟩ (by kernel_rfl) rfl plainly (by kernel_rfl)
#print axioms proved
end Go.Proofs.YtdhhocmdolnfiaaDoor.sipPlays
