/-
  HeadBack: what Write and Read answer.
-/
import Derived.Test.YtlcggjaogbclkaaDoorHeadBackRe
namespace Go.Proofs.YtlcggjaogbclkaaDoor.headBack
open Go.RowKit
set_option linter.unusedVariables false
set_option linter.unusedSimpArgs false
set_option maxRecDepth 100000
def okW (op code : Nat) (c0 c1 c2 c3 : Int) : Prop := (op ≤ 15 ∧ code ≤ 15) ∧ (0 ≤ c0 ∧ c0 ≤ 65535) ∧ (0 ≤ c1 ∧ c1 ≤ 65535) ∧ (0 ≤ c2 ∧ c2 ≤ 65535) ∧ (0 ≤ c3 ∧ c3 ≤ 65535)
open Classical in
noncomputable def wE (op code : Nat) (c0 c1 c2 c3 : Int) : Nat := if okW op code c0 c1 c2 c3 then 0 else 1
open Classical in
noncomputable def wS (id : Nat) (b1 : Bool) (op : Nat) (b3 b4 b5 b6 b7 b8 b9 : Bool) (code : Nat) (c0 c1 c2 c3 : Int) : Nat := if okW op code c0 c1 c2 c3 then 12 else 0
open Classical in
noncomputable def wN (id : Nat) (b1 : Bool) (op : Nat) (b3 b4 b5 b6 b7 b8 b9 : Bool) (code : Nat) (c0 c1 c2 c3 : Int) : Nat := if okW op code c0 c1 c2 c3 then Clu.pk [id / 256 % 256, id % 256, fN b1 op b3 b4 b5 b6 b7 b8 b9 code / 256 % 256, fN b1 op b3 b4 b5 b6 b7 b8 b9 code % 256, Int.toNat c0 % 65536 / 256 % 256, Int.toNat c0 % 65536 % 256, Int.toNat c1 % 65536 / 256 % 256, Int.toNat c1 % 65536 % 256, Int.toNat c2 % 65536 / 256 % 256, Int.toNat c2 % 65536 % 256, Int.toNat c3 % 65536 / 256 % 256, Int.toNat c3 % 65536 % 256] else 0
theorem wE_ok {op code : Nat} {c0 c1 c2 c3 : Int} (h : okW op code c0 c1 c2 c3) : wE op code c0 c1 c2 c3 = 0 := if_pos h
theorem wE_no {op code : Nat} {c0 c1 c2 c3 : Int} (h : ¬ okW op code c0 c1 c2 c3) : wE op code c0 c1 c2 c3 = 1 := if_neg h
theorem wS_ok (id : Nat) (b1 : Bool) (op : Nat) (b3 b4 b5 b6 b7 b8 b9 : Bool) (code : Nat) (c0 c1 c2 c3 : Int) (h : okW op code c0 c1 c2 c3) : wS id b1 op b3 b4 b5 b6 b7 b8 b9 code c0 c1 c2 c3 = 12 := if_pos h
theorem wS_no (id : Nat) (b1 : Bool) (op : Nat) (b3 b4 b5 b6 b7 b8 b9 : Bool) (code : Nat) (c0 c1 c2 c3 : Int) (h : ¬ okW op code c0 c1 c2 c3) : wS id b1 op b3 b4 b5 b6 b7 b8 b9 code c0 c1 c2 c3 = 0 := if_neg h
theorem wN_ok (id : Nat) (b1 : Bool) (op : Nat) (b3 b4 b5 b6 b7 b8 b9 : Bool) (code : Nat) (c0 c1 c2 c3 : Int) (h : okW op code c0 c1 c2 c3) : wN id b1 op b3 b4 b5 b6 b7 b8 b9 code c0 c1 c2 c3 = Clu.pk [id / 256 % 256, id % 256, fN b1 op b3 b4 b5 b6 b7 b8 b9 code / 256 % 256, fN b1 op b3 b4 b5 b6 b7 b8 b9 code % 256, Int.toNat c0 % 65536 / 256 % 256, Int.toNat c0 % 65536 % 256, Int.toNat c1 % 65536 / 256 % 256, Int.toNat c1 % 65536 % 256, Int.toNat c2 % 65536 / 256 % 256, Int.toNat c2 % 65536 % 256, Int.toNat c3 % 65536 / 256 % 256, Int.toNat c3 % 65536 % 256] := if_pos h
theorem wN_no (id : Nat) (b1 : Bool) (op : Nat) (b3 b4 b5 b6 b7 b8 b9 : Bool) (code : Nat) (c0 c1 c2 c3 : Int) (h : ¬ okW op code c0 c1 c2 c3) : wN id b1 op b3 b4 b5 b6 b7 b8 b9 code c0 c1 c2 c3 = 0 := if_neg h
theorem low : ∀ g cs, (g, cs) ∈ lays → g < 1000 ∧ 0 < cs.length ∧ Clu.AV.lowsM cs = true := Clu.low_of (by kernel_rfl)
theorem XF_ok : Clu.XOK Tryd.prog (Clu.addB X0 20 (Clu.layF lays (flagsF fN fE))) := Clu.addB_ok X0_ok (Clu.layF_ok low flags_fact)
theorem eT {x : Nat} (h : x = 0) : Clu.iEq (Int.ofNat x) (Int.ofNat 0) = true := by rw [h]; rfl
theorem eF {x : Nat} (h : x ≠ 0) : Clu.iEq (Int.ofNat x) (Int.ofNat 0) = false := Clu.iEq_f (by simp only [Int.ofNat_eq_natCast]; omega)
theorem nT {x : Nat} (h : x = 0) : (!Clu.iEq (Int.ofNat x) (Int.ofNat 0)) = false := by rw [eT h]; rfl
theorem nF {x : Nat} (h : x ≠ 0) : (!Clu.iEq (Int.ofNat x) (Int.ofNat 0)) = true := by rw [eF h]; rfl
theorem big {c : Nat} (h : c ≤ 65535) : Clu.iLt (Int.ofNat 65535) (Int.ofNat c) = false := Clu.iLt_f (by simp only [Int.ofNat_eq_natCast]; omega)
theorem big_t {c : Nat} (h : ¬ c ≤ 65535) : Clu.iLt (Int.ofNat 65535) (Int.ofNat c) = true := Clu.iLt_t (by simp only [Int.ofNat_eq_natCast]; omega)
theorem wbad_fact (id : Nat) (b1 : Bool) (op : Nat) (b3 b4 b5 b6 b7 b8 b9 : Bool) (code : Nat) (c0 c1 c2 c3 : Int) (h : ¬ okW op code c0 c1 c2 c3) {tt : Nat} (hr : (Clu.layK lays .e fun h => Clu.runF Tryd.prog (Clu.tell (Clu.addB X0 20 (Clu.layF lays (flagsF fN fE))) 18 tt) 1000 1000 18 [.ag [.i .u16 (.ofNat id), .b b1, .i .u8 (.ofNat op), .b b3, .b b4, .b b5, .b b6, .b b7, .b b8, .b b9, .i .u8 (.ofNat code)], .ag [.i .i64 c0, .i .i64 c1, .i .i64 c2, .i .i64 c3]] h 1000) = .ok (.tu [.s 0 0, .i .i64 (.ofNat 1)])) :
    Clu.Fact Tryd.prog 18 lays [.ag [.i .u16 (.ofNat id), .b b1, .i .u8 (.ofNat op), .b b3, .b b4, .b b5, .b b6, .b b7, .b b8, .b b9, .i .u8 (.ofNat code)], .ag [.i .i64 c0, .i .i64 c1, .i .i64 c2, .i .i64 c3]] (.tu [.s (wS id b1 op b3 b4 b5 b6 b7 b8 b9 code c0 c1 c2 c3) (wN id b1 op b3 b4 b5 b6 b7 b8 b9 code c0 c1 c2 c3), .i .i64 (.ofNat (wE op code c0 c1 c2 c3))]) := by
  rw [wS_no id b1 op b3 b4 b5 b6 b7 b8 b9 code c0 c1 c2 c3 h, wN_no id b1 op b3 b4 b5 b6 b7 b8 b9 code c0 c1 c2 c3 h, wE_no h]
  exact Clu.fact_of Clu.plain (Clu.tell_ok XF_ok) Clu.mixed hr rfl rfl
theorem write_fact (l : List Clu.AV) (v : Clu.AV) (h : writeF wS wN wE l = some v) : Clu.Fact Tryd.prog 18 lays l v := by
  unfold writeF at h
  split at h
  · cases h
    rename_i id b1 op b3 b4 b5 b6 b7 b8 b9 code c0 c1 c2 c3
    by_cases hf : op ≤ 15 ∧ code ≤ 15
    case neg =>
      have hr := q_wbad_raw fN fE id op code b1 b3 b4 b5 b6 b7 b8 b9 c0 c1 c2 c3
      rw [Clu.needT_eq (nF (by rw [fE_no hf]; decide)), fE_no hf] at hr
      exact wbad_fact id b1 op b3 b4 b5 b6 b7 b8 b9 code c0 c1 c2 c3 (fun h => hf h.1) hr
    cases c0 with
    | negSucc k =>
      have hr := q_wneg0_raw fN fE id op code b1 b3 b4 b5 b6 b7 b8 b9  k c1 c2 c3
      rw [Clu.needF_eq (nT (fE_ok hf))] at hr
      exact wbad_fact id b1 op b3 b4 b5 b6 b7 b8 b9 code  (Int.negSucc k) c1 c2 c3 (fun h => by have := h.2; omega) hr
    | ofNat c0 =>
    by_cases h0 : c0 ≤ 65535
    case neg =>
      have hr := q_wbig0_raw fN fE id op code b1 b3 b4 b5 b6 b7 b8 b9  c0 c1 c2 c3
      rw [Clu.needF_eq (nT (fE_ok hf)), Clu.needT_eq (big_t h0)] at hr
      exact wbad_fact id b1 op b3 b4 b5 b6 b7 b8 b9 code (Int.ofNat c0) c1 c2 c3 (fun h => by have := h.2; simp only [Int.ofNat_eq_natCast] at this; omega) hr
    cases c1 with
    | negSucc k =>
      have hr := q_wneg1_raw fN fE id op code b1 b3 b4 b5 b6 b7 b8 b9 c0 k c2 c3
      rw [Clu.needF_eq (nT (fE_ok hf)), Clu.needF_eq (big h0)] at hr
      exact wbad_fact id b1 op b3 b4 b5 b6 b7 b8 b9 code (Int.ofNat c0) (Int.negSucc k) c2 c3 (fun h => by have := h.2; omega) hr
    | ofNat c1 =>
    by_cases h1 : c1 ≤ 65535
    case neg =>
      have hr := q_wbig1_raw fN fE id op code b1 b3 b4 b5 b6 b7 b8 b9 c0 c1 c2 c3
      rw [Clu.needF_eq (nT (fE_ok hf)), Clu.needF_eq (big h0), Clu.needT_eq (big_t h1)] at hr
      exact wbad_fact id b1 op b3 b4 b5 b6 b7 b8 b9 code (Int.ofNat c0) (Int.ofNat c1) c2 c3 (fun h => by have := h.2; simp only [Int.ofNat_eq_natCast] at this; omega) hr
    cases c2 with
    | negSucc k =>
      have hr := q_wneg2_raw fN fE id op code b1 b3 b4 b5 b6 b7 b8 b9 c0 c1 k c3
      rw [Clu.needF_eq (nT (fE_ok hf)), Clu.needF_eq (big h0), Clu.needF_eq (big h1)] at hr
      exact wbad_fact id b1 op b3 b4 b5 b6 b7 b8 b9 code (Int.ofNat c0) (Int.ofNat c1) (Int.negSucc k) c3 (fun h => by have := h.2; omega) hr
    | ofNat c2 =>
    by_cases h2 : c2 ≤ 65535
    case neg =>
      have hr := q_wbig2_raw fN fE id op code b1 b3 b4 b5 b6 b7 b8 b9 c0 c1 c2 c3
      rw [Clu.needF_eq (nT (fE_ok hf)), Clu.needF_eq (big h0), Clu.needF_eq (big h1), Clu.needT_eq (big_t h2)] at hr
      exact wbad_fact id b1 op b3 b4 b5 b6 b7 b8 b9 code (Int.ofNat c0) (Int.ofNat c1) (Int.ofNat c2) c3 (fun h => by have := h.2; simp only [Int.ofNat_eq_natCast] at this; omega) hr
    cases c3 with
    | negSucc k =>
      have hr := q_wneg3_raw fN fE id op code b1 b3 b4 b5 b6 b7 b8 b9 c0 c1 c2 k 
      rw [Clu.needF_eq (nT (fE_ok hf)), Clu.needF_eq (big h0), Clu.needF_eq (big h1), Clu.needF_eq (big h2)] at hr
      exact wbad_fact id b1 op b3 b4 b5 b6 b7 b8 b9 code (Int.ofNat c0) (Int.ofNat c1) (Int.ofNat c2) (Int.negSucc k)  (fun h => by have := h.2; omega) hr
    | ofNat c3 =>
    by_cases h3 : c3 ≤ 65535
    case neg =>
      have hr := q_wbig3_raw fN fE id op code b1 b3 b4 b5 b6 b7 b8 b9 c0 c1 c2 c3 
      rw [Clu.needF_eq (nT (fE_ok hf)), Clu.needF_eq (big h0), Clu.needF_eq (big h1), Clu.needF_eq (big h2), Clu.needT_eq (big_t h3)] at hr
      exact wbad_fact id b1 op b3 b4 b5 b6 b7 b8 b9 code (Int.ofNat c0) (Int.ofNat c1) (Int.ofNat c2) (Int.ofNat c3)  (fun h => by have := h.2; simp only [Int.ofNat_eq_natCast] at this; omega) hr
    have hv : okW op code (Int.ofNat c0) (Int.ofNat c1) (Int.ofNat c2) (Int.ofNat c3) := ⟨hf, by simp only [Int.ofNat_eq_natCast]; omega⟩
    have hr := q_wvalid_raw fN fE id op code b1 b3 b4 b5 b6 b7 b8 b9 c0 c1 c2 c3
    rw [Clu.needF_eq (nT (fE_ok hf)), Clu.needF_eq (big h0), Clu.needF_eq (big h1), Clu.needF_eq (big h2), Clu.needF_eq (big h3)] at hr
    simp only [Clu.fdiv_nat, Clu.u16_nat, Clu.u8_nat, Clu.u8N_nat] at hr
    rw [wS_ok id b1 op b3 b4 b5 b6 b7 b8 b9 code _ _ _ _ hv, wN_ok id b1 op b3 b4 b5 b6 b7 b8 b9 code _ _ _ _ hv, wE_ok hv]
    exact Clu.fact_of Clu.plain (Clu.tell_ok XF_ok) Clu.mixed hr rfl rfl
  · cases h
theorem two_mod (N M i j : Nat) : Clu.modN (Clu.wrapF .u32 (Int.ofNat (Nat.lor (Clu.modN (Clu.wrapF .u32 (Clu.wrapF .u32 (Int.ofNat (Nat.lor 0 (Clu.modN (Clu.wrapF .u32 (Int.ofNat (Clu.byteN N i))) 4294967296))) * Int.ofNat 256)) 4294967296) (Clu.modN (Clu.wrapF .u32 (Int.ofNat (Clu.byteN M j))) 4294967296)))) 65536 = Clu.byteN N i * 256 + Clu.byteN M j := Int.ofNat.inj (Clu.two_eq N M i j)
noncomputable def duo (N j : Nat) : Nat := Clu.byteN N j * 256 + Clu.byteN N (j + 1)
noncomputable def rE (n N : Nat) : Nat := if n < 12 then 4 else 0
noncomputable def rI (n N : Nat) : Nat := if n < 12 then 0 else duo N 0
noncomputable def rB (n N k : Nat) : Bool := if n < 12 then false else bitN (duo N 2) k
noncomputable def rO (n N : Nat) : Nat := if n < 12 then 0 else opN (duo N 2)
noncomputable def rC (n N : Nat) : Nat := if n < 12 then 0 else codeN (duo N 2)
noncomputable def rK (n N j : Nat) : Nat := if n < 12 then 0 else duo N (4 + 2 * j)
theorem XR_ok : Clu.XOK Tryd.prog (Clu.addB X0 22 (Clu.layF lays (fromF bitN opN codeN))) := Clu.addB_ok X0_ok (Clu.layF_ok low from_fact)
theorem read_fact (l : List Clu.AV) (v : Clu.AV) (h : readF rI rO rC rE rB rK l = some v) (hg : readG l = true) : Clu.Fact Tryd.prog 15 lays l v := by
  unfold readF at h
  split at h
  · cases h
    rename_i n N
    have hz : n ≤ 140737488351232 := Clu.ble_iff.1 hg
    unfold rI rO rC rE rB rK
    by_cases hn : n < 12
    · have hr := q_rshort_raw bitN opN codeN n N
      rw [Clu.needT_eq (Clu.iLt_t (by simp only [Int.ofNat_eq_natCast]; omega))] at hr
      simp only [if_pos hn]
      exact Clu.fact_of Clu.plain (Clu.tell_ok XR_ok) Clu.mixed hr rfl rfl
    · have hr := q_rlong bitN opN codeN n N hz (by omega)
      simp only [two_mod, Clu.byteN_mask N 2 0 0 0 (by decide) (by decide), Clu.byteN_mask N 2 0 1 1 (by decide) (by decide), Clu.byteN_mask N 2 16 0 2 (by decide) (by decide), Clu.byteN_mask N 2 16 1 3 (by decide) (by decide), Clu.byteN_mask N 2 32 0 4 (by decide) (by decide), Clu.byteN_mask N 2 32 1 5 (by decide) (by decide), Clu.byteN_mask N 2 48 0 6 (by decide) (by decide), Clu.byteN_mask N 2 48 1 7 (by decide) (by decide), Clu.byteN_mask N 2 64 0 8 (by decide) (by decide), Clu.byteN_mask N 2 64 1 9 (by decide) (by decide), Clu.byteN_mask N 2 80 0 10 (by decide) (by decide), Clu.byteN_mask N 2 80 1 11 (by decide) (by decide)] at hr
      simp only [if_neg hn]
      exact Clu.fact_of Clu.plain (Clu.tell_ok (Clu.tell_ok XR_ok)) Clu.mixed hr rfl rfl
  · cases h
end Go.Proofs.YtlcggjaogbclkaaDoor.headBack
