import Derived.Test.YthjoadiagnngiabDoorSym
import Derived.Test.YthjoadiagnngiabDoorActs
import Derived.Deep.RegionHeld3
namespace Go.Proofs.YthjoadiagnngiabDoor
open Go.RowKit
set_option linter.unusedVariables false

theorem seek_sym {w : World} {p : Nat} {s : ByteArray} {a : Nat} (n : Int) (h : Cur w p s a) :
    Calls Tryd.prog 15 #[.pointer (some ⟨p, 0, none⟩), .int .i64 n] w fun e w' => ∃ (E : Int) (b : Nat), e = .returned (.int .i64 E) ∧ Cur w' p s b ∧ w.grownBy w' (some p) ∧ Hid ((0 ≤ n ∧ n ≤ s.size ∧ E = 0 ∧ (b : Int) = n) ∨ (¬ (0 ≤ n ∧ n ≤ s.size) ∧ E = 1 ∧ b = a)) := by
  by_cases hn : 0 ≤ n ∧ n ≤ s.size
  · obtain ⟨k, rfl⟩ := Int.eq_ofNat_of_zero_le hn.1
    refine (seek_ok k h (by omega)).mono ?_
    rintro e w' ⟨rfl, h1, h2⟩
    exact ⟨_, _, rfl, h1, h2, Lib.hid (.inl ⟨hn.1, hn.2, rfl, rfl⟩)⟩
  · refine (seek_bad n h (by omega)).mono ?_
    rintro e w' ⟨rfl, rfl⟩
    exact ⟨_, _, rfl, h, grown_refl _ _, Lib.hid (.inr ⟨hn, rfl, rfl⟩)⟩

def cnt (W : Nat) (N : Int) : Int := if W = 0 then 1 else if W = 1 then 2 else if W = 2 then 4 else N
def StepIs (s : ByteArray) (a W : Nat) (N n E : Int) (b : Nat) : Prop :=
  (W < 4 ∧ (0 ≤ cnt W N ∧ (a : Int) + cnt W N ≤ s.size) ∧ E = 0 ∧ n = cnt W N ∧ (b : Int) = a + cnt W N) ∨ (W < 4 ∧ ¬ (0 ≤ cnt W N ∧ (a : Int) + cnt W N ≤ s.size) ∧ (E = 1 ∨ E = 4) ∧ b = a) ∨
  (4 ≤ W ∧ (0 ≤ N ∧ N ≤ s.size) ∧ E = 0 ∧ n = 0 ∧ (b : Int) = N) ∨ (4 ≤ W ∧ ¬ (0 ≤ N ∧ N ≤ s.size) ∧ E = 1 ∧ n = 0 ∧ b = a)

theorem step_of_read {s : ByteArray} {a V b : Nat} {E N : Int} (W c : Nat) (hW : W < 4) (hc : cnt W N = (c : Int)) (h : Read s a c V E b) : StepIs s a W N (c : Int) E b := by
  rcases h with ⟨h1, _, rfl, rfl⟩ | ⟨h1, _, rfl, rfl⟩
  · exact .inl ⟨hW, by rw [hc]; omega, rfl, hc.symm, by rw [hc]; omega⟩
  · exact .inr (.inl ⟨hW, by rw [hc]; omega, .inr rfl, rfl⟩)

def StepPost (w0 w' : World) (p : Nat) (s : ByteArray) (a W : Nat) (N : Int) (e : Ending) : Prop := ∃ (n E : Int) (b : Nat), e = .returned (.tuple #[.int .i64 n, .int .i64 E]) ∧ Cur w' p s b ∧ Below w0.heap.size w0 w' ∧ Hid (StepIs s a W N n E b)

set_option maxRecDepth 4000 in
set_option maxHeartbeats 2000000 in
theorem step_any (w0 w : World) (p : Nat) (s : ByteArray) (a : Nat) (W : Nat) (N : Int) (hC : Cur w p s a) (hg : HG w0) (hb : Below w0.heap.size w0 w) (hp : w0.heap.size ≤ p) :
    Calls Tryd.prog 13 #[.pointer (some ⟨p, 0, none⟩), .agg #[.int .u8 (W : Int), .int .i64 N]] w fun e w' => StepPost w0 w' p s a W N e := by
  have hC1 := hC.grown (World.grownBy_alloc w (.cells #[.int .u8 (W : Int), .int .i64 N] 31) none)
  have hb1 := bl_alloc hb (.cells #[.int .u8 (W : Int), .int .i64 N] 31)
  have hB : (w.alloc (.cells #[.int .u8 (W : Int), .int .i64 N] 31)).heap[w.heap.size]? = some (.cells #[.int .u8 (W : Int), .int .i64 N] 31 (0, 0)) := heap_alloc_new _ _
  have c0 : (w.alloc (.cells #[.int .u8 (W : Int), .int .i64 N] 31)).cell? ⟨w.heap.size, 0, none⟩ = some (.int .u8 (W : Int)) := by rw [cell_of_row _ _ 0 _ _ _ hB]; rfl
  have c1 : (w.alloc (.cells #[.int .u8 (W : Int), .int .i64 N] 31)).cell? ⟨w.heap.size, 1, none⟩ = some (.int .i64 N) := by rw [cell_of_row _ _ 1 _ _ _ hB]; rfl
  clear hC hb hB
  have h5 : W = 0 ∨ W = 1 ∨ W = 2 ∨ W = 3 ∨ 4 ≤ W := by omega
  rcases h5 with rfl | rfl | rfl | rfl | h5
  · go_enter Tryd.func13, Tryd.ntmps13
    go_wp2_with fail
    refine (byte_sym hC1 (hg.below hb1)).mono ?_
    rintro e w2 ⟨V, E, b, rfl, hC2, hg2, r2⟩
    have hb2 := bl_some hb1 hg2 hp
    clear c0 c1
    go_wp2
    go_ret2
    exact ⟨_, _, _, rfl, hC2, hb2, Lib.hid (step_of_read 0 1 (by decide) rfl r2.out)⟩
  · go_enter Tryd.func13, Tryd.ntmps13
    go_wp2_with fail
    refine (two_sym hC1 (hg.below hb1)).mono ?_
    rintro e w2 ⟨V, E, b, rfl, hC2, hg2, r2⟩
    have hb2 := bl_some hb1 hg2 hp
    clear c0 c1
    go_wp2
    go_ret2
    exact ⟨_, _, _, rfl, hC2, hb2, Lib.hid (step_of_read 1 2 (by decide) rfl r2.out)⟩
  · go_enter Tryd.func13, Tryd.ntmps13
    go_wp2_with fail
    refine (four_sym hC1 (hg.below hb1)).mono ?_
    rintro e w2 ⟨V, E, b, rfl, hC2, hg2, r2⟩
    have hb2 := bl_some hb1 hg2 hp
    clear c0 c1
    go_wp2
    go_ret2
    exact ⟨_, _, _, rfl, hC2, hb2, Lib.hid (step_of_read 2 4 (by decide) rfl r2.out)⟩
  · by_cases hN : N < 0
    · go_enter Tryd.func13, Tryd.ntmps13
      go_wp2_with fail
      refine (take_bad (hg.below hb1) (refused_neg p N _ hN)).mono ?_
      rintro e w2 ⟨rfl, hg2⟩
      have hC2 := hC1.grown hg2
      have hb2 := bl_none hb1 hg2
      clear c0 c1
      go_wp2
      go_ret2
      exact ⟨_, _, _, rfl, hC2, hb2, Lib.hid (.inr (.inl ⟨by decide, by simp [cnt]; omega, .inl rfl, rfl⟩))⟩
    · obtain ⟨n, rfl⟩ := Int.eq_ofNat_of_zero_le (show 0 ≤ N by omega)
      clear hN
      go_enter Tryd.func13, Tryd.ntmps13
      go_wp2_with fail
      refine (take_sym n _ hC1 (hg.below hb1) rfl).mono ?_
      rintro e w2 ⟨X, E, b, rfl, hC2, hg2, r2⟩
      have hb2 := bl_some hb1 hg2 hp
      clear c0 c1
      go_wp2
      go_ret2
      refine ⟨_, _, _, rfl, hC2, hb2, Lib.hid ?_⟩
      rcases r2.out with ⟨h1, rfl, rfl, rfl⟩ | ⟨h1, rfl, rfl, rfl⟩
      · exact .inl ⟨by decide, by simp [cnt]; omega, rfl, by simp [cnt, ByteArray.size_extract]; omega, by simp [cnt]⟩
      · exact .inr (.inl ⟨by decide, by simp [cnt]; omega, .inr rfl, rfl⟩)
  · have e0 : ((W : Int) == 0) = false := by simp; omega
    have e1 : ((W : Int) == 1) = false := by rw [beq_eq_false_iff_ne]; omega
    have e2 : ((W : Int) == 2) = false := by rw [beq_eq_false_iff_ne]; omega
    have e3 : ((W : Int) == 3) = false := by rw [beq_eq_false_iff_ne]; omega
    have H5 := Lib.hid h5
    clear h5
    go_enter Tryd.func13, Tryd.ntmps13
    go_wp2_with fail
    refine (seek_sym N hC1).mono ?_
    rintro e w2 ⟨E, b, rfl, hC2, hg2, r2⟩
    have hb2 := bl_some hb1 hg2 hp
    clear c0 c1
    go_wp2
    go_ret2
    refine ⟨_, _, _, rfl, hC2, hb2, Lib.hid ?_⟩
    rcases r2.out with ⟨h1, h2, rfl, h3⟩ | ⟨h1, rfl, rfl⟩
    · exact .inr (.inr (.inl ⟨H5.out, ⟨h1, h2⟩, rfl, rfl, h3⟩))
    · exact .inr (.inr (.inr ⟨H5.out, h1, rfl, rfl, rfl⟩))
end Go.Proofs.YthjoadiagnngiabDoor
