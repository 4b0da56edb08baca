import Derived.Test.YthjoadiagnngiaaAwake
namespace Go.Proofs.Ythjoadiagnngiaa
open Go.RowKit
set_option linter.unusedVariables false

theorem draw_nil (seed k : Nat) : drawAt seed [] k = mixN ((seed + (k + 1) * st) % 18446744073709551616) := by
  unfold drawAt; rw [if_neg (by simp)]; simp

theorem draw_apart (a b k : Nat) (ha : a < 18446744073709551616) (hb : b < 18446744073709551616) (h : drawAt a [] k = drawAt b [] k) : a = b := by
  rw [draw_nil, draw_nil] at h
  have := mixN_inj _ _ (Nat.mod_lt _ (by decide)) (Nat.mod_lt _ (by decide)) h
  omega

set_option maxHeartbeats 2000000 in
theorem unlike_nat (a b : Nat) (w : World) (ha : a < 18446744073709551616) (hb : b < 18446744073709551616) :
    Calls Try.prog 8 #[.int .u64 (a : Int), .int .u64 (b : Int)] w fun e w' => e = .returned (.bool true) ∧ Below w.heap.size w w' := by
  go_enter Try.func8, Try.ntmps8
  go_wp2_with fail
  refine (new_nil a _ ha).mono ?_
  rintro e w1 ⟨p, rfl, h1, hg1, hp⟩
  go_wp2_with fail
  refine (new_nil b _ hb).mono ?_
  rintro e w2 ⟨q, rfl, h2, hg2, hq⟩
  have hpq : p ≠ q := by have : p < w1.heap.size := by { obtain ⟨_, h, _⟩ := h1; exact lt_of_block h }
                         omega
  have h1' := h1.grown hg2
  have bl := bl_none (bl_none (Below.refl w.heap.size w) hg1) hg2
  have hqw := bl_le (bl_none (Below.refl w.heap.size w) hg1) hq
  clear hg1 hg2 h1 hq
  go_wp2
  go_loopw [7] (fun i wr => ∃ k : Nat, k ≤ 30 ∧ i = .int .i64 k ∧ Tape wr p a [] k ∧ Tape wr q b [] k ∧ Below w.heap.size w wr) (fun i _ => 30 - (intOf i).toNat)
  case atStart => exact ⟨0, by omega, rfl, h1', h2, bl⟩
  case round =>
    obtain ⟨k, hk, rfl, ht, hu, hbl⟩ := hrel
    by_cases hlt : k < 30
    · by_cases hab : a = b
      · subst hab
        go_wp2_with fail
        refine (next_any p a [] k _ ht (by omega)).mono ?_
        rintro e w3 ⟨rfl, ht3, hg3⟩
        go_wp2_with fail
        refine (next_any q a [] k _ (hu.beside hg3 ht hpq.symm) (by omega)).mono ?_
        rintro e w4 ⟨rfl, hu4, hg4⟩
        go_wp2
        go_roundw
        case rel => exact ⟨k + 1, by omega, by go_num, ht3.beside hg4 (hu.beside hg3 ht hpq.symm) hpq, hu4, bl_some (bl_some hbl hg3 hp) hg4 hqw⟩
        case measure => simp [intOf]; omega
      · have n1 : (((drawAt a [] k : Nat) : Int) == ((drawAt b [] k : Nat) : Int)) = false := by
          rw [beq_eq_false_iff_ne]; intro e; exact hab (draw_apart a b k ha hb (by omega))
        have n2 : ((a : Int) == (b : Int)) = false := by rw [beq_eq_false_iff_ne]; omega
        go_wp2_with fail
        refine (next_any p a [] k _ ht (by omega)).mono ?_
        rintro e w3 ⟨rfl, ht3, hg3⟩
        go_wp2_with fail
        refine (next_any q b [] k _ (hu.beside hg3 ht hpq.symm) (by omega)).mono ?_
        rintro e w4 ⟨rfl, hu4, hg4⟩
        go_wp2
        go_roundw
        case rel => exact ⟨k + 1, by omega, by go_num, ht3.beside hg4 (hu.beside hg3 ht hpq.symm) hpq, hu4, bl_some (bl_some hbl hg3 hp) hg4 hqw⟩
        case measure => simp [intOf]; omega
    · go_wp2_with fail
      refine (awake_any _).mono ?_
      rintro e w5 ⟨rfl, hb5⟩
      go_wp2
      go_ret
      exact ⟨rfl, below_kept hbl hb5⟩
end Go.Proofs.Ythjoadiagnngiaa
