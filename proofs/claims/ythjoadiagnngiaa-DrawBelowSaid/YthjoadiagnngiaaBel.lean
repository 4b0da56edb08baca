import Derived.Test.YthjoadiagnngiaaRow
import Derived.Deep.RegionHeld3
namespace Go.Proofs.Ythjoadiagnngiaa
open Go.RowKit
set_option linter.unusedVariables false

set_option maxHeartbeats 2000000 in
theorem bel_long (seed : Int) (a a' : Option Addr) (len cap len' cap' : Nat) (w : World) (hl : 2000 < len ∨ (len ≤ 2000 ∧ 500 < len')) :
    Calls Try.prog 6 #[.int .u64 seed, .slice a len cap, .slice a' len' cap'] w fun e w' => e = .returned (.bool true) ∧ Below w.heap.size w w' := by
  rcases hl with hl | ⟨hl, hl'⟩
  · have h1 : (2000 : Int) < (len : Int) := by omega
    go_enter Try.func6, Try.ntmps6
    go_wp2_with fail
    refine (awake_any _).mono ?_
    rintro e w1 ⟨rfl, hb1⟩
    go_wp2
    go_ret
    exact ⟨rfl, hb1⟩
  · have h1 : ¬ (2000 : Int) < (len : Int) := by omega
    have h2 : (500 : Int) < (len' : Int) := by omega
    go_enter Try.func6, Try.ntmps6
    go_wp2_with fail
    refine (awake_any _).mono ?_
    rintro e w1 ⟨rfl, hb1⟩
    go_wp2
    go_ret
    exact ⟨rfl, hb1⟩

theorem used_eq (p : Nat) (seed : Nat) (first : List Nat) (u : Nat) (w : World) (h : Tape w p seed first u) :
    Calls Try.prog 22 #[.pointer (some ⟨p, 0, none⟩)] w fun e w' => e = .returned (.int .i64 (u : Int)) ∧ w = w' := h.used

set_option maxHeartbeats 4000000 in
theorem bel_any (seed : Nat) (a a' : Option Addr) (len cap len' cap' : Nat) (zs zs' : List Int) (w : World) (hs : seed < 18446744073709551616) (h : IsRow .u64 w a len cap zs) (h' : IsRow .i64 w a' len' cap' zs') (hl : len ≤ 2000) (hl' : len' ≤ 500) :
    Calls Try.prog 6 #[.int .u64 (seed : Int), .slice a len cap, .slice a' len' cap'] w fun e w' => e = .returned (.bool true) ∧ Below w.heap.size w w' := by
  have hgt : ¬ (2000 : Int) < (len : Int) := by omega
  have hgt' : ¬ (500 : Int) < (len' : Int) := by omega
  have H := Lib.hid h; clear h
  have H' := Lib.hid h'; clear h'
  go_enter Try.func6, Try.ntmps6
  go_wp2_with fail
  refine (awake_any _).mono ?_
  rintro e w1 ⟨rfl, hb1⟩
  go_wp2_with fail
  refine (new_row seed a len cap zs _ hs (H.out.below hb1) hl).mono ?_
  rintro e w2 ⟨p, rfl, h2, hg2, hp⟩
  have bl2 := bl_none hb1 hg2
  have hpw := bl_le hb1 hp
  generalize hf : firstOf len zs = first at h2
  clear hb1 hg2 hp H hf
  go_wp2
  go_loopw [8] (fun i wr => ∃ (k j : Nat), k ≤ len' ∧ j ≤ k ∧ i = .int .i64 k ∧ Tape wr p seed first j ∧ Below w.heap.size w wr) (fun i _ => len' - (intOf i).toNat)
  case atStart => exact ⟨0, 0, by omega, by omega, rfl, h2, bl2⟩
  case round =>
    obtain ⟨k, j, hk, hj, rfl, ht, hbl⟩ := hrel
    by_cases hlt : k < len'
    · obtain ⟨b, o, rfl, hbw, hcs⟩ := H'.out.cell (show 0 < len' by omega)
      have hm : zs'.getD k 0 ∈ zs' := by have := H'.out.len; rw [List.getD_eq_getElem?_getD, List.getElem?_eq_getElem (by omega)]; exact List.getElem_mem _
      have hwf : -9223372036854775808 ≤ zs'.getD k 0 ∧ zs'.getD k 0 ≤ 9223372036854775807 := by
        rcases H'.out with ⟨h0, _⟩ | ⟨x, _, _, _, _, _, h5⟩
        · cases h0
        · exact wf_i64 (h5 _ hm)
      have hc : ∀ W : World, Below w.heap.size w W → W.cell? ⟨b, o + k, none⟩ = some (.int .i64 (zs'.getD k 0)) := fun W hW => (hW.cell hbw).trans (hcs k hlt)
      generalize hx : zs'.getD k 0 = x at hc hwf
      obtain ⟨hw1, hw2⟩ := hwf
      have HC := Lib.hid hc
      clear hc hx hcs hm
      have b1 : (k : Int) < (len' : Int) := by omega
      go_wp2_with fail
      refine (ht.copy).mono ?_
      rintro e w4 ⟨c, rfl, hc4, hg4, hcl⟩
      have ht4 := ht.grown hg4
      have hpc : p ≠ c := by have := ht.lt; omega
      have hcw := bl_le hbl hcl
      have hbl4 := bl_none hbl hg4
      have hx4 := HC.out w4 hbl4
      clear ht hg4 hcl
      by_cases hx1 : x < 1
      · go_wp2_with fail
        refine (below_zero p x _ hx1).mono ?_
        rintro e w5 ⟨rfl, rfl⟩
        go_wp2_with fail
        refine (ht4.used).mono ?_
        rintro e w5 ⟨rfl, rfl⟩
        go_wp2_with fail
        refine (hc4.used).mono ?_
        rintro e w5 ⟨rfl, rfl⟩
        go_wp2
        go_roundw
        case rel => exact ⟨k + 1, j, by omega, by omega, by go_num, ht4, hbl4⟩
        case measure => simp [intOf]; omega
      · obtain ⟨X, rfl⟩ : ∃ X : Nat, x = (X : Int) := ⟨x.toNat, by omega⟩
        obtain ⟨D, hD⟩ : ∃ D, D = drawAt seed first j := ⟨_, rfl⟩
        obtain ⟨d, hd⟩ : ∃ d, d = D % X := ⟨_, rfl⟩
        have hdX : d < X := by rw [hd]; exact Nat.mod_lt _ (by omega)
        have hq : ((d : Int) != (D : Int) % (X : Int)) = false := by rw [hd]; simp
        have hX0 : ¬ (X : Int) = 0 := by omega
        have hXn : ¬ X = 0 := by omega
        have hwX : IntKind.u64.wrap (X : Int) = (X : Int) := IntWalk.u64_in _ ⟨by omega, by omega⟩
        have hwd : IntKind.u64.wrap (d : Int) = (d : Int) := IntWalk.u64_in _ ⟨by omega, by omega⟩
        have hq2 : ((d : Int) != (D : Int).tmod (X : Int)) = false := by rw [hd, Int.tmod_eq_emod_of_nonneg (by omega)]; simp
        have hXb : ((X : Int) == 0) = false := by rw [beq_eq_false_iff_ne]; omega
        have g1 : decide ((d : Int) < 0) = false := by simp
        have g2 : decide (X ≤ d) = false := by simp; omega
        have HD := Lib.hid hD
        have Hd := Lib.hid hd
        clear hD hd
        go_wp2_with fail
        refine (below_val p X X d seed first j _ ht4 (by omega) (by omega) (by omega) rfl (by rw [Hd.out, HD.out])).mono ?_
        rintro e w5 ⟨rfl, ht5, hg5⟩
        have hc5 := hc4.beside hg5 ht4 hpc.symm
        have hbl5 := bl_some hbl4 hg5 hpw
        have hx5 := HC.out w5 hbl5
        clear ht4 hc4 hg5 hbl4 hx4
        go_wp2_with fail
        go_region_held3 (fun W => W.cell? ⟨b, o + k, none⟩ = some (.int .i64 (X : Int))) (first | exact hx5 | assumption) (first | (go_at_call 13; refine (next_val c seed first j (D : Int) _ (hc5.drewN _) (by omega) (by rw [HD.out])).mono ?_; rintro e w6 ⟨rfl, hc6, hg6⟩; have hx6 := HC.out w6 (bl_some (bl_drewN hbl5 _) hg6 hcw); have ht6 := (ht5.drewN _).beside hg6 (hc5.drewN _) hpc) | (go_at_call 22; refine (used_eq p seed first (j + 1) _ (by assumption)).mono ?_; rintro e w7 ⟨rfl, rfl⟩) | (go_at_call 22; refine (used_eq c seed first (j + 1) _ (by assumption)).mono ?_; rintro e w7 ⟨rfl, rfl⟩))
        go_wp2
        go_roundw
        case rel => exact ⟨k + 1, j + 1, by omega, by omega, by go_num, ht6, bl_some (bl_drewN hbl5 1) hg6 hcw⟩
        case measure => simp [intOf]; omega
    · go_wp2
      go_ret
      exact ⟨rfl, hbl⟩
end Go.Proofs.Ythjoadiagnngiaa
