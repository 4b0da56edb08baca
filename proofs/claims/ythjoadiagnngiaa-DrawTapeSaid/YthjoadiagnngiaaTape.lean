import Derived.Test.YthjoadiagnngiaaRow
import Derived.Deep.RegionHeld3
namespace Go.Proofs.Ythjoadiagnngiaa
open Go.RowKit
set_option linter.unusedVariables false

set_option maxHeartbeats 2000000 in
theorem tape_long (seed : Int) (a : Option Addr) (len cap : Nat) (w : World) (hl : 2000 < len) :
    Calls Try.prog 5 #[.int .u64 seed, .slice a len cap] w fun e w' => e = .returned (.bool true) ∧ Below w.heap.size w w' := by
  have h1 : (2000 : Int) < (len : Int) := by omega
  go_enter Try.func5, Try.ntmps5
  go_wp2_with fail
  refine (awake_any _).mono ?_
  rintro e w1 ⟨rfl, hb1⟩
  go_wp2
  go_ret
  exact ⟨rfl, hb1⟩

set_option maxHeartbeats 2000000 in
theorem tape_any (seed : Nat) (a : Option Addr) (len cap : Nat) (zs : List Int) (w : World) (hs : seed < 18446744073709551616) (h : IsRow .u64 w a len cap zs) (hl : len ≤ 2000) :
    Calls Try.prog 5 #[.int .u64 (seed : Int), .slice a len cap] w fun e w' => e = .returned (.bool true) ∧ Below w.heap.size w w' := by
  have hgt : ¬ (2000 : Int) < (len : Int) := by omega
  have H := Lib.hid h; clear h
  go_enter Try.func5, Try.ntmps5
  go_wp2_with fail
  refine (awake_any _).mono ?_
  rintro e w1 ⟨rfl, hb1⟩
  go_wp2_with fail
  refine (new_row seed a len cap zs _ hs (H.out.below hb1) hl).mono ?_
  rintro e w2 ⟨p, rfl, h2, hg2, hp⟩
  go_wp2_with fail
  refine (new_nil seed _ hs).mono ?_
  rintro e w3 ⟨q, rfl, h3, hg3, hq⟩
  have hpq : p ≠ q := by have := h2.lt; omega
  have hpw := bl_le hb1 hp
  have hqw := bl_le (bl_none hb1 hg2) hq
  have h2' := h2.grown hg3
  have bl := bl_none (bl_none hb1 hg2) hg3
  have HL := Lib.hid (firstOf_len H.out)
  clear h2 hb1 hg2 hg3 hp hq
  go_wp2
  go_loopw [7] (fun i wr => ∃ k : Nat, k ≤ len ∧ i = .int .i64 k ∧ Tape wr p seed (firstOf len zs) k ∧ Tape wr q seed [] 0 ∧ Below w.heap.size w wr) (fun i _ => len - (intOf i).toNat)
  case atStart => exact ⟨0, by omega, rfl, h2', h3, bl⟩
  case round =>
    obtain ⟨k, hk, rfl, ht, hu, hbl⟩ := hrel
    by_cases hlt : k < len
    · obtain ⟨b, o, rfl, hbw, hcs⟩ := H.out.cell (show 0 < len by omega)
      obtain ⟨x, hx⟩ : ∃ x, x = (firstOf len zs).getD k 0 := ⟨_, rfl⟩
      have hd : drawAt seed (firstOf len zs) k = x := by rw [draw_first _ _ _ (by rw [HL.out]; exact hlt), hx]
      have hc : ∀ W : World, Below w.heap.size w W → W.cell? ⟨b, o + k, none⟩ = some (.int .u64 (x : Int)) := by
        intro W hW
        rw [hW.cell hbw, hcs k hlt, (H.out.nonneg k hlt).1, hx]
      have HC := Lib.hid hc
      have HD := Lib.hid hd
      clear hc hd hx hcs
      have b1 : (k : Int) < (len : Int) := by omega
      have hc0 := HC.out wr hbl
      go_wp2_with fail
      go_region_held3 (fun W => W.cell? ⟨b, o + k, none⟩ = some (.int .u64 (x : Int))) (first | exact hc0 | assumption) (first | (go_at_call 13; refine (next_val p seed (firstOf len zs) k (x : Int) _ (ht.drewN _) (by omega) (by rw [HD.out])).mono ?_; rintro e w4 ⟨rfl, ht4, hg4⟩; have hc4 := HC.out w4 (bl_some (bl_drewN hbl _) hg4 hpw)))
      go_wp2
      go_roundw
      case rel => exact ⟨k + 1, by omega, by go_num, ht4, hu.drew.beside hg4 ht.drew hpq.symm, bl_some (bl_drewN hbl 1) hg4 hpw⟩
      case measure => simp [intOf]; omega
    · obtain rfl : k = len := by omega
      clear hlt
      go_wp2
      go_loopw [8] (fun i wr => ∃ m : Nat, m ≤ 20 ∧ i = .int .i64 m ∧ Tape wr p seed (firstOf k zs) (k + m) ∧ Tape wr q seed [] m ∧ Below w.heap.size w wr) (fun i _ => 20 - (intOf i).toNat)
      case atStart => exact ⟨0, by omega, rfl, ht, hu, hbl⟩
      case round =>
        obtain ⟨m, hm, rfl, htm, hum, hblm⟩ := hrel
        by_cases hlt : m < 20
        · have hd : drawAt seed (firstOf k zs) (k + m) = drawAt seed [] m := by have := draw_tail seed (firstOf k zs) m; rw [HL.out] at this; exact this
          have HD := Lib.hid hd
          clear hd
          go_wp2_with fail
          refine (next_val p seed (firstOf k zs) (k + m) (drawAt seed [] m : Nat) _ htm (by omega) (by rw [HD.out])).mono ?_
          rintro e w5 ⟨rfl, ht5, hg5⟩
          go_wp2_with fail
          refine (next_any q seed [] m _ (hum.beside hg5 htm hpq.symm) (by omega)).mono ?_
          rintro e w6 ⟨rfl, hu6, hg6⟩
          go_wp2
          go_roundw
          case rel => exact ⟨m + 1, by omega, by go_num, ht5.beside hg6 (hum.beside hg5 htm hpq.symm) hpq, hu6, bl_some (bl_some hblm hg5 hpw) hg6 hqw⟩
          case measure => simp [intOf]; omega
        · obtain rfl : m = 20 := by omega
          clear hlt
          have e1 : (((k + 20 : Nat) : Int) == (k : Int) + 20) = true := by rw [beq_iff_eq]; omega
          go_wp2_with fail
          refine (htm.used).mono ?_
          rintro e w5 ⟨rfl, rfl⟩
          go_wp2_with fail
          refine (hum.used).mono ?_
          rintro e w5 ⟨rfl, rfl⟩
          go_wp2
          go_ret
          exact ⟨rfl, hblm⟩
end Go.Proofs.Ythjoadiagnngiaa
