import Derived.Test.YthjoadiagnngiaaRow
import Derived.Deep.RegionHeld3
namespace Go.Proofs.Ythjoadiagnngiaa
open Go.RowKit
set_option linter.unusedVariables false

theorem mod50 (n : Int) : wrap64 ((IntKind.u64.wrap n).tmod 50) < 50 := by
  have h := wrap_u64_range n
  rw [Int.tmod_eq_emod_of_nonneg h.1]
  have : wrap64 (IntKind.u64.wrap n % 50) = IntKind.u64.wrap n % 50 := IntWalk.wrap64_in _ ⟨by omega, by omega⟩
  rw [this]; omega

set_option maxHeartbeats 2000000 in
theorem apart_long (seed n m : Int) (a : Option Addr) (len cap : Nat) (w : World) (hl : 2000 < len) :
    Calls Try.prog 9 #[.int .u64 seed, .slice a len cap, .int .i64 n, .int .i64 m] w fun e w' => e = .returned (.bool true) ∧ Below w.heap.size w w' := by
  have h1 : (2000 : Int) < (len : Int) := by omega
  go_enter Try.func9, Try.ntmps9
  go_wp2_with fail
  refine (awake_any _).mono ?_
  rintro e w1 ⟨rfl, hb1⟩
  go_wp2
  go_ret
  exact ⟨rfl, hb1⟩

set_option maxHeartbeats 2000000 in
theorem apart_any (seed : Nat) (n m : Int) (a : Option Addr) (len cap : Nat) (zs : List Int) (w : World) (hs : seed < 18446744073709551616) (h : IsRow .u64 w a len cap zs) (hl : len ≤ 2000) :
    Calls Try.prog 9 #[.int .u64 (seed : Int), .slice a len cap, .int .i64 n, .int .i64 m] w fun e w' => e = .returned (.bool true) ∧ Below w.heap.size w w' := by
  have hgt : ¬ (2000 : Int) < (len : Int) := by omega
  have H := Lib.hid h; clear h
  go_enter Try.func9, Try.ntmps9
  go_wp2_with fail
  refine (awake_any _).mono ?_
  rintro e w1 ⟨rfl, hb1⟩
  go_wp2_with fail
  refine (new_row seed a len cap zs _ hs (H.out.below hb1) hl).mono ?_
  rintro e w2 ⟨p, rfl, h2, hg2, hp⟩
  have bl2 := bl_none hb1 hg2
  go_wp2_with fail
  refine (new_row seed a len cap zs _ hs (H.out.below bl2) hl).mono ?_
  rintro e w3 ⟨q, rfl, h3, hg3, hq⟩
  have hpq : p ≠ q := by have := h2.lt; omega
  have hpw := bl_le hb1 hp
  have hqw := bl_le bl2 hq
  have h2' := h2.grown hg3
  have bl := bl_none bl2 hg3
  generalize hf : firstOf len zs = first at h2' h3
  clear h2 hb1 hg2 hg3 hp hq bl2 H hf
  go_wp2
  go_loopw [11] (fun i wr => ∃ k : Nat, k ≤ 50 ∧ i = .int .i64 k ∧ Tape wr p seed first k ∧ Tape wr q seed first k ∧ Below w.heap.size w wr) (fun i _ => 50 - (intOf i).toNat)
  case atStart => exact ⟨0, by omega, rfl, h2', h3, bl⟩
  case round =>
    obtain ⟨k, hk, rfl, ht, hu, hbl⟩ := hrel
    by_cases hlt : (k : Int) < wrap64 ((IntKind.u64.wrap n).tmod 50)
    · have hk50 := mod50 n
      have HK : Hid (k < 50) := by unfold Hid; omega
      clear hk50
      go_wp2_with fail
      refine (next_any p seed first k _ ht (by omega)).mono ?_
      rintro e w4 ⟨rfl, ht4, hg4⟩
      go_wp2_with fail
      refine (next_any q seed first k _ (hu.beside hg4 ht hpq.symm) (by omega)).mono ?_
      rintro e w5 ⟨rfl, hu5, hg5⟩
      go_wp2
      go_roundw
      case rel => exact ⟨k + 1, HK.out, by go_num, ht4.beside hg5 (hu.beside hg4 ht hpq.symm) hpq, hu5, bl_some (bl_some hbl hg4 hpw) hg5 hqw⟩
      case measure => have := HK.out; simp [intOf]; omega
    · go_wp2_with fail
      refine (ht.copy).mono ?_
      rintro e w4 ⟨c, rfl, hc4, hg4, hcl⟩
      have ht4 := ht.grown hg4
      have hu4 := hu.grown hg4
      have hpc : p ≠ c := by have := ht.lt; omega
      have hqc : q ≠ c := by have := hu.lt; omega
      have hcw := bl_le hbl hcl
      have hbl4 := bl_none hbl hg4
      clear ht hu hbl hg4 hcl hlt h2' h3 bl
      go_wp2
      go_loopw [13] (fun i wr => ∃ m' : Nat, m' ≤ 50 ∧ i = .int .i64 m' ∧ Tape wr c seed first (k + m') ∧ Tape wr p seed first k ∧ Tape wr q seed first k ∧ Below w.heap.size w wr) (fun i _ => 50 - (intOf i).toNat)
      case atStart => exact ⟨0, by omega, rfl, hc4, ht4, hu4, hbl4⟩
      case round =>
        obtain ⟨j, hj, rfl, hcj, htj, huj, hblj⟩ := hrel
        by_cases hlt : (j : Int) < wrap64 ((IntKind.u64.wrap m).tmod 50)
        · have hk50 := mod50 m
          have HK : Hid (j < 50) := by unfold Hid; omega
          clear hk50
          go_wp2_with fail
          refine (next_any c seed first (k + j) _ hcj (by omega)).mono ?_
          rintro e w5 ⟨rfl, hc5, hg5⟩
          go_wp2
          go_roundw
          case rel => exact ⟨j + 1, HK.out, by go_num, hc5, htj.beside hg5 hcj hpc, huj.beside hg5 hcj hqc, bl_some hblj hg5 hcw⟩
          case measure => have := HK.out; simp [intOf]; omega
        · go_wp2_with fail
          refine (shuffle_val c 7 7 seed first (k + j) _ _ hcj (by omega) (by omega) (by omega) rfl rfl).mono ?_
          rintro e w5 ⟨g, rfl, _, hc5, hg5⟩
          have ht5 := htj.beside hg5 hcj hpc
          have hu5 := huj.beside hg5 hcj hqc
          have hbl5 := bl_some hblj hg5 hcw
          clear hc5 hg5 hcj htj huj hblj hlt hc4 ht4 hu4 hbl4
          go_wp2_with fail
          refine (ht5.copy).mono ?_
          rintro e w6 ⟨d, rfl, hd6, hg6, hdl⟩
          have ht6 := ht5.grown hg6
          have hu6 := hu5.grown hg6
          have hpd : p ≠ d := by have := ht5.lt; omega
          have hqd : q ≠ d := by have := hu5.lt; omega
          have hdw := bl_le hbl5 hdl
          have hbl6 := bl_none hbl5 hg6
          clear ht5 hu5 hbl5 hg6 hdl
          go_wp2
          go_loopw [15] (fun i wr => ∃ j' : Nat, j' ≤ 20 ∧ i = .int .i64 j' ∧ Tape wr d seed first (k + j') ∧ Tape wr p seed first (k + j') ∧ Tape wr q seed first (k + j') ∧ Below w.heap.size w wr) (fun i _ => 20 - (intOf i).toNat)
          case atStart => exact ⟨0, by omega, rfl, hd6, ht6, hu6, hbl6⟩
          case round =>
            obtain ⟨i, hi, rfl, hdi, hti, hui, hbli⟩ := hrel
            by_cases hlt : i < 20
            · go_wp2_with fail
              refine (next_any p seed first (k + i) _ hti (by omega)).mono ?_
              rintro e w7 ⟨rfl, ht7, hg7⟩
              have hu7 := hui.beside hg7 hti hpq.symm
              have hd7 := hdi.beside hg7 hti hpd.symm
              go_wp2_with fail
              refine (next_any q seed first (k + i) _ hu7 (by omega)).mono ?_
              rintro e w8 ⟨rfl, hu8, hg8⟩
              have ht8 := ht7.beside hg8 hu7 hpq
              have hd8 := hd7.beside hg8 hu7 hqd.symm
              go_wp2_with fail
              refine (next_any d seed first (k + i) _ hd8 (by omega)).mono ?_
              rintro e w9 ⟨rfl, hd9, hg9⟩
              go_wp2
              go_roundw
              case rel => exact ⟨i + 1, by omega, by go_num, hd9, ht8.beside hg9 hd8 hpd, hu8.beside hg9 hd8 hqd, bl_some (bl_some (bl_some hbli hg7 hpw) hg8 hqw) hg9 hdw⟩
              case measure => simp [intOf]; omega
            · go_wp2_with fail
              refine (hti.used).mono ?_
              rintro e w7 ⟨rfl, rfl⟩
              go_wp2_with fail
              refine (hui.used).mono ?_
              rintro e w7 ⟨rfl, rfl⟩
              go_wp2_with fail
              refine (hdi.used).mono ?_
              rintro e w7 ⟨rfl, rfl⟩
              go_wp2_with fail
              refine (hti.used).mono ?_
              rintro e w7 ⟨rfl, rfl⟩
              go_wp2
              go_ret
              exact ⟨rfl, hbli⟩
end Go.Proofs.Ythjoadiagnngiaa
