import Derived.Test.YthjoadiagnngiaaDoorSym
namespace Go.Proofs.YthjoadiagnngiaaDoor
open Go.RowKit
set_option linter.unusedVariables false

set_option maxRecDepth 4000 in
set_option maxHeartbeats 4000000 in
theorem parts_any (s : ByteArray) (at_ n m : Int) (w : World) (hg : HG w) :
    Calls Tryd.prog 7 #[.string s, .int .i64 at_, .int .i64 n, .int .i64 m] w fun e w' => e = .returned (.bool true) ∧ Below w.heap.size w w' := by
  by_cases hbig : s.size > 20000
  · have hb : (20000 : Int) < (s.size : Int) := by omega
    clear hbig
    go_enter Tryd.func7, Tryd.ntmps7
    go_wp2_with fail
    refine (awake_any _ hg).mono ?_
    rintro e w0 ⟨rfl, b0⟩
    go_wp2
    go_ret
    exact ⟨rfl, b0⟩
  have hb : ¬ (20000 : Int) < (s.size : Int) := by omega
  have hsz : s.size ≤ 20000 := by omega
  clear hbig
  go_enter Tryd.func7, Tryd.ntmps7
  go_wp2_with fail
  refine (awake_any _ hg).mono ?_
  rintro e w0 ⟨rfl, b0⟩
  clear hb
  go_upto_region 3 with fail
  go_cut [1] (fun s1 wx => ∃ k : Nat, k ≤ s.size ∧ s1 = .int .i64 (k : Int) ∧ wx = w0)
  case first => as_aux_lemma =>
    obtain ⟨k, hk, hkE⟩ := mod_nat at_ (↑s.size + 1) (s.size + 1) (by simp) (by omega) (by omega)
    have HK := Lib.hid hkE
    clear hkE
    go_wp2
    go_meet
    exact ⟨k, by omega, by rw [HK.out], rfl⟩
  case rest => as_aux_lemma =>
    obtain ⟨k, hk, rfl, rfl⟩ := hcut
    have HSZ := Lib.hid hsz
    have HKK := Lib.hid hk
    have hs6 : s.size ≤ 1000000 := by omega
    clear hsz hk
    go_wp2_with fail
    refine (new_any s _ hs6 (hg.below b0).lt).mono ?_
    rintro e w1 ⟨p, rfl, h1, hg1, hp1⟩
    have hp := bl_le b0 hp1
    have b1 := bl_none b0 hg1
    go_wp2_with fail
    refine (new_any s _ hs6 (hg.below b1).lt).mono ?_
    rintro e w2 ⟨q, rfl, k2, hg2, hq2⟩
    have hq := bl_le b1 hq2
    have h2 := h1.grown hg2
    have hpq : p ≠ q := by have := h1.lt; omega
    have HPQ := Lib.hid hpq
    have b2 := bl_none b1 hg2
    clear h1 hg1 hp1 hg2 hq2 b1 hpq
    go_wp2_with fail
    refine (seek_ok k h2 HKK.out).mono ?_
    rintro e w3 ⟨rfl, h3, hg3⟩
    have k3 := k2.other hg3 HPQ.out.symm
    have b3 := bl_some b2 hg3 hp
    go_wp2_with fail
    refine (seek_ok k k3 HKK.out).mono ?_
    rintro e w4 ⟨rfl, k4, hg4⟩
    have h4 := h3.other hg4 HPQ.out
    have b4 := bl_some b3 hg4 hq
    clear h2 h3 k2 k3 hg3 hg4 b2 b3 b0
    go_wp2_with fail
    refine (four_sym h4 (hg.below b4)).mono ?_
    rintro e w5 ⟨V5, E5, x5, rfl, h5, hg5, r5⟩
    have k5 := k4.other hg5 HPQ.out.symm
    have b5 := bl_some b4 hg5 hp
    go_wp2_with fail
    refine (two_sym k5 (hg.below b5)).mono ?_
    rintro e w6 ⟨V6, E6, x6, rfl, k6, hg6, r6⟩
    have h6 := h5.other hg6 HPQ.out
    have b6 := bl_some b5 hg6 hq
    go_wp2_with fail
    refine (two_sym k6 (hg.below b6)).mono ?_
    rintro e w7 ⟨V7, E7, x7, rfl, k7, hg7, r7⟩
    have h7 := h6.other hg7 HPQ.out
    have b7 := bl_some b6 hg7 hq
    clear h4 h5 h6 k4 k5 k6 b4 b5 b6 hg5 hg6 hg7
    go_upto_region 10 with fail
    go_cut [90] (fun s90 wx => s90 = .bool false ∧ wx = w7)
    case first => as_aux_lemma =>
      clear h7 k7 b7
      rcases r5.out with ⟨z5, y5, rfl, rfl⟩ | ⟨z5, y5, rfl, rfl⟩ <;> rcases r6.out with ⟨z6, y6, rfl, rfl⟩ | ⟨z6, y6, rfl, rfl⟩ <;> rcases r7.out with ⟨z7, y7, rfl, rfl⟩ | ⟨z7, y7, rfl, rfl⟩ <;> first | (exfalso; omega) | skip
      · have hv : V5 = 65536 * V6 + V7 := by rw [y5, y6, y7]; exact val_part s k 2 2 (by omega)
        have hx : V6 < 65536 := by rw [y6]; exact val_lt_pow s k 2 z6
        have hy : V7 < 65536 := by rw [y7]; exact val_lt_pow s (k + 2) 2 z7
        have HV := Lib.hid hv
        clear hv r5 r6 r7 y5 y6 y7
        go_wp2
        go_meet
        have hv := HV.out
        first
          | exact ⟨rfl, rfl⟩
          | exact ⟨by simp; omega, rfl⟩
      · clear r5 r6 r7 y5 y6 y7
        go_wp2
        go_meet
        exact ⟨rfl, rfl⟩
      · clear r5 r6 r7 y5 y6 y7
        go_wp2
        go_meet
        exact ⟨rfl, rfl⟩
    case rest => as_aux_lemma =>
      obtain ⟨rfl, rfl⟩ := hcut
      clear r5 r6 r7
      go_wp2_with fail
      refine (seek_ok k h7 HKK.out).mono ?_
      rintro e w8 ⟨rfl, h8, hg8⟩
      have k8 := k7.other hg8 HPQ.out.symm
      have b8 := bl_some b7 hg8 hp
      go_wp2_with fail
      refine (seek_ok k k8 HKK.out).mono ?_
      rintro e w9 ⟨rfl, k9, hg9⟩
      have h9 := h8.other hg9 HPQ.out
      have b9 := bl_some b8 hg9 hq
      clear h7 h8 k7 k8 b7 b8 hg8 hg9
      go_wp2_with fail
      refine (two_sym h9 (hg.below b9)).mono ?_
      rintro e w10 ⟨V10, E10, x10, rfl, h10, hg10, r10⟩
      have k10 := k9.other hg10 HPQ.out.symm
      have b10 := bl_some b9 hg10 hp
      go_wp2_with fail
      refine (byte_sym k10 (hg.below b10)).mono ?_
      rintro e w11 ⟨V11, E11, x11, rfl, k11, hg11, r11⟩
      have h11 := h10.other hg11 HPQ.out
      have b11 := bl_some b10 hg11 hq
      go_wp2_with fail
      refine (byte_sym k11 (hg.below b11)).mono ?_
      rintro e w12 ⟨V12, E12, x12, rfl, k12, hg12, r12⟩
      have h12 := h11.other hg12 HPQ.out
      have b12 := bl_some b11 hg12 hq
      clear h9 h10 h11 k9 k10 k11 b9 b10 b11 hg10 hg11 hg12
      go_upto_region 17 with fail
      go_cut [134] (fun s134 wx => s134 = .bool false ∧ wx = w12)
      case first => as_aux_lemma =>
        clear h12 k12 b12
        rcases r10.out with ⟨z5, y5, rfl, rfl⟩ | ⟨z5, y5, rfl, rfl⟩ <;> rcases r11.out with ⟨z6, y6, rfl, rfl⟩ | ⟨z6, y6, rfl, rfl⟩ <;> rcases r12.out with ⟨z7, y7, rfl, rfl⟩ | ⟨z7, y7, rfl, rfl⟩ <;> first | (exfalso; omega) | skip
        · have hv : V10 = 256 * V11 + V12 := by rw [y5, y6, y7]; exact val_part s k 1 1 (by omega)
          have hx : V11 < 256 := by rw [y6]; exact val_lt_pow s k 1 z6
          have hy : V12 < 256 := by rw [y7]; exact val_lt_pow s (k + 1) 1 z7
          have HV := Lib.hid hv
          clear hv r10 r11 r12 y5 y6 y7
          go_wp2
          go_meet
          have hv := HV.out
          first
            | exact ⟨rfl, rfl⟩
            | exact ⟨by simp; omega, rfl⟩
        · clear r10 r11 r12 y5 y6 y7
          go_wp2
          go_meet
          exact ⟨rfl, rfl⟩
        · clear r10 r11 r12 y5 y6 y7
          go_wp2
          go_meet
          exact ⟨rfl, rfl⟩
      case rest => as_aux_lemma =>
        obtain ⟨rfl, rfl⟩ := hcut
        clear r10 r11 r12
        go_upto_region 19 with fail
        go_cut [2] (fun s2 wx => ∃ j : Nat, j < 50 ∧ s2 = .int .i64 (j : Int) ∧ wx = wc)
        case first => as_aux_lemma =>
          obtain ⟨j, hj, hjE⟩ := mod_nat n 50 50 rfl (by omega) (by omega)
          have HJ := Lib.hid hjE
          clear hjE
          go_wp2
          go_meet
          exact ⟨j, hj, by rw [HJ.out], rfl⟩
        case rest => as_aux_lemma =>
          obtain ⟨j, hj, rfl, hw⟩ := hcut
          subst hw
          go_upto_region 20 with fail
          go_cut [3] (fun s3 wx => ∃ i : Nat, i < 50 ∧ s3 = .int .i64 (i : Int) ∧ wx = wc)
          case first => as_aux_lemma =>
            obtain ⟨i, hi, hiE⟩ := mod_nat m 50 50 rfl (by omega) (by omega)
            have HI := Lib.hid hiE
            clear hiE
            go_wp2
            go_meet
            exact ⟨i, hi, by rw [HI.out], rfl⟩
          case rest => as_aux_lemma =>
            obtain ⟨i, hi, rfl, hw⟩ := hcut
            subst hw
            go_wp2_with fail
            refine (seek_ok k h12 HKK.out).mono ?_
            rintro e w13 ⟨rfl, h13, hg13⟩
            have k13 := k12.other hg13 HPQ.out.symm
            have b13 := bl_some b12 hg13 hp
            go_wp2_with fail
            refine (seek_ok k k13 HKK.out).mono ?_
            rintro e w14 ⟨rfl, k14, hg14⟩
            have h14 := h13.other hg14 HPQ.out
            have b14 := bl_some b13 hg14 hq
            clear h12 h13 k12 k13 b12 b13 hg13 hg14
            go_wp2_with fail
            refine (take_sym (j + i) ((j : Int) + (i : Int)) h14 (hg.below b14) (by simp)).mono ?_
            rintro e w15 ⟨X15, E15, x15, rfl, h15, hg15, r15⟩
            have k15 := k14.other hg15 HPQ.out.symm
            have b15 := bl_some b14 hg15 hp
            go_wp2_with fail
            refine (take_sym j (j : Int) k15 (hg.below b15) rfl).mono ?_
            rintro e w16 ⟨X16, E16, x16, rfl, k16, hg16, r16⟩
            have b16 := bl_some b15 hg16 hq
            go_wp2_with fail
            refine (take_sym i (i : Int) k16 (hg.below b16) rfl).mono ?_
            rintro e w17 ⟨X17, E17, x17, rfl, k17, hg17, r17⟩
            have b17 := bl_some b16 hg17 hq
            clear h14 k14 h15 k15 k16 k17 b14 b15 b16 hg15 hg16 hg17
            have hkk := HKK.out
            have hszz := HSZ.out
            go_upto_region 26 with fail
            go_cut [8] (fun s8 wx => s8 = .bool true ∧ wx = w17)
            case first => as_aux_lemma =>
              rcases r15.out with ⟨z5, y5, rfl, rfl⟩ | ⟨z5, y5, rfl, rfl⟩ <;> rcases r16.out with ⟨z6, y6, rfl, rfl⟩ | ⟨z6, y6, rfl, rfl⟩ <;> rcases r17.out with ⟨z7, y7, rfl, rfl⟩ | ⟨z7, y7, rfl, rfl⟩ <;> first | (exfalso; omega) | skip
              · have hX : s.extract k (k + j + i) = X16 ++ X17 := by rw [y6, y7]; exact (ext_append s k j i z7).symm
                have hcat : X16.size + X17.size ≤ 9223372036854775807 := by rw [y6, y7]; simp [ByteArray.size_extract]; omega
                obtain rfl : X15 = X16 ++ X17 := by rw [y5, ← Nat.add_assoc]; exact hX
                clear r15 r16 r17 y5 y6 y7
                have hnn : ((k : Int) + (j : Int) + (i : Int)).toNat = k + j + i := by omega
                have g1 : (k : Int) + (j : Int) + (i : Int) ≤ (s.size : Int) := by omega
                have g2 : (k : Int) ≤ (k : Int) + (j : Int) + (i : Int) := by omega
                go_wp2
                go_meet
                exact ⟨rfl, rfl⟩
              all_goals
                clear r15 r16 r17 y5 y6 y7
                go_wp2
                go_meet
                exact ⟨rfl, rfl⟩
            case rest => as_aux_lemma =>
              obtain ⟨rfl, hw⟩ := hcut
              subst hw
              go_wp2
              go_ret
              exact ⟨rfl, b17⟩
end Go.Proofs.YthjoadiagnngiaaDoor
