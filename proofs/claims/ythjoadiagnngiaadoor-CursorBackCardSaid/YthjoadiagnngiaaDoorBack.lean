import Derived.Test.YthjoadiagnngiaaDoorBackM
namespace Go.Proofs.YthjoadiagnngiaaDoor
open Go.RowKit
set_option linter.unusedVariables false

theorem cell_add_below {w w' : World} {ad : Addr} {i : Nat} {u : Value} (hb : Below w.heap.size w w') (hlt : ad.block < w.heap.size) (h : w.cell? (ad.add i) = some u) : w'.cell? (ad.add i) = some u :=
  (hb.cell (p := ad.add i) (by rw [show (ad.add i).block = ad.block from by unfold Addr.add; split <;> rfl]; exact hlt)).trans h

theorem tmod3 (k r : Nat) (h : k % 3 = r) : ((k : Int)).tmod 3 = (r : Int) := by subst h; rfl

set_option maxRecDepth 4000 in
set_option maxHeartbeats 4000000 in
theorem back_any (a : Option Addr) (len cap : Nat) (z : List Int) (w : World) (hr : IsRow .u32 w a len cap z) (hg : HG w) :
    Calls Tryd.prog 6 #[.slice a len cap] w fun e w' => e = .returned (.bool true) ∧ Below w.heap.size w w' := by
  by_cases hbig : len > 2000
  · have hb : (2000 : Int) < (len : Int) := by omega
    clear hbig hr
    go_enter Tryd.func6, Tryd.ntmps6
    go_wp2_with fail
    refine (awake_any _ hg).mono ?_
    rintro e w0 ⟨rfl, b0⟩
    go_wp2
    go_ret
    exact ⟨rfl, b0⟩
  have hb : ¬ (2000 : Int) < (len : Int) := by omega
  have HLEN : Hid (len ≤ 2000) := by unfold Hid; omega
  have HR := Lib.hid (row_u32 hr)
  clear hbig hr
  generalize hF : (fun i => (z.getD i 0).toNat) = F
  have HR' : Hid (∀ i, i < len → ∃ ad, a = some ad ∧ ad.block < w.heap.size ∧ w.cell? (ad.add i) = some (.int .u32 (F i : Int)) ∧ F i < 4294967296) := by
    subst hF; exact HR
  clear HR hF
  go_enter Tryd.func6, Tryd.ntmps6
  go_wp2_with fail
  refine (awake_any _ hg).mono ?_
  rintro e w0 ⟨rfl, b0⟩
  clear hb
  go_wp2
  go_loopw [3, 4] (fun b i wr => ∃ k : Nat, k ≤ len ∧ i = .int .i64 k ∧ Bytes wr b (bytesTo F k) ∧ Below w.heap.size w wr) (fun _ i _ => len - (intOf i).toNat)
  case atStart => exact ⟨0, Nat.zero_le _, rfl, bytes_nil _, b0⟩
  case round =>
    obtain ⟨k, hk, rfl, hB, hbl⟩ := hrel
    by_cases hlt : k < len
    · obtain ⟨ad, rfl, hblk, hcell, hF⟩ := HR'.out k hlt
      have hc := cell_add_below hbl hblk hcell
      have hl := bytesTo_len F k
      have hL6 := HLEN.out
      have hl9 : (bytesTo F k).length ≤ 900000 := by omega
      have HL9 := Lib.hid hl9
      have b1 : (k : Int) < (len : Int) := by omega
      have hkb : k < 2000 := by omega
      obtain ⟨p0, p1, p2⟩ := len_piece k (F k)
      have hS : bytesTo F (k + 1) = bytesTo F k ++ piece k (F k) := rfl
      have HS := Lib.hid hS
      have HF := Lib.hid hF
      clear hcell hl hL6 hl9 hS hblk
      obtain ⟨x, hx⟩ : ∃ x, x = F k := ⟨_, rfl⟩
      rw [← hx] at hc p0 p1 p2 HS HF
      have h3 : k % 3 = 0 ∨ k % 3 = 1 ∨ k % 3 = 2 := by omega
      clear hx
      rcases h3 with h3 | h3 | h3
      · have ht : ((k : Int)).tmod 3 = 0 := tmod3 k 0 h3
        have HP := Lib.hid (p0 h3)
        clear p0 p1 p2 h3
        obtain ⟨n1, hn1⟩ : ∃ n1, n1 = (bytesTo F k ++ [UInt8.ofNat (x % 256)]).length := ⟨_, rfl⟩
        have HN := Lib.hid hn1
        clear hn1
        go_wp2_with fail
        refine (put1_val _ n1 (n := x % 256) hB HL9.out (by omega) (by first | (simp; done) | (rw [IntKind.wrap_u8]; simp; done) | (rw [IntKind.wrap_u16]; simp)) rfl HN.out.symm).mono ?_
        rintro e w1 ⟨g1, rfl, _, hown, hg1⟩
        have hB1 := Bytes.of_own hown
        go_wp2
        go_roundw
        case rel => exact ⟨k + 1, by omega, by go_num, by rw [HS.out, HP.out.2]; exact hB1, bl_none hbl hg1⟩
        case measure => simp [intOf]; omega
      · have ht : ((k : Int)).tmod 3 = 1 := tmod3 k 1 h3
        have HP := Lib.hid (p1 h3)
        clear p0 p1 p2 h3
        obtain ⟨n1, hn1⟩ : ∃ n1, n1 = (bytesTo F k ++ be2 (x % 65536)).length := ⟨_, rfl⟩
        have HN := Lib.hid hn1
        clear hn1
        go_wp2_with fail
        refine (put2_val _ n1 (n := x % 65536) hB HL9.out (by omega) (by first | (simp; done) | (rw [IntKind.wrap_u8]; simp; done) | (rw [IntKind.wrap_u16]; simp)) rfl HN.out.symm).mono ?_
        rintro e w1 ⟨g1, rfl, _, hown, hg1⟩
        have hB1 := Bytes.of_own hown
        go_wp2
        go_roundw
        case rel => exact ⟨k + 1, by omega, by go_num, by rw [HS.out, HP.out.2]; exact hB1, bl_none hbl hg1⟩
        case measure => simp [intOf]; omega
      · have ht : ((k : Int)).tmod 3 = 2 := tmod3 k 2 h3
        have HP := Lib.hid (p2 h3)
        clear p0 p1 p2 h3
        obtain ⟨n1, hn1⟩ : ∃ n1, n1 = (bytesTo F k ++ be4 x).length := ⟨_, rfl⟩
        have HN := Lib.hid hn1
        clear hn1
        go_wp2_with fail
        refine (put4_val _ n1 (n := x) hB HL9.out HF.out rfl rfl HN.out.symm).mono ?_
        rintro e w1 ⟨g1, rfl, _, hown, hg1⟩
        have hB1 := Bytes.of_own hown
        go_wp2
        go_roundw
        case rel => exact ⟨k + 1, by omega, by go_num, by rw [HS.out, HP.out.2]; exact hB1, bl_none hbl hg1⟩
        case measure => simp [intOf]; omega
    · obtain rfl : k = len := by omega
      obtain ⟨L, hL⟩ : ∃ L, L = bytesTo F k := ⟨_, rfl⟩
      have hcv := conv_bytes L u3 wr (by rw [hL]; exact hB)
      rw [← hL] at hB
      have hl := bytesTo_len F k
      rw [← hL] at hl
      have HL := Lib.hid hL
      obtain ⟨ao, c, rfl, h1, h2⟩ := hB
      have hl6 := HLEN.out
      have hsz : (str L).size ≤ 1000000 := by rw [str_size]; omega
      clear h1 h2 hL hl hl6 hk hlt
      go_wp2_with fail
      refine (new_any (str L) _ hsz (hg.below hbl).lt).mono ?_
      rintro e w1 ⟨p, rfl, hC, hg1, hp1⟩
      have hp := bl_le hbl hp1
      have b1 := bl_none hbl hg1
      clear hcv hbl hg1 hp1 hsz
      go_wp2
      go_loopw [6] (fun i wr => ∃ j : Nat, j ≤ k ∧ i = .int .i64 j ∧ Cur wr p (str L) (bytesTo F j).length ∧ Below w.heap.size w wr) (fun i _ => k - (intOf i).toNat)
      case atStart => exact ⟨0, Nat.zero_le _, rfl, hC, b1⟩
      case round =>
        obtain ⟨j, hj, rfl, hC, hbl⟩ := hrel
        by_cases hlt : j < k
        · obtain ⟨ad, rfl, hblk, hcell, hF⟩ := HR'.out j hlt
          have hc := cell_add_below hbl hblk hcell
          have hL6 := HLEN.out
          have HB : Hid (some (ad.add j).block ≠ some p) := by
            have e : (ad.add j).block = ad.block := by unfold Addr.add; split <;> rfl
            unfold Hid; rw [e]; intro h; simp at h; omega
          have b1 : (j : Int) < (k : Int) := by omega
          have hkb : j < 2000 := by omega
          have pp : ∀ c, (piece j (F j)).length = c → part (str L) (bytesTo F j).length c = piece j (F j) ∧ (bytesTo F j).length + c ≤ (str L).size ∧ (bytesTo F j).length + c = (bytesTo F (j + 1)).length := by
            intro c hc'
            have := part_piece F j k c hlt hc'
            rw [HL.out]
            exact ⟨this.1, this.2, by rw [bytesTo, List.length_append, hc']⟩
          obtain ⟨p0, p1, p2⟩ := len_piece j (F j)
          obtain ⟨x, hx⟩ : ∃ x, x = F j := ⟨_, rfl⟩
          rw [← hx] at hc p0 p1 p2 pp hF
          have HF := Lib.hid hF
          clear hcell hL6 hblk hF
          have h3 : j % 3 = 0 ∨ j % 3 = 1 ∨ j % 3 = 2 := by omega
          clear hx
          rcases h3 with h3 | h3 | h3
          · have ht : ((j : Int)).tmod 3 = 0 := tmod3 j 0 h3
            have HP := Lib.hid (p0 h3)
            have HQ := Lib.hid (pp _ (p0 h3).1)
            clear p0 p1 p2 pp h3
            go_wp2_with fail
            refine (byte_val (bytesTo F (j + 1)).length ((x : Int) % 256) hC HQ.out.2.1 HQ.out.2.2 (by rw [HQ.out.1, HP.out.2]; rw [val_one _ (by omega)]; omega)).mono ?_
            rintro e w2 ⟨rfl, hC2, hg2⟩
            have hc2 := hg2.cell hc HB.out
            clear hC hc
            go_wp2
            go_roundw
            case rel => exact ⟨j + 1, by omega, by go_num, hC2, bl_some hbl hg2 hp⟩
            case measure => simp [intOf]; omega
          · have ht : ((j : Int)).tmod 3 = 1 := tmod3 j 1 h3
            have HP := Lib.hid (p1 h3)
            have HQ := Lib.hid (pp _ (p1 h3).1)
            clear p0 p1 p2 pp h3
            go_wp2_with fail
            refine (two_val (bytesTo F (j + 1)).length (IntKind.u16.wrap (x : Int)) hC HQ.out.2.1 HQ.out.2.2 (by rw [HQ.out.1, HP.out.2]; rw [val_be2 _ (by omega), IntKind.wrap_u16]; omega)).mono ?_
            rintro e w2 ⟨rfl, hC2, hg2⟩
            have hc2 := hg2.cell hc HB.out
            clear hC hc
            go_wp2
            go_roundw
            case rel => exact ⟨j + 1, by omega, by go_num, hC2, bl_some hbl hg2 hp⟩
            case measure => simp [intOf]; omega
          · have ht : ((j : Int)).tmod 3 = 2 := tmod3 j 2 h3
            have HP := Lib.hid (p2 h3)
            have HQ := Lib.hid (pp _ (p2 h3).1)
            clear p0 p1 p2 pp h3
            go_wp2_with fail
            refine (four_val (bytesTo F (j + 1)).length (x : Int) hC HQ.out.2.1 HQ.out.2.2 (by rw [HQ.out.1, HP.out.2]; rw [val_be4 _ HF.out])).mono ?_
            rintro e w2 ⟨rfl, hC2, hg2⟩
            have hc2 := hg2.cell hc HB.out
            clear hC hc
            go_wp2
            go_roundw
            case rel => exact ⟨j + 1, by omega, by go_num, hC2, bl_some hbl hg2 hp⟩
            case measure => simp [intOf]; omega
        · obtain rfl : j = k := by omega
          have hLj : L.length = (bytesTo F j).length := by rw [HL.out]
          rw [← hLj] at hC
          clear hLj hj hlt
          go_wp2_with fail
          refine (left_val 0 hC (by rw [str_size]; omega)).mono ?_
          rintro e w2 ⟨rfl, m, rfl⟩
          have hC2 := hC.grown (grown_drewN wr m none)
          have hb2 := bl_drewN hbl m
          go_wp2_with fail
          refine (at_val (L.length : Int) hC2 rfl).mono ?_
          rintro e w2 ⟨rfl, rfl⟩
          go_wp2
          go_ret
          exact ⟨rfl, hb2⟩
end Go.Proofs.YthjoadiagnngiaaDoor
