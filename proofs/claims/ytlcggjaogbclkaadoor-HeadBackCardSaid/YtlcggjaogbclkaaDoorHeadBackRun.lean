/-
  HeadBack: its run, at whatever arguments.
-/
import Derived.Test.YtlcggjaogbclkaaDoorHeadBackRf
import Derived.Test.YtlcggjaogbclkaaDoorHeadBackRd
namespace Go.Proofs.YtlcggjaogbclkaaDoor.headBack
open Go.RowKit
set_option linter.unusedVariables false
set_option linter.unusedSimpArgs false
set_option maxRecDepth 100000
theorem opN_le (n : Nat) : opN n ≤ 15 := by unfold opN; omega
theorem codeN_le (n : Nat) : codeN n ≤ 15 := by unfold codeN; omega
theorem bits_fN (b1 : Bool) (op : Nat) (b3 b4 b5 b6 b7 b8 b9 : Bool) (code : Nat) (h : op ≤ 15 ∧ code ≤ 15) : bitN (fN b1 op b3 b4 b5 b6 b7 b8 b9 code) 15 = b1 ∧ opN (fN b1 op b3 b4 b5 b6 b7 b8 b9 code) = op ∧ bitN (fN b1 op b3 b4 b5 b6 b7 b8 b9 code) 10 = b3 ∧ bitN (fN b1 op b3 b4 b5 b6 b7 b8 b9 code) 9 = b4 ∧ bitN (fN b1 op b3 b4 b5 b6 b7 b8 b9 code) 8 = b5 ∧ bitN (fN b1 op b3 b4 b5 b6 b7 b8 b9 code) 7 = b6 ∧ bitN (fN b1 op b3 b4 b5 b6 b7 b8 b9 code) 6 = b7 ∧ bitN (fN b1 op b3 b4 b5 b6 b7 b8 b9 code) 5 = b8 ∧ bitN (fN b1 op b3 b4 b5 b6 b7 b8 b9 code) 4 = b9 ∧ codeN (fN b1 op b3 b4 b5 b6 b7 b8 b9 code) = code ∧ fN b1 op b3 b4 b5 b6 b7 b8 b9 code ≤ 65535 := by
  rw [fN_ok h]
  simp only [nat_mul b1 32768, nat_mul b3 1024, nat_mul b4 512, nat_mul b5 256, nat_mul b6 128, nat_mul b7 64, nat_mul b8 32, nat_mul b9 16]
  have n1 := nat_one b1; have n3 := nat_one b3; have n4 := nat_one b4; have n5 := nat_one b5; have n6 := nat_one b6; have n7 := nat_one b7; have n8 := nat_one b8; have n9 := nat_one b9
  have h1 := h.1; have h2 := h.2
  exact ⟨bit_of (by omega), (by unfold opN; omega), bit_of (by omega), bit_of (by omega), bit_of (by omega), bit_of (by omega), bit_of (by omega), bit_of (by omega), bit_of (by omega), (by unfold codeN; omega), by omega⟩
theorem fN_from (fl : Nat) (h : fl ≤ 65535) : fN (bitN fl 15) (opN fl) (bitN fl 10) (bitN fl 9) (bitN fl 8) (bitN fl 7) (bitN fl 6) (bitN fl 5) (bitN fl 4) (codeN fl) = fl := by
  rw [fN_ok ⟨opN_le fl, codeN_le fl⟩]
  rw [nat_mul (bitN fl 15) 32768, nat_mul (bitN fl 10) 1024, nat_mul (bitN fl 9) 512, nat_mul (bitN fl 8) 256, nat_mul (bitN fl 7) 128, nat_mul (bitN fl 6) 64, nat_mul (bitN fl 5) 32, nat_mul (bitN fl 4) 16]
  simp only [nat_bit]
  unfold opN codeN
  omega
theorem duo_pk (x0 x1 x2 x3 x4 x5 x6 x7 x8 x9 x10 x11 : Nat) : duo (Clu.pk [x0, x1, x2, x3, x4, x5, x6, x7, x8, x9, x10, x11]) 0 = x0 % 256 * 256 + x1 % 256 ∧ duo (Clu.pk [x0, x1, x2, x3, x4, x5, x6, x7, x8, x9, x10, x11]) 2 = x2 % 256 * 256 + x3 % 256 ∧ duo (Clu.pk [x0, x1, x2, x3, x4, x5, x6, x7, x8, x9, x10, x11]) 4 = x4 % 256 * 256 + x5 % 256 ∧ duo (Clu.pk [x0, x1, x2, x3, x4, x5, x6, x7, x8, x9, x10, x11]) 6 = x6 % 256 * 256 + x7 % 256 ∧ duo (Clu.pk [x0, x1, x2, x3, x4, x5, x6, x7, x8, x9, x10, x11]) 8 = x8 % 256 * 256 + x9 % 256 ∧ duo (Clu.pk [x0, x1, x2, x3, x4, x5, x6, x7, x8, x9, x10, x11]) 10 = x10 % 256 * 256 + x11 % 256 := by
  refine ⟨?_, ?_, ?_, ?_, ?_, ?_⟩ <;> (unfold duo; simp only [byteN_pkS, byteN_pk0])
theorem duo_lt (M j : Nat) : duo M j ≤ 65535 := by
  have h1 := Clu.byteN_lt M j
  have h2 := Clu.byteN_lt M (j + 1)
  unfold duo
  omega
theorem head_same {a0 id a2 op a10 code : Nat} {a1 b1 a3 a4 a5 a6 a7 a8 a9 b3 b4 b5 b6 b7 b8 b9 : Bool} (h0 : a0 = id) (h1 : a1 = b1) (h2 : a2 = op) (h3 : a3 = b3) (h4 : a4 = b4) (h5 : a5 = b5) (h6 : a6 = b6) (h7 : a7 = b7) (h8 : a8 = b8) (h9 : a9 = b9) (h10 : a10 = code) : (!(Int.ofNat a0 == Int.ofNat id && (a1 == b1 && (Int.ofNat a2 == Int.ofNat op && (a3 == b3 && (a4 == b4 && (a5 == b5 && (a6 == b6 && (a7 == b7 && (a8 == b8 && (a9 == b9 && (Int.ofNat a10 == Int.ofNat code && true)))))))))))) = false := by
  subst h0 h1 h2 h3 h4 h5 h6 h7 h8 h9 h10
  simp
theorem head_same0 {a2 op a10 code : Nat} {a1 b1 a3 a4 a5 a6 a7 a8 a9 b3 b4 b5 b6 b7 b8 b9 : Bool} (h1 : a1 = b1) (h2 : a2 = op) (h3 : a3 = b3) (h4 : a4 = b4) (h5 : a5 = b5) (h6 : a6 = b6) (h7 : a7 = b7) (h8 : a8 = b8) (h9 : a9 = b9) (h10 : a10 = code) : (!(true && (a1 == b1 && (Int.ofNat a2 == Int.ofNat op && (a3 == b3 && (a4 == b4 && (a5 == b5 && (a6 == b6 && (a7 == b7 && (a8 == b8 && (a9 == b9 && (Int.ofNat a10 == Int.ofNat code && true)))))))))))) = false := by
  subst h1 h2 h3 h4 h5 h6 h7 h8 h9 h10
  simp
theorem counts_same {a0 a1 a2 a3 b0 b1 b2 b3 : Nat} (h0 : a0 = b0) (h1 : a1 = b1) (h2 : a2 = b2) (h3 : a3 = b3) : (!(Int.ofNat a0 == Int.ofNat b0 && (Int.ofNat a1 == Int.ofNat b1 && (Int.ofNat a2 == Int.ofNat b2 && (Int.ofNat a3 == Int.ofNat b3 && true))))) = false := by
  subst h0 h1 h2 h3
  simp
theorem rG {n M : Nat} (h : n ≤ 140737488351232) : readG ([] ++ ([Clu.AV.s n M] ++ [])) = true := Clu.ble_iff.2 h
theorem valid_read (id : Nat) (b1 : Bool) (op : Nat) (b3 b4 b5 b6 b7 b8 b9 : Bool) (code : Nat) (k0 k1 k2 k3 : Nat) (hid : id ≤ 65535) (hv : okW op code (Int.ofNat k0) (Int.ofNat k1) (Int.ofNat k2) (Int.ofNat k3)) : rE (wS id b1 op b3 b4 b5 b6 b7 b8 b9 code (Int.ofNat k0) (Int.ofNat k1) (Int.ofNat k2) (Int.ofNat k3)) (wN id b1 op b3 b4 b5 b6 b7 b8 b9 code (Int.ofNat k0) (Int.ofNat k1) (Int.ofNat k2) (Int.ofNat k3)) = 0 ∧ rI (wS id b1 op b3 b4 b5 b6 b7 b8 b9 code (Int.ofNat k0) (Int.ofNat k1) (Int.ofNat k2) (Int.ofNat k3)) (wN id b1 op b3 b4 b5 b6 b7 b8 b9 code (Int.ofNat k0) (Int.ofNat k1) (Int.ofNat k2) (Int.ofNat k3)) = id ∧ (∀ k, rB (wS id b1 op b3 b4 b5 b6 b7 b8 b9 code (Int.ofNat k0) (Int.ofNat k1) (Int.ofNat k2) (Int.ofNat k3)) (wN id b1 op b3 b4 b5 b6 b7 b8 b9 code (Int.ofNat k0) (Int.ofNat k1) (Int.ofNat k2) (Int.ofNat k3)) k = bitN (fN b1 op b3 b4 b5 b6 b7 b8 b9 code) k) ∧ rO (wS id b1 op b3 b4 b5 b6 b7 b8 b9 code (Int.ofNat k0) (Int.ofNat k1) (Int.ofNat k2) (Int.ofNat k3)) (wN id b1 op b3 b4 b5 b6 b7 b8 b9 code (Int.ofNat k0) (Int.ofNat k1) (Int.ofNat k2) (Int.ofNat k3)) = opN (fN b1 op b3 b4 b5 b6 b7 b8 b9 code) ∧ rC (wS id b1 op b3 b4 b5 b6 b7 b8 b9 code (Int.ofNat k0) (Int.ofNat k1) (Int.ofNat k2) (Int.ofNat k3)) (wN id b1 op b3 b4 b5 b6 b7 b8 b9 code (Int.ofNat k0) (Int.ofNat k1) (Int.ofNat k2) (Int.ofNat k3)) = codeN (fN b1 op b3 b4 b5 b6 b7 b8 b9 code) ∧ rK (wS id b1 op b3 b4 b5 b6 b7 b8 b9 code (Int.ofNat k0) (Int.ofNat k1) (Int.ofNat k2) (Int.ofNat k3)) (wN id b1 op b3 b4 b5 b6 b7 b8 b9 code (Int.ofNat k0) (Int.ofNat k1) (Int.ofNat k2) (Int.ofNat k3)) 0 = k0 ∧ rK (wS id b1 op b3 b4 b5 b6 b7 b8 b9 code (Int.ofNat k0) (Int.ofNat k1) (Int.ofNat k2) (Int.ofNat k3)) (wN id b1 op b3 b4 b5 b6 b7 b8 b9 code (Int.ofNat k0) (Int.ofNat k1) (Int.ofNat k2) (Int.ofNat k3)) 1 = k1 ∧ rK (wS id b1 op b3 b4 b5 b6 b7 b8 b9 code (Int.ofNat k0) (Int.ofNat k1) (Int.ofNat k2) (Int.ofNat k3)) (wN id b1 op b3 b4 b5 b6 b7 b8 b9 code (Int.ofNat k0) (Int.ofNat k1) (Int.ofNat k2) (Int.ofNat k3)) 2 = k2 ∧ rK (wS id b1 op b3 b4 b5 b6 b7 b8 b9 code (Int.ofNat k0) (Int.ofNat k1) (Int.ofNat k2) (Int.ofNat k3)) (wN id b1 op b3 b4 b5 b6 b7 b8 b9 code (Int.ofNat k0) (Int.ofNat k1) (Int.ofNat k2) (Int.ofNat k3)) 3 = k3 := by
  rw [wS_ok id b1 op b3 b4 b5 b6 b7 b8 b9 code _ _ _ _ hv, wN_ok id b1 op b3 b4 b5 b6 b7 b8 b9 code _ _ _ _ hv]
  have hF := (bits_fN b1 op b3 b4 b5 b6 b7 b8 b9 code hv.1).2.2.2.2.2.2.2.2.2.2
  generalize fN b1 op b3 b4 b5 b6 b7 b8 b9 code = F at *
  have hk := hv.2
  simp only [Int.ofNat_eq_natCast] at hk
  unfold rE rI rB rO rC rK
  simp only [show ¬ (12 : Nat) < 12 by decide, if_false, Nat.mul_zero, Nat.mul_one, Nat.add_zero, Nat.reduceMul, Nat.reduceAdd]
  obtain ⟨d0, d2, d4, d6, d8, d10⟩ := duo_pk (id / 256 % 256) (id % 256) (F / 256 % 256) (F % 256) (Int.toNat (Int.ofNat k0) % 65536 / 256 % 256) (Int.toNat (Int.ofNat k0) % 65536 % 256) (Int.toNat (Int.ofNat k1) % 65536 / 256 % 256) (Int.toNat (Int.ofNat k1) % 65536 % 256) (Int.toNat (Int.ofNat k2) % 65536 / 256 % 256) (Int.toNat (Int.ofNat k2) % 65536 % 256) (Int.toNat (Int.ofNat k3) % 65536 / 256 % 256) (Int.toNat (Int.ofNat k3) % 65536 % 256)
  rw [d0, d2, d4, d6, d8, d10]
  rw [show F / 256 % 256 % 256 * 256 + F % 256 % 256 = F by omega]
  simp only [Int.ofNat_eq_natCast, Int.toNat_natCast]
  (repeat' apply And.intro) <;> first | exact trivial | omega | exact fun _ => trivial | exact fun _ => rfl
theorem long_ok (n M : Nat) (hn : ¬ n < 12) : okW (rO n M) (rC n M) (Int.ofNat (rK n M 0)) (Int.ofNat (rK n M 1)) (Int.ofNat (rK n M 2)) (Int.ofNat (rK n M 3)) := by
  unfold rO rC rK okW
  simp only [if_neg hn, Int.ofNat_eq_natCast]
  have h0 := duo_lt M (4 + 2 * 0)
  have h1 := duo_lt M (4 + 2 * 1)
  have h2 := duo_lt M (4 + 2 * 2)
  have h3 := duo_lt M (4 + 2 * 3)
  exact ⟨⟨opN_le _, codeN_le _⟩, by omega, by omega, by omega, by omega⟩
theorem long_bytes (n M : Nat) (hn : ¬ n < 12) : (!Clu.eqNs (wS (rI n M) (rB n M 15) (rO n M) (rB n M 10) (rB n M 9) (rB n M 8) (rB n M 7) (rB n M 6) (rB n M 5) (rB n M 4) (rC n M) (Int.ofNat (rK n M 0)) (Int.ofNat (rK n M 1)) (Int.ofNat (rK n M 2)) (Int.ofNat (rK n M 3))) (wN (rI n M) (rB n M 15) (rO n M) (rB n M 10) (rB n M 9) (rB n M 8) (rB n M 7) (rB n M 6) (rB n M 5) (rB n M 4) (rC n M) (Int.ofNat (rK n M 0)) (Int.ofNat (rK n M 1)) (Int.ofNat (rK n M 2)) (Int.ofNat (rK n M 3))) 12 (Clu.maskN 12 (Nat.shiftRight M 0))) = false := by
  have hv := long_ok n M hn
  rw [wS_ok _ _ _ _ _ _ _ _ _ _ _ _ _ _ _ hv, wN_ok _ _ _ _ _ _ _ _ _ _ _ _ _ _ _ hv]
  have e : Clu.maskN 12 (Nat.shiftRight M 0) = Clu.pk [Clu.byteN M 0, Clu.byteN M 1, Clu.byteN M 2, Clu.byteN M 3, Clu.byteN M 4, Clu.byteN M 5, Clu.byteN M 6, Clu.byteN M 7, Clu.byteN M 8, Clu.byteN M 9, Clu.byteN M 10, Clu.byteN M 11] := bts_eq 12 0 M
  rw [e]
  have hF : fN (rB n M 15) (rO n M) (rB n M 10) (rB n M 9) (rB n M 8) (rB n M 7) (rB n M 6) (rB n M 5) (rB n M 4) (rC n M) = duo M 2 := by
    unfold rB rO rC
    simp only [if_neg hn]
    exact fN_from _ (duo_lt M 2)
  rw [hF]
  unfold rI rK
  simp only [if_neg hn, Nat.mul_zero, Nat.mul_one, Nat.add_zero, Nat.reduceMul, Nat.reduceAdd, Int.ofNat_eq_natCast, Int.toNat_natCast]
  unfold duo
  have g0 := Clu.byteN_lt M 0
  have g1 := Clu.byteN_lt M 1
  have g2 := Clu.byteN_lt M 2
  have g3 := Clu.byteN_lt M 3
  have g4 := Clu.byteN_lt M 4
  have g5 := Clu.byteN_lt M 5
  have g6 := Clu.byteN_lt M 6
  have g7 := Clu.byteN_lt M 7
  have g8 := Clu.byteN_lt M 8
  have g9 := Clu.byteN_lt M 9
  have g10 := Clu.byteN_lt M 10
  have g11 := Clu.byteN_lt M 11
  rw [Clu.eqNs_pk (by simp only [Nat.reduceAdd, List.cons.injEq, and_true]; (repeat' apply And.intro) <;> first | omega | exact trivial)]
  rfl
theorem XL_ok : Clu.XOK Tryd.prog (Clu.addB (Clu.addB (Clu.addB (Clu.addB X0 20 (Clu.layF lays (flagsF fN fE))) 18 (Clu.layF lays (writeF wS wN wE))) 22 (Clu.layF lays (fromF bitN opN codeN))) 15 (Clu.layG lays readG (readF rI rO rC rE rB rK))) := Clu.addB_ok (Clu.addB_ok (Clu.addB_ok (Clu.addB_ok X0_ok (Clu.layF_ok low flags_fact)) (Clu.layF_ok low write_fact)) (Clu.layF_ok low from_fact)) (Clu.layG_ok low read_fact)
set_option maxHeartbeats 4000000 in
theorem l11 (id : Nat) (b1 : Bool) (op : Nat) (b3 b4 b5 b6 b7 b8 b9 : Bool) (code : Nat) (k0 k1 k2 k3 : Nat) (n M fl : Nat) (hfl : fl ≤ 65535) (hz : n ≤ 140737488351232) (hid : id ≤ 65535) (hv : okW op code (Int.ofNat k0) (Int.ofNat k1) (Int.ofNat k2) (Int.ofNat k3)) (hn : ¬ n < 12) : (Clu.layK lays .e fun h => Clu.runF Tryd.prog (Clu.tell (Clu.addB (Clu.addB (Clu.addB (Clu.addB X0 20 (Clu.layF lays (flagsF fN fE))) 18 (Clu.layF lays (writeF wS wN wE))) 22 (Clu.layF lays (fromF bitN opN codeN))) 15 (Clu.layG lays readG (readF rI rO rC rE rB rK))) 5 1000224100021410001971000187100017710001581000143100013310001251000115100010510000951000062) 1000 1000 5 [.ag [.i .u16 (.ofNat id), .b b1, .i .u8 (.ofNat op), .b b3, .b b4, .b b5, .b b6, .b b7, .b b8, .b b9, .i .u8 (.ofNat code)], .ag [.i .i64 (Int.ofNat k0), .i .i64 (Int.ofNat k1), .i .i64 (Int.ofNat k2), .i .i64 (Int.ofNat k3)], .s n M, .i .u16 (.ofNat fl)] h 1000) = .ok (.b true) := by
  obtain ⟨v0, v1, v2, v3, v4, v5, v6, v7, v8⟩ := valid_read id b1 op b3 b4 b5 b6 b7 b8 b9 code k0 k1 k2 k3 hid hv
  obtain ⟨f0, f1, f2, f3, f4, f5, f6, f7, f8, f9, _⟩ := bits_fN b1 op b3 b4 b5 b6 b7 b8 b9 code hv.1
  refine (q_l11_raw fN fE wS wN wE bitN opN codeN rI rO rC rE rB rK id op code b1 b3 b4 b5 b6 b7 b8 b9 (Int.ofNat k0) (Int.ofNat k1) (Int.ofNat k2) (Int.ofNat k3) n M fl).trans ?_
  refine (Clu.needT_eq (eT (wE_ok hv)) _ _).trans ?_
  refine (Clu.needT_eq (rG (by rw [wS_ok id b1 op b3 b4 b5 b6 b7 b8 b9 code _ _ _ _ hv]; decide)) _ _).trans ?_
  refine (Clu.needF_eq (nT v0) _ _).trans ?_
  refine (Clu.needF_eq (head_same v1 ((v2 15).trans f0) (v3.trans f1) ((v2 10).trans f2) ((v2 9).trans f3) ((v2 8).trans f4) ((v2 7).trans f5) ((v2 6).trans f6) ((v2 5).trans f7) ((v2 4).trans f8) (v4.trans f9)) _ _).trans ?_
  refine (Clu.needF_eq (counts_same v5 v6 v7 v8) _ _).trans ?_
  refine (Clu.needF_eq (by rw [wS_ok id b1 op b3 b4 b5 b6 b7 b8 b9 code _ _ _ _ hv]; rfl) _ _).trans ?_
  refine (Clu.needF_eq (nT (fE_ok hv.1)) _ _).trans ?_
  refine (Clu.needF_eq (head_same0 f0 f1 f2 f3 f4 f5 f6 f7 f8 f9) _ _).trans ?_
  refine (Clu.needT_eq (rG hz) _ _).trans ?_
  refine (Clu.needT_eq (eT (if_neg hn)) _ _).trans ?_
  refine (Clu.needF_eq (nT (wE_ok (long_ok n M hn))) _ _).trans ?_
  refine (Clu.needF_eq (Clu.iLt_f (by simp only [Int.ofNat_eq_natCast]; omega)) _ _).trans ?_
  refine (Clu.needT_eq (Clu.ble_iff.2 (by omega)) _ _).trans ?_
  refine (Clu.needF_eq (long_bytes n M hn) _ _).trans ?_
  refine (Clu.needT_eq (eT (fE_ok ⟨opN_le fl, codeN_le fl⟩)) _ _).trans ?_
  refine (Clu.needT_eq (by rw [fN_from fl hfl]; exact Clu.iEq_t rfl) _ _).trans ?_
  rfl
set_option maxHeartbeats 4000000 in
theorem l10 (id : Nat) (b1 : Bool) (op : Nat) (b3 b4 b5 b6 b7 b8 b9 : Bool) (code : Nat) (k0 k1 k2 k3 : Nat) (n M fl : Nat) (hfl : fl ≤ 65535) (hz : n ≤ 140737488351232) (hid : id ≤ 65535) (hv : okW op code (Int.ofNat k0) (Int.ofNat k1) (Int.ofNat k2) (Int.ofNat k3)) (hn : n < 12) : (Clu.layK lays .e fun h => Clu.runF Tryd.prog (Clu.tell (Clu.addB (Clu.addB (Clu.addB (Clu.addB X0 20 (Clu.layF lays (flagsF fN fE))) 18 (Clu.layF lays (writeF wS wN wE))) 22 (Clu.layF lays (fromF bitN opN codeN))) 15 (Clu.layG lays readG (readF rI rO rC rE rB rK))) 5 1000224100021410001591000143100013310001251000115100010510000951000062) 1000 1000 5 [.ag [.i .u16 (.ofNat id), .b b1, .i .u8 (.ofNat op), .b b3, .b b4, .b b5, .b b6, .b b7, .b b8, .b b9, .i .u8 (.ofNat code)], .ag [.i .i64 (Int.ofNat k0), .i .i64 (Int.ofNat k1), .i .i64 (Int.ofNat k2), .i .i64 (Int.ofNat k3)], .s n M, .i .u16 (.ofNat fl)] h 1000) = .ok (.b true) := by
  obtain ⟨v0, v1, v2, v3, v4, v5, v6, v7, v8⟩ := valid_read id b1 op b3 b4 b5 b6 b7 b8 b9 code k0 k1 k2 k3 hid hv
  obtain ⟨f0, f1, f2, f3, f4, f5, f6, f7, f8, f9, _⟩ := bits_fN b1 op b3 b4 b5 b6 b7 b8 b9 code hv.1
  refine (q_l10_raw fN fE wS wN wE bitN opN codeN rI rO rC rE rB rK id op code b1 b3 b4 b5 b6 b7 b8 b9 (Int.ofNat k0) (Int.ofNat k1) (Int.ofNat k2) (Int.ofNat k3) n M fl).trans ?_
  refine (Clu.needT_eq (eT (wE_ok hv)) _ _).trans ?_
  refine (Clu.needT_eq (rG (by rw [wS_ok id b1 op b3 b4 b5 b6 b7 b8 b9 code _ _ _ _ hv]; decide)) _ _).trans ?_
  refine (Clu.needF_eq (nT v0) _ _).trans ?_
  refine (Clu.needF_eq (head_same v1 ((v2 15).trans f0) (v3.trans f1) ((v2 10).trans f2) ((v2 9).trans f3) ((v2 8).trans f4) ((v2 7).trans f5) ((v2 6).trans f6) ((v2 5).trans f7) ((v2 4).trans f8) (v4.trans f9)) _ _).trans ?_
  refine (Clu.needF_eq (counts_same v5 v6 v7 v8) _ _).trans ?_
  refine (Clu.needF_eq (by rw [wS_ok id b1 op b3 b4 b5 b6 b7 b8 b9 code _ _ _ _ hv]; rfl) _ _).trans ?_
  refine (Clu.needF_eq (nT (fE_ok hv.1)) _ _).trans ?_
  refine (Clu.needF_eq (head_same0 f0 f1 f2 f3 f4 f5 f6 f7 f8 f9) _ _).trans ?_
  refine (Clu.needT_eq (rG hz) _ _).trans ?_
  refine (Clu.needF_eq (eF (by unfold rE; rw [if_pos hn]; decide)) _ _).trans ?_
  refine (Clu.needT_eq (eT (fE_ok ⟨opN_le fl, codeN_le fl⟩)) _ _).trans ?_
  refine (Clu.needT_eq (by rw [fN_from fl hfl]; exact Clu.iEq_t rfl) _ _).trans ?_
  rfl
set_option maxHeartbeats 4000000 in
theorem l01 (id : Nat) (b1 : Bool) (op : Nat) (b3 b4 b5 b6 b7 b8 b9 : Bool) (code : Nat) (c0 c1 c2 c3 : Int) (n M fl : Nat) (hfl : fl ≤ 65535) (hz : n ≤ 140737488351232) (hv : ¬ okW op code c0 c1 c2 c3) (hn : ¬ n < 12) : (Clu.layK lays .e fun h => Clu.runF Tryd.prog (Clu.tell (Clu.addB (Clu.addB (Clu.addB (Clu.addB X0 20 (Clu.layF lays (flagsF fN fE))) 18 (Clu.layF lays (writeF wS wN wE))) 22 (Clu.layF lays (fromF bitN opN codeN))) 15 (Clu.layG lays readG (readF rI rO rC rE rB rK))) 5 1000224100021410001971000187100017710001581000063) 1000 1000 5 [.ag [.i .u16 (.ofNat id), .b b1, .i .u8 (.ofNat op), .b b3, .b b4, .b b5, .b b6, .b b7, .b b8, .b b9, .i .u8 (.ofNat code)], .ag [.i .i64 c0, .i .i64 c1, .i .i64 c2, .i .i64 c3], .s n M, .i .u16 (.ofNat fl)] h 1000) = .ok (.b true) := by
  refine (q_l01_raw fN fE wS wN wE bitN opN codeN rI rO rC rE rB rK id op code b1 b3 b4 b5 b6 b7 b8 b9 c0 c1 c2 c3 n M fl).trans ?_
  refine (Clu.needF_eq (eF (by rw [wE_no hv]; decide)) _ _).trans ?_
  refine (Clu.needT_eq (rG hz) _ _).trans ?_
  refine (Clu.needT_eq (eT (if_neg hn)) _ _).trans ?_
  refine (Clu.needF_eq (nT (wE_ok (long_ok n M hn))) _ _).trans ?_
  refine (Clu.needF_eq (Clu.iLt_f (by simp only [Int.ofNat_eq_natCast]; omega)) _ _).trans ?_
  refine (Clu.needT_eq (Clu.ble_iff.2 (by omega)) _ _).trans ?_
  refine (Clu.needF_eq (long_bytes n M hn) _ _).trans ?_
  refine (Clu.needT_eq (eT (fE_ok ⟨opN_le fl, codeN_le fl⟩)) _ _).trans ?_
  refine (Clu.needT_eq (by rw [fN_from fl hfl]; exact Clu.iEq_t rfl) _ _).trans ?_
  rfl
set_option maxHeartbeats 4000000 in
theorem l00 (id : Nat) (b1 : Bool) (op : Nat) (b3 b4 b5 b6 b7 b8 b9 : Bool) (code : Nat) (c0 c1 c2 c3 : Int) (n M fl : Nat) (hfl : fl ≤ 65535) (hz : n ≤ 140737488351232) (hv : ¬ okW op code c0 c1 c2 c3) (hn : n < 12) : (Clu.layK lays .e fun h => Clu.runF Tryd.prog (Clu.tell (Clu.addB (Clu.addB (Clu.addB (Clu.addB X0 20 (Clu.layF lays (flagsF fN fE))) 18 (Clu.layF lays (writeF wS wN wE))) 22 (Clu.layF lays (fromF bitN opN codeN))) 15 (Clu.layG lays readG (readF rI rO rC rE rB rK))) 5 1000224100021410001591000063) 1000 1000 5 [.ag [.i .u16 (.ofNat id), .b b1, .i .u8 (.ofNat op), .b b3, .b b4, .b b5, .b b6, .b b7, .b b8, .b b9, .i .u8 (.ofNat code)], .ag [.i .i64 c0, .i .i64 c1, .i .i64 c2, .i .i64 c3], .s n M, .i .u16 (.ofNat fl)] h 1000) = .ok (.b true) := by
  refine (q_l00_raw fN fE wS wN wE bitN opN codeN rI rO rC rE rB rK id op code b1 b3 b4 b5 b6 b7 b8 b9 c0 c1 c2 c3 n M fl).trans ?_
  refine (Clu.needF_eq (eF (by rw [wE_no hv]; decide)) _ _).trans ?_
  refine (Clu.needT_eq (rG hz) _ _).trans ?_
  refine (Clu.needF_eq (eF (by unfold rE; rw [if_pos hn]; decide)) _ _).trans ?_
  refine (Clu.needT_eq (eT (fE_ok ⟨opN_le fl, codeN_le fl⟩)) _ _).trans ?_
  refine (Clu.needT_eq (by rw [fN_from fl hfl]; exact Clu.iEq_t rfl) _ _).trans ?_
  rfl
theorem run_ok (c0_0 : Int) (i1 : 0 ≤ c0_0) (i2 : c0_0 ≤ 65535) (c0_1 : Bool) (c0_2 : Int) (o1 : 0 ≤ c0_2) (o2 : c0_2 ≤ 255) (c0_3 : Bool) (c0_4 : Bool) (c0_5 : Bool) (c0_6 : Bool) (c0_7 : Bool) (c0_8 : Bool) (c0_9 : Bool) (c0_10 : Int) (d1 : 0 ≤ c0_10) (d2 : c0_10 ≤ 255) (c1_0 : Int) (e0a : -9223372036854775808 ≤ c1_0) (e0b : c1_0 ≤ 9223372036854775807) (c1_1 : Int) (e1a : -9223372036854775808 ≤ c1_1) (e1b : c1_1 ≤ 9223372036854775807) (c1_2 : Int) (e2a : -9223372036854775808 ≤ c1_2) (e2b : c1_2 ≤ 9223372036854775807) (c1_3 : Int) (e3a : -9223372036854775808 ≤ c1_3) (e3b : c1_3 ≤ 9223372036854775807) (n M : Nat) (hz : n ≤ 140737488351232) (a3 : Int) (f1 : 0 ≤ a3) (f2 : a3 ≤ 65535) : ∃ Y, Clu.XOK Tryd.prog Y ∧ (Clu.layK lays .e fun h => Clu.runF Tryd.prog Y 1000 1000 5 [.ag [.i .u16 c0_0, .b c0_1, .i .u8 c0_2, .b c0_3, .b c0_4, .b c0_5, .b c0_6, .b c0_7, .b c0_8, .b c0_9, .i .u8 c0_10], .ag [.i .i64 c1_0, .i .i64 c1_1, .i .i64 c1_2, .i .i64 c1_3], .s n M, .i .u16 a3] h 1000) = .ok (.b true) := by
  obtain ⟨id, rfl⟩ := Int.eq_ofNat_of_zero_le i1
  obtain ⟨op, rfl⟩ := Int.eq_ofNat_of_zero_le o1
  obtain ⟨code, rfl⟩ := Int.eq_ofNat_of_zero_le d1
  obtain ⟨fl, rfl⟩ := Int.eq_ofNat_of_zero_le f1
  by_cases hv : okW op code c1_0 c1_1 c1_2 c1_3
  · have hv' := hv
    obtain ⟨_, ⟨h0, _⟩, ⟨h1, _⟩, ⟨h2, _⟩, ⟨h3, _⟩⟩ := hv'
    obtain ⟨k0, rfl⟩ := Int.eq_ofNat_of_zero_le h0
    obtain ⟨k1, rfl⟩ := Int.eq_ofNat_of_zero_le h1
    obtain ⟨k2, rfl⟩ := Int.eq_ofNat_of_zero_le h2
    obtain ⟨k3, rfl⟩ := Int.eq_ofNat_of_zero_le h3
    by_cases hn : n < 12
    · exact ⟨_, Clu.tell_ok XL_ok, l10 id c0_1 op c0_3 c0_4 c0_5 c0_6 c0_7 c0_8 c0_9 code k0 k1 k2 k3 n M fl (by omega) hz (by omega) hv hn⟩
    · exact ⟨_, Clu.tell_ok XL_ok, l11 id c0_1 op c0_3 c0_4 c0_5 c0_6 c0_7 c0_8 c0_9 code k0 k1 k2 k3 n M fl (by omega) hz (by omega) hv hn⟩
  · by_cases hn : n < 12
    · exact ⟨_, Clu.tell_ok XL_ok, l00 id c0_1 op c0_3 c0_4 c0_5 c0_6 c0_7 c0_8 c0_9 code c1_0 c1_1 c1_2 c1_3 n M fl (by omega) hz hv hn⟩
    · exact ⟨_, Clu.tell_ok XL_ok, l01 id c0_1 op c0_3 c0_4 c0_5 c0_6 c0_7 c0_8 c0_9 code c1_0 c1_1 c1_2 c1_3 n M fl (by omega) hz hv hn⟩
end Go.Proofs.YtlcggjaogbclkaaDoor.headBack
