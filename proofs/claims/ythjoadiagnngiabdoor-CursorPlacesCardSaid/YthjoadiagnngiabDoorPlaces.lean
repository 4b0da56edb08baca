import Derived.Test.YthjoadiagnngiabDoorStep
namespace Go.Proofs.YthjoadiagnngiabDoor
open Go.RowKit
set_option linter.unusedVariables false

theorem cell_below2 {w w' : World} {ad : Addr} {i : Nat} {u : Value} (hb : Below w.heap.size w w') (hlt : ad.block < w.heap.size) (h : w.cell? (ad.add i) = some u) : w'.cell? (ad.add i) = some u :=
  (hb.cell (p := ad.add i) (by rw [show (ad.add i).block = ad.block from by unfold Addr.add; split <;> rfl]; exact hlt)).trans h
theorem add_next (ad : Addr) (i : Nat) : ad.add (i + 1) = ⟨(ad.add i).block, (ad.add i).off + 1, none⟩ := by
  rw [← Deep.add_add]; rfl
theorem at_quiet {w : World} {p : Nat} {s : ByteArray} {a : Nat} (h : Cur w p s a) (n : Nat) :
    Calls Tryd.prog 12 #[.pointer (some ⟨p, 0, none⟩)] (w.drewN n) fun e w' => e = .returned (.int .i64 (a : Int)) ∧ ∃ m, w' = w.drewN m :=
  (at_ok (h.grown (grown_drewN w n none))).mono fun _ _ h => ⟨h.1, n, h.2.symm⟩
theorem left_quiet {w : World} {p : Nat} {s : ByteArray} {a : Nat} (h : Cur w p s a) (n : Nat) :
    Calls Tryd.prog 14 #[.pointer (some ⟨p, 0, none⟩)] (w.drewN n) fun e w' => e = .returned (.int .i64 ((s.size : Int) - (a : Int))) ∧ ∃ m, w' = w.drewN m :=
  (left_ok (h.grown (grown_drewN w n none))).mono fun _ _ ⟨h1, m, h2⟩ => ⟨h1, n + m, by rw [← h2, World.drewN_drewN]⟩
theorem step_same {s : ByteArray} {a W : Nat} {N n E n' E' : Int} {b b' : Nat} (h : StepIs s a W N n E b) (h' : StepIs s a W N n' E' b') (hE : E = 0) : n' = n ∧ E' = 0 ∧ b' = b := by
  rcases h with ⟨h1, h2, h3, h4, h5⟩ | ⟨h1, h2, h3, h4⟩ | ⟨h1, h2, h3, h4, h5⟩ | ⟨h1, h2, h3, h4, h5⟩ <;> rcases h' with ⟨k1, k2, k3, k4, k5⟩ | ⟨k1, k2, k3, k4⟩ | ⟨k1, k2, k3, k4, k5⟩ | ⟨k1, k2, k3, k4, k5⟩ <;> first | (exfalso; omega) | (exact ⟨by omega, by omega, by omega⟩)

set_option maxRecDepth 4000 in
set_option maxHeartbeats 4000000 in
theorem places_any (s : ByteArray) (a : Option Addr) (len cap : Nat) (w : World) (hr : IsPairs .u8 .i64 w a len) (hg : HG w) :
    Calls Tryd.prog 3 #[.string s, .slice a len cap] w fun e w' => e = .returned (.bool true) ∧ Below w.heap.size w w' := by
  by_cases hbig : s.size > 20000 ∨ len > 300
  · clear hr
    by_cases h1 : (20000 : Int) < (s.size : Int)
    · clear hbig
      go_enter Tryd.func3, Tryd.ntmps3
      go_wp2_with fail
      refine (awake_any _ hg).mono ?_
      rintro e w0 ⟨rfl, b0⟩
      go_wp2
      go_ret
      exact ⟨rfl, b0⟩
    · have h2 : (300 : Int) < (len : Int) := by omega
      clear hbig
      go_enter Tryd.func3, Tryd.ntmps3
      go_wp2_with fail
      refine (awake_any _ hg).mono ?_
      rintro e w0 ⟨rfl, b0⟩
      go_wp2
      go_ret
      exact ⟨rfl, b0⟩
  have g1 : ¬ (20000 : Int) < (s.size : Int) := by omega
  have g2 : ¬ (300 : Int) < (len : Int) := by omega
  have HLEN : Hid (len ≤ 300) := by unfold Hid; omega
  have hs6 : s.size ≤ 1000000 := by omega
  have HR := Lib.hid hr
  clear hbig hr
  go_enter Tryd.func3, Tryd.ntmps3
  go_wp2_with fail
  refine (awake_any _ hg).mono ?_
  rintro e w0 ⟨rfl, b0⟩
  go_wp2_with fail
  refine (new_any s _ hs6 (hg.below b0).lt).mono ?_
  rintro e w1 ⟨p, rfl, hC, hg1, hp1⟩
  have hp := bl_le b0 hp1
  have b1 := bl_none b0 hg1
  clear g1 g2
  go_wp2
  go_loopw [6] (fun i wr => ∃ k x : Nat, k ≤ len ∧ i = .int .i64 k ∧ Cur wr p s x ∧ Below w.heap.size w wr) (fun i _ => len - (intOf i).toNat)
  case atStart => exact ⟨0, 0, Nat.zero_le _, rfl, hC, b1⟩
  case round =>
    obtain ⟨k, x, hk, rfl, hC, hbl⟩ := hrel
    by_cases hlt : k < len
    · obtain ⟨ad, n0, n1, rfl, hblk, hc0, hc1, hw0, hw1⟩ := HR.out k hlt
      have c0 := cell_below2 hbl hblk hc0
      have c1 := cell_below2 hbl hblk hc1
      rw [add_next] at c1
      have hL6 := HLEN.out
      have b1 : (k : Int) < (len : Int) := by omega
      have hkb : k < 300 := by omega
      have HC : Hid (∀ W, Below w.heap.size w W → W.cell? (ad.add (k * 2)) = some (.int .u8 n0) ∧ W.cell? ⟨(ad.add (k * 2)).block, (ad.add (k * 2)).off + 1, none⟩ = some (.int .i64 n1)) := fun W hW =>
        ⟨cell_below2 hW hblk hc0, by have := cell_below2 hW hblk hc1; rwa [add_next] at this⟩
      clear hc0 hc1 hblk hL6
      obtain ⟨N0, rfl⟩ : ∃ N0 : Nat, n0 = (N0 : Int) := by
        have hmin : IntKind.u8.min = 0 := rfl
        simp only [Lit.wf, Bool.and_eq_true, decide_eq_true_eq] at hw0
        exact ⟨n0.toNat, by omega⟩
      clear hw0 hw1
      go_wp2_with fail
      refine (at_ok hC).mono ?_
      rintro e w2 ⟨rfl, rfl⟩
      go_wp2_with fail
      refine (step_any w _ p s x N0 n1 hC hg hbl hp).mono ?_
      rintro e w2 ⟨n, E, b, rfl, hC2, hb2, r2⟩
      obtain ⟨c0, c1⟩ := HC.out w2 hb2
      have hx : x ≤ s.size := hC.2.1
      have hz : b ≤ s.size := hC2.2.1
      have q4 : IntKind.i64.wrap ((b : Int) + ((s.size : Int) - (b : Int))) = (s.size : Int) := by rw [IntWalk.i64_in _ ⟨by omega, by omega⟩]; omega
      clear hC hbl
      rcases r2.out with ⟨h1, h2, rfl, h4, h5⟩ | ⟨h1, h2, h3, rfl⟩ | ⟨h1, h2, rfl, rfl, h5⟩ | ⟨h1, h2, rfl, rfl, rfl⟩
      · have q1 : decide ((N0 : Int) < 4) = true := by simp; omega
        have q2 : decide ((4 : Int) ≤ (N0 : Int)) = false := by simp; omega
        have q5 : decide ((3 : Int) < (N0 : Int)) = false := by simp; omega
        have q3 : IntKind.i64.wrap ((x : Int) + n) = (b : Int) := by rw [IntWalk.i64_in _ ⟨by omega, by omega⟩]; omega
        clear h5 h2 h4 h1
        go_wp2
        go_quiet (first | (go_at_call 12; exact at_quiet hC2 _) | (go_at_call 14; exact left_quiet hC2 _))
        have hC3 := hC2.grown (grown_drewN w2 nq none)
        have hb3 := bl_drewN hb2 nq
        obtain ⟨c0, c1⟩ := HC.out _ hb3
        clear hC2 hb2
        generalize w2.drewN nq = w3 at hC3 hb3 c0 c1 ⊢
        go_wp2_with fail
        refine (seek_ok x hC3 hx).mono ?_
        rintro e w4 ⟨rfl, hC4, hg4⟩
        have hb4 := bl_some hb3 hg4 hp
        obtain ⟨c0, c1⟩ := HC.out w4 hb4
        clear hC3 hb3 q3
        go_wp2_with fail
        refine (step_any w _ p s x N0 n1 hC4 hg hb4 hp).mono ?_
        rintro e w5 ⟨n', E', b', rfl, hC5, hb5, r5⟩
        obtain ⟨rfl, rfl, rfl⟩ := step_same r2.out r5.out rfl
        go_wp2
        go_roundw
        case rel => exact ⟨k + 1, _, by omega, by go_num, hC5, hb5⟩
        case measure => simp [intOf]; omega
      · have q1 : decide ((N0 : Int) < 4) = true := by simp; omega
        have q2 : decide ((4 : Int) ≤ (N0 : Int)) = false := by simp; omega
        have q5 : decide ((3 : Int) < (N0 : Int)) = false := by simp; omega
        have qe : (E != 0) = true := by rcases h3 with rfl | rfl <;> rfl
        have qf : (E == 0) = false := by rcases h3 with rfl | rfl <;> rfl
        have q3 : IntKind.i64.wrap ((b : Int)) = (b : Int) := by rw [IntWalk.i64_in _ ⟨by omega, by omega⟩]
        clear h2 h3 h1
        go_wp2
        go_quiet (first | (go_at_call 12; exact at_quiet hC2 _) | (go_at_call 14; exact left_quiet hC2 _))
        have hC3 := hC2.grown (grown_drewN w2 nq none)
        have hb3 := bl_drewN hb2 nq
        obtain ⟨c0, c1⟩ := HC.out _ hb3
        clear hC2 hb2
        generalize w2.drewN nq = w3 at hC3 hb3 c0 c1 ⊢
        go_wp2
        go_roundw
        case rel => exact ⟨k + 1, _, by omega, by go_num, hC3, hb3⟩
        case measure => simp [intOf]; omega
      · have q1 : decide ((N0 : Int) < 4) = false := by simp; omega
        have q2 : decide ((4 : Int) ≤ (N0 : Int)) = true := by simp; omega
        have q5 : decide ((3 : Int) < (N0 : Int)) = true := by simp; omega
        obtain rfl : n1 = (b : Int) := h5.symm
        clear h2 h1
        go_wp2
        go_quiet (first | (go_at_call 12; exact at_quiet hC2 _) | (go_at_call 14; exact left_quiet hC2 _))
        have hC3 := hC2.grown (grown_drewN w2 nq none)
        have hb3 := bl_drewN hb2 nq
        obtain ⟨c0, c1⟩ := HC.out _ hb3
        clear hC2 hb2
        generalize w2.drewN nq = w3 at hC3 hb3 c0 c1 ⊢
        go_wp2
        go_roundw
        case rel => exact ⟨k + 1, _, by omega, by go_num, hC3, hb3⟩
        case measure => simp [intOf]; omega
      · have q1 : decide ((N0 : Int) < 4) = false := by simp; omega
        have q2 : decide ((4 : Int) ≤ (N0 : Int)) = true := by simp; omega
        have q5 : decide ((3 : Int) < (N0 : Int)) = true := by simp; omega
        clear h2 h1
        go_wp2
        go_quiet (first | (go_at_call 12; exact at_quiet hC2 _) | (go_at_call 14; exact left_quiet hC2 _))
        have hC3 := hC2.grown (grown_drewN w2 nq none)
        have hb3 := bl_drewN hb2 nq
        obtain ⟨c0, c1⟩ := HC.out _ hb3
        clear hC2 hb2
        generalize w2.drewN nq = w3 at hC3 hb3 c0 c1 ⊢
        go_wp2
        go_roundw
        case rel => exact ⟨k + 1, _, by omega, by go_num, hC3, hb3⟩
        case measure => simp [intOf]; omega
    · obtain rfl : k = len := by omega
      go_wp2
      go_ret
      exact ⟨rfl, hbl⟩
end Go.Proofs.YthjoadiagnngiabDoor
