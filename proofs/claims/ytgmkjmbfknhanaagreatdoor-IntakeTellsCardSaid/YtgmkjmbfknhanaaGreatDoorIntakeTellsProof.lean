/-
  For every input hustings/hustingslaw25.IntakeTells returns true, and each argument reads afterwards as it read before; the listed package-level variables start as the program's text lays them (the card ties them).
-/
import Derived.Test.YtgmkjmbfknhanaaGreatDoorIntakeTellsRun
import Derived.Test.YtgmkjmbfknhanaaGreatDoorCards
import Derived.Test.YtgmkjmbfknhanaaGreatDoorTie
import Derived.WalkKit
import Derived.ProofKit
import Derived.OpenShut
import Derived.ShutString
import Derived.ChangeOld
import Derived.Below
import Derived.SliceStrings
import Derived.ChangeSame
import Derived.ChangeVars
import Derived.JoinedOf
import Derived.RowKit
import Derived.RowKitTokens
import Derived.LaidLaws
import Derived.LaidHandle
import Derived.Stop.Joined
import Derived.SevenTiedAt
namespace Go.Proofs.YtgmkjmbfknhanaaGreatDoor.intakeTells
open Go.ChangeShapes Go.WideShapes Go.ChangeAt Go.RowKit
open Go.ChangeMaps (open_string shut_string)
set_option linter.unusedVariables false

theorem walk (c0_0 : Int) (c0_1 : Int) (c0_2 : Int) (c0_3 : Bool) (c0_4 : Int) (c0_5 : Bool) (c0_6 : Bool) (c0_7 : Bool) (c0_8 : Bool) (c0_9 : Bool) (c0_10 : Bool) (c0_11 : Bool) (c0_12 : Int) (c0_13 : Bool) (c0_14 : ByteArray) (c0_15 : Int) (c0_16 : Int) (c0_17 : Bool) (c0_18 : Int) (a1 : Int) (a2 : Int) (a3 : Int) (w : World) (wc0_0 : (Lit.int .u8 c0_0).wf = true) (wc0_1 : (Lit.int .i64 c0_1).wf = true) (wc0_2 : (Lit.int .u16 c0_2).wf = true) (wc0_4 : (Lit.int .u8 c0_4).wf = true) (wc0_12 : (Lit.int .u8 c0_12).wf = true) (wc0_14 : c0_14.size ≤ maxLen) (wc0_15 : (Lit.int .u16 c0_15).wf = true) (wc0_16 : (Lit.int .u16 c0_16).wf = true) (wc0_18 : (Lit.int .i64 c0_18).wf = true) (w1 : (Lit.int .i64 a1).wf = true) (w2 : (Lit.int .i64 a2).wf = true) (w3 : (Lit.int .i64 a3).wf = true) (hL : ∀ g cs, (g, cs) ∈ lays → g < 1000 ∧ Clu.LaidAt w g cs) :
    Calls Tryz.prog 3 #[.agg #[.int .u8 c0_0, .int .i64 c0_1, .int .u16 c0_2, .bool c0_3, .int .u8 c0_4, .bool c0_5, .bool c0_6, .bool c0_7, .bool c0_8, .bool c0_9, .bool c0_10, .bool c0_11, .int .u8 c0_12, .bool c0_13, .string c0_14, .int .u16 c0_15, .int .u16 c0_16, .bool c0_17, .int .i64 c0_18], .int .i64 a1, .int .i64 a2, .int .i64 a3] w fun e w' => e = .returned (.bool true) ∧ Below w.heap.size w w' := by
  have bc0_0 := bounds_u8 wc0_0
  have bc0_1 := bounds_i64 wc0_1
  have bc0_2 := bounds_u16 wc0_2
  have bc0_4 := bounds_u8 wc0_4
  have bc0_12 := bounds_u8 wc0_12
  obtain ⟨Nc0_14, hNc0_14⟩ := Clu.str_of c0_14
  have bc0_15 := bounds_u16 wc0_15
  have bc0_16 := bounds_u16 wc0_16
  have bc0_18 := bounds_i64 wc0_18
  have b1 := bounds_i64 w1
  have b2 := bounds_i64 w2
  have b3 := bounds_i64 w3
  obtain ⟨Y, hY, hk⟩ := run_ok c0_0 bc0_0.1 bc0_0.2 c0_1 bc0_1.1 bc0_1.2 c0_2 bc0_2.1 bc0_2.2 c0_3 c0_4 bc0_4.1 bc0_4.2 c0_5 c0_6 c0_7 c0_8 c0_9 c0_10 c0_11 c0_12 bc0_12.1 bc0_12.2 c0_13 c0_14.size Nc0_14 wc0_14 c0_15 bc0_15.1 bc0_15.2 c0_16 bc0_16.1 bc0_16.2 c0_17 c0_18 bc0_18.1 bc0_18.2 a1 b1.1 b1.2 a2 b2.1 b2.2 a3 b3.1 b3.2
  exact Clu.calls_laidA Clu.plain hY Clu.mixed Tryz.func3 rfl (args := [.ag [.i .u8 c0_0, .i .i64 c0_1, .i .u16 c0_2, .b c0_3, .i .u8 c0_4, .b c0_5, .b c0_6, .b c0_7, .b c0_8, .b c0_9, .b c0_10, .b c0_11, .i .u8 c0_12, .b c0_13, .s c0_14.size Nc0_14, .i .u16 c0_15, .i .u16 c0_16, .b c0_17, .i .i64 c0_18], .i .i64 a1, .i .i64 a2, .i .i64 a3]) (xs := [.agg #[.int .u8 c0_0, .int .i64 c0_1, .int .u16 c0_2, .bool c0_3, .int .u8 c0_4, .bool c0_5, .bool c0_6, .bool c0_7, .bool c0_8, .bool c0_9, .bool c0_10, .bool c0_11, .int .u8 c0_12, .bool c0_13, .string c0_14, .int .u16 c0_15, .int .u16 c0_16, .bool c0_17, .int .i64 c0_18], .int .i64 a1, .int .i64 a2, .int .i64 a3]) ⟨_, _, rfl, ⟨_, rfl, ⟨_, _, rfl, rfl, ⟨_, _, rfl, rfl, ⟨_, _, rfl, rfl, ⟨_, _, rfl, rfl, ⟨_, _, rfl, rfl, ⟨_, _, rfl, rfl, ⟨_, _, rfl, rfl, ⟨_, _, rfl, rfl, ⟨_, _, rfl, rfl, ⟨_, _, rfl, rfl, ⟨_, _, rfl, rfl, ⟨_, _, rfl, rfl, ⟨_, _, rfl, rfl, ⟨_, _, rfl, rfl, ⟨_, _, rfl, hNc0_14 _, ⟨_, _, rfl, rfl, ⟨_, _, rfl, rfl, ⟨_, _, rfl, rfl, ⟨_, _, rfl, rfl, rfl⟩⟩⟩⟩⟩⟩⟩⟩⟩⟩⟩⟩⟩⟩⟩⟩⟩⟩⟩⟩, ⟨_, _, rfl, rfl, ⟨_, _, rfl, rfl, ⟨_, _, rfl, rfl, rfl⟩⟩⟩⟩ hk hL

theorem len_cons {l : List Value} {n : Nat} (h : l.length = n + 1) : ∃ x t, l = x :: t ∧ t.length = n := by
  cases l with
  | nil => cases h
  | cons x t => exact ⟨x, t, rfl, Nat.succ.inj h⟩
set_option linter.unusedSimpArgs false in
set_option maxRecDepth 100000 in
theorem cellsT24 {H : Type} {enc : TypeId × Value → H} {W : World} {fu : Nat} {us : List Value} {x : DataW H × List MemPlace} (hf : DataW.trod enc Tryz.prog W 0 (fun _ => true) true fu 24 us = some x) :
    ∃ (c0 : Int) (c1 : Bool) (c2 : Int) (c3 : Bool) (c4 : Bool) (c5 : Bool) (c6 : Bool) (c7 : Bool) (c8 : Bool) (c9 : Bool) (c10 : Int), us = [.int .u16 c0, .bool c1, .int .u8 c2, .bool c3, .bool c4, .bool c5, .bool c6, .bool c7, .bool c8, .bool c9, .int .u8 c10] ∧ (Lit.int .u16 c0).wf = true ∧ (Lit.int .u8 c2).wf = true ∧ (Lit.int .u8 c10).wf = true := by
  obtain ⟨xs, mm, _, hx, szL, hxl, hfi⟩ := DataW.trod_struct Tryz.underlying24 hf
  rw [show Tryz.prog.cellsOf 24 = 11 by kernel_rfl] at szL
  obtain ⟨u0, ct0, rfl, cl0⟩ := len_cons szL
  obtain ⟨u1, ct1, rfl, cl1⟩ := len_cons cl0
  obtain ⟨u2, ct2, rfl, cl2⟩ := len_cons cl1
  obtain ⟨u3, ct3, rfl, cl3⟩ := len_cons cl2
  obtain ⟨u4, ct4, rfl, cl4⟩ := len_cons cl3
  obtain ⟨u5, ct5, rfl, cl5⟩ := len_cons cl4
  obtain ⟨u6, ct6, rfl, cl6⟩ := len_cons cl5
  obtain ⟨u7, ct7, rfl, cl7⟩ := len_cons cl6
  obtain ⟨u8, ct8, rfl, cl8⟩ := len_cons cl7
  obtain ⟨u9, ct9, rfl, cl9⟩ := len_cons cl8
  obtain ⟨u10, ct10, rfl, cl10⟩ := len_cons cl9
  obtain rfl := List.eq_nil_of_length_eq_zero cl10
  obtain ⟨y0, e0⟩ : ∃ y, xs[0]? = some y := ⟨_, List.getElem?_eq_getElem (by rw [hxl]; decide)⟩
  have g0 : DataW.trod enc Tryz.prog W 0 (fun _ => true) true mm 22 ((List.drop 0 [u0, u1, u2, u3, u4, u5, u6, u7, u8, u9, u10]).take (Tryz.prog.cellsOf 22)) = some y0 := (hfi 0 _ rfl).trans e0
  obtain ⟨y1, e1⟩ : ∃ y, xs[1]? = some y := ⟨_, List.getElem?_eq_getElem (by rw [hxl]; decide)⟩
  have g1 : DataW.trod enc Tryz.prog W 0 (fun _ => true) true mm 4 ((List.drop 1 [u0, u1, u2, u3, u4, u5, u6, u7, u8, u9, u10]).take (Tryz.prog.cellsOf 4)) = some y1 := (hfi 1 _ rfl).trans e1
  obtain ⟨y2, e2⟩ : ∃ y, xs[2]? = some y := ⟨_, List.getElem?_eq_getElem (by rw [hxl]; decide)⟩
  have g2 : DataW.trod enc Tryz.prog W 0 (fun _ => true) true mm 5 ((List.drop 2 [u0, u1, u2, u3, u4, u5, u6, u7, u8, u9, u10]).take (Tryz.prog.cellsOf 5)) = some y2 := (hfi 2 _ rfl).trans e2
  obtain ⟨y3, e3⟩ : ∃ y, xs[3]? = some y := ⟨_, List.getElem?_eq_getElem (by rw [hxl]; decide)⟩
  have g3 : DataW.trod enc Tryz.prog W 0 (fun _ => true) true mm 4 ((List.drop 3 [u0, u1, u2, u3, u4, u5, u6, u7, u8, u9, u10]).take (Tryz.prog.cellsOf 4)) = some y3 := (hfi 3 _ rfl).trans e3
  obtain ⟨y4, e4⟩ : ∃ y, xs[4]? = some y := ⟨_, List.getElem?_eq_getElem (by rw [hxl]; decide)⟩
  have g4 : DataW.trod enc Tryz.prog W 0 (fun _ => true) true mm 4 ((List.drop 4 [u0, u1, u2, u3, u4, u5, u6, u7, u8, u9, u10]).take (Tryz.prog.cellsOf 4)) = some y4 := (hfi 4 _ rfl).trans e4
  obtain ⟨y5, e5⟩ : ∃ y, xs[5]? = some y := ⟨_, List.getElem?_eq_getElem (by rw [hxl]; decide)⟩
  have g5 : DataW.trod enc Tryz.prog W 0 (fun _ => true) true mm 4 ((List.drop 5 [u0, u1, u2, u3, u4, u5, u6, u7, u8, u9, u10]).take (Tryz.prog.cellsOf 4)) = some y5 := (hfi 5 _ rfl).trans e5
  obtain ⟨y6, e6⟩ : ∃ y, xs[6]? = some y := ⟨_, List.getElem?_eq_getElem (by rw [hxl]; decide)⟩
  have g6 : DataW.trod enc Tryz.prog W 0 (fun _ => true) true mm 4 ((List.drop 6 [u0, u1, u2, u3, u4, u5, u6, u7, u8, u9, u10]).take (Tryz.prog.cellsOf 4)) = some y6 := (hfi 6 _ rfl).trans e6
  obtain ⟨y7, e7⟩ : ∃ y, xs[7]? = some y := ⟨_, List.getElem?_eq_getElem (by rw [hxl]; decide)⟩
  have g7 : DataW.trod enc Tryz.prog W 0 (fun _ => true) true mm 4 ((List.drop 7 [u0, u1, u2, u3, u4, u5, u6, u7, u8, u9, u10]).take (Tryz.prog.cellsOf 4)) = some y7 := (hfi 7 _ rfl).trans e7
  obtain ⟨y8, e8⟩ : ∃ y, xs[8]? = some y := ⟨_, List.getElem?_eq_getElem (by rw [hxl]; decide)⟩
  have g8 : DataW.trod enc Tryz.prog W 0 (fun _ => true) true mm 4 ((List.drop 8 [u0, u1, u2, u3, u4, u5, u6, u7, u8, u9, u10]).take (Tryz.prog.cellsOf 4)) = some y8 := (hfi 8 _ rfl).trans e8
  obtain ⟨y9, e9⟩ : ∃ y, xs[9]? = some y := ⟨_, List.getElem?_eq_getElem (by rw [hxl]; decide)⟩
  have g9 : DataW.trod enc Tryz.prog W 0 (fun _ => true) true mm 4 ((List.drop 9 [u0, u1, u2, u3, u4, u5, u6, u7, u8, u9, u10]).take (Tryz.prog.cellsOf 4)) = some y9 := (hfi 9 _ rfl).trans e9
  obtain ⟨y10, e10⟩ : ∃ y, xs[10]? = some y := ⟨_, List.getElem?_eq_getElem (by rw [hxl]; decide)⟩
  have g10 : DataW.trod enc Tryz.prog W 0 (fun _ => true) true mm 5 ((List.drop 10 [u0, u1, u2, u3, u4, u5, u6, u7, u8, u9, u10]).take (Tryz.prog.cellsOf 5)) = some y10 := (hfi 10 _ rfl).trans e10
  rw [show Tryz.prog.cellsOf 22 = 1 by kernel_rfl] at g0
  simp only [List.drop_succ_cons, List.drop_zero, List.take_succ_cons, List.take_zero, Nat.mul_one, Nat.zero_mul, Nat.one_mul] at g0
  obtain ⟨c0, q0, _, w0⟩ := DataW.trod_int Tryz.underlying22 g0
  obtain rfl : u0 = _ := (List.cons.inj q0).1
  rw [show Tryz.prog.cellsOf 4 = 1 by kernel_rfl] at g1
  simp only [List.drop_succ_cons, List.drop_zero, List.take_succ_cons, List.take_zero, Nat.mul_one, Nat.zero_mul, Nat.one_mul] at g1
  obtain ⟨c1, q1, _⟩ := DataW.trod_bool Tryz.underlying4 g1
  obtain rfl : u1 = _ := (List.cons.inj q1).1
  rw [show Tryz.prog.cellsOf 5 = 1 by kernel_rfl] at g2
  simp only [List.drop_succ_cons, List.drop_zero, List.take_succ_cons, List.take_zero, Nat.mul_one, Nat.zero_mul, Nat.one_mul] at g2
  obtain ⟨c2, q2, _, w2⟩ := DataW.trod_int Tryz.underlying5 g2
  obtain rfl : u2 = _ := (List.cons.inj q2).1
  rw [show Tryz.prog.cellsOf 4 = 1 by kernel_rfl] at g3
  simp only [List.drop_succ_cons, List.drop_zero, List.take_succ_cons, List.take_zero, Nat.mul_one, Nat.zero_mul, Nat.one_mul] at g3
  obtain ⟨c3, q3, _⟩ := DataW.trod_bool Tryz.underlying4 g3
  obtain rfl : u3 = _ := (List.cons.inj q3).1
  rw [show Tryz.prog.cellsOf 4 = 1 by kernel_rfl] at g4
  simp only [List.drop_succ_cons, List.drop_zero, List.take_succ_cons, List.take_zero, Nat.mul_one, Nat.zero_mul, Nat.one_mul] at g4
  obtain ⟨c4, q4, _⟩ := DataW.trod_bool Tryz.underlying4 g4
  obtain rfl : u4 = _ := (List.cons.inj q4).1
  rw [show Tryz.prog.cellsOf 4 = 1 by kernel_rfl] at g5
  simp only [List.drop_succ_cons, List.drop_zero, List.take_succ_cons, List.take_zero, Nat.mul_one, Nat.zero_mul, Nat.one_mul] at g5
  obtain ⟨c5, q5, _⟩ := DataW.trod_bool Tryz.underlying4 g5
  obtain rfl : u5 = _ := (List.cons.inj q5).1
  rw [show Tryz.prog.cellsOf 4 = 1 by kernel_rfl] at g6
  simp only [List.drop_succ_cons, List.drop_zero, List.take_succ_cons, List.take_zero, Nat.mul_one, Nat.zero_mul, Nat.one_mul] at g6
  obtain ⟨c6, q6, _⟩ := DataW.trod_bool Tryz.underlying4 g6
  obtain rfl : u6 = _ := (List.cons.inj q6).1
  rw [show Tryz.prog.cellsOf 4 = 1 by kernel_rfl] at g7
  simp only [List.drop_succ_cons, List.drop_zero, List.take_succ_cons, List.take_zero, Nat.mul_one, Nat.zero_mul, Nat.one_mul] at g7
  obtain ⟨c7, q7, _⟩ := DataW.trod_bool Tryz.underlying4 g7
  obtain rfl : u7 = _ := (List.cons.inj q7).1
  rw [show Tryz.prog.cellsOf 4 = 1 by kernel_rfl] at g8
  simp only [List.drop_succ_cons, List.drop_zero, List.take_succ_cons, List.take_zero, Nat.mul_one, Nat.zero_mul, Nat.one_mul] at g8
  obtain ⟨c8, q8, _⟩ := DataW.trod_bool Tryz.underlying4 g8
  obtain rfl : u8 = _ := (List.cons.inj q8).1
  rw [show Tryz.prog.cellsOf 4 = 1 by kernel_rfl] at g9
  simp only [List.drop_succ_cons, List.drop_zero, List.take_succ_cons, List.take_zero, Nat.mul_one, Nat.zero_mul, Nat.one_mul] at g9
  obtain ⟨c9, q9, _⟩ := DataW.trod_bool Tryz.underlying4 g9
  obtain rfl : u9 = _ := (List.cons.inj q9).1
  rw [show Tryz.prog.cellsOf 5 = 1 by kernel_rfl] at g10
  simp only [List.drop_succ_cons, List.drop_zero, List.take_succ_cons, List.take_zero, Nat.mul_one, Nat.zero_mul, Nat.one_mul] at g10
  obtain ⟨c10, q10, _, w10⟩ := DataW.trod_int Tryz.underlying5 g10
  obtain rfl : u10 = _ := (List.cons.inj q10).1
  exact ⟨_, _, _, _, _, _, _, _, _, _, _, rfl, w0, w2, w10⟩

set_option linter.unusedSimpArgs false in
set_option maxRecDepth 100000 in
theorem cellsT26 {H : Type} {enc : TypeId × Value → H} {W : World} {fu : Nat} {us : List Value} {x : DataW H × List MemPlace} (hf : DataW.trod enc Tryz.prog W 0 (fun _ => true) true fu 26 us = some x) :
    ∃ (c0 : ByteArray) (c1 : Int) (c2 : Int), us = [.string c0, .int .u16 c1, .int .u16 c2] ∧ c0.size ≤ maxLen ∧ (Lit.int .u16 c1).wf = true ∧ (Lit.int .u16 c2).wf = true := by
  obtain ⟨xs, mm, _, hx, szL, hxl, hfi⟩ := DataW.trod_struct Tryz.underlying26 hf
  rw [show Tryz.prog.cellsOf 26 = 3 by kernel_rfl] at szL
  obtain ⟨u0, ct0, rfl, cl0⟩ := len_cons szL
  obtain ⟨u1, ct1, rfl, cl1⟩ := len_cons cl0
  obtain ⟨u2, ct2, rfl, cl2⟩ := len_cons cl1
  obtain rfl := List.eq_nil_of_length_eq_zero cl2
  obtain ⟨y0, e0⟩ : ∃ y, xs[0]? = some y := ⟨_, List.getElem?_eq_getElem (by rw [hxl]; decide)⟩
  have g0 : DataW.trod enc Tryz.prog W 0 (fun _ => true) true mm 9 ((List.drop 0 [u0, u1, u2]).take (Tryz.prog.cellsOf 9)) = some y0 := (hfi 0 _ rfl).trans e0
  obtain ⟨y1, e1⟩ : ∃ y, xs[1]? = some y := ⟨_, List.getElem?_eq_getElem (by rw [hxl]; decide)⟩
  have g1 : DataW.trod enc Tryz.prog W 0 (fun _ => true) true mm 22 ((List.drop 1 [u0, u1, u2]).take (Tryz.prog.cellsOf 22)) = some y1 := (hfi 1 _ rfl).trans e1
  obtain ⟨y2, e2⟩ : ∃ y, xs[2]? = some y := ⟨_, List.getElem?_eq_getElem (by rw [hxl]; decide)⟩
  have g2 : DataW.trod enc Tryz.prog W 0 (fun _ => true) true mm 22 ((List.drop 2 [u0, u1, u2]).take (Tryz.prog.cellsOf 22)) = some y2 := (hfi 2 _ rfl).trans e2
  rw [show Tryz.prog.cellsOf 9 = 1 by kernel_rfl] at g0
  simp only [List.drop_succ_cons, List.drop_zero, List.take_succ_cons, List.take_zero, Nat.mul_one, Nat.zero_mul, Nat.one_mul] at g0
  obtain ⟨c0, q0, _, w0⟩ := DataW.trod_string Tryz.underlying9 g0
  obtain rfl : u0 = _ := (List.cons.inj q0).1
  rw [show Tryz.prog.cellsOf 22 = 1 by kernel_rfl] at g1
  simp only [List.drop_succ_cons, List.drop_zero, List.take_succ_cons, List.take_zero, Nat.mul_one, Nat.zero_mul, Nat.one_mul] at g1
  obtain ⟨c1, q1, _, w1⟩ := DataW.trod_int Tryz.underlying22 g1
  obtain rfl : u1 = _ := (List.cons.inj q1).1
  rw [show Tryz.prog.cellsOf 22 = 1 by kernel_rfl] at g2
  simp only [List.drop_succ_cons, List.drop_zero, List.take_succ_cons, List.take_zero, Nat.mul_one, Nat.zero_mul, Nat.one_mul] at g2
  obtain ⟨c2, q2, _, w2⟩ := DataW.trod_int Tryz.underlying22 g2
  obtain rfl : u2 = _ := (List.cons.inj q2).1
  exact ⟨_, _, _, rfl, w0, w1, w2⟩

set_option linter.unusedSimpArgs false in
set_option maxRecDepth 100000 in
theorem cellsT28 {H : Type} {enc : TypeId × Value → H} {W : World} {fu : Nat} {us : List Value} {x : DataW H × List MemPlace} (hf : DataW.trod enc Tryz.prog W 0 (fun _ => true) true fu 28 us = some x) :
    ∃ (c0 : Int) (c1 : Int) (c2 : Int) (c3 : Bool) (c4 : Int) (c5 : Bool) (c6 : Bool) (c7 : Bool) (c8 : Bool) (c9 : Bool) (c10 : Bool) (c11 : Bool) (c12 : Int) (c13 : Bool) (c14 : ByteArray) (c15 : Int) (c16 : Int) (c17 : Bool) (c18 : Int), us = [.int .u8 c0, .int .i64 c1, .int .u16 c2, .bool c3, .int .u8 c4, .bool c5, .bool c6, .bool c7, .bool c8, .bool c9, .bool c10, .bool c11, .int .u8 c12, .bool c13, .string c14, .int .u16 c15, .int .u16 c16, .bool c17, .int .i64 c18] ∧ (Lit.int .u8 c0).wf = true ∧ (Lit.int .i64 c1).wf = true ∧ (Lit.int .u16 c2).wf = true ∧ (Lit.int .u8 c4).wf = true ∧ (Lit.int .u8 c12).wf = true ∧ c14.size ≤ maxLen ∧ (Lit.int .u16 c15).wf = true ∧ (Lit.int .u16 c16).wf = true ∧ (Lit.int .i64 c18).wf = true := by
  obtain ⟨xs, mm, _, hx, szL, hxl, hfi⟩ := DataW.trod_struct Tryz.underlying28 hf
  rw [show Tryz.prog.cellsOf 28 = 19 by kernel_rfl] at szL
  obtain ⟨u0, ct0, rfl, cl0⟩ := len_cons szL
  obtain ⟨u1, ct1, rfl, cl1⟩ := len_cons cl0
  obtain ⟨u2, ct2, rfl, cl2⟩ := len_cons cl1
  obtain ⟨u3, ct3, rfl, cl3⟩ := len_cons cl2
  obtain ⟨u4, ct4, rfl, cl4⟩ := len_cons cl3
  obtain ⟨u5, ct5, rfl, cl5⟩ := len_cons cl4
  obtain ⟨u6, ct6, rfl, cl6⟩ := len_cons cl5
  obtain ⟨u7, ct7, rfl, cl7⟩ := len_cons cl6
  obtain ⟨u8, ct8, rfl, cl8⟩ := len_cons cl7
  obtain ⟨u9, ct9, rfl, cl9⟩ := len_cons cl8
  obtain ⟨u10, ct10, rfl, cl10⟩ := len_cons cl9
  obtain ⟨u11, ct11, rfl, cl11⟩ := len_cons cl10
  obtain ⟨u12, ct12, rfl, cl12⟩ := len_cons cl11
  obtain ⟨u13, ct13, rfl, cl13⟩ := len_cons cl12
  obtain ⟨u14, ct14, rfl, cl14⟩ := len_cons cl13
  obtain ⟨u15, ct15, rfl, cl15⟩ := len_cons cl14
  obtain ⟨u16, ct16, rfl, cl16⟩ := len_cons cl15
  obtain ⟨u17, ct17, rfl, cl17⟩ := len_cons cl16
  obtain ⟨u18, ct18, rfl, cl18⟩ := len_cons cl17
  obtain rfl := List.eq_nil_of_length_eq_zero cl18
  obtain ⟨y0, e0⟩ : ∃ y, xs[0]? = some y := ⟨_, List.getElem?_eq_getElem (by rw [hxl]; decide)⟩
  have g0 : DataW.trod enc Tryz.prog W 0 (fun _ => true) true mm 5 ((List.drop 0 [u0, u1, u2, u3, u4, u5, u6, u7, u8, u9, u10, u11, u12, u13, u14, u15, u16, u17, u18]).take (Tryz.prog.cellsOf 5)) = some y0 := (hfi 0 _ rfl).trans e0
  obtain ⟨y1, e1⟩ : ∃ y, xs[1]? = some y := ⟨_, List.getElem?_eq_getElem (by rw [hxl]; decide)⟩
  have g1 : DataW.trod enc Tryz.prog W 0 (fun _ => true) true mm 3 ((List.drop 1 [u0, u1, u2, u3, u4, u5, u6, u7, u8, u9, u10, u11, u12, u13, u14, u15, u16, u17, u18]).take (Tryz.prog.cellsOf 3)) = some y1 := (hfi 1 _ rfl).trans e1
  obtain ⟨y2, e2⟩ : ∃ y, xs[2]? = some y := ⟨_, List.getElem?_eq_getElem (by rw [hxl]; decide)⟩
  have g2 : DataW.trod enc Tryz.prog W 0 (fun _ => true) true mm 24 ((List.drop 2 [u0, u1, u2, u3, u4, u5, u6, u7, u8, u9, u10, u11, u12, u13, u14, u15, u16, u17, u18]).take (Tryz.prog.cellsOf 24)) = some y2 := (hfi 2 _ rfl).trans e2
  obtain ⟨y3, e3⟩ : ∃ y, xs[3]? = some y := ⟨_, List.getElem?_eq_getElem (by rw [hxl]; decide)⟩
  have g3 : DataW.trod enc Tryz.prog W 0 (fun _ => true) true mm 4 ((List.drop 13 [u0, u1, u2, u3, u4, u5, u6, u7, u8, u9, u10, u11, u12, u13, u14, u15, u16, u17, u18]).take (Tryz.prog.cellsOf 4)) = some y3 := (hfi 3 _ rfl).trans e3
  obtain ⟨y4, e4⟩ : ∃ y, xs[4]? = some y := ⟨_, List.getElem?_eq_getElem (by rw [hxl]; decide)⟩
  have g4 : DataW.trod enc Tryz.prog W 0 (fun _ => true) true mm 26 ((List.drop 14 [u0, u1, u2, u3, u4, u5, u6, u7, u8, u9, u10, u11, u12, u13, u14, u15, u16, u17, u18]).take (Tryz.prog.cellsOf 26)) = some y4 := (hfi 4 _ rfl).trans e4
  obtain ⟨y5, e5⟩ : ∃ y, xs[5]? = some y := ⟨_, List.getElem?_eq_getElem (by rw [hxl]; decide)⟩
  have g5 : DataW.trod enc Tryz.prog W 0 (fun _ => true) true mm 4 ((List.drop 17 [u0, u1, u2, u3, u4, u5, u6, u7, u8, u9, u10, u11, u12, u13, u14, u15, u16, u17, u18]).take (Tryz.prog.cellsOf 4)) = some y5 := (hfi 5 _ rfl).trans e5
  obtain ⟨y6, e6⟩ : ∃ y, xs[6]? = some y := ⟨_, List.getElem?_eq_getElem (by rw [hxl]; decide)⟩
  have g6 : DataW.trod enc Tryz.prog W 0 (fun _ => true) true mm 3 ((List.drop 18 [u0, u1, u2, u3, u4, u5, u6, u7, u8, u9, u10, u11, u12, u13, u14, u15, u16, u17, u18]).take (Tryz.prog.cellsOf 3)) = some y6 := (hfi 6 _ rfl).trans e6
  rw [show Tryz.prog.cellsOf 5 = 1 by kernel_rfl] at g0
  simp only [List.drop_succ_cons, List.drop_zero, List.take_succ_cons, List.take_zero, Nat.mul_one, Nat.zero_mul, Nat.one_mul] at g0
  obtain ⟨c0, q0, _, w0⟩ := DataW.trod_int Tryz.underlying5 g0
  obtain rfl : u0 = _ := (List.cons.inj q0).1
  rw [show Tryz.prog.cellsOf 3 = 1 by kernel_rfl] at g1
  simp only [List.drop_succ_cons, List.drop_zero, List.take_succ_cons, List.take_zero, Nat.mul_one, Nat.zero_mul, Nat.one_mul] at g1
  obtain ⟨c1, q1, _, w1⟩ := DataW.trod_int Tryz.underlying3 g1
  obtain rfl : u1 = _ := (List.cons.inj q1).1
  rw [show Tryz.prog.cellsOf 24 = 11 by kernel_rfl] at g2
  simp only [List.drop_succ_cons, List.drop_zero, List.take_succ_cons, List.take_zero, Nat.mul_one, Nat.zero_mul, Nat.one_mul] at g2
  obtain ⟨c2, c3, c4, c5, c6, c7, c8, c9, c10, c11, c12, q2, w2, w4, w12⟩ := cellsT24 g2
  simp only [List.cons.injEq, and_true] at q2
  obtain ⟨rfl, rfl, rfl, rfl, rfl, rfl, rfl, rfl, rfl, rfl, rfl⟩ := q2
  rw [show Tryz.prog.cellsOf 4 = 1 by kernel_rfl] at g3
  simp only [List.drop_succ_cons, List.drop_zero, List.take_succ_cons, List.take_zero, Nat.mul_one, Nat.zero_mul, Nat.one_mul] at g3
  obtain ⟨c13, q3, _⟩ := DataW.trod_bool Tryz.underlying4 g3
  obtain rfl : u13 = _ := (List.cons.inj q3).1
  rw [show Tryz.prog.cellsOf 26 = 3 by kernel_rfl] at g4
  simp only [List.drop_succ_cons, List.drop_zero, List.take_succ_cons, List.take_zero, Nat.mul_one, Nat.zero_mul, Nat.one_mul] at g4
  obtain ⟨c14, c15, c16, q4, w14, w15, w16⟩ := cellsT26 g4
  simp only [List.cons.injEq, and_true] at q4
  obtain ⟨rfl, rfl, rfl⟩ := q4
  rw [show Tryz.prog.cellsOf 4 = 1 by kernel_rfl] at g5
  simp only [List.drop_succ_cons, List.drop_zero, List.take_succ_cons, List.take_zero, Nat.mul_one, Nat.zero_mul, Nat.one_mul] at g5
  obtain ⟨c17, q5, _⟩ := DataW.trod_bool Tryz.underlying4 g5
  obtain rfl : u17 = _ := (List.cons.inj q5).1
  rw [show Tryz.prog.cellsOf 3 = 1 by kernel_rfl] at g6
  simp only [List.drop_succ_cons, List.drop_zero, List.take_succ_cons, List.take_zero, Nat.mul_one, Nat.zero_mul, Nat.one_mul] at g6
  obtain ⟨c18, q6, _, w18⟩ := DataW.trod_int Tryz.underlying3 g6
  obtain rfl : u18 = _ := (List.cons.inj q6).1
  exact ⟨_, _, _, _, _, _, _, _, _, _, _, _, _, _, _, _, _, _, _, rfl, w0, w1, w2, w4, w12, w14, w15, w16, w18⟩

set_option maxRecDepth 100000 in
theorem flat28 {H : Type} {enc : TypeId × Value → H} {W : World} {base : Nat} {v : Value} {d : DataW H} {p : List MemPlace} (hv : Value.okWide Tryz.prog W .any base 28 v) (ht : DataW.Trod enc Tryz.prog W 0 (fun _ => true) true 28 v d p) :
    ∃ (c0 : Int) (c1 : Int) (c2 : Int) (c3 : Bool) (c4 : Int) (c5 : Bool) (c6 : Bool) (c7 : Bool) (c8 : Bool) (c9 : Bool) (c10 : Bool) (c11 : Bool) (c12 : Int) (c13 : Bool) (c14 : ByteArray) (c15 : Int) (c16 : Int) (c17 : Bool) (c18 : Int), v = .agg #[.int .u8 c0, .int .i64 c1, .int .u16 c2, .bool c3, .int .u8 c4, .bool c5, .bool c6, .bool c7, .bool c8, .bool c9, .bool c10, .bool c11, .int .u8 c12, .bool c13, .string c14, .int .u16 c15, .int .u16 c16, .bool c17, .int .i64 c18] ∧ (Lit.int .u8 c0).wf = true ∧ (Lit.int .i64 c1).wf = true ∧ (Lit.int .u16 c2).wf = true ∧ (Lit.int .u8 c4).wf = true ∧ (Lit.int .u8 c12).wf = true ∧ c14.size ≤ maxLen ∧ (Lit.int .u16 c15).wf = true ∧ (Lit.int .u16 c16).wf = true ∧ (Lit.int .i64 c18).wf = true := by
  obtain ⟨csA, rfl, sz⟩ := okWide_struct Tryz.underlying28 hv
  obtain ⟨csL⟩ := csA
  obtain ⟨fu, hf⟩ := ht
  simp only [Value.cells, List.toList_toArray] at hf
  obtain ⟨c0, c1, c2, c3, c4, c5, c6, c7, c8, c9, c10, c11, c12, c13, c14, c15, c16, c17, c18, rfl, w0, w1, w2, w4, w12, w14, w15, w16, w18⟩ := cellsT28 hf
  exact ⟨_, _, _, _, _, _, _, _, _, _, _, _, _, _, _, _, _, _, _, rfl, w0, w1, w2, w4, w12, w14, w15, w16, w18⟩

theorem weights_nil {H : Type} (P : Program) (ts : List TypeId) : DataW.weightsEach P ts ([] : List (DataW H)) = [] := by cases ts <;> rfl
set_option maxHeartbeats 8000000 in
set_option maxRecDepth 100000 in
theorem lifted (os : Os) (started : os.Started) (H : Type) (enc : TypeId × Value → H) :
    ReturnsInHanded {} Tryz.checked os 3 .any (fun w args => (Rows.intakeTellsSpec.pre enc Tryz.prog Tryz.f3 [] false w args ∧ laidMetH Tryz.prog Rows.intakeTellsRow.laid w) ∧ sizedMet enc Tryz.prog Tryz.f3 (OpenSpec.ofChange Rows.intakeTellsSpec) false w args) (Rows.intakeTellsSpec.post enc Tryz.prog Tryz.f3 false true false false) := by
  refine returnsInHanded_of_change_and (C := Tryz.checked) (X := fun w _ => laidMetH Tryz.prog Rows.intakeTellsRow.laid w) (fun _ _ _ hh h => h.of_heap hh) own started (by kernel_rfl) Tryz.func3
    (ChangeSpec.witness_at (enc := enc) (C := Tryz.checked) (os := os) (X := fun w _ => laidMetH Tryz.prog Rows.intakeTellsRow.laid w) false (laidWorld os) #[.agg #[.int .u8 0, .int .i64 0, .int .u16 0, .bool false, .int .u8 0, .bool false, .bool false, .bool false, .bool false, .bool false, .bool false, .bool false, .int .u8 0, .bool false, .string ByteArray.empty, .int .u16 0, .int .u16 0, .bool false, .int .i64 0], .int .i64 0, .int .i64 0, .int .i64 0] 8 rfl (by kernel_rfl) (by kernel_rfl) (by kernel_rfl) (by kernel_rfl) (by kernel_rfl) (laidWorld_met os _)) ?_
  intro W base args ds gs before hval0 hW _ hsz hLaid _
  have hval : ∀ (j : Nat) t v, Tryz.f3.params[j]? = some t → args[j]? = some v → Value.okWide Tryz.prog W .any base t v := hval0
  have hW' := hW
  obtain ⟨p, q, hA0, hV, rfl, hfz, hnd⟩ := hW
  have hA : DataW.TrodAll enc Tryz.prog W 0 (fun _ => true) true Tryz.f3.params.toList args.toList ds p := hA0
  rw [Tryz.params3] at hA hval
  obtain ⟨v0, vs0, d0, ds0, p0, q0, hargs, rfl, rfl, h0, r0⟩ := trodAll_cons hA
  obtain ⟨v1, vs1, d1, ds1, p1, q1, rfl, rfl, rfl, h1, r1⟩ := trodAll_cons r0
  obtain ⟨v2, vs2, d2, ds2, p2, q2, rfl, rfl, rfl, h2, r2⟩ := trodAll_cons r1
  obtain ⟨v3, vs3, d3, ds3, p3, q3, rfl, rfl, rfl, h3, r3⟩ := trodAll_cons r2
  obtain ⟨rfl, rfl, rfl⟩ := trodAll_nil r3
  obtain rfl : args = #[v0, v1, v2, v3] := by cases args; simp_all
  obtain ⟨rfl, rfl⟩ := trodVars_none hV
  have k0 := h0
  have lt0 : ∀ x ∈ p0, x.block < W.heap.size := by obtain ⟨m, hm⟩ := k0; exact DataW.trod_lt m _ _ _ hm
  obtain ⟨c0_0, c0_1, c0_2, c0_3, c0_4, c0_5, c0_6, c0_7, c0_8, c0_9, c0_10, c0_11, c0_12, c0_13, c0_14, c0_15, c0_16, c0_17, c0_18, rfl, wc0_0, wc0_1, wc0_2, wc0_4, wc0_12, wc0_14, wc0_15, wc0_16, wc0_18⟩ := flat28 (hval 0 28 v0 rfl rfl) h0
  have k1 := h1
  have lt1 : ∀ x ∈ p1, x.block < W.heap.size := by obtain ⟨m, hm⟩ := k1; exact DataW.trod_lt m _ _ _ hm
  obtain ⟨a1, rfl, rfl, rfl, w1⟩ := open_int Tryz.underlying3 (hval 1 3 v1 rfl rfl) h1
  have k2 := h2
  have lt2 : ∀ x ∈ p2, x.block < W.heap.size := by obtain ⟨m, hm⟩ := k2; exact DataW.trod_lt m _ _ _ hm
  obtain ⟨a2, rfl, rfl, rfl, w2⟩ := open_int Tryz.underlying3 (hval 2 3 v2 rfl rfl) h2
  have k3 := h3
  have lt3 : ∀ x ∈ p3, x.block < W.heap.size := by obtain ⟨m, hm⟩ := k3; exact DataW.trod_lt m _ _ _ hm
  obtain ⟨a3, rfl, rfl, rfl, w3⟩ := open_int Tryz.underlying3 (hval 3 3 v3 rfl rfl) h3
  rw [Tryz.params3] at hsz
  clear hA0 hval0
  refine (walk c0_0 c0_1 c0_2 c0_3 c0_4 c0_5 c0_6 c0_7 c0_8 c0_9 c0_10 c0_11 c0_12 c0_13 c0_14 c0_15 c0_16 c0_17 c0_18 a1 a2 a3 W wc0_0 wc0_1 wc0_2 wc0_4 wc0_12 wc0_14 wc0_15 wc0_16 wc0_18 w1 w2 w3 (laid_of hLaid)).mono fun e W' ⟨he, bel⟩ => ?_
  subst he
  exact ⟨_, rfl, _, _, _, [], _, [], hW', trodAll_mk1 (shut_bool Tryz.underlying4 _), (trodAll_cons_mk (Below.trod laidOut (by kernel_rfl) (of_decide_eq_true (by kernel_rfl)) k0 bel lt0) (trodAll_cons_mk (Below.trod laidOut (by kernel_rfl) (of_decide_eq_true (by kernel_rfl)) k1 bel lt1) (trodAll_cons_mk (Below.trod laidOut (by kernel_rfl) (of_decide_eq_true (by kernel_rfl)) k2 bel lt2) (trodAll_cons_mk (Below.trod laidOut (by kernel_rfl) (of_decide_eq_true (by kernel_rfl)) k3 bel lt3) trodAll_mk0)))), rfl, bel.frame _, fun h => by cases h⟩

theorem over : Rows.intakeTellsRow.holds Tryz.pinned (OpenSpec.ofChange Rows.intakeTellsSpec) :=
  OpenClaim.holds_of_wide 3 Tryz.f3 rfl rfl rfl rfl rfl rfl rfl ⟨rfl, rfl, rfl, rfl, rfl⟩ rfl rfl rfl rfl rfl (by kernel_rfl) Tryz.func3 (by kernel_rfl)
    (of_decide_eq_true (by kernel_rfl)) (by unfold Func.isWrapper; first | (rw [if_pos (by decide +kernel)]; kernel_rfl) | (rw [if_neg (by decide +kernel)]; exact ⟨rfl, rfl⟩))
    (fun os started H enc _ => lifted os started H enc)

theorem plainly (f : FuncId) (fn : Func) (hf : Tryz.pinned.checked.prog.funcNamed "hustings/hustingslaw25.IntakeTells" = some f) (hfn : Tryz.pinned.checked.prog.funcs[f]? = some fn) :
    true = Tryz.pinned.checked.prog.looks [] ∧ ∀ (j : Nat) t, fn.params[j]? = some t → Tryz.pinned.checked.prog.wantsStandIn t = false := by
  obtain rfl : f = 3 := Option.some.inj ((show Tryz.prog.funcNamed "hustings/hustingslaw25.IntakeTells" = some 3 by kernel_rfl).symm.trans hf) |>.symm
  obtain rfl : fn = Tryz.f3 := (Option.some.inj (Tryz.func3.symm.trans hfn)).symm
  refine ⟨by kernel_rfl, fun j t ht => ?_⟩
  rw [Tryz.params3] at ht
  have hm := Array.mem_of_getElem? ht
  have hs : ∀ t ∈ #[28, 3, 3, 3], Tryz.prog.wantsStandIn t = false := by
    intro t ht
    simp only [Array.mem_def, List.mem_cons, List.not_mem_nil, or_false] at ht
    rcases ht with rfl | rfl | rfl | rfl
    all_goals kernel_rfl
  exact hs t hm

/-- the card -/
theorem proved : Rows.IntakeTellsCardSaid :=
  Claim7.holds_tied_plain_at .later [] _ _ _ _ over (fun _ h => by cases h) (by kernel_rfl) (fun _ h => by cases h) intakeTells_row_tie rfl ⟨rfl, rfl⟩ (by kernel_rfl) rfl plainly (by kernel_rfl)
#print axioms proved
end Go.Proofs.YtgmkjmbfknhanaaGreatDoor.intakeTells
