/-
  HeadWrites: its run, at whatever arguments.
-/
import Derived.Test.YtlcggjaogbclkaaDoorHeadWritesRb
import Derived.Test.YtlcggjaogbclkaaDoorHeadWritesRc
import Derived.Test.YtlcggjaogbclkaaDoorHeadWritesRd
namespace Go.Proofs.YtlcggjaogbclkaaDoor.headWrites
open Go.RowKit
set_option linter.unusedVariables false
set_option maxRecDepth 100000
theorem run_ok (c0_0 : Int) (i1 : 0 ≤ c0_0) (i2 : c0_0 ≤ 65535) (c0_1 : Bool) (c0_2 : Int) (o1 : 0 ≤ c0_2) (o2 : c0_2 ≤ 255) (c0_3 : Bool) (c0_4 : Bool) (c0_5 : Bool) (c0_6 : Bool) (c0_7 : Bool) (c0_8 : Bool) (c0_9 : Bool) (c0_10 : Int) (d1 : 0 ≤ c0_10) (d2 : c0_10 ≤ 255) (c1_0 : Int) (e0a : -9223372036854775808 ≤ c1_0) (e0b : c1_0 ≤ 9223372036854775807) (c1_1 : Int) (e1a : -9223372036854775808 ≤ c1_1) (e1b : c1_1 ≤ 9223372036854775807) (c1_2 : Int) (e2a : -9223372036854775808 ≤ c1_2) (e2b : c1_2 ≤ 9223372036854775807) (c1_3 : Int) (e3a : -9223372036854775808 ≤ c1_3) (e3b : c1_3 ≤ 9223372036854775807) (a2 : Int) (f1 : 0 ≤ a2) (f2 : a2 ≤ 65535) : ∃ Y, Clu.XOK Tryd.prog Y ∧ (Clu.layK lays .e fun h => Clu.runF Tryd.prog Y 1000 1000 4 [.ag [.i .u16 c0_0, .b c0_1, .i .u8 c0_2, .b c0_3, .b c0_4, .b c0_5, .b c0_6, .b c0_7, .b c0_8, .b c0_9, .i .u8 c0_10], .ag [.i .i64 c1_0, .i .i64 c1_1, .i .i64 c1_2, .i .i64 c1_3], .i .u16 a2] h 1000) = .ok (.b true) := by
  obtain ⟨id, rfl⟩ := Int.eq_ofNat_of_zero_le i1
  obtain ⟨op, rfl⟩ := Int.eq_ofNat_of_zero_le o1
  obtain ⟨code, rfl⟩ := Int.eq_ofNat_of_zero_le d1
  obtain ⟨fl, rfl⟩ := Int.eq_ofNat_of_zero_le f1
  by_cases hop : op ≤ 15
  case neg => exact ⟨_, (Clu.tell_ok (Clu.tell_ok (Clu.tell_ok X0_ok))), p_bigop id op code fl c0_1 c0_3 c0_4 c0_5 c0_6 c0_7 c0_8 c0_9 c1_0 c1_1 c1_2 c1_3 (by omega) (by omega) (by omega)⟩
  by_cases hco : code ≤ 15
  case neg => exact ⟨_, (Clu.tell_ok (Clu.tell_ok (Clu.tell_ok X0_ok))), p_bigcode id op code fl c0_1 c0_3 c0_4 c0_5 c0_6 c0_7 c0_8 c0_9 c1_0 c1_1 c1_2 c1_3 (by omega) (by omega) hop (by omega)⟩
  cases c1_0 with
  | negSucc k => exact ⟨_, (Clu.tell_ok (Clu.tell_ok (Clu.tell_ok (Clu.tell_ok (Clu.tell_ok X0_ok))))), p_neg0 id op code fl c0_1 c0_3 c0_4 c0_5 c0_6 c0_7 c0_8 c0_9  k c1_1 c1_2 c1_3 (by omega) (by omega) hop hco ⟩
  | ofNat c0 =>
  by_cases h0 : c0 ≤ 65535
  case neg => exact ⟨_, (Clu.tell_ok (Clu.tell_ok (Clu.tell_ok (Clu.tell_ok (Clu.tell_ok X0_ok))))), p_big0 id op code fl c0_1 c0_3 c0_4 c0_5 c0_6 c0_7 c0_8 c0_9  c0 c1_1 c1_2 c1_3 (by omega) (by omega) hop hco  (by omega)⟩
  cases c1_1 with
  | negSucc k => exact ⟨_, (Clu.tell_ok (Clu.tell_ok (Clu.tell_ok (Clu.tell_ok (Clu.tell_ok X0_ok))))), p_neg1 id op code fl c0_1 c0_3 c0_4 c0_5 c0_6 c0_7 c0_8 c0_9 c0 k c1_2 c1_3 (by omega) (by omega) hop hco h0⟩
  | ofNat c1 =>
  by_cases h1 : c1 ≤ 65535
  case neg => exact ⟨_, (Clu.tell_ok (Clu.tell_ok (Clu.tell_ok (Clu.tell_ok (Clu.tell_ok X0_ok))))), p_big1 id op code fl c0_1 c0_3 c0_4 c0_5 c0_6 c0_7 c0_8 c0_9 c0 c1 c1_2 c1_3 (by omega) (by omega) hop hco h0 (by omega)⟩
  cases c1_2 with
  | negSucc k => exact ⟨_, (Clu.tell_ok (Clu.tell_ok (Clu.tell_ok (Clu.tell_ok (Clu.tell_ok X0_ok))))), p_neg2 id op code fl c0_1 c0_3 c0_4 c0_5 c0_6 c0_7 c0_8 c0_9 c0 c1 k c1_3 (by omega) (by omega) hop hco h0 h1⟩
  | ofNat c2 =>
  by_cases h2 : c2 ≤ 65535
  case neg => exact ⟨_, (Clu.tell_ok (Clu.tell_ok (Clu.tell_ok (Clu.tell_ok (Clu.tell_ok X0_ok))))), p_big2 id op code fl c0_1 c0_3 c0_4 c0_5 c0_6 c0_7 c0_8 c0_9 c0 c1 c2 c1_3 (by omega) (by omega) hop hco h0 h1 (by omega)⟩
  cases c1_3 with
  | negSucc k => exact ⟨_, (Clu.tell_ok (Clu.tell_ok (Clu.tell_ok (Clu.tell_ok (Clu.tell_ok X0_ok))))), p_neg3 id op code fl c0_1 c0_3 c0_4 c0_5 c0_6 c0_7 c0_8 c0_9 c0 c1 c2 k  (by omega) (by omega) hop hco h0 h1 h2⟩
  | ofNat c3 =>
  by_cases h3 : c3 ≤ 65535
  case neg => exact ⟨_, (Clu.tell_ok (Clu.tell_ok (Clu.tell_ok (Clu.tell_ok (Clu.tell_ok X0_ok))))), p_big3 id op code fl c0_1 c0_3 c0_4 c0_5 c0_6 c0_7 c0_8 c0_9 c0 c1 c2 c3  (by omega) (by omega) hop hco h0 h1 h2 (by omega)⟩
  exact ⟨_, (Clu.tell_ok (Clu.tell_ok (Clu.tell_ok (Clu.tell_ok (Clu.tell_ok X0_ok))))), p_valid id op code fl c0_1 c0_3 c0_4 c0_5 c0_6 c0_7 c0_8 c0_9 c0 c1 c2 c3 (by omega) (by omega) hop hco h0 h1 h2 h3⟩
end Go.Proofs.YtlcggjaogbclkaaDoor.headWrites
