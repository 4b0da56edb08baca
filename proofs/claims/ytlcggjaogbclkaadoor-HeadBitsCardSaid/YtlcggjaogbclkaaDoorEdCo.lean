/-
  edns.Code, edns.Split: what their runs come to; EdnsCodes.
-/
import Derived.Test.YtlcggjaogbclkaaDoorCloSym
import Derived.Test.YtlcggjaogbclkaaDoorCloErr
namespace Go.Proofs.YtlcggjaogbclkaaDoor
namespace Clo
open Go.RowKit
set_option linter.unusedVariables false
set_option maxRecDepth 10000
set_option maxHeartbeats 4000000
variable {X : XT}
theorem modN_nonneg (x : Int) (m : Nat) (h0 : 0 ≤ x) : modN x m = x.toNat % m := by
  cases x with
  | ofNat a => rfl
  | negSucc a => omega
theorem wrap_u8_id (x : Int) (h0 : 0 ≤ x) (h1 : x < 256) : IntKind.u8.wrap x = x := by rw [IntKind.wrap_u8]; omega
theorem wrap_u16_id (x : Int) (h0 : 0 ≤ x) (h1 : x < 65536) : IntKind.u16.wrap x = x := by rw [IntKind.wrap_u16]; omega
theorem wrap_u32_id (x : Int) (h0 : 0 ≤ x) (h1 : x < 4294967296) : IntKind.u32.wrap x = x := by rw [IntKind.wrap_u32]; omega
theorem wrap_u64_id (x : Int) (h0 : 0 ≤ x) (h1 : x < 18446744073709551616) : IntKind.u64.wrap x = x := by rw [IntKind.wrap_u64]; omega
theorem wrap_i64_id (x : Int) (h0 : -9223372036854775808 ≤ x) (h1 : x < 9223372036854775808) : IntKind.i64.wrap x = x := by rw [IntKind.wrap_i64]; omega
theorem land15 (a : Nat) : a &&& 15 = a % 16 := Nat.and_two_pow_sub_one_eq_mod a 4
theorem and15_u8 (x : Int) (h0 : 0 ≤ x) (h1 : x < 256) : bAnd .u8 x 15 = x % 16 := by
  have e : (modN x (fullN .u8)) = x.toNat := by rw [modN_nonneg x _ h0]; exact Nat.mod_eq_of_lt (by show x.toNat < 256; omega)
  unfold bAnd
  rw [e, show modN 15 (fullN .u8) = 15 from rfl, land15, wrap_u8_id _ (by omega) (by omega)]
  omega
theorem and15_i64 (x : Int) (h0 : 0 ≤ x) (h1 : x < 4096) : bAnd .i64 x 15 = x % 16 := by
  have e : (modN x (fullN .i64)) = x.toNat := by rw [modN_nonneg x _ h0]; exact Nat.mod_eq_of_lt (by show x.toNat < 18446744073709551616; omega)
  unfold bAnd
  rw [e, show modN 15 (fullN .i64) = 15 from rfl, land15, wrap_i64_id _ (by omega) (by omega)]
  omega
theorem or_i64 (x y : Int) (hx : 0 ≤ x) (hx1 : x < 256) (hy : 0 ≤ y) (hy1 : y < 16) : bOr .i64 (x * 16) y = x * 16 + y := by
  have e1 : (modN (x * 16) (fullN .i64)) = 2 ^ 4 * x.toNat := by rw [modN_nonneg _ _ (by omega)]; rw [Nat.mod_eq_of_lt (by show _ < 18446744073709551616; omega)]; omega
  have e2 : (modN y (fullN .i64)) = y.toNat := by rw [modN_nonneg _ _ hy]; exact Nat.mod_eq_of_lt (by show _ < 18446744073709551616; omega)
  unfold bOr
  rw [e1, e2, ← Nat.two_pow_add_eq_or_of_lt (by omega : y.toNat < 2 ^ 4), wrap_i64_id _ (by omega) (by omega)]
  omega
theorem z_and15 (x : Int) (h0 : 0 ≤ x) (h1 : x < 256) (k : KO) : iiF .and .u8 x .u8 15 k = k (.i .u8 (x % 16)) := by rw [z_and, and15_u8 x h0 h1]

theorem code_cl (hX : X 35 = none) (c x : Int) (hc : 0 ≤ c) (hc1 : c < 256) (hx : 0 ≤ x) (hx1 : x < 256) (lim : Nat) (h : T) (nx : Nat) : Cl Tryd.prog X lim 35 [.i .u8 c, .i .u8 x] h nx (.i .i64 (x * 16 + c % 16)) h nx := by
  apply Cl.eq
  case a =>
    apply Cl.body (m := 2) hX Tryd.func35 rfl (fun _ => rfl) rfl
    case hc =>
      repeat' (first
        | exact Ev.ret
        | apply Ev.loop_out
        | exact Ev.skip
        | exact Ev.exit
        | exact Ev.label
        | exact Ex.exi_ne
        | exact Ex.ret_ne
        | exact Ex.got_ne
        | exact Or.inl ⟨Ex.exi_ne, rfl, rfl, rfl, rfl⟩
        | exact Or.inl ⟨Ex.ret_ne, rfl, rfl, rfl, rfl⟩
        | exact Or.inl ⟨Ex.got_ne, rfl, rfl, rfl, rfl⟩
        | refine Or.inr ⟨rfl, ?_⟩
        | exact Or.inl ⟨rfl, rfl⟩
        | exact Or.inr ⟨Ex.nor_other, rfl⟩
        | exact Or.inr ⟨Ex.ret_other, rfl⟩
        | exact Or.inr ⟨Ex.exi_other rfl, rfl⟩
        | exact Or.inr ⟨Ex.got_other, rfl⟩
        | apply Ev.region rfl
        | apply Ev.seq2
        | apply Ev.block3
        | apply Ev.cond_t (fun _ => rfl) (by first | rfl | assumption | (simp [*]; done) | (simp; omega))
        | apply Ev.cond_f (fun _ => rfl) (by first | rfl | assumption | (simp [*]; done) | (simp; omega))
        | exact Sq.nil
        | exact Dr.nil
        | apply Sq.op (by first | rfl | (show (_ == _ : Bool) = true; first | rfl | (simp [*]; done) | (simp; omega))) (conv_int Tryd.underlying5 Tryd.underlying3 (fun _ => rfl)) (fun _ => rfl)
        | apply Sq.op (by first | rfl | (show (_ == _ : Bool) = true; first | rfl | (simp [*]; done) | (simp; omega))) (Op1.load (fun _ => rfl) (by first | assumption | exact Tr.get_same _ _ _ | (rw [Tr.get_ne _ _ (by omega)]; first | assumption | exact Tr.get_same _ _ _ | (rw [Tr.get_ne _ _ (by omega)]; first | assumption | exact Tr.get_same _ _ _ | (rw [Tr.get_ne _ _ (by omega)]; first | assumption | exact Tr.get_same _ _ _ | (rw [Tr.get_ne _ _ (by omega)]; first | assumption | exact Tr.get_same _ _ _))))) (by exact fun _ => rfl)) (fun _ => rfl)
        | apply Sq.op (by first | rfl | (show (_ == _ : Bool) = true; first | rfl | (simp [*]; done) | (simp; omega))) (Op1.store (fun _ => rfl) (fun _ => rfl) (fun _ => rfl) rfl (by exact Nat.succ_pos _) (by omega) rfl (by first | assumption | exact Tr.get_same _ _ _ | (rw [Tr.get_ne _ _ (by omega)]; first | assumption | exact Tr.get_same _ _ _ | (rw [Tr.get_ne _ _ (by omega)]; first | assumption | exact Tr.get_same _ _ _ | (rw [Tr.get_ne _ _ (by omega)]; first | assumption | exact Tr.get_same _ _ _ | (rw [Tr.get_ne _ _ (by omega)]; first | assumption | exact Tr.get_same _ _ _))))) (by first | decide | omega) (by exact fun _ => rfl)) (fun _ => rfl)
        | apply Sq.op (by first | rfl | (show (_ == _ : Bool) = true; first | rfl | (simp [*]; done) | (simp; omega))) (Op1.alloc (fun _ => rfl)) (fun _ => rfl)
        | apply Sq.op (by first | rfl | (show (_ == _ : Bool) = true; first | rfl | (simp [*]; done) | (simp; omega))) (Op1.box (fun _ => rfl)) (fun _ => rfl)
        | apply Sq.out (by first | rfl | (show (_ == _ : Bool) = false; first | rfl | (simp [*]; done) | (simp; omega))) (fun _ => rfl)
        | apply Sq.op (by first | rfl | (show (_ == _ : Bool) = true; first | rfl | (simp [*]; done) | (simp; omega))) Op1.move_c (fun _ => rfl)
        | apply Sq.op (by first | rfl | (show (_ == _ : Bool) = true; first | rfl | (simp [*]; done) | (simp; omega))) Op1.assign_c (fun _ => rfl)
        | apply Sq.op (by first | rfl | (show (_ == _ : Bool) = true; first | rfl | (simp [*]; done) | (simp; omega))) (bin_add (by first | exact c_int | exact fun _ => rfl) (by first | exact c_int | exact fun _ => rfl)) (fun _ => rfl)
        | apply Sq.op (by first | rfl | (show (_ == _ : Bool) = true; first | rfl | (simp [*]; done) | (simp; omega))) (bin_sub (by first | exact c_int | exact fun _ => rfl) (by first | exact c_int | exact fun _ => rfl)) (fun _ => rfl)
        | apply Sq.op (by first | rfl | (show (_ == _ : Bool) = true; first | rfl | (simp [*]; done) | (simp; omega))) (bin_mul (by first | exact c_int | exact fun _ => rfl) (by first | exact c_int | exact fun _ => rfl)) (fun _ => rfl)
        | apply Sq.op (by first | rfl | (show (_ == _ : Bool) = true; first | rfl | (simp [*]; done) | (simp; omega))) (bin_and (by first | exact c_int | exact fun _ => rfl) (by first | exact c_int | exact fun _ => rfl)) (fun _ => rfl)
        | apply Sq.op (by first | rfl | (show (_ == _ : Bool) = true; first | rfl | (simp [*]; done) | (simp; omega))) (bin_or (by first | exact c_int | exact fun _ => rfl) (by first | exact c_int | exact fun _ => rfl)) (fun _ => rfl)
        | apply Sq.op (by first | rfl | (show (_ == _ : Bool) = true; first | rfl | (simp [*]; done) | (simp; omega))) (bin_xor (by first | exact c_int | exact fun _ => rfl) (by first | exact c_int | exact fun _ => rfl)) (fun _ => rfl)
        | apply Sq.op (by first | rfl | (show (_ == _ : Bool) = true; first | rfl | (simp [*]; done) | (simp; omega))) (bin_eql (by first | exact c_int | exact fun _ => rfl) (by first | exact c_int | exact fun _ => rfl)) (fun _ => rfl)
        | apply Sq.op (by first | rfl | (show (_ == _ : Bool) = true; first | rfl | (simp [*]; done) | (simp; omega))) (bin_neq (by first | exact c_int | exact fun _ => rfl) (by first | exact c_int | exact fun _ => rfl)) (fun _ => rfl)
        | apply Sq.op (by first | rfl | (show (_ == _ : Bool) = true; first | rfl | (simp [*]; done) | (simp; omega))) (bin_lss (by first | exact c_int | exact fun _ => rfl) (by first | exact c_int | exact fun _ => rfl)) (fun _ => rfl)
        | apply Sq.op (by first | rfl | (show (_ == _ : Bool) = true; first | rfl | (simp [*]; done) | (simp; omega))) (bin_gtr (by first | exact c_int | exact fun _ => rfl) (by first | exact c_int | exact fun _ => rfl)) (fun _ => rfl)
        | apply Sq.op (by first | rfl | (show (_ == _ : Bool) = true; first | rfl | (simp [*]; done) | (simp; omega))) (bin_leq (by first | exact c_int | exact fun _ => rfl) (by first | exact c_int | exact fun _ => rfl)) (fun _ => rfl)
        | apply Sq.op (by first | rfl | (show (_ == _ : Bool) = true; first | rfl | (simp [*]; done) | (simp; omega))) (bin_geq (by first | exact c_int | exact fun _ => rfl) (by first | exact c_int | exact fun _ => rfl)) (fun _ => rfl)
        | apply Sq.op (by first | rfl | (show (_ == _ : Bool) = true; first | rfl | (simp [*]; done) | (simp; omega))) (bin_quo (by first | exact c_int | exact fun _ => rfl) (by first | exact c_int | exact fun _ => rfl) (by decide)) (fun _ => rfl)
        | apply Sq.op (by first | rfl | (show (_ == _ : Bool) = true; first | rfl | (simp [*]; done) | (simp; omega))) (bin_rem (by first | exact c_int | exact fun _ => rfl) (by first | exact c_int | exact fun _ => rfl) (by decide)) (fun _ => rfl)
        | apply Sq.op (by first | rfl | (show (_ == _ : Bool) = true; first | rfl | (simp [*]; done) | (simp; omega))) (bin_shl (by first | exact c_int | exact fun _ => rfl) (by first | exact c_int | exact fun _ => rfl) (by decide)) (fun _ => rfl)
        | apply Sq.op (by first | rfl | (show (_ == _ : Bool) = true; first | rfl | (simp [*]; done) | (simp; omega))) (bin_shr (by first | exact c_int | exact fun _ => rfl) (by first | exact c_int | exact fun _ => rfl) (by decide)) (fun _ => rfl)
        | apply Sq.op (by first | rfl | (show (_ == _ : Bool) = true; first | rfl | (simp [*]; done) | (simp; omega))) (str_eql (by first | exact c_int | exact fun _ => rfl) (by first | exact c_int | exact fun _ => rfl)) (fun _ => rfl)
        | apply Sq.op (by first | rfl | (show (_ == _ : Bool) = true; first | rfl | (simp [*]; done) | (simp; omega))) (str_neq (by first | exact c_int | exact fun _ => rfl) (by first | exact c_int | exact fun _ => rfl)) (fun _ => rfl)
        | apply Sq.op (by first | rfl | (show (_ == _ : Bool) = true; first | rfl | (simp [*]; done) | (simp; omega))) (Op1.pure fun _ _ => rfl) (fun _ => rfl)
        | apply Sq.op (by first | rfl | (show (_ == _ : Bool) = true; first | rfl | (simp [*]; done) | (simp; omega))) (un_not (fun _ => rfl)) (fun _ => rfl)
        | apply Sq.op (by first | rfl | (show (_ == _ : Bool) = true; first | rfl | (simp [*]; done) | (simp; omega))) (Op1.pick_t (fun _ => rfl) (by first | rfl | assumption | (simp [*]; done) | (simp; omega)) (fun _ => rfl)) (fun _ => rfl)
        | apply Sq.op (by first | rfl | (show (_ == _ : Bool) = true; first | rfl | (simp [*]; done) | (simp; omega))) (Op1.pick_f (fun _ => rfl) (by first | rfl | assumption | (simp [*]; done) | (simp; omega)) (fun _ => rfl)) (fun _ => rfl))
    case he => exact .inr rfl
    case hr => exact fun _ => rfl
    case ho => exact fun _ => rfl
  case hv =>
    have e2 : (2 : Int) ^ (min (Int.toNat 4) (IntKind.bits .i64)) = 16 := rfl
    rw [and15_u8 c hc hc1, wrap_i64_id x (by omega) (by omega), wrap_i64_id (c % 16) (by omega) (by omega), e2, wrap_i64_id (x * 16) (by omega) (by omega)]
    congr 1
    exact or_i64 x _ hx hx1 (by omega) (by omega)
theorem split_cl (hX : X 32 = none) (n : Int) (h0 : 0 ≤ n) (h1 : n < 4096) (lim : Nat) (h : T) (nx : Nat) : Cl Tryd.prog X lim 32 [.i .i64 n] h nx (.tu [.i .u8 (n % 16), .i .u8 (n / 16), .i .i64 0]) h nx := by
  have c1 : decide (n < 0) = false := by simp; omega
  have c2 : decide (4095 < n) = false := by simp; omega
  apply Cl.eq
  case a =>
    apply Cl.body (m := 1) hX Tryd.func32 rfl (fun _ => rfl) rfl
    case hc =>
      repeat' (first
        | exact Ev.ret
        | apply Ev.loop_out
        | exact Ev.skip
        | exact Ev.exit
        | exact Ev.label
        | exact Ex.exi_ne
        | exact Ex.ret_ne
        | exact Ex.got_ne
        | exact Or.inl ⟨Ex.exi_ne, rfl, rfl, rfl, rfl⟩
        | exact Or.inl ⟨Ex.ret_ne, rfl, rfl, rfl, rfl⟩
        | exact Or.inl ⟨Ex.got_ne, rfl, rfl, rfl, rfl⟩
        | refine Or.inr ⟨rfl, ?_⟩
        | exact Or.inl ⟨rfl, rfl⟩
        | exact Or.inr ⟨Ex.nor_other, rfl⟩
        | exact Or.inr ⟨Ex.ret_other, rfl⟩
        | exact Or.inr ⟨Ex.exi_other rfl, rfl⟩
        | exact Or.inr ⟨Ex.got_other, rfl⟩
        | apply Ev.region rfl
        | apply Ev.seq2
        | apply Ev.block3
        | apply Ev.cond_t (fun _ => rfl) (by first | rfl | assumption | (simp [*]; done) | (simp; omega))
        | apply Ev.cond_f (fun _ => rfl) (by first | rfl | assumption | (simp [*]; done) | (simp; omega))
        | exact Sq.nil
        | exact Dr.nil
        | apply Sq.op (by first | rfl | (show (_ == _ : Bool) = true; first | rfl | (simp [*]; done) | (simp; omega))) (conv_int Tryd.underlying3 Tryd.underlying5 (fun _ => rfl)) (fun _ => rfl)
        | apply Sq.op (by first | rfl | (show (_ == _ : Bool) = true; first | rfl | (simp [*]; done) | (simp; omega))) (Op1.load (fun _ => rfl) (by first | assumption | exact Tr.get_same _ _ _ | (rw [Tr.get_ne _ _ (by omega)]; first | assumption | exact Tr.get_same _ _ _ | (rw [Tr.get_ne _ _ (by omega)]; first | assumption | exact Tr.get_same _ _ _ | (rw [Tr.get_ne _ _ (by omega)]; first | assumption | exact Tr.get_same _ _ _ | (rw [Tr.get_ne _ _ (by omega)]; first | assumption | exact Tr.get_same _ _ _))))) (by exact fun _ => rfl)) (fun _ => rfl)
        | apply Sq.op (by first | rfl | (show (_ == _ : Bool) = true; first | rfl | (simp [*]; done) | (simp; omega))) (Op1.store (fun _ => rfl) (fun _ => rfl) (fun _ => rfl) rfl (by exact Nat.succ_pos _) (by omega) rfl (by first | assumption | exact Tr.get_same _ _ _ | (rw [Tr.get_ne _ _ (by omega)]; first | assumption | exact Tr.get_same _ _ _ | (rw [Tr.get_ne _ _ (by omega)]; first | assumption | exact Tr.get_same _ _ _ | (rw [Tr.get_ne _ _ (by omega)]; first | assumption | exact Tr.get_same _ _ _ | (rw [Tr.get_ne _ _ (by omega)]; first | assumption | exact Tr.get_same _ _ _))))) (by first | decide | omega) (by exact fun _ => rfl)) (fun _ => rfl)
        | apply Sq.op (by first | rfl | (show (_ == _ : Bool) = true; first | rfl | (simp [*]; done) | (simp; omega))) (Op1.alloc (fun _ => rfl)) (fun _ => rfl)
        | apply Sq.op (by first | rfl | (show (_ == _ : Bool) = true; first | rfl | (simp [*]; done) | (simp; omega))) (Op1.box (fun _ => rfl)) (fun _ => rfl)
        | apply Sq.out (by first | rfl | (show (_ == _ : Bool) = false; first | rfl | (simp [*]; done) | (simp; omega))) (fun _ => rfl)
        | apply Sq.op (by first | rfl | (show (_ == _ : Bool) = true; first | rfl | (simp [*]; done) | (simp; omega))) Op1.move_c (fun _ => rfl)
        | apply Sq.op (by first | rfl | (show (_ == _ : Bool) = true; first | rfl | (simp [*]; done) | (simp; omega))) Op1.assign_c (fun _ => rfl)
        | apply Sq.op (by first | rfl | (show (_ == _ : Bool) = true; first | rfl | (simp [*]; done) | (simp; omega))) (bin_add (by first | exact c_int | exact fun _ => rfl) (by first | exact c_int | exact fun _ => rfl)) (fun _ => rfl)
        | apply Sq.op (by first | rfl | (show (_ == _ : Bool) = true; first | rfl | (simp [*]; done) | (simp; omega))) (bin_sub (by first | exact c_int | exact fun _ => rfl) (by first | exact c_int | exact fun _ => rfl)) (fun _ => rfl)
        | apply Sq.op (by first | rfl | (show (_ == _ : Bool) = true; first | rfl | (simp [*]; done) | (simp; omega))) (bin_mul (by first | exact c_int | exact fun _ => rfl) (by first | exact c_int | exact fun _ => rfl)) (fun _ => rfl)
        | apply Sq.op (by first | rfl | (show (_ == _ : Bool) = true; first | rfl | (simp [*]; done) | (simp; omega))) (bin_and (by first | exact c_int | exact fun _ => rfl) (by first | exact c_int | exact fun _ => rfl)) (fun _ => rfl)
        | apply Sq.op (by first | rfl | (show (_ == _ : Bool) = true; first | rfl | (simp [*]; done) | (simp; omega))) (bin_or (by first | exact c_int | exact fun _ => rfl) (by first | exact c_int | exact fun _ => rfl)) (fun _ => rfl)
        | apply Sq.op (by first | rfl | (show (_ == _ : Bool) = true; first | rfl | (simp [*]; done) | (simp; omega))) (bin_xor (by first | exact c_int | exact fun _ => rfl) (by first | exact c_int | exact fun _ => rfl)) (fun _ => rfl)
        | apply Sq.op (by first | rfl | (show (_ == _ : Bool) = true; first | rfl | (simp [*]; done) | (simp; omega))) (bin_eql (by first | exact c_int | exact fun _ => rfl) (by first | exact c_int | exact fun _ => rfl)) (fun _ => rfl)
        | apply Sq.op (by first | rfl | (show (_ == _ : Bool) = true; first | rfl | (simp [*]; done) | (simp; omega))) (bin_neq (by first | exact c_int | exact fun _ => rfl) (by first | exact c_int | exact fun _ => rfl)) (fun _ => rfl)
        | apply Sq.op (by first | rfl | (show (_ == _ : Bool) = true; first | rfl | (simp [*]; done) | (simp; omega))) (bin_lss (by first | exact c_int | exact fun _ => rfl) (by first | exact c_int | exact fun _ => rfl)) (fun _ => rfl)
        | apply Sq.op (by first | rfl | (show (_ == _ : Bool) = true; first | rfl | (simp [*]; done) | (simp; omega))) (bin_gtr (by first | exact c_int | exact fun _ => rfl) (by first | exact c_int | exact fun _ => rfl)) (fun _ => rfl)
        | apply Sq.op (by first | rfl | (show (_ == _ : Bool) = true; first | rfl | (simp [*]; done) | (simp; omega))) (bin_leq (by first | exact c_int | exact fun _ => rfl) (by first | exact c_int | exact fun _ => rfl)) (fun _ => rfl)
        | apply Sq.op (by first | rfl | (show (_ == _ : Bool) = true; first | rfl | (simp [*]; done) | (simp; omega))) (bin_geq (by first | exact c_int | exact fun _ => rfl) (by first | exact c_int | exact fun _ => rfl)) (fun _ => rfl)
        | apply Sq.op (by first | rfl | (show (_ == _ : Bool) = true; first | rfl | (simp [*]; done) | (simp; omega))) (bin_quo (by first | exact c_int | exact fun _ => rfl) (by first | exact c_int | exact fun _ => rfl) (by decide)) (fun _ => rfl)
        | apply Sq.op (by first | rfl | (show (_ == _ : Bool) = true; first | rfl | (simp [*]; done) | (simp; omega))) (bin_rem (by first | exact c_int | exact fun _ => rfl) (by first | exact c_int | exact fun _ => rfl) (by decide)) (fun _ => rfl)
        | apply Sq.op (by first | rfl | (show (_ == _ : Bool) = true; first | rfl | (simp [*]; done) | (simp; omega))) (bin_shl (by first | exact c_int | exact fun _ => rfl) (by first | exact c_int | exact fun _ => rfl) (by decide)) (fun _ => rfl)
        | apply Sq.op (by first | rfl | (show (_ == _ : Bool) = true; first | rfl | (simp [*]; done) | (simp; omega))) (bin_shr (by first | exact c_int | exact fun _ => rfl) (by first | exact c_int | exact fun _ => rfl) (by decide)) (fun _ => rfl)
        | apply Sq.op (by first | rfl | (show (_ == _ : Bool) = true; first | rfl | (simp [*]; done) | (simp; omega))) (str_eql (by first | exact c_int | exact fun _ => rfl) (by first | exact c_int | exact fun _ => rfl)) (fun _ => rfl)
        | apply Sq.op (by first | rfl | (show (_ == _ : Bool) = true; first | rfl | (simp [*]; done) | (simp; omega))) (str_neq (by first | exact c_int | exact fun _ => rfl) (by first | exact c_int | exact fun _ => rfl)) (fun _ => rfl)
        | apply Sq.op (by first | rfl | (show (_ == _ : Bool) = true; first | rfl | (simp [*]; done) | (simp; omega))) (Op1.pure fun _ _ => rfl) (fun _ => rfl)
        | apply Sq.op (by first | rfl | (show (_ == _ : Bool) = true; first | rfl | (simp [*]; done) | (simp; omega))) (un_not (fun _ => rfl)) (fun _ => rfl)
        | apply Sq.op (by first | rfl | (show (_ == _ : Bool) = true; first | rfl | (simp [*]; done) | (simp; omega))) (Op1.pick_t (fun _ => rfl) (by first | rfl | assumption | (simp [*]; done) | (simp; omega)) (fun _ => rfl)) (fun _ => rfl)
        | apply Sq.op (by first | rfl | (show (_ == _ : Bool) = true; first | rfl | (simp [*]; done) | (simp; omega))) (Op1.pick_f (fun _ => rfl) (by first | rfl | assumption | (simp [*]; done) | (simp; omega)) (fun _ => rfl)) (fun _ => rfl))
    case he => exact .inr rfl
    case hr => exact fun _ => rfl
    case ho => exact fun _ => rfl
  case hv =>
    have e1 : n.fdiv (2 ^ (min (Int.toNat 4) (IntKind.bits .i64))) = n / 16 := by
      rw [show (2 : Int) ^ (min (Int.toNat 4) (IntKind.bits .i64)) = 16 from rfl]
      exact Int.fdiv_eq_ediv_of_nonneg n (by decide)
    rw [and15_i64 n h0 h1, e1, wrap_u8_id (n % 16) (by omega) (by omega), wrap_u8_id (n / 16) (by omega) (by omega)]
theorem and15 (x : Int) (h0 : 0 ≤ x) (h1 : x < 256) {lim : Nat} {fr : Fr} {h : T} {nx : Nat} {a : Operand} {t p : TypeId} (ha : ∀ k, opdK fr a k = k (.i .u8 x)) : Op1 Tryd.prog X lim (.binOp .and t a (.const (.int .u8 15)) p) fr h nx (.i .u8 (x % 16)) h nx := by
  have := bin_and (P := Tryd.prog) (X := X) (lim := lim) (h := h) (nx := nx) (t := t) (pos := p) ha (c_int (kd := .u8) (n := 15))
  rwa [and15_u8 x h0 h1] at this
theorem conv_to {kd ka : IntKind} {x m : Int} (hm : kd.wrap x = m) {lim : Nat} {fr : Fr} {h : T} {nx : Nat} {a : Operand} {s d : TypeId} {su : TypeDesc} (hs : Tryd.prog.underlying s = some su) (hd : Tryd.prog.underlying d = some (.int kd)) (ha : ∀ k, opdK fr a k = k (.i ka x)) : Op1 Tryd.prog X lim (.convert s d a) fr h nx (.i kd m) h nx := hm ▸ conv_int hs hd ha
theorem codes_cl (hX : X 12 = none) (hX1 : X 32 = none) (hX2 : X 35 = none) (c x n : Int) (hc : 0 ≤ c) (hc1 : c < 256) (hx : 0 ≤ x) (hx1 : x < 256) (lim : Nat) (h : T) (nx : Nat)
    (hawake : Cl Tryd.prog X lim 25 [] h nx (.b true) h nx) : Cl Tryd.prog X lim 12 [.i .u8 c, .i .u8 x, .i .i64 n] h nx (.b true) h nx := by
  generalize hm : IntKind.i64.wrap ((IntKind.u64.wrap n).tmod 4096) = m
  have hm2 : 0 ≤ m ∧ m < 4096 := by
    have h1 : (IntKind.u64.wrap n).tmod 4096 = n % 18446744073709551616 % 4096 := by
      rw [IntKind.wrap_u64, Int.tmod_eq_emod_of_nonneg (by omega)]
    rw [← hm, h1, wrap_i64_id _ (by omega) (by omega)]
    omega
  have f1 : ((x * 16 + c % 16) % 16 != c % 16) = false := by first | (simp; done) | (simp; omega)
  have f2 : ((x * 16 + c % 16) / 16 != x) = false := by first | (simp; done) | (simp; omega)
  have f3 : (x * 16 + c % 16 != x * 16 + c % 16 % 16) = false := by simp
  have f4 : decide (m % 16 < 16) = true := by first | (simp; done) | (simp; omega)
  have f5 : (m / 16 * 16 + m % 16 % 16 == m) = true := by first | (simp; done) | (simp; omega)
  apply Cl.eq
  case a =>
    apply Cl.body (m := 3) hX Tryd.func12 rfl (fun _ => rfl) rfl
    case hc =>
      repeat' (first
        | exact Ev.ret
        | apply Ev.loop_out
        | exact Ev.skip
        | exact Ev.exit
        | exact Ev.label
        | exact Ex.exi_ne
        | exact Ex.ret_ne
        | exact Ex.got_ne
        | exact Or.inl ⟨Ex.exi_ne, rfl, rfl, rfl, rfl⟩
        | exact Or.inl ⟨Ex.ret_ne, rfl, rfl, rfl, rfl⟩
        | exact Or.inl ⟨Ex.got_ne, rfl, rfl, rfl, rfl⟩
        | refine Or.inr ⟨rfl, ?_⟩
        | exact Or.inl ⟨rfl, rfl⟩
        | exact Or.inr ⟨Ex.nor_other, rfl⟩
        | exact Or.inr ⟨Ex.ret_other, rfl⟩
        | exact Or.inr ⟨Ex.exi_other rfl, rfl⟩
        | exact Or.inr ⟨Ex.got_other, rfl⟩
        | apply Ev.region rfl
        | apply Ev.seq2
        | apply Ev.block3
        | apply Ev.cond_t (fun _ => rfl) (by first | rfl | assumption | (simp [*]; done) | (simp; omega))
        | apply Ev.cond_f (fun _ => rfl) (by first | rfl | assumption | (simp [*]; done) | (simp; omega))
        | exact Sq.nil
        | exact Dr.nil
        | apply Sq.op (by first | rfl | (show (_ == _ : Bool) = true; first | rfl | (simp [*]; done) | (simp; omega))) (Op1.call rfl (fun _ => rfl) (fun _ => rfl) hawake) (fun _ => rfl)
        | apply Sq.op (by first | rfl | (show (_ == _ : Bool) = true; first | rfl | (simp [*]; done) | (simp; omega))) (Op1.call rfl (fun _ => rfl) (fun _ => rfl) (code_cl hX2 _ _ (by omega) (by omega) (by omega) (by omega) _ _ _)) (fun _ => rfl)
        | apply Sq.op (by first | rfl | (show (_ == _ : Bool) = true; first | rfl | (simp [*]; done) | (simp; omega))) (Op1.call rfl (fun _ => rfl) (fun _ => rfl) (split_cl hX1 _ (by omega) (by omega) _ _ _)) (fun _ => rfl)
        | apply Sq.op (by first | rfl | (show (_ == _ : Bool) = true; first | rfl | (simp [*]; done) | (simp; omega))) (and15 c hc hc1 (fun _ => rfl)) (fun _ => rfl)
        | apply Sq.op (by first | rfl | (show (_ == _ : Bool) = true; first | rfl | (simp [*]; done) | (simp; omega))) (conv_int Tryd.underlying3 Tryd.underlying63 (fun _ => rfl)) (fun _ => rfl)
        | apply Sq.op (by first | rfl | (show (_ == _ : Bool) = true; first | rfl | (simp [*]; done) | (simp; omega))) (conv_to hm Tryd.underlying63 Tryd.underlying3 (fun _ => rfl)) (fun _ => rfl)
        | apply Sq.op (by first | rfl | (show (_ == _ : Bool) = true; first | rfl | (simp [*]; done) | (simp; omega))) (Op1.load (fun _ => rfl) (by first | assumption | exact Tr.get_same _ _ _ | (rw [Tr.get_ne _ _ (by omega)]; first | assumption | exact Tr.get_same _ _ _ | (rw [Tr.get_ne _ _ (by omega)]; first | assumption | exact Tr.get_same _ _ _ | (rw [Tr.get_ne _ _ (by omega)]; first | assumption | exact Tr.get_same _ _ _ | (rw [Tr.get_ne _ _ (by omega)]; first | assumption | exact Tr.get_same _ _ _))))) (by exact fun _ => rfl)) (fun _ => rfl)
        | apply Sq.op (by first | rfl | (show (_ == _ : Bool) = true; first | rfl | (simp [*]; done) | (simp; omega))) (Op1.store (fun _ => rfl) (fun _ => rfl) (fun _ => rfl) rfl (by exact Nat.succ_pos _) (by omega) rfl (by first | assumption | exact Tr.get_same _ _ _ | (rw [Tr.get_ne _ _ (by omega)]; first | assumption | exact Tr.get_same _ _ _ | (rw [Tr.get_ne _ _ (by omega)]; first | assumption | exact Tr.get_same _ _ _ | (rw [Tr.get_ne _ _ (by omega)]; first | assumption | exact Tr.get_same _ _ _ | (rw [Tr.get_ne _ _ (by omega)]; first | assumption | exact Tr.get_same _ _ _))))) (by first | decide | omega) (by exact fun _ => rfl)) (fun _ => rfl)
        | apply Sq.op (by first | rfl | (show (_ == _ : Bool) = true; first | rfl | (simp [*]; done) | (simp; omega))) (Op1.alloc (fun _ => rfl)) (fun _ => rfl)
        | apply Sq.op (by first | rfl | (show (_ == _ : Bool) = true; first | rfl | (simp [*]; done) | (simp; omega))) (Op1.box (fun _ => rfl)) (fun _ => rfl)
        | apply Sq.out (by first | rfl | (show (_ == _ : Bool) = false; first | rfl | (simp [*]; done) | (simp; omega))) (fun _ => rfl)
        | apply Sq.op (by first | rfl | (show (_ == _ : Bool) = true; first | rfl | (simp [*]; done) | (simp; omega))) Op1.move_c (fun _ => rfl)
        | apply Sq.op (by first | rfl | (show (_ == _ : Bool) = true; first | rfl | (simp [*]; done) | (simp; omega))) Op1.assign_c (fun _ => rfl)
        | apply Sq.op (by first | rfl | (show (_ == _ : Bool) = true; first | rfl | (simp [*]; done) | (simp; omega))) (bin_add (by first | exact c_int | exact fun _ => rfl) (by first | exact c_int | exact fun _ => rfl)) (fun _ => rfl)
        | apply Sq.op (by first | rfl | (show (_ == _ : Bool) = true; first | rfl | (simp [*]; done) | (simp; omega))) (bin_sub (by first | exact c_int | exact fun _ => rfl) (by first | exact c_int | exact fun _ => rfl)) (fun _ => rfl)
        | apply Sq.op (by first | rfl | (show (_ == _ : Bool) = true; first | rfl | (simp [*]; done) | (simp; omega))) (bin_mul (by first | exact c_int | exact fun _ => rfl) (by first | exact c_int | exact fun _ => rfl)) (fun _ => rfl)
        | apply Sq.op (by first | rfl | (show (_ == _ : Bool) = true; first | rfl | (simp [*]; done) | (simp; omega))) (bin_and (by first | exact c_int | exact fun _ => rfl) (by first | exact c_int | exact fun _ => rfl)) (fun _ => rfl)
        | apply Sq.op (by first | rfl | (show (_ == _ : Bool) = true; first | rfl | (simp [*]; done) | (simp; omega))) (bin_or (by first | exact c_int | exact fun _ => rfl) (by first | exact c_int | exact fun _ => rfl)) (fun _ => rfl)
        | apply Sq.op (by first | rfl | (show (_ == _ : Bool) = true; first | rfl | (simp [*]; done) | (simp; omega))) (bin_xor (by first | exact c_int | exact fun _ => rfl) (by first | exact c_int | exact fun _ => rfl)) (fun _ => rfl)
        | apply Sq.op (by first | rfl | (show (_ == _ : Bool) = true; first | rfl | (simp [*]; done) | (simp; omega))) (bin_eql (by first | exact c_int | exact fun _ => rfl) (by first | exact c_int | exact fun _ => rfl)) (fun _ => rfl)
        | apply Sq.op (by first | rfl | (show (_ == _ : Bool) = true; first | rfl | (simp [*]; done) | (simp; omega))) (bin_neq (by first | exact c_int | exact fun _ => rfl) (by first | exact c_int | exact fun _ => rfl)) (fun _ => rfl)
        | apply Sq.op (by first | rfl | (show (_ == _ : Bool) = true; first | rfl | (simp [*]; done) | (simp; omega))) (bin_lss (by first | exact c_int | exact fun _ => rfl) (by first | exact c_int | exact fun _ => rfl)) (fun _ => rfl)
        | apply Sq.op (by first | rfl | (show (_ == _ : Bool) = true; first | rfl | (simp [*]; done) | (simp; omega))) (bin_gtr (by first | exact c_int | exact fun _ => rfl) (by first | exact c_int | exact fun _ => rfl)) (fun _ => rfl)
        | apply Sq.op (by first | rfl | (show (_ == _ : Bool) = true; first | rfl | (simp [*]; done) | (simp; omega))) (bin_leq (by first | exact c_int | exact fun _ => rfl) (by first | exact c_int | exact fun _ => rfl)) (fun _ => rfl)
        | apply Sq.op (by first | rfl | (show (_ == _ : Bool) = true; first | rfl | (simp [*]; done) | (simp; omega))) (bin_geq (by first | exact c_int | exact fun _ => rfl) (by first | exact c_int | exact fun _ => rfl)) (fun _ => rfl)
        | apply Sq.op (by first | rfl | (show (_ == _ : Bool) = true; first | rfl | (simp [*]; done) | (simp; omega))) (bin_quo (by first | exact c_int | exact fun _ => rfl) (by first | exact c_int | exact fun _ => rfl) (by decide)) (fun _ => rfl)
        | apply Sq.op (by first | rfl | (show (_ == _ : Bool) = true; first | rfl | (simp [*]; done) | (simp; omega))) (bin_rem (by first | exact c_int | exact fun _ => rfl) (by first | exact c_int | exact fun _ => rfl) (by decide)) (fun _ => rfl)
        | apply Sq.op (by first | rfl | (show (_ == _ : Bool) = true; first | rfl | (simp [*]; done) | (simp; omega))) (bin_shl (by first | exact c_int | exact fun _ => rfl) (by first | exact c_int | exact fun _ => rfl) (by decide)) (fun _ => rfl)
        | apply Sq.op (by first | rfl | (show (_ == _ : Bool) = true; first | rfl | (simp [*]; done) | (simp; omega))) (bin_shr (by first | exact c_int | exact fun _ => rfl) (by first | exact c_int | exact fun _ => rfl) (by decide)) (fun _ => rfl)
        | apply Sq.op (by first | rfl | (show (_ == _ : Bool) = true; first | rfl | (simp [*]; done) | (simp; omega))) (str_eql (by first | exact c_int | exact fun _ => rfl) (by first | exact c_int | exact fun _ => rfl)) (fun _ => rfl)
        | apply Sq.op (by first | rfl | (show (_ == _ : Bool) = true; first | rfl | (simp [*]; done) | (simp; omega))) (str_neq (by first | exact c_int | exact fun _ => rfl) (by first | exact c_int | exact fun _ => rfl)) (fun _ => rfl)
        | apply Sq.op (by first | rfl | (show (_ == _ : Bool) = true; first | rfl | (simp [*]; done) | (simp; omega))) (Op1.pure fun _ _ => rfl) (fun _ => rfl)
        | apply Sq.op (by first | rfl | (show (_ == _ : Bool) = true; first | rfl | (simp [*]; done) | (simp; omega))) (un_not (fun _ => rfl)) (fun _ => rfl)
        | apply Sq.op (by first | rfl | (show (_ == _ : Bool) = true; first | rfl | (simp [*]; done) | (simp; omega))) (Op1.pick_t (fun _ => rfl) (by first | rfl | assumption | (simp [*]; done) | (simp; omega)) (fun _ => rfl)) (fun _ => rfl)
        | apply Sq.op (by first | rfl | (show (_ == _ : Bool) = true; first | rfl | (simp [*]; done) | (simp; omega))) (Op1.pick_f (fun _ => rfl) (by first | rfl | assumption | (simp [*]; done) | (simp; omega)) (fun _ => rfl)) (fun _ => rfl))
    case he => exact .inr rfl
    case hr => exact fun _ => rfl
    case ho => exact fun _ => rfl
  case hv => rw [f5]
end Clo
end Go.Proofs.YtlcggjaogbclkaaDoor
