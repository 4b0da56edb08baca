/-
  cursor.New, Left; edns.Read of nothing, edns.Write of no option: what their runs come to.
-/
import Derived.Test.YtlcggjaogbclkaaDoorEdCo
namespace Go.Proofs.YtlcggjaogbclkaaDoor
namespace Clo
open Go.RowKit
set_option linter.unusedVariables false
set_option maxRecDepth 10000
set_option maxHeartbeats 8000000
variable {X : XT}
theorem new_cl (hX : X 43 = none) (n N : Nat) (lim : Nat) (h : T) (nx : Nat) : Cl Tryd.prog X lim 43 [.s n N] h nx (.p nx 0) (h.set nx (some (.c [.s n N, .i .i64 0] 0 0 (some 111)))) (nx + 1) := by
  apply Cl.body (m := 1) hX Tryd.func43 rfl (fun _ => rfl) rfl
  case hc =>
    repeat' (first
      | exact Ev.ret
      | apply Ev.loop_out
      | exact Ev.skip
      | exact Ev.exit
      | exact Ev.label
      | exact Ex.exi_ne
      | exact Ex.ret_ne
      | exact Ex.got_ne
      | exact Or.inl ⟨Ex.exi_ne, rfl, rfl, rfl, rfl⟩
      | exact Or.inl ⟨Ex.ret_ne, rfl, rfl, rfl, rfl⟩
      | exact Or.inl ⟨Ex.got_ne, rfl, rfl, rfl, rfl⟩
      | refine Or.inr ⟨rfl, ?_⟩
      | exact Or.inl ⟨rfl, rfl⟩
      | exact Or.inr ⟨Ex.nor_other, rfl⟩
      | exact Or.inr ⟨Ex.ret_other, rfl⟩
      | exact Or.inr ⟨Ex.exi_other rfl, rfl⟩
      | exact Or.inr ⟨Ex.got_other, rfl⟩
      | apply Ev.region rfl
      | apply Ev.seq2
      | apply Ev.block3
      | apply Ev.cond_t (fun _ => rfl) (by first | rfl | assumption | (simp [*]; done) | (simp; omega))
      | apply Ev.cond_f (fun _ => rfl) (by first | rfl | assumption | (simp [*]; done) | (simp; omega))
      | exact Sq.nil
      | exact Dr.nil
      | apply Sq.op (by first | rfl | (show (_ == _ : Bool) = true; first | rfl | (simp [*]; done) | (simp; omega))) (Op1.load (fun _ => rfl) (by first | assumption | exact Tr.get_same _ _ _ | (rw [Tr.get_ne _ _ (by omega)]; first | assumption | exact Tr.get_same _ _ _ | (rw [Tr.get_ne _ _ (by omega)]; first | assumption | exact Tr.get_same _ _ _ | (rw [Tr.get_ne _ _ (by omega)]; first | assumption | exact Tr.get_same _ _ _ | (rw [Tr.get_ne _ _ (by omega)]; first | assumption | exact Tr.get_same _ _ _))))) (by exact fun _ => rfl)) (fun _ => rfl)
      | apply Sq.op (by first | rfl | (show (_ == _ : Bool) = true; first | rfl | (simp [*]; done) | (simp; omega))) (Op1.store (fun _ => rfl) (fun _ => rfl) (fun _ => rfl) rfl (by exact Nat.succ_pos _) (by omega) rfl (by first | assumption | exact Tr.get_same _ _ _ | (rw [Tr.get_ne _ _ (by omega)]; first | assumption | exact Tr.get_same _ _ _ | (rw [Tr.get_ne _ _ (by omega)]; first | assumption | exact Tr.get_same _ _ _ | (rw [Tr.get_ne _ _ (by omega)]; first | assumption | exact Tr.get_same _ _ _ | (rw [Tr.get_ne _ _ (by omega)]; first | assumption | exact Tr.get_same _ _ _))))) (by first | decide | omega) (by exact fun _ => rfl)) (fun _ => rfl)
      | apply Sq.op (by first | rfl | (show (_ == _ : Bool) = true; first | rfl | (simp [*]; done) | (simp; omega))) (Op1.alloc (fun _ => rfl)) (fun _ => rfl)
      | apply Sq.op (by first | rfl | (show (_ == _ : Bool) = true; first | rfl | (simp [*]; done) | (simp; omega))) (Op1.box (fun _ => rfl)) (fun _ => rfl)
      | apply Sq.out (by first | rfl | (show (_ == _ : Bool) = false; first | rfl | (simp [*]; done) | (simp; omega))) (fun _ => rfl)
      | apply Sq.op (by first | rfl | (show (_ == _ : Bool) = true; first | rfl | (simp [*]; done) | (simp; omega))) Op1.move_c (fun _ => rfl)
      | apply Sq.op (by first | rfl | (show (_ == _ : Bool) = true; first | rfl | (simp [*]; done) | (simp; omega))) Op1.assign_c (fun _ => rfl)
      | apply Sq.op (by first | rfl | (show (_ == _ : Bool) = true; first | rfl | (simp [*]; done) | (simp; omega))) (bin_add (by first | exact c_int | exact fun _ => rfl) (by first | exact c_int | exact fun _ => rfl)) (fun _ => rfl)
      | apply Sq.op (by first | rfl | (show (_ == _ : Bool) = true; first | rfl | (simp [*]; done) | (simp; omega))) (bin_sub (by first | exact c_int | exact fun _ => rfl) (by first | exact c_int | exact fun _ => rfl)) (fun _ => rfl)
      | apply Sq.op (by first | rfl | (show (_ == _ : Bool) = true; first | rfl | (simp [*]; done) | (simp; omega))) (bin_mul (by first | exact c_int | exact fun _ => rfl) (by first | exact c_int | exact fun _ => rfl)) (fun _ => rfl)
      | apply Sq.op (by first | rfl | (show (_ == _ : Bool) = true; first | rfl | (simp [*]; done) | (simp; omega))) (bin_and (by first | exact c_int | exact fun _ => rfl) (by first | exact c_int | exact fun _ => rfl)) (fun _ => rfl)
      | apply Sq.op (by first | rfl | (show (_ == _ : Bool) = true; first | rfl | (simp [*]; done) | (simp; omega))) (bin_or (by first | exact c_int | exact fun _ => rfl) (by first | exact c_int | exact fun _ => rfl)) (fun _ => rfl)
      | apply Sq.op (by first | rfl | (show (_ == _ : Bool) = true; first | rfl | (simp [*]; done) | (simp; omega))) (bin_xor (by first | exact c_int | exact fun _ => rfl) (by first | exact c_int | exact fun _ => rfl)) (fun _ => rfl)
      | apply Sq.op (by first | rfl | (show (_ == _ : Bool) = true; first | rfl | (simp [*]; done) | (simp; omega))) (bin_eql (by first | exact c_int | exact fun _ => rfl) (by first | exact c_int | exact fun _ => rfl)) (fun _ => rfl)
      | apply Sq.op (by first | rfl | (show (_ == _ : Bool) = true; first | rfl | (simp [*]; done) | (simp; omega))) (bin_neq (by first | exact c_int | exact fun _ => rfl) (by first | exact c_int | exact fun _ => rfl)) (fun _ => rfl)
      | apply Sq.op (by first | rfl | (show (_ == _ : Bool) = true; first | rfl | (simp [*]; done) | (simp; omega))) (bin_lss (by first | exact c_int | exact fun _ => rfl) (by first | exact c_int | exact fun _ => rfl)) (fun _ => rfl)
      | apply Sq.op (by first | rfl | (show (_ == _ : Bool) = true; first | rfl | (simp [*]; done) | (simp; omega))) (bin_gtr (by first | exact c_int | exact fun _ => rfl) (by first | exact c_int | exact fun _ => rfl)) (fun _ => rfl)
      | apply Sq.op (by first | rfl | (show (_ == _ : Bool) = true; first | rfl | (simp [*]; done) | (simp; omega))) (bin_leq (by first | exact c_int | exact fun _ => rfl) (by first | exact c_int | exact fun _ => rfl)) (fun _ => rfl)
      | apply Sq.op (by first | rfl | (show (_ == _ : Bool) = true; first | rfl | (simp [*]; done) | (simp; omega))) (bin_geq (by first | exact c_int | exact fun _ => rfl) (by first | exact c_int | exact fun _ => rfl)) (fun _ => rfl)
      | apply Sq.op (by first | rfl | (show (_ == _ : Bool) = true; first | rfl | (simp [*]; done) | (simp; omega))) (bin_quo (by first | exact c_int | exact fun _ => rfl) (by first | exact c_int | exact fun _ => rfl) (by decide)) (fun _ => rfl)
      | apply Sq.op (by first | rfl | (show (_ == _ : Bool) = true; first | rfl | (simp [*]; done) | (simp; omega))) (bin_rem (by first | exact c_int | exact fun _ => rfl) (by first | exact c_int | exact fun _ => rfl) (by decide)) (fun _ => rfl)
      | apply Sq.op (by first | rfl | (show (_ == _ : Bool) = true; first | rfl | (simp [*]; done) | (simp; omega))) (bin_shl (by first | exact c_int | exact fun _ => rfl) (by first | exact c_int | exact fun _ => rfl) (by decide)) (fun _ => rfl)
      | apply Sq.op (by first | rfl | (show (_ == _ : Bool) = true; first | rfl | (simp [*]; done) | (simp; omega))) (bin_shr (by first | exact c_int | exact fun _ => rfl) (by first | exact c_int | exact fun _ => rfl) (by decide)) (fun _ => rfl)
      | apply Sq.op (by first | rfl | (show (_ == _ : Bool) = true; first | rfl | (simp [*]; done) | (simp; omega))) (str_eql (by first | exact c_int | exact fun _ => rfl) (by first | exact c_int | exact fun _ => rfl)) (fun _ => rfl)
      | apply Sq.op (by first | rfl | (show (_ == _ : Bool) = true; first | rfl | (simp [*]; done) | (simp; omega))) (str_neq (by first | exact c_int | exact fun _ => rfl) (by first | exact c_int | exact fun _ => rfl)) (fun _ => rfl)
      | apply Sq.op (by first | rfl | (show (_ == _ : Bool) = true; first | rfl | (simp [*]; done) | (simp; omega))) (Op1.pure fun _ _ => rfl) (fun _ => rfl)
      | apply Sq.op (by first | rfl | (show (_ == _ : Bool) = true; first | rfl | (simp [*]; done) | (simp; omega))) (un_not (fun _ => rfl)) (fun _ => rfl)
      | apply Sq.op (by first | rfl | (show (_ == _ : Bool) = true; first | rfl | (simp [*]; done) | (simp; omega))) (Op1.pick_t (fun _ => rfl) (by first | rfl | assumption | (simp [*]; done) | (simp; omega)) (fun _ => rfl)) (fun _ => rfl)
      | apply Sq.op (by first | rfl | (show (_ == _ : Bool) = true; first | rfl | (simp [*]; done) | (simp; omega))) (Op1.pick_f (fun _ => rfl) (by first | rfl | assumption | (simp [*]; done) | (simp; omega)) (fun _ => rfl)) (fun _ => rfl))
  case he => exact .inr rfl
  case hr => exact fun _ => rfl
  case ho => exact fun _ => rfl
theorem left_cl (hX : X 53 = none) (n N a id fz osz : Nat) (pl : Option TypeId) (h : T) (hg : h.get id = some (.c [.s n N, .i .i64 a] fz osz pl)) (ha : a ≤ n) (hn : n < 4611686018427387904) (lim nx : Nat) : Cl Tryd.prog X lim 53 [.p id 0] h nx (.i .i64 ((n : Int) - a)) h nx := by
  apply Cl.eq
  case a =>
    apply Cl.body (m := 1) hX Tryd.func53 rfl (fun _ => rfl) rfl
    case hc =>
      repeat' (first
        | exact Ev.ret
        | apply Ev.loop_out
        | exact Ev.skip
        | exact Ev.exit
        | exact Ev.label
        | exact Ex.exi_ne
        | exact Ex.ret_ne
        | exact Ex.got_ne
        | exact Or.inl ⟨Ex.exi_ne, rfl, rfl, rfl, rfl⟩
        | exact Or.inl ⟨Ex.ret_ne, rfl, rfl, rfl, rfl⟩
        | exact Or.inl ⟨Ex.got_ne, rfl, rfl, rfl, rfl⟩
        | refine Or.inr ⟨rfl, ?_⟩
        | exact Or.inl ⟨rfl, rfl⟩
        | exact Or.inr ⟨Ex.nor_other, rfl⟩
        | exact Or.inr ⟨Ex.ret_other, rfl⟩
        | exact Or.inr ⟨Ex.exi_other rfl, rfl⟩
        | exact Or.inr ⟨Ex.got_other, rfl⟩
        | apply Ev.region rfl
        | apply Ev.seq2
        | apply Ev.block3
        | apply Ev.cond_t (fun _ => rfl) (by first | rfl | assumption | (simp [*]; done) | (simp; omega))
        | apply Ev.cond_f (fun _ => rfl) (by first | rfl | assumption | (simp [*]; done) | (simp; omega))
        | exact Sq.nil
        | exact Dr.nil
        | apply Ev.drawn (ms := [0, 1, 3, 7, 15, 0, 32, 96, 224, 511, 1023]) (bs := [false, false, false, false, false, false, false, false, false, true, true]) rfl (by kernel_rfl) (by kernel_rfl) (by kernel_rfl)
        | apply Dr.out (by first | rfl | (show (_ == _ : Bool) = false; first | rfl | (simp [*]; done) | (simp; omega))) (fun _ => rfl)
        | apply Dr.light (by first | rfl | (show (_ == _ : Bool) = true; first | rfl | (simp [*]; done) | (simp; omega))) (by kernel_rfl) (Op1.move_c) (fun _ => rfl)
        | apply Dr.light (by first | rfl | (show (_ == _ : Bool) = true; first | rfl | (simp [*]; done) | (simp; omega))) (by kernel_rfl) (Op1.assign_c) (fun _ => rfl)
        | apply Dr.light (by first | rfl | (show (_ == _ : Bool) = true; first | rfl | (simp [*]; done) | (simp; omega))) (by kernel_rfl) (Op1.pure fun _ _ => rfl) (fun _ => rfl)
        | apply Dr.light (by first | rfl | (show (_ == _ : Bool) = true; first | rfl | (simp [*]; done) | (simp; omega))) (by kernel_rfl) (bin_add (by first | exact c_int | exact fun _ => rfl) (by first | exact c_int | exact fun _ => rfl)) (fun _ => rfl)
        | apply Dr.light (by first | rfl | (show (_ == _ : Bool) = true; first | rfl | (simp [*]; done) | (simp; omega))) (by kernel_rfl) (bin_sub (by first | exact c_int | exact fun _ => rfl) (by first | exact c_int | exact fun _ => rfl)) (fun _ => rfl)
        | apply Dr.light (by first | rfl | (show (_ == _ : Bool) = true; first | rfl | (simp [*]; done) | (simp; omega))) (by kernel_rfl) (bin_mul (by first | exact c_int | exact fun _ => rfl) (by first | exact c_int | exact fun _ => rfl)) (fun _ => rfl)
        | apply Dr.light (by first | rfl | (show (_ == _ : Bool) = true; first | rfl | (simp [*]; done) | (simp; omega))) (by kernel_rfl) (bin_and (by first | exact c_int | exact fun _ => rfl) (by first | exact c_int | exact fun _ => rfl)) (fun _ => rfl)
        | apply Dr.light (by first | rfl | (show (_ == _ : Bool) = true; first | rfl | (simp [*]; done) | (simp; omega))) (by kernel_rfl) (bin_or (by first | exact c_int | exact fun _ => rfl) (by first | exact c_int | exact fun _ => rfl)) (fun _ => rfl)
        | apply Dr.light (by first | rfl | (show (_ == _ : Bool) = true; first | rfl | (simp [*]; done) | (simp; omega))) (by kernel_rfl) (bin_xor (by first | exact c_int | exact fun _ => rfl) (by first | exact c_int | exact fun _ => rfl)) (fun _ => rfl)
        | apply Dr.light (by first | rfl | (show (_ == _ : Bool) = true; first | rfl | (simp [*]; done) | (simp; omega))) (by kernel_rfl) (bin_eql (by first | exact c_int | exact fun _ => rfl) (by first | exact c_int | exact fun _ => rfl)) (fun _ => rfl)
        | apply Dr.light (by first | rfl | (show (_ == _ : Bool) = true; first | rfl | (simp [*]; done) | (simp; omega))) (by kernel_rfl) (bin_neq (by first | exact c_int | exact fun _ => rfl) (by first | exact c_int | exact fun _ => rfl)) (fun _ => rfl)
        | apply Dr.light (by first | rfl | (show (_ == _ : Bool) = true; first | rfl | (simp [*]; done) | (simp; omega))) (by kernel_rfl) (bin_lss (by first | exact c_int | exact fun _ => rfl) (by first | exact c_int | exact fun _ => rfl)) (fun _ => rfl)
        | apply Dr.light (by first | rfl | (show (_ == _ : Bool) = true; first | rfl | (simp [*]; done) | (simp; omega))) (by kernel_rfl) (bin_gtr (by first | exact c_int | exact fun _ => rfl) (by first | exact c_int | exact fun _ => rfl)) (fun _ => rfl)
        | apply Dr.light (by first | rfl | (show (_ == _ : Bool) = true; first | rfl | (simp [*]; done) | (simp; omega))) (by kernel_rfl) (bin_leq (by first | exact c_int | exact fun _ => rfl) (by first | exact c_int | exact fun _ => rfl)) (fun _ => rfl)
        | apply Dr.light (by first | rfl | (show (_ == _ : Bool) = true; first | rfl | (simp [*]; done) | (simp; omega))) (by kernel_rfl) (bin_geq (by first | exact c_int | exact fun _ => rfl) (by first | exact c_int | exact fun _ => rfl)) (fun _ => rfl)
        | apply Dr.light (by first | rfl | (show (_ == _ : Bool) = true; first | rfl | (simp [*]; done) | (simp; omega))) (by kernel_rfl) (bin_quo (by first | exact c_int | exact fun _ => rfl) (by first | exact c_int | exact fun _ => rfl) (by decide)) (fun _ => rfl)
        | apply Dr.light (by first | rfl | (show (_ == _ : Bool) = true; first | rfl | (simp [*]; done) | (simp; omega))) (by kernel_rfl) (bin_rem (by first | exact c_int | exact fun _ => rfl) (by first | exact c_int | exact fun _ => rfl) (by decide)) (fun _ => rfl)
        | apply Dr.light (by first | rfl | (show (_ == _ : Bool) = true; first | rfl | (simp [*]; done) | (simp; omega))) (by kernel_rfl) (bin_shl (by first | exact c_int | exact fun _ => rfl) (by first | exact c_int | exact fun _ => rfl) (by decide)) (fun _ => rfl)
        | apply Dr.light (by first | rfl | (show (_ == _ : Bool) = true; first | rfl | (simp [*]; done) | (simp; omega))) (by kernel_rfl) (bin_shr (by first | exact c_int | exact fun _ => rfl) (by first | exact c_int | exact fun _ => rfl) (by decide)) (fun _ => rfl)
        | apply Dr.light (by first | rfl | (show (_ == _ : Bool) = true; first | rfl | (simp [*]; done) | (simp; omega))) (by kernel_rfl) (str_eql (by first | exact c_int | exact fun _ => rfl) (by first | exact c_int | exact fun _ => rfl)) (fun _ => rfl)
        | apply Dr.light (by first | rfl | (show (_ == _ : Bool) = true; first | rfl | (simp [*]; done) | (simp; omega))) (by kernel_rfl) (str_neq (by first | exact c_int | exact fun _ => rfl) (by first | exact c_int | exact fun _ => rfl)) (fun _ => rfl)
        | apply Dr.light (by first | rfl | (show (_ == _ : Bool) = true; first | rfl | (simp [*]; done) | (simp; omega))) (by kernel_rfl) (Op1.pick_t (fun _ => rfl) (by first | rfl | assumption | (simp [*]; done) | (simp; omega)) (fun _ => rfl)) (fun _ => rfl)
        | apply Dr.light (by first | rfl | (show (_ == _ : Bool) = true; first | rfl | (simp [*]; done) | (simp; omega))) (by kernel_rfl) (Op1.pick_f (fun _ => rfl) (by first | rfl | assumption | (simp [*]; done) | (simp; omega)) (fun _ => rfl)) (fun _ => rfl)
        | apply Dr.load (by first | rfl | (show (_ == _ : Bool) = true; first | rfl | (simp [*]; done) | (simp; omega))) (by kernel_rfl) rfl (fun _ => rfl) (by first | exact Or.inl ⟨rfl, rfl⟩ | exact Or.inr ⟨rfl, rfl⟩) (by first | assumption | exact Tr.get_same _ _ _ | (rw [Tr.get_ne _ _ (by omega)]; first | assumption | exact Tr.get_same _ _ _ | (rw [Tr.get_ne _ _ (by omega)]; first | assumption | exact Tr.get_same _ _ _ | (rw [Tr.get_ne _ _ (by omega)]; first | assumption | exact Tr.get_same _ _ _ | (rw [Tr.get_ne _ _ (by omega)]; first | assumption | exact Tr.get_same _ _ _))))) (by exact fun _ => rfl) (fun _ => rfl)
        | apply Dr.bar (by first | rfl | (show (_ == _ : Bool) = true; first | rfl | (simp [*]; done) | (simp; omega))) (by kernel_rfl) (fun _ => rfl) (Op1.load (fun _ => rfl) (by first | assumption | exact Tr.get_same _ _ _ | (rw [Tr.get_ne _ _ (by omega)]; first | assumption | exact Tr.get_same _ _ _ | (rw [Tr.get_ne _ _ (by omega)]; first | assumption | exact Tr.get_same _ _ _ | (rw [Tr.get_ne _ _ (by omega)]; first | assumption | exact Tr.get_same _ _ _ | (rw [Tr.get_ne _ _ (by omega)]; first | assumption | exact Tr.get_same _ _ _))))) (by exact fun _ => rfl)) (fun _ => rfl)
        | apply Dr.iso (by first | rfl | (show (_ == _ : Bool) = true; first | rfl | (simp [*]; done) | (simp; omega))) (by kernel_rfl) rfl rfl (Op1.load (fun _ => rfl) (by first | assumption | exact Tr.get_same _ _ _ | (rw [Tr.get_ne _ _ (by omega)]; first | assumption | exact Tr.get_same _ _ _ | (rw [Tr.get_ne _ _ (by omega)]; first | assumption | exact Tr.get_same _ _ _ | (rw [Tr.get_ne _ _ (by omega)]; first | assumption | exact Tr.get_same _ _ _ | (rw [Tr.get_ne _ _ (by omega)]; first | assumption | exact Tr.get_same _ _ _))))) (by exact fun _ => rfl)) (by first | rfl | (rw [beq_ff]; omega)) (fun _ => rfl)
        | apply Dr.iso0 (by first | rfl | (show (_ == _ : Bool) = true; first | rfl | (simp [*]; done) | (simp; omega))) (by kernel_rfl) rfl rfl (Op1.load (fun _ => rfl) (by first | assumption | exact Tr.get_same _ _ _ | (rw [Tr.get_ne _ _ (by omega)]; first | assumption | exact Tr.get_same _ _ _ | (rw [Tr.get_ne _ _ (by omega)]; first | assumption | exact Tr.get_same _ _ _ | (rw [Tr.get_ne _ _ (by omega)]; first | assumption | exact Tr.get_same _ _ _ | (rw [Tr.get_ne _ _ (by omega)]; first | assumption | exact Tr.get_same _ _ _))))) (by exact fun _ => rfl)) (fun _ => rfl)
        | apply Dr.bar (by first | rfl | (show (_ == _ : Bool) = true; first | rfl | (simp [*]; done) | (simp; omega))) (by kernel_rfl) (fun _ => rfl) (Op1.store (fun _ => rfl) (fun _ => rfl) (fun _ => rfl) rfl (by exact Nat.succ_pos _) (by omega) rfl (by first | assumption | exact Tr.get_same _ _ _ | (rw [Tr.get_ne _ _ (by omega)]; first | assumption | exact Tr.get_same _ _ _ | (rw [Tr.get_ne _ _ (by omega)]; first | assumption | exact Tr.get_same _ _ _ | (rw [Tr.get_ne _ _ (by omega)]; first | assumption | exact Tr.get_same _ _ _ | (rw [Tr.get_ne _ _ (by omega)]; first | assumption | exact Tr.get_same _ _ _))))) (by first | decide | omega) (by exact fun _ => rfl)) (fun _ => rfl)
        | apply Dr.iso (by first | rfl | (show (_ == _ : Bool) = true; first | rfl | (simp [*]; done) | (simp; omega))) (by kernel_rfl) rfl rfl (Op1.store (fun _ => rfl) (fun _ => rfl) (fun _ => rfl) rfl (by exact Nat.succ_pos _) (by omega) rfl (by first | assumption | exact Tr.get_same _ _ _ | (rw [Tr.get_ne _ _ (by omega)]; first | assumption | exact Tr.get_same _ _ _ | (rw [Tr.get_ne _ _ (by omega)]; first | assumption | exact Tr.get_same _ _ _ | (rw [Tr.get_ne _ _ (by omega)]; first | assumption | exact Tr.get_same _ _ _ | (rw [Tr.get_ne _ _ (by omega)]; first | assumption | exact Tr.get_same _ _ _))))) (by first | decide | omega) (by exact fun _ => rfl)) (by first | rfl | (rw [beq_ff]; omega)) (fun _ => rfl)
        | apply Dr.iso0 (by first | rfl | (show (_ == _ : Bool) = true; first | rfl | (simp [*]; done) | (simp; omega))) (by kernel_rfl) rfl rfl (Op1.store (fun _ => rfl) (fun _ => rfl) (fun _ => rfl) rfl (by exact Nat.succ_pos _) (by omega) rfl (by first | assumption | exact Tr.get_same _ _ _ | (rw [Tr.get_ne _ _ (by omega)]; first | assumption | exact Tr.get_same _ _ _ | (rw [Tr.get_ne _ _ (by omega)]; first | assumption | exact Tr.get_same _ _ _ | (rw [Tr.get_ne _ _ (by omega)]; first | assumption | exact Tr.get_same _ _ _ | (rw [Tr.get_ne _ _ (by omega)]; first | assumption | exact Tr.get_same _ _ _))))) (by first | decide | omega) (by exact fun _ => rfl)) (fun _ => rfl)
        | apply Dr.bar (by first | rfl | (show (_ == _ : Bool) = true; first | rfl | (simp [*]; done) | (simp; omega))) (by kernel_rfl) (fun _ => rfl) (Op1.alloc (fun _ => rfl)) (fun _ => rfl)
        | apply Dr.iso (by first | rfl | (show (_ == _ : Bool) = true; first | rfl | (simp [*]; done) | (simp; omega))) (by kernel_rfl) rfl rfl (Op1.alloc (fun _ => rfl)) (by first | rfl | (rw [beq_ff]; omega)) (fun _ => rfl)
        | apply Dr.iso0 (by first | rfl | (show (_ == _ : Bool) = true; first | rfl | (simp [*]; done) | (simp; omega))) (by kernel_rfl) rfl rfl (Op1.alloc (fun _ => rfl)) (fun _ => rfl)
        | apply Dr.bar (by first | rfl | (show (_ == _ : Bool) = true; first | rfl | (simp [*]; done) | (simp; omega))) (by kernel_rfl) (fun _ => rfl) (Op1.box (fun _ => rfl)) (fun _ => rfl)
        | apply Dr.iso (by first | rfl | (show (_ == _ : Bool) = true; first | rfl | (simp [*]; done) | (simp; omega))) (by kernel_rfl) rfl rfl (Op1.box (fun _ => rfl)) (by first | rfl | (rw [beq_ff]; omega)) (fun _ => rfl)
        | apply Dr.iso0 (by first | rfl | (show (_ == _ : Bool) = true; first | rfl | (simp [*]; done) | (simp; omega))) (by kernel_rfl) rfl rfl (Op1.box (fun _ => rfl)) (fun _ => rfl)
        | apply Dr.bar (by first | rfl | (show (_ == _ : Bool) = true; first | rfl | (simp [*]; done) | (simp; omega))) (by kernel_rfl) (fun _ => rfl) (Op1.pure fun _ _ => rfl) (fun _ => rfl)
        | apply Dr.iso (by first | rfl | (show (_ == _ : Bool) = true; first | rfl | (simp [*]; done) | (simp; omega))) (by kernel_rfl) rfl rfl (Op1.pure fun _ _ => rfl) (by first | rfl | (rw [beq_ff]; omega)) (fun _ => rfl)
        | apply Dr.iso0 (by first | rfl | (show (_ == _ : Bool) = true; first | rfl | (simp [*]; done) | (simp; omega))) (by kernel_rfl) rfl rfl (Op1.pure fun _ _ => rfl) (fun _ => rfl)
        | apply Sq.op (by first | rfl | (show (_ == _ : Bool) = true; first | rfl | (simp [*]; done) | (simp; omega))) (Op1.load (fun _ => rfl) (by first | assumption | exact Tr.get_same _ _ _ | (rw [Tr.get_ne _ _ (by omega)]; first | assumption | exact Tr.get_same _ _ _ | (rw [Tr.get_ne _ _ (by omega)]; first | assumption | exact Tr.get_same _ _ _ | (rw [Tr.get_ne _ _ (by omega)]; first | assumption | exact Tr.get_same _ _ _ | (rw [Tr.get_ne _ _ (by omega)]; first | assumption | exact Tr.get_same _ _ _))))) (by exact fun _ => rfl)) (fun _ => rfl)
        | apply Sq.op (by first | rfl | (show (_ == _ : Bool) = true; first | rfl | (simp [*]; done) | (simp; omega))) (Op1.store (fun _ => rfl) (fun _ => rfl) (fun _ => rfl) rfl (by exact Nat.succ_pos _) (by omega) rfl (by first | assumption | exact Tr.get_same _ _ _ | (rw [Tr.get_ne _ _ (by omega)]; first | assumption | exact Tr.get_same _ _ _ | (rw [Tr.get_ne _ _ (by omega)]; first | assumption | exact Tr.get_same _ _ _ | (rw [Tr.get_ne _ _ (by omega)]; first | assumption | exact Tr.get_same _ _ _ | (rw [Tr.get_ne _ _ (by omega)]; first | assumption | exact Tr.get_same _ _ _))))) (by first | decide | omega) (by exact fun _ => rfl)) (fun _ => rfl)
        | apply Sq.op (by first | rfl | (show (_ == _ : Bool) = true; first | rfl | (simp [*]; done) | (simp; omega))) (Op1.alloc (fun _ => rfl)) (fun _ => rfl)
        | apply Sq.op (by first | rfl | (show (_ == _ : Bool) = true; first | rfl | (simp [*]; done) | (simp; omega))) (Op1.box (fun _ => rfl)) (fun _ => rfl)
        | apply Sq.out (by first | rfl | (show (_ == _ : Bool) = false; first | rfl | (simp [*]; done) | (simp; omega))) (fun _ => rfl)
        | apply Sq.op (by first | rfl | (show (_ == _ : Bool) = true; first | rfl | (simp [*]; done) | (simp; omega))) Op1.move_c (fun _ => rfl)
        | apply Sq.op (by first | rfl | (show (_ == _ : Bool) = true; first | rfl | (simp [*]; done) | (simp; omega))) Op1.assign_c (fun _ => rfl)
        | apply Sq.op (by first | rfl | (show (_ == _ : Bool) = true; first | rfl | (simp [*]; done) | (simp; omega))) (bin_add (by first | exact c_int | exact fun _ => rfl) (by first | exact c_int | exact fun _ => rfl)) (fun _ => rfl)
        | apply Sq.op (by first | rfl | (show (_ == _ : Bool) = true; first | rfl | (simp [*]; done) | (simp; omega))) (bin_sub (by first | exact c_int | exact fun _ => rfl) (by first | exact c_int | exact fun _ => rfl)) (fun _ => rfl)
        | apply Sq.op (by first | rfl | (show (_ == _ : Bool) = true; first | rfl | (simp [*]; done) | (simp; omega))) (bin_mul (by first | exact c_int | exact fun _ => rfl) (by first | exact c_int | exact fun _ => rfl)) (fun _ => rfl)
        | apply Sq.op (by first | rfl | (show (_ == _ : Bool) = true; first | rfl | (simp [*]; done) | (simp; omega))) (bin_and (by first | exact c_int | exact fun _ => rfl) (by first | exact c_int | exact fun _ => rfl)) (fun _ => rfl)
        | apply Sq.op (by first | rfl | (show (_ == _ : Bool) = true; first | rfl | (simp [*]; done) | (simp; omega))) (bin_or (by first | exact c_int | exact fun _ => rfl) (by first | exact c_int | exact fun _ => rfl)) (fun _ => rfl)
        | apply Sq.op (by first | rfl | (show (_ == _ : Bool) = true; first | rfl | (simp [*]; done) | (simp; omega))) (bin_xor (by first | exact c_int | exact fun _ => rfl) (by first | exact c_int | exact fun _ => rfl)) (fun _ => rfl)
        | apply Sq.op (by first | rfl | (show (_ == _ : Bool) = true; first | rfl | (simp [*]; done) | (simp; omega))) (bin_eql (by first | exact c_int | exact fun _ => rfl) (by first | exact c_int | exact fun _ => rfl)) (fun _ => rfl)
        | apply Sq.op (by first | rfl | (show (_ == _ : Bool) = true; first | rfl | (simp [*]; done) | (simp; omega))) (bin_neq (by first | exact c_int | exact fun _ => rfl) (by first | exact c_int | exact fun _ => rfl)) (fun _ => rfl)
        | apply Sq.op (by first | rfl | (show (_ == _ : Bool) = true; first | rfl | (simp [*]; done) | (simp; omega))) (bin_lss (by first | exact c_int | exact fun _ => rfl) (by first | exact c_int | exact fun _ => rfl)) (fun _ => rfl)
        | apply Sq.op (by first | rfl | (show (_ == _ : Bool) = true; first | rfl | (simp [*]; done) | (simp; omega))) (bin_gtr (by first | exact c_int | exact fun _ => rfl) (by first | exact c_int | exact fun _ => rfl)) (fun _ => rfl)
        | apply Sq.op (by first | rfl | (show (_ == _ : Bool) = true; first | rfl | (simp [*]; done) | (simp; omega))) (bin_leq (by first | exact c_int | exact fun _ => rfl) (by first | exact c_int | exact fun _ => rfl)) (fun _ => rfl)
        | apply Sq.op (by first | rfl | (show (_ == _ : Bool) = true; first | rfl | (simp [*]; done) | (simp; omega))) (bin_geq (by first | exact c_int | exact fun _ => rfl) (by first | exact c_int | exact fun _ => rfl)) (fun _ => rfl)
        | apply Sq.op (by first | rfl | (show (_ == _ : Bool) = true; first | rfl | (simp [*]; done) | (simp; omega))) (bin_quo (by first | exact c_int | exact fun _ => rfl) (by first | exact c_int | exact fun _ => rfl) (by decide)) (fun _ => rfl)
        | apply Sq.op (by first | rfl | (show (_ == _ : Bool) = true; first | rfl | (simp [*]; done) | (simp; omega))) (bin_rem (by first | exact c_int | exact fun _ => rfl) (by first | exact c_int | exact fun _ => rfl) (by decide)) (fun _ => rfl)
        | apply Sq.op (by first | rfl | (show (_ == _ : Bool) = true; first | rfl | (simp [*]; done) | (simp; omega))) (bin_shl (by first | exact c_int | exact fun _ => rfl) (by first | exact c_int | exact fun _ => rfl) (by decide)) (fun _ => rfl)
        | apply Sq.op (by first | rfl | (show (_ == _ : Bool) = true; first | rfl | (simp [*]; done) | (simp; omega))) (bin_shr (by first | exact c_int | exact fun _ => rfl) (by first | exact c_int | exact fun _ => rfl) (by decide)) (fun _ => rfl)
        | apply Sq.op (by first | rfl | (show (_ == _ : Bool) = true; first | rfl | (simp [*]; done) | (simp; omega))) (str_eql (by first | exact c_int | exact fun _ => rfl) (by first | exact c_int | exact fun _ => rfl)) (fun _ => rfl)
        | apply Sq.op (by first | rfl | (show (_ == _ : Bool) = true; first | rfl | (simp [*]; done) | (simp; omega))) (str_neq (by first | exact c_int | exact fun _ => rfl) (by first | exact c_int | exact fun _ => rfl)) (fun _ => rfl)
        | apply Sq.op (by first | rfl | (show (_ == _ : Bool) = true; first | rfl | (simp [*]; done) | (simp; omega))) (Op1.pure fun _ _ => rfl) (fun _ => rfl)
        | apply Sq.op (by first | rfl | (show (_ == _ : Bool) = true; first | rfl | (simp [*]; done) | (simp; omega))) (un_not (fun _ => rfl)) (fun _ => rfl)
        | apply Sq.op (by first | rfl | (show (_ == _ : Bool) = true; first | rfl | (simp [*]; done) | (simp; omega))) (Op1.pick_t (fun _ => rfl) (by first | rfl | assumption | (simp [*]; done) | (simp; omega)) (fun _ => rfl)) (fun _ => rfl)
        | apply Sq.op (by first | rfl | (show (_ == _ : Bool) = true; first | rfl | (simp [*]; done) | (simp; omega))) (Op1.pick_f (fun _ => rfl) (by first | rfl | assumption | (simp [*]; done) | (simp; omega)) (fun _ => rfl)) (fun _ => rfl))
    case he => exact .inr rfl
    case hr => exact fun _ => rfl
    case ho => exact fun _ => rfl
  case hv =>
    show AV.i .i64 (IntKind.i64.wrap ((n : Int) - a)) = _
    rw [wrap_i64_id _ (by omega) (by omega)]
theorem length_nil (hX : X 55 = none) (h : T) (lim nx : Nat) : Cl Tryd.prog X lim 55 [.sn] h nx (.tu [.i .i64 0, .i .i64 0]) h nx := by
  apply Cl.body (m := 1) hX Tryd.func55 rfl (fun _ => rfl) rfl
  case hc =>
    repeat' (first
      | exact Ev.ret
      | apply Ev.loop_out
      | exact Ev.skip
      | exact Ev.exit
      | exact Ev.label
      | exact Ex.exi_ne
      | exact Ex.ret_ne
      | exact Ex.got_ne
      | exact Or.inl ⟨Ex.exi_ne, rfl, rfl, rfl, rfl⟩
      | exact Or.inl ⟨Ex.ret_ne, rfl, rfl, rfl, rfl⟩
      | exact Or.inl ⟨Ex.got_ne, rfl, rfl, rfl, rfl⟩
      | refine Or.inr ⟨rfl, ?_⟩
      | exact Or.inl ⟨rfl, rfl⟩
      | exact Or.inr ⟨Ex.nor_other, rfl⟩
      | exact Or.inr ⟨Ex.ret_other, rfl⟩
      | exact Or.inr ⟨Ex.exi_other rfl, rfl⟩
      | exact Or.inr ⟨Ex.got_other, rfl⟩
      | apply Ev.region rfl
      | apply Ev.seq2
      | apply Ev.block3
      | apply Ev.cond_t (fun _ => rfl) (by first | rfl | assumption | (simp [*]; done) | (simp; omega))
      | apply Ev.cond_f (fun _ => rfl) (by first | rfl | assumption | (simp [*]; done) | (simp; omega))
      | exact Sq.nil
      | exact Dr.nil
      | apply Sq.op (by first | rfl | (show (_ == _ : Bool) = true; first | rfl | (simp [*]; done) | (simp; omega))) (Op1.load (fun _ => rfl) (by first | assumption | exact Tr.get_same _ _ _ | (rw [Tr.get_ne _ _ (by omega)]; first | assumption | exact Tr.get_same _ _ _ | (rw [Tr.get_ne _ _ (by omega)]; first | assumption | exact Tr.get_same _ _ _ | (rw [Tr.get_ne _ _ (by omega)]; first | assumption | exact Tr.get_same _ _ _ | (rw [Tr.get_ne _ _ (by omega)]; first | assumption | exact Tr.get_same _ _ _))))) (by exact fun _ => rfl)) (fun _ => rfl)
      | apply Sq.op (by first | rfl | (show (_ == _ : Bool) = true; first | rfl | (simp [*]; done) | (simp; omega))) (Op1.store (fun _ => rfl) (fun _ => rfl) (fun _ => rfl) rfl (by exact Nat.succ_pos _) (by omega) rfl (by first | assumption | exact Tr.get_same _ _ _ | (rw [Tr.get_ne _ _ (by omega)]; first | assumption | exact Tr.get_same _ _ _ | (rw [Tr.get_ne _ _ (by omega)]; first | assumption | exact Tr.get_same _ _ _ | (rw [Tr.get_ne _ _ (by omega)]; first | assumption | exact Tr.get_same _ _ _ | (rw [Tr.get_ne _ _ (by omega)]; first | assumption | exact Tr.get_same _ _ _))))) (by first | decide | omega) (by exact fun _ => rfl)) (fun _ => rfl)
      | apply Sq.op (by first | rfl | (show (_ == _ : Bool) = true; first | rfl | (simp [*]; done) | (simp; omega))) (Op1.alloc (fun _ => rfl)) (fun _ => rfl)
      | apply Sq.op (by first | rfl | (show (_ == _ : Bool) = true; first | rfl | (simp [*]; done) | (simp; omega))) (Op1.box (fun _ => rfl)) (fun _ => rfl)
      | apply Sq.out (by first | rfl | (show (_ == _ : Bool) = false; first | rfl | (simp [*]; done) | (simp; omega))) (fun _ => rfl)
      | apply Sq.op (by first | rfl | (show (_ == _ : Bool) = true; first | rfl | (simp [*]; done) | (simp; omega))) Op1.move_c (fun _ => rfl)
      | apply Sq.op (by first | rfl | (show (_ == _ : Bool) = true; first | rfl | (simp [*]; done) | (simp; omega))) Op1.assign_c (fun _ => rfl)
      | apply Sq.op (by first | rfl | (show (_ == _ : Bool) = true; first | rfl | (simp [*]; done) | (simp; omega))) (bin_add (by first | exact c_int | exact fun _ => rfl) (by first | exact c_int | exact fun _ => rfl)) (fun _ => rfl)
      | apply Sq.op (by first | rfl | (show (_ == _ : Bool) = true; first | rfl | (simp [*]; done) | (simp; omega))) (bin_sub (by first | exact c_int | exact fun _ => rfl) (by first | exact c_int | exact fun _ => rfl)) (fun _ => rfl)
      | apply Sq.op (by first | rfl | (show (_ == _ : Bool) = true; first | rfl | (simp [*]; done) | (simp; omega))) (bin_mul (by first | exact c_int | exact fun _ => rfl) (by first | exact c_int | exact fun _ => rfl)) (fun _ => rfl)
      | apply Sq.op (by first | rfl | (show (_ == _ : Bool) = true; first | rfl | (simp [*]; done) | (simp; omega))) (bin_and (by first | exact c_int | exact fun _ => rfl) (by first | exact c_int | exact fun _ => rfl)) (fun _ => rfl)
      | apply Sq.op (by first | rfl | (show (_ == _ : Bool) = true; first | rfl | (simp [*]; done) | (simp; omega))) (bin_or (by first | exact c_int | exact fun _ => rfl) (by first | exact c_int | exact fun _ => rfl)) (fun _ => rfl)
      | apply Sq.op (by first | rfl | (show (_ == _ : Bool) = true; first | rfl | (simp [*]; done) | (simp; omega))) (bin_xor (by first | exact c_int | exact fun _ => rfl) (by first | exact c_int | exact fun _ => rfl)) (fun _ => rfl)
      | apply Sq.op (by first | rfl | (show (_ == _ : Bool) = true; first | rfl | (simp [*]; done) | (simp; omega))) (bin_eql (by first | exact c_int | exact fun _ => rfl) (by first | exact c_int | exact fun _ => rfl)) (fun _ => rfl)
      | apply Sq.op (by first | rfl | (show (_ == _ : Bool) = true; first | rfl | (simp [*]; done) | (simp; omega))) (bin_neq (by first | exact c_int | exact fun _ => rfl) (by first | exact c_int | exact fun _ => rfl)) (fun _ => rfl)
      | apply Sq.op (by first | rfl | (show (_ == _ : Bool) = true; first | rfl | (simp [*]; done) | (simp; omega))) (bin_lss (by first | exact c_int | exact fun _ => rfl) (by first | exact c_int | exact fun _ => rfl)) (fun _ => rfl)
      | apply Sq.op (by first | rfl | (show (_ == _ : Bool) = true; first | rfl | (simp [*]; done) | (simp; omega))) (bin_gtr (by first | exact c_int | exact fun _ => rfl) (by first | exact c_int | exact fun _ => rfl)) (fun _ => rfl)
      | apply Sq.op (by first | rfl | (show (_ == _ : Bool) = true; first | rfl | (simp [*]; done) | (simp; omega))) (bin_leq (by first | exact c_int | exact fun _ => rfl) (by first | exact c_int | exact fun _ => rfl)) (fun _ => rfl)
      | apply Sq.op (by first | rfl | (show (_ == _ : Bool) = true; first | rfl | (simp [*]; done) | (simp; omega))) (bin_geq (by first | exact c_int | exact fun _ => rfl) (by first | exact c_int | exact fun _ => rfl)) (fun _ => rfl)
      | apply Sq.op (by first | rfl | (show (_ == _ : Bool) = true; first | rfl | (simp [*]; done) | (simp; omega))) (bin_quo (by first | exact c_int | exact fun _ => rfl) (by first | exact c_int | exact fun _ => rfl) (by decide)) (fun _ => rfl)
      | apply Sq.op (by first | rfl | (show (_ == _ : Bool) = true; first | rfl | (simp [*]; done) | (simp; omega))) (bin_rem (by first | exact c_int | exact fun _ => rfl) (by first | exact c_int | exact fun _ => rfl) (by decide)) (fun _ => rfl)
      | apply Sq.op (by first | rfl | (show (_ == _ : Bool) = true; first | rfl | (simp [*]; done) | (simp; omega))) (bin_shl (by first | exact c_int | exact fun _ => rfl) (by first | exact c_int | exact fun _ => rfl) (by decide)) (fun _ => rfl)
      | apply Sq.op (by first | rfl | (show (_ == _ : Bool) = true; first | rfl | (simp [*]; done) | (simp; omega))) (bin_shr (by first | exact c_int | exact fun _ => rfl) (by first | exact c_int | exact fun _ => rfl) (by decide)) (fun _ => rfl)
      | apply Sq.op (by first | rfl | (show (_ == _ : Bool) = true; first | rfl | (simp [*]; done) | (simp; omega))) (str_eql (by first | exact c_int | exact fun _ => rfl) (by first | exact c_int | exact fun _ => rfl)) (fun _ => rfl)
      | apply Sq.op (by first | rfl | (show (_ == _ : Bool) = true; first | rfl | (simp [*]; done) | (simp; omega))) (str_neq (by first | exact c_int | exact fun _ => rfl) (by first | exact c_int | exact fun _ => rfl)) (fun _ => rfl)
      | apply Sq.op (by first | rfl | (show (_ == _ : Bool) = true; first | rfl | (simp [*]; done) | (simp; omega))) (Op1.pure fun _ _ => rfl) (fun _ => rfl)
      | apply Sq.op (by first | rfl | (show (_ == _ : Bool) = true; first | rfl | (simp [*]; done) | (simp; omega))) (un_not (fun _ => rfl)) (fun _ => rfl)
      | apply Sq.op (by first | rfl | (show (_ == _ : Bool) = true; first | rfl | (simp [*]; done) | (simp; omega))) (Op1.pick_t (fun _ => rfl) (by first | rfl | assumption | (simp [*]; done) | (simp; omega)) (fun _ => rfl)) (fun _ => rfl)
      | apply Sq.op (by first | rfl | (show (_ == _ : Bool) = true; first | rfl | (simp [*]; done) | (simp; omega))) (Op1.pick_f (fun _ => rfl) (by first | rfl | assumption | (simp [*]; done) | (simp; omega)) (fun _ => rfl)) (fun _ => rfl))
  case he => exact .inr rfl
  case hr => exact fun _ => rfl
  case ho => exact fun _ => rfl
end Clo
end Go.Proofs.YtlcggjaogbclkaaDoor
