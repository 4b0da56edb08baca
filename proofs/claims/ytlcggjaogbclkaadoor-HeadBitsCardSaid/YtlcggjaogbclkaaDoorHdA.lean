/-
  head.set: what its run comes to, for each part.
-/
import Derived.Test.YtlcggjaogbclkaaDoorEdCo
namespace Go.Proofs.YtlcggjaogbclkaaDoor
namespace Clo
open Go.RowKit
set_option linter.unusedVariables false
set_option maxRecDepth 10000
set_option maxHeartbeats 16000000
variable {X : XT}
theorem set_0 (hX : X 50 = none) (c0 c2 c10 n : Int) (c1 c3 c4 c5 c6 c7 c8 c9 : Bool) (lim : Nat) (h : T) (nx : Nat) (hlim : lim ≤ nx) :
    ∃ h', Cl Tryd.prog X lim 50 [.ag [.i .u16 c0, .b c1, .i .u8 c2, .b c3, .b c4, .b c5, .b c6, .b c7, .b c8, .b c9, .i .u8 c10], .i .i64 0, .i .u16 n] h nx (.ag [.i .u16 c0, .b (n != 0), .i .u8 c2, .b c3, .b c4, .b c5, .b c6, .b c7, .b c8, .b c9, .i .u8 c10]) h' (nx + 2) ∧ ∀ id, id < nx → h'.get id = h.get id := by
  apply Exists.intro
  apply And.intro
  case h.left =>
    apply Cl.eq
    case a =>
      apply Cl.body (m := 3) hX Tryd.func50 rfl (fun _ => rfl) rfl
      case hc =>
        repeat' (first
          | exact Ev.ret
          | apply Ev.loop_out
          | exact Ev.skip
          | exact Ev.exit
          | exact Ev.label
          | exact Ex.exi_ne
          | exact Ex.ret_ne
          | exact Ex.got_ne
          | exact Or.inl ⟨Ex.exi_ne, rfl, rfl, rfl, rfl⟩
          | exact Or.inl ⟨Ex.ret_ne, rfl, rfl, rfl, rfl⟩
          | exact Or.inl ⟨Ex.got_ne, rfl, rfl, rfl, rfl⟩
          | refine Or.inr ⟨rfl, ?_⟩
          | exact Or.inl ⟨rfl, rfl⟩
          | exact Or.inr ⟨Ex.nor_other, rfl⟩
          | exact Or.inr ⟨Ex.ret_other, rfl⟩
          | exact Or.inr ⟨Ex.exi_other rfl, rfl⟩
          | exact Or.inr ⟨Ex.got_other, rfl⟩
          | apply Ev.region rfl
          | apply Ev.seq2
          | apply Ev.block3
          | apply Ev.cond_t (fun _ => rfl) (by first | rfl | assumption | (simp [*]; done) | (simp; omega))
          | apply Ev.cond_f (fun _ => rfl) (by first | rfl | assumption | (simp [*]; done) | (simp; omega))
          | exact Sq.nil
          | exact Dr.nil
          | apply Sq.op (by first | rfl | (show (_ == _ : Bool) = true; first | rfl | (simp [*]; done) | (simp; omega))) (conv_int Tryd.underlying22 Tryd.underlying5 (fun _ => rfl)) (fun _ => rfl)
          | apply Sq.op (by first | rfl | (show (_ == _ : Bool) = true; first | rfl | (simp [*]; done) | (simp; omega))) (Op1.load (fun _ => rfl) (by first | assumption | exact Tr.get_same _ _ _ | (rw [Tr.get_ne _ _ (by omega)]; first | assumption | exact Tr.get_same _ _ _ | (rw [Tr.get_ne _ _ (by omega)]; first | assumption | exact Tr.get_same _ _ _ | (rw [Tr.get_ne _ _ (by omega)]; first | assumption | exact Tr.get_same _ _ _ | (rw [Tr.get_ne _ _ (by omega)]; first | assumption | exact Tr.get_same _ _ _))))) (by exact fun _ => rfl)) (fun _ => rfl)
          | apply Sq.op (by first | rfl | (show (_ == _ : Bool) = true; first | rfl | (simp [*]; done) | (simp; omega))) (Op1.store (fun _ => rfl) (fun _ => rfl) (fun _ => rfl) rfl (by exact Nat.succ_pos _) (by omega) rfl (by first | assumption | exact Tr.get_same _ _ _ | (rw [Tr.get_ne _ _ (by omega)]; first | assumption | exact Tr.get_same _ _ _ | (rw [Tr.get_ne _ _ (by omega)]; first | assumption | exact Tr.get_same _ _ _ | (rw [Tr.get_ne _ _ (by omega)]; first | assumption | exact Tr.get_same _ _ _ | (rw [Tr.get_ne _ _ (by omega)]; first | assumption | exact Tr.get_same _ _ _))))) (by first | decide | omega) (by exact fun _ => rfl)) (fun _ => rfl)
          | apply Sq.op (by first | rfl | (show (_ == _ : Bool) = true; first | rfl | (simp [*]; done) | (simp; omega))) (Op1.alloc (fun _ => rfl)) (fun _ => rfl)
          | apply Sq.op (by first | rfl | (show (_ == _ : Bool) = true; first | rfl | (simp [*]; done) | (simp; omega))) (Op1.box (fun _ => rfl)) (fun _ => rfl)
          | apply Sq.out (by first | rfl | (show (_ == _ : Bool) = false; first | rfl | (simp [*]; done) | (simp; omega))) (fun _ => rfl)
          | apply Sq.op (by first | rfl | (show (_ == _ : Bool) = true; first | rfl | (simp [*]; done) | (simp; omega))) Op1.move_c (fun _ => rfl)
          | apply Sq.op (by first | rfl | (show (_ == _ : Bool) = true; first | rfl | (simp [*]; done) | (simp; omega))) Op1.assign_c (fun _ => rfl)
          | apply Sq.op (by first | rfl | (show (_ == _ : Bool) = true; first | rfl | (simp [*]; done) | (simp; omega))) (bin_add (by first | exact c_int | exact fun _ => rfl) (by first | exact c_int | exact fun _ => rfl)) (fun _ => rfl)
          | apply Sq.op (by first | rfl | (show (_ == _ : Bool) = true; first | rfl | (simp [*]; done) | (simp; omega))) (bin_sub (by first | exact c_int | exact fun _ => rfl) (by first | exact c_int | exact fun _ => rfl)) (fun _ => rfl)
          | apply Sq.op (by first | rfl | (show (_ == _ : Bool) = true; first | rfl | (simp [*]; done) | (simp; omega))) (bin_mul (by first | exact c_int | exact fun _ => rfl) (by first | exact c_int | exact fun _ => rfl)) (fun _ => rfl)
          | apply Sq.op (by first | rfl | (show (_ == _ : Bool) = true; first | rfl | (simp [*]; done) | (simp; omega))) (bin_and (by first | exact c_int | exact fun _ => rfl) (by first | exact c_int | exact fun _ => rfl)) (fun _ => rfl)
          | apply Sq.op (by first | rfl | (show (_ == _ : Bool) = true; first | rfl | (simp [*]; done) | (simp; omega))) (bin_or (by first | exact c_int | exact fun _ => rfl) (by first | exact c_int | exact fun _ => rfl)) (fun _ => rfl)
          | apply Sq.op (by first | rfl | (show (_ == _ : Bool) = true; first | rfl | (simp [*]; done) | (simp; omega))) (bin_xor (by first | exact c_int | exact fun _ => rfl) (by first | exact c_int | exact fun _ => rfl)) (fun _ => rfl)
          | apply Sq.op (by first | rfl | (show (_ == _ : Bool) = true; first | rfl | (simp [*]; done) | (simp; omega))) (bin_eql (by first | exact c_int | exact fun _ => rfl) (by first | exact c_int | exact fun _ => rfl)) (fun _ => rfl)
          | apply Sq.op (by first | rfl | (show (_ == _ : Bool) = true; first | rfl | (simp [*]; done) | (simp; omega))) (bin_neq (by first | exact c_int | exact fun _ => rfl) (by first | exact c_int | exact fun _ => rfl)) (fun _ => rfl)
          | apply Sq.op (by first | rfl | (show (_ == _ : Bool) = true; first | rfl | (simp [*]; done) | (simp; omega))) (bin_lss (by first | exact c_int | exact fun _ => rfl) (by first | exact c_int | exact fun _ => rfl)) (fun _ => rfl)
          | apply Sq.op (by first | rfl | (show (_ == _ : Bool) = true; first | rfl | (simp [*]; done) | (simp; omega))) (bin_gtr (by first | exact c_int | exact fun _ => rfl) (by first | exact c_int | exact fun _ => rfl)) (fun _ => rfl)
          | apply Sq.op (by first | rfl | (show (_ == _ : Bool) = true; first | rfl | (simp [*]; done) | (simp; omega))) (bin_leq (by first | exact c_int | exact fun _ => rfl) (by first | exact c_int | exact fun _ => rfl)) (fun _ => rfl)
          | apply Sq.op (by first | rfl | (show (_ == _ : Bool) = true; first | rfl | (simp [*]; done) | (simp; omega))) (bin_geq (by first | exact c_int | exact fun _ => rfl) (by first | exact c_int | exact fun _ => rfl)) (fun _ => rfl)
          | apply Sq.op (by first | rfl | (show (_ == _ : Bool) = true; first | rfl | (simp [*]; done) | (simp; omega))) (bin_quo (by first | exact c_int | exact fun _ => rfl) (by first | exact c_int | exact fun _ => rfl) (by decide)) (fun _ => rfl)
          | apply Sq.op (by first | rfl | (show (_ == _ : Bool) = true; first | rfl | (simp [*]; done) | (simp; omega))) (bin_rem (by first | exact c_int | exact fun _ => rfl) (by first | exact c_int | exact fun _ => rfl) (by decide)) (fun _ => rfl)
          | apply Sq.op (by first | rfl | (show (_ == _ : Bool) = true; first | rfl | (simp [*]; done) | (simp; omega))) (bin_shl (by first | exact c_int | exact fun _ => rfl) (by first | exact c_int | exact fun _ => rfl) (by decide)) (fun _ => rfl)
          | apply Sq.op (by first | rfl | (show (_ == _ : Bool) = true; first | rfl | (simp [*]; done) | (simp; omega))) (bin_shr (by first | exact c_int | exact fun _ => rfl) (by first | exact c_int | exact fun _ => rfl) (by decide)) (fun _ => rfl)
          | apply Sq.op (by first | rfl | (show (_ == _ : Bool) = true; first | rfl | (simp [*]; done) | (simp; omega))) (str_eql (by first | exact c_int | exact fun _ => rfl) (by first | exact c_int | exact fun _ => rfl)) (fun _ => rfl)
          | apply Sq.op (by first | rfl | (show (_ == _ : Bool) = true; first | rfl | (simp [*]; done) | (simp; omega))) (str_neq (by first | exact c_int | exact fun _ => rfl) (by first | exact c_int | exact fun _ => rfl)) (fun _ => rfl)
          | apply Sq.op (by first | rfl | (show (_ == _ : Bool) = true; first | rfl | (simp [*]; done) | (simp; omega))) (Op1.pure fun _ _ => rfl) (fun _ => rfl)
          | apply Sq.op (by first | rfl | (show (_ == _ : Bool) = true; first | rfl | (simp [*]; done) | (simp; omega))) (un_not (fun _ => rfl)) (fun _ => rfl)
          | apply Sq.op (by first | rfl | (show (_ == _ : Bool) = true; first | rfl | (simp [*]; done) | (simp; omega))) (Op1.pick_t (fun _ => rfl) (by first | rfl | assumption | (simp [*]; done) | (simp; omega)) (fun _ => rfl)) (fun _ => rfl)
          | apply Sq.op (by first | rfl | (show (_ == _ : Bool) = true; first | rfl | (simp [*]; done) | (simp; omega))) (Op1.pick_f (fun _ => rfl) (by first | rfl | assumption | (simp [*]; done) | (simp; omega)) (fun _ => rfl)) (fun _ => rfl))
      case he => exact .inr rfl
      case hr => exact res_cell (fun _ => rfl) (by first | assumption | exact Tr.get_same _ _ _ | (rw [Tr.get_ne _ _ (by omega)]; first | assumption | exact Tr.get_same _ _ _ | (rw [Tr.get_ne _ _ (by omega)]; first | assumption | exact Tr.get_same _ _ _ | (rw [Tr.get_ne _ _ (by omega)]; first | assumption | exact Tr.get_same _ _ _ | (rw [Tr.get_ne _ _ (by omega)]; first | assumption | exact Tr.get_same _ _ _))))) (by exact fun _ => rfl) res_nil
      case ho => exact fun _ => rfl
    case hv => rfl
  case h.right =>
    intro id hid
    simp only [Tr.get_set]
    repeat rw [if_neg (by omega)]
theorem set_1 (hX : X 50 = none) (c0 c2 c10 n : Int) (c1 c3 c4 c5 c6 c7 c8 c9 : Bool) (lim : Nat) (h : T) (nx : Nat) (hlim : lim ≤ nx) :
    ∃ h', Cl Tryd.prog X lim 50 [.ag [.i .u16 c0, .b c1, .i .u8 c2, .b c3, .b c4, .b c5, .b c6, .b c7, .b c8, .b c9, .i .u8 c10], .i .i64 1, .i .u16 n] h nx (.ag [.i .u16 c0, .b c1, .i .u8 (IntKind.u8.wrap n), .b c3, .b c4, .b c5, .b c6, .b c7, .b c8, .b c9, .i .u8 c10]) h' (nx + 2) ∧ ∀ id, id < nx → h'.get id = h.get id := by
  apply Exists.intro
  apply And.intro
  case h.left =>
    apply Cl.eq
    case a =>
      apply Cl.body (m := 3) hX Tryd.func50 rfl (fun _ => rfl) rfl
      case hc =>
        repeat' (first
          | exact Ev.ret
          | apply Ev.loop_out
          | exact Ev.skip
          | exact Ev.exit
          | exact Ev.label
          | exact Ex.exi_ne
          | exact Ex.ret_ne
          | exact Ex.got_ne
          | exact Or.inl ⟨Ex.exi_ne, rfl, rfl, rfl, rfl⟩
          | exact Or.inl ⟨Ex.ret_ne, rfl, rfl, rfl, rfl⟩
          | exact Or.inl ⟨Ex.got_ne, rfl, rfl, rfl, rfl⟩
          | refine Or.inr ⟨rfl, ?_⟩
          | exact Or.inl ⟨rfl, rfl⟩
          | exact Or.inr ⟨Ex.nor_other, rfl⟩
          | exact Or.inr ⟨Ex.ret_other, rfl⟩
          | exact Or.inr ⟨Ex.exi_other rfl, rfl⟩
          | exact Or.inr ⟨Ex.got_other, rfl⟩
          | apply Ev.region rfl
          | apply Ev.seq2
          | apply Ev.block3
          | apply Ev.cond_t (fun _ => rfl) (by first | rfl | assumption | (simp [*]; done) | (simp; omega))
          | apply Ev.cond_f (fun _ => rfl) (by first | rfl | assumption | (simp [*]; done) | (simp; omega))
          | exact Sq.nil
          | exact Dr.nil
          | apply Sq.op (by first | rfl | (show (_ == _ : Bool) = true; first | rfl | (simp [*]; done) | (simp; omega))) (conv_int Tryd.underlying22 Tryd.underlying5 (fun _ => rfl)) (fun _ => rfl)
          | apply Sq.op (by first | rfl | (show (_ == _ : Bool) = true; first | rfl | (simp [*]; done) | (simp; omega))) (Op1.load (fun _ => rfl) (by first | assumption | exact Tr.get_same _ _ _ | (rw [Tr.get_ne _ _ (by omega)]; first | assumption | exact Tr.get_same _ _ _ | (rw [Tr.get_ne _ _ (by omega)]; first | assumption | exact Tr.get_same _ _ _ | (rw [Tr.get_ne _ _ (by omega)]; first | assumption | exact Tr.get_same _ _ _ | (rw [Tr.get_ne _ _ (by omega)]; first | assumption | exact Tr.get_same _ _ _))))) (by exact fun _ => rfl)) (fun _ => rfl)
          | apply Sq.op (by first | rfl | (show (_ == _ : Bool) = true; first | rfl | (simp [*]; done) | (simp; omega))) (Op1.store (fun _ => rfl) (fun _ => rfl) (fun _ => rfl) rfl (by exact Nat.succ_pos _) (by omega) rfl (by first | assumption | exact Tr.get_same _ _ _ | (rw [Tr.get_ne _ _ (by omega)]; first | assumption | exact Tr.get_same _ _ _ | (rw [Tr.get_ne _ _ (by omega)]; first | assumption | exact Tr.get_same _ _ _ | (rw [Tr.get_ne _ _ (by omega)]; first | assumption | exact Tr.get_same _ _ _ | (rw [Tr.get_ne _ _ (by omega)]; first | assumption | exact Tr.get_same _ _ _))))) (by first | decide | omega) (by exact fun _ => rfl)) (fun _ => rfl)
          | apply Sq.op (by first | rfl | (show (_ == _ : Bool) = true; first | rfl | (simp [*]; done) | (simp; omega))) (Op1.alloc (fun _ => rfl)) (fun _ => rfl)
          | apply Sq.op (by first | rfl | (show (_ == _ : Bool) = true; first | rfl | (simp [*]; done) | (simp; omega))) (Op1.box (fun _ => rfl)) (fun _ => rfl)
          | apply Sq.out (by first | rfl | (show (_ == _ : Bool) = false; first | rfl | (simp [*]; done) | (simp; omega))) (fun _ => rfl)
          | apply Sq.op (by first | rfl | (show (_ == _ : Bool) = true; first | rfl | (simp [*]; done) | (simp; omega))) Op1.move_c (fun _ => rfl)
          | apply Sq.op (by first | rfl | (show (_ == _ : Bool) = true; first | rfl | (simp [*]; done) | (simp; omega))) Op1.assign_c (fun _ => rfl)
          | apply Sq.op (by first | rfl | (show (_ == _ : Bool) = true; first | rfl | (simp [*]; done) | (simp; omega))) (bin_add (by first | exact c_int | exact fun _ => rfl) (by first | exact c_int | exact fun _ => rfl)) (fun _ => rfl)
          | apply Sq.op (by first | rfl | (show (_ == _ : Bool) = true; first | rfl | (simp [*]; done) | (simp; omega))) (bin_sub (by first | exact c_int | exact fun _ => rfl) (by first | exact c_int | exact fun _ => rfl)) (fun _ => rfl)
          | apply Sq.op (by first | rfl | (show (_ == _ : Bool) = true; first | rfl | (simp [*]; done) | (simp; omega))) (bin_mul (by first | exact c_int | exact fun _ => rfl) (by first | exact c_int | exact fun _ => rfl)) (fun _ => rfl)
          | apply Sq.op (by first | rfl | (show (_ == _ : Bool) = true; first | rfl | (simp [*]; done) | (simp; omega))) (bin_and (by first | exact c_int | exact fun _ => rfl) (by first | exact c_int | exact fun _ => rfl)) (fun _ => rfl)
          | apply Sq.op (by first | rfl | (show (_ == _ : Bool) = true; first | rfl | (simp [*]; done) | (simp; omega))) (bin_or (by first | exact c_int | exact fun _ => rfl) (by first | exact c_int | exact fun _ => rfl)) (fun _ => rfl)
          | apply Sq.op (by first | rfl | (show (_ == _ : Bool) = true; first | rfl | (simp [*]; done) | (simp; omega))) (bin_xor (by first | exact c_int | exact fun _ => rfl) (by first | exact c_int | exact fun _ => rfl)) (fun _ => rfl)
          | apply Sq.op (by first | rfl | (show (_ == _ : Bool) = true; first | rfl | (simp [*]; done) | (simp; omega))) (bin_eql (by first | exact c_int | exact fun _ => rfl) (by first | exact c_int | exact fun _ => rfl)) (fun _ => rfl)
          | apply Sq.op (by first | rfl | (show (_ == _ : Bool) = true; first | rfl | (simp [*]; done) | (simp; omega))) (bin_neq (by first | exact c_int | exact fun _ => rfl) (by first | exact c_int | exact fun _ => rfl)) (fun _ => rfl)
          | apply Sq.op (by first | rfl | (show (_ == _ : Bool) = true; first | rfl | (simp [*]; done) | (simp; omega))) (bin_lss (by first | exact c_int | exact fun _ => rfl) (by first | exact c_int | exact fun _ => rfl)) (fun _ => rfl)
          | apply Sq.op (by first | rfl | (show (_ == _ : Bool) = true; first | rfl | (simp [*]; done) | (simp; omega))) (bin_gtr (by first | exact c_int | exact fun _ => rfl) (by first | exact c_int | exact fun _ => rfl)) (fun _ => rfl)
          | apply Sq.op (by first | rfl | (show (_ == _ : Bool) = true; first | rfl | (simp [*]; done) | (simp; omega))) (bin_leq (by first | exact c_int | exact fun _ => rfl) (by first | exact c_int | exact fun _ => rfl)) (fun _ => rfl)
          | apply Sq.op (by first | rfl | (show (_ == _ : Bool) = true; first | rfl | (simp [*]; done) | (simp; omega))) (bin_geq (by first | exact c_int | exact fun _ => rfl) (by first | exact c_int | exact fun _ => rfl)) (fun _ => rfl)
          | apply Sq.op (by first | rfl | (show (_ == _ : Bool) = true; first | rfl | (simp [*]; done) | (simp; omega))) (bin_quo (by first | exact c_int | exact fun _ => rfl) (by first | exact c_int | exact fun _ => rfl) (by decide)) (fun _ => rfl)
          | apply Sq.op (by first | rfl | (show (_ == _ : Bool) = true; first | rfl | (simp [*]; done) | (simp; omega))) (bin_rem (by first | exact c_int | exact fun _ => rfl) (by first | exact c_int | exact fun _ => rfl) (by decide)) (fun _ => rfl)
          | apply Sq.op (by first | rfl | (show (_ == _ : Bool) = true; first | rfl | (simp [*]; done) | (simp; omega))) (bin_shl (by first | exact c_int | exact fun _ => rfl) (by first | exact c_int | exact fun _ => rfl) (by decide)) (fun _ => rfl)
          | apply Sq.op (by first | rfl | (show (_ == _ : Bool) = true; first | rfl | (simp [*]; done) | (simp; omega))) (bin_shr (by first | exact c_int | exact fun _ => rfl) (by first | exact c_int | exact fun _ => rfl) (by decide)) (fun _ => rfl)
          | apply Sq.op (by first | rfl | (show (_ == _ : Bool) = true; first | rfl | (simp [*]; done) | (simp; omega))) (str_eql (by first | exact c_int | exact fun _ => rfl) (by first | exact c_int | exact fun _ => rfl)) (fun _ => rfl)
          | apply Sq.op (by first | rfl | (show (_ == _ : Bool) = true; first | rfl | (simp [*]; done) | (simp; omega))) (str_neq (by first | exact c_int | exact fun _ => rfl) (by first | exact c_int | exact fun _ => rfl)) (fun _ => rfl)
          | apply Sq.op (by first | rfl | (show (_ == _ : Bool) = true; first | rfl | (simp [*]; done) | (simp; omega))) (Op1.pure fun _ _ => rfl) (fun _ => rfl)
          | apply Sq.op (by first | rfl | (show (_ == _ : Bool) = true; first | rfl | (simp [*]; done) | (simp; omega))) (un_not (fun _ => rfl)) (fun _ => rfl)
          | apply Sq.op (by first | rfl | (show (_ == _ : Bool) = true; first | rfl | (simp [*]; done) | (simp; omega))) (Op1.pick_t (fun _ => rfl) (by first | rfl | assumption | (simp [*]; done) | (simp; omega)) (fun _ => rfl)) (fun _ => rfl)
          | apply Sq.op (by first | rfl | (show (_ == _ : Bool) = true; first | rfl | (simp [*]; done) | (simp; omega))) (Op1.pick_f (fun _ => rfl) (by first | rfl | assumption | (simp [*]; done) | (simp; omega)) (fun _ => rfl)) (fun _ => rfl))
      case he => exact .inr rfl
      case hr => exact res_cell (fun _ => rfl) (by first | assumption | exact Tr.get_same _ _ _ | (rw [Tr.get_ne _ _ (by omega)]; first | assumption | exact Tr.get_same _ _ _ | (rw [Tr.get_ne _ _ (by omega)]; first | assumption | exact Tr.get_same _ _ _ | (rw [Tr.get_ne _ _ (by omega)]; first | assumption | exact Tr.get_same _ _ _ | (rw [Tr.get_ne _ _ (by omega)]; first | assumption | exact Tr.get_same _ _ _))))) (by exact fun _ => rfl) res_nil
      case ho => exact fun _ => rfl
    case hv => rfl
  case h.right =>
    intro id hid
    simp only [Tr.get_set]
    repeat rw [if_neg (by omega)]
theorem set_2 (hX : X 50 = none) (c0 c2 c10 n : Int) (c1 c3 c4 c5 c6 c7 c8 c9 : Bool) (lim : Nat) (h : T) (nx : Nat) (hlim : lim ≤ nx) :
    ∃ h', Cl Tryd.prog X lim 50 [.ag [.i .u16 c0, .b c1, .i .u8 c2, .b c3, .b c4, .b c5, .b c6, .b c7, .b c8, .b c9, .i .u8 c10], .i .i64 2, .i .u16 n] h nx (.ag [.i .u16 c0, .b c1, .i .u8 c2, .b (n != 0), .b c4, .b c5, .b c6, .b c7, .b c8, .b c9, .i .u8 c10]) h' (nx + 2) ∧ ∀ id, id < nx → h'.get id = h.get id := by
  apply Exists.intro
  apply And.intro
  case h.left =>
    apply Cl.eq
    case a =>
      apply Cl.body (m := 3) hX Tryd.func50 rfl (fun _ => rfl) rfl
      case hc =>
        repeat' (first
          | exact Ev.ret
          | apply Ev.loop_out
          | exact Ev.skip
          | exact Ev.exit
          | exact Ev.label
          | exact Ex.exi_ne
          | exact Ex.ret_ne
          | exact Ex.got_ne
          | exact Or.inl ⟨Ex.exi_ne, rfl, rfl, rfl, rfl⟩
          | exact Or.inl ⟨Ex.ret_ne, rfl, rfl, rfl, rfl⟩
          | exact Or.inl ⟨Ex.got_ne, rfl, rfl, rfl, rfl⟩
          | refine Or.inr ⟨rfl, ?_⟩
          | exact Or.inl ⟨rfl, rfl⟩
          | exact Or.inr ⟨Ex.nor_other, rfl⟩
          | exact Or.inr ⟨Ex.ret_other, rfl⟩
          | exact Or.inr ⟨Ex.exi_other rfl, rfl⟩
          | exact Or.inr ⟨Ex.got_other, rfl⟩
          | apply Ev.region rfl
          | apply Ev.seq2
          | apply Ev.block3
          | apply Ev.cond_t (fun _ => rfl) (by first | rfl | assumption | (simp [*]; done) | (simp; omega))
          | apply Ev.cond_f (fun _ => rfl) (by first | rfl | assumption | (simp [*]; done) | (simp; omega))
          | exact Sq.nil
          | exact Dr.nil
          | apply Sq.op (by first | rfl | (show (_ == _ : Bool) = true; first | rfl | (simp [*]; done) | (simp; omega))) (conv_int Tryd.underlying22 Tryd.underlying5 (fun _ => rfl)) (fun _ => rfl)
          | apply Sq.op (by first | rfl | (show (_ == _ : Bool) = true; first | rfl | (simp [*]; done) | (simp; omega))) (Op1.load (fun _ => rfl) (by first | assumption | exact Tr.get_same _ _ _ | (rw [Tr.get_ne _ _ (by omega)]; first | assumption | exact Tr.get_same _ _ _ | (rw [Tr.get_ne _ _ (by omega)]; first | assumption | exact Tr.get_same _ _ _ | (rw [Tr.get_ne _ _ (by omega)]; first | assumption | exact Tr.get_same _ _ _ | (rw [Tr.get_ne _ _ (by omega)]; first | assumption | exact Tr.get_same _ _ _))))) (by exact fun _ => rfl)) (fun _ => rfl)
          | apply Sq.op (by first | rfl | (show (_ == _ : Bool) = true; first | rfl | (simp [*]; done) | (simp; omega))) (Op1.store (fun _ => rfl) (fun _ => rfl) (fun _ => rfl) rfl (by exact Nat.succ_pos _) (by omega) rfl (by first | assumption | exact Tr.get_same _ _ _ | (rw [Tr.get_ne _ _ (by omega)]; first | assumption | exact Tr.get_same _ _ _ | (rw [Tr.get_ne _ _ (by omega)]; first | assumption | exact Tr.get_same _ _ _ | (rw [Tr.get_ne _ _ (by omega)]; first | assumption | exact Tr.get_same _ _ _ | (rw [Tr.get_ne _ _ (by omega)]; first | assumption | exact Tr.get_same _ _ _))))) (by first | decide | omega) (by exact fun _ => rfl)) (fun _ => rfl)
          | apply Sq.op (by first | rfl | (show (_ == _ : Bool) = true; first | rfl | (simp [*]; done) | (simp; omega))) (Op1.alloc (fun _ => rfl)) (fun _ => rfl)
          | apply Sq.op (by first | rfl | (show (_ == _ : Bool) = true; first | rfl | (simp [*]; done) | (simp; omega))) (Op1.box (fun _ => rfl)) (fun _ => rfl)
          | apply Sq.out (by first | rfl | (show (_ == _ : Bool) = false; first | rfl | (simp [*]; done) | (simp; omega))) (fun _ => rfl)
          | apply Sq.op (by first | rfl | (show (_ == _ : Bool) = true; first | rfl | (simp [*]; done) | (simp; omega))) Op1.move_c (fun _ => rfl)
          | apply Sq.op (by first | rfl | (show (_ == _ : Bool) = true; first | rfl | (simp [*]; done) | (simp; omega))) Op1.assign_c (fun _ => rfl)
          | apply Sq.op (by first | rfl | (show (_ == _ : Bool) = true; first | rfl | (simp [*]; done) | (simp; omega))) (bin_add (by first | exact c_int | exact fun _ => rfl) (by first | exact c_int | exact fun _ => rfl)) (fun _ => rfl)
          | apply Sq.op (by first | rfl | (show (_ == _ : Bool) = true; first | rfl | (simp [*]; done) | (simp; omega))) (bin_sub (by first | exact c_int | exact fun _ => rfl) (by first | exact c_int | exact fun _ => rfl)) (fun _ => rfl)
          | apply Sq.op (by first | rfl | (show (_ == _ : Bool) = true; first | rfl | (simp [*]; done) | (simp; omega))) (bin_mul (by first | exact c_int | exact fun _ => rfl) (by first | exact c_int | exact fun _ => rfl)) (fun _ => rfl)
          | apply Sq.op (by first | rfl | (show (_ == _ : Bool) = true; first | rfl | (simp [*]; done) | (simp; omega))) (bin_and (by first | exact c_int | exact fun _ => rfl) (by first | exact c_int | exact fun _ => rfl)) (fun _ => rfl)
          | apply Sq.op (by first | rfl | (show (_ == _ : Bool) = true; first | rfl | (simp [*]; done) | (simp; omega))) (bin_or (by first | exact c_int | exact fun _ => rfl) (by first | exact c_int | exact fun _ => rfl)) (fun _ => rfl)
          | apply Sq.op (by first | rfl | (show (_ == _ : Bool) = true; first | rfl | (simp [*]; done) | (simp; omega))) (bin_xor (by first | exact c_int | exact fun _ => rfl) (by first | exact c_int | exact fun _ => rfl)) (fun _ => rfl)
          | apply Sq.op (by first | rfl | (show (_ == _ : Bool) = true; first | rfl | (simp [*]; done) | (simp; omega))) (bin_eql (by first | exact c_int | exact fun _ => rfl) (by first | exact c_int | exact fun _ => rfl)) (fun _ => rfl)
          | apply Sq.op (by first | rfl | (show (_ == _ : Bool) = true; first | rfl | (simp [*]; done) | (simp; omega))) (bin_neq (by first | exact c_int | exact fun _ => rfl) (by first | exact c_int | exact fun _ => rfl)) (fun _ => rfl)
          | apply Sq.op (by first | rfl | (show (_ == _ : Bool) = true; first | rfl | (simp [*]; done) | (simp; omega))) (bin_lss (by first | exact c_int | exact fun _ => rfl) (by first | exact c_int | exact fun _ => rfl)) (fun _ => rfl)
          | apply Sq.op (by first | rfl | (show (_ == _ : Bool) = true; first | rfl | (simp [*]; done) | (simp; omega))) (bin_gtr (by first | exact c_int | exact fun _ => rfl) (by first | exact c_int | exact fun _ => rfl)) (fun _ => rfl)
          | apply Sq.op (by first | rfl | (show (_ == _ : Bool) = true; first | rfl | (simp [*]; done) | (simp; omega))) (bin_leq (by first | exact c_int | exact fun _ => rfl) (by first | exact c_int | exact fun _ => rfl)) (fun _ => rfl)
          | apply Sq.op (by first | rfl | (show (_ == _ : Bool) = true; first | rfl | (simp [*]; done) | (simp; omega))) (bin_geq (by first | exact c_int | exact fun _ => rfl) (by first | exact c_int | exact fun _ => rfl)) (fun _ => rfl)
          | apply Sq.op (by first | rfl | (show (_ == _ : Bool) = true; first | rfl | (simp [*]; done) | (simp; omega))) (bin_quo (by first | exact c_int | exact fun _ => rfl) (by first | exact c_int | exact fun _ => rfl) (by decide)) (fun _ => rfl)
          | apply Sq.op (by first | rfl | (show (_ == _ : Bool) = true; first | rfl | (simp [*]; done) | (simp; omega))) (bin_rem (by first | exact c_int | exact fun _ => rfl) (by first | exact c_int | exact fun _ => rfl) (by decide)) (fun _ => rfl)
          | apply Sq.op (by first | rfl | (show (_ == _ : Bool) = true; first | rfl | (simp [*]; done) | (simp; omega))) (bin_shl (by first | exact c_int | exact fun _ => rfl) (by first | exact c_int | exact fun _ => rfl) (by decide)) (fun _ => rfl)
          | apply Sq.op (by first | rfl | (show (_ == _ : Bool) = true; first | rfl | (simp [*]; done) | (simp; omega))) (bin_shr (by first | exact c_int | exact fun _ => rfl) (by first | exact c_int | exact fun _ => rfl) (by decide)) (fun _ => rfl)
          | apply Sq.op (by first | rfl | (show (_ == _ : Bool) = true; first | rfl | (simp [*]; done) | (simp; omega))) (str_eql (by first | exact c_int | exact fun _ => rfl) (by first | exact c_int | exact fun _ => rfl)) (fun _ => rfl)
          | apply Sq.op (by first | rfl | (show (_ == _ : Bool) = true; first | rfl | (simp [*]; done) | (simp; omega))) (str_neq (by first | exact c_int | exact fun _ => rfl) (by first | exact c_int | exact fun _ => rfl)) (fun _ => rfl)
          | apply Sq.op (by first | rfl | (show (_ == _ : Bool) = true; first | rfl | (simp [*]; done) | (simp; omega))) (Op1.pure fun _ _ => rfl) (fun _ => rfl)
          | apply Sq.op (by first | rfl | (show (_ == _ : Bool) = true; first | rfl | (simp [*]; done) | (simp; omega))) (un_not (fun _ => rfl)) (fun _ => rfl)
          | apply Sq.op (by first | rfl | (show (_ == _ : Bool) = true; first | rfl | (simp [*]; done) | (simp; omega))) (Op1.pick_t (fun _ => rfl) (by first | rfl | assumption | (simp [*]; done) | (simp; omega)) (fun _ => rfl)) (fun _ => rfl)
          | apply Sq.op (by first | rfl | (show (_ == _ : Bool) = true; first | rfl | (simp [*]; done) | (simp; omega))) (Op1.pick_f (fun _ => rfl) (by first | rfl | assumption | (simp [*]; done) | (simp; omega)) (fun _ => rfl)) (fun _ => rfl))
      case he => exact .inr rfl
      case hr => exact res_cell (fun _ => rfl) (by first | assumption | exact Tr.get_same _ _ _ | (rw [Tr.get_ne _ _ (by omega)]; first | assumption | exact Tr.get_same _ _ _ | (rw [Tr.get_ne _ _ (by omega)]; first | assumption | exact Tr.get_same _ _ _ | (rw [Tr.get_ne _ _ (by omega)]; first | assumption | exact Tr.get_same _ _ _ | (rw [Tr.get_ne _ _ (by omega)]; first | assumption | exact Tr.get_same _ _ _))))) (by exact fun _ => rfl) res_nil
      case ho => exact fun _ => rfl
    case hv => rfl
  case h.right =>
    intro id hid
    simp only [Tr.get_set]
    repeat rw [if_neg (by omega)]
theorem set_3 (hX : X 50 = none) (c0 c2 c10 n : Int) (c1 c3 c4 c5 c6 c7 c8 c9 : Bool) (lim : Nat) (h : T) (nx : Nat) (hlim : lim ≤ nx) :
    ∃ h', Cl Tryd.prog X lim 50 [.ag [.i .u16 c0, .b c1, .i .u8 c2, .b c3, .b c4, .b c5, .b c6, .b c7, .b c8, .b c9, .i .u8 c10], .i .i64 3, .i .u16 n] h nx (.ag [.i .u16 c0, .b c1, .i .u8 c2, .b c3, .b (n != 0), .b c5, .b c6, .b c7, .b c8, .b c9, .i .u8 c10]) h' (nx + 2) ∧ ∀ id, id < nx → h'.get id = h.get id := by
  apply Exists.intro
  apply And.intro
  case h.left =>
    apply Cl.eq
    case a =>
      apply Cl.body (m := 3) hX Tryd.func50 rfl (fun _ => rfl) rfl
      case hc =>
        repeat' (first
          | exact Ev.ret
          | apply Ev.loop_out
          | exact Ev.skip
          | exact Ev.exit
          | exact Ev.label
          | exact Ex.exi_ne
          | exact Ex.ret_ne
          | exact Ex.got_ne
          | exact Or.inl ⟨Ex.exi_ne, rfl, rfl, rfl, rfl⟩
          | exact Or.inl ⟨Ex.ret_ne, rfl, rfl, rfl, rfl⟩
          | exact Or.inl ⟨Ex.got_ne, rfl, rfl, rfl, rfl⟩
          | refine Or.inr ⟨rfl, ?_⟩
          | exact Or.inl ⟨rfl, rfl⟩
          | exact Or.inr ⟨Ex.nor_other, rfl⟩
          | exact Or.inr ⟨Ex.ret_other, rfl⟩
          | exact Or.inr ⟨Ex.exi_other rfl, rfl⟩
          | exact Or.inr ⟨Ex.got_other, rfl⟩
          | apply Ev.region rfl
          | apply Ev.seq2
          | apply Ev.block3
          | apply Ev.cond_t (fun _ => rfl) (by first | rfl | assumption | (simp [*]; done) | (simp; omega))
          | apply Ev.cond_f (fun _ => rfl) (by first | rfl | assumption | (simp [*]; done) | (simp; omega))
          | exact Sq.nil
          | exact Dr.nil
          | apply Sq.op (by first | rfl | (show (_ == _ : Bool) = true; first | rfl | (simp [*]; done) | (simp; omega))) (conv_int Tryd.underlying22 Tryd.underlying5 (fun _ => rfl)) (fun _ => rfl)
          | apply Sq.op (by first | rfl | (show (_ == _ : Bool) = true; first | rfl | (simp [*]; done) | (simp; omega))) (Op1.load (fun _ => rfl) (by first | assumption | exact Tr.get_same _ _ _ | (rw [Tr.get_ne _ _ (by omega)]; first | assumption | exact Tr.get_same _ _ _ | (rw [Tr.get_ne _ _ (by omega)]; first | assumption | exact Tr.get_same _ _ _ | (rw [Tr.get_ne _ _ (by omega)]; first | assumption | exact Tr.get_same _ _ _ | (rw [Tr.get_ne _ _ (by omega)]; first | assumption | exact Tr.get_same _ _ _))))) (by exact fun _ => rfl)) (fun _ => rfl)
          | apply Sq.op (by first | rfl | (show (_ == _ : Bool) = true; first | rfl | (simp [*]; done) | (simp; omega))) (Op1.store (fun _ => rfl) (fun _ => rfl) (fun _ => rfl) rfl (by exact Nat.succ_pos _) (by omega) rfl (by first | assumption | exact Tr.get_same _ _ _ | (rw [Tr.get_ne _ _ (by omega)]; first | assumption | exact Tr.get_same _ _ _ | (rw [Tr.get_ne _ _ (by omega)]; first | assumption | exact Tr.get_same _ _ _ | (rw [Tr.get_ne _ _ (by omega)]; first | assumption | exact Tr.get_same _ _ _ | (rw [Tr.get_ne _ _ (by omega)]; first | assumption | exact Tr.get_same _ _ _))))) (by first | decide | omega) (by exact fun _ => rfl)) (fun _ => rfl)
          | apply Sq.op (by first | rfl | (show (_ == _ : Bool) = true; first | rfl | (simp [*]; done) | (simp; omega))) (Op1.alloc (fun _ => rfl)) (fun _ => rfl)
          | apply Sq.op (by first | rfl | (show (_ == _ : Bool) = true; first | rfl | (simp [*]; done) | (simp; omega))) (Op1.box (fun _ => rfl)) (fun _ => rfl)
          | apply Sq.out (by first | rfl | (show (_ == _ : Bool) = false; first | rfl | (simp [*]; done) | (simp; omega))) (fun _ => rfl)
          | apply Sq.op (by first | rfl | (show (_ == _ : Bool) = true; first | rfl | (simp [*]; done) | (simp; omega))) Op1.move_c (fun _ => rfl)
          | apply Sq.op (by first | rfl | (show (_ == _ : Bool) = true; first | rfl | (simp [*]; done) | (simp; omega))) Op1.assign_c (fun _ => rfl)
          | apply Sq.op (by first | rfl | (show (_ == _ : Bool) = true; first | rfl | (simp [*]; done) | (simp; omega))) (bin_add (by first | exact c_int | exact fun _ => rfl) (by first | exact c_int | exact fun _ => rfl)) (fun _ => rfl)
          | apply Sq.op (by first | rfl | (show (_ == _ : Bool) = true; first | rfl | (simp [*]; done) | (simp; omega))) (bin_sub (by first | exact c_int | exact fun _ => rfl) (by first | exact c_int | exact fun _ => rfl)) (fun _ => rfl)
          | apply Sq.op (by first | rfl | (show (_ == _ : Bool) = true; first | rfl | (simp [*]; done) | (simp; omega))) (bin_mul (by first | exact c_int | exact fun _ => rfl) (by first | exact c_int | exact fun _ => rfl)) (fun _ => rfl)
          | apply Sq.op (by first | rfl | (show (_ == _ : Bool) = true; first | rfl | (simp [*]; done) | (simp; omega))) (bin_and (by first | exact c_int | exact fun _ => rfl) (by first | exact c_int | exact fun _ => rfl)) (fun _ => rfl)
          | apply Sq.op (by first | rfl | (show (_ == _ : Bool) = true; first | rfl | (simp [*]; done) | (simp; omega))) (bin_or (by first | exact c_int | exact fun _ => rfl) (by first | exact c_int | exact fun _ => rfl)) (fun _ => rfl)
          | apply Sq.op (by first | rfl | (show (_ == _ : Bool) = true; first | rfl | (simp [*]; done) | (simp; omega))) (bin_xor (by first | exact c_int | exact fun _ => rfl) (by first | exact c_int | exact fun _ => rfl)) (fun _ => rfl)
          | apply Sq.op (by first | rfl | (show (_ == _ : Bool) = true; first | rfl | (simp [*]; done) | (simp; omega))) (bin_eql (by first | exact c_int | exact fun _ => rfl) (by first | exact c_int | exact fun _ => rfl)) (fun _ => rfl)
          | apply Sq.op (by first | rfl | (show (_ == _ : Bool) = true; first | rfl | (simp [*]; done) | (simp; omega))) (bin_neq (by first | exact c_int | exact fun _ => rfl) (by first | exact c_int | exact fun _ => rfl)) (fun _ => rfl)
          | apply Sq.op (by first | rfl | (show (_ == _ : Bool) = true; first | rfl | (simp [*]; done) | (simp; omega))) (bin_lss (by first | exact c_int | exact fun _ => rfl) (by first | exact c_int | exact fun _ => rfl)) (fun _ => rfl)
          | apply Sq.op (by first | rfl | (show (_ == _ : Bool) = true; first | rfl | (simp [*]; done) | (simp; omega))) (bin_gtr (by first | exact c_int | exact fun _ => rfl) (by first | exact c_int | exact fun _ => rfl)) (fun _ => rfl)
          | apply Sq.op (by first | rfl | (show (_ == _ : Bool) = true; first | rfl | (simp [*]; done) | (simp; omega))) (bin_leq (by first | exact c_int | exact fun _ => rfl) (by first | exact c_int | exact fun _ => rfl)) (fun _ => rfl)
          | apply Sq.op (by first | rfl | (show (_ == _ : Bool) = true; first | rfl | (simp [*]; done) | (simp; omega))) (bin_geq (by first | exact c_int | exact fun _ => rfl) (by first | exact c_int | exact fun _ => rfl)) (fun _ => rfl)
          | apply Sq.op (by first | rfl | (show (_ == _ : Bool) = true; first | rfl | (simp [*]; done) | (simp; omega))) (bin_quo (by first | exact c_int | exact fun _ => rfl) (by first | exact c_int | exact fun _ => rfl) (by decide)) (fun _ => rfl)
          | apply Sq.op (by first | rfl | (show (_ == _ : Bool) = true; first | rfl | (simp [*]; done) | (simp; omega))) (bin_rem (by first | exact c_int | exact fun _ => rfl) (by first | exact c_int | exact fun _ => rfl) (by decide)) (fun _ => rfl)
          | apply Sq.op (by first | rfl | (show (_ == _ : Bool) = true; first | rfl | (simp [*]; done) | (simp; omega))) (bin_shl (by first | exact c_int | exact fun _ => rfl) (by first | exact c_int | exact fun _ => rfl) (by decide)) (fun _ => rfl)
          | apply Sq.op (by first | rfl | (show (_ == _ : Bool) = true; first | rfl | (simp [*]; done) | (simp; omega))) (bin_shr (by first | exact c_int | exact fun _ => rfl) (by first | exact c_int | exact fun _ => rfl) (by decide)) (fun _ => rfl)
          | apply Sq.op (by first | rfl | (show (_ == _ : Bool) = true; first | rfl | (simp [*]; done) | (simp; omega))) (str_eql (by first | exact c_int | exact fun _ => rfl) (by first | exact c_int | exact fun _ => rfl)) (fun _ => rfl)
          | apply Sq.op (by first | rfl | (show (_ == _ : Bool) = true; first | rfl | (simp [*]; done) | (simp; omega))) (str_neq (by first | exact c_int | exact fun _ => rfl) (by first | exact c_int | exact fun _ => rfl)) (fun _ => rfl)
          | apply Sq.op (by first | rfl | (show (_ == _ : Bool) = true; first | rfl | (simp [*]; done) | (simp; omega))) (Op1.pure fun _ _ => rfl) (fun _ => rfl)
          | apply Sq.op (by first | rfl | (show (_ == _ : Bool) = true; first | rfl | (simp [*]; done) | (simp; omega))) (un_not (fun _ => rfl)) (fun _ => rfl)
          | apply Sq.op (by first | rfl | (show (_ == _ : Bool) = true; first | rfl | (simp [*]; done) | (simp; omega))) (Op1.pick_t (fun _ => rfl) (by first | rfl | assumption | (simp [*]; done) | (simp; omega)) (fun _ => rfl)) (fun _ => rfl)
          | apply Sq.op (by first | rfl | (show (_ == _ : Bool) = true; first | rfl | (simp [*]; done) | (simp; omega))) (Op1.pick_f (fun _ => rfl) (by first | rfl | assumption | (simp [*]; done) | (simp; omega)) (fun _ => rfl)) (fun _ => rfl))
      case he => exact .inr rfl
      case hr => exact res_cell (fun _ => rfl) (by first | assumption | exact Tr.get_same _ _ _ | (rw [Tr.get_ne _ _ (by omega)]; first | assumption | exact Tr.get_same _ _ _ | (rw [Tr.get_ne _ _ (by omega)]; first | assumption | exact Tr.get_same _ _ _ | (rw [Tr.get_ne _ _ (by omega)]; first | assumption | exact Tr.get_same _ _ _ | (rw [Tr.get_ne _ _ (by omega)]; first | assumption | exact Tr.get_same _ _ _))))) (by exact fun _ => rfl) res_nil
      case ho => exact fun _ => rfl
    case hv => rfl
  case h.right =>
    intro id hid
    simp only [Tr.get_set]
    repeat rw [if_neg (by omega)]
theorem set_4 (hX : X 50 = none) (c0 c2 c10 n : Int) (c1 c3 c4 c5 c6 c7 c8 c9 : Bool) (lim : Nat) (h : T) (nx : Nat) (hlim : lim ≤ nx) :
    ∃ h', Cl Tryd.prog X lim 50 [.ag [.i .u16 c0, .b c1, .i .u8 c2, .b c3, .b c4, .b c5, .b c6, .b c7, .b c8, .b c9, .i .u8 c10], .i .i64 4, .i .u16 n] h nx (.ag [.i .u16 c0, .b c1, .i .u8 c2, .b c3, .b c4, .b (n != 0), .b c6, .b c7, .b c8, .b c9, .i .u8 c10]) h' (nx + 2) ∧ ∀ id, id < nx → h'.get id = h.get id := by
  apply Exists.intro
  apply And.intro
  case h.left =>
    apply Cl.eq
    case a =>
      apply Cl.body (m := 3) hX Tryd.func50 rfl (fun _ => rfl) rfl
      case hc =>
        repeat' (first
          | exact Ev.ret
          | apply Ev.loop_out
          | exact Ev.skip
          | exact Ev.exit
          | exact Ev.label
          | exact Ex.exi_ne
          | exact Ex.ret_ne
          | exact Ex.got_ne
          | exact Or.inl ⟨Ex.exi_ne, rfl, rfl, rfl, rfl⟩
          | exact Or.inl ⟨Ex.ret_ne, rfl, rfl, rfl, rfl⟩
          | exact Or.inl ⟨Ex.got_ne, rfl, rfl, rfl, rfl⟩
          | refine Or.inr ⟨rfl, ?_⟩
          | exact Or.inl ⟨rfl, rfl⟩
          | exact Or.inr ⟨Ex.nor_other, rfl⟩
          | exact Or.inr ⟨Ex.ret_other, rfl⟩
          | exact Or.inr ⟨Ex.exi_other rfl, rfl⟩
          | exact Or.inr ⟨Ex.got_other, rfl⟩
          | apply Ev.region rfl
          | apply Ev.seq2
          | apply Ev.block3
          | apply Ev.cond_t (fun _ => rfl) (by first | rfl | assumption | (simp [*]; done) | (simp; omega))
          | apply Ev.cond_f (fun _ => rfl) (by first | rfl | assumption | (simp [*]; done) | (simp; omega))
          | exact Sq.nil
          | exact Dr.nil
          | apply Sq.op (by first | rfl | (show (_ == _ : Bool) = true; first | rfl | (simp [*]; done) | (simp; omega))) (conv_int Tryd.underlying22 Tryd.underlying5 (fun _ => rfl)) (fun _ => rfl)
          | apply Sq.op (by first | rfl | (show (_ == _ : Bool) = true; first | rfl | (simp [*]; done) | (simp; omega))) (Op1.load (fun _ => rfl) (by first | assumption | exact Tr.get_same _ _ _ | (rw [Tr.get_ne _ _ (by omega)]; first | assumption | exact Tr.get_same _ _ _ | (rw [Tr.get_ne _ _ (by omega)]; first | assumption | exact Tr.get_same _ _ _ | (rw [Tr.get_ne _ _ (by omega)]; first | assumption | exact Tr.get_same _ _ _ | (rw [Tr.get_ne _ _ (by omega)]; first | assumption | exact Tr.get_same _ _ _))))) (by exact fun _ => rfl)) (fun _ => rfl)
          | apply Sq.op (by first | rfl | (show (_ == _ : Bool) = true; first | rfl | (simp [*]; done) | (simp; omega))) (Op1.store (fun _ => rfl) (fun _ => rfl) (fun _ => rfl) rfl (by exact Nat.succ_pos _) (by omega) rfl (by first | assumption | exact Tr.get_same _ _ _ | (rw [Tr.get_ne _ _ (by omega)]; first | assumption | exact Tr.get_same _ _ _ | (rw [Tr.get_ne _ _ (by omega)]; first | assumption | exact Tr.get_same _ _ _ | (rw [Tr.get_ne _ _ (by omega)]; first | assumption | exact Tr.get_same _ _ _ | (rw [Tr.get_ne _ _ (by omega)]; first | assumption | exact Tr.get_same _ _ _))))) (by first | decide | omega) (by exact fun _ => rfl)) (fun _ => rfl)
          | apply Sq.op (by first | rfl | (show (_ == _ : Bool) = true; first | rfl | (simp [*]; done) | (simp; omega))) (Op1.alloc (fun _ => rfl)) (fun _ => rfl)
          | apply Sq.op (by first | rfl | (show (_ == _ : Bool) = true; first | rfl | (simp [*]; done) | (simp; omega))) (Op1.box (fun _ => rfl)) (fun _ => rfl)
          | apply Sq.out (by first | rfl | (show (_ == _ : Bool) = false; first | rfl | (simp [*]; done) | (simp; omega))) (fun _ => rfl)
          | apply Sq.op (by first | rfl | (show (_ == _ : Bool) = true; first | rfl | (simp [*]; done) | (simp; omega))) Op1.move_c (fun _ => rfl)
          | apply Sq.op (by first | rfl | (show (_ == _ : Bool) = true; first | rfl | (simp [*]; done) | (simp; omega))) Op1.assign_c (fun _ => rfl)
          | apply Sq.op (by first | rfl | (show (_ == _ : Bool) = true; first | rfl | (simp [*]; done) | (simp; omega))) (bin_add (by first | exact c_int | exact fun _ => rfl) (by first | exact c_int | exact fun _ => rfl)) (fun _ => rfl)
          | apply Sq.op (by first | rfl | (show (_ == _ : Bool) = true; first | rfl | (simp [*]; done) | (simp; omega))) (bin_sub (by first | exact c_int | exact fun _ => rfl) (by first | exact c_int | exact fun _ => rfl)) (fun _ => rfl)
          | apply Sq.op (by first | rfl | (show (_ == _ : Bool) = true; first | rfl | (simp [*]; done) | (simp; omega))) (bin_mul (by first | exact c_int | exact fun _ => rfl) (by first | exact c_int | exact fun _ => rfl)) (fun _ => rfl)
          | apply Sq.op (by first | rfl | (show (_ == _ : Bool) = true; first | rfl | (simp [*]; done) | (simp; omega))) (bin_and (by first | exact c_int | exact fun _ => rfl) (by first | exact c_int | exact fun _ => rfl)) (fun _ => rfl)
          | apply Sq.op (by first | rfl | (show (_ == _ : Bool) = true; first | rfl | (simp [*]; done) | (simp; omega))) (bin_or (by first | exact c_int | exact fun _ => rfl) (by first | exact c_int | exact fun _ => rfl)) (fun _ => rfl)
          | apply Sq.op (by first | rfl | (show (_ == _ : Bool) = true; first | rfl | (simp [*]; done) | (simp; omega))) (bin_xor (by first | exact c_int | exact fun _ => rfl) (by first | exact c_int | exact fun _ => rfl)) (fun _ => rfl)
          | apply Sq.op (by first | rfl | (show (_ == _ : Bool) = true; first | rfl | (simp [*]; done) | (simp; omega))) (bin_eql (by first | exact c_int | exact fun _ => rfl) (by first | exact c_int | exact fun _ => rfl)) (fun _ => rfl)
          | apply Sq.op (by first | rfl | (show (_ == _ : Bool) = true; first | rfl | (simp [*]; done) | (simp; omega))) (bin_neq (by first | exact c_int | exact fun _ => rfl) (by first | exact c_int | exact fun _ => rfl)) (fun _ => rfl)
          | apply Sq.op (by first | rfl | (show (_ == _ : Bool) = true; first | rfl | (simp [*]; done) | (simp; omega))) (bin_lss (by first | exact c_int | exact fun _ => rfl) (by first | exact c_int | exact fun _ => rfl)) (fun _ => rfl)
          | apply Sq.op (by first | rfl | (show (_ == _ : Bool) = true; first | rfl | (simp [*]; done) | (simp; omega))) (bin_gtr (by first | exact c_int | exact fun _ => rfl) (by first | exact c_int | exact fun _ => rfl)) (fun _ => rfl)
          | apply Sq.op (by first | rfl | (show (_ == _ : Bool) = true; first | rfl | (simp [*]; done) | (simp; omega))) (bin_leq (by first | exact c_int | exact fun _ => rfl) (by first | exact c_int | exact fun _ => rfl)) (fun _ => rfl)
          | apply Sq.op (by first | rfl | (show (_ == _ : Bool) = true; first | rfl | (simp [*]; done) | (simp; omega))) (bin_geq (by first | exact c_int | exact fun _ => rfl) (by first | exact c_int | exact fun _ => rfl)) (fun _ => rfl)
          | apply Sq.op (by first | rfl | (show (_ == _ : Bool) = true; first | rfl | (simp [*]; done) | (simp; omega))) (bin_quo (by first | exact c_int | exact fun _ => rfl) (by first | exact c_int | exact fun _ => rfl) (by decide)) (fun _ => rfl)
          | apply Sq.op (by first | rfl | (show (_ == _ : Bool) = true; first | rfl | (simp [*]; done) | (simp; omega))) (bin_rem (by first | exact c_int | exact fun _ => rfl) (by first | exact c_int | exact fun _ => rfl) (by decide)) (fun _ => rfl)
          | apply Sq.op (by first | rfl | (show (_ == _ : Bool) = true; first | rfl | (simp [*]; done) | (simp; omega))) (bin_shl (by first | exact c_int | exact fun _ => rfl) (by first | exact c_int | exact fun _ => rfl) (by decide)) (fun _ => rfl)
          | apply Sq.op (by first | rfl | (show (_ == _ : Bool) = true; first | rfl | (simp [*]; done) | (simp; omega))) (bin_shr (by first | exact c_int | exact fun _ => rfl) (by first | exact c_int | exact fun _ => rfl) (by decide)) (fun _ => rfl)
          | apply Sq.op (by first | rfl | (show (_ == _ : Bool) = true; first | rfl | (simp [*]; done) | (simp; omega))) (str_eql (by first | exact c_int | exact fun _ => rfl) (by first | exact c_int | exact fun _ => rfl)) (fun _ => rfl)
          | apply Sq.op (by first | rfl | (show (_ == _ : Bool) = true; first | rfl | (simp [*]; done) | (simp; omega))) (str_neq (by first | exact c_int | exact fun _ => rfl) (by first | exact c_int | exact fun _ => rfl)) (fun _ => rfl)
          | apply Sq.op (by first | rfl | (show (_ == _ : Bool) = true; first | rfl | (simp [*]; done) | (simp; omega))) (Op1.pure fun _ _ => rfl) (fun _ => rfl)
          | apply Sq.op (by first | rfl | (show (_ == _ : Bool) = true; first | rfl | (simp [*]; done) | (simp; omega))) (un_not (fun _ => rfl)) (fun _ => rfl)
          | apply Sq.op (by first | rfl | (show (_ == _ : Bool) = true; first | rfl | (simp [*]; done) | (simp; omega))) (Op1.pick_t (fun _ => rfl) (by first | rfl | assumption | (simp [*]; done) | (simp; omega)) (fun _ => rfl)) (fun _ => rfl)
          | apply Sq.op (by first | rfl | (show (_ == _ : Bool) = true; first | rfl | (simp [*]; done) | (simp; omega))) (Op1.pick_f (fun _ => rfl) (by first | rfl | assumption | (simp [*]; done) | (simp; omega)) (fun _ => rfl)) (fun _ => rfl))
      case he => exact .inr rfl
      case hr => exact res_cell (fun _ => rfl) (by first | assumption | exact Tr.get_same _ _ _ | (rw [Tr.get_ne _ _ (by omega)]; first | assumption | exact Tr.get_same _ _ _ | (rw [Tr.get_ne _ _ (by omega)]; first | assumption | exact Tr.get_same _ _ _ | (rw [Tr.get_ne _ _ (by omega)]; first | assumption | exact Tr.get_same _ _ _ | (rw [Tr.get_ne _ _ (by omega)]; first | assumption | exact Tr.get_same _ _ _))))) (by exact fun _ => rfl) res_nil
      case ho => exact fun _ => rfl
    case hv => rfl
  case h.right =>
    intro id hid
    simp only [Tr.get_set]
    repeat rw [if_neg (by omega)]
theorem set_5 (hX : X 50 = none) (c0 c2 c10 n : Int) (c1 c3 c4 c5 c6 c7 c8 c9 : Bool) (lim : Nat) (h : T) (nx : Nat) (hlim : lim ≤ nx) :
    ∃ h', Cl Tryd.prog X lim 50 [.ag [.i .u16 c0, .b c1, .i .u8 c2, .b c3, .b c4, .b c5, .b c6, .b c7, .b c8, .b c9, .i .u8 c10], .i .i64 5, .i .u16 n] h nx (.ag [.i .u16 c0, .b c1, .i .u8 c2, .b c3, .b c4, .b c5, .b (n != 0), .b c7, .b c8, .b c9, .i .u8 c10]) h' (nx + 2) ∧ ∀ id, id < nx → h'.get id = h.get id := by
  apply Exists.intro
  apply And.intro
  case h.left =>
    apply Cl.eq
    case a =>
      apply Cl.body (m := 3) hX Tryd.func50 rfl (fun _ => rfl) rfl
      case hc =>
        repeat' (first
          | exact Ev.ret
          | apply Ev.loop_out
          | exact Ev.skip
          | exact Ev.exit
          | exact Ev.label
          | exact Ex.exi_ne
          | exact Ex.ret_ne
          | exact Ex.got_ne
          | exact Or.inl ⟨Ex.exi_ne, rfl, rfl, rfl, rfl⟩
          | exact Or.inl ⟨Ex.ret_ne, rfl, rfl, rfl, rfl⟩
          | exact Or.inl ⟨Ex.got_ne, rfl, rfl, rfl, rfl⟩
          | refine Or.inr ⟨rfl, ?_⟩
          | exact Or.inl ⟨rfl, rfl⟩
          | exact Or.inr ⟨Ex.nor_other, rfl⟩
          | exact Or.inr ⟨Ex.ret_other, rfl⟩
          | exact Or.inr ⟨Ex.exi_other rfl, rfl⟩
          | exact Or.inr ⟨Ex.got_other, rfl⟩
          | apply Ev.region rfl
          | apply Ev.seq2
          | apply Ev.block3
          | apply Ev.cond_t (fun _ => rfl) (by first | rfl | assumption | (simp [*]; done) | (simp; omega))
          | apply Ev.cond_f (fun _ => rfl) (by first | rfl | assumption | (simp [*]; done) | (simp; omega))
          | exact Sq.nil
          | exact Dr.nil
          | apply Sq.op (by first | rfl | (show (_ == _ : Bool) = true; first | rfl | (simp [*]; done) | (simp; omega))) (conv_int Tryd.underlying22 Tryd.underlying5 (fun _ => rfl)) (fun _ => rfl)
          | apply Sq.op (by first | rfl | (show (_ == _ : Bool) = true; first | rfl | (simp [*]; done) | (simp; omega))) (Op1.load (fun _ => rfl) (by first | assumption | exact Tr.get_same _ _ _ | (rw [Tr.get_ne _ _ (by omega)]; first | assumption | exact Tr.get_same _ _ _ | (rw [Tr.get_ne _ _ (by omega)]; first | assumption | exact Tr.get_same _ _ _ | (rw [Tr.get_ne _ _ (by omega)]; first | assumption | exact Tr.get_same _ _ _ | (rw [Tr.get_ne _ _ (by omega)]; first | assumption | exact Tr.get_same _ _ _))))) (by exact fun _ => rfl)) (fun _ => rfl)
          | apply Sq.op (by first | rfl | (show (_ == _ : Bool) = true; first | rfl | (simp [*]; done) | (simp; omega))) (Op1.store (fun _ => rfl) (fun _ => rfl) (fun _ => rfl) rfl (by exact Nat.succ_pos _) (by omega) rfl (by first | assumption | exact Tr.get_same _ _ _ | (rw [Tr.get_ne _ _ (by omega)]; first | assumption | exact Tr.get_same _ _ _ | (rw [Tr.get_ne _ _ (by omega)]; first | assumption | exact Tr.get_same _ _ _ | (rw [Tr.get_ne _ _ (by omega)]; first | assumption | exact Tr.get_same _ _ _ | (rw [Tr.get_ne _ _ (by omega)]; first | assumption | exact Tr.get_same _ _ _))))) (by first | decide | omega) (by exact fun _ => rfl)) (fun _ => rfl)
          | apply Sq.op (by first | rfl | (show (_ == _ : Bool) = true; first | rfl | (simp [*]; done) | (simp; omega))) (Op1.alloc (fun _ => rfl)) (fun _ => rfl)
          | apply Sq.op (by first | rfl | (show (_ == _ : Bool) = true; first | rfl | (simp [*]; done) | (simp; omega))) (Op1.box (fun _ => rfl)) (fun _ => rfl)
          | apply Sq.out (by first | rfl | (show (_ == _ : Bool) = false; first | rfl | (simp [*]; done) | (simp; omega))) (fun _ => rfl)
          | apply Sq.op (by first | rfl | (show (_ == _ : Bool) = true; first | rfl | (simp [*]; done) | (simp; omega))) Op1.move_c (fun _ => rfl)
          | apply Sq.op (by first | rfl | (show (_ == _ : Bool) = true; first | rfl | (simp [*]; done) | (simp; omega))) Op1.assign_c (fun _ => rfl)
          | apply Sq.op (by first | rfl | (show (_ == _ : Bool) = true; first | rfl | (simp [*]; done) | (simp; omega))) (bin_add (by first | exact c_int | exact fun _ => rfl) (by first | exact c_int | exact fun _ => rfl)) (fun _ => rfl)
          | apply Sq.op (by first | rfl | (show (_ == _ : Bool) = true; first | rfl | (simp [*]; done) | (simp; omega))) (bin_sub (by first | exact c_int | exact fun _ => rfl) (by first | exact c_int | exact fun _ => rfl)) (fun _ => rfl)
          | apply Sq.op (by first | rfl | (show (_ == _ : Bool) = true; first | rfl | (simp [*]; done) | (simp; omega))) (bin_mul (by first | exact c_int | exact fun _ => rfl) (by first | exact c_int | exact fun _ => rfl)) (fun _ => rfl)
          | apply Sq.op (by first | rfl | (show (_ == _ : Bool) = true; first | rfl | (simp [*]; done) | (simp; omega))) (bin_and (by first | exact c_int | exact fun _ => rfl) (by first | exact c_int | exact fun _ => rfl)) (fun _ => rfl)
          | apply Sq.op (by first | rfl | (show (_ == _ : Bool) = true; first | rfl | (simp [*]; done) | (simp; omega))) (bin_or (by first | exact c_int | exact fun _ => rfl) (by first | exact c_int | exact fun _ => rfl)) (fun _ => rfl)
          | apply Sq.op (by first | rfl | (show (_ == _ : Bool) = true; first | rfl | (simp [*]; done) | (simp; omega))) (bin_xor (by first | exact c_int | exact fun _ => rfl) (by first | exact c_int | exact fun _ => rfl)) (fun _ => rfl)
          | apply Sq.op (by first | rfl | (show (_ == _ : Bool) = true; first | rfl | (simp [*]; done) | (simp; omega))) (bin_eql (by first | exact c_int | exact fun _ => rfl) (by first | exact c_int | exact fun _ => rfl)) (fun _ => rfl)
          | apply Sq.op (by first | rfl | (show (_ == _ : Bool) = true; first | rfl | (simp [*]; done) | (simp; omega))) (bin_neq (by first | exact c_int | exact fun _ => rfl) (by first | exact c_int | exact fun _ => rfl)) (fun _ => rfl)
          | apply Sq.op (by first | rfl | (show (_ == _ : Bool) = true; first | rfl | (simp [*]; done) | (simp; omega))) (bin_lss (by first | exact c_int | exact fun _ => rfl) (by first | exact c_int | exact fun _ => rfl)) (fun _ => rfl)
          | apply Sq.op (by first | rfl | (show (_ == _ : Bool) = true; first | rfl | (simp [*]; done) | (simp; omega))) (bin_gtr (by first | exact c_int | exact fun _ => rfl) (by first | exact c_int | exact fun _ => rfl)) (fun _ => rfl)
          | apply Sq.op (by first | rfl | (show (_ == _ : Bool) = true; first | rfl | (simp [*]; done) | (simp; omega))) (bin_leq (by first | exact c_int | exact fun _ => rfl) (by first | exact c_int | exact fun _ => rfl)) (fun _ => rfl)
          | apply Sq.op (by first | rfl | (show (_ == _ : Bool) = true; first | rfl | (simp [*]; done) | (simp; omega))) (bin_geq (by first | exact c_int | exact fun _ => rfl) (by first | exact c_int | exact fun _ => rfl)) (fun _ => rfl)
          | apply Sq.op (by first | rfl | (show (_ == _ : Bool) = true; first | rfl | (simp [*]; done) | (simp; omega))) (bin_quo (by first | exact c_int | exact fun _ => rfl) (by first | exact c_int | exact fun _ => rfl) (by decide)) (fun _ => rfl)
          | apply Sq.op (by first | rfl | (show (_ == _ : Bool) = true; first | rfl | (simp [*]; done) | (simp; omega))) (bin_rem (by first | exact c_int | exact fun _ => rfl) (by first | exact c_int | exact fun _ => rfl) (by decide)) (fun _ => rfl)
          | apply Sq.op (by first | rfl | (show (_ == _ : Bool) = true; first | rfl | (simp [*]; done) | (simp; omega))) (bin_shl (by first | exact c_int | exact fun _ => rfl) (by first | exact c_int | exact fun _ => rfl) (by decide)) (fun _ => rfl)
          | apply Sq.op (by first | rfl | (show (_ == _ : Bool) = true; first | rfl | (simp [*]; done) | (simp; omega))) (bin_shr (by first | exact c_int | exact fun _ => rfl) (by first | exact c_int | exact fun _ => rfl) (by decide)) (fun _ => rfl)
          | apply Sq.op (by first | rfl | (show (_ == _ : Bool) = true; first | rfl | (simp [*]; done) | (simp; omega))) (str_eql (by first | exact c_int | exact fun _ => rfl) (by first | exact c_int | exact fun _ => rfl)) (fun _ => rfl)
          | apply Sq.op (by first | rfl | (show (_ == _ : Bool) = true; first | rfl | (simp [*]; done) | (simp; omega))) (str_neq (by first | exact c_int | exact fun _ => rfl) (by first | exact c_int | exact fun _ => rfl)) (fun _ => rfl)
          | apply Sq.op (by first | rfl | (show (_ == _ : Bool) = true; first | rfl | (simp [*]; done) | (simp; omega))) (Op1.pure fun _ _ => rfl) (fun _ => rfl)
          | apply Sq.op (by first | rfl | (show (_ == _ : Bool) = true; first | rfl | (simp [*]; done) | (simp; omega))) (un_not (fun _ => rfl)) (fun _ => rfl)
          | apply Sq.op (by first | rfl | (show (_ == _ : Bool) = true; first | rfl | (simp [*]; done) | (simp; omega))) (Op1.pick_t (fun _ => rfl) (by first | rfl | assumption | (simp [*]; done) | (simp; omega)) (fun _ => rfl)) (fun _ => rfl)
          | apply Sq.op (by first | rfl | (show (_ == _ : Bool) = true; first | rfl | (simp [*]; done) | (simp; omega))) (Op1.pick_f (fun _ => rfl) (by first | rfl | assumption | (simp [*]; done) | (simp; omega)) (fun _ => rfl)) (fun _ => rfl))
      case he => exact .inr rfl
      case hr => exact res_cell (fun _ => rfl) (by first | assumption | exact Tr.get_same _ _ _ | (rw [Tr.get_ne _ _ (by omega)]; first | assumption | exact Tr.get_same _ _ _ | (rw [Tr.get_ne _ _ (by omega)]; first | assumption | exact Tr.get_same _ _ _ | (rw [Tr.get_ne _ _ (by omega)]; first | assumption | exact Tr.get_same _ _ _ | (rw [Tr.get_ne _ _ (by omega)]; first | assumption | exact Tr.get_same _ _ _))))) (by exact fun _ => rfl) res_nil
      case ho => exact fun _ => rfl
    case hv => rfl
  case h.right =>
    intro id hid
    simp only [Tr.get_set]
    repeat rw [if_neg (by omega)]
theorem set_6 (hX : X 50 = none) (c0 c2 c10 n : Int) (c1 c3 c4 c5 c6 c7 c8 c9 : Bool) (lim : Nat) (h : T) (nx : Nat) (hlim : lim ≤ nx) :
    ∃ h', Cl Tryd.prog X lim 50 [.ag [.i .u16 c0, .b c1, .i .u8 c2, .b c3, .b c4, .b c5, .b c6, .b c7, .b c8, .b c9, .i .u8 c10], .i .i64 6, .i .u16 n] h nx (.ag [.i .u16 c0, .b c1, .i .u8 c2, .b c3, .b c4, .b c5, .b c6, .b (n != 0), .b c8, .b c9, .i .u8 c10]) h' (nx + 2) ∧ ∀ id, id < nx → h'.get id = h.get id := by
  apply Exists.intro
  apply And.intro
  case h.left =>
    apply Cl.eq
    case a =>
      apply Cl.body (m := 3) hX Tryd.func50 rfl (fun _ => rfl) rfl
      case hc =>
        repeat' (first
          | exact Ev.ret
          | apply Ev.loop_out
          | exact Ev.skip
          | exact Ev.exit
          | exact Ev.label
          | exact Ex.exi_ne
          | exact Ex.ret_ne
          | exact Ex.got_ne
          | exact Or.inl ⟨Ex.exi_ne, rfl, rfl, rfl, rfl⟩
          | exact Or.inl ⟨Ex.ret_ne, rfl, rfl, rfl, rfl⟩
          | exact Or.inl ⟨Ex.got_ne, rfl, rfl, rfl, rfl⟩
          | refine Or.inr ⟨rfl, ?_⟩
          | exact Or.inl ⟨rfl, rfl⟩
          | exact Or.inr ⟨Ex.nor_other, rfl⟩
          | exact Or.inr ⟨Ex.ret_other, rfl⟩
          | exact Or.inr ⟨Ex.exi_other rfl, rfl⟩
          | exact Or.inr ⟨Ex.got_other, rfl⟩
          | apply Ev.region rfl
          | apply Ev.seq2
          | apply Ev.block3
          | apply Ev.cond_t (fun _ => rfl) (by first | rfl | assumption | (simp [*]; done) | (simp; omega))
          | apply Ev.cond_f (fun _ => rfl) (by first | rfl | assumption | (simp [*]; done) | (simp; omega))
          | exact Sq.nil
          | exact Dr.nil
          | apply Sq.op (by first | rfl | (show (_ == _ : Bool) = true; first | rfl | (simp [*]; done) | (simp; omega))) (conv_int Tryd.underlying22 Tryd.underlying5 (fun _ => rfl)) (fun _ => rfl)
          | apply Sq.op (by first | rfl | (show (_ == _ : Bool) = true; first | rfl | (simp [*]; done) | (simp; omega))) (Op1.load (fun _ => rfl) (by first | assumption | exact Tr.get_same _ _ _ | (rw [Tr.get_ne _ _ (by omega)]; first | assumption | exact Tr.get_same _ _ _ | (rw [Tr.get_ne _ _ (by omega)]; first | assumption | exact Tr.get_same _ _ _ | (rw [Tr.get_ne _ _ (by omega)]; first | assumption | exact Tr.get_same _ _ _ | (rw [Tr.get_ne _ _ (by omega)]; first | assumption | exact Tr.get_same _ _ _))))) (by exact fun _ => rfl)) (fun _ => rfl)
          | apply Sq.op (by first | rfl | (show (_ == _ : Bool) = true; first | rfl | (simp [*]; done) | (simp; omega))) (Op1.store (fun _ => rfl) (fun _ => rfl) (fun _ => rfl) rfl (by exact Nat.succ_pos _) (by omega) rfl (by first | assumption | exact Tr.get_same _ _ _ | (rw [Tr.get_ne _ _ (by omega)]; first | assumption | exact Tr.get_same _ _ _ | (rw [Tr.get_ne _ _ (by omega)]; first | assumption | exact Tr.get_same _ _ _ | (rw [Tr.get_ne _ _ (by omega)]; first | assumption | exact Tr.get_same _ _ _ | (rw [Tr.get_ne _ _ (by omega)]; first | assumption | exact Tr.get_same _ _ _))))) (by first | decide | omega) (by exact fun _ => rfl)) (fun _ => rfl)
          | apply Sq.op (by first | rfl | (show (_ == _ : Bool) = true; first | rfl | (simp [*]; done) | (simp; omega))) (Op1.alloc (fun _ => rfl)) (fun _ => rfl)
          | apply Sq.op (by first | rfl | (show (_ == _ : Bool) = true; first | rfl | (simp [*]; done) | (simp; omega))) (Op1.box (fun _ => rfl)) (fun _ => rfl)
          | apply Sq.out (by first | rfl | (show (_ == _ : Bool) = false; first | rfl | (simp [*]; done) | (simp; omega))) (fun _ => rfl)
          | apply Sq.op (by first | rfl | (show (_ == _ : Bool) = true; first | rfl | (simp [*]; done) | (simp; omega))) Op1.move_c (fun _ => rfl)
          | apply Sq.op (by first | rfl | (show (_ == _ : Bool) = true; first | rfl | (simp [*]; done) | (simp; omega))) Op1.assign_c (fun _ => rfl)
          | apply Sq.op (by first | rfl | (show (_ == _ : Bool) = true; first | rfl | (simp [*]; done) | (simp; omega))) (bin_add (by first | exact c_int | exact fun _ => rfl) (by first | exact c_int | exact fun _ => rfl)) (fun _ => rfl)
          | apply Sq.op (by first | rfl | (show (_ == _ : Bool) = true; first | rfl | (simp [*]; done) | (simp; omega))) (bin_sub (by first | exact c_int | exact fun _ => rfl) (by first | exact c_int | exact fun _ => rfl)) (fun _ => rfl)
          | apply Sq.op (by first | rfl | (show (_ == _ : Bool) = true; first | rfl | (simp [*]; done) | (simp; omega))) (bin_mul (by first | exact c_int | exact fun _ => rfl) (by first | exact c_int | exact fun _ => rfl)) (fun _ => rfl)
          | apply Sq.op (by first | rfl | (show (_ == _ : Bool) = true; first | rfl | (simp [*]; done) | (simp; omega))) (bin_and (by first | exact c_int | exact fun _ => rfl) (by first | exact c_int | exact fun _ => rfl)) (fun _ => rfl)
          | apply Sq.op (by first | rfl | (show (_ == _ : Bool) = true; first | rfl | (simp [*]; done) | (simp; omega))) (bin_or (by first | exact c_int | exact fun _ => rfl) (by first | exact c_int | exact fun _ => rfl)) (fun _ => rfl)
          | apply Sq.op (by first | rfl | (show (_ == _ : Bool) = true; first | rfl | (simp [*]; done) | (simp; omega))) (bin_xor (by first | exact c_int | exact fun _ => rfl) (by first | exact c_int | exact fun _ => rfl)) (fun _ => rfl)
          | apply Sq.op (by first | rfl | (show (_ == _ : Bool) = true; first | rfl | (simp [*]; done) | (simp; omega))) (bin_eql (by first | exact c_int | exact fun _ => rfl) (by first | exact c_int | exact fun _ => rfl)) (fun _ => rfl)
          | apply Sq.op (by first | rfl | (show (_ == _ : Bool) = true; first | rfl | (simp [*]; done) | (simp; omega))) (bin_neq (by first | exact c_int | exact fun _ => rfl) (by first | exact c_int | exact fun _ => rfl)) (fun _ => rfl)
          | apply Sq.op (by first | rfl | (show (_ == _ : Bool) = true; first | rfl | (simp [*]; done) | (simp; omega))) (bin_lss (by first | exact c_int | exact fun _ => rfl) (by first | exact c_int | exact fun _ => rfl)) (fun _ => rfl)
          | apply Sq.op (by first | rfl | (show (_ == _ : Bool) = true; first | rfl | (simp [*]; done) | (simp; omega))) (bin_gtr (by first | exact c_int | exact fun _ => rfl) (by first | exact c_int | exact fun _ => rfl)) (fun _ => rfl)
          | apply Sq.op (by first | rfl | (show (_ == _ : Bool) = true; first | rfl | (simp [*]; done) | (simp; omega))) (bin_leq (by first | exact c_int | exact fun _ => rfl) (by first | exact c_int | exact fun _ => rfl)) (fun _ => rfl)
          | apply Sq.op (by first | rfl | (show (_ == _ : Bool) = true; first | rfl | (simp [*]; done) | (simp; omega))) (bin_geq (by first | exact c_int | exact fun _ => rfl) (by first | exact c_int | exact fun _ => rfl)) (fun _ => rfl)
          | apply Sq.op (by first | rfl | (show (_ == _ : Bool) = true; first | rfl | (simp [*]; done) | (simp; omega))) (bin_quo (by first | exact c_int | exact fun _ => rfl) (by first | exact c_int | exact fun _ => rfl) (by decide)) (fun _ => rfl)
          | apply Sq.op (by first | rfl | (show (_ == _ : Bool) = true; first | rfl | (simp [*]; done) | (simp; omega))) (bin_rem (by first | exact c_int | exact fun _ => rfl) (by first | exact c_int | exact fun _ => rfl) (by decide)) (fun _ => rfl)
          | apply Sq.op (by first | rfl | (show (_ == _ : Bool) = true; first | rfl | (simp [*]; done) | (simp; omega))) (bin_shl (by first | exact c_int | exact fun _ => rfl) (by first | exact c_int | exact fun _ => rfl) (by decide)) (fun _ => rfl)
          | apply Sq.op (by first | rfl | (show (_ == _ : Bool) = true; first | rfl | (simp [*]; done) | (simp; omega))) (bin_shr (by first | exact c_int | exact fun _ => rfl) (by first | exact c_int | exact fun _ => rfl) (by decide)) (fun _ => rfl)
          | apply Sq.op (by first | rfl | (show (_ == _ : Bool) = true; first | rfl | (simp [*]; done) | (simp; omega))) (str_eql (by first | exact c_int | exact fun _ => rfl) (by first | exact c_int | exact fun _ => rfl)) (fun _ => rfl)
          | apply Sq.op (by first | rfl | (show (_ == _ : Bool) = true; first | rfl | (simp [*]; done) | (simp; omega))) (str_neq (by first | exact c_int | exact fun _ => rfl) (by first | exact c_int | exact fun _ => rfl)) (fun _ => rfl)
          | apply Sq.op (by first | rfl | (show (_ == _ : Bool) = true; first | rfl | (simp [*]; done) | (simp; omega))) (Op1.pure fun _ _ => rfl) (fun _ => rfl)
          | apply Sq.op (by first | rfl | (show (_ == _ : Bool) = true; first | rfl | (simp [*]; done) | (simp; omega))) (un_not (fun _ => rfl)) (fun _ => rfl)
          | apply Sq.op (by first | rfl | (show (_ == _ : Bool) = true; first | rfl | (simp [*]; done) | (simp; omega))) (Op1.pick_t (fun _ => rfl) (by first | rfl | assumption | (simp [*]; done) | (simp; omega)) (fun _ => rfl)) (fun _ => rfl)
          | apply Sq.op (by first | rfl | (show (_ == _ : Bool) = true; first | rfl | (simp [*]; done) | (simp; omega))) (Op1.pick_f (fun _ => rfl) (by first | rfl | assumption | (simp [*]; done) | (simp; omega)) (fun _ => rfl)) (fun _ => rfl))
      case he => exact .inr rfl
      case hr => exact res_cell (fun _ => rfl) (by first | assumption | exact Tr.get_same _ _ _ | (rw [Tr.get_ne _ _ (by omega)]; first | assumption | exact Tr.get_same _ _ _ | (rw [Tr.get_ne _ _ (by omega)]; first | assumption | exact Tr.get_same _ _ _ | (rw [Tr.get_ne _ _ (by omega)]; first | assumption | exact Tr.get_same _ _ _ | (rw [Tr.get_ne _ _ (by omega)]; first | assumption | exact Tr.get_same _ _ _))))) (by exact fun _ => rfl) res_nil
      case ho => exact fun _ => rfl
    case hv => rfl
  case h.right =>
    intro id hid
    simp only [Tr.get_set]
    repeat rw [if_neg (by omega)]
theorem set_7 (hX : X 50 = none) (c0 c2 c10 n : Int) (c1 c3 c4 c5 c6 c7 c8 c9 : Bool) (lim : Nat) (h : T) (nx : Nat) (hlim : lim ≤ nx) :
    ∃ h', Cl Tryd.prog X lim 50 [.ag [.i .u16 c0, .b c1, .i .u8 c2, .b c3, .b c4, .b c5, .b c6, .b c7, .b c8, .b c9, .i .u8 c10], .i .i64 7, .i .u16 n] h nx (.ag [.i .u16 c0, .b c1, .i .u8 c2, .b c3, .b c4, .b c5, .b c6, .b c7, .b (n != 0), .b c9, .i .u8 c10]) h' (nx + 2) ∧ ∀ id, id < nx → h'.get id = h.get id := by
  apply Exists.intro
  apply And.intro
  case h.left =>
    apply Cl.eq
    case a =>
      apply Cl.body (m := 3) hX Tryd.func50 rfl (fun _ => rfl) rfl
      case hc =>
        repeat' (first
          | exact Ev.ret
          | apply Ev.loop_out
          | exact Ev.skip
          | exact Ev.exit
          | exact Ev.label
          | exact Ex.exi_ne
          | exact Ex.ret_ne
          | exact Ex.got_ne
          | exact Or.inl ⟨Ex.exi_ne, rfl, rfl, rfl, rfl⟩
          | exact Or.inl ⟨Ex.ret_ne, rfl, rfl, rfl, rfl⟩
          | exact Or.inl ⟨Ex.got_ne, rfl, rfl, rfl, rfl⟩
          | refine Or.inr ⟨rfl, ?_⟩
          | exact Or.inl ⟨rfl, rfl⟩
          | exact Or.inr ⟨Ex.nor_other, rfl⟩
          | exact Or.inr ⟨Ex.ret_other, rfl⟩
          | exact Or.inr ⟨Ex.exi_other rfl, rfl⟩
          | exact Or.inr ⟨Ex.got_other, rfl⟩
          | apply Ev.region rfl
          | apply Ev.seq2
          | apply Ev.block3
          | apply Ev.cond_t (fun _ => rfl) (by first | rfl | assumption | (simp [*]; done) | (simp; omega))
          | apply Ev.cond_f (fun _ => rfl) (by first | rfl | assumption | (simp [*]; done) | (simp; omega))
          | exact Sq.nil
          | exact Dr.nil
          | apply Sq.op (by first | rfl | (show (_ == _ : Bool) = true; first | rfl | (simp [*]; done) | (simp; omega))) (conv_int Tryd.underlying22 Tryd.underlying5 (fun _ => rfl)) (fun _ => rfl)
          | apply Sq.op (by first | rfl | (show (_ == _ : Bool) = true; first | rfl | (simp [*]; done) | (simp; omega))) (Op1.load (fun _ => rfl) (by first | assumption | exact Tr.get_same _ _ _ | (rw [Tr.get_ne _ _ (by omega)]; first | assumption | exact Tr.get_same _ _ _ | (rw [Tr.get_ne _ _ (by omega)]; first | assumption | exact Tr.get_same _ _ _ | (rw [Tr.get_ne _ _ (by omega)]; first | assumption | exact Tr.get_same _ _ _ | (rw [Tr.get_ne _ _ (by omega)]; first | assumption | exact Tr.get_same _ _ _))))) (by exact fun _ => rfl)) (fun _ => rfl)
          | apply Sq.op (by first | rfl | (show (_ == _ : Bool) = true; first | rfl | (simp [*]; done) | (simp; omega))) (Op1.store (fun _ => rfl) (fun _ => rfl) (fun _ => rfl) rfl (by exact Nat.succ_pos _) (by omega) rfl (by first | assumption | exact Tr.get_same _ _ _ | (rw [Tr.get_ne _ _ (by omega)]; first | assumption | exact Tr.get_same _ _ _ | (rw [Tr.get_ne _ _ (by omega)]; first | assumption | exact Tr.get_same _ _ _ | (rw [Tr.get_ne _ _ (by omega)]; first | assumption | exact Tr.get_same _ _ _ | (rw [Tr.get_ne _ _ (by omega)]; first | assumption | exact Tr.get_same _ _ _))))) (by first | decide | omega) (by exact fun _ => rfl)) (fun _ => rfl)
          | apply Sq.op (by first | rfl | (show (_ == _ : Bool) = true; first | rfl | (simp [*]; done) | (simp; omega))) (Op1.alloc (fun _ => rfl)) (fun _ => rfl)
          | apply Sq.op (by first | rfl | (show (_ == _ : Bool) = true; first | rfl | (simp [*]; done) | (simp; omega))) (Op1.box (fun _ => rfl)) (fun _ => rfl)
          | apply Sq.out (by first | rfl | (show (_ == _ : Bool) = false; first | rfl | (simp [*]; done) | (simp; omega))) (fun _ => rfl)
          | apply Sq.op (by first | rfl | (show (_ == _ : Bool) = true; first | rfl | (simp [*]; done) | (simp; omega))) Op1.move_c (fun _ => rfl)
          | apply Sq.op (by first | rfl | (show (_ == _ : Bool) = true; first | rfl | (simp [*]; done) | (simp; omega))) Op1.assign_c (fun _ => rfl)
          | apply Sq.op (by first | rfl | (show (_ == _ : Bool) = true; first | rfl | (simp [*]; done) | (simp; omega))) (bin_add (by first | exact c_int | exact fun _ => rfl) (by first | exact c_int | exact fun _ => rfl)) (fun _ => rfl)
          | apply Sq.op (by first | rfl | (show (_ == _ : Bool) = true; first | rfl | (simp [*]; done) | (simp; omega))) (bin_sub (by first | exact c_int | exact fun _ => rfl) (by first | exact c_int | exact fun _ => rfl)) (fun _ => rfl)
          | apply Sq.op (by first | rfl | (show (_ == _ : Bool) = true; first | rfl | (simp [*]; done) | (simp; omega))) (bin_mul (by first | exact c_int | exact fun _ => rfl) (by first | exact c_int | exact fun _ => rfl)) (fun _ => rfl)
          | apply Sq.op (by first | rfl | (show (_ == _ : Bool) = true; first | rfl | (simp [*]; done) | (simp; omega))) (bin_and (by first | exact c_int | exact fun _ => rfl) (by first | exact c_int | exact fun _ => rfl)) (fun _ => rfl)
          | apply Sq.op (by first | rfl | (show (_ == _ : Bool) = true; first | rfl | (simp [*]; done) | (simp; omega))) (bin_or (by first | exact c_int | exact fun _ => rfl) (by first | exact c_int | exact fun _ => rfl)) (fun _ => rfl)
          | apply Sq.op (by first | rfl | (show (_ == _ : Bool) = true; first | rfl | (simp [*]; done) | (simp; omega))) (bin_xor (by first | exact c_int | exact fun _ => rfl) (by first | exact c_int | exact fun _ => rfl)) (fun _ => rfl)
          | apply Sq.op (by first | rfl | (show (_ == _ : Bool) = true; first | rfl | (simp [*]; done) | (simp; omega))) (bin_eql (by first | exact c_int | exact fun _ => rfl) (by first | exact c_int | exact fun _ => rfl)) (fun _ => rfl)
          | apply Sq.op (by first | rfl | (show (_ == _ : Bool) = true; first | rfl | (simp [*]; done) | (simp; omega))) (bin_neq (by first | exact c_int | exact fun _ => rfl) (by first | exact c_int | exact fun _ => rfl)) (fun _ => rfl)
          | apply Sq.op (by first | rfl | (show (_ == _ : Bool) = true; first | rfl | (simp [*]; done) | (simp; omega))) (bin_lss (by first | exact c_int | exact fun _ => rfl) (by first | exact c_int | exact fun _ => rfl)) (fun _ => rfl)
          | apply Sq.op (by first | rfl | (show (_ == _ : Bool) = true; first | rfl | (simp [*]; done) | (simp; omega))) (bin_gtr (by first | exact c_int | exact fun _ => rfl) (by first | exact c_int | exact fun _ => rfl)) (fun _ => rfl)
          | apply Sq.op (by first | rfl | (show (_ == _ : Bool) = true; first | rfl | (simp [*]; done) | (simp; omega))) (bin_leq (by first | exact c_int | exact fun _ => rfl) (by first | exact c_int | exact fun _ => rfl)) (fun _ => rfl)
          | apply Sq.op (by first | rfl | (show (_ == _ : Bool) = true; first | rfl | (simp [*]; done) | (simp; omega))) (bin_geq (by first | exact c_int | exact fun _ => rfl) (by first | exact c_int | exact fun _ => rfl)) (fun _ => rfl)
          | apply Sq.op (by first | rfl | (show (_ == _ : Bool) = true; first | rfl | (simp [*]; done) | (simp; omega))) (bin_quo (by first | exact c_int | exact fun _ => rfl) (by first | exact c_int | exact fun _ => rfl) (by decide)) (fun _ => rfl)
          | apply Sq.op (by first | rfl | (show (_ == _ : Bool) = true; first | rfl | (simp [*]; done) | (simp; omega))) (bin_rem (by first | exact c_int | exact fun _ => rfl) (by first | exact c_int | exact fun _ => rfl) (by decide)) (fun _ => rfl)
          | apply Sq.op (by first | rfl | (show (_ == _ : Bool) = true; first | rfl | (simp [*]; done) | (simp; omega))) (bin_shl (by first | exact c_int | exact fun _ => rfl) (by first | exact c_int | exact fun _ => rfl) (by decide)) (fun _ => rfl)
          | apply Sq.op (by first | rfl | (show (_ == _ : Bool) = true; first | rfl | (simp [*]; done) | (simp; omega))) (bin_shr (by first | exact c_int | exact fun _ => rfl) (by first | exact c_int | exact fun _ => rfl) (by decide)) (fun _ => rfl)
          | apply Sq.op (by first | rfl | (show (_ == _ : Bool) = true; first | rfl | (simp [*]; done) | (simp; omega))) (str_eql (by first | exact c_int | exact fun _ => rfl) (by first | exact c_int | exact fun _ => rfl)) (fun _ => rfl)
          | apply Sq.op (by first | rfl | (show (_ == _ : Bool) = true; first | rfl | (simp [*]; done) | (simp; omega))) (str_neq (by first | exact c_int | exact fun _ => rfl) (by first | exact c_int | exact fun _ => rfl)) (fun _ => rfl)
          | apply Sq.op (by first | rfl | (show (_ == _ : Bool) = true; first | rfl | (simp [*]; done) | (simp; omega))) (Op1.pure fun _ _ => rfl) (fun _ => rfl)
          | apply Sq.op (by first | rfl | (show (_ == _ : Bool) = true; first | rfl | (simp [*]; done) | (simp; omega))) (un_not (fun _ => rfl)) (fun _ => rfl)
          | apply Sq.op (by first | rfl | (show (_ == _ : Bool) = true; first | rfl | (simp [*]; done) | (simp; omega))) (Op1.pick_t (fun _ => rfl) (by first | rfl | assumption | (simp [*]; done) | (simp; omega)) (fun _ => rfl)) (fun _ => rfl)
          | apply Sq.op (by first | rfl | (show (_ == _ : Bool) = true; first | rfl | (simp [*]; done) | (simp; omega))) (Op1.pick_f (fun _ => rfl) (by first | rfl | assumption | (simp [*]; done) | (simp; omega)) (fun _ => rfl)) (fun _ => rfl))
      case he => exact .inr rfl
      case hr => exact res_cell (fun _ => rfl) (by first | assumption | exact Tr.get_same _ _ _ | (rw [Tr.get_ne _ _ (by omega)]; first | assumption | exact Tr.get_same _ _ _ | (rw [Tr.get_ne _ _ (by omega)]; first | assumption | exact Tr.get_same _ _ _ | (rw [Tr.get_ne _ _ (by omega)]; first | assumption | exact Tr.get_same _ _ _ | (rw [Tr.get_ne _ _ (by omega)]; first | assumption | exact Tr.get_same _ _ _))))) (by exact fun _ => rfl) res_nil
      case ho => exact fun _ => rfl
    case hv => rfl
  case h.right =>
    intro id hid
    simp only [Tr.get_set]
    repeat rw [if_neg (by omega)]
theorem set_8 (hX : X 50 = none) (c0 c2 c10 n : Int) (c1 c3 c4 c5 c6 c7 c8 c9 : Bool) (lim : Nat) (h : T) (nx : Nat) (hlim : lim ≤ nx) :
    ∃ h', Cl Tryd.prog X lim 50 [.ag [.i .u16 c0, .b c1, .i .u8 c2, .b c3, .b c4, .b c5, .b c6, .b c7, .b c8, .b c9, .i .u8 c10], .i .i64 8, .i .u16 n] h nx (.ag [.i .u16 c0, .b c1, .i .u8 c2, .b c3, .b c4, .b c5, .b c6, .b c7, .b c8, .b (n != 0), .i .u8 c10]) h' (nx + 2) ∧ ∀ id, id < nx → h'.get id = h.get id := by
  apply Exists.intro
  apply And.intro
  case h.left =>
    apply Cl.eq
    case a =>
      apply Cl.body (m := 3) hX Tryd.func50 rfl (fun _ => rfl) rfl
      case hc =>
        repeat' (first
          | exact Ev.ret
          | apply Ev.loop_out
          | exact Ev.skip
          | exact Ev.exit
          | exact Ev.label
          | exact Ex.exi_ne
          | exact Ex.ret_ne
          | exact Ex.got_ne
          | exact Or.inl ⟨Ex.exi_ne, rfl, rfl, rfl, rfl⟩
          | exact Or.inl ⟨Ex.ret_ne, rfl, rfl, rfl, rfl⟩
          | exact Or.inl ⟨Ex.got_ne, rfl, rfl, rfl, rfl⟩
          | refine Or.inr ⟨rfl, ?_⟩
          | exact Or.inl ⟨rfl, rfl⟩
          | exact Or.inr ⟨Ex.nor_other, rfl⟩
          | exact Or.inr ⟨Ex.ret_other, rfl⟩
          | exact Or.inr ⟨Ex.exi_other rfl, rfl⟩
          | exact Or.inr ⟨Ex.got_other, rfl⟩
          | apply Ev.region rfl
          | apply Ev.seq2
          | apply Ev.block3
          | apply Ev.cond_t (fun _ => rfl) (by first | rfl | assumption | (simp [*]; done) | (simp; omega))
          | apply Ev.cond_f (fun _ => rfl) (by first | rfl | assumption | (simp [*]; done) | (simp; omega))
          | exact Sq.nil
          | exact Dr.nil
          | apply Sq.op (by first | rfl | (show (_ == _ : Bool) = true; first | rfl | (simp [*]; done) | (simp; omega))) (conv_int Tryd.underlying22 Tryd.underlying5 (fun _ => rfl)) (fun _ => rfl)
          | apply Sq.op (by first | rfl | (show (_ == _ : Bool) = true; first | rfl | (simp [*]; done) | (simp; omega))) (Op1.load (fun _ => rfl) (by first | assumption | exact Tr.get_same _ _ _ | (rw [Tr.get_ne _ _ (by omega)]; first | assumption | exact Tr.get_same _ _ _ | (rw [Tr.get_ne _ _ (by omega)]; first | assumption | exact Tr.get_same _ _ _ | (rw [Tr.get_ne _ _ (by omega)]; first | assumption | exact Tr.get_same _ _ _ | (rw [Tr.get_ne _ _ (by omega)]; first | assumption | exact Tr.get_same _ _ _))))) (by exact fun _ => rfl)) (fun _ => rfl)
          | apply Sq.op (by first | rfl | (show (_ == _ : Bool) = true; first | rfl | (simp [*]; done) | (simp; omega))) (Op1.store (fun _ => rfl) (fun _ => rfl) (fun _ => rfl) rfl (by exact Nat.succ_pos _) (by omega) rfl (by first | assumption | exact Tr.get_same _ _ _ | (rw [Tr.get_ne _ _ (by omega)]; first | assumption | exact Tr.get_same _ _ _ | (rw [Tr.get_ne _ _ (by omega)]; first | assumption | exact Tr.get_same _ _ _ | (rw [Tr.get_ne _ _ (by omega)]; first | assumption | exact Tr.get_same _ _ _ | (rw [Tr.get_ne _ _ (by omega)]; first | assumption | exact Tr.get_same _ _ _))))) (by first | decide | omega) (by exact fun _ => rfl)) (fun _ => rfl)
          | apply Sq.op (by first | rfl | (show (_ == _ : Bool) = true; first | rfl | (simp [*]; done) | (simp; omega))) (Op1.alloc (fun _ => rfl)) (fun _ => rfl)
          | apply Sq.op (by first | rfl | (show (_ == _ : Bool) = true; first | rfl | (simp [*]; done) | (simp; omega))) (Op1.box (fun _ => rfl)) (fun _ => rfl)
          | apply Sq.out (by first | rfl | (show (_ == _ : Bool) = false; first | rfl | (simp [*]; done) | (simp; omega))) (fun _ => rfl)
          | apply Sq.op (by first | rfl | (show (_ == _ : Bool) = true; first | rfl | (simp [*]; done) | (simp; omega))) Op1.move_c (fun _ => rfl)
          | apply Sq.op (by first | rfl | (show (_ == _ : Bool) = true; first | rfl | (simp [*]; done) | (simp; omega))) Op1.assign_c (fun _ => rfl)
          | apply Sq.op (by first | rfl | (show (_ == _ : Bool) = true; first | rfl | (simp [*]; done) | (simp; omega))) (bin_add (by first | exact c_int | exact fun _ => rfl) (by first | exact c_int | exact fun _ => rfl)) (fun _ => rfl)
          | apply Sq.op (by first | rfl | (show (_ == _ : Bool) = true; first | rfl | (simp [*]; done) | (simp; omega))) (bin_sub (by first | exact c_int | exact fun _ => rfl) (by first | exact c_int | exact fun _ => rfl)) (fun _ => rfl)
          | apply Sq.op (by first | rfl | (show (_ == _ : Bool) = true; first | rfl | (simp [*]; done) | (simp; omega))) (bin_mul (by first | exact c_int | exact fun _ => rfl) (by first | exact c_int | exact fun _ => rfl)) (fun _ => rfl)
          | apply Sq.op (by first | rfl | (show (_ == _ : Bool) = true; first | rfl | (simp [*]; done) | (simp; omega))) (bin_and (by first | exact c_int | exact fun _ => rfl) (by first | exact c_int | exact fun _ => rfl)) (fun _ => rfl)
          | apply Sq.op (by first | rfl | (show (_ == _ : Bool) = true; first | rfl | (simp [*]; done) | (simp; omega))) (bin_or (by first | exact c_int | exact fun _ => rfl) (by first | exact c_int | exact fun _ => rfl)) (fun _ => rfl)
          | apply Sq.op (by first | rfl | (show (_ == _ : Bool) = true; first | rfl | (simp [*]; done) | (simp; omega))) (bin_xor (by first | exact c_int | exact fun _ => rfl) (by first | exact c_int | exact fun _ => rfl)) (fun _ => rfl)
          | apply Sq.op (by first | rfl | (show (_ == _ : Bool) = true; first | rfl | (simp [*]; done) | (simp; omega))) (bin_eql (by first | exact c_int | exact fun _ => rfl) (by first | exact c_int | exact fun _ => rfl)) (fun _ => rfl)
          | apply Sq.op (by first | rfl | (show (_ == _ : Bool) = true; first | rfl | (simp [*]; done) | (simp; omega))) (bin_neq (by first | exact c_int | exact fun _ => rfl) (by first | exact c_int | exact fun _ => rfl)) (fun _ => rfl)
          | apply Sq.op (by first | rfl | (show (_ == _ : Bool) = true; first | rfl | (simp [*]; done) | (simp; omega))) (bin_lss (by first | exact c_int | exact fun _ => rfl) (by first | exact c_int | exact fun _ => rfl)) (fun _ => rfl)
          | apply Sq.op (by first | rfl | (show (_ == _ : Bool) = true; first | rfl | (simp [*]; done) | (simp; omega))) (bin_gtr (by first | exact c_int | exact fun _ => rfl) (by first | exact c_int | exact fun _ => rfl)) (fun _ => rfl)
          | apply Sq.op (by first | rfl | (show (_ == _ : Bool) = true; first | rfl | (simp [*]; done) | (simp; omega))) (bin_leq (by first | exact c_int | exact fun _ => rfl) (by first | exact c_int | exact fun _ => rfl)) (fun _ => rfl)
          | apply Sq.op (by first | rfl | (show (_ == _ : Bool) = true; first | rfl | (simp [*]; done) | (simp; omega))) (bin_geq (by first | exact c_int | exact fun _ => rfl) (by first | exact c_int | exact fun _ => rfl)) (fun _ => rfl)
          | apply Sq.op (by first | rfl | (show (_ == _ : Bool) = true; first | rfl | (simp [*]; done) | (simp; omega))) (bin_quo (by first | exact c_int | exact fun _ => rfl) (by first | exact c_int | exact fun _ => rfl) (by decide)) (fun _ => rfl)
          | apply Sq.op (by first | rfl | (show (_ == _ : Bool) = true; first | rfl | (simp [*]; done) | (simp; omega))) (bin_rem (by first | exact c_int | exact fun _ => rfl) (by first | exact c_int | exact fun _ => rfl) (by decide)) (fun _ => rfl)
          | apply Sq.op (by first | rfl | (show (_ == _ : Bool) = true; first | rfl | (simp [*]; done) | (simp; omega))) (bin_shl (by first | exact c_int | exact fun _ => rfl) (by first | exact c_int | exact fun _ => rfl) (by decide)) (fun _ => rfl)
          | apply Sq.op (by first | rfl | (show (_ == _ : Bool) = true; first | rfl | (simp [*]; done) | (simp; omega))) (bin_shr (by first | exact c_int | exact fun _ => rfl) (by first | exact c_int | exact fun _ => rfl) (by decide)) (fun _ => rfl)
          | apply Sq.op (by first | rfl | (show (_ == _ : Bool) = true; first | rfl | (simp [*]; done) | (simp; omega))) (str_eql (by first | exact c_int | exact fun _ => rfl) (by first | exact c_int | exact fun _ => rfl)) (fun _ => rfl)
          | apply Sq.op (by first | rfl | (show (_ == _ : Bool) = true; first | rfl | (simp [*]; done) | (simp; omega))) (str_neq (by first | exact c_int | exact fun _ => rfl) (by first | exact c_int | exact fun _ => rfl)) (fun _ => rfl)
          | apply Sq.op (by first | rfl | (show (_ == _ : Bool) = true; first | rfl | (simp [*]; done) | (simp; omega))) (Op1.pure fun _ _ => rfl) (fun _ => rfl)
          | apply Sq.op (by first | rfl | (show (_ == _ : Bool) = true; first | rfl | (simp [*]; done) | (simp; omega))) (un_not (fun _ => rfl)) (fun _ => rfl)
          | apply Sq.op (by first | rfl | (show (_ == _ : Bool) = true; first | rfl | (simp [*]; done) | (simp; omega))) (Op1.pick_t (fun _ => rfl) (by first | rfl | assumption | (simp [*]; done) | (simp; omega)) (fun _ => rfl)) (fun _ => rfl)
          | apply Sq.op (by first | rfl | (show (_ == _ : Bool) = true; first | rfl | (simp [*]; done) | (simp; omega))) (Op1.pick_f (fun _ => rfl) (by first | rfl | assumption | (simp [*]; done) | (simp; omega)) (fun _ => rfl)) (fun _ => rfl))
      case he => exact .inr rfl
      case hr => exact res_cell (fun _ => rfl) (by first | assumption | exact Tr.get_same _ _ _ | (rw [Tr.get_ne _ _ (by omega)]; first | assumption | exact Tr.get_same _ _ _ | (rw [Tr.get_ne _ _ (by omega)]; first | assumption | exact Tr.get_same _ _ _ | (rw [Tr.get_ne _ _ (by omega)]; first | assumption | exact Tr.get_same _ _ _ | (rw [Tr.get_ne _ _ (by omega)]; first | assumption | exact Tr.get_same _ _ _))))) (by exact fun _ => rfl) res_nil
      case ho => exact fun _ => rfl
    case hv => rfl
  case h.right =>
    intro id hid
    simp only [Tr.get_set]
    repeat rw [if_neg (by omega)]
theorem set_9 (hX : X 50 = none) (c0 c2 c10 n : Int) (c1 c3 c4 c5 c6 c7 c8 c9 : Bool) (lim : Nat) (h : T) (nx : Nat) (hlim : lim ≤ nx) :
    ∃ h', Cl Tryd.prog X lim 50 [.ag [.i .u16 c0, .b c1, .i .u8 c2, .b c3, .b c4, .b c5, .b c6, .b c7, .b c8, .b c9, .i .u8 c10], .i .i64 9, .i .u16 n] h nx (.ag [.i .u16 c0, .b c1, .i .u8 c2, .b c3, .b c4, .b c5, .b c6, .b c7, .b c8, .b c9, .i .u8 (IntKind.u8.wrap n)]) h' (nx + 2) ∧ ∀ id, id < nx → h'.get id = h.get id := by
  apply Exists.intro
  apply And.intro
  case h.left =>
    apply Cl.eq
    case a =>
      apply Cl.body (m := 3) hX Tryd.func50 rfl (fun _ => rfl) rfl
      case hc =>
        repeat' (first
          | exact Ev.ret
          | apply Ev.loop_out
          | exact Ev.skip
          | exact Ev.exit
          | exact Ev.label
          | exact Ex.exi_ne
          | exact Ex.ret_ne
          | exact Ex.got_ne
          | exact Or.inl ⟨Ex.exi_ne, rfl, rfl, rfl, rfl⟩
          | exact Or.inl ⟨Ex.ret_ne, rfl, rfl, rfl, rfl⟩
          | exact Or.inl ⟨Ex.got_ne, rfl, rfl, rfl, rfl⟩
          | refine Or.inr ⟨rfl, ?_⟩
          | exact Or.inl ⟨rfl, rfl⟩
          | exact Or.inr ⟨Ex.nor_other, rfl⟩
          | exact Or.inr ⟨Ex.ret_other, rfl⟩
          | exact Or.inr ⟨Ex.exi_other rfl, rfl⟩
          | exact Or.inr ⟨Ex.got_other, rfl⟩
          | apply Ev.region rfl
          | apply Ev.seq2
          | apply Ev.block3
          | apply Ev.cond_t (fun _ => rfl) (by first | rfl | assumption | (simp [*]; done) | (simp; omega))
          | apply Ev.cond_f (fun _ => rfl) (by first | rfl | assumption | (simp [*]; done) | (simp; omega))
          | exact Sq.nil
          | exact Dr.nil
          | apply Sq.op (by first | rfl | (show (_ == _ : Bool) = true; first | rfl | (simp [*]; done) | (simp; omega))) (conv_int Tryd.underlying22 Tryd.underlying5 (fun _ => rfl)) (fun _ => rfl)
          | apply Sq.op (by first | rfl | (show (_ == _ : Bool) = true; first | rfl | (simp [*]; done) | (simp; omega))) (Op1.load (fun _ => rfl) (by first | assumption | exact Tr.get_same _ _ _ | (rw [Tr.get_ne _ _ (by omega)]; first | assumption | exact Tr.get_same _ _ _ | (rw [Tr.get_ne _ _ (by omega)]; first | assumption | exact Tr.get_same _ _ _ | (rw [Tr.get_ne _ _ (by omega)]; first | assumption | exact Tr.get_same _ _ _ | (rw [Tr.get_ne _ _ (by omega)]; first | assumption | exact Tr.get_same _ _ _))))) (by exact fun _ => rfl)) (fun _ => rfl)
          | apply Sq.op (by first | rfl | (show (_ == _ : Bool) = true; first | rfl | (simp [*]; done) | (simp; omega))) (Op1.store (fun _ => rfl) (fun _ => rfl) (fun _ => rfl) rfl (by exact Nat.succ_pos _) (by omega) rfl (by first | assumption | exact Tr.get_same _ _ _ | (rw [Tr.get_ne _ _ (by omega)]; first | assumption | exact Tr.get_same _ _ _ | (rw [Tr.get_ne _ _ (by omega)]; first | assumption | exact Tr.get_same _ _ _ | (rw [Tr.get_ne _ _ (by omega)]; first | assumption | exact Tr.get_same _ _ _ | (rw [Tr.get_ne _ _ (by omega)]; first | assumption | exact Tr.get_same _ _ _))))) (by first | decide | omega) (by exact fun _ => rfl)) (fun _ => rfl)
          | apply Sq.op (by first | rfl | (show (_ == _ : Bool) = true; first | rfl | (simp [*]; done) | (simp; omega))) (Op1.alloc (fun _ => rfl)) (fun _ => rfl)
          | apply Sq.op (by first | rfl | (show (_ == _ : Bool) = true; first | rfl | (simp [*]; done) | (simp; omega))) (Op1.box (fun _ => rfl)) (fun _ => rfl)
          | apply Sq.out (by first | rfl | (show (_ == _ : Bool) = false; first | rfl | (simp [*]; done) | (simp; omega))) (fun _ => rfl)
          | apply Sq.op (by first | rfl | (show (_ == _ : Bool) = true; first | rfl | (simp [*]; done) | (simp; omega))) Op1.move_c (fun _ => rfl)
          | apply Sq.op (by first | rfl | (show (_ == _ : Bool) = true; first | rfl | (simp [*]; done) | (simp; omega))) Op1.assign_c (fun _ => rfl)
          | apply Sq.op (by first | rfl | (show (_ == _ : Bool) = true; first | rfl | (simp [*]; done) | (simp; omega))) (bin_add (by first | exact c_int | exact fun _ => rfl) (by first | exact c_int | exact fun _ => rfl)) (fun _ => rfl)
          | apply Sq.op (by first | rfl | (show (_ == _ : Bool) = true; first | rfl | (simp [*]; done) | (simp; omega))) (bin_sub (by first | exact c_int | exact fun _ => rfl) (by first | exact c_int | exact fun _ => rfl)) (fun _ => rfl)
          | apply Sq.op (by first | rfl | (show (_ == _ : Bool) = true; first | rfl | (simp [*]; done) | (simp; omega))) (bin_mul (by first | exact c_int | exact fun _ => rfl) (by first | exact c_int | exact fun _ => rfl)) (fun _ => rfl)
          | apply Sq.op (by first | rfl | (show (_ == _ : Bool) = true; first | rfl | (simp [*]; done) | (simp; omega))) (bin_and (by first | exact c_int | exact fun _ => rfl) (by first | exact c_int | exact fun _ => rfl)) (fun _ => rfl)
          | apply Sq.op (by first | rfl | (show (_ == _ : Bool) = true; first | rfl | (simp [*]; done) | (simp; omega))) (bin_or (by first | exact c_int | exact fun _ => rfl) (by first | exact c_int | exact fun _ => rfl)) (fun _ => rfl)
          | apply Sq.op (by first | rfl | (show (_ == _ : Bool) = true; first | rfl | (simp [*]; done) | (simp; omega))) (bin_xor (by first | exact c_int | exact fun _ => rfl) (by first | exact c_int | exact fun _ => rfl)) (fun _ => rfl)
          | apply Sq.op (by first | rfl | (show (_ == _ : Bool) = true; first | rfl | (simp [*]; done) | (simp; omega))) (bin_eql (by first | exact c_int | exact fun _ => rfl) (by first | exact c_int | exact fun _ => rfl)) (fun _ => rfl)
          | apply Sq.op (by first | rfl | (show (_ == _ : Bool) = true; first | rfl | (simp [*]; done) | (simp; omega))) (bin_neq (by first | exact c_int | exact fun _ => rfl) (by first | exact c_int | exact fun _ => rfl)) (fun _ => rfl)
          | apply Sq.op (by first | rfl | (show (_ == _ : Bool) = true; first | rfl | (simp [*]; done) | (simp; omega))) (bin_lss (by first | exact c_int | exact fun _ => rfl) (by first | exact c_int | exact fun _ => rfl)) (fun _ => rfl)
          | apply Sq.op (by first | rfl | (show (_ == _ : Bool) = true; first | rfl | (simp [*]; done) | (simp; omega))) (bin_gtr (by first | exact c_int | exact fun _ => rfl) (by first | exact c_int | exact fun _ => rfl)) (fun _ => rfl)
          | apply Sq.op (by first | rfl | (show (_ == _ : Bool) = true; first | rfl | (simp [*]; done) | (simp; omega))) (bin_leq (by first | exact c_int | exact fun _ => rfl) (by first | exact c_int | exact fun _ => rfl)) (fun _ => rfl)
          | apply Sq.op (by first | rfl | (show (_ == _ : Bool) = true; first | rfl | (simp [*]; done) | (simp; omega))) (bin_geq (by first | exact c_int | exact fun _ => rfl) (by first | exact c_int | exact fun _ => rfl)) (fun _ => rfl)
          | apply Sq.op (by first | rfl | (show (_ == _ : Bool) = true; first | rfl | (simp [*]; done) | (simp; omega))) (bin_quo (by first | exact c_int | exact fun _ => rfl) (by first | exact c_int | exact fun _ => rfl) (by decide)) (fun _ => rfl)
          | apply Sq.op (by first | rfl | (show (_ == _ : Bool) = true; first | rfl | (simp [*]; done) | (simp; omega))) (bin_rem (by first | exact c_int | exact fun _ => rfl) (by first | exact c_int | exact fun _ => rfl) (by decide)) (fun _ => rfl)
          | apply Sq.op (by first | rfl | (show (_ == _ : Bool) = true; first | rfl | (simp [*]; done) | (simp; omega))) (bin_shl (by first | exact c_int | exact fun _ => rfl) (by first | exact c_int | exact fun _ => rfl) (by decide)) (fun _ => rfl)
          | apply Sq.op (by first | rfl | (show (_ == _ : Bool) = true; first | rfl | (simp [*]; done) | (simp; omega))) (bin_shr (by first | exact c_int | exact fun _ => rfl) (by first | exact c_int | exact fun _ => rfl) (by decide)) (fun _ => rfl)
          | apply Sq.op (by first | rfl | (show (_ == _ : Bool) = true; first | rfl | (simp [*]; done) | (simp; omega))) (str_eql (by first | exact c_int | exact fun _ => rfl) (by first | exact c_int | exact fun _ => rfl)) (fun _ => rfl)
          | apply Sq.op (by first | rfl | (show (_ == _ : Bool) = true; first | rfl | (simp [*]; done) | (simp; omega))) (str_neq (by first | exact c_int | exact fun _ => rfl) (by first | exact c_int | exact fun _ => rfl)) (fun _ => rfl)
          | apply Sq.op (by first | rfl | (show (_ == _ : Bool) = true; first | rfl | (simp [*]; done) | (simp; omega))) (Op1.pure fun _ _ => rfl) (fun _ => rfl)
          | apply Sq.op (by first | rfl | (show (_ == _ : Bool) = true; first | rfl | (simp [*]; done) | (simp; omega))) (un_not (fun _ => rfl)) (fun _ => rfl)
          | apply Sq.op (by first | rfl | (show (_ == _ : Bool) = true; first | rfl | (simp [*]; done) | (simp; omega))) (Op1.pick_t (fun _ => rfl) (by first | rfl | assumption | (simp [*]; done) | (simp; omega)) (fun _ => rfl)) (fun _ => rfl)
          | apply Sq.op (by first | rfl | (show (_ == _ : Bool) = true; first | rfl | (simp [*]; done) | (simp; omega))) (Op1.pick_f (fun _ => rfl) (by first | rfl | assumption | (simp [*]; done) | (simp; omega)) (fun _ => rfl)) (fun _ => rfl))
      case he => exact .inr rfl
      case hr => exact res_cell (fun _ => rfl) (by first | assumption | exact Tr.get_same _ _ _ | (rw [Tr.get_ne _ _ (by omega)]; first | assumption | exact Tr.get_same _ _ _ | (rw [Tr.get_ne _ _ (by omega)]; first | assumption | exact Tr.get_same _ _ _ | (rw [Tr.get_ne _ _ (by omega)]; first | assumption | exact Tr.get_same _ _ _ | (rw [Tr.get_ne _ _ (by omega)]; first | assumption | exact Tr.get_same _ _ _))))) (by exact fun _ => rfl) res_nil
      case ho => exact fun _ => rfl
    case hv => rfl
  case h.right =>
    intro id hid
    simp only [Tr.get_set]
    repeat rw [if_neg (by omega)]
end Clo
end Go.Proofs.YtlcggjaogbclkaaDoor
