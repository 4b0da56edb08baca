/-
  hustingslaw03.unlike: of two heads that differ in this part, 1.
-/
import Derived.Test.YtlcggjaogbclkaaDoorHdC
namespace Go.Proofs.YtlcggjaogbclkaaDoor
namespace Clo
open Go.RowKit
set_option linter.unusedVariables false
set_option maxRecDepth 10000
set_option maxHeartbeats 64000000
variable {X : XT}
theorem unlike_4 (hX : X 24 = none) (a0 a2 a10 : Int) (a1 a3 a4 a5 a6 a7 a8 a9 c : Bool) (hj : (a4 == c) = false) (lim : Nat) (h : T) (nx : Nat) (hlim : lim ≤ nx) :
    ∃ h', Cl Tryd.prog X lim 24 [.ag [.i .u16 a0, .b a1, .i .u8 a2, .b a3, .b a4, .b a5, .b a6, .b a7, .b a8, .b a9, .i .u8 a10], .ag [.i .u16 a0, .b a1, .i .u8 a2, .b a3, .b c, .b a5, .b a6, .b a7, .b a8, .b a9, .i .u8 a10]] h nx (.i .i64 1) h' (nx + 3) ∧ ∀ id, id < nx → h'.get id = h.get id := by
  apply Exists.intro
  apply And.intro
  case h.left =>
    apply Cl.eq
    case a =>
      apply Cl.body (m := 2) hX Tryd.func24 rfl (fun _ => rfl) rfl
      case hc =>
        repeat' (first
          | exact Ev.ret
          | apply Ev.loop2
          | exact Ev.skip
          | exact Ev.exit
          | exact Ev.label
          | exact Ex.exi_ne
          | exact Ex.ret_ne
          | exact Ex.got_ne
          | exact Or.inl ⟨Ex.exi_ne, rfl, rfl, rfl, rfl⟩
          | exact Or.inl ⟨Ex.ret_ne, rfl, rfl, rfl, rfl⟩
          | exact Or.inl ⟨Ex.got_ne, rfl, rfl, rfl, rfl⟩
          | refine Or.inr ⟨rfl, ?_⟩
          | exact Or.inl ⟨rfl, rfl⟩
          | exact Or.inr ⟨Ex.nor_other, rfl⟩
          | exact Or.inr ⟨Ex.ret_other, rfl⟩
          | exact Or.inr ⟨Ex.exi_other rfl, rfl⟩
          | exact Or.inr ⟨Ex.got_other, rfl⟩
          | apply Ev.region rfl
          | apply Ev.seq2
          | apply Ev.block3
          | apply Ev.cond_t (fun _ => rfl) (by first | rfl | assumption | (simp [*]; done) | (simp; omega))
          | apply Ev.cond_f (fun _ => rfl) (by first | rfl | assumption | (simp [*]; done) | (simp; omega))
          | exact Sq.nil
          | exact Dr.nil
          | apply Sq.op (by first | rfl | (show (_ == _ : Bool) = true; first | rfl | (simp [*]; done) | (simp; omega))) (Op1.buildSlice Tryd.underlying88 (fun _ => rfl) rfl (fun _ => rfl) rfl (fun _ => rfl)) (fun _ => rfl)
          | apply Sq.op (by first | rfl | (show (_ == _ : Bool) = true; first | rfl | (simp [*]; done) | (simp; omega))) (neq_one (fun _ => rfl) (fun _ => rfl) hj) (fun _ => rfl)
          | apply Sq.op (by first | rfl | (show (_ == _ : Bool) = true; first | rfl | (simp [*]; done) | (simp; omega))) (bneq_one Tryd.underlying4 (fun _ => rfl) (fun _ => rfl) hj) (fun _ => rfl)
          | apply Sq.op (by first | rfl | (show (_ == _ : Bool) = true; first | rfl | (simp [*]; done) | (simp; omega))) (neq_same (fun _ => rfl) (fun _ => rfl)) (fun _ => rfl)
          | apply Sq.op (by first | rfl | (show (_ == _ : Bool) = true; first | rfl | (simp [*]; done) | (simp; omega))) (bneq_same Tryd.underlying4 (fun _ => rfl) (fun _ => rfl)) (fun _ => rfl)
          | apply Sq.op (by first | rfl | (show (_ == _ : Bool) = true; first | rfl | (simp [*]; done) | (simp; omega))) (bin_add_z (by first | exact c_int | exact fun _ => rfl) (by first | exact c_int | exact fun _ => rfl) (show IntKind.i64.wrap (0 + 1) = 1 from rfl)) (fun _ => rfl)
          | apply Sq.op (by first | rfl | (show (_ == _ : Bool) = true; first | rfl | (simp [*]; done) | (simp; omega))) (bin_add_z (by first | exact c_int | exact fun _ => rfl) (by first | exact c_int | exact fun _ => rfl) (show IntKind.i64.wrap (1 + 1) = 2 from rfl)) (fun _ => rfl)
          | apply Sq.op (by first | rfl | (show (_ == _ : Bool) = true; first | rfl | (simp [*]; done) | (simp; omega))) (bin_add_z (by first | exact c_int | exact fun _ => rfl) (by first | exact c_int | exact fun _ => rfl) (show IntKind.i64.wrap (2 + 1) = 3 from rfl)) (fun _ => rfl)
          | apply Sq.op (by first | rfl | (show (_ == _ : Bool) = true; first | rfl | (simp [*]; done) | (simp; omega))) (bin_add_z (by first | exact c_int | exact fun _ => rfl) (by first | exact c_int | exact fun _ => rfl) (show IntKind.i64.wrap (3 + 1) = 4 from rfl)) (fun _ => rfl)
          | apply Sq.op (by first | rfl | (show (_ == _ : Bool) = true; first | rfl | (simp [*]; done) | (simp; omega))) (bin_add_z (by first | exact c_int | exact fun _ => rfl) (by first | exact c_int | exact fun _ => rfl) (show IntKind.i64.wrap (4 + 1) = 5 from rfl)) (fun _ => rfl)
          | apply Sq.op (by first | rfl | (show (_ == _ : Bool) = true; first | rfl | (simp [*]; done) | (simp; omega))) (bin_add_z (by first | exact c_int | exact fun _ => rfl) (by first | exact c_int | exact fun _ => rfl) (show IntKind.i64.wrap (5 + 1) = 6 from rfl)) (fun _ => rfl)
          | apply Sq.op (by first | rfl | (show (_ == _ : Bool) = true; first | rfl | (simp [*]; done) | (simp; omega))) (bin_add_z (by first | exact c_int | exact fun _ => rfl) (by first | exact c_int | exact fun _ => rfl) (show IntKind.i64.wrap (6 + 1) = 7 from rfl)) (fun _ => rfl)
          | apply Sq.op (by first | rfl | (show (_ == _ : Bool) = true; first | rfl | (simp [*]; done) | (simp; omega))) (bin_add_z (by first | exact c_int | exact fun _ => rfl) (by first | exact c_int | exact fun _ => rfl) (show IntKind.i64.wrap (7 + 1) = 8 from rfl)) (fun _ => rfl)
          | apply Sq.op (by first | rfl | (show (_ == _ : Bool) = true; first | rfl | (simp [*]; done) | (simp; omega))) (bin_add_z (by first | exact c_int | exact fun _ => rfl) (by first | exact c_int | exact fun _ => rfl) (show IntKind.i64.wrap (8 + 1) = 9 from rfl)) (fun _ => rfl)
          | apply Sq.op (by first | rfl | (show (_ == _ : Bool) = true; first | rfl | (simp [*]; done) | (simp; omega))) (bin_add_z (by first | exact c_int | exact fun _ => rfl) (by first | exact c_int | exact fun _ => rfl) (show IntKind.i64.wrap (9 + 1) = 10 from rfl)) (fun _ => rfl)
          | apply Sq.op (by first | rfl | (show (_ == _ : Bool) = true; first | rfl | (simp [*]; done) | (simp; omega))) (bin_add_z (by first | exact c_int | exact fun _ => rfl) (by first | exact c_int | exact fun _ => rfl) (show IntKind.i64.wrap (10 + 1) = 11 from rfl)) (fun _ => rfl)
          | apply Sq.op (by first | rfl | (show (_ == _ : Bool) = true; first | rfl | (simp [*]; done) | (simp; omega))) (bin_lss_z (z := true) (by first | exact c_int | exact fun _ => rfl) (by first | exact c_int | exact fun _ => rfl) rfl) (fun _ => rfl)
          | apply Sq.op (by first | rfl | (show (_ == _ : Bool) = true; first | rfl | (simp [*]; done) | (simp; omega))) (bin_lss_z (z := false) (by first | exact c_int | exact fun _ => rfl) (by first | exact c_int | exact fun _ => rfl) rfl) (fun _ => rfl)
          | (show Sq _ _ _ _ _ ({ dst := _, op := .load _ _, type := _, pos := _, after := _, guard := _ } :: _) _ _ _ _ _ _; apply Sq.op (by first | rfl | (show (_ == _ : Bool) = true; first | rfl | (simp [*]; done) | (simp; omega))) (Op1.load (fun _ => rfl) (by first | assumption | exact Tr.get_same _ _ _ | (rw [Tr.get_ne _ _ (by omega)]; first | assumption | exact Tr.get_same _ _ _ | (rw [Tr.get_ne _ _ (by omega)]; first | assumption | exact Tr.get_same _ _ _ | (rw [Tr.get_ne _ _ (by omega)]; first | assumption | exact Tr.get_same _ _ _ | (rw [Tr.get_ne _ _ (by omega)]; first | assumption | exact Tr.get_same _ _ _))))) (by exact fun _ => rfl)) (fun _ => rfl))
          | (show Sq _ _ _ _ _ ({ dst := _, op := .store _ _ _, type := _, pos := _, after := _, guard := _ } :: _) _ _ _ _ _ _; apply Sq.op (by first | rfl | (show (_ == _ : Bool) = true; first | rfl | (simp [*]; done) | (simp; omega))) (Op1.store (fun _ => rfl) (fun _ => rfl) (fun _ => rfl) rfl (by exact Nat.succ_pos _) (by omega) rfl (by first | assumption | exact Tr.get_same _ _ _ | (rw [Tr.get_ne _ _ (by omega)]; first | assumption | exact Tr.get_same _ _ _ | (rw [Tr.get_ne _ _ (by omega)]; first | assumption | exact Tr.get_same _ _ _ | (rw [Tr.get_ne _ _ (by omega)]; first | assumption | exact Tr.get_same _ _ _ | (rw [Tr.get_ne _ _ (by omega)]; first | assumption | exact Tr.get_same _ _ _))))) (by first | decide | omega) (by exact fun _ => rfl)) (fun _ => rfl))
          | apply Sq.op (by first | rfl | (show (_ == _ : Bool) = true; first | rfl | (simp [*]; done) | (simp; omega))) (Op1.alloc (fun _ => rfl)) (fun _ => rfl)
          | apply Sq.op (by first | rfl | (show (_ == _ : Bool) = true; first | rfl | (simp [*]; done) | (simp; omega))) (Op1.box (fun _ => rfl)) (fun _ => rfl)
          | apply Sq.out (by first | rfl | (show (_ == _ : Bool) = false; first | rfl | (simp [*]; done) | (simp; omega))) (fun _ => rfl)
          | apply Sq.op (by first | rfl | (show (_ == _ : Bool) = true; first | rfl | (simp [*]; done) | (simp; omega))) Op1.move_c (fun _ => rfl)
          | apply Sq.op (by first | rfl | (show (_ == _ : Bool) = true; first | rfl | (simp [*]; done) | (simp; omega))) Op1.assign_c (fun _ => rfl)
          | apply Sq.op (by first | rfl | (show (_ == _ : Bool) = true; first | rfl | (simp [*]; done) | (simp; omega))) (bin_add (by first | exact c_int | exact fun _ => rfl) (by first | exact c_int | exact fun _ => rfl)) (fun _ => rfl)
          | apply Sq.op (by first | rfl | (show (_ == _ : Bool) = true; first | rfl | (simp [*]; done) | (simp; omega))) (bin_sub (by first | exact c_int | exact fun _ => rfl) (by first | exact c_int | exact fun _ => rfl)) (fun _ => rfl)
          | apply Sq.op (by first | rfl | (show (_ == _ : Bool) = true; first | rfl | (simp [*]; done) | (simp; omega))) (bin_mul (by first | exact c_int | exact fun _ => rfl) (by first | exact c_int | exact fun _ => rfl)) (fun _ => rfl)
          | apply Sq.op (by first | rfl | (show (_ == _ : Bool) = true; first | rfl | (simp [*]; done) | (simp; omega))) (bin_and (by first | exact c_int | exact fun _ => rfl) (by first | exact c_int | exact fun _ => rfl)) (fun _ => rfl)
          | apply Sq.op (by first | rfl | (show (_ == _ : Bool) = true; first | rfl | (simp [*]; done) | (simp; omega))) (bin_or (by first | exact c_int | exact fun _ => rfl) (by first | exact c_int | exact fun _ => rfl)) (fun _ => rfl)
          | apply Sq.op (by first | rfl | (show (_ == _ : Bool) = true; first | rfl | (simp [*]; done) | (simp; omega))) (bin_xor (by first | exact c_int | exact fun _ => rfl) (by first | exact c_int | exact fun _ => rfl)) (fun _ => rfl)
          | apply Sq.op (by first | rfl | (show (_ == _ : Bool) = true; first | rfl | (simp [*]; done) | (simp; omega))) (bin_eql (by first | exact c_int | exact fun _ => rfl) (by first | exact c_int | exact fun _ => rfl)) (fun _ => rfl)
          | apply Sq.op (by first | rfl | (show (_ == _ : Bool) = true; first | rfl | (simp [*]; done) | (simp; omega))) (bin_neq (by first | exact c_int | exact fun _ => rfl) (by first | exact c_int | exact fun _ => rfl)) (fun _ => rfl)
          | apply Sq.op (by first | rfl | (show (_ == _ : Bool) = true; first | rfl | (simp [*]; done) | (simp; omega))) (bin_lss (by first | exact c_int | exact fun _ => rfl) (by first | exact c_int | exact fun _ => rfl)) (fun _ => rfl)
          | apply Sq.op (by first | rfl | (show (_ == _ : Bool) = true; first | rfl | (simp [*]; done) | (simp; omega))) (bin_gtr (by first | exact c_int | exact fun _ => rfl) (by first | exact c_int | exact fun _ => rfl)) (fun _ => rfl)
          | apply Sq.op (by first | rfl | (show (_ == _ : Bool) = true; first | rfl | (simp [*]; done) | (simp; omega))) (bin_leq (by first | exact c_int | exact fun _ => rfl) (by first | exact c_int | exact fun _ => rfl)) (fun _ => rfl)
          | apply Sq.op (by first | rfl | (show (_ == _ : Bool) = true; first | rfl | (simp [*]; done) | (simp; omega))) (bin_geq (by first | exact c_int | exact fun _ => rfl) (by first | exact c_int | exact fun _ => rfl)) (fun _ => rfl)
          | apply Sq.op (by first | rfl | (show (_ == _ : Bool) = true; first | rfl | (simp [*]; done) | (simp; omega))) (bin_quo (by first | exact c_int | exact fun _ => rfl) (by first | exact c_int | exact fun _ => rfl) (by decide)) (fun _ => rfl)
          | apply Sq.op (by first | rfl | (show (_ == _ : Bool) = true; first | rfl | (simp [*]; done) | (simp; omega))) (bin_rem (by first | exact c_int | exact fun _ => rfl) (by first | exact c_int | exact fun _ => rfl) (by decide)) (fun _ => rfl)
          | apply Sq.op (by first | rfl | (show (_ == _ : Bool) = true; first | rfl | (simp [*]; done) | (simp; omega))) (bin_shl (by first | exact c_int | exact fun _ => rfl) (by first | exact c_int | exact fun _ => rfl) (by decide)) (fun _ => rfl)
          | apply Sq.op (by first | rfl | (show (_ == _ : Bool) = true; first | rfl | (simp [*]; done) | (simp; omega))) (bin_shr (by first | exact c_int | exact fun _ => rfl) (by first | exact c_int | exact fun _ => rfl) (by decide)) (fun _ => rfl)
          | apply Sq.op (by first | rfl | (show (_ == _ : Bool) = true; first | rfl | (simp [*]; done) | (simp; omega))) (str_eql (by first | exact c_int | exact fun _ => rfl) (by first | exact c_int | exact fun _ => rfl)) (fun _ => rfl)
          | apply Sq.op (by first | rfl | (show (_ == _ : Bool) = true; first | rfl | (simp [*]; done) | (simp; omega))) (str_neq (by first | exact c_int | exact fun _ => rfl) (by first | exact c_int | exact fun _ => rfl)) (fun _ => rfl)
          | apply Sq.op (by first | rfl | (show (_ == _ : Bool) = true; first | rfl | (simp [*]; done) | (simp; omega))) (Op1.pure fun _ _ => rfl) (fun _ => rfl)
          | apply Sq.op (by first | rfl | (show (_ == _ : Bool) = true; first | rfl | (simp [*]; done) | (simp; omega))) (un_not (fun _ => rfl)) (fun _ => rfl)
          | apply Sq.op (by first | rfl | (show (_ == _ : Bool) = true; first | rfl | (simp [*]; done) | (simp; omega))) (Op1.pick_t (fun _ => rfl) (by first | rfl | assumption | (simp [*]; done) | (simp; omega)) (fun _ => rfl)) (fun _ => rfl)
          | apply Sq.op (by first | rfl | (show (_ == _ : Bool) = true; first | rfl | (simp [*]; done) | (simp; omega))) (Op1.pick_f (fun _ => rfl) (by first | rfl | assumption | (simp [*]; done) | (simp; omega)) (fun _ => rfl)) (fun _ => rfl))
      case he => exact .inr rfl
      case hr => exact res_tmp (fun _ => rfl) res_nil
      case ho => exact fun _ => rfl
    case hv => rfl
  case h.right =>
    intro id hid
    simp only [Tr.get_set]
    repeat rw [if_neg (by omega)]
end Clo
end Go.Proofs.YtlcggjaogbclkaaDoor
