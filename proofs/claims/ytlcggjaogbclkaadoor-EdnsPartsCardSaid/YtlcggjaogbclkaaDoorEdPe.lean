/-
  EdnsParts: what its run comes to.
-/
import Derived.Test.YtlcggjaogbclkaaDoorEdPd
namespace Go.Proofs.YtlcggjaogbclkaaDoor
namespace Clo
open Go.RowKit
set_option linter.unusedVariables false
set_option maxRecDepth 10000
set_option maxHeartbeats 128000000
variable {X : XT}
theorem bin_neq_z {lim : Nat} {fr : Fr} {h : T} {nx : Nat} {a b : Operand} {t pos : TypeId} {kd : IntKind} {x y : Int} {z : Bool} (ha : ∀ k, opdK fr a k = k (.i kd x)) (hb : ∀ k, opdK fr b k = k (.i kd y)) (hz : (x != y) = z) : Op1 Tryd.prog X lim (.binOp .neq t a b pos) fr h nx (.b z) h nx := hz ▸ bin_neq ha hb
theorem bin_eql_z {lim : Nat} {fr : Fr} {h : T} {nx : Nat} {a b : Operand} {t pos : TypeId} {kd : IntKind} {x y : Int} {z : Bool} (ha : ∀ k, opdK fr a k = k (.i kd x)) (hb : ∀ k, opdK fr b k = k (.i kd y)) (hz : (x == y) = z) : Op1 Tryd.prog X lim (.binOp .eql t a b pos) fr h nx (.b z) h nx := hz ▸ bin_eql ha hb
theorem parts_cl (hX : X 13 = none) (hXw : X 30 = none) (hXl : X 55 = none) (hXr : X 27 = none) (hXn : X 43 = none) (hXf : X 53 = none)
    (sz ex ve fl ot : Nat) (hs : sz < 65536) (he : ex < 256) (hv : ve < 256) (hf : fl < 65536) (ho : ot < 4294967296) (lim : Nat) (h : T) (nx : Nat) (hlim : lim ≤ nx) (h1000 : 1000 ≤ lim)
    (hawake : ∀ h' nx', (∀ id, id < 1000 → h'.get id = h.get id) → Cl Tryd.prog X lim 25 [] h' nx' (.b true) h' nx') : ∃ h' n', Cl Tryd.prog X lim 13 [.i .u16 sz, .i .u8 ex, .i .u8 ve, .i .u16 fl, .i .u32 ot] h nx (.b true) h' n' := by
  obtain ⟨fw, hw⟩ := skolem (lim := lim) (R := fun h nx h' => _ ∧ _) fun h nx hl => write_raw (X := X) hXw hXl sz ex ve fl lim h nx hl
  simp only [TT_eq ex ve fl he hv hf] at hw
  have hT := TT_lt ex ve fl he hv hf
  have r1 : bOr .u32 (bAnd .u32 (TT ex ve fl : Nat) 16777215) (bAnd .u32 (ot : Int) 4278190080) = (((TT ex ve fl &&& 16777215) ||| (ot &&& 4278190080) : Nat) : Int) := mix_eq _ _ 16777215 4278190080 hT ho (by decide) (by decide)
  have r2 : bOr .u32 (bAnd .u32 (TT ex ve fl : Nat) 4278255615) (bAnd .u32 (ot : Int) 16711680) = (((TT ex ve fl &&& 4278255615) ||| (ot &&& 16711680) : Nat) : Int) := mix_eq _ _ 4278255615 16711680 hT ho (by decide) (by decide)
  have r3 : bOr .u32 (bAnd .u32 (TT ex ve fl : Nat) 4294901760) (bAnd .u32 (ot : Int) 65535) = (((TT ex ve fl &&& 4294901760) ||| (ot &&& 65535) : Nat) : Int) := mix_eq _ _ 4294901760 65535 hT ho (by decide) (by decide)
  have f1 : (IntKind.u8.wrap (((TT ex ve fl : Nat) : Int).fdiv (2 ^ 24)) != (ex : Int)) = false := by rw [F_u8, TT_24 ex ve fl he hv hf]; simp
  have f2 : (IntKind.u8.wrap (((TT ex ve fl : Nat) : Int).fdiv (2 ^ 16)) != (ve : Int)) = false := by rw [F_u8, TT_16 ex ve fl he hv hf]; simp
  have f3 : (IntKind.u16.wrap ((TT ex ve fl : Nat) : Int) != (fl : Int)) = false := by rw [F_u16, TT_0 ex ve fl he hv hf]; simp
  have f4 : ((sz : Int) != (sz : Int)) = false := by simp
  obtain ⟨g1, hg1⟩ := skolem (lim := lim) (R := fun h nx h' => _ ∧ _) fun h nx hl => read_raw (X := X) hXr hXn hXf sz (bOr .u32 (bAnd .u32 (TT ex ve fl : Nat) 16777215) (bAnd .u32 (ot : Int) 4278190080)) lim h nx hl
  obtain ⟨g2, hg2⟩ := skolem (lim := lim) (R := fun h nx h' => _ ∧ _) fun h nx hl => read_raw (X := X) hXr hXn hXf sz (bOr .u32 (bAnd .u32 (TT ex ve fl : Nat) 4278255615) (bAnd .u32 (ot : Int) 16711680)) lim h nx hl
  obtain ⟨g3, hg3⟩ := skolem (lim := lim) (R := fun h nx h' => _ ∧ _) fun h nx hl => read_raw (X := X) hXr hXn hXf sz (bOr .u32 (bAnd .u32 (TT ex ve fl : Nat) 4294901760) (bAnd .u32 (ot : Int) 65535)) lim h nx hl
  have b116 : (IntKind.u8.wrap ((bOr .u32 (bAnd .u32 (TT ex ve fl : Nat) 16777215) (bAnd .u32 (ot : Int) 4278190080)).fdiv (2 ^ 16)) == (ve : Int)) = true := by rw [r1, F_u8, mix_F, TT_16 ex ve fl he hv hf, show F 16 8 16777215 = 255 from rfl, show F 16 8 4278190080 = 0 from rfl, and_255 _ hv]; simp
  have b10 : (IntKind.u16.wrap (bOr .u32 (bAnd .u32 (TT ex ve fl : Nat) 16777215) (bAnd .u32 (ot : Int) 4278190080)) == (fl : Int)) = true := by rw [r1, F_u16, mix_F, TT_0 ex ve fl he hv hf, show F 0 16 16777215 = 65535 from rfl, show F 0 16 4278190080 = 0 from rfl, and_65535 _ hf]; simp
  have b124 : (IntKind.u8.wrap ((bOr .u32 (bAnd .u32 (TT ex ve fl : Nat) 16777215) (bAnd .u32 (ot : Int) 4278190080)).fdiv (2 ^ 24)) == IntKind.u8.wrap ((ot : Int).fdiv (2 ^ 24))) = true := by rw [r1, F_u8, F_u8, mix_F, show F 24 8 16777215 = 0 from rfl, show F 24 8 4278190080 = 255 from rfl, and_255 _ (F_lt 24 8 ot)]; simp
  have b224 : (IntKind.u8.wrap ((bOr .u32 (bAnd .u32 (TT ex ve fl : Nat) 4278255615) (bAnd .u32 (ot : Int) 16711680)).fdiv (2 ^ 24)) == (ex : Int)) = true := by rw [r2, F_u8, mix_F, TT_24 ex ve fl he hv hf, show F 24 8 4278255615 = 255 from rfl, show F 24 8 16711680 = 0 from rfl, and_255 _ he]; simp
  have b20 : (IntKind.u16.wrap (bOr .u32 (bAnd .u32 (TT ex ve fl : Nat) 4278255615) (bAnd .u32 (ot : Int) 16711680)) == (fl : Int)) = true := by rw [r2, F_u16, mix_F, TT_0 ex ve fl he hv hf, show F 0 16 4278255615 = 65535 from rfl, show F 0 16 16711680 = 0 from rfl, and_65535 _ hf]; simp
  have b216 : (IntKind.u8.wrap ((bOr .u32 (bAnd .u32 (TT ex ve fl : Nat) 4278255615) (bAnd .u32 (ot : Int) 16711680)).fdiv (2 ^ 16)) == IntKind.u8.wrap ((ot : Int).fdiv (2 ^ 16))) = true := by rw [r2, F_u8, F_u8, mix_F, show F 16 8 4278255615 = 0 from rfl, show F 16 8 16711680 = 255 from rfl, and_255 _ (F_lt 16 8 ot)]; simp
  have b324 : (IntKind.u8.wrap ((bOr .u32 (bAnd .u32 (TT ex ve fl : Nat) 4294901760) (bAnd .u32 (ot : Int) 65535)).fdiv (2 ^ 24)) == (ex : Int)) = true := by rw [r3, F_u8, mix_F, TT_24 ex ve fl he hv hf, show F 24 8 4294901760 = 255 from rfl, show F 24 8 65535 = 0 from rfl, and_255 _ he]; simp
  have b316 : (IntKind.u8.wrap ((bOr .u32 (bAnd .u32 (TT ex ve fl : Nat) 4294901760) (bAnd .u32 (ot : Int) 65535)).fdiv (2 ^ 16)) == (ve : Int)) = true := by rw [r3, F_u8, mix_F, TT_16 ex ve fl he hv hf, show F 16 8 4294901760 = 255 from rfl, show F 16 8 65535 = 0 from rfl, and_255 _ hv]; simp
  have b30 : (IntKind.u16.wrap (bOr .u32 (bAnd .u32 (TT ex ve fl : Nat) 4294901760) (bAnd .u32 (ot : Int) 65535)) == IntKind.u16.wrap (ot : Int)) = true := by rw [r3, F_u16, F_u16, mix_F, show F 0 16 4294901760 = 0 from rfl, show F 0 16 65535 = 65535 from rfl, and_65535 _ (F_lt 0 16 ot)]; simp
  clear r1 r2 r3
  apply Exists.intro
  apply Exists.intro
  apply Cl.eq
  case h.h.a =>
    apply Cl.body (m := 5) hX Tryd.func13 rfl (fun _ => rfl) rfl
    case hc =>
      repeat' (first
        | exact Ev.ret
        | apply Ev.loop_out
        | exact Ev.skip
        | exact Ev.exit
        | exact Ev.label
        | exact Ex.exi_ne
        | exact Ex.ret_ne
        | exact Ex.got_ne
        | exact Or.inl ⟨Ex.exi_ne, rfl, rfl, rfl, rfl⟩
        | exact Or.inl ⟨Ex.ret_ne, rfl, rfl, rfl, rfl⟩
        | exact Or.inl ⟨Ex.got_ne, rfl, rfl, rfl, rfl⟩
        | refine Or.inr ⟨rfl, ?_⟩
        | exact Or.inl ⟨rfl, rfl⟩
        | exact Or.inr ⟨Ex.nor_other, rfl⟩
        | exact Or.inr ⟨Ex.ret_other, rfl⟩
        | exact Or.inr ⟨Ex.exi_other rfl, rfl⟩
        | exact Or.inr ⟨Ex.got_other, rfl⟩
        | apply Ev.region rfl
        | apply Ev.seq2
        | apply Ev.block3
        | apply Ev.cond_t (fun _ => rfl) (by first | rfl | assumption | (simp [*]; done) | (simp; omega))
        | apply Ev.cond_f (fun _ => rfl) (by first | rfl | assumption | (simp [*]; done) | (simp; omega))
        | exact Sq.nil
        | exact Dr.nil
        | apply Sq.op (by first | rfl | (show (_ == _ : Bool) = true; first | rfl | (simp [*]; done) | (simp; omega))) (Op1.call rfl (fun _ => rfl) (fun _ => rfl) (hawake _ _ (by intro id hid; repeat (first | rw [Tr.get_ne _ _ (by omega)] | rw [(hw _ _ (by omega)).2 _ (by omega)] | rw [(hg1 _ _ (by omega)).2 _ (by omega)] | rw [(hg2 _ _ (by omega)).2 _ (by omega)] | rw [(hg3 _ _ (by omega)).2 _ (by omega)])))) (fun _ => rfl)
        | apply Sq.op (by first | rfl | (show (_ == _ : Bool) = true; first | rfl | (simp [*]; done) | (simp; omega))) (Op1.call rfl (fun _ => rfl) (fun _ => rfl) (hw _ _ (by omega)).1) (fun _ => rfl)
        | apply Sq.op (by first | rfl | (show (_ == _ : Bool) = true; first | rfl | (simp [*]; done) | (simp; omega))) (Op1.call rfl (fun _ => rfl) (fun _ => rfl) (hg1 _ _ (by omega)).1) (fun _ => rfl)
        | apply Sq.op (by first | rfl | (show (_ == _ : Bool) = true; first | rfl | (simp [*]; done) | (simp; omega))) (Op1.call rfl (fun _ => rfl) (fun _ => rfl) (hg2 _ _ (by omega)).1) (fun _ => rfl)
        | apply Sq.op (by first | rfl | (show (_ == _ : Bool) = true; first | rfl | (simp [*]; done) | (simp; omega))) (Op1.call rfl (fun _ => rfl) (fun _ => rfl) (hg3 _ _ (by omega)).1) (fun _ => rfl)
        | apply Sq.op (by first | rfl | (show (_ == _ : Bool) = true; first | rfl | (simp [*]; done) | (simp; omega))) (bin_neq_z (fun _ => rfl) (fun _ => rfl) f1) (fun _ => rfl)
        | apply Sq.op (by first | rfl | (show (_ == _ : Bool) = true; first | rfl | (simp [*]; done) | (simp; omega))) (bin_neq_z (fun _ => rfl) (fun _ => rfl) f2) (fun _ => rfl)
        | apply Sq.op (by first | rfl | (show (_ == _ : Bool) = true; first | rfl | (simp [*]; done) | (simp; omega))) (bin_neq_z (fun _ => rfl) (fun _ => rfl) f3) (fun _ => rfl)
        | apply Sq.op (by first | rfl | (show (_ == _ : Bool) = true; first | rfl | (simp [*]; done) | (simp; omega))) (bin_neq_z (fun _ => rfl) (fun _ => rfl) f4) (fun _ => rfl)
        | apply Sq.op (by first | rfl | (show (_ == _ : Bool) = true; first | rfl | (simp [*]; done) | (simp; omega))) (bin_eql_z (fun _ => rfl) (fun _ => rfl) b116) (fun _ => rfl)
        | apply Sq.op (by first | rfl | (show (_ == _ : Bool) = true; first | rfl | (simp [*]; done) | (simp; omega))) (bin_eql_z (fun _ => rfl) (fun _ => rfl) b10) (fun _ => rfl)
        | apply Sq.op (by first | rfl | (show (_ == _ : Bool) = true; first | rfl | (simp [*]; done) | (simp; omega))) (bin_eql_z (fun _ => rfl) (fun _ => rfl) b124) (fun _ => rfl)
        | apply Sq.op (by first | rfl | (show (_ == _ : Bool) = true; first | rfl | (simp [*]; done) | (simp; omega))) (bin_eql_z (fun _ => rfl) (fun _ => rfl) b224) (fun _ => rfl)
        | apply Sq.op (by first | rfl | (show (_ == _ : Bool) = true; first | rfl | (simp [*]; done) | (simp; omega))) (bin_eql_z (fun _ => rfl) (fun _ => rfl) b20) (fun _ => rfl)
        | apply Sq.op (by first | rfl | (show (_ == _ : Bool) = true; first | rfl | (simp [*]; done) | (simp; omega))) (bin_eql_z (fun _ => rfl) (fun _ => rfl) b216) (fun _ => rfl)
        | apply Sq.op (by first | rfl | (show (_ == _ : Bool) = true; first | rfl | (simp [*]; done) | (simp; omega))) (bin_eql_z (fun _ => rfl) (fun _ => rfl) b324) (fun _ => rfl)
        | apply Sq.op (by first | rfl | (show (_ == _ : Bool) = true; first | rfl | (simp [*]; done) | (simp; omega))) (bin_eql_z (fun _ => rfl) (fun _ => rfl) b316) (fun _ => rfl)
        | apply Sq.op (by first | rfl | (show (_ == _ : Bool) = true; first | rfl | (simp [*]; done) | (simp; omega))) (bin_eql_z (fun _ => rfl) (fun _ => rfl) b30) (fun _ => rfl)
        | apply Sq.op (by first | rfl | (show (_ == _ : Bool) = true; first | rfl | (simp [*]; done) | (simp; omega))) (bin_shr_c (by first | exact c_int | exact fun _ => rfl) (by decide)) (fun _ => rfl)
        | apply Sq.op (by first | rfl | (show (_ == _ : Bool) = true; first | rfl | (simp [*]; done) | (simp; omega))) (conv_int Tryd.underlying45 Tryd.underlying5 (fun _ => rfl)) (fun _ => rfl)
        | apply Sq.op (by first | rfl | (show (_ == _ : Bool) = true; first | rfl | (simp [*]; done) | (simp; omega))) (conv_int Tryd.underlying45 Tryd.underlying22 (fun _ => rfl)) (fun _ => rfl)
        | apply Sq.op (by first | rfl | (show (_ == _ : Bool) = true; first | rfl | (simp [*]; done) | (simp; omega))) (Op1.load (fun _ => rfl) (by (repeat (first | rw [Tr.get_ne _ _ (by omega)] | rw [(hw _ _ (by omega)).2 _ (by omega)] | rw [(hg1 _ _ (by omega)).2 _ (by omega)] | rw [(hg2 _ _ (by omega)).2 _ (by omega)] | rw [(hg3 _ _ (by omega)).2 _ (by omega)])); first | assumption | exact Tr.get_same _ _ _) (by exact fun _ => rfl)) (fun _ => rfl)
        | apply Sq.op (by first | rfl | (show (_ == _ : Bool) = true; first | rfl | (simp [*]; done) | (simp; omega))) (Op1.store (fun _ => rfl) (fun _ => rfl) (fun _ => rfl) rfl (by exact Nat.succ_pos _) (by omega) rfl (by (repeat (first | rw [Tr.get_ne _ _ (by omega)] | rw [(hw _ _ (by omega)).2 _ (by omega)] | rw [(hg1 _ _ (by omega)).2 _ (by omega)] | rw [(hg2 _ _ (by omega)).2 _ (by omega)] | rw [(hg3 _ _ (by omega)).2 _ (by omega)])); first | assumption | exact Tr.get_same _ _ _) (by first | decide | omega) (by exact fun _ => rfl)) (fun _ => rfl)
        | apply Sq.op (by first | rfl | (show (_ == _ : Bool) = true; first | rfl | (simp [*]; done) | (simp; omega))) (Op1.alloc (fun _ => rfl)) (fun _ => rfl)
        | apply Sq.op (by first | rfl | (show (_ == _ : Bool) = true; first | rfl | (simp [*]; done) | (simp; omega))) (Op1.box (fun _ => rfl)) (fun _ => rfl)
        | apply Sq.out (by first | rfl | (show (_ == _ : Bool) = false; first | rfl | (simp [*]; done) | (simp; omega))) (fun _ => rfl)
        | apply Sq.op (by first | rfl | (show (_ == _ : Bool) = true; first | rfl | (simp [*]; done) | (simp; omega))) Op1.move_c (fun _ => rfl)
        | apply Sq.op (by first | rfl | (show (_ == _ : Bool) = true; first | rfl | (simp [*]; done) | (simp; omega))) Op1.assign_c (fun _ => rfl)
        | apply Sq.op (by first | rfl | (show (_ == _ : Bool) = true; first | rfl | (simp [*]; done) | (simp; omega))) (bin_add (by first | exact c_int | exact fun _ => rfl) (by first | exact c_int | exact fun _ => rfl)) (fun _ => rfl)
        | apply Sq.op (by first | rfl | (show (_ == _ : Bool) = true; first | rfl | (simp [*]; done) | (simp; omega))) (bin_sub (by first | exact c_int | exact fun _ => rfl) (by first | exact c_int | exact fun _ => rfl)) (fun _ => rfl)
        | apply Sq.op (by first | rfl | (show (_ == _ : Bool) = true; first | rfl | (simp [*]; done) | (simp; omega))) (bin_mul (by first | exact c_int | exact fun _ => rfl) (by first | exact c_int | exact fun _ => rfl)) (fun _ => rfl)
        | apply Sq.op (by first | rfl | (show (_ == _ : Bool) = true; first | rfl | (simp [*]; done) | (simp; omega))) (bin_and (by first | exact c_int | exact fun _ => rfl) (by first | exact c_int | exact fun _ => rfl)) (fun _ => rfl)
        | apply Sq.op (by first | rfl | (show (_ == _ : Bool) = true; first | rfl | (simp [*]; done) | (simp; omega))) (bin_or (by first | exact c_int | exact fun _ => rfl) (by first | exact c_int | exact fun _ => rfl)) (fun _ => rfl)
        | apply Sq.op (by first | rfl | (show (_ == _ : Bool) = true; first | rfl | (simp [*]; done) | (simp; omega))) (bin_xor (by first | exact c_int | exact fun _ => rfl) (by first | exact c_int | exact fun _ => rfl)) (fun _ => rfl)
        | apply Sq.op (by first | rfl | (show (_ == _ : Bool) = true; first | rfl | (simp [*]; done) | (simp; omega))) (bin_eql (by first | exact c_int | exact fun _ => rfl) (by first | exact c_int | exact fun _ => rfl)) (fun _ => rfl)
        | apply Sq.op (by first | rfl | (show (_ == _ : Bool) = true; first | rfl | (simp [*]; done) | (simp; omega))) (bin_neq (by first | exact c_int | exact fun _ => rfl) (by first | exact c_int | exact fun _ => rfl)) (fun _ => rfl)
        | apply Sq.op (by first | rfl | (show (_ == _ : Bool) = true; first | rfl | (simp [*]; done) | (simp; omega))) (bin_lss (by first | exact c_int | exact fun _ => rfl) (by first | exact c_int | exact fun _ => rfl)) (fun _ => rfl)
        | apply Sq.op (by first | rfl | (show (_ == _ : Bool) = true; first | rfl | (simp [*]; done) | (simp; omega))) (bin_gtr (by first | exact c_int | exact fun _ => rfl) (by first | exact c_int | exact fun _ => rfl)) (fun _ => rfl)
        | apply Sq.op (by first | rfl | (show (_ == _ : Bool) = true; first | rfl | (simp [*]; done) | (simp; omega))) (bin_leq (by first | exact c_int | exact fun _ => rfl) (by first | exact c_int | exact fun _ => rfl)) (fun _ => rfl)
        | apply Sq.op (by first | rfl | (show (_ == _ : Bool) = true; first | rfl | (simp [*]; done) | (simp; omega))) (bin_geq (by first | exact c_int | exact fun _ => rfl) (by first | exact c_int | exact fun _ => rfl)) (fun _ => rfl)
        | apply Sq.op (by first | rfl | (show (_ == _ : Bool) = true; first | rfl | (simp [*]; done) | (simp; omega))) (bin_quo (by first | exact c_int | exact fun _ => rfl) (by first | exact c_int | exact fun _ => rfl) (by decide)) (fun _ => rfl)
        | apply Sq.op (by first | rfl | (show (_ == _ : Bool) = true; first | rfl | (simp [*]; done) | (simp; omega))) (bin_rem (by first | exact c_int | exact fun _ => rfl) (by first | exact c_int | exact fun _ => rfl) (by decide)) (fun _ => rfl)
        | apply Sq.op (by first | rfl | (show (_ == _ : Bool) = true; first | rfl | (simp [*]; done) | (simp; omega))) (bin_shl (by first | exact c_int | exact fun _ => rfl) (by first | exact c_int | exact fun _ => rfl) (by decide)) (fun _ => rfl)
        | apply Sq.op (by first | rfl | (show (_ == _ : Bool) = true; first | rfl | (simp [*]; done) | (simp; omega))) (bin_shr (by first | exact c_int | exact fun _ => rfl) (by first | exact c_int | exact fun _ => rfl) (by decide)) (fun _ => rfl)
        | apply Sq.op (by first | rfl | (show (_ == _ : Bool) = true; first | rfl | (simp [*]; done) | (simp; omega))) (str_eql (by first | exact c_int | exact fun _ => rfl) (by first | exact c_int | exact fun _ => rfl)) (fun _ => rfl)
        | apply Sq.op (by first | rfl | (show (_ == _ : Bool) = true; first | rfl | (simp [*]; done) | (simp; omega))) (str_neq (by first | exact c_int | exact fun _ => rfl) (by first | exact c_int | exact fun _ => rfl)) (fun _ => rfl)
        | apply Sq.op (by first | rfl | (show (_ == _ : Bool) = true; first | rfl | (simp [*]; done) | (simp; omega))) (Op1.pure fun _ _ => rfl) (fun _ => rfl)
        | apply Sq.op (by first | rfl | (show (_ == _ : Bool) = true; first | rfl | (simp [*]; done) | (simp; omega))) (un_not (fun _ => rfl)) (fun _ => rfl)
        | apply Sq.op (by first | rfl | (show (_ == _ : Bool) = true; first | rfl | (simp [*]; done) | (simp; omega))) (Op1.pick_t (fun _ => rfl) (by first | rfl | assumption | (simp [*]; done) | (simp; omega)) (fun _ => rfl)) (fun _ => rfl)
        | apply Sq.op (by first | rfl | (show (_ == _ : Bool) = true; first | rfl | (simp [*]; done) | (simp; omega))) (Op1.pick_f (fun _ => rfl) (by first | rfl | assumption | (simp [*]; done) | (simp; omega)) (fun _ => rfl)) (fun _ => rfl))
    case he => exact .inr rfl
    case hr => exact fun _ => rfl
    case ho => exact fun _ => rfl
  case h.h.hv => rfl
end Clo
end Go.Proofs.YtlcggjaogbclkaaDoor
