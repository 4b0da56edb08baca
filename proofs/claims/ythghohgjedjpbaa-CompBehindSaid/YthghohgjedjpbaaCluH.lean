/-
  Runs of closed calls by the kernel: operators.
-/
import Derived.Test.YthghohgjedjpbaaCluG
namespace Go.Proofs.Ythghohgjedjpbaa
namespace Clu
open Go.RowKit
set_option linter.unusedVariables false
variable {P : Program}

theorem modN_eq (n : Int) (m : Nat) (hm : 0 < m) : (modN n m : Int) = n % (m : Int) := by
  cases n with
  | ofNat a => show ((a % m : Nat) : Int) = (a : Int) % (m : Int); omega
  | negSucc a =>
    rw [Int.negSucc_emod a (by omega)]
    show ((m - 1 - a % m : Nat) : Int) = _
    have := Nat.mod_lt a hm
    omega
theorem sgnI_eq (r half full : Nat) (h : r < full) : sgnI r half full = if half ≤ r then (r : Int) - (full : Int) else (r : Int) := by
  show @Bool.rec (fun _ => Int) (Int.ofNat r) (Int.negSucc (full - r - 1)) (Nat.ble half r) = _
  cases hb : Nat.ble half r with
  | true => rw [if_pos (ble_iff.1 hb)]; show Int.negSucc (full - r - 1) = _; omega
  | false =>
    have : ¬ half ≤ r := fun h => by rw [ble_iff.2 h] at hb; cases hb
    rw [if_neg this]; rfl
theorem modN_lt (n : Int) (m : Nat) (hm : 0 < m) : modN n m < m := by
  have h1 := modN_eq n m hm
  have h2 := Int.emod_lt_of_pos n (show (0 : Int) < (m : Int) by omega)
  omega
theorem wrap_i8 (n : Int) : IntKind.i8.wrap n = (n + 128) % 256 - 128 := by
  simp only [IntKind.wrap, IntKind.bits, IntKind.signed]
  simp
  split <;> omega
theorem wrap_i16 (n : Int) : IntKind.i16.wrap n = (n + 32768) % 65536 - 32768 := by
  simp only [IntKind.wrap, IntKind.bits, IntKind.signed]
  simp
  split <;> omega
theorem wrapF_eq (kd : IntKind) (n : Int) : wrapF kd n = kd.wrap n := by
  cases kd
  case u8 => rw [IntKind.wrap_u8]; exact modN_eq n 256 (by decide)
  case u16 => rw [IntKind.wrap_u16]; exact modN_eq n 65536 (by decide)
  case u32 => rw [IntKind.wrap_u32]; exact modN_eq n 4294967296 (by decide)
  case u64 => rw [IntKind.wrap_u64]; exact modN_eq n 18446744073709551616 (by decide)
  case i8 =>
    show sgnI (modN n 256) 128 256 = _
    have h := modN_eq n 256 (by decide)
    rw [sgnI_eq _ _ _ (modN_lt n 256 (by decide)), wrap_i8]
    split <;> omega
  case i16 =>
    show sgnI (modN n 65536) 32768 65536 = _
    have h := modN_eq n 65536 (by decide)
    rw [sgnI_eq _ _ _ (modN_lt n 65536 (by decide)), wrap_i16]
    split <;> omega
  case i32 =>
    show sgnI (modN n 4294967296) 2147483648 4294967296 = _
    have h := modN_eq n 4294967296 (by decide)
    rw [sgnI_eq _ _ _ (modN_lt n 4294967296 (by decide)), IntKind.wrap_i32]
    split <;> omega
  case i64 =>
    show sgnI (modN n 18446744073709551616) 9223372036854775808 18446744073709551616 = _
    have h := modN_eq n 18446744073709551616 (by decide)
    rw [sgnI_eq _ _ _ (modN_lt n 18446744073709551616 (by decide)), IntKind.wrap_i64]
    split <;> omega
theorem inR_wrap (kd : IntKind) (n : Int) (hs : signB kd = true) (h : inR kd n = true) : kd.wrap n = n := by
  cases kd <;> simp only [signB, Bool.false_eq_true] at hs
  · rw [wrap_i8]
    cases n <;> (have h := blt_iff.1 h; simp only [halfN] at h; (try simp only [Int.ofNat_eq_natCast]); omega)
  · rw [wrap_i16]
    cases n <;> (have h := blt_iff.1 h; simp only [halfN] at h; (try simp only [Int.ofNat_eq_natCast]); omega)
  · rw [IntKind.wrap_i32]
    cases n <;> (have h := blt_iff.1 h; simp only [halfN] at h; (try simp only [Int.ofNat_eq_natCast]); omega)
  · rw [IntKind.wrap_i64]
    cases n <;> (have h := blt_iff.1 h; simp only [halfN] at h; (try simp only [Int.ofNat_eq_natCast]); omega)
theorem wrapK_ok {v : AV} {kd : IntKind} {n : Int} {k : KO} (h : wrapK kd n k = .ok v) : k (.i kd (kd.wrap n)) = .ok v := by
  unfold wrapK at h
  cases hs : signB kd with
  | false =>
    rw [hs] at h
    simp only [fI_eq, wrapF_eq] at h
    exact h
  | true =>
    rw [hs] at h
    cases hr : inR kd n with
    | false => rw [hr] at h; cases h
    | true =>
      rw [hr] at h
      rw [inR_wrap kd n hs hr]
      exact h
theorem iEq_eq (a b : Int) : iEq a b = (a == b) := by
  rw [Bool.eq_iff_iff, beq_iff_eq]
  cases a <;> cases b
  · rename_i a b; show Nat.beq a b = true ↔ (a : Int) = (b : Int); rw [beq_iff]; omega
  · rename_i a b; show false = true ↔ _; simp
  · rename_i a b; show false = true ↔ _; simp
  · rename_i a b; show Nat.beq a b = true ↔ _; rw [beq_iff]; simp
theorem iLt_eq (a b : Int) : iLt a b = decide (a < b) := by
  rw [Bool.eq_iff_iff, decide_eq_true_iff]
  cases a <;> cases b
  · rename_i a b; show Nat.blt a b = true ↔ _; rw [blt_iff]; simp
  · rename_i a b; show false = true ↔ (a : Int) < _; constructor
    · intro h; cases h
    · intro h; omega
  · rename_i a b; show true = true ↔ _ < (b : Int); constructor
    · intro _; omega
    · intro _; rfl
  · rename_i a b; show Nat.blt b a = true ↔ _; rw [blt_iff]; omega
theorem fullN_eq (kd : IntKind) : fullN kd = 2 ^ kd.bits := by cases kd <;> rfl
theorem bitsN_eq (kd : IntKind) : bitsN kd = kd.bits := by cases kd <;> rfl
theorem toNat_ofInt (kd : IntKind) (x : Int) : (BitVec.ofInt kd.bits x).toNat = modN x (fullN kd) := by
  have hp : 0 < fullN kd := by rw [fullN_eq]; exact Nat.two_pow_pos _
  have h := modN_eq x (fullN kd) hp
  rw [BitVec.toNat_ofInt, ← fullN_eq, ← h]
  rfl
theorem and_ok {v : AV} {kd : IntKind} {x y : Int} {k : KO} (h : nAnd kd x y k = .ok v) : ∃ n, k (.i kd n) = .ok v ∧ ∀ w, (Op.intBits .and kd x y).run P w = .ok (.int kd n) w := by
  unfold nAnd at h; replace h := wrapK_ok h
  refine ⟨_, h, fun w => ?_⟩
  simp only [Op.intBits, Sem.run_pure, BitVec.toNat_and, toNat_ofInt]; rfl
theorem or_ok {v : AV} {kd : IntKind} {x y : Int} {k : KO} (h : nOr kd x y k = .ok v) : ∃ n, k (.i kd n) = .ok v ∧ ∀ w, (Op.intBits .or kd x y).run P w = .ok (.int kd n) w := by
  unfold nOr at h; replace h := wrapK_ok h
  refine ⟨_, h, fun w => ?_⟩
  simp only [Op.intBits, Sem.run_pure, BitVec.toNat_or, toNat_ofInt]; rfl
theorem xor_ok {v : AV} {kd : IntKind} {x y : Int} {k : KO} (h : nXor kd x y k = .ok v) : ∃ n, k (.i kd n) = .ok v ∧ ∀ w, (Op.intBits .xor kd x y).run P w = .ok (.int kd n) w := by
  unfold nXor at h; replace h := wrapK_ok h
  refine ⟨_, h, fun w => ?_⟩
  simp only [Op.intBits, Sem.run_pure, BitVec.toNat_xor, toNat_ofInt]; rfl
theorem andNot_ok {v : AV} {kd : IntKind} {x y : Int} {k : KO} (h : nAndNot kd x y k = .ok v) : ∃ n, k (.i kd n) = .ok v ∧ ∀ w, (Op.intBits .andNot kd x y).run P w = .ok (.int kd n) w := by
  unfold nAndNot at h; replace h := wrapK_ok h
  refine ⟨_, h, fun w => ?_⟩
  simp only [Op.intBits, Sem.run_pure, BitVec.toNat_and, BitVec.toNat_not, toNat_ofInt, ← fullN_eq]; rfl
theorem notK_eq (r : Bool) (k : KO) : @Bool.rec (fun _ => Out) (k (.b true)) (k (.b false)) r = k (.b (!r)) := by cases r <;> rfl
theorem intF_ok {v : AV} {op : BinOp} {kd : IntKind} {x y : Int} {k : KO} (hop : op ≠ .shl ∧ op ≠ .shr) (h : intF op kd x y k = .ok v) : ∃ a z, k a = .ok v ∧ (∀ r, VR r a z) ∧ ∀ t w, (binOp op t (.int kd x) (.int kd y)).run P w = .ok z w := by
  cases op
  case add => have h' : nAdd kd x y k = .ok v := h; rw [nAdd] at h'; replace h' := wrapK_ok h'; exact ⟨_, _, h', fun r => rfl, fun t w => by simp [binOp, Op.intArith]⟩
  case sub => have h' : nSub kd x y k = .ok v := h; rw [nSub] at h'; replace h' := wrapK_ok h'; exact ⟨_, _, h', fun r => rfl, fun t w => by simp [binOp, Op.intArith]⟩
  case mul => have h' : nMul kd x y k = .ok v := h; rw [nMul] at h'; replace h' := wrapK_ok h'; exact ⟨_, _, h', fun r => rfl, fun t w => by simp [binOp, Op.intArith]⟩
  case quo =>
    have h' : nQuo kd x y k = .ok v := h
    unfold nQuo at h'
    split at h'
    · cases h'
    · rename_i hz
      rw [iEq_eq] at hz
      have hz : y ≠ 0 := by simpa using hz
      replace h' := wrapK_ok h'
      exact ⟨_, _, h', fun r => rfl, fun t w => by simp [binOp, Op.intDiv, hz]⟩
  case rem =>
    have h' : nRem kd x y k = .ok v := h
    unfold nRem at h'
    split at h'
    · cases h'
    · rename_i hz
      rw [iEq_eq] at hz
      have hz : y ≠ 0 := by simpa using hz
      rw [fI_eq] at h'
      exact ⟨_, _, h', fun r => rfl, fun t w => by simp [binOp, Op.intDiv, hz]⟩
  case and => obtain ⟨n, h1, h2⟩ := and_ok (P := P) (show nAnd kd x y k = .ok v from h); exact ⟨_, _, h1, fun r => rfl, fun t w => by simp only [binOp]; simp [h2]⟩
  case or => obtain ⟨n, h1, h2⟩ := or_ok (P := P) (show nOr kd x y k = .ok v from h); exact ⟨_, _, h1, fun r => rfl, fun t w => by simp only [binOp]; simp [h2]⟩
  case xor => obtain ⟨n, h1, h2⟩ := xor_ok (P := P) (show nXor kd x y k = .ok v from h); exact ⟨_, _, h1, fun r => rfl, fun t w => by simp only [binOp]; simp [h2]⟩
  case andNot => obtain ⟨n, h1, h2⟩ := andNot_ok (P := P) (show nAndNot kd x y k = .ok v from h); exact ⟨_, _, h1, fun r => rfl, fun t w => by simp only [binOp]; simp [h2]⟩
  case shl => exact absurd rfl hop.1
  case shr => exact absurd rfl hop.2
  case eql => have h' : nEql kd x y k = .ok v := h; rw [nEql, fB_eq, iEq_eq] at h'; exact ⟨_, _, h', fun r => rfl, fun t w => by simp [binOp, Op.intCmp]⟩
  case neq => have h' : nNeq kd x y k = .ok v := h; rw [nNeq, fB_eq, iEq_eq] at h'; exact ⟨_, _, h', fun r => rfl, fun t w => by simp [binOp, Op.intCmp, bne]⟩
  case lss => have h' : nLss kd x y k = .ok v := h; rw [nLss, fB_eq, iLt_eq] at h'; exact ⟨_, _, h', fun r => rfl, fun t w => by simp [binOp, Op.intCmp]⟩
  case leq =>
    have h' : nLeq kd x y k = .ok v := h; rw [nLeq, fB_eq, iLt_eq] at h'
    refine ⟨_, _, h', fun r => rfl, fun t w => ?_⟩
    have : (!decide (y < x)) = decide (x ≤ y) := by rw [Bool.eq_iff_iff]; simp
    rw [this]; simp [binOp, Op.intCmp]
  case gtr => have h' : nGtr kd x y k = .ok v := h; rw [nGtr, fB_eq, iLt_eq] at h'; exact ⟨_, _, h', fun r => rfl, fun t w => by simp [binOp, Op.intCmp]⟩
  case geq =>
    have h' : nGeq kd x y k = .ok v := h; rw [nGeq, fB_eq, iLt_eq] at h'
    refine ⟨_, _, h', fun r => rfl, fun t w => ?_⟩
    have : (!decide (x < y)) = decide (x ≥ y) := by rw [Bool.eq_iff_iff]; simp
    rw [this]; simp [binOp, Op.intCmp]
theorem minN_eq (a b : Nat) : minN a b = min a b := by
  show @Bool.rec (fun _ => Nat) b a (Nat.ble a b) = _
  cases h : Nat.ble a b with
  | true => have := ble_iff.1 h; show a = _; omega
  | false =>
    have : ¬ a ≤ b := fun h' => by rw [ble_iff.2 h'] at h; cases h
    show b = _; omega
theorem natOf_eq (n : Int) : natOf n = n.toNat := by cases n <;> rfl
theorem ge0_eq (n : Int) : ge0 n = decide (0 ≤ n) := by
  cases n with
  | ofNat a => rfl
  | negSucc a => show false = _; simp
theorem shiftK_ok {v : AV} {op : BinOp} {kd ky : IntKind} {x y : Int} {k : KO} (h : shiftK op kd x y k = .ok v) : ∃ n, k (.i kd n) = .ok v ∧ ∀ t w, (binOp op t (.int kd x) (.int ky y)).run P w = .ok (.int kd n) w := by
  have pw : ∀ n : Nat, Int.ofNat (Nat.pow 2 n) = (2 : Int) ^ n := fun n => by
    show ((2 ^ n : Nat) : Int) = _
    simp
  unfold shiftK at h
  split at h
  · cases h
  · rename_i hy
    rw [ge0_eq] at hy
    have hy : ¬ y < 0 := by simpa using hy
    rw [minN_eq, natOf_eq, bitsN_eq, pw] at h
    split at h
    · replace h := wrapK_ok h
      refine ⟨_, h, fun t w => ?_⟩
      simp only [binOp, Op.shift, if_neg hy]
      rfl
    · rw [fI_eq] at h
      refine ⟨_, h, fun t w => ?_⟩
      simp only [binOp, Op.shift, if_neg hy]
      rfl
    · cases h
theorem strOpF_ok {v : AV} {op : BinOp} {n N m M : Nat} {k : KO} (h : strOpF op n N m M k = .ok v) : ∃ a z, k a = .ok v ∧ (∀ r, VR r a z) ∧ ∀ t w, (binOp op t (.string (bytes (lst n N))) (.string (bytes (lst m M)))).run P w = .ok z w := by
  cases op
  case add =>
    have h' : @Bool.rec (fun _ => Out) (.err 10 5) (fN (Nat.add n m) fun l => fN (catN n N M) fun L => k (.s l L)) (Nat.blt (Nat.add n m) 9223372036854775808) = .ok v := h
    cases hlt : Nat.blt (Nat.add n m) 9223372036854775808 with
    | false => rw [hlt] at h'; cases h'
    | true =>
      rw [hlt] at h'
      simp only [fN_eq] at h'
      have hlt : n + m < 9223372036854775808 := blt_iff.1 hlt
      refine ⟨_, _, h', fun r => rfl, fun t w => ?_⟩
      have hle : ¬ ((((bytes (lst n N)).size + (bytes (lst m M)).size : Nat) : Int) > IntKind.i64.max) := by
        rw [bytes_size, bytes_size, lst_length, lst_length]
        have : IntKind.i64.max = 9223372036854775807 := rfl
        omega
      have e : bytes (lst (n.add m) (catN n N M)) = bytes (lst n N) ++ bytes (lst m M) := by
        rw [← bytes_append, ← lst_cat]; rfl
      simp only [binOp, Op.stringOp, if_neg hle, e]
      rfl
  case eql => have h' : sEql n N m M k = .ok v := h; rw [sEql, fB_eq] at h'; exact ⟨_, _, h', fun r => rfl, fun t w => by simp only [binOp, Op.stringOp, toList_bytes, eqNs_spec]; rfl⟩
  case neq => have h' : sNeq n N m M k = .ok v := h; rw [sNeq, fB_eq] at h'; exact ⟨_, _, h', fun r => rfl, fun t w => by simp only [binOp, Op.stringOp, toList_bytes, eqNs_spec]; rfl⟩
  case lss => have h' : sLss n N m M k = .ok v := h; rw [sLss, fB_eq] at h'; exact ⟨_, _, h', fun r => rfl, fun t w => by simp only [binOp, Op.stringOp, toList_bytes, ltS, ltNs_spec]; rfl⟩
  case leq => have h' : sLeq n N m M k = .ok v := h; rw [sLeq, fB_eq] at h'; exact ⟨_, _, h', fun r => rfl, fun t w => by simp only [binOp, Op.stringOp, toList_bytes, eqNs_spec, ltS, ltNs_spec]; rfl⟩
  case gtr => have h' : sGtr n N m M k = .ok v := h; rw [sGtr, fB_eq] at h'; exact ⟨_, _, h', fun r => rfl, fun t w => by simp only [binOp, Op.stringOp, toList_bytes, eqNs_spec, ltS, ltNs_spec]; rfl⟩
  case geq => have h' : sGeq n N m M k = .ok v := h; rw [sGeq, fB_eq] at h'; exact ⟨_, _, h', fun r => rfl, fun t w => by simp only [binOp, Op.stringOp, toList_bytes, ltS, ltNs_spec]; rfl⟩
  all_goals cases h
theorem eqFree_ok {op : BinOp} {t : TypeId} {X Y : Operand} {x y : AV} (hf : eqFree P t (isC X) (isC Y) x y = true) {r : Rn} {vx vy : Value} (hx : VR r x vx) (hy : VR r y vy) (w : World) : (eqGuard op t X Y vx vy).run P w = .ok () w := by
  have noneNil : ∀ a b : Value, (¬ (a = .nilIface ∧ b = .nilIface)) → (∀ p q, ¬ (a = .agg p ∧ b = .agg q)) → (eqGuard op t X Y a b).run P w = .ok () w := by
    intro a b h1 h2
    unfold eqGuard
    cases a <;> cases b <;> cases op <;> first
      | rfl
      | exact absurd ⟨rfl, rfl⟩ h1
      | exact absurd ⟨rfl, rfl⟩ (h2 _ _)
  cases x <;> cases y
  case ni.ni =>
    cases hx; cases hy
    simp only [eqFree, Bool.or_eq_true] at hf
    rcases hf with hf | hf
    · cases X <;> simp only [isC, Bool.false_eq_true] at hf
      cases op <;> simp [eqGuard]
    · cases Y <;> simp only [isC, Bool.false_eq_true] at hf
      cases op <;> simp [eqGuard]
  case ag.ag l m =>
    obtain ⟨xs, rfl, _⟩ := hx
    obtain ⟨ys, rfl, _⟩ := hy
    simp only [eqFree, Bool.not_eq_true'] at hf
    exact run_eqGuard_agg w op t X Y _ _ hf
  all_goals first
    | (exact Bool.noConfusion (show false = true from hf))
    | skip
  all_goals
    apply noneNil
    · rintro ⟨h1, h2⟩
      subst h1; subst h2
      first
      | (cases hx; done)
      | (cases hy; done)
      | (obtain ⟨_, _, h⟩ := hx; cases h; done)
      | (obtain ⟨_, _, h⟩ := hy; cases h; done)
      | (obtain ⟨_, _, _, _, h⟩ := hx; cases h; done)
      | (obtain ⟨_, _, _, _, h⟩ := hy; cases h; done)
      | (obtain ⟨_, h, _⟩ := hx; cases h; done)
      | (obtain ⟨_, h, _⟩ := hy; cases h; done)
      | (obtain ⟨_, _, h, _⟩ := hx; cases h; done)
      | (obtain ⟨_, _, h, _⟩ := hy; cases h; done)
    · rintro p q ⟨h1, h2⟩
      subst h1; subst h2
      first
      | (cases hx; done)
      | (cases hy; done)
      | (obtain ⟨_, _, h⟩ := hx; cases h; done)
      | (obtain ⟨_, _, h⟩ := hy; cases h; done)
      | (obtain ⟨_, _, _, _, h⟩ := hx; cases h; done)
      | (obtain ⟨_, _, _, _, h⟩ := hy; cases h; done)
      | (obtain ⟨_, h, _⟩ := hx; cases h; done)
      | (obtain ⟨_, h, _⟩ := hy; cases h; done)
      | (obtain ⟨_, _, h, _⟩ := hx; cases h; done)
      | (obtain ⟨_, _, h, _⟩ := hy; cases h; done)
/-- an equation that is neither of numbers nor of texts -/
def plainEq : Value → Value → Bool
  | .int _ _, .int _ _ => false
  | .float _ _, .float _ _ => false
  | .complex _ _ _, .complex _ _ _ => false
  | .string _, .string _ => false
  | _, _ => true
theorem eql_plain {t : TypeId} {x y : Value} (h : plainEq x y = true) : binOp .eql t x y = (do pure (.bool (← Op.equal t x y))) := by
  cases x <;> cases y <;> first | rfl | (simp [plainEq] at h)
theorem neq_plain {t : TypeId} {x y : Value} (h : plainEq x y = true) : binOp .neq t x y = (do pure (.bool (!(← Op.equal t x y)))) := by
  cases x <;> cases y <;> first | rfl | (simp [plainEq] at h)
theorem VR.notFloat {r : Rn} {a : AV} {k : FloatKind} {b : Nat} (h : VR r a (.float k b)) (hj : a.isJk = false) : False := by
  cases a <;> first | (cases hj; done) | (simp [VR] at h)
theorem VR.notComplex {r : Rn} {a : AV} {k : FloatKind} {b c : Nat} (h : VR r a (.complex k b c)) (hj : a.isJk = false) : False := by
  cases a <;> first | (cases hj; done) | (simp [VR] at h)
theorem VR.ofInt {r : Rn} {a : AV} {k : IntKind} {n : Int} (h : VR r a (.int k n)) (hj : a.isJk = false) : a = .i k n := by
  cases a <;> first | (cases hj; done) | (simp [VR] at h)
  obtain ⟨rfl, rfl⟩ := h; rfl
theorem VR.ofStr {r : Rn} {a : AV} {s : ByteArray} (h : VR r a (.string s)) (hj : a.isJk = false) : ∃ n N, a = .s n N := by
  cases a <;> first | (cases hj; done) | (simp [VR] at h)
  exact ⟨_, _, rfl⟩
theorem eqFree_jk {t : TypeId} {a b : Bool} {x y : AV} (hf : eqFree P t a b x y = true) : x.isJk = false ∧ y.isJk = false := by
  cases x <;> cases y <;> first | exact ⟨rfl, rfl⟩ | (exact Bool.noConfusion (show false = true from hf))
theorem plain_of {r : Rn} {x y : AV} {vx vy : Value} (hx : VR r x vx) (hy : VR r y vy) (hj : x.isJk = false ∧ y.isJk = false) (h1 : ∀ ka a kb b, ¬ (x = .i ka a ∧ y = .i kb b)) (h2 : ∀ a b c d, ¬ (x = .s a b ∧ y = .s c d)) : plainEq vx vy = true := by
  cases vx <;> cases vy <;> simp only [plainEq]
  · exact absurd ⟨hx.ofInt hj.1, hy.ofInt hj.2⟩ (h1 _ _ _ _)
  · exact (hx.notFloat hj.1).elim
  · exact (hx.notComplex hj.1).elim
  · obtain ⟨l, l', rfl⟩ := hx.ofStr hj.1
    obtain ⟨m, m', rfl⟩ := hy.ofStr hj.2
    exact absurd ⟨rfl, rfl⟩ (h2 l l' m m')
theorem sameKind_ok {a b : IntKind} (h : sameKind a b = true) : a = b := by
  cases a <;> cases b <;> first | rfl | cases h
theorem iiF_ok {v : AV} {op : BinOp} {ka kb : IntKind} {a b : Int} {k : KO} (h : iiF op ka a kb b k = .ok v) : ∃ c z, k c = .ok v ∧ (∀ r, VR r c z) ∧ ∀ t w, (binOp op t (.int ka a) (.int kb b)).run P w = .ok z w := by
  have sh : ∀ op, shiftK op ka a b k = .ok v → ∃ c z, k c = .ok v ∧ (∀ r, VR r c z) ∧ ∀ t w, (binOp op t (.int ka a) (.int kb b)).run P w = .ok z w := fun op h => by
    obtain ⟨n, h1, h2⟩ := shiftK_ok (P := P) (ky := kb) h
    exact ⟨_, _, h1, fun r => rfl, h2⟩
  have ar : ∀ op, op ≠ .shl ∧ op ≠ .shr → iiOf (intF op) ka a kb b k = .ok v → ∃ c z, k c = .ok v ∧ (∀ r, VR r c z) ∧ ∀ t w, (binOp op t (.int ka a) (.int kb b)).run P w = .ok z w := fun op hop h => by
    have h' : @Bool.rec (fun _ => Out) (.err 10 7) (intF op ka a b k) (sameKind ka kb) = .ok v := h
    cases hs : sameKind ka kb with
    | false => rw [hs] at h'; cases h'
    | true =>
      rw [hs] at h'
      have := sameKind_ok hs
      subst this
      exact intF_ok hop h'
  cases op
  case shl => exact sh _ h
  case shr => exact sh _ h
  all_goals exact ar _ ⟨by simp, by simp⟩ h
theorem eqOpK_ok {v : AV} {h : T} {op : BinOp} {t : TypeId} {X Y : Operand} {x y : AV} {k : KO} (m1 : ∀ ka a kb b, ¬ (x = .i ka a ∧ y = .i kb b)) (m2 : ∀ a b c d, ¬ (x = .s a b ∧ y = .s c d)) (hk : eqOpK P h op t (isC X) (isC Y) x y k = .ok v) :
    ∃ a, k a = .ok v ∧ ∀ p lim r w vx vy, HR p lim r h.get w → VR r x vx → VR r y vy → ∃ z, (do eqGuard op t X Y vx vy; binOp op t vx vy : Sem Value).run P w = .ok z w ∧ VR r a z := by
  unfold eqOpK at hk
  split at hk
  · split at hk
    · rename_i hf
      obtain ⟨b, h1, h2⟩ := eqK_ok hk
      refine ⟨_, h1, fun p lim r w vx vy H hx hy => ⟨.bool b, ?_, rfl⟩⟩
      have hp := plain_of hx hy (eqFree_jk hf) m1 m2
      rw [Sem.run_bind, eqFree_ok hf hx hy, Result.andThen_ok, eql_plain hp, Sem.run_bind]
      have := h2 10000 (Nat.le_refl _) p lim r w vx vy H hx hy
      simp only [Op.equal, Op.maxDepth, this, Result.andThen_ok, Sem.run_pure]
    · cases hk
  · split at hk
    · rename_i hf
      obtain ⟨b, h1, h2⟩ := eqK_ok hk
      rw [fB_eq] at h1
      refine ⟨_, h1, fun p lim r w vx vy H hx hy => ⟨.bool (!b), ?_, rfl⟩⟩
      have hp := plain_of hx hy (eqFree_jk hf) m1 m2
      rw [Sem.run_bind, eqFree_ok hf hx hy, Result.andThen_ok, neq_plain hp, Sem.run_bind]
      have := h2 10000 (Nat.le_refl _) p lim r w vx vy H hx hy
      simp only [Op.equal, Op.maxDepth, this, Result.andThen_ok, Sem.run_pure]
    · cases hk
  · cases hk
theorem binK_ok {v : AV} {h : T} {op : BinOp} {t : TypeId} {X Y : Operand} {x y : AV} {k : KO} (hk : binK P h op t (isC X) (isC Y) x y k = .ok v) :
    ∃ a, k a = .ok v ∧ ∀ p lim r w vx vy, HR p lim r h.get w → VR r x vx → VR r y vy → ∃ z, (do eqGuard op t X Y vx vy; binOp op t vx vy : Sem Value).run P w = .ok z w ∧ VR r a z := by
  have guardInt : ∀ ka a kb b w, (eqGuard op t X Y (.int ka a) (.int kb b)).run P w = .ok () w := fun ka a kb b w => by cases op <;> rfl
  have guardStr : ∀ a b w, (eqGuard op t X Y (.string a) (.string b)).run P w = .ok () w := fun a b w => by cases op <;> rfl
  unfold binK binF at hk
  split at hk
  · rename_i ka a
    unfold binI at hk
    split at hk
    · rename_i kb b
      obtain ⟨c, z, h1, h2, h3⟩ := iiF_ok (P := P) hk
      refine ⟨_, h1, fun p lim r w vx vy H hx hy => ⟨_, ?_, h2 r⟩⟩
      cases hx; cases hy
      rw [Sem.run_bind, guardInt, Result.andThen_ok, h3]
    · rename_i hne
      exact eqOpK_ok (fun _ _ kb b h => hne kb b h.2) (fun _ _ _ _ h => by cases h.1) hk
  · rename_i n N
    unfold binS at hk
    split at hk
    · obtain ⟨c, z, h1, h2, h3⟩ := strOpF_ok (P := P) hk
      refine ⟨_, h1, fun p lim r w vx vy H hx hy => ⟨_, ?_, h2 r⟩⟩
      cases hx; cases hy
      rw [Sem.run_bind, guardStr, Result.andThen_ok, h3]
    · rename_i hne
      exact eqOpK_ok (fun _ _ _ _ h => by cases h.1) (fun _ _ c d h => hne c d h.2) hk
  · rename_i m1 m2
    exact eqOpK_ok (fun ka a _ _ h => m1 ka a h.1) (fun a b _ _ h => m2 a b h.1) hk
theorem unK_ok {v : AV} {op : UnOp} {x : AV} {k : KO} (hk : unK op x k = .ok v) : ∃ a, k a = .ok v ∧ ∀ r w vx, VR r x vx → ∃ z, (Op.unary op vx).run P w = .ok z w ∧ VR r a z := by
  unfold unK at hk
  split at hk
  · replace hk := wrapK_ok hk
    refine ⟨_, hk, fun r w vx hx => ?_⟩
    cases hx
    exact ⟨_, by simp [Op.unary, Op.intArith], rfl⟩
  · obtain ⟨n, h1, h2⟩ := xor_ok (P := P) hk
    refine ⟨_, h1, fun r w vx hx => ?_⟩
    cases hx
    exact ⟨_, by simp only [Op.unary, h2], rfl⟩
  · rw [fB_eq] at hk
    refine ⟨_, hk, fun r w vx hx => ?_⟩
    cases hx
    exact ⟨_, by simp [Op.unary], rfl⟩
  · cases hk
end Clu
end Go.Proofs.Ythghohgjedjpbaa
