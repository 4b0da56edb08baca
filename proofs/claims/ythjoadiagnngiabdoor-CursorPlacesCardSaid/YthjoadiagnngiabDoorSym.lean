import Derived.Test.YthjoadiagnngiabDoorAwakeC
import Derived.Deep.DeepCutAuto
import Derived.Deep.CutBlock
namespace Go.Proofs.YthjoadiagnngiabDoor
open Go.RowKit
set_option linter.unusedVariables false

theorem part_eq (s : ByteArray) (a n : Nat) : part s a n = (s.data.toList.drop a).take n := by
  simp [part, ByteArray.data_extract]
theorem part_append (s : ByteArray) (a m n : Nat) : part s a (m + n) = part s a m ++ part s (a + m) n := by
  simp only [part_eq]
  rw [List.take_add, List.drop_drop]
theorem val_append (l m : List UInt8) : val (l ++ m) = 256 ^ m.length * val l + val m := by
  rw [← List.reverse_reverse m]
  generalize m.reverse = r
  induction r with
  | nil => simp [val]
  | cons b r ih =>
    rw [List.reverse_cons, ← List.append_assoc, val_snoc, val_snoc, ih, List.length_append, List.length_singleton, Nat.pow_succ, Nat.mul_add, Nat.add_assoc, ← Nat.mul_assoc]
    congr 2
    exact Nat.mul_comm _ _
theorem part_len (s : ByteArray) (a n : Nat) (h : a + n ≤ s.size) : (part s a n).length = n := by simp [part]; omega
theorem val_part (s : ByteArray) (a m n : Nat) (h : a + m + n ≤ s.size) : val (part s a (m + n)) = 256 ^ n * val (part s a m) + val (part s (a + m) n) := by
  rw [part_append, val_append, part_len _ _ _ h]

/-- what a read of n bytes at a answers -/
def Read (s : ByteArray) (a n V : Nat) (E : Int) (b : Nat) : Prop := (a + n ≤ s.size ∧ V = val (part s a n) ∧ E = 0 ∧ b = a + n) ∨ (s.size < a + n ∧ V = 0 ∧ E = 4 ∧ b = a)
def TakeIs (s : ByteArray) (a n : Nat) (X : ByteArray) (E : Int) (b : Nat) : Prop := (a + n ≤ s.size ∧ X = s.extract a (a + n) ∧ E = 0 ∧ b = a + n) ∨ (s.size < a + n ∧ X = ByteArray.empty ∧ E = 4 ∧ b = a)

theorem byte_sym {w : World} {p : Nat} {s : ByteArray} {a : Nat} (h : Cur w p s a) (hg : HG w) :
    Calls Tryd.prog 28 #[.pointer (some ⟨p, 0, none⟩)] w fun e w' => ∃ (V : Nat) (E : Int) (b : Nat), e = .returned (.tuple #[.int .u8 (V : Int), .int .i64 E]) ∧ Cur w' p s b ∧ w.grownBy w' (some p) ∧ Hid (Read s a 1 V E b) := by
  by_cases hs : a + 1 ≤ s.size
  · refine (byte_ok h hs).mono ?_
    rintro e w' ⟨rfl, h1, h2⟩
    exact ⟨_, _, _, rfl, h1, h2, Lib.hid (.inl ⟨hs, rfl, rfl, rfl⟩)⟩
  · refine (byte_bad hg (refused_short h 1 (by decide) (by omega))).mono ?_
    rintro e w' ⟨rfl, h1⟩
    exact ⟨0, _, _, rfl, h.grown h1, grown_none' h1 _, Lib.hid (.inr ⟨by omega, rfl, rfl, rfl⟩)⟩
theorem two_sym {w : World} {p : Nat} {s : ByteArray} {a : Nat} (h : Cur w p s a) (hg : HG w) :
    Calls Tryd.prog 29 #[.pointer (some ⟨p, 0, none⟩)] w fun e w' => ∃ (V : Nat) (E : Int) (b : Nat), e = .returned (.tuple #[.int .u16 (V : Int), .int .i64 E]) ∧ Cur w' p s b ∧ w.grownBy w' (some p) ∧ Hid (Read s a 2 V E b) := by
  by_cases hs : a + 2 ≤ s.size
  · refine (two_ok h hs).mono ?_
    rintro e w' ⟨rfl, h1, h2⟩
    exact ⟨_, _, _, rfl, h1, h2, Lib.hid (.inl ⟨hs, rfl, rfl, rfl⟩)⟩
  · refine (two_bad hg (refused_short h 2 (by decide) (by omega))).mono ?_
    rintro e w' ⟨rfl, h1⟩
    exact ⟨0, _, _, rfl, h.grown h1, grown_none' h1 _, Lib.hid (.inr ⟨by omega, rfl, rfl, rfl⟩)⟩
theorem four_sym {w : World} {p : Nat} {s : ByteArray} {a : Nat} (h : Cur w p s a) (hg : HG w) :
    Calls Tryd.prog 30 #[.pointer (some ⟨p, 0, none⟩)] w fun e w' => ∃ (V : Nat) (E : Int) (b : Nat), e = .returned (.tuple #[.int .u32 (V : Int), .int .i64 E]) ∧ Cur w' p s b ∧ w.grownBy w' (some p) ∧ Hid (Read s a 4 V E b) := by
  by_cases hs : a + 4 ≤ s.size
  · refine (four_ok h hs).mono ?_
    rintro e w' ⟨rfl, h1, h2⟩
    exact ⟨_, _, _, rfl, h1, h2, Lib.hid (.inl ⟨hs, rfl, rfl, rfl⟩)⟩
  · refine (four_bad hg (refused_short h 4 (by decide) (by omega))).mono ?_
    rintro e w' ⟨rfl, h1⟩
    exact ⟨0, _, _, rfl, h.grown h1, grown_none' h1 _, Lib.hid (.inr ⟨by omega, rfl, rfl, rfl⟩)⟩
theorem take_sym (n : Nat) (N : Int) {w : World} {p : Nat} {s : ByteArray} {a : Nat} (h : Cur w p s a) (hg : HG w) (hN : N = (n : Int)) :
    Calls Tryd.prog 31 #[.pointer (some ⟨p, 0, none⟩), .int .i64 N] w fun e w' => ∃ (X : ByteArray) (E : Int) (b : Nat), e = .returned (.tuple #[.string X, .int .i64 E]) ∧ Cur w' p s b ∧ w.grownBy w' (some p) ∧ Hid (TakeIs s a n X E b) := by
  subst hN
  by_cases hs : a + n ≤ s.size
  · refine (take_ok n h hs).mono ?_
    rintro e w' ⟨rfl, h1, h2⟩
    exact ⟨_, _, _, rfl, h1, h2, Lib.hid (.inl ⟨hs, rfl, rfl, rfl⟩)⟩
  · refine (take_bad hg (refused_short h n (by omega) (by omega))).mono ?_
    rintro e w' ⟨rfl, h1⟩
    exact ⟨_, _, _, rfl, h.grown h1, grown_none' h1 _, Lib.hid (.inr ⟨by omega, rfl, rfl, rfl⟩)⟩
theorem mod_nat (a M : Int) (N : Nat) (hM : M = (N : Int)) (h1 : 1 ≤ N) (h2 : N < 4611686018427387904) : ∃ k : Nat, k < N ∧ wrap64 ((IntKind.u64.wrap a).tmod M) = (k : Int) := by
  subst hM
  have hw : 0 ≤ IntKind.u64.wrap a := by rw [IntKind.wrap_u64]; omega
  obtain ⟨x, hx⟩ := Int.eq_ofNat_of_zero_le hw
  have hlt : x % N < N := Nat.mod_lt _ (by omega)
  refine ⟨x % N, hlt, ?_⟩
  rw [hx]
  have e' : (Int.ofNat x).tmod (N : Int) = ((x % N : Nat) : Int) := rfl
  have e2 : (((x : Nat) : Int)).tmod (N : Int) = ((x % N : Nat) : Int) := e'
  rw [e2]
  have hb : x % N < 4611686018427387904 := by omega
  generalize x % N = Y at hb ⊢
  unfold wrap64
  omega
theorem ext_append (s : ByteArray) (a n m : Nat) (h : a + n + m ≤ s.size) : s.extract a (a + n) ++ s.extract (a + n) (a + n + m) = s.extract a (a + n + m) := by
  apply ByteArray.ext
  simp [ByteArray.data_extract]
end Go.Proofs.YthjoadiagnngiabDoor
