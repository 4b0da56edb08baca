import Derived.Test.YtdhhocmdolnfiaaDoorCur
import Derived.Laws.BitsLemmas
namespace Go.Proofs.YtdhhocmdolnfiaaDoor
open Go.RowKit
set_option linter.unusedVariables false

/-- the number that bytes are, the first one the highest -/
def val (l : List UInt8) : Nat := l.foldl (fun x b => 256 * x + b.toNat) 0
theorem val_snoc (l : List UInt8) (b : UInt8) : val (l ++ [b]) = 256 * val l + b.toNat := by simp [val, List.foldl_append]
theorem val_lt (l : List UInt8) : val l < 256 ^ l.length := by
  rw [← List.reverse_reverse l]
  generalize l.reverse = r
  induction r with
  | nil => simp [val]
  | cons b r ih =>
    rw [List.reverse_cons, val_snoc, List.length_append, List.length_singleton, Nat.pow_succ]
    have := b.toNat_lt
    simp only [List.length_reverse] at ih ⊢
    omega

theorem take_snoc (s : ByteArray) (k : Nat) (h : k < s.size) : s.data.toList.take (k + 1) = s.data.toList.take k ++ [s[k]] := by
  rw [List.take_succ_eq_append_getElem (by simpa using h)]; rfl

theorem or_byte (v b : Nat) (hv : v < 16777216) (hb : b < 256) : bits BinOp.or IntKind.u32 ((v : Int) * 256) ((b : Int) % 4294967296) = ((256 * v + b : Nat) : Int) := by
  have e : (b : Int) % 4294967296 = (b : Int) := by omega
  rw [e, bits_join .u32 32 (by decide) (fun n h0 h1 => by rw [IntKind.wrap_u32]; omega) 8 _ _ (by omega) (by omega) (by omega) (by omega) (by omega) (by omega)]
  omega

/-- the bytes of s from a on, n of them -/
def part (s : ByteArray) (a n : Nat) : List UInt8 := (s.extract a (a + n)).data.toList

set_option maxHeartbeats 1000000 in
theorem number_ok (p : Nat) (s : ByteArray) (a n : Nat) (w : World) (h : Cur w p s a) (hs : a + n ≤ s.size) (hn : n ≤ 4) :
    Calls Tryd.prog 46 #[.pointer (some ⟨p, 0, none⟩), .int .i64 (n : Int)] w fun e w' => e = .returned (.tuple #[.int .u32 (val (part s a n) : Nat), .int .i64 0]) ∧ Cur w' p s (a + n) ∧ w.grownBy w' (some p) := by
  go_enter Tryd.func46, Tryd.ntmps46
  go_wp2_with fail
  refine (next_ok p s a n _ h hs).mono ?_
  rintro e w1 ⟨rfl, h1, hg1⟩
  have hsz : (s.extract a (a + n)).size = n := by simp [ByteArray.size_extract]; omega
  have HP : Hid (part s a n = (s.extract a (a + n)).data.toList) := rfl
  generalize hT : s.extract a (a + n) = T at hsz HP ⊢
  have HS := Lib.hid hsz
  have hsz1 : T.size ≤ 4 := by omega
  clear hT hsz
  go_wp2
  go_loop [8, 18] (fun v i => ∃ k : Nat, k ≤ T.size ∧ i = .int .i64 k ∧ v = .int .u32 (val (T.data.toList.take k) : Nat)) (fun _ i => T.size - (intOf i).toNat)
  case atStart => exact ⟨0, Nat.zero_le _, rfl, rfl⟩
  case round =>
    obtain ⟨k, hk, rfl, rfl⟩ := hrel
    by_cases hlt : k < T.size
    · have hsn := val_snoc (T.data.toList.take k) T[k]
      have hts := take_snoc T k hlt
      have hv := val_lt (T.data.toList.take k)
      have hlk : (T.data.toList.take k).length ≤ 3 := by rw [List.length_take]; omega
      have hv2 : val (T.data.toList.take k) < 16777216 := Nat.lt_of_lt_of_le hv (by
        have : 256 ^ (T.data.toList.take k).length ≤ 256 ^ 3 := Nat.pow_le_pow_right (by decide) hlk
        exact this)
      have ho := or_byte (val (T.data.toList.take k)) (T[k]).toNat hv2 (T[k]).toNat_lt
      have HT : Hid (val (T.data.toList.take (k + 1)) = 256 * val (T.data.toList.take k) + (T[k]).toNat) := by rw [hts]; exact hsn
      have HO := Lib.hid ho
      generalize hV : val (T.data.toList.take k) = V at HT HO hv2 ⊢
      clear hsn hts hv hlk ho hV
      go_wp2
      go_round
      case rel => exact ⟨k + 1, by omega, by go_num, by rw [HT.out, HO.out]⟩
      case measure => simp [intOf]; omega
    · obtain rfl : k = T.size := by omega
      go_wp2_with fail
      refine (errno_nil _).mono ?_
      rintro e w2 ⟨rfl, hg2⟩
      go_wp2
      go_ret2
      have : T.data.toList.take T.size = T.data.toList := List.take_of_length_le (by simp)
      exact ⟨congrArg (fun l => Ending.returned (.tuple #[.int .u32 (val l : Nat), .int .i64 0])) (this.trans HP.out.symm), h1.grown hg2, grown_none hg1 hg2⟩

/-- what is refused: nothing is read -/
theorem number_bad (c : Value) (n x : Int) (w : World) (hg : HG w) (h : Calls Tryd.prog 47 #[c, .int .i64 n] w fun e w' => e = .returned (.tuple #[.string ByteArray.empty, fail x]) ∧ ∃ m, w.drewN m = w') :
    Calls Tryd.prog 46 #[c, .int .i64 n] w fun e w' => e = .returned (.tuple #[.int .u32 0, .int .i64 x]) ∧ w.grownBy w' none := by
  have H := Lib.hid h
  clear h
  go_enter Tryd.func46, Tryd.ntmps46
  go_wp2_with fail
  refine H.out.mono ?_
  rintro e w1 ⟨rfl, m, rfl⟩
  go_wp2
  refine wp_loop_rounds 1 ?_
  rw [rounds_succ]
  go_wp2_with fail
  refine (errno_fail x _ (hg.grown (grown_drewN w m none) (by simp))).mono ?_
  rintro e w2 ⟨rfl, hg2⟩
  go_wp2
  go_ret2
  exact ⟨rfl, grown_trans (grown_drewN _ _ _) hg2⟩
end Go.Proofs.YtdhhocmdolnfiaaDoor
