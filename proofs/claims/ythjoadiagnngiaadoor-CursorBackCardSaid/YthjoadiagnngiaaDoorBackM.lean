import Derived.Test.YthjoadiagnngiaaDoorSym
namespace Go.Proofs.YthjoadiagnngiaaDoor
open Go.RowKit
set_option linter.unusedVariables false

def piece (i n : Nat) : List UInt8 := if i % 3 = 0 then [UInt8.ofNat (n % 256)] else if i % 3 = 1 then be2 (n % 65536) else be4 n
def bytesTo (f : Nat → Nat) : Nat → List UInt8
  | 0 => []
  | k + 1 => bytesTo f k ++ piece k (f k)
theorem piece_len (i n : Nat) : (piece i n).length ≤ 4 := by
  unfold piece; split
  · simp
  · split <;> simp [be2, be4]
theorem bytesTo_len (f : Nat → Nat) (k : Nat) : (bytesTo f k).length ≤ 4 * k := by
  induction k with
  | zero => simp [bytesTo]
  | succ k ih => have := piece_len k (f k); simp only [bytesTo, List.length_append]; omega
theorem bytesTo_more (f : Nat → Nat) (k d : Nat) : ∃ r, bytesTo f (k + d) = bytesTo f k ++ r := by
  induction d with
  | zero => exact ⟨[], by simp⟩
  | succ d ih => obtain ⟨r, hr⟩ := ih; exact ⟨r ++ piece (k + d) (f (k + d)), by rw [← Nat.add_assoc, bytesTo, hr, List.append_assoc]⟩
theorem bytesTo_split (f : Nat → Nat) (k n : Nat) (h : k < n) : ∃ r, bytesTo f n = bytesTo f k ++ piece k (f k) ++ r := by
  obtain ⟨r, hr⟩ := bytesTo_more f (k + 1) (n - (k + 1))
  exact ⟨r, by rw [show n = k + 1 + (n - (k + 1)) by omega, hr, bytesTo]⟩
theorem part_mid (p m r : List UInt8) : part (str (p ++ m ++ r)) p.length m.length = m := by
  rw [part_eq]; simp [str]
theorem part_piece (f : Nat → Nat) (k n c : Nat) (h : k < n) (hc : (piece k (f k)).length = c) : part (str (bytesTo f n)) (bytesTo f k).length c = piece k (f k) ∧ (bytesTo f k).length + c ≤ (str (bytesTo f n)).size := by
  obtain ⟨r, hr⟩ := bytesTo_split f k n h
  subst hc
  rw [hr]
  exact ⟨part_mid _ _ _, by rw [str_size]; simp⟩
theorem len_piece (i n : Nat) : (i % 3 = 0 → (piece i n).length = 1 ∧ piece i n = [UInt8.ofNat (n % 256)]) ∧ (i % 3 = 1 → (piece i n).length = 2 ∧ piece i n = be2 (n % 65536)) ∧ (i % 3 = 2 → (piece i n).length = 4 ∧ piece i n = be4 n) := by
  refine ⟨fun h => ?_, fun h => ?_, fun h => ?_⟩
  · simp [piece, h]
  · simp [piece, h, be2]
  · simp [piece, h, be4]
theorem val_one (n : Nat) (h : n < 256) : val [UInt8.ofNat n] = n := by simp [val]; omega
theorem val_be2 (n : Nat) (h : n < 65536) : val (be2 n) = n := by simp [val, be2]; omega
theorem val_be4 (n : Nat) (h : n < 4294967296) : val (be4 n) = n := by simp [val, be4]; omega
/-- a row of u32 that came in, as numbers -/
theorem row_u32 {w : World} {a : Option Addr} {len cap : Nat} {z : List Int} (h : IsRow .u32 w a len cap z) (i : Nat) (hi : i < len) :
    ∃ ad, a = some ad ∧ ad.block < w.heap.size ∧ w.cell? (ad.add i) = some (.int .u32 ((z.getD i 0).toNat : Int)) ∧ (z.getD i 0).toNat < 4294967296 := by
  rcases h with ⟨rfl, rfl, rfl, rfl⟩ | ⟨x, rfl, h1, h2, h3, h4, h5⟩
  · omega
  · have hz : z.getD i 0 ∈ z := by
      rw [List.getD, List.getElem?_eq_getElem (by omega)]; simp
    have hw := h5 _ hz
    have hmin : IntKind.u32.min = 0 := rfl
    have hmax : IntKind.u32.max = 4294967295 := rfl
    simp only [Lit.wf, Bool.and_eq_true, decide_eq_true_eq] at hw
    have hc := h4 i (by omega)
    have hlt := World.block_lt_of_cell? _ _ hc
    refine ⟨x, rfl, ?_, ?_, by omega⟩
    · rw [show (x.add i).block = x.block from by unfold Addr.add; split <;> rfl] at hlt; exact hlt
    · rw [hc]; congr 3; omega
end Go.Proofs.YthjoadiagnngiaaDoor
