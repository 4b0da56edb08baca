import Derived.Test.YtdhhocmdolnfiaaDoorErrno
import Derived.Deep.QuietTactic
import Derived.BigQuiet
namespace Go.Proofs.YtdhhocmdolnfiaaDoor
open Go.RowKit
set_option linter.unusedVariables false

/-- a cursor over s at a place -/
def Cur (w : World) (p : Nat) (s : ByteArray) (at_ : Nat) : Prop := w.heap[p]? = some (.cells #[.string s, .int .i64 (at_ : Int)] 81 (0, 0)) ∧ at_ ≤ s.size ∧ s.size ≤ 1000000 ∧ 0 < p

theorem Cur.grown {w w' : World} {p : Nat} {s : ByteArray} {a : Nat} (h : Cur w p s a) (hg : w.grownBy w' none) : Cur w' p s a := ⟨heap_kept hg h.1 (by simp), h.2⟩
theorem Cur.other {w w' : World} {p q : Nat} {s : ByteArray} {a : Nat} (h : Cur w p s a) (hg : w.grownBy w' (some q)) (hne : p ≠ q) : Cur w' p s a := ⟨heap_kept hg h.1 (fun e => hne (by simpa using e)), h.2⟩
theorem Cur.lt {w : World} {p : Nat} {s : ByteArray} {a : Nat} (h : Cur w p s a) : p < w.heap.size := lt_of_block h.1
theorem Cur.cells {w : World} {p : Nat} {s : ByteArray} {a : Nat} (h : Cur w p s a) : w.cell? ⟨p, 0, none⟩ = some (.string s) ∧ w.cell? ⟨p, 1, none⟩ = some (.int .i64 (a : Int)) ∧ w.frozen? ⟨p, 1, none⟩ = false :=
  ⟨by rw [cell_of_row w p 0 _ _ _ h.1]; rfl, by rw [cell_of_row w p 1 _ _ _ h.1]; rfl, frozen_of_row w p 1 _ _ h.1⟩
theorem Cur.set {w : World} {p : Nat} {s : ByteArray} {a : Nat} (h : Cur w p s a) (b : Nat) (hb : b ≤ s.size) : Cur (w.setCell ⟨p, 1, none⟩ (.int .i64 (b : Int))) p s b := by
  refine ⟨?_, hb, h.2.2⟩
  rw [heap_setCell_same _ p 1 _ _ _ h.1]
  simp

set_option maxHeartbeats 400000 in
theorem new_any (s : ByteArray) (w : World) (hs : s.size ≤ 1000000) (hw : 0 < w.heap.size) :
    Calls Tryd.prog 20 #[.string s] w fun e w' => ∃ p, e = .returned (.pointer (some ⟨p, 0, none⟩)) ∧ Cur w' p s 0 ∧ w.grownBy w' none ∧ w.heap.size ≤ p := by
  go_enter Tryd.func20, Tryd.ntmps20
  go_wp2
  go_ret
  exact ⟨w.heap.size, rfl, ⟨heap_alloc_new _ _, by omega, hs, hw⟩, World.grownBy_alloc _ _ _, Nat.le_refl _⟩

def fail (n : Int) : Value := .iface 97 (.agg #[.int .i64 n])

set_option maxHeartbeats 400000 in
theorem next_nil (n : Int) (w : World) : Calls Tryd.prog 47 #[.pointer none, .int .i64 n] w fun e w' => e = .returned (.tuple #[.string ByteArray.empty, fail 2]) ∧ w = w' := by
  go_enter Tryd.func47, Tryd.ntmps47
  go_wp2
  go_ret2
  exact ⟨rfl, rfl⟩
set_option maxHeartbeats 400000 in
theorem next_neg (p : Nat) (n : Int) (w : World) (hn : n < 0) : Calls Tryd.prog 47 #[.pointer (some ⟨p, 0, none⟩), .int .i64 n] w fun e w' => e = .returned (.tuple #[.string ByteArray.empty, fail 1]) ∧ w = w' := by
  go_enter Tryd.func47, Tryd.ntmps47
  go_wp2
  go_ret2
  exact ⟨rfl, rfl⟩
set_option maxHeartbeats 400000 in
theorem next_short (p : Nat) (s : ByteArray) (a : Nat) (n : Int) (w : World) (h : Cur w p s a) (hn : 0 ≤ n) (hs : (s.size : Int) - (a : Int) < n) :
    Calls Tryd.prog 47 #[.pointer (some ⟨p, 0, none⟩), .int .i64 n] w fun e w' => e = .returned (.tuple #[.string ByteArray.empty, fail 4]) ∧ ∃ m, w.drewN m = w' := by
  obtain ⟨c0, c1, f1⟩ := h.cells
  obtain ⟨_, h2, h3, _⟩ := h
  have hn' : ¬ n < 0 := by omega
  go_enter Tryd.func47, Tryd.ntmps47
  have g1 : decide (n < 0) = false := by simp; omega
  have g2 : decide ((s.size : Int) - (a : Int) < n) = true := by simp; omega
  go_wp2
  go_quiet (fail)
  go_wp2
  go_ret2
  exact ⟨rfl, nq, rfl⟩
set_option maxHeartbeats 400000 in
theorem next_ok (p : Nat) (s : ByteArray) (a n : Nat) (w : World) (h : Cur w p s a) (hs : a + n ≤ s.size) :
    Calls Tryd.prog 47 #[.pointer (some ⟨p, 0, none⟩), .int .i64 (n : Int)] w fun e w' => e = .returned (.tuple #[.string (s.extract a (a + n)), .nilIface]) ∧ Cur w' p s (a + n) ∧ w.grownBy w' (some p) := by
  have H := Lib.hid h
  obtain ⟨c0, c1, f1⟩ := h.cells
  obtain ⟨_, h2, h3, _⟩ := id h
  clear h
  go_enter Tryd.func47, Tryd.ntmps47
  have g1 : ¬ ((s.size : Int) - (a : Int) < (n : Int)) := by omega
  have b1 : (a : Int) ≤ (s.size : Int) := by omega
  have b2 : (a : Int) + (n : Int) ≤ (s.size : Int) := by omega
  have hsum : IntKind.i64.wrap ((a : Int) + (n : Int)) = (a : Int) + (n : Int) := IntWalk.i64_in _ ⟨by omega, by omega⟩
  have hnn : ((a : Int) + (n : Int)).toNat = a + n := by omega
  have h0 : (0 : Int) ≤ (a : Int) + (n : Int) := by omega
  have hl : (a : Int) ≤ (a : Int) + (n : Int) := by omega
  go_wp2
  go_quiet (fail)
  go_wp2
  go_quiet (fail)
  go_wp2
  go_ret2
  exact ⟨rfl, (H.out.grown (grown_drewN w _ none)).set (a + n) hs, grown_trans (grown_drewN _ _ _) (grown_set _ _ _ _)⟩
end Go.Proofs.YtdhhocmdolnfiaaDoor
