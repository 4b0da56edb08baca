import Derived.Test.YthjoadiagnngiaaNext
namespace Go.Proofs.Ythjoadiagnngiaa
open Go.RowKit
set_option linter.unusedVariables false

set_option maxHeartbeats 400000 in
theorem below_zero (p : Nat) (n : Int) (w : World) (hn : n < 1) :
    Calls Try.prog 15 #[.pointer (some ⟨p, 0, none⟩), .int .i64 n] w fun e w' => e = .returned (.int .i64 0) ∧ w = w' := by
  go_enter Try.func15, Try.ntmps15
  go_wp2
  go_ret
  exact ⟨rfl, rfl⟩

set_option maxHeartbeats 400000 in
theorem below_any (p : Nat) (n : Nat) (seed : Nat) (first : List Nat) (u : Nat) (w : World) (h : Tape w p seed first u) (hu : u < 4611686018427387904) (hn : 1 ≤ n) (hn2 : n < 9223372036854775808) :
    Calls Try.prog 15 #[.pointer (some ⟨p, 0, none⟩), .int .i64 (n : Int)] w fun e w' => e = .returned (.int .i64 (drawAt seed first u % n : Nat)) ∧ Tape w' p seed first (u + 1) ∧ w.grownBy w' (some p) := by
  have hlt : ¬ (n : Int) < 1 := by omega
  have hlt2 : ¬ (n : Int) = 0 := by omega
  have hm : drawAt seed first u % n < n := Nat.mod_lt _ (by omega)
  go_enter Try.func15, Try.ntmps15
  go_wp2_with ((with_reducible refine (next_any p seed first u _ h hu).mono ?_); rintro e w' ⟨rfl, h', hg⟩)
  go_ret
  exact ⟨rfl, h', hg⟩

set_option maxHeartbeats 400000 in
theorem used_any (p : Nat) (fv : Value) (u : Nat) (w : World) (hp : w.heap[p]? = some (.cells #[fv, .int .i64 (u : Int)] 45 (0, 0))) :
    Calls Try.prog 22 #[.pointer (some ⟨p, 0, none⟩)] w fun e w' => e = .returned (.int .i64 (u : Int)) ∧ w = w' := by
  have c1 : w.cell? ⟨p, 1, none⟩ = some (.int .i64 (u : Int)) := by rw [cell_of_row w p 1 _ _ _ hp]; rfl
  go_enter Try.func22, Try.ntmps22
  go_wp2
  go_ret
  exact ⟨rfl, rfl⟩

set_option maxHeartbeats 400000 in
theorem copy_any (p : Nat) (f : Fn) (x y : Array Value) (u : Nat) (w : World) (hp : w.heap[p]? = some (.cells #[.func f x y, .int .i64 (u : Int)] 45 (0, 0))) :
    Calls Try.prog 20 #[.pointer (some ⟨p, 0, none⟩)] w fun e w' => e = .returned (.pointer (some ⟨w.heap.size, 0, none⟩)) ∧ w.alloc (.cells #[.func f x y, .int .i64 (u : Int)] 45) = w' := by
  have c0 : w.cell? ⟨p, 0, none⟩ = some (.func f x y) := by rw [cell_of_row w p 0 _ _ _ hp]; rfl
  have c1 : w.cell? ⟨p, 1, none⟩ = some (.int .i64 (u : Int)) := by rw [cell_of_row w p 1 _ _ _ hp]; rfl
  go_enter Try.func20, Try.ntmps20
  go_wp2
  go_ret
  exact ⟨rfl, rfl⟩

theorem Tape.used {w : World} {p seed : Nat} {first : List Nat} {u : Nat} (h : Tape w p seed first u) :
    Calls Try.prog 22 #[.pointer (some ⟨p, 0, none⟩)] w fun e w' => e = .returned (.int .i64 (u : Int)) ∧ w = w' := by
  obtain ⟨fv, hp, _⟩ := h
  exact used_any p fv u w hp

set_option maxHeartbeats 400000 in
theorem copy_nil (p : Nat) (u : Nat) (w : World) (hp : w.heap[p]? = some (.cells #[.nilFunc, .int .i64 (u : Int)] 45 (0, 0))) :
    Calls Try.prog 20 #[.pointer (some ⟨p, 0, none⟩)] w fun e w' => e = .returned (.pointer (some ⟨w.heap.size, 0, none⟩)) ∧ w.alloc (.cells #[.nilFunc, .int .i64 (u : Int)] 45) = w' := by
  have c0 : w.cell? ⟨p, 0, none⟩ = some .nilFunc := by rw [cell_of_row w p 0 _ _ _ hp]; rfl
  have c1 : w.cell? ⟨p, 1, none⟩ = some (.int .i64 (u : Int)) := by rw [cell_of_row w p 1 _ _ _ hp]; rfl
  go_enter Try.func20, Try.ntmps20
  go_wp2
  go_ret
  exact ⟨rfl, rfl⟩

/-- a copy: it has what the tape has; the tape stays -/
theorem Tape.copy {w : World} {p seed : Nat} {first : List Nat} {u : Nat} (h : Tape w p seed first u) :
    Calls Try.prog 20 #[.pointer (some ⟨p, 0, none⟩)] w fun e w' => ∃ c, e = .returned (.pointer (some ⟨c, 0, none⟩)) ∧ Tape w' c seed first u ∧ w.grownBy w' none ∧ w.heap.size ≤ c := by
  obtain ⟨fv, hp, ⟨rfl, rfl, rfl⟩ | hs⟩ := h
  · refine (copy_nil p u w hp).mono ?_
    rintro e w' ⟨rfl, rfl⟩
    exact ⟨_, rfl, ⟨_, heap_alloc_new _ _, .inl ⟨rfl, rfl, rfl⟩⟩, World.grownBy_alloc _ _ _, Nat.le_refl _⟩
  · obtain ⟨bf, bs, v, rfl, r⟩ := hs
    refine (copy_any p _ _ _ u w hp).mono ?_
    rintro e w' ⟨rfl, rfl⟩
    exact ⟨_, rfl, ⟨_, heap_alloc_new _ _, .inr (SrcOf.grown ⟨bf, bs, v, rfl, r⟩ (World.grownBy_alloc _ _ _))⟩, World.grownBy_alloc _ _ _, Nat.le_refl _⟩
end Go.Proofs.Ythjoadiagnngiaa
