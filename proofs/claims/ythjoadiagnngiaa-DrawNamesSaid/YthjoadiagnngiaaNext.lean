import Derived.Test.YthjoadiagnngiaaNew
import Derived.Deep.QuietTactic
import Derived.BigQuiet
import Derived.Laws.EntriesVeiled
namespace Go.Proofs.Ythjoadiagnngiaa
open Go.RowKit
set_option linter.unusedVariables false

theorem q_nilfn (w : World) : (binOp .eql 43 .nilFunc .nilFunc).run Try.prog w = .ok (.bool true) w := by kernel_rfl
theorem q_func (w : World) (f : Fn) (x y : Array Value) : (binOp .eql 43 (.func f x y) .nilFunc).run Try.prog w = .ok (.bool false) w := by kernel_rfl

theorem src_q (bf bs : Nat) (v : Value) (seed : Nat) (first : List Nat) (i : Nat) (w : World) (n : Nat)
    (hf : w.heap[bf]? = some (.cells #[v] 23 (0, 0))) (hb : w.heap[bs]? = some (.cells #[.int .u64 (seed : Int)] 22 (0, 0)))
    (ho : w.ownsRow 0 22 1 v first.length (first.map fun n : Nat => Value.int .u64 (n : Int))) (hi2 : i < 9223372036854775807) :
    Calls Try.prog 26 #[.int .i64 (i : Int), .pointer (some ⟨bf, 0, none⟩), .pointer (some ⟨bs, 0, none⟩)] (w.drewN n) fun e w' => e = .returned (.int .u64 (drawAt seed first i : Nat)) ∧ w' = w.drewN n :=
  (src_any bf bs v seed first i (w.drewN n) hf hb ho hi2).mono fun _ _ ⟨a, b⟩ => ⟨a, b.symm⟩

set_option maxHeartbeats 1000000 in
theorem next_src (p bf bs : Nat) (v : Value) (seed : Nat) (first : List Nat) (u : Nat) (w : World)
    (hp : w.heap[p]? = some (.cells #[clo bf bs, .int .i64 (u : Int)] 45 (0, 0)))
    (hf : w.heap[bf]? = some (.cells #[v] 23 (0, 0))) (hb : w.heap[bs]? = some (.cells #[.int .u64 (seed : Int)] 22 (0, 0)))
    (ho : w.ownsRow 0 22 1 v first.length (first.map fun n : Nat => Value.int .u64 (n : Int))) (hu : u < 4611686018427387904) :
    Calls Try.prog 13 #[.pointer (some ⟨p, 0, none⟩)] w fun e w' => e = .returned (.int .u64 (drawAt seed first u : Nat)) ∧ ∃ n, w' = (w.setCell ⟨p, 1, none⟩ (.int .i64 ((u : Int) + 1))).drewN n := by
  have hne : bf ≠ p := heap_ne hf hp (by decide)
  have hne2 : bs ≠ p := heap_ne hb hp (by decide)
  have c0 : w.cell? ⟨p, 0, none⟩ = some (clo bf bs) := by rw [cell_of_row w p 0 _ _ _ hp]; rfl
  have c1 : w.cell? ⟨p, 1, none⟩ = some (.int .i64 (u : Int)) := by rw [cell_of_row w p 1 _ _ _ hp]; rfl
  have f1 : w.frozen? ⟨p, 1, none⟩ = false := frozen_of_row w p 1 _ _ hp
  have hn := q_nilfn
  have hq := q_func
  have H : Hid (∀ n : Nat, Calls Try.prog 26 #[.int .i64 (u : Int), .pointer (some ⟨bf, 0, none⟩), .pointer (some ⟨bs, 0, none⟩)] ((w.setCell ⟨p, 1, none⟩ (.int .i64 ((u : Int) + 1))).drewN n) fun e w' => e = .returned (.int .u64 (drawAt seed first u : Nat)) ∧ w' = (w.setCell ⟨p, 1, none⟩ (.int .i64 ((u : Int) + 1))).drewN n) := by
    intro n
    exact src_q bf bs v seed first u _ n (by rw [heap_setCell_other _ _ _ _ hne]; exact hf) (by rw [heap_setCell_other _ _ _ _ hne2]; exact hb) (ownsRow_setCell_other ho (own_ne ho hp (by decide)) _) (by omega)
  clear hf hb ho hp
  go_enter Try.func13, Try.ntmps13
  go_wp2
  go_quiet ((go_at_call 26; exact Calls.quiet_of_same (H.out _)))
  go_wp2
  go_ret
  exact ⟨rfl, nq, rfl⟩

set_option maxHeartbeats 1000000 in
theorem next_nil (p : Nat) (u : Nat) (w : World)
    (hp : w.heap[p]? = some (.cells #[.nilFunc, .int .i64 (u : Int)] 45 (0, 0))) (hu : u < 4611686018427387904) :
    Calls Try.prog 13 #[.pointer (some ⟨p, 0, none⟩)] w fun e w' => e = .returned (.int .u64 (drawAt 0 [] u : Nat)) ∧
      ∃ n, w' = ((((w.setCell ⟨p, 0, none⟩ (clo (w.heap.size + 1) w.heap.size)).setCell ⟨p, 1, none⟩ (.int .i64 ((u : Int) + 1))).alloc (.cells #[.int .u64 0] 22)).alloc (.cells #[.slice none 0 0] 23)).drewN n := by
  have hlt := lt_of_block hp
  have c0 : w.cell? ⟨p, 0, none⟩ = some .nilFunc := by rw [cell_of_row w p 0 _ _ _ hp]; rfl
  have c1 : w.cell? ⟨p, 1, none⟩ = some (.int .i64 (u : Int)) := by rw [cell_of_row w p 1 _ _ _ hp]; rfl
  have f1 : w.frozen? ⟨p, 1, none⟩ = false := frozen_of_row w p 1 _ _ hp
  have f0 : w.frozen? ⟨p, 0, none⟩ = false := frozen_of_row w p 0 _ _ hp
  have hn := q_nilfn
  have hq := q_func
  have H : Hid (∀ n : Nat, Calls Try.prog 26 #[.int .i64 (u : Int), .pointer (some ⟨w.heap.size + 1, 0, none⟩), .pointer (some ⟨w.heap.size, 0, none⟩)] (((((w.setCell ⟨p, 0, none⟩ (clo (w.heap.size + 1) w.heap.size)).setCell ⟨p, 1, none⟩ (.int .i64 ((u : Int) + 1))).alloc (.cells #[.int .u64 0] 22)).alloc (.cells #[.slice none 0 0] 23)).drewN n) fun e w' => e = .returned (.int .u64 (drawAt 0 [] u : Nat)) ∧ w' = ((((w.setCell ⟨p, 0, none⟩ (clo (w.heap.size + 1) w.heap.size)).setCell ⟨p, 1, none⟩ (.int .i64 ((u : Int) + 1))).alloc (.cells #[.int .u64 0] 22)).alloc (.cells #[.slice none 0 0] 23)).drewN n) := by
    intro n
    refine src_q _ _ (.slice none 0 0) 0 [] u _ n ?_ ?_ (World.ownsRow_nil _ _ _ _) (by omega)
    · simpa using heap_alloc2_new ((w.setCell ⟨p, 0, none⟩ (clo (w.heap.size + 1) w.heap.size)).setCell ⟨p, 1, none⟩ (.int .i64 ((u : Int) + 1))) _ _
    · simpa using heap_alloc2_old ((w.setCell ⟨p, 0, none⟩ (clo (w.heap.size + 1) w.heap.size)).setCell ⟨p, 1, none⟩ (.int .i64 ((u : Int) + 1))) _ _
  clear hp
  go_enter Try.func13, Try.ntmps13
  go_wp2_with ((with_reducible refine (source_any _ _ _ _ _).mono ?_); rintro e w' ⟨rfl, rfl⟩)
  go_quiet ((go_at_call 26; exact Calls.quiet_of_same (H.out _)))
  go_wp2
  go_ret
  exact ⟨rfl, nq, rfl⟩

theorem SrcOf.kept {w w' : World} {fv : Value} {seed : Nat} {first : List Nat} {p : Nat} {cs : Array Value} {fr : Nat × Nat} (h : SrcOf w fv seed first) (hg : w.grownBy w' (some p))
    (hp : w.heap[p]? = some (.cells cs 45 fr)) : SrcOf w' fv seed first := by
  obtain ⟨bf, bs, v, rfl, hf, hb, ho, hs⟩ := h
  refine ⟨bf, bs, v, rfl, heap_kept hg hf (fun e => heap_ne hf hp (by decide) (by simpa using e)), heap_kept hg hb (fun e => heap_ne hb hp (by decide) (by simpa using e)), ho.kept hg (.inr (own_ne ho hp (by decide))), hs⟩
theorem SrcOf.grown {w w' : World} {fv : Value} {seed : Nat} {first : List Nat} (h : SrcOf w fv seed first) (hg : w.grownBy w' none) : SrcOf w' fv seed first := by
  obtain ⟨bf, bs, v, rfl, hf, hb, ho, hs⟩ := h
  refine ⟨bf, bs, v, rfl, heap_kept hg hf (by simp), heap_kept hg hb (by simp), ?_, hs⟩
  rcases hv : v.ownBlock with _ | g
  · exact ho.kept hg (.inl hv)
  · exact ho.kept hg (.inr (by rw [hv]; simp))
theorem Tape.grown {w w' : World} {p seed : Nat} {first : List Nat} {u : Nat} (h : Tape w p seed first u) (hg : w.grownBy w' none) : Tape w' p seed first u := by
  obtain ⟨fv, hp, h⟩ := h
  exact ⟨fv, heap_kept hg hp (by simp), h.imp id fun h => h.grown hg⟩
/-- another tape goes on: this one stays -/
theorem Tape.other {w w' : World} {p q seed : Nat} {first : List Nat} {u : Nat} {cs : Array Value} {fr : Nat × Nat} (h : Tape w p seed first u) (hg : w.grownBy w' (some q))
    (hq : w.heap[q]? = some (.cells cs 45 fr)) (hne : p ≠ q) : Tape w' p seed first u := by
  obtain ⟨fv, hp, h⟩ := h
  exact ⟨fv, heap_kept hg hp (fun e => hne (by simpa using e)), h.imp id fun h => h.kept hg hq⟩
theorem Tape.beside {w w' : World} {p q seed seed' : Nat} {first first' : List Nat} {u u' : Nat} (h : Tape w p seed first u) (hg : w.grownBy w' (some q)) (h' : Tape w q seed' first' u') (hne : p ≠ q) : Tape w' p seed first u := by
  obtain ⟨fv, hp, _⟩ := h'
  exact h.other hg hp hne

theorem next_any (p : Nat) (seed : Nat) (first : List Nat) (u : Nat) (w : World) (h : Tape w p seed first u) (hu : u < 4611686018427387904) :
    Calls Try.prog 13 #[.pointer (some ⟨p, 0, none⟩)] w fun e w' => e = .returned (.int .u64 (drawAt seed first u : Nat)) ∧ Tape w' p seed first (u + 1) ∧ w.grownBy w' (some p) := by
  obtain ⟨fv, hp, ⟨rfl, rfl, rfl⟩ | ⟨bf, bs, v, rfl, hf, hb, ho, hs⟩⟩ := h
  · refine (next_nil p u w hp hu).mono ?_
    rintro e w' ⟨rfl, n, rfl⟩
    have hlt := lt_of_block hp
    have hg : w.grownBy ((((w.setCell ⟨p, 0, none⟩ (clo (w.heap.size + 1) w.heap.size)).setCell ⟨p, 1, none⟩ (.int .i64 ((u : Int) + 1))).alloc (.cells #[.int .u64 0] 22)).alloc (.cells #[.slice none 0 0] 23)) (some p) :=
      grown_trans (grown_trans (grown_trans (grown_set _ _ _ _) (grown_set _ _ _ _)) (World.grownBy_alloc _ _ _)) (World.grownBy_alloc _ _ _)
    refine ⟨rfl, ⟨clo (w.heap.size + 1) w.heap.size, ?_, .inr ⟨_, _, .slice none 0 0, rfl, ?_, ?_, World.ownsRow_nil _ _ _ _, by decide⟩⟩, grown_trans hg (grown_drewN _ _ _)⟩
    · show (World.alloc (World.alloc _ _) _).heap[p]? = _
      rw [heap_alloc_old _ _ (by simp; omega), heap_alloc_old _ _ (by simpa using hlt)]
      rw [heap_setCell_same _ p 1 #[clo (w.heap.size + 1) w.heap.size, .int .i64 (u : Int)] 45 _ (by
        rw [heap_setCell_same _ p 0 #[.nilFunc, .int .i64 (u : Int)] 45 _ hp]; rfl)]
      simp
    · show (World.alloc _ _).heap[_]? = _
      simpa using heap_alloc2_new ((w.setCell ⟨p, 0, none⟩ (clo (w.heap.size + 1) w.heap.size)).setCell ⟨p, 1, none⟩ (.int .i64 ((u : Int) + 1))) _ _
    · show (World.alloc _ _).heap[_]? = _
      simpa using heap_alloc2_old ((w.setCell ⟨p, 0, none⟩ (clo (w.heap.size + 1) w.heap.size)).setCell ⟨p, 1, none⟩ (.int .i64 ((u : Int) + 1))) _ _
  · refine (next_src p bf bs v seed first u w hp hf hb ho hu).mono ?_
    rintro e w' ⟨rfl, n, rfl⟩
    have hg : w.grownBy ((w.setCell ⟨p, 1, none⟩ (.int .i64 ((u : Int) + 1))).drewN n) (some p) := grown_trans (grown_set _ _ _ _) (grown_drewN _ _ _)
    refine ⟨rfl, ⟨clo bf bs, ?_, .inr (SrcOf.kept ⟨bf, bs, v, rfl, hf, hb, ho, hs⟩ hg hp)⟩, hg⟩
    show (World.setCell _ _ _).heap[p]? = _
    rw [heap_setCell_same _ p 1 _ _ _ hp]
    simp
end Go.Proofs.Ythjoadiagnngiaa
