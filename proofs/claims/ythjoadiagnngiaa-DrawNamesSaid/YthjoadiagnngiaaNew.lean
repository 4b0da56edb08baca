import Derived.Test.YthjoadiagnngiaaSrc
import Derived.Test.YthjoadiagnngiaaBase
namespace Go.Proofs.Ythjoadiagnngiaa
open Go.RowKit
set_option linter.unusedVariables false

/-- a slice value that holds these cells, wherever they lie -/
def RowAt (w : World) (v : Value) (xs : List Value) : Prop :=
  (v = .slice none 0 0 ∧ xs = []) ∨ ∃ ad c, v = .slice (some ad) xs.length c ∧ (∀ j u, xs[j]? = some u → w.cell? (ad.add j) = some u)

set_option maxHeartbeats 400000 in
theorem source_any (seed : Int) (a : Option Addr) (n c : Nat) (w : World) :
    Calls Try.prog 23 #[.int .u64 seed, .slice a n c] w fun e w' => e = .returned (clo (w.heap.size + 1) w.heap.size) ∧ (w.alloc (.cells #[.int .u64 seed] 22)).alloc (.cells #[.slice a n c] 23) = w' := by
  go_enter Try.func23, Try.ntmps23
  go_wp2
  go_ret
  exact ⟨rfl, rfl⟩

theorem info_u64 : (Try.prog.info? 22).map (fun i => (i.zero, i.size, i.bytes)) = some (some (.int .u64 0), 1, 8) := by kernel_rfl

theorem q_nil (w : World) (a : Option Addr) (n c n' c' : Nat) : (binOp .eql 23 (.slice a n c) (.slice none n' c')).run Try.prog w = .ok (.bool a.isNone) w :=
  Lib.run_eql_slice_nil w _ _ a n c n' c' Try.underlying23

set_option maxHeartbeats 400000 in
theorem clone_nil (w : World) :
    Calls Try.prog 24 #[.slice none 0 0] w fun e w' => e = .returned (.slice none 0 0) ∧ w = w' := by
  have q := q_nil
  go_enter Try.func24, Try.ntmps24
  go_wp2
  go_ret
  exact ⟨rfl, rfl⟩

set_option maxHeartbeats 400000 in
theorem clone_some (ad : Addr) (n c : Nat) (xs : List Value) (w : World) (hn : xs.length = n) (hc : ∀ j u, xs[j]? = some u → w.cell? (ad.add j) = some u) (h1 : ∀ u ∈ xs, u.oneCell' = true)
    (hb : n * 8 ≤ 140737488355328) :
    Calls Try.prog 24 #[.slice (some ad) n c] w fun e w' => ∃ v', e = .returned v' ∧ w'.ownsRow w.heap.size 22 1 v' n xs ∧ w.grownBy w' none := by
  have q := q_nil
  have H := Lib.hid hc; clear hc
  have H1 := Lib.hid h1; clear h1
  have Hn := Lib.hid hn; clear hn
  obtain ⟨i0, hi, hz0, hz1, hz2⟩ := info_parts info_u64
  have hown : (w.alloc (.cells #[] 22)).ownsRow w.heap.size 22 1 (.slice (some ⟨w.heap.size, 0, none⟩) 0 0) 0 [] := World.ownsRow_made w #[] 0 (Nat.le_refl _) (by unfold maxLen; omega) rfl
  have hlen : n ≤ maxLen := by unfold maxLen; omega
  go_enter Try.func24, Try.ntmps24
  go_wp2_with (at_builtin; refine wpList_append_own _ rfl _ _ 23 rfl w.heap.size 22 i0 (.int .u64 0) 1 8 Try.underlying23 hi hz0 hz1 hz2 rfl (by decide) _ _ _ rfl hown ad n c xs rfl ?c0 ?c1 ?c2 ?c3 ?c4 ?c5 ?_)
  case c0 => rw [Nat.mul_one]; exact Hn.out
  case c1 => intro j u hj; rw [World.cell?_alloc_old _ _ _ (by have := World.block_lt_of_cell? _ _ (H.out j u hj); simp [Addr.add] at this ⊢; omega)]; exact H.out j u hj
  case c2 => exact H1.out
  case c3 => omega
  case c4 => omega
  case c5 => simp
  · intro v' w1 hown' hgrow hiff
    go_wp2
    go_ret
    exact ⟨v', rfl, by simpa using hown', grown_new (World.grownBy_alloc w _ none) hgrow (Nat.le_refl _)⟩

/-- a tape: its block; the closure in it, or none, of which seed 0 and no numbers are -/
def Tape (w : World) (p : Nat) (seed : Nat) (first : List Nat) (used : Nat) : Prop :=
  ∃ fv, w.heap[p]? = some (.cells #[fv, .int .i64 (used : Int)] 45 (0, 0)) ∧ ((fv = .nilFunc ∧ seed = 0 ∧ first = []) ∨ SrcOf w fv seed first)

def u64s (l : List Nat) : List Value := l.map fun n : Nat => Value.int .u64 (n : Int)
theorem u64s_len (l : List Nat) : (u64s l).length = l.length := by simp [u64s]
theorem u64s_one (l : List Nat) : ∀ u ∈ u64s l, u.oneCell' = true := by
  intro u hu; obtain ⟨n, _, rfl⟩ := List.mem_map.1 hu; rfl

set_option maxHeartbeats 400000 in
theorem new_nil (seed : Nat) (w : World) (hs : seed < 18446744073709551616) :
    Calls Try.prog 11 #[.int .u64 (seed : Int), .slice none 0 0] w fun e w' => ∃ p, e = .returned (.pointer (some ⟨p, 0, none⟩)) ∧ Tape w' p seed [] 0 ∧ w.grownBy w' none ∧ w.heap.size ≤ p := by
  go_enter Try.func11, Try.ntmps11
  go_wp2_with (first | ((with_reducible refine (clone_nil _).mono ?_); rintro e w' ⟨rfl, rfl⟩) | ((with_reducible refine (source_any _ _ _ _ _).mono ?_); rintro e w' ⟨rfl, rfl⟩))
  go_ret
  refine ⟨w.heap.size + 1 + 1, rfl, ⟨_, heap3_c _ _ _ _, .inr ⟨w.heap.size + 1, w.heap.size, .slice none 0 0, rfl, ?_, ?_, World.ownsRow_nil _ _ _ _, hs⟩⟩, ?_, by omega⟩
  · exact heap3_b _ _ _ _
  · exact heap3_a _ _ _ _
  · exact grown_trans (grown_trans (World.grownBy_alloc _ _ _) (World.grownBy_alloc _ _ _)) (World.grownBy_alloc _ _ _)

set_option maxHeartbeats 400000 in
theorem new_some (seed : Nat) (first : List Nat) (ad : Addr) (c : Nat) (w : World) (hs : seed < 18446744073709551616) (hc : ∀ j u, (u64s first)[j]? = some u → w.cell? (ad.add j) = some u) (hb : first.length ≤ 100000) :
    Calls Try.prog 11 #[.int .u64 (seed : Int), .slice (some ad) first.length c] w fun e w' => ∃ p, e = .returned (.pointer (some ⟨p, 0, none⟩)) ∧ Tape w' p seed first 0 ∧ w.grownBy w' none ∧ w.heap.size ≤ p := by
  have H := Lib.hid hc; clear hc
  go_enter Try.func11, Try.ntmps11
  go_wp2_with (first | ((with_reducible refine (clone_some ad first.length c (u64s first) _ (u64s_len _) H.out (u64s_one _) (by omega)).mono ?_); rintro e w1 ⟨v', rfl, hown, hg⟩; obtain ⟨a', c', rfl⟩ := own_shape hown) | ((with_reducible refine (source_any _ _ _ _ _).mono ?_); rintro e w' ⟨rfl, rfl⟩))
  go_ret
  have hz := hg.size
  refine ⟨w1.heap.size + 1 + 1, rfl, ⟨_, heap3_c _ _ _ _, .inr ⟨w1.heap.size + 1, w1.heap.size, .slice a' first.length c', rfl, ?_, ?_, ?_, hs⟩⟩, ?_, by omega⟩
  · exact heap3_b _ _ _ _
  · exact heap3_a _ _ _ _
  · exact own_base (((hown.alloc _).alloc _).alloc _) (Nat.zero_le _)
  · exact grown_trans (grown_trans (grown_trans hg (World.grownBy_alloc _ _ _)) (World.grownBy_alloc _ _ _)) (World.grownBy_alloc _ _ _)
end Go.Proofs.Ythjoadiagnngiaa
