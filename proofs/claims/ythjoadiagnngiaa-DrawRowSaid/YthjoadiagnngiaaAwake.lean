import Derived.Test.YthjoadiagnngiaaInts
namespace Go.Proofs.Ythjoadiagnngiaa
open Go.RowKit
set_option linter.unusedVariables false

theorem next_val (p : Nat) (seed : Nat) (first : List Nat) (u : Nat) (X : Int) (w : World) (h : Tape w p seed first u) (hu : u < 4611686018427387904) (hX : ((drawAt seed first u : Nat) : Int) = X) :
    Calls Try.prog 13 #[.pointer (some ⟨p, 0, none⟩)] w fun e w' => e = .returned (.int .u64 X) ∧ Tape w' p seed first (u + 1) ∧ w.grownBy w' (some p) := by
  subst hX; exact next_any p seed first u w h hu
theorem below_val (p : Nat) (n : Nat) (N X : Int) (seed : Nat) (first : List Nat) (u : Nat) (w : World) (h : Tape w p seed first u) (hu : u < 4611686018427387904) (hn : 1 ≤ n) (hn2 : n < 9223372036854775808) (hN : N = (n : Int)) (hX : ((drawAt seed first u % n : Nat) : Int) = X) :
    Calls Try.prog 15 #[.pointer (some ⟨p, 0, none⟩), .int .i64 N] w fun e w' => e = .returned (.int .i64 X) ∧ Tape w' p seed first (u + 1) ∧ w.grownBy w' (some p) := by
  subst hX hN; exact below_any p n seed first u w h hu hn hn2
theorem shuffle_val (p : Nat) (n : Nat) (N : Int) (seed : Nat) (first : List Nat) (u : Nat) (l : List Nat) (w : World) (h : Tape w p seed first u) (hu : u < 4611686018427387000) (hn : 1 ≤ n) (hn2 : n ≤ 256) (hN : N = (n : Int)) (hl : shuf (drawAt seed first) u (n - 1) (List.range n) = l) :
    Calls Try.prog 17 #[.pointer (some ⟨p, 0, none⟩), .int .i64 N] w fun e w' => ∃ g, e = .returned (.slice (some ⟨g, 0, none⟩) n n) ∧
      w'.ownsRow w.heap.size 3 1 (.slice (some ⟨g, 0, none⟩) n n) n (i64s l) ∧ Tape w' p seed first (u + (n - 1)) ∧ w.grownBy w' (some p) := by
  subst hl hN; exact shuffle_any p n seed first u w h hu hn hn2

set_option maxHeartbeats 2000000 in
theorem awake_any (w : World) :
    Calls Try.prog 10 #[] w fun e w' => e = .returned (.bool true) ∧ Below w.heap.size w w' := by
  go_enter Try.func10, Try.ntmps10
  go_wp2_with fail
  refine (new_some 0 [7, 9] ⟨w.heap.size, 0, none⟩ 2 _ (by decide) ?_ (by decide)).mono ?_
  · intro j u hj
    match j, hj with
    | 0, hj => simp [u64s] at hj; subst hj; simp [Addr.add, go_sem]
    | 1, hj => simp [u64s] at hj; subst hj; simp [Addr.add, go_sem]
  rintro e w1 ⟨p, rfl, h1, hg1, hp1⟩
  go_wp2_with fail
  refine (next_val p 0 [7, 9] 0 7 _ h1 (by omega) (by decide)).mono ?_
  rintro e w2 ⟨rfl, h2, hg2⟩
  go_wp2_with fail
  refine (next_val p 0 [7, 9] 1 9 _ h2 (by omega) (by decide)).mono ?_
  rintro e w3 ⟨rfl, h3, hg3⟩
  go_wp2_with fail
  refine (next_val p 0 [7, 9] 2 16294208416658607535 _ h3 (by omega) (by decide +kernel)).mono ?_
  rintro e w4 ⟨rfl, h4, hg4⟩
  go_wp2_with fail
  refine (next_val p 0 [7, 9] 3 7960286522194355700 _ h4 (by omega) (by decide +kernel)).mono ?_
  rintro e w5 ⟨rfl, h5, hg5⟩
  go_wp2_with fail
  refine (new_some 0 [47] ⟨w5.heap.size, 0, none⟩ 1 _ (by decide) ?_ (by decide)).mono ?_
  · intro j u hj
    match j, hj with
    | 0, hj => simp [u64s] at hj; subst hj; simp [Addr.add, go_sem]
  rintro e w6 ⟨q, rfl, h6, hg6, hp6⟩
  go_wp2_with fail
  refine (below_val q 10 10 7 0 [47] 0 _ h6 (by omega) (by decide) (by decide) rfl (by decide)).mono ?_
  rintro e w7 ⟨rfl, h7, hg7⟩
  go_wp2_with fail
  refine (new_some 0 [0, 0] ⟨w7.heap.size, 0, none⟩ 2 _ (by decide) ?_ (by decide)).mono ?_
  · intro j u hj
    match j, hj with
    | 0, hj => simp [u64s] at hj; subst hj; simp [Addr.add, go_sem]
    | 1, hj => simp [u64s] at hj; subst hj; simp [Addr.add, go_sem]
  rintro e w8 ⟨s, rfl, h8, hg8, hp8⟩
  go_wp2_with fail
  refine (shuffle_val s 3 3 0 [0, 0] 0 [1, 2, 0] _ h8 (by omega) (by decide) (by decide) rfl (by decide)).mono ?_
  rintro e w9 ⟨g, rfl, hown, h9, hg9⟩
  go_wp2_with fail
  refine (ints_any _ _ [1, 2, 0] [1, 2, 0] _ (IntsAt.of_own (hown.alloc _) rfl) (IntsAt.of_own (World.ownsRow_lit (base := 0) (size := 1) w9 #[.int .i64 1, .int .i64 2, .int .i64 0] 3 (Nat.zero_le _) (by decide) rfl) rfl) (by decide)).mono ?_
  rintro e wf ⟨rfl, m, rfl⟩
  go_wp2
  go_ret
  have b0 := bl_alloc (Below.refl w.heap.size w) (.cells #[.int .u64 7, .int .u64 9] 22)
  have b1 := bl_none b0 hg1
  have lp := bl_le b0 hp1
  have b5 := bl_some (bl_some (bl_some (bl_some b1 hg2 lp) hg3 lp) hg4 lp) hg5 lp
  have b6 := bl_alloc b5 (.cells #[.int .u64 47] 22)
  have lq := bl_le b6 hp6
  have b7 := bl_some (bl_none b6 hg6) hg7 lq
  have b8 := bl_alloc b7 (.cells #[.int .u64 0, .int .u64 0] 22)
  have ls := bl_le b8 hp8
  have b9 := bl_some (bl_none b8 hg8) hg9 ls
  exact ⟨rfl, bl_drewN (bl_alloc b9 _) _⟩
end Go.Proofs.Ythjoadiagnngiaa
