import Derived.Test.YthjoadiagnngiaaRow
namespace Go.Proofs.Ythjoadiagnngiaa
open Go.RowKit
set_option linter.unusedVariables false

theorem next_none (w : World) : Calls Try.prog 13 #[.pointer none] w fun e w' => e = .returned (.int .u64 0) ∧ w = w' := by
  go_enter Try.func13, Try.ntmps13
  go_wp2
  go_ret
  exact ⟨rfl, rfl⟩
theorem below_none (n : Int) (w : World) : Calls Try.prog 15 #[.pointer none, .int .i64 n] w fun e w' => e = .returned (.int .i64 0) ∧ w = w' := by
  go_enter Try.func15, Try.ntmps15
  go_wp2
  go_ret
  exact ⟨rfl, rfl⟩
theorem shuffle_none (n : Int) (w : World) : Calls Try.prog 17 #[.pointer none, .int .i64 n] w fun e w' => e = .returned (.slice none 0 0) ∧ w = w' := by
  go_enter Try.func17, Try.ntmps17
  go_wp2
  go_ret
  exact ⟨rfl, rfl⟩
theorem used_none (w : World) : Calls Try.prog 22 #[.pointer none] w fun e w' => e = .returned (.int .i64 0) ∧ w = w' := by
  go_enter Try.func22, Try.ntmps22
  go_wp2
  go_ret
  exact ⟨rfl, rfl⟩
theorem copy_none (w : World) : Calls Try.prog 20 #[.pointer none] w fun e w' => e = .returned (.pointer none) ∧ w = w' := by
  go_enter Try.func20, Try.ntmps20
  go_wp2
  go_ret
  exact ⟨rfl, rfl⟩
theorem q_slice (w : World) (a : Option Addr) (n c n' c' : Nat) : (binOp .neq 34 (.slice a n c) (.slice none n' c')).run Try.prog w = .ok (.bool (!a.isNone)) w :=
  run_neq_slice_nil_any w _ _ a n c n' c' Try.underlying34

set_option maxRecDepth 100000 in
set_option maxHeartbeats 4000000 in
theorem names_any (w : World) :
    Calls Try.prog 4 #[] w fun e w' => e = .returned (.bool true) ∧ Below w.heap.size w w' := by
  have qs := q_slice
  go_enter Try.func4, Try.ntmps4
  go_wp2_with fail
  refine (awake_any _).mono ?_
  rintro e w1 ⟨rfl, hb1⟩
  go_wp2_with fail
  refine (new_some 1 [18446744073709551615] ⟨w1.heap.size, 0, none⟩ 1 _ (by decide) ?_ (by decide)).mono ?_
  · intro j u hj
    match j, hj with
    | 0, hj => simp [u64s] at hj; subst hj; simp [Addr.add, go_sem]
  rintro e w2 ⟨p, rfl, h2, hg2, hp2⟩
  have b2 := bl_none (bl_alloc hb1 _) hg2
  have hpw := bl_le (bl_alloc hb1 _) hp2
  go_wp2_with fail
  refine (below_zero p 0 _ (by omega)).mono ?_
  rintro e w3 ⟨rfl, rfl⟩
  go_wp2_with fail
  refine (below_zero p (-5) _ (by omega)).mono ?_
  rintro e w3 ⟨rfl, rfl⟩
  go_wp2_with fail
  refine (shuffle_no p 0 _ (by omega)).mono ?_
  rintro e w3 ⟨rfl, rfl⟩
  go_wp2_with fail
  refine (shuffle_no p (-1) _ (by omega)).mono ?_
  rintro e w3 ⟨rfl, rfl⟩
  go_wp2_with fail
  refine (shuffle_no p 257 _ (by omega)).mono ?_
  rintro e w3 ⟨rfl, rfl⟩
  go_wp2_with fail
  refine (shuffle_no p 4611686018427387904 _ (by omega)).mono ?_
  rintro e w3 ⟨rfl, rfl⟩
  go_wp2_with fail
  refine (h2.used).mono ?_
  rintro e w3 ⟨rfl, rfl⟩
  go_wp2_with fail
  refine (shuffle_val p 1 1 1 [18446744073709551615] 0 [0] _ h2 (by omega) (by decide) (by decide) rfl (by decide)).mono ?_
  rintro e w3 ⟨g, rfl, hown, h3, hg3⟩
  have b3 := bl_some b2 hg3 hpw
  go_wp2_with fail
  refine (ints_any _ _ [0] [0] _ (IntsAt.of_own (hown.alloc _) rfl) (IntsAt.of_own (World.ownsRow_lit (base := 0) (size := 1) w3 #[.int .i64 0] 1 (Nat.zero_le _) (by decide) rfl) rfl) (by decide)).mono ?_
  rintro e wf ⟨rfl, m, rfl⟩
  have h4 := (h3.grown (World.grownBy_alloc w3 (.cells #[.int .i64 0] 3) none)).drewN m
  have b4 := bl_drewN (bl_alloc b3 (.cells #[.int .i64 0] 3)) m
  have h4 : Tape _ p 1 [18446744073709551615] 0 := h4
  generalize (w3.alloc (.cells #[.int .i64 0] 3)).drewN m = w4 at h4 b4 ⊢
  clear b2 b3 h2 h3 hg2 hg3 hown hp2 hb1
  go_wp2_with fail
  refine (h4.used).mono ?_
  rintro e w5 ⟨rfl, rfl⟩
  go_wp2_with fail
  refine (below_val p 1 1 0 1 [18446744073709551615] 0 _ h4 (by omega) (by decide) (by decide) rfl (by decide)).mono ?_
  rintro e w5 ⟨rfl, h5, hg5⟩
  have h5 : Tape _ p 1 [18446744073709551615] 1 := h5
  have b5 := bl_some b4 hg5 hpw
  go_wp2_with fail
  refine (h5.used).mono ?_
  rintro e w6 ⟨rfl, rfl⟩
  go_wp2_with fail
  refine (shuffle_val p 256 256 1 [18446744073709551615] 1 _ _ h5 (by omega) (by decide) (by decide) rfl rfl).mono ?_
  rintro e w6 ⟨g6, rfl, _, h6, hg6⟩
  have h6 : Tape _ p 1 [18446744073709551615] 256 := h6
  have b6 := bl_some b5 hg6 hpw
  go_wp2_with fail
  refine (h6.used).mono ?_
  rintro e w7 ⟨rfl, rfl⟩
  go_wp2_with fail
  refine (new_some 0 [18446744073709551615] ⟨w6.heap.size, 0, none⟩ 1 _ (by decide) ?_ (by decide)).mono ?_
  · intro j u hj
    match j, hj with
    | 0, hj => simp [u64s] at hj; subst hj; simp [Addr.add, go_sem]
  rintro e w7 ⟨q, rfl, h7, hg7, hq⟩
  have b7 := bl_none (bl_alloc b6 _) hg7
  have hqw := bl_le (bl_alloc b6 _) hq
  go_wp2_with fail
  refine (below_val q 4611686018427387904 4611686018427387904 4611686018427387903 0 [18446744073709551615] 0 _ h7 (by omega) (by decide) (by decide) rfl (by decide +kernel)).mono ?_
  rintro e w8 ⟨rfl, h8, hg8⟩
  have b8 := bl_some b7 hg8 hqw
  clear b4 b5 b6 b7 h5 h6 h7 h8 hg5 hg6 hg7 hg8 h4
  have h9 : Tape (w8.alloc (.cells #[.nilFunc, .int .i64 0] 45)) w8.heap.size 0 [] 0 := ⟨.nilFunc, heap_alloc_new _ _, .inl ⟨rfl, rfl, rfl⟩⟩
  have b9 := bl_alloc b8 (.cells #[.nilFunc, .int .i64 0] 45)
  have hrw := b8.size
  go_wp2_with fail
  refine (next_val w8.heap.size 0 [] 0 16294208416658607535 _ h9 (by omega) (by decide +kernel)).mono ?_
  rintro e w10 ⟨rfl, h10, hg10⟩
  have h10 : Tape _ w8.heap.size 0 [] 1 := h10
  have b10 := bl_some b9 hg10 hrw
  go_wp2_with fail
  refine (h10.used).mono ?_
  rintro e w11 ⟨rfl, rfl⟩
  go_wp2_with fail
  refine (next_none _).mono ?_
  rintro e w11 ⟨rfl, rfl⟩
  go_wp2_with fail
  refine (below_none _ _).mono ?_
  rintro e w11 ⟨rfl, rfl⟩
  go_wp2_with fail
  refine (shuffle_none _ _).mono ?_
  rintro e w11 ⟨rfl, rfl⟩
  go_wp2_with fail
  refine (used_none _).mono ?_
  rintro e w11 ⟨rfl, rfl⟩
  go_wp2_with fail
  refine (copy_none _).mono ?_
  rintro e w11 ⟨rfl, rfl⟩
  go_wp2
  go_ret
  exact ⟨rfl, b10⟩
end Go.Proofs.Ythjoadiagnngiaa
