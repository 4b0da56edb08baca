import Derived.Test.YthjoadiagnngiaaMix
namespace Go.Proofs.Ythjoadiagnngiaa
open Go.RowKit
set_option linter.unusedVariables false

/-- the draw at an index -/
def drawAt (seed : Nat) (first : List Nat) (i : Nat) : Nat :=
  if i < first.length then first.getD i 0 else mixN ((seed + (i - first.length + 1) * st) % 18446744073709551616)

/-- the closure's world: the boxes of the slice and the seed -/
abbrev clo (bf bs : Nat) : Value := .func (.func 26) #[] #[.pointer (some ⟨bf, 0, none⟩), .pointer (some ⟨bs, 0, none⟩)]

theorem mix_int (x : Int) (w : World) (h0 : 0 ≤ x) (h1 : x < 18446744073709551616) :
    Calls Try.prog 27 #[.int .u64 x] w fun e w' => e = .returned (.int .u64 (mixN x.toNat : Nat)) ∧ w = w' := by
  obtain ⟨n, rfl⟩ := Int.eq_ofNat_of_zero_le h0
  exact mix_any n w (by omega)

theorem seed_step (seed n i : Nat) (hi : n ≤ i) :
    (IntKind.u64.wrap ((seed : Int) + IntKind.u64.wrap (((i : Int) - (n : Int) + 1) * 11400714819323198485))).toNat = (seed + (i - n + 1) * st) % 18446744073709551616 := by
  rw [IntKind.wrap_u64, IntKind.wrap_u64]
  unfold st
  omega

theorem wrap_u64_range (x : Int) : 0 ≤ IntKind.u64.wrap x ∧ IntKind.u64.wrap x < 18446744073709551616 := by
  rw [IntKind.wrap_u64]; omega

set_option maxHeartbeats 400000 in
theorem src_tail (bf bs : Nat) (a : Option Addr) (n cap i : Nat) (seed : Nat) (w : World)
    (hf : w.cell? ⟨bf, 0, none⟩ = some (.slice a n cap)) (hb : w.cell? ⟨bs, 0, none⟩ = some (.int .u64 (seed : Int))) (hi : n ≤ i) (hi2 : i < 9223372036854775807) :
    Calls Try.prog 26 #[.int .i64 (i : Int), .pointer (some ⟨bf, 0, none⟩), .pointer (some ⟨bs, 0, none⟩)] w fun e w' => e = .returned (.int .u64 (mixN ((seed + (i - n + 1) * st) % 18446744073709551616) : Nat)) ∧ w = w' := by
  have hlt : ¬ ((i : Int) < (n : Int)) := by omega
  have HE : Hid ((IntKind.u64.wrap ((seed : Int) + IntKind.u64.wrap (((i : Int) - (n : Int) + 1) * 11400714819323198485))).toNat = (seed + (i - n + 1) * st) % 18446744073709551616) := seed_step seed n i hi
  go_enter Try.func26, Try.ntmps26
  go_wp2_with ((with_reducible refine (mix_int _ _ (wrap_u64_range _).1 (wrap_u64_range _).2).mono ?_); rintro e w' ⟨rfl, rfl⟩)
  go_ret
  exact ⟨congrArg (fun z : Nat => Ending.returned (.int .u64 (mixN z : Nat))) HE.out, rfl⟩

set_option maxHeartbeats 400000 in
theorem src_head (bf bs g : Nat) (n cap i : Nat) (x : Nat) (w : World)
    (hf : w.cell? ⟨bf, 0, none⟩ = some (.slice (some ⟨g, 0, none⟩) n cap)) (hi : i < n) (hx : w.cell? ⟨g, i, none⟩ = some (.int .u64 (x : Int))) :
    Calls Try.prog 26 #[.int .i64 (i : Int), .pointer (some ⟨bf, 0, none⟩), .pointer (some ⟨bs, 0, none⟩)] w fun e w' => e = .returned (.int .u64 (x : Int)) ∧ w = w' := by
  have hlt : ((i : Int) < (n : Int)) := by omega
  go_enter Try.func26, Try.ntmps26
  go_wp2
  go_ret
  exact ⟨rfl, rfl⟩

/-- a closure that continues 'first' by 'seed' -/
def SrcOf (w : World) (fv : Value) (seed : Nat) (first : List Nat) : Prop :=
  ∃ bf bs v, fv = clo bf bs ∧ w.heap[bf]? = some (.cells #[v] 23 (0, 0)) ∧ w.heap[bs]? = some (.cells #[.int .u64 (seed : Int)] 22 (0, 0)) ∧
    w.ownsRow 0 22 1 v first.length (first.map fun n : Nat => Value.int .u64 (n : Int)) ∧ seed < 18446744073709551616

theorem src_any (bf bs : Nat) (v : Value) (seed : Nat) (first : List Nat) (i : Nat) (w : World)
    (hf : w.heap[bf]? = some (.cells #[v] 23 (0, 0))) (hb : w.heap[bs]? = some (.cells #[.int .u64 (seed : Int)] 22 (0, 0)))
    (ho : w.ownsRow 0 22 1 v first.length (first.map fun n : Nat => Value.int .u64 (n : Int))) (hi2 : i < 9223372036854775807) :
    Calls Try.prog 26 #[.int .i64 (i : Int), .pointer (some ⟨bf, 0, none⟩), .pointer (some ⟨bs, 0, none⟩)] w fun e w' => e = .returned (.int .u64 (drawAt seed first i : Nat)) ∧ w = w' := by
  have hf' := cell_of_one hf
  have hb' := cell_of_one hb
  by_cases h : i < first.length
  · have e : drawAt seed first i = first.getD i 0 := by unfold drawAt; rw [if_pos h]
    rw [e]
    rcases ho.2 with ⟨_, h0⟩ | ⟨g, cap, cur, rfl, _⟩
    · omega
    · refine src_head bf bs g first.length cap i _ w hf' h ?_
      rw [ho.cellAt i (by omega)]
      simp [List.getElem?_map, List.getElem?_eq_getElem h]
  · have e : drawAt seed first i = mixN ((seed + (i - first.length + 1) * st) % 18446744073709551616) := by unfold drawAt; rw [if_neg h]
    rw [e]
    rcases ho.2 with ⟨rfl, h0⟩ | ⟨g, cap, cur, rfl, _⟩
    · rw [h0]
      exact src_tail bf bs none 0 0 i seed w hf' hb' (by omega) hi2
    · exact src_tail bf bs _ first.length cap i seed w hf' hb' (by omega) hi2
end Go.Proofs.Ythjoadiagnngiaa
