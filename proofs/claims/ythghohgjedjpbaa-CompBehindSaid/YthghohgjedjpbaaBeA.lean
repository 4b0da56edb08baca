/-
  What stands behind, and what is cut off.
-/
import Derived.Test.YthghohgjedjpbaaAsA
namespace Go.Proofs.Ythghohgjedjpbaa
open Go.RowKit
set_option linter.unusedVariables false
set_option linter.unusedSimpArgs false


set_option maxRecDepth 100000
/-! what stands behind, and what is cut off -/
theorem rd_fail {l : List Nat} : ∀ (f at_ ah nx : Nat) (n : List Nat) (v : RdV), rd l f at_ ah nx n = some v → v.2.2 ≠ 0 → v.1 = [] ∧ v.2.1 = 0
  | 0, at_, ah, nx, n, v, hr, hv => by cases hr
  | f + 1, at_, ah, nx, n, v, hr, hv => by
    unfold rd at hr
    split at hr
    · cases hr; exact ⟨rfl, rfl⟩
    split at hr
    · cases hr; exact absurd rfl hv
    split at hr
    · split at hr
      · cases hr; exact ⟨rfl, rfl⟩
      split at hr
      · cases hr; exact ⟨rfl, rfl⟩
      · exact rd_fail f _ _ _ _ _ hr hv
    split at hr
    · cases hr; exact ⟨rfl, rfl⟩
    split at hr
    · cases hr; exact ⟨rfl, rfl⟩
    split at hr
    · cases hr; exact ⟨rfl, rfl⟩
    · exact rd_fail f _ _ _ _ _ hr hv
theorem getD_app {l m : List Nat} {i : Nat} (h : i < l.length) : (l ++ m).getD i 0 = l.getD i 0 := by
  rw [List.getD_eq_getElem?_getD, List.getElem?_append_left h, List.getD_eq_getElem?_getD]
theorem seg_app {l m : List Nat} {a k : Nat} (h : a + k ≤ l.length) : seg (l ++ m) a k = seg l a k := by
  unfold seg
  rw [List.drop_append_of_le_length (by omega), List.take_append_of_le_length (by rw [List.length_drop]; omega)]
theorem rd_more {l m : List Nat} : ∀ (f at_ ah nx : Nat) (n : List Nat) (v : RdV), rd l f at_ ah nx n = some v → v.2.2 = 0 → rd (l ++ m) f at_ ah nx n = some v
  | 0, at_, ah, nx, n, v, hr, hv => by cases hr
  | f + 1, at_, ah, nx, n, v, hr, hv => by
    have hl : (l ++ m).length = l.length + m.length := List.length_append ..
    unfold rd at hr
    split at hr
    · cases hr; cases hv
    rename_i h1
    have g0 := getD_app (m := m) (show at_ < l.length by omega)
    unfold rd
    rw [if_neg (show ¬ (l ++ m).length ≤ at_ by omega), g0]
    split at hr
    · rename_i h2; rw [if_pos h2]; exact hr
    rename_i h2
    rw [if_neg h2]
    split at hr
    · rename_i h3
      rw [if_pos h3]
      split at hr
      · cases hr; cases hv
      rename_i h4
      rw [if_neg (show ¬ (l ++ m).length ≤ at_ + 1 by omega), getD_app (m := m) (show at_ + 1 < l.length by omega)]
      split at hr
      · cases hr; cases hv
      rename_i h5
      rw [if_neg h5]
      exact rd_more f _ _ _ _ _ hr hv
    rename_i h3
    rw [if_neg h3]
    split at hr
    · cases hr; cases hv
    rename_i h4
    rw [if_neg h4]
    split at hr
    · cases hr; cases hv
    rename_i h5
    rw [if_neg (show ¬ (l ++ m).length < at_ + 1 + l.getD at_ 0 by omega)]
    split at hr
    · cases hr; cases hv
    rename_i h6
    rw [if_neg h6, seg_app (by omega)]
    exact rd_more f _ _ _ _ _ hr hv
/-- of less of a message the same is read, or it is too short -/
theorem rd_less {l m : List Nat} : ∀ (f at_ ah nx : Nat) (n : List Nat) (v : RdV), rd (l ++ m) f at_ ah nx n = some v → v.2.2 = 0 → rd l f at_ ah nx n = some v ∨ rd l f at_ ah nx n = some ([], 0, 4)
  | 0, at_, ah, nx, n, v, hr, hv => by cases hr
  | f + 1, at_, ah, nx, n, v, hr, hv => by
    have hl : (l ++ m).length = l.length + m.length := List.length_append ..
    by_cases h0 : l.length ≤ at_
    · right; unfold rd; rw [if_pos h0]
    have g0 := getD_app (m := m) (show at_ < l.length by omega)
    unfold rd at hr
    rw [if_neg (show ¬ (l ++ m).length ≤ at_ by omega), g0] at hr
    unfold rd
    rw [if_neg h0]
    split at hr
    · rename_i h2; rw [if_pos h2]; exact .inl hr
    rename_i h2
    rw [if_neg h2]
    split at hr
    · rename_i h3
      rw [if_pos h3]
      by_cases h4 : l.length ≤ at_ + 1
      · rw [if_pos h4]; exact .inr rfl
      rw [if_neg (show ¬ (l ++ m).length ≤ at_ + 1 by omega), getD_app (m := m) (show at_ + 1 < l.length by omega)] at hr
      rw [if_neg h4]
      split at hr
      · cases hr; cases hv
      rename_i h5
      rw [if_neg h5]
      exact rd_less f _ _ _ _ _ hr hv
    rename_i h3
    rw [if_neg h3]
    split at hr
    · cases hr; cases hv
    rename_i h4
    rw [if_neg h4]
    by_cases h5 : l.length < at_ + 1 + l.getD at_ 0
    · rw [if_pos h5]; exact .inr rfl
    rw [if_neg (show ¬ (l ++ m).length < at_ + 1 + l.getD at_ 0 by omega)] at hr
    rw [if_neg h5]
    split at hr
    · cases hr; cases hv
    rename_i h6
    rw [seg_app (by omega)] at hr
    rw [if_neg h6]
    exact rd_less f _ _ _ _ _ hr hv
/-- once it is known what is behind, it stays; and the name then goes on by a name -/
theorem rd_tail {l : List Nat} : ∀ (f at_ ah nx : Nat) (n : List Nat) (v : RdV), rd l f at_ ah nx n = some v → v.2.2 = 0 → nx ≠ 0 → v.2.1 = nx ∧ ∃ L : List (List Nat), v.1 = n ++ wire L ∧ ∀ x ∈ L, x ≠ []
  | 0, at_, ah, nx, n, v, hr, hv, hnx => by cases hr
  | f + 1, at_, ah, nx, n, v, hr, hv, hnx => by
    unfold rd at hr
    split at hr
    · cases hr; cases hv
    rename_i h1
    split at hr
    · cases hr
      exact ⟨(by first | rfl | exact if_neg hnx), [], rfl, fun x hx => by cases hx⟩
    rename_i h2
    split at hr
    · split at hr
      · cases hr; cases hv
      split at hr
      · cases hr; cases hv
      · try rw [if_neg hnx] at hr
        exact rd_tail f _ _ _ _ _ hr hv hnx
    split at hr
    · cases hr; cases hv
    split at hr
    · cases hr; cases hv
    rename_i h5
    split at hr
    · cases hr; cases hv
    · obtain ⟨q1, L, q2, q3⟩ := rd_tail f _ _ _ _ _ hr hv hnx
      have hs := seg_cons (l := l) (a := at_) (k := l.getD at_ 0) (by omega)
      have hx : ((l.drop (at_ + 1)).take (l.getD at_ 0)).length = l.getD at_ 0 := by rw [List.length_take, List.length_drop]; omega
      refine ⟨q1, (l.drop (at_ + 1)).take (l.getD at_ 0) :: L, ?_, fun y hy => ?_⟩
      · rw [q2, hs, List.append_assoc]
        show _ = n ++ (_ :: (_ ++ wire L))
        rw [hx]; rfl
      · rcases List.mem_cons.1 hy with rfl | hy
        · intro e; rw [e] at hx; simp only [List.length_nil] at hx; omega
        · exact q3 y hy
theorem wire_not2 {L : List (List Nat)} (h : ∀ x ∈ L, x ≠ []) : (wire L).length ≠ 2 := by
  cases L with
  | nil => decide
  | cons x L =>
    have hx := List.length_pos_iff.2 (h x (List.mem_cons_self ..))
    have := wire_pos L
    show (x ++ wire L).length + 1 ≠ 2
    rw [List.length_append]
    omega
/-- where as many bytes are gone as the name has, it stands there as it is: and so much of the message does -/
theorem rd_here {l m : List Nat} : ∀ (f at_ ah : Nat) (n : List Nat) (v : RdV), rd (l ++ m) f at_ ah 0 n = some v → v.2.2 = 0 → l.length = v.2.1 → v.2.1 + n.length = at_ + v.1.length → rd l f at_ ah 0 n = some v
  | 0, at_, ah, n, v, hr, hv, hl2, he => by cases hr
  | f + 1, at_, ah, n, v, hr, hv, hl2, he => by
    have hl : (l ++ m).length = l.length + m.length := List.length_append ..
    have hr0 := hr
    unfold rd at hr
    split at hr
    · cases hr; cases hv
    rename_i h1
    split at hr
    · rename_i h2
      cases hr
      have hl3 : l.length = at_ + 1 := hl2
      have g0 := getD_app (m := m) (show at_ < l.length by omega)
      unfold rd
      rw [if_neg (by omega), if_pos (by rw [← g0]; exact h2)]
    rename_i h2
    split at hr
    · split at hr
      · cases hr; cases hv
      split at hr
      · cases hr; cases hv
      · try rw [if_pos rfl] at hr
        obtain ⟨q1, L, q2, q3⟩ := rd_tail _ _ _ _ _ _ hr hv (by omega)
        have := wire_not2 q3
        rw [q2, List.length_append] at he
        omega
    rename_i h3
    split at hr
    · cases hr; cases hv
    rename_i h4
    split at hr
    · cases hr; cases hv
    rename_i h5
    split at hr
    · cases hr; cases hv
    · rename_i h6
      have hs := seg_length (l := l ++ m) (a := at_) (k := 1 + (l ++ m).getD at_ 0) (by omega)
      have K := rd_here f _ _ _ _ hr hv hl2 (by rw [List.length_append, hs]; omega)
      -- the label stands in what is left
      have hle : at_ + 1 + (l ++ m).getD at_ 0 < l.length ∨ l.length ≤ at_ + 1 + (l ++ m).getD at_ 0 := by omega
      rcases hle with hle | hle
      · have g0 := getD_app (m := m) (show at_ < l.length by omega)
        rw [g0] at h2 h3 h4 h5 h6 hle K
        unfold rd
        rw [if_neg (by omega), if_neg h2, if_neg h3, if_neg h4, if_neg (by omega), if_neg h6, ← seg_app (m := m) (by omega)]
        exact K
      · exfalso
        cases f with
        | zero => cases K
        | succ f =>
          unfold rd at K
          rw [if_pos hle] at K
          have K := Option.some.inj K
          rw [← K] at hv
          cases hv

end Go.Proofs.Ythghohgjedjpbaa
