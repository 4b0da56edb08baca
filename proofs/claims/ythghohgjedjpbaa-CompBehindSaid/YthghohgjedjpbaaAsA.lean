/-
  What is read is a name.
-/
import Derived.Test.YthghohgjedjpbaaRdA
import Derived.Test.YthghohgjedjpbaaMyA
namespace Go.Proofs.Ythghohgjedjpbaa
open Go.RowKit
set_option linter.unusedVariables false
set_option linter.unusedSimpArgs false
set_option maxRecDepth 100000
/-! what is read is a name -/
def encL : List (List Nat) → List Nat
  | [] => []
  | x :: L => x.length :: (x ++ encL L)
theorem encL_app : ∀ K L : List (List Nat), encL (K ++ L) = encL K ++ encL L
  | [], L => rfl
  | x :: K, L => by
    show x.length :: (x ++ encL (K ++ L)) = x.length :: (x ++ encL K) ++ encL L
    rw [encL_app K L, List.cons_append, List.append_assoc]
theorem wire_encL : ∀ L : List (List Nat), wire L = encL L ++ [0]
  | [] => rfl
  | x :: L => by
    show x.length :: (x ++ wire L) = x.length :: (x ++ encL L) ++ [0]
    rw [wire_encL L, List.cons_append, List.append_assoc]
theorem getD_drop' {l : List Nat} {i : Nat} (h : i < l.length) : l.drop i = l.getD i 0 :: l.drop (i + 1) := getD_drop h
theorem seg_cons {l : List Nat} {a k : Nat} (h : a < l.length) : seg l a (1 + k) = l.getD a 0 :: (l.drop (a + 1)).take k := by
  unfold seg
  rw [getD_drop h, Nat.add_comm, List.take_succ_cons]
theorem rd_name {l : List Nat} : ∀ (f at_ ah nx : Nat) (K : List (List Nat)) (v : RdV), rd l f at_ ah nx (encL K) = some v → LabOk K → (encL K).length + 1 ≤ 255 → v.2.2 = 0 → (∃ L, v.1 = wire L ∧ LabOk L ∧ (wire L).length ≤ 255) ∧ (if nx = 0 then at_ < v.2.1 ∧ v.2.1 ≤ l.length else v.2.1 = nx)
  | 0, at_, ah, nx, K, v, hr, _, _, _ => by cases hr
  | f + 1, at_, ah, nx, K, v, hr, hK, hn, hv => by
    unfold rd at hr
    split at hr
    · cases hr; cases hv
    rename_i h1
    split at hr
    · cases hr
      refine ⟨⟨K, (wire_encL K).symm, hK, by rw [wire_encL, List.length_append]; exact hn⟩, ?_⟩
      by_cases h : nx = 0
      · rw [if_pos h]; show at_ < (if nx = 0 then _ else _) ∧ (if nx = 0 then _ else _) ≤ _; rw [if_pos h]; omega
      · rw [if_neg h]; show (if nx = 0 then _ else _) = _; rw [if_neg h]
    rename_i h2
    split at hr
    · split at hr
      · cases hr; cases hv
      split at hr
      · cases hr; cases hv
      · rename_i h192 h3 h4
        obtain ⟨q1, q2⟩ := rd_name f _ _ _ K v hr hK hn hv
        refine ⟨q1, ?_⟩
        by_cases h : nx = 0
        · rw [if_pos h] at q2 ⊢
          rw [if_neg (by omega)] at q2
          omega
        · rw [if_neg h] at q2 ⊢
          rw [if_neg h] at q2
          exact q2
    rename_i h192
    split at hr
    · cases hr; cases hv
    rename_i h64
    split at hr
    · cases hr; cases hv
    rename_i h5
    split at hr
    · cases hr; cases hv
    · rename_i h6
      have hs := seg_cons (l := l) (a := at_) (k := l.getD at_ 0) (by omega)
      have hx : ((l.drop (at_ + 1)).take (l.getD at_ 0)).length = l.getD at_ 0 := by rw [List.length_take, List.length_drop]; omega
      have he : encL K ++ seg l at_ (1 + l.getD at_ 0) = encL (K ++ [(l.drop (at_ + 1)).take (l.getD at_ 0)]) := by
        rw [encL_app, hs]
        show _ = encL K ++ (((l.drop (at_ + 1)).take (l.getD at_ 0)).length :: (((l.drop (at_ + 1)).take (l.getD at_ 0)) ++ []))
        rw [hx, List.append_nil]
      have hlen : (encL (K ++ [(l.drop (at_ + 1)).take (l.getD at_ 0)])).length = (encL K).length + (1 + l.getD at_ 0) := by
        rw [← he, List.length_append, hs, List.length_cons, hx]; omega
      rw [he] at hr
      obtain ⟨q1, q2⟩ := rd_name f _ _ _ _ v hr (fun y hy => by
        rcases List.mem_append.1 hy with hy | hy
        · exact hK y hy
        · obtain rfl := List.mem_singleton.1 hy
          rw [hx]; omega) (by omega) hv
      refine ⟨q1, ?_⟩
      by_cases h : nx = 0
      · rw [if_pos h] at q2 ⊢; omega
      · rw [if_neg h] at q2 ⊢; exact q2
/-- a name that stands there is read as it is -/
theorem rd_wire {l a b : List Nat} : ∀ (L K : List (List Nat)) (f at_ ah : Nat), l = a ++ wire (K ++ L) ++ b → at_ = a.length + (encL K).length → LabOk (K ++ L) → (wire (K ++ L)).length ≤ 255 → L.length < f → rd l f at_ ah 0 (encL K) = some (wire (K ++ L), a.length + (wire (K ++ L)).length, 0)
  | [], K, f + 1, at_, ah, hl, ha, ho, hn, hf => by
    rw [List.append_nil] at *
    have e : l = (a ++ encL K) ++ (0 :: b) := by rw [hl, wire_encL, List.append_assoc, List.append_assoc, List.append_assoc]; rfl
    have hlt : at_ < l.length := by rw [e, List.length_append, List.length_append, List.length_cons]; omega
    have h0 : l.getD at_ 0 = 0 := by
      rw [e, List.getD_eq_getElem?_getD, List.getElem?_append_right (by rw [List.length_append]; omega), List.length_append, show at_ - (a.length + (encL K).length) = 0 by omega]; rfl
    unfold rd
    rw [if_neg (by omega), if_pos h0, if_pos rfl, wire_encL, List.length_append, ha]
    simp only [List.length_cons, List.length_nil]
    rfl
  | x :: L, K, f + 1, at_, ah, hl, ha, ho, hn, hf => by
    have e : l = (a ++ encL K) ++ (x.length :: (x ++ (wire L ++ b))) := by
      rw [hl, wire_encL, encL_app, wire_encL L]
      show a ++ (encL K ++ (x.length :: (x ++ encL L)) ++ [0]) ++ b = _
      simp only [List.append_assoc, List.cons_append]
    have hlen : l.length = a.length + (encL K).length + (1 + x.length + ((wire L).length + b.length)) := by rw [e]; simp only [List.length_append, List.length_cons]; omega
    have hwl := wire_pos L
    have hx := ho x (List.mem_append_right _ (List.mem_cons_self ..))
    have h0 : l.getD at_ 0 = x.length := by
      rw [e, List.getD_eq_getElem?_getD, List.getElem?_append_right (by rw [List.length_append]; omega), List.length_append, show at_ - (a.length + (encL K).length) = 0 by omega]; rfl
    have hd : (l.drop (at_ + 1)).take x.length = x := by
      have : l.drop (at_ + 1) = x ++ (wire L ++ b) := by
        rw [e, show at_ + 1 = (a ++ encL K).length + 1 by rw [List.length_append]; omega, ← List.drop_drop, List.drop_left]
        rfl
      rw [this, List.take_left]
    have hs := seg_cons (l := l) (a := at_) (k := x.length) (by omega)
    rw [h0, hd] at hs
    have hwk : (wire (K ++ x :: L)).length = (encL K).length + (1 + x.length + (wire L).length) := by
      rw [wire_encL, encL_app, wire_encL L]
      show (encL K ++ (x.length :: (x ++ encL L)) ++ [0]).length = _
      simp only [List.length_append, List.length_cons, List.length_nil]; omega
    unfold rd
    rw [h0, if_neg (by omega), if_neg (by omega), if_neg (by omega), if_neg (by omega), if_neg (by omega), if_neg (by omega), hs]
    have he : encL K ++ (x.length :: x) = encL (K ++ [x]) := by
      rw [encL_app]
      show _ = encL K ++ (x.length :: (x ++ []))
      rw [List.append_nil]
    have ek : K ++ x :: L = (K ++ [x]) ++ L := by rw [List.append_assoc]; rfl
    rw [he, ek]
    exact rd_wire L (K ++ [x]) f _ ah (by rw [← ek]; exact hl) (by rw [← he, List.length_append, List.length_cons]; omega) (by rw [← ek]; exact ho) (by rw [← ek]; exact hn) (by simp only [List.length_cons] at hf; omega)
theorem rdV_name {l : List Nat} {a : Int} (h : (rdV l a).2.2 = 0) : mayB (rdV l a).1 = true ∧ a < ((rdV l a).2.1 : Int) ∧ ((rdV l a).2.1 : Int) ≤ l.length := by
  by_cases h0 : 0 ≤ a ∧ a ≤ l.length
  · obtain ⟨m, rfl⟩ := Int.eq_ofNat_of_zero_le h0.1
    have hg := rdV_go (l := l) (a := m) (by omega)
    obtain ⟨⟨L, q1, q2, q3⟩, q4⟩ := rd_name _ _ _ _ [] _ hg (fun _ hx => by cases hx) (by decide) h
    rw [if_pos rfl] at q4
    have q1 : (rdV l (m : Int)).1 = wire L := q1
    refine ⟨?_, by have := q4.1; exact Int.ofNat_lt.2 this, by have := q4.2; exact Int.ofNat_le.2 this⟩
    rw [q1]
    unfold mayB
    rw [decide_eq_true q3, labs_wire q2]; rfl
  · unfold rdV at h
    rw [if_neg h0] at h
    cases h
theorem rdV_wire {a n b : List Nat} (h : mayB n = true) : rdV (a ++ n ++ b) (a.length : Nat) = (n, a.length + n.length, 0) := by
  obtain ⟨L, rfl, oL, hL⟩ := mayB_iff.1 h
  have hlt : a.length ≤ (a ++ wire L ++ b).length := by simp only [List.length_append]; omega
  have hg := rdV_go (l := a ++ wire L ++ b) (a := a.length) hlt
  have hm : L.length ≤ 255 := by
    have : ∀ M : List (List Nat), M.length ≤ (wire M).length := fun M => by
      induction M with
      | nil => exact Nat.zero_le _
      | cons x M ih => show M.length + 1 ≤ (x ++ wire M).length + 1; rw [List.length_append]; omega
    exact Nat.le_trans (this L) hL
  have := rd_wire (l := a ++ wire L ++ b) (a := a) (b := b) L [] (a.length + 258) a.length a.length rfl rfl oL hL (by omega)
  have hg : rd (a ++ wire L ++ b) (a.length + 258) a.length a.length 0 (encL []) = _ := hg
  rw [this] at hg
  exact (Option.some.inj hg).symm
theorem rd_b8 {l : List Nat} (hB : Clu.B8 l) : ∀ (f at_ ah nx : Nat) (n : List Nat) (v : RdV), rd l f at_ ah nx n = some v → Clu.B8 n → Clu.B8 v.1
  | 0, at_, ah, nx, n, v, hr, hn => by cases hr
  | f + 1, at_, ah, nx, n, v, hr, hn => by
    unfold rd at hr
    split at hr
    · cases hr; exact Clu.B8.nil
    split at hr
    · cases hr; exact hn.app (fun c hc => by obtain rfl := List.mem_singleton.1 hc; decide)
    split at hr
    · split at hr
      · cases hr; exact Clu.B8.nil
      split at hr
      · cases hr; exact Clu.B8.nil
      · exact rd_b8 hB f _ _ _ _ _ hr hn
    split at hr
    · cases hr; exact Clu.B8.nil
    split at hr
    · cases hr; exact Clu.B8.nil
    split at hr
    · cases hr; exact Clu.B8.nil
    · exact rd_b8 hB f _ _ _ _ _ hr (hn.app (seg_b8 hB _ _))
theorem rdV_b8 {l : List Nat} (hB : Clu.B8 l) (a : Int) : Clu.B8 (rdV l a).1 := by
  by_cases h0 : 0 ≤ a ∧ a ≤ l.length
  · obtain ⟨m, rfl⟩ := Int.eq_ofNat_of_zero_le h0.1
    exact rd_b8 hB _ _ _ _ [] _ (rdV_go (l := l) (a := m) (by omega)) Clu.B8.nil
  · unfold rdV
    rw [if_neg h0]
    exact Clu.B8.nil

end Go.Proofs.Ythghohgjedjpbaa
